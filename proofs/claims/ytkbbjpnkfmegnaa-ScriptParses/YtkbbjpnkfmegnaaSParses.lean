/-
  ScriptParses answers true for every input; no condition of ours.
-/
import Derived.Test.YtkbbjpnkfmegnaaRParse
namespace Go.Proofs.Ytkbbjpnkfmegnaa.scriptParses
open Go.RowKit Go.Deep
theorem walk (l : List Int) (c : Int) (w : World) (hb : Bytes8 l) (_hs : l.length ≤ 9223372036854775807) (_hc : I64 c) :
    Calls Try.prog 3 #[.string (strOfNums l), .int .i64 c] w fun e w' => e = .returned (.bool true) ∧ Below w.heap.size w w' := by
  have hcut := run_cut_str Try.prog 9 Try.underlying9 (strOfNums l) .i64
  have hz := strOfNums_size l
  go_enter Try.func3, Try.ntmps3
  go_wp2_with fail
  all_goals clear hcut hz
  all_goals rw [str_extract]
  all_goals simp only [List.drop_zero, Nat.sub_zero]
  all_goals try rw [show List.take l.length l = List.take 400 l by rw [List.take_of_length_le (Nat.le_refl _), List.take_of_length_le (by omega)]]
  all_goals generalize hl' : l.take 400 = l'
  all_goals have hb' : Bytes8 l' := hl' ▸ hb.take _
  all_goals have hn' : l'.length ≤ 400 := by rw [← hl']; simp; omega
  all_goals clear hb _hs hl'
  all_goals refine (fixed_any w).mono ?_
  all_goals rintro e w1 ⟨rfl, b1⟩
  all_goals go_wp2_with fail
  all_goals refine (parse_at _ l' c rfl hb' (by omega) w1).mono ?_
  all_goals rintro e w2 ⟨ao2, cap2, rfl, t2, _, b2⟩
  all_goals have b3 := Below.then b1 b2 b1.size
  all_goals clear b1 b2
  all_goals go_wp2_with fail
  all_goals refine (rparse_any l' c hb' (by omega) w2).mono ?_
  all_goals rintro e w4 ⟨ao4, cap4, rfl, t4, b4⟩
  all_goals have b5 := Below.then b3 b4 b3.size
  all_goals have t5 := t2.below b4
  all_goals clear b3 b4 t2
  all_goals have hpl : (pick c (items l')).length ≤ 1000000 := by have := pick_len c (items l'); have := items_len l'; omega
  all_goals generalize pick c (items l') = L at *
  all_goals go_wp2_with fail
  all_goals refine (same_at _ _ L _ _ _ _ w4 rfl rfl t5 t4 hpl).mono ?_
  all_goals rintro e w6 ⟨rfl, b6⟩
  all_goals have b7 := Below.then b5 b6 b5.size
  all_goals clear b5 b6 t4 t5
  all_goals go_wp2
  all_goals go_ret
  all_goals exact ⟨rfl, b7⟩
open Go.ChangeShapes Go.WideShapes Go.ChangeAt Go.RowKit Go.Joins

/-! ### From the walk to the statement -/
set_option maxRecDepth 100000 in
theorem lifted (os : Os) (started : os.Started) (H : Type) (enc : TypeId × Value → H) :
    ReturnsInHanded {} Try.checked os 3 .any (Rows.scriptParsesSpec.pre6 enc Try.prog Try.f3 Rows.scriptParsesRow.domain false) (Rows.scriptParsesSpec.post enc Try.prog Try.f3 false true false false) := by
  refine returnsInHanded_of_change (C := Try.checked) own started (by kernel_rfl) Try.func3
    (ChangeSpec.witness6 (enc := enc) (C := Try.checked) false ⟨#[], #[.string ⟨#[]⟩, .int .i64 0], []⟩ 8 (by kernel_rfl) (by kernel_rfl) (by kernel_rfl) (by kernel_rfl)) ?_
  intro W base args ds gs before hval0 hW hcnd _
  have hval : ∀ (j : Nat) t v, Try.f3.params[j]? = some t → args[j]? = some v → Value.okWide Try.prog W .any base t v := hval0
  have hW' := hW
  obtain ⟨p, q, hA0, hV, rfl, hfz, hnd⟩ := hW
  have hA : DataW.TrodAll enc Try.prog W 0 (fun _ => true) true Try.f3.params.toList args.toList ds p := hA0
  rw [Try.params3] at hA hval
  obtain ⟨v0, vs0, d0, ds0, p0, q0, hargs, rfl, rfl, h0, r0⟩ := trodAll_cons hA
  obtain ⟨v1, vs1, d1, ds1, p1, q1, rfl, rfl, rfl, h1, r1⟩ := trodAll_cons r0
  obtain ⟨rfl, rfl, rfl⟩ := trodAll_nil r1
  obtain rfl : args = #[v0, v1] := by cases args; simp_all
  obtain ⟨rfl, rfl⟩ := trodVars_none hV
  have k0 := h0
  have lt0 : ∀ x ∈ p0, x.block < W.heap.size := by obtain ⟨m, hm⟩ := k0; exact DataW.trod_lt m _ _ _ hm
  obtain ⟨a0, rfl, b0, s0⟩ := open_str (hval 0 9 v0 rfl rfl) h0
  have k1 := h1
  have lt1 : ∀ x ∈ p1, x.block < W.heap.size := by obtain ⟨m, hm⟩ := k1; exact DataW.trod_lt m _ _ _ hm
  obtain ⟨a1, rfl, _, _, w1⟩ := open_int Try.underlying3 (hval 1 3 v1 rfl rfl) h1
  clear hA0 hval0
  refine (walk a0 a1 W b0 s0 (bounds_i64 w1)).mono fun e W' ⟨he, bel⟩ => ?_
  subst he
  exact ⟨_, rfl, _, _, _, [], _, [], hW', trodAll_mk1 (shut_bool Try.underlying4 _), (trodAll_cons_mk (Below.trod laidOut (by kernel_rfl) (of_decide_eq_true (by kernel_rfl)) k0 bel lt0) (trodAll_cons_mk (Below.trod laidOut (by kernel_rfl) (of_decide_eq_true (by kernel_rfl)) k1 bel lt1) trodAll_mk0)), rfl, bel.frame _, fun h => by cases h⟩
theorem over : Rows.scriptParsesRow.holds Try.pinned (OpenSpec.ofChange Rows.scriptParsesSpec) :=
  OpenClaim.holds_of_wide 3 Try.f3 rfl rfl rfl rfl rfl rfl rfl ⟨rfl, rfl, rfl, rfl, rfl⟩ rfl rfl rfl rfl rfl (by kernel_rfl) Try.func3 (by kernel_rfl)
    (of_decide_eq_true (by kernel_rfl)) (by unfold Func.isWrapper; first | (rw [if_pos (by decide +kernel)]; kernel_rfl) | (rw [if_neg (by decide +kernel)]; exact ⟨rfl, rfl⟩))
    (fun os started H enc _ => lifted os started H enc)
end Go.Proofs.Ytkbbjpnkfmegnaa.scriptParses
namespace Go.Proofs.Ytkbbjpnkfmegnaa
/-- THE STATEMENT. -/
theorem scriptParses_said : Rows.ScriptParsesSaid := scriptParses.over
#print axioms scriptParses_said
end Go.Proofs.Ytkbbjpnkfmegnaa

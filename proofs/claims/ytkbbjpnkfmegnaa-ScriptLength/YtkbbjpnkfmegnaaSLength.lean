/-
  ScriptLength answers true for every input; no condition of ours.
-/
import Derived.Test.YtkbbjpnkfmegnaaSLaw
namespace Go.Proofs.Ytkbbjpnkfmegnaa.scriptLength
open Go.RowKit Go.Deep
theorem walk (l : List Int) (c : Int) (w : World) (hb : Bytes8 l) (_hs : l.length ≤ 9223372036854775807) (_hc : I64 c) :
    Calls Try.prog 7 #[.string (strOfNums l), .int .i64 c] w fun e w' => e = .returned (.bool true) ∧ Below w.heap.size w w' := by
  have hcut := run_cut_str Try.prog 9 Try.underlying9 (strOfNums l) .i64
  have hz := strOfNums_size l
  go_enter Try.func7, Try.ntmps7
  go_wp2_with fail
  all_goals clear hcut hz
  all_goals rw [str_extract]
  all_goals simp only [List.drop_zero, Nat.sub_zero]
  all_goals try rw [show List.take l.length l = List.take 400 l by rw [List.take_of_length_le (Nat.le_refl _), List.take_of_length_le (by omega)]]
  all_goals generalize hl' : l.take 400 = l'
  all_goals have hb' : Bytes8 l' := hl' ▸ hb.take _
  all_goals have hn' : l'.length ≤ 400 := by rw [← hl']; simp; omega
  all_goals clear hb _hs hl'
  all_goals refine (parse_at _ l' c rfl hb' (by omega) w).mono ?_
  all_goals rintro e w1 ⟨ao, cap, rfl, t1, z1, b1⟩
  all_goals obtain ⟨L, HL⟩ : ∃ L, Hid (pick c (items l') = L) := ⟨_, rfl⟩
  all_goals rw [HL.out] at t1 ⊢
  all_goals have hp1 : pick c L = L := by rw [← HL.out]; exact pick_pick _ _
  all_goals have hp2 : L.length ≤ l'.length / 4 := by rw [← HL.out, ← items_len]; exact pick_len _ _
  all_goals have hp3 : ∀ x ∈ L, rightB c x = true := fun x hx => by rw [← HL.out] at hx; exact (List.mem_filter.1 hx).2
  all_goals go_wp2_with fail
  all_goals (
    refine (print_at ao _ cap L c rfl (by omega) w1 t1).mono ?_
    rintro e w2 ⟨rfl, b2⟩
    rw [hp1]
    have t2 := t1.below b2
    have b3 := Below.then b1 b2 b1.size
    clear t1 b1 b2
    have HP : Hid (∀ x ∈ L, rightB c x = true) := hp3
    have HT : Hid (ToldI w2 ao L) := t2
    have hfl := flat_len L
    have hz2 := strOfNums_size (flat L)
    generalize strOfNums (flat L) = sp at *
    rw [hfl] at hz2
    clear hfl hp3 t2
    generalize hn : L.length = n at *
    have HN : Hid (L.length = n) := hn
    clear hn
    go_wp2
    go_loopw [7] (fun i wr => ∃ k : Nat, k ≤ n ∧ i = .int .i64 k ∧ Below w2.heap.size w2 wr) (fun i _ => n - (intOf i).toNat)
    case atStart => exact ⟨0, Nat.zero_le _, rfl, Below.refl _ _⟩
    case round =>
      obtain ⟨k, hk, rfl, br⟩ := hrel
      by_cases hkn : k < n
      · obtain ⟨x, hx⟩ : ∃ x, L[k]? = some x := ⟨_, List.getElem?_eq_getElem (by have := HN.out; omega)⟩
        obtain ⟨b, o, rfl, hb, hc⟩ : ∃ b o, ao = some ⟨b, o, none⟩ ∧ b < wr.heap.size ∧ _ := (HT.out.below br).resolve_left (by intro h; rw [h] at hx; simp at hx)
        obtain ⟨c0, c1, c2, c3⟩ := hc k x hx
        have hki : (k : Int) < (n : Int) := by omega
        clear hc
        go_wp2_with fail
        refine (right_any x c wr).mono ?_
        rintro e w4 ⟨rfl, rfl⟩
        rw [HP.out x (List.mem_of_getElem? hx)]
        have b4 := Below.then br (below_new wr (objI x)) br.size
        generalize wr.alloc (objI x) = w4 at *
        go_wp2
        go_roundw
        case rel => exact ⟨k + 1, by omega, by go_num, b4⟩
        case measure => simp [intOf]; omega
      · have hk4 : k = n := by omega
        subst hk4
        have hz := strOfNums_size l'
        obtain ⟨q, hq⟩ : ∃ q, l'.length / 4 = q := ⟨_, rfl⟩
        rw [hq] at hp2
        have HQ : Hid (l'.length / 4 = q) := hq
        have hq1 : wrap64 ((l'.length : Int) / 4) = (q : Int) := by unfold wrap64; omega
        have hq2 : wrap64 ((q : Int) * 4) = (q : Int) * 4 := by unfold wrap64; omega
        have hq3 : (q : Int) * 4 ≤ (l'.length : Int) := by omega
        have hq4 : (k : Int) ≤ (q : Int) := by omega
        have hq5 : ((q : Int) * 4).toNat = q * 4 := by omega
        clear hq
        go_wp2_with fail
        refine (parse_at _ (l'.take (l'.length / 4 * 4)) c (by rw [str_extract]; simp) (hb'.take _) (by simp; omega) wr).mono ?_
        rintro e w4 ⟨ao4, cap4, rfl, t4, _, b4⟩
        rw [items_cut, HL.out] at t4 ⊢
        have t5 := (HT.out.below br).below b4
        have b5 := Below.then (Below.then b3 br b3.size) b4 (by have := b3.size; have := br.size; omega)
        clear br b4 b3 hq1 hq2 hq3 hq4 hq5 hz hz2
        rw [HN.out]
        go_wp2_with fail
        refine (same_at _ _ L _ _ _ _ w4 HN.out.symm HN.out.symm t4 t5 (by have := HN.out; have := HQ.out; omega)).mono ?_
        rintro e w5 ⟨rfl, b6⟩
        have b7 := Below.then b5 b6 b5.size
        clear b5 b6 t4 t5
        go_wp2_with fail
        refine (fixed_any w5).mono ?_
        rintro e w6 ⟨rfl, b8⟩
        have b9 := Below.then b7 b8 b7.size
        clear b7 b8
        go_wp2
        go_ret
        exact ⟨rfl, b9⟩
    )
open Go.ChangeShapes Go.WideShapes Go.ChangeAt Go.RowKit Go.Joins

/-! ### From the walk to the statement -/
set_option maxRecDepth 100000 in
theorem lifted (os : Os) (started : os.Started) (H : Type) (enc : TypeId × Value → H) :
    ReturnsInHanded {} Try.checked os 7 .any (Rows.scriptLengthSpec.pre6 enc Try.prog Try.f7 Rows.scriptLengthRow.domain false) (Rows.scriptLengthSpec.post enc Try.prog Try.f7 false true false false) := by
  refine returnsInHanded_of_change (C := Try.checked) own started (by kernel_rfl) Try.func7
    (ChangeSpec.witness6 (enc := enc) (C := Try.checked) false ⟨#[], #[.string ⟨#[]⟩, .int .i64 0], []⟩ 8 (by kernel_rfl) (by kernel_rfl) (by kernel_rfl) (by kernel_rfl)) ?_
  intro W base args ds gs before hval0 hW hcnd _
  have hval : ∀ (j : Nat) t v, Try.f7.params[j]? = some t → args[j]? = some v → Value.okWide Try.prog W .any base t v := hval0
  have hW' := hW
  obtain ⟨p, q, hA0, hV, rfl, hfz, hnd⟩ := hW
  have hA : DataW.TrodAll enc Try.prog W 0 (fun _ => true) true Try.f7.params.toList args.toList ds p := hA0
  rw [Try.params7] at hA hval
  obtain ⟨v0, vs0, d0, ds0, p0, q0, hargs, rfl, rfl, h0, r0⟩ := trodAll_cons hA
  obtain ⟨v1, vs1, d1, ds1, p1, q1, rfl, rfl, rfl, h1, r1⟩ := trodAll_cons r0
  obtain ⟨rfl, rfl, rfl⟩ := trodAll_nil r1
  obtain rfl : args = #[v0, v1] := by cases args; simp_all
  obtain ⟨rfl, rfl⟩ := trodVars_none hV
  have k0 := h0
  have lt0 : ∀ x ∈ p0, x.block < W.heap.size := by obtain ⟨m, hm⟩ := k0; exact DataW.trod_lt m _ _ _ hm
  obtain ⟨a0, rfl, b0, s0⟩ := open_str (hval 0 9 v0 rfl rfl) h0
  have k1 := h1
  have lt1 : ∀ x ∈ p1, x.block < W.heap.size := by obtain ⟨m, hm⟩ := k1; exact DataW.trod_lt m _ _ _ hm
  obtain ⟨a1, rfl, _, _, w1⟩ := open_int Try.underlying3 (hval 1 3 v1 rfl rfl) h1
  clear hA0 hval0
  refine (walk a0 a1 W b0 s0 (bounds_i64 w1)).mono fun e W' ⟨he, bel⟩ => ?_
  subst he
  exact ⟨_, rfl, _, _, _, [], _, [], hW', trodAll_mk1 (shut_bool Try.underlying4 _), (trodAll_cons_mk (Below.trod laidOut (by kernel_rfl) (of_decide_eq_true (by kernel_rfl)) k0 bel lt0) (trodAll_cons_mk (Below.trod laidOut (by kernel_rfl) (of_decide_eq_true (by kernel_rfl)) k1 bel lt1) trodAll_mk0)), rfl, bel.frame _, fun h => by cases h⟩
theorem over : Rows.scriptLengthRow.holds Try.pinned (OpenSpec.ofChange Rows.scriptLengthSpec) :=
  OpenClaim.holds_of_wide 7 Try.f7 rfl rfl rfl rfl rfl rfl rfl ⟨rfl, rfl, rfl, rfl, rfl⟩ rfl rfl rfl rfl rfl (by kernel_rfl) Try.func7 (by kernel_rfl)
    (of_decide_eq_true (by kernel_rfl)) (by unfold Func.isWrapper; first | (rw [if_pos (by decide +kernel)]; kernel_rfl) | (rw [if_neg (by decide +kernel)]; exact ⟨rfl, rfl⟩))
    (fun os started H enc _ => lifted os started H enc)
end Go.Proofs.Ytkbbjpnkfmegnaa.scriptLength
namespace Go.Proofs.Ytkbbjpnkfmegnaa
/-- THE STATEMENT. -/
theorem scriptLength_said : Rows.ScriptLengthSaid := scriptLength.over
#print axioms scriptLength_said
end Go.Proofs.Ytkbbjpnkfmegnaa

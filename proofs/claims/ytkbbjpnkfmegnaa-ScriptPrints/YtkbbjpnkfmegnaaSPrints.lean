/-
  ScriptPrints answers true for every input; no condition of ours.
-/
import Derived.Test.YtkbbjpnkfmegnaaRPrint
import Derived.Test.YtkbbjpnkfmegnaaSCut
import Derived.Deep.RegionHeld3
namespace Go.Proofs.Ytkbbjpnkfmegnaa.scriptPrints
open Go.RowKit Go.Deep
/-- What calls that make memory alone leave of an item and of what lay. -/
theorem got_more {W0 W W' : World} {r b j : Nat} {x : It} (h : W.cell? ⟨b, j, none⟩ = some (.int .i64 x.k) ∧ W.cell? ⟨b, j + 1, none⟩ = some (.int .i64 x.c) ∧ W.cell? ⟨b, j + 2, none⟩ = some (.int .i64 x.a) ∧ W.cell? ⟨b, j + 3, none⟩ = some (.int .i64 x.b) ∧ (b < r ∧ r ≤ W.heap.size ∧ Below r W0 W))
    (u : Below W.heap.size W W') : W'.cell? ⟨b, j, none⟩ = some (.int .i64 x.k) ∧ W'.cell? ⟨b, j + 1, none⟩ = some (.int .i64 x.c) ∧ W'.cell? ⟨b, j + 2, none⟩ = some (.int .i64 x.a) ∧ W'.cell? ⟨b, j + 3, none⟩ = some (.int .i64 x.b) ∧ (b < r ∧ r ≤ W'.heap.size ∧ Below r W0 W') := by
  obtain ⟨h0, h1, h2, h3, h4, h5, h6⟩ := h
  have hb : b < W.heap.size := by omega
  exact ⟨(u.cell (p := ⟨b, j, none⟩) hb).trans h0, (u.cell (p := ⟨b, j + 1, none⟩) hb).trans h1, (u.cell (p := ⟨b, j + 2, none⟩) hb).trans h2, (u.cell (p := ⟨b, j + 3, none⟩) hb).trans h3, h4, Nat.le_trans h5 u.size, Below.then h6 u h5⟩
theorem walk (ao : Option Addr) (L : List It) (cap : Nat) (c : Int) (w : World) (hT : ToldI w ao L) (_hl : L.length ≤ 9223372036854775807) (hu : L.length ≤ cap) (hz : ao = none → cap = 0) (_hy : cap ≤ 9223372036854775807) (_hc : I64 c) :
    Calls Try.prog 4 #[.slice ao L.length cap, .int .i64 c] w fun e w' => e = .returned (.bool true) ∧ Below w.heap.size w w' := by
  have hcut := run_cut_items ao L.length cap .i64
  obtain ⟨L', hL', hT', hl', hc'⟩ : ∃ L' : List It, L.take 100 = L' ∧ ToldI w ao L' ∧ L'.length ≤ 100 ∧ L'.length ≤ cap := ⟨_, rfl, hT.take 100, by simp; omega, by simp; omega⟩
  have b2 := below_new w (.cells #[] 29)
  obtain ⟨v3, w3, hrun3, ho3, hg3⟩ := append_items w.heap.size (w.alloc (.cells #[] 29)) 24 (.slice (some ⟨w.heap.size, 0, none⟩) 0 0) [] L' ao cap (ownI_new _ _ (Nat.le_refl _)) (hT'.below b2) hz (by simp; omega) (by simp)
  have b3 : Below w.heap.size w w3 := b2.grown hg3 (by simp) (fun j ej => by simp [Value.ownBlock] at ej; omega)
  rw [List.nil_append] at ho3
  obtain ⟨ao3, cap3, rfl, tw3, _, _⟩ := ho3.told
  have t3 := hT'.below b3
  have H3 : Hid _ := hrun3
  have HL : Hid (L'.length ≤ 100) := hl'
  clear hrun3 ho3 hg3 b2 hT hT'
  go_enter Try.func4, Try.ntmps4
  rcases Nat.lt_or_ge 100 L.length with hh | hh
  · have h1 : (100 : Int) < (L.length : Int) := by omega
    have hn : L'.length = 100 := by rw [← hL']; simp; omega
    have HN : Hid (L'.length = 100) := hn
    rw [hn] at H3
    clear hn hl' hc' hL'
    go_wp2_with (at_builtin; refine wpList_append_run rfl (.tmp 12) (.tmp 13) 24 rfl _ _ _ _ rfl rfl H3.out ?_)
    clear hcut H3 hz hu _hy _hl
    have HT : Hid (ToldI w3 ao L') := t3
    have HW : Hid (ToldI w3 ao3 L') := tw3
    clear t3 tw3
    obtain ⟨r, hr⟩ : ∃ r, w3.heap.size = r := ⟨_, rfl⟩
    have HR : Hid (w3.heap.size = r) := hr
    clear hr
    go_loopw [6] (fun i wr => ∃ k : Nat, k ≤ L'.length ∧ i = .int .i64 k ∧ Below r w3 wr ∧ r ≤ wr.heap.size) (fun i _ => L'.length - (intOf i).toNat)
    case atStart => exact ⟨0, Nat.zero_le _, rfl, Below.refl _ _, by have := HR.out; omega⟩
    case round =>
      obtain ⟨k, hk, rfl, br, hrw⟩ := hrel
      by_cases hkn : k < L'.length
      · obtain ⟨x, hx⟩ : ∃ x, L'[k]? = some x := ⟨_, List.getElem?_eq_getElem hkn⟩
        obtain ⟨b, o, rfl, hb, hc⟩ : ∃ b o, ao = some ⟨b, o, none⟩ ∧ b < w3.heap.size ∧ _ := HT.out.resolve_left (by intro h; rw [h] at hx; simp at hx)
        obtain ⟨q0, q1, q2, q3⟩ := hc k x hx
        have hb' : b < r := by have := HR.out; omega
        have hS : wr.cell? ⟨b, o + k * 4, none⟩ = some (.int .i64 x.k) ∧ wr.cell? ⟨b, o + k * 4 + 1, none⟩ = some (.int .i64 x.c) ∧ wr.cell? ⟨b, o + k * 4 + 2, none⟩ = some (.int .i64 x.a) ∧ wr.cell? ⟨b, o + k * 4 + 3, none⟩ = some (.int .i64 x.b) ∧ (b < r ∧ r ≤ wr.heap.size ∧ Below r w3 wr) :=
          ⟨(br.cell (p := ⟨b, o + k * 4, none⟩) hb').trans q0, (br.cell (p := ⟨b, o + k * 4 + 1, none⟩) hb').trans q1, (br.cell (p := ⟨b, o + k * 4 + 2, none⟩) hb').trans q2, (br.cell (p := ⟨b, o + k * 4 + 3, none⟩) hb').trans q3, hb', hrw, br⟩
        have hki : (k : Int) < 100 := by have := HN.out; omega
        have hki0 : (0 : Int) ≤ (k : Int) := by omega
        have HK : Hid (k < L'.length) := hkn
        clear hc hx q0 q1 q2 q3 hb hb' br hrw hk hkn
        go_wp2
        go_region_held3 (fun W => W.cell? ⟨b, o + k * 4, none⟩ = some (.int .i64 x.k) ∧ W.cell? ⟨b, o + k * 4 + 1, none⟩ = some (.int .i64 x.c) ∧ W.cell? ⟨b, o + k * 4 + 2, none⟩ = some (.int .i64 x.a) ∧ W.cell? ⟨b, o + k * 4 + 3, none⟩ = some (.int .i64 x.b) ∧ (b < r ∧ r ≤ W.heap.size ∧ Below r w3 W)) ((first | assumption | exact got_more (by assumption) (below_new _ _) | exact got_more (by assumption) ((Below.refl _ _).drew)))
          (first | (go_at_call 13; refine (right_any x c _).mono ?_; rintro e w' ⟨rfl, rfl⟩) | (go_at_call 14; refine (rright_any x c _).mono ?_; rintro e w' ⟨rfl, rfl⟩))
        all_goals rename_i hH
        all_goals have hB := hH.2.2.2.2.2.2
        all_goals have hB2 := hH.2.2.2.2.2.1
        all_goals clear hH hS
        generalize ((wr.alloc (objI x)).alloc (objI x)).drew = w4 at *
        have hwk : IntKind.i64.wrap ((k : Int) + 1) = (k : Int) + 1 := by have := HL.out; rw [IntKind.wrap_i64] <;> omega
        go_wp2
        go_roundw
        case rel => exact ⟨k + 1, by have := HK.out; omega, by go_num, hB, hB2⟩
        case measure => have := HK.out; simp [intOf]; omega
      · have hk4 : k = 100 := by have := HN.out; omega
        clear hk hkn
        subst hk4
        have br' : Below w3.heap.size w3 wr := by rw [HR.out]; exact br
        have t4 := HT.out.below br'
        have u4' := HW.out.below br'
        have y4 := Below.then b3 br' b3.size
        clear br br' b3 hrw
        generalize hsp : strOfNums (flat (pick c L')) = sp at *
        have HSP : Hid (strOfNums (flat (pick c L')) = sp) := hsp
        clear hsp
        go_wp2_with fail
        refine (print_at ao _ cap L' c HN.out.symm (by have := HL.out; omega) wr t4).mono ?_
        rintro e w5 ⟨rfl, b5⟩
        rw [HSP.out]
        have t5 := t4.below b5
        have u5 := u4'.below b5
        have y5 := Below.then y4 b5 y4.size
        clear t4 u4' y4 b5
        go_wp2_with fail
        rw [← HN.out]
        refine (rprint_any ao cap L' c HL.out w5 t5).mono ?_
        rintro e w6 ⟨rfl, b6⟩
        rw [HSP.out]
        have t6 := t5.below b6
        have u6 := u5.below b6
        have y6 := Below.then y5 b6 y5.size
        clear t5 u5 y5 b6
        go_wp2_with fail
        refine (same_at _ _ L' _ _ _ _ w6 (by first | rfl | exact HN.out.symm) (by first | rfl | exact HN.out.symm) t6 u6 (by have := HL.out; omega)).mono ?_
        rintro e w7 ⟨rfl, b7⟩
        have y7 := Below.then y6 b7 y6.size
        clear t6 u6 y6 b7
        go_wp2_with fail
        refine (fixed_any w7).mono ?_
        rintro e w8 ⟨rfl, b8⟩
        have y8 := Below.then y7 b8 y7.size
        clear y7 b8
        go_wp2
        go_ret
        exact ⟨rfl, y8⟩
  · have h1 : (L.length : Int) ≤ 100 := by omega
    have hn : L'.length = L.length := by rw [← hL']; simp; omega
    have HN : Hid (L'.length = L.length) := hn
    rw [hn] at H3
    clear hn hl' hc' hL'
    go_wp2_with (at_builtin; refine wpList_append_run rfl (.tmp 12) (.tmp 13) 24 rfl _ _ _ _ rfl rfl H3.out ?_)
    clear hcut H3 hz hu _hy _hl
    have HT : Hid (ToldI w3 ao L') := t3
    have HW : Hid (ToldI w3 ao3 L') := tw3
    clear t3 tw3
    obtain ⟨r, hr⟩ : ∃ r, w3.heap.size = r := ⟨_, rfl⟩
    have HR : Hid (w3.heap.size = r) := hr
    clear hr
    go_loopw [6] (fun i wr => ∃ k : Nat, k ≤ L'.length ∧ i = .int .i64 k ∧ Below r w3 wr ∧ r ≤ wr.heap.size) (fun i _ => L'.length - (intOf i).toNat)
    case atStart => exact ⟨0, Nat.zero_le _, rfl, Below.refl _ _, by have := HR.out; omega⟩
    case round =>
      obtain ⟨k, hk, rfl, br, hrw⟩ := hrel
      by_cases hkn : k < L'.length
      · obtain ⟨x, hx⟩ : ∃ x, L'[k]? = some x := ⟨_, List.getElem?_eq_getElem hkn⟩
        obtain ⟨b, o, rfl, hb, hc⟩ : ∃ b o, ao = some ⟨b, o, none⟩ ∧ b < w3.heap.size ∧ _ := HT.out.resolve_left (by intro h; rw [h] at hx; simp at hx)
        obtain ⟨q0, q1, q2, q3⟩ := hc k x hx
        have hb' : b < r := by have := HR.out; omega
        have hS : wr.cell? ⟨b, o + k * 4, none⟩ = some (.int .i64 x.k) ∧ wr.cell? ⟨b, o + k * 4 + 1, none⟩ = some (.int .i64 x.c) ∧ wr.cell? ⟨b, o + k * 4 + 2, none⟩ = some (.int .i64 x.a) ∧ wr.cell? ⟨b, o + k * 4 + 3, none⟩ = some (.int .i64 x.b) ∧ (b < r ∧ r ≤ wr.heap.size ∧ Below r w3 wr) :=
          ⟨(br.cell (p := ⟨b, o + k * 4, none⟩) hb').trans q0, (br.cell (p := ⟨b, o + k * 4 + 1, none⟩) hb').trans q1, (br.cell (p := ⟨b, o + k * 4 + 2, none⟩) hb').trans q2, (br.cell (p := ⟨b, o + k * 4 + 3, none⟩) hb').trans q3, hb', hrw, br⟩
        have hki : (k : Int) < (L.length : Int) := by have := HN.out; omega
        have hki0 : (0 : Int) ≤ (k : Int) := by omega
        have HK : Hid (k < L'.length) := hkn
        clear hc hx q0 q1 q2 q3 hb hb' br hrw hk hkn
        go_wp2
        go_region_held3 (fun W => W.cell? ⟨b, o + k * 4, none⟩ = some (.int .i64 x.k) ∧ W.cell? ⟨b, o + k * 4 + 1, none⟩ = some (.int .i64 x.c) ∧ W.cell? ⟨b, o + k * 4 + 2, none⟩ = some (.int .i64 x.a) ∧ W.cell? ⟨b, o + k * 4 + 3, none⟩ = some (.int .i64 x.b) ∧ (b < r ∧ r ≤ W.heap.size ∧ Below r w3 W)) ((first | assumption | exact got_more (by assumption) (below_new _ _) | exact got_more (by assumption) ((Below.refl _ _).drew)))
          (first | (go_at_call 13; refine (right_any x c _).mono ?_; rintro e w' ⟨rfl, rfl⟩) | (go_at_call 14; refine (rright_any x c _).mono ?_; rintro e w' ⟨rfl, rfl⟩))
        all_goals rename_i hH
        all_goals have hB := hH.2.2.2.2.2.2
        all_goals have hB2 := hH.2.2.2.2.2.1
        all_goals clear hH hS
        generalize ((wr.alloc (objI x)).alloc (objI x)).drew = w4 at *
        have hwk : IntKind.i64.wrap ((k : Int) + 1) = (k : Int) + 1 := by have := HL.out; rw [IntKind.wrap_i64] <;> omega
        go_wp2
        go_roundw
        case rel => exact ⟨k + 1, by have := HK.out; omega, by go_num, hB, hB2⟩
        case measure => have := HK.out; simp [intOf]; omega
      · have hk4 : k = L.length := by have := HN.out; omega
        clear hk hkn
        subst hk4
        have br' : Below w3.heap.size w3 wr := by rw [HR.out]; exact br
        have t4 := HT.out.below br'
        have u4' := HW.out.below br'
        have y4 := Below.then b3 br' b3.size
        clear br br' b3 hrw
        generalize hsp : strOfNums (flat (pick c L')) = sp at *
        have HSP : Hid (strOfNums (flat (pick c L')) = sp) := hsp
        clear hsp
        go_wp2_with fail
        refine (print_at ao _ cap L' c HN.out.symm (by have := HL.out; omega) wr t4).mono ?_
        rintro e w5 ⟨rfl, b5⟩
        rw [HSP.out]
        have t5 := t4.below b5
        have u5 := u4'.below b5
        have y5 := Below.then y4 b5 y4.size
        clear t4 u4' y4 b5
        go_wp2_with fail
        rw [← HN.out]
        refine (rprint_any ao cap L' c HL.out w5 t5).mono ?_
        rintro e w6 ⟨rfl, b6⟩
        rw [HSP.out]
        have t6 := t5.below b6
        have u6 := u5.below b6
        have y6 := Below.then y5 b6 y5.size
        clear t5 u5 y5 b6
        go_wp2_with fail
        refine (same_at _ _ L' _ _ _ _ w6 (by first | rfl | exact HN.out.symm) (by first | rfl | exact HN.out.symm) t6 u6 (by have := HL.out; omega)).mono ?_
        rintro e w7 ⟨rfl, b7⟩
        have y7 := Below.then y6 b7 y6.size
        clear t6 u6 y6 b7
        go_wp2_with fail
        refine (fixed_any w7).mono ?_
        rintro e w8 ⟨rfl, b8⟩
        have y8 := Below.then y7 b8 y7.size
        clear y7 b8
        go_wp2
        go_ret
        exact ⟨rfl, y8⟩
open Go.ChangeShapes Go.WideShapes Go.ChangeAt Go.RowKit Go.Joins

/-! ### From the walk to the statement -/
set_option maxRecDepth 100000 in
theorem lifted (os : Os) (started : os.Started) (H : Type) (enc : TypeId × Value → H) :
    ReturnsInHanded {} Try.checked os 4 .any (Rows.scriptPrintsSpec.pre6 enc Try.prog Try.f4 Rows.scriptPrintsRow.domain false) (Rows.scriptPrintsSpec.post enc Try.prog Try.f4 false true false false) := by
  refine returnsInHanded_of_change (C := Try.checked) own started (by kernel_rfl) Try.func4
    (ChangeSpec.witness6 (enc := enc) (C := Try.checked) false ⟨#[], #[.slice none 0 0, .int .i64 0], []⟩ 8 (by kernel_rfl) (by kernel_rfl) (by kernel_rfl) (by kernel_rfl)) ?_
  intro W base args ds gs before hval0 hW hcnd _
  have hval : ∀ (j : Nat) t v, Try.f4.params[j]? = some t → args[j]? = some v → Value.okWide Try.prog W .any base t v := hval0
  have hW' := hW
  obtain ⟨p, q, hA0, hV, rfl, hfz, hnd⟩ := hW
  have hA : DataW.TrodAll enc Try.prog W 0 (fun _ => true) true Try.f4.params.toList args.toList ds p := hA0
  rw [Try.params4] at hA hval
  obtain ⟨v0, vs0, d0, ds0, p0, q0, hargs, rfl, rfl, h0, r0⟩ := trodAll_cons hA
  obtain ⟨v1, vs1, d1, ds1, p1, q1, rfl, rfl, rfl, h1, r1⟩ := trodAll_cons r0
  obtain ⟨rfl, rfl, rfl⟩ := trodAll_nil r1
  obtain rfl : args = #[v0, v1] := by cases args; simp_all
  obtain ⟨rfl, rfl⟩ := trodVars_none hV
  have k0 := h0
  have lt0 : ∀ x ∈ p0, x.block < W.heap.size := by obtain ⟨m, hm⟩ := k0; exact DataW.trod_lt m _ _ _ hm
  obtain ⟨a0, l0, c0, rfl, t0, s0, u0, z0, y0⟩ := open_items (hval 0 24 v0 rfl rfl) h0
  have k1 := h1
  have lt1 : ∀ x ∈ p1, x.block < W.heap.size := by obtain ⟨m, hm⟩ := k1; exact DataW.trod_lt m _ _ _ hm
  obtain ⟨a1, rfl, _, _, w1⟩ := open_int Try.underlying3 (hval 1 3 v1 rfl rfl) h1
  clear hA0 hval0
  refine (walk a0 l0 c0 a1 W t0 s0 u0 z0 y0 (bounds_i64 w1)).mono fun e W' ⟨he, bel⟩ => ?_
  subst he
  exact ⟨_, rfl, _, _, _, [], _, [], hW', trodAll_mk1 (shut_bool Try.underlying4 _), (trodAll_cons_mk (Below.trod laidOut (by kernel_rfl) (of_decide_eq_true (by kernel_rfl)) k0 bel lt0) (trodAll_cons_mk (Below.trod laidOut (by kernel_rfl) (of_decide_eq_true (by kernel_rfl)) k1 bel lt1) trodAll_mk0)), rfl, bel.frame _, fun h => by cases h⟩
theorem over : Rows.scriptPrintsRow.holds Try.pinned (OpenSpec.ofChange Rows.scriptPrintsSpec) :=
  OpenClaim.holds_of_wide 4 Try.f4 rfl rfl rfl rfl rfl rfl rfl ⟨rfl, rfl, rfl, rfl, rfl⟩ rfl rfl rfl rfl rfl (by kernel_rfl) Try.func4 (by kernel_rfl)
    (of_decide_eq_true (by kernel_rfl)) (by unfold Func.isWrapper; first | (rw [if_pos (by decide +kernel)]; kernel_rfl) | (rw [if_neg (by decide +kernel)]; exact ⟨rfl, rfl⟩))
    (fun os started H enc _ => lifted os started H enc)
end Go.Proofs.Ytkbbjpnkfmegnaa.scriptPrints
namespace Go.Proofs.Ytkbbjpnkfmegnaa
/-- THE STATEMENT. -/
theorem scriptPrints_said : Rows.ScriptPrintsSaid := scriptPrints.over
#print axioms scriptPrints_said
end Go.Proofs.Ytkbbjpnkfmegnaa

/-
  MemoryDoes answers true for every input: whatever is read, written, filled and moved, in any order, each answer, and all words, are as the document says; what is told is its owner's; no condition of ours.
-/
import Derived.Test.YtfdddikgcfejpaaMemScript
namespace Go.Proofs.Ytfdddikgcfejpaa.memoryDoes
open Go.RowKit
set_option maxRecDepth 100000 in
set_option maxHeartbeats 4000000 in
theorem walk0 (z : Int) (ao : Option Addr) (n cap : Nat) (d g : Nat) (w : World) (hs : Script w ao n) (hl : n ≤ 9223372036854775807) (hd : bits BinOp.and IntKind.i64 z 63 = (d : Int)) (hd1 : d ≤ 63) (hd2 : 1 + (d : Int) = (g : Int)) (hg1 : 1 ≤ g) (_hg2 : g ≤ 64) :
    Calls Try.prog 3 #[.int .i64 z, .slice ao n cap] w fun e w' => e = .returned (.bool true) ∧ Below w.heap.size w w' := by
  have HS : Hid (Script w ao n) := hs
  clear hs
  have hnew := new_yes g w (by omega) (by omega)
  go_enter Try.func3, Try.ntmps3
  go_wp2_with fail
  refine hnew.mono ?_
  rintro e w1 ⟨rfl, m1, b1⟩
  clear hnew
  have hq := b1.size
  have q1 := m1.lt
  have hnew := rnew_yes g w1 (by omega) (by omega)
  go_wp2_with fail
  refine hnew.mono ?_
  rintro e w2 ⟨rfl, m2, b2⟩
  have T2 : Two w.heap.size w2 (w.heap.size + 1) w.heap.size (w1.heap.size + 1) w1.heap.size (List.replicate g 0) :=
    ⟨m1.below b2, m2, Nat.le_refl _, hq, by omega, by omega, by omega, by simp; omega⟩
  have B2 := Below.then b1 b2 hq
  have hL : 1 ≤ (List.replicate g (0 : Int)).length := by simpa using hg1
  clear hnew m1 b1 m2 b2 hd hd2
  generalize List.replicate g (0 : Int) = L0 at *
  generalize w.heap.size + 1 = b0 at *
  generalize w1.heap.size + 1 = b' at *
  generalize w1.heap.size = c' at *
  go_wp2
  go_loopw [5, 9] (fun m i wr => ∃ (k b c : Nat) (L : List Int), k ≤ n ∧ k ≤ 60 ∧ i = .int .i64 k ∧ m = .pointer (some ⟨b, 0, none⟩) ∧ 1 ≤ L.length ∧ Two w.heap.size wr b c b' c' L ∧ Below w.heap.size w wr) (fun _ i _ => 60 - (intOf i).toNat)
  case atStart => exact ⟨0, b0, w.heap.size, L0, Nat.zero_le _, Nat.zero_le _, rfl, rfl, hL, T2, B2⟩
  case round =>
    obtain ⟨i, b, c, L, hi, hi2, rfl, rfl, hL1, hT, br⟩ := hrel
    clear T2 B2 hL
    by_cases hgo : i < n ∧ i < 60
    · obtain ⟨x1, x2⟩ := hgo
      obtain ⟨bs, o, rfl, hbs, hcell⟩ : ∃ bs o, ao = some ⟨bs, o, none⟩ ∧ bs < w.heap.size ∧ ∃ k a f m y : Int, (∀ u, Below w.heap.size w u → u.cell? ⟨bs, o + i * 5, none⟩ = some (.int .i64 k) ∧ u.cell? ⟨bs, o + i * 5 + 1, none⟩ = some (.int .i64 a) ∧ u.cell? ⟨bs, o + i * 5 + 2, none⟩ = some (.int .i64 f) ∧ u.cell? ⟨bs, o + i * 5 + 3, none⟩ = some (.int .i64 m) ∧ u.cell? ⟨bs, o + i * 5 + 4, none⟩ = some (.int .u64 y)) ∧ I64 a ∧ I64 f := by
        rcases HS.out with h0 | ⟨bs, o, e, hbs, hc⟩
        · omega
        · obtain ⟨k, a, f, m, y, e0, e1, e2, e3, e4, _, ia, jf, _⟩ := hc i x1
          exact ⟨bs, o, e, hbs, k, a, f, m, y, fun u hu => ⟨(hu.cell (p := ⟨bs, _, none⟩) hbs).trans e0, (hu.cell (p := ⟨bs, _, none⟩) hbs).trans e1, (hu.cell (p := ⟨bs, _, none⟩) hbs).trans e2, (hu.cell (p := ⟨bs, _, none⟩) hbs).trans e3, (hu.cell (p := ⟨bs, _, none⟩) hbs).trans e4⟩, ia, jf⟩
      obtain ⟨k, a, f, m, y, hu, ia, jf⟩ := hcell
      have HU : Hid (∀ u, Below w.heap.size w u → u.cell? ⟨bs, o + i * 5, none⟩ = some (.int .i64 k) ∧ u.cell? ⟨bs, o + i * 5 + 1, none⟩ = some (.int .i64 a) ∧ u.cell? ⟨bs, o + i * 5 + 2, none⟩ = some (.int .i64 f) ∧ u.cell? ⟨bs, o + i * 5 + 3, none⟩ = some (.int .i64 m) ∧ u.cell? ⟨bs, o + i * 5 + 4, none⟩ = some (.int .u64 y)) := hu
      have g3 : (i : Int) < (n : Int) := by omega
      have g4 : (i : Int) < 60 := by omega
      clear hu
      have hlL := hT.hl
      obtain ⟨e0, e1, e2, e3, e4⟩ := HU.out wr br
      have hk : (k = 5) ∨ (k == 5) = false := by by_cases h5 : k = 5 <;> simp [h5]
      rcases hk with rfl | hk
      · go_wp2_with fail
        refine (copy_any b c L wr hT.mem hT.hl).mono ?_
        rintro e w3 ⟨b2, rfl, m3, hb2, k3⟩
        have q1 := hT.mem.lt
        have q2 := hT.mem.c_lt
        have q3 := hT.ref.lt
        have q4 := hT.ref.c_lt
        have qs := hT.size
        have T3 := hT.below k3
        have B3 := Below.then br k3 hT.size
        clear br k3 e0 e1 e2 e3 e4
        go_wp2_with fail
        refine (fill_yes b c L 0 1 12345 w3 T3.mem T3.hl (by omega)).mono ?_
        rintro e w4 ⟨rfl, m4, u4⟩
        have B4 := u4.below B3 T3.size T3.lo
        have T4 : Two w.heap.size w4 b2 wr.heap.size b' c' L := ⟨m3.upto u4 (by omega) (by omega), T3.ref.upto u4 T3.n2 (Ne.symm T3.ne), qs, T3.lo', by omega, by omega, by omega, T3.hl⟩
        clear m3 m4 u4 T3 B3 hT hb2 q1 q2 q3 q4 qs
        generalize wr.heap.size = c2 at *
        obtain ⟨e0, e1, e2, e3, e4⟩ := HU.out w4 B4
        go_wp2_with fail
        refine (same_any _ _ _ _ _ _ _ _ _ _ _ _ T4 ia jf).mono ?_
        rintro e w5 ⟨rfl, ⟨L', eL, T5⟩, b5⟩
        have B5 := B4.trans b5
        have hlen : 1 ≤ L'.length := by omega
        clear T4 B4 b5 e0 e1 e2 e3 e4 eL
        go_wp2_with fail
        refine (size_any _ _ L' w5 T5.mem).mono ?_
        rintro e w6 ⟨rfl, rfl⟩
        go_wp2_with fail
        refine (words_yes _ _ L' 0 L'.length w6 T5.mem T5.hl (by omega)).mono ?_
        rintro e w7 ⟨rfl, r7, b7⟩
        rw [wordsL_all L' _ rfl] at r7
        have T7 := T5.below b7
        have B7 := Below.then B5 b7 T5.size
        clear T5 B5 b7
        generalize w6.heap.size = r at *
        have hc := T7.ref.cell
        have hlen2 := T7.hl
        go_wp2_with fail
        go_quiet ((first | (go_at_call 16; exact Calls.quiet_of (same_yes (some ⟨r, 0, none⟩) (some ⟨c', 0, none⟩) L' L'.length L'.length _ (r7.told.below (below_drewN _ _)) (T7.ref.row.told.below (below_drewN _ _)) hlen2)) | (go_at_call 15; exact Calls.quiet_of_same (size_any _ _ L' _ (T7.mem.heap (by rfl))))))
        go_wp2
        go_roundw
        case rel => exact ⟨i + 1, _, _, L', by omega, by omega, by go_num, rfl, hlen, T7.below (below_drewN _ _), Below.then B7 (below_drewN _ _) T7.size⟩
        case measure => simp [intOf]; omega
      · have T4 := hT
        have B4 := br
        clear hT br
        go_wp2_with fail
        refine (same_any _ _ _ _ _ _ _ _ _ _ _ _ T4 ia jf).mono ?_
        rintro e w5 ⟨rfl, ⟨L', eL, T5⟩, b5⟩
        have B5 := B4.trans b5
        have hlen : 1 ≤ L'.length := by omega
        clear T4 B4 b5 e0 e1 e2 e3 e4 eL
        go_wp2_with fail
        refine (size_any _ _ L' w5 T5.mem).mono ?_
        rintro e w6 ⟨rfl, rfl⟩
        go_wp2_with fail
        refine (words_yes _ _ L' 0 L'.length w6 T5.mem T5.hl (by omega)).mono ?_
        rintro e w7 ⟨rfl, r7, b7⟩
        rw [wordsL_all L' _ rfl] at r7
        have T7 := T5.below b7
        have B7 := Below.then B5 b7 T5.size
        clear T5 B5 b7
        generalize w6.heap.size = r at *
        have hc := T7.ref.cell
        have hlen2 := T7.hl
        go_wp2_with fail
        go_quiet ((first | (go_at_call 16; exact Calls.quiet_of (same_yes (some ⟨r, 0, none⟩) (some ⟨c', 0, none⟩) L' L'.length L'.length _ (r7.told.below (below_drewN _ _)) (T7.ref.row.told.below (below_drewN _ _)) hlen2)) | (go_at_call 15; exact Calls.quiet_of_same (size_any _ _ L' _ (T7.mem.heap (by rfl))))))
        go_wp2
        go_roundw
        case rel => exact ⟨i + 1, _, _, L', by omega, by omega, by go_num, rfl, hlen, T7.below (below_drewN _ _), Below.then B7 (below_drewN _ _) T7.size⟩
        case measure => simp [intOf]; omega
    · have hx : (i = n ∧ ¬ (i : Int) < (n : Int)) ∨ (i = 60 ∧ (60 : Int) < (n : Int)) := by omega
      have qs := hT.size
      clear hgo hT
      rcases hx with ⟨hx1, hx2⟩ | ⟨rfl, hx2⟩
      all_goals
        (
        go_wp2_with fail
        refine (fixed_any _).mono ?_
        rintro e w5 ⟨rfl, b5⟩
        have B5 := Below.then br b5 qs
        go_wp2
        go_ret
        exact ⟨rfl, B5⟩)
theorem walk (z : Int) (ao : Option Addr) (n cap : Nat) (w : World) (_ : I64 z) (hs : Script w ao n) (hl : n ≤ 9223372036854775807) :
    Calls Try.prog 3 #[.int .i64 z, .slice ao n cap] w fun e w' => e = .returned (.bool true) ∧ Below w.heap.size w w' := by
  obtain ⟨d, hd1, hd⟩ := mask63 z
  exact walk0 z ao n cap d (d + 1) w hs hl hd hd1 (by omega) (by omega) (by omega)
open Go.ChangeShapes Go.WideShapes Go.ChangeAt Go.RowKit Go.Joins

/-! ### From the walk to the statement -/
set_option maxRecDepth 100000 in
theorem lifted (os : Os) (started : os.Started) (H : Type) (enc : TypeId × Value → H) :
    ReturnsInHanded {} Try.checked os 3 .any (Rows.memoryDoesSpec.pre6 enc Try.prog Try.f3 Rows.memoryDoesRow.domain false) (Rows.memoryDoesSpec.post enc Try.prog Try.f3 false true false false) := by
  refine returnsInHanded_of_change (C := Try.checked) own started (by kernel_rfl) Try.func3
    (ChangeSpec.witness6 (enc := enc) (C := Try.checked) false ⟨#[], #[.int .i64 0, .slice none 0 0], []⟩ 8 (by kernel_rfl) (by kernel_rfl) (by kernel_rfl) (by kernel_rfl)) ?_
  intro W base args ds gs before hval0 hW hcnd _
  have hval : ∀ (j : Nat) t v, Try.f3.params[j]? = some t → args[j]? = some v → Value.okWide Try.prog W .any base t v := hval0
  have hW' := hW
  obtain ⟨p, q, hA0, hV, rfl, hfz, hnd⟩ := hW
  have hA : DataW.TrodAll enc Try.prog W 0 (fun _ => true) true Try.f3.params.toList args.toList ds p := hA0
  rw [Try.params3] at hA hval
  obtain ⟨v0, vs0, d0, ds0, p0, q0, hargs, rfl, rfl, h0, r0⟩ := trodAll_cons hA
  obtain ⟨v1, vs1, d1, ds1, p1, q1, rfl, rfl, rfl, h1, r1⟩ := trodAll_cons r0
  obtain ⟨rfl, rfl, rfl⟩ := trodAll_nil r1
  obtain rfl : args = #[v0, v1] := by cases args; simp_all
  obtain ⟨rfl, rfl⟩ := trodVars_none hV
  have k0 := h0
  have lt0 : ∀ x ∈ p0, x.block < W.heap.size := by obtain ⟨m, hm⟩ := k0; exact DataW.trod_lt m _ _ _ hm
  obtain ⟨a0, rfl, _, _, w0⟩ := open_int Try.underlying3 (hval 0 3 v0 rfl rfl) h0
  have k1 := h1
  have lt1 : ∀ x ∈ p1, x.block < W.heap.size := by obtain ⟨m, hm⟩ := k1; exact DataW.trod_lt m _ _ _ hm
  obtain ⟨a1, l1, c1, rfl, t1, s1⟩ := open_ops (hval 1 22 v1 rfl rfl) h1
  clear hA0 hval0
  refine (walk a0 a1 l1 c1 W (bounds_i64 w0) t1 s1).mono fun e W' ⟨he, bel⟩ => ?_
  subst he
  exact ⟨_, rfl, _, _, _, [], _, [], hW', trodAll_mk1 (shut_bool Try.underlying4 _), (trodAll_cons_mk (Below.trod laidOut (by kernel_rfl) (of_decide_eq_true (by kernel_rfl)) k0 bel lt0) (trodAll_cons_mk (Below.trod laidOut (by kernel_rfl) (of_decide_eq_true (by kernel_rfl)) k1 bel lt1) trodAll_mk0)), rfl, bel.frame _, fun h => by cases h⟩
theorem over : Rows.memoryDoesRow.holds Try.pinned (OpenSpec.ofChange Rows.memoryDoesSpec) :=
  OpenClaim.holds_of_wide 3 Try.f3 rfl rfl rfl rfl rfl rfl rfl ⟨rfl, rfl, rfl, rfl, rfl⟩ rfl rfl rfl rfl rfl (by kernel_rfl) Try.func3 (by kernel_rfl)
    (of_decide_eq_true (by kernel_rfl)) (by unfold Func.isWrapper; first | (rw [if_pos (by decide +kernel)]; kernel_rfl) | (rw [if_neg (by decide +kernel)]; exact ⟨rfl, rfl⟩))
    (fun os started H enc _ => lifted os started H enc)
end Go.Proofs.Ytfdddikgcfejpaa.memoryDoes
namespace Go.Proofs.Ytfdddikgcfejpaa
/-- THE STATEMENT. -/
theorem memoryDoes_said : Rows.MemoryDoesSaid := memoryDoes.over
#print axioms memoryDoes_said
end Go.Proofs.Ytfdddikgcfejpaa

/-
  MemoryParts answers true for every input: words from a place on are those of two parts, one behind the other; no condition of ours.
-/
import Derived.Test.YtfdddikgcfejpaaMemAppend
namespace Go.Proofs.Ytfdddikgcfejpaa.memoryParts
open Go.RowKit
theorem parts (M : List Int) (n d : Nat) (hM : M.length = 32) (h : n + d = 32) : wordsL M 0 n ++ wordsL M n d = M := by
  have : (M.drop n).take d = M.drop n := List.take_of_length_le (by simp; omega)
  simp [wordsL, this]
set_option maxHeartbeats 1000000 in
theorem walk0 (ao : Option Addr) (L : List Int) (cap : Nat) (z : Int) (n d : Nat) (w : World) (ha : Told w ao L) (hl : L.length ≤ 9223372036854775807)
    (hn : bits BinOp.and IntKind.i64 z 31 = (n : Int)) (hn1 : n ≤ 31) (hd : 32 - (n : Int) = (d : Int)) :
    Calls Try.prog 7 #[.slice ao L.length cap, .int .i64 z] w fun e w' => e = .returned (.bool true) ∧ Below w.heap.size w w' := by
  have hlaid := laid_law ao L cap _ ha hl
  clear ha
  go_enter Try.func7, Try.ntmps7
  go_wp2_with fail
  refine hlaid.mono ?_
  rintro e w1 ⟨b, c, M, rfl, hM, m1, hb, hc, B1⟩
  clear hlaid
  go_wp2_with fail
  refine (words_yes b c M 0 n w1 m1 (by omega) (by omega)).mono ?_
  rintro e w2 ⟨rfl, r2, b2⟩
  have m2 := m1.below b2
  have B2 := Below.then B1 b2 B1.size
  clear m1 b2 B1
  generalize w1.heap.size = p at *
  go_wp2_with fail
  refine (words_yes b c M n d w2 m2 (by omega) (by omega)).mono ?_
  rintro e w3 ⟨rfl, s3, b3⟩
  have m3 := m2.below b3
  have r3 := r2.below b3
  have B3 := Below.then B2 b3 B2.size
  clear m2 b3 B2 r2
  generalize w2.heap.size = q at *
  go_wp2_with fail
  refine (words_yes b c M 0 32 w3 m3 (by omega) (by omega)).mono ?_
  rintro e w4 ⟨rfl, t4, b4⟩
  rw [wordsL_all M 32 hM] at t4
  have m4 := m3.below b4
  have r4 := r3.below b4
  have s4 := s3.below b4
  have B4 := Below.then B3 b4 B3.size
  clear m3 b4 B3 r3 s3
  generalize w3.heap.size = r at *
  go_wp2_with fail
  refine (words_no b c M n (33 - (n : Int)) w4 m4 (by omega) (by omega) (by simp [thereB]; omega)).mono ?_
  rintro e w5 ⟨rfl, rfl⟩
  clear m4
  have l1 := wordsL_len M 0 n (by omega)
  have l2 := wordsL_len M n d (by omega)
  have k5 := below_new w5 (.cells #[] 30)
  have B5 := Below.then B4 k5 B4.size
  obtain ⟨v6, w6, h6, o6, g6⟩ := append_words w5.heap.size (w5.alloc (.cells #[] 30)) 36 (.slice (some ⟨w5.heap.size, 0, none⟩) 0 0) [] (wordsL M 0 n) ⟨p, 0, none⟩ n (own_new _ _ (Nat.le_refl _)) (r4.told.below k5) (by simp; omega) (by simp)
  have k6 := Below.grown k5 g6 (by simp) (fun k hk => by simp [Value.ownBlock] at hk; omega)
  have B6 := Below.then B4 k6 B4.size
  obtain ⟨v7, w7, h7, o7, g7⟩ := append_words w5.heap.size w6 36 v6 _ (wordsL M n d) ⟨q, 0, none⟩ d o6 (s4.told.below k6) (by simp; omega) k6.size
  have k7 := Below.grown k6 g7 k6.size (fun k hk => o6.block k hk)
  have B7 := Below.then B4 k7 B4.size
  rw [List.nil_append, parts M n d hM (by omega)] at o7
  obtain ⟨a7, c7, rfl, t7, _⟩ := o7.told
  have hsame := same_yes a7 (some ⟨r, 0, none⟩) M c7 32 w7 t7 (t4.told.below k7) (by omega)
  rw [l1] at h6
  rw [l2] at h7
  rw [hM] at hsame h7
  have H6 : Hid ((Builtin.append_ #[36, 36] 36 #[.slice (some ⟨w5.heap.size, 0, none⟩) 0 0, .slice (some ⟨p, 0, none⟩) n n]).run Try.prog (w5.alloc (.cells #[] 30)) = .ok v6 w6) := h6
  have H7 : Hid ((Builtin.append_ #[36, 36] 36 #[v6, .slice (some ⟨q, 0, none⟩) d d]).run Try.prog w6 = .ok (.slice a7 32 c7) w7) := h7
  clear h6 h7
  clear k5 B5 o6 g6 k6 B6 o7 g7 k7 t7 B4 r4 s4 t4
  go_wp2_with (first | (at_builtin; refine wpList_append_words rfl (.tmp 49) (.tmp 50) rfl _ _ v6 w6 rfl rfl H6.out ?_) | (at_builtin; refine wpList_append_words rfl (.tmp 52) (.tmp 53) rfl _ _ _ w7 rfl rfl H7.out ?_))
  refine hsame.mono ?_
  rintro e w8 ⟨rfl, j, rfl⟩
  clear hsame H6 H7
  go_wp2_with fail
  refine (fixed_any _).mono ?_
  rintro e w9 ⟨rfl, b9⟩
  have B9 := Below.then (Below.then B7 (below_drewN w7 j) B7.size) b9 (by simpa using B7.size)
  go_wp2
  go_ret
  exact ⟨rfl, B9⟩
theorem walk (ao : Option Addr) (L : List Int) (cap : Nat) (z : Int) (w : World) (ha : Told w ao L) (hl : L.length ≤ 9223372036854775807) (_ : I64 z) :
    Calls Try.prog 7 #[.slice ao L.length cap, .int .i64 z] w fun e w' => e = .returned (.bool true) ∧ Below w.heap.size w w' := by
  obtain ⟨n, hn1, hn⟩ := mask31 z
  exact walk0 ao L cap z n (32 - n) w ha hl hn hn1 (by omega)
open Go.ChangeShapes Go.WideShapes Go.ChangeAt Go.RowKit Go.Joins

/-! ### From the walk to the statement -/
set_option maxRecDepth 100000 in
theorem lifted (os : Os) (started : os.Started) (H : Type) (enc : TypeId × Value → H) :
    ReturnsInHanded {} Try.checked os 7 .any (Rows.memoryPartsSpec.pre6 enc Try.prog Try.f7 Rows.memoryPartsRow.domain false) (Rows.memoryPartsSpec.post enc Try.prog Try.f7 false true false false) := by
  refine returnsInHanded_of_change (C := Try.checked) own started (by kernel_rfl) Try.func7
    (ChangeSpec.witness6 (enc := enc) (C := Try.checked) false ⟨#[], #[.slice none 0 0, .int .i64 0], []⟩ 8 (by kernel_rfl) (by kernel_rfl) (by kernel_rfl) (by kernel_rfl)) ?_
  intro W base args ds gs before hval0 hW hcnd _
  have hval : ∀ (j : Nat) t v, Try.f7.params[j]? = some t → args[j]? = some v → Value.okWide Try.prog W .any base t v := hval0
  have hW' := hW
  obtain ⟨p, q, hA0, hV, rfl, hfz, hnd⟩ := hW
  have hA : DataW.TrodAll enc Try.prog W 0 (fun _ => true) true Try.f7.params.toList args.toList ds p := hA0
  rw [Try.params7] at hA hval
  obtain ⟨v0, vs0, d0, ds0, p0, q0, hargs, rfl, rfl, h0, r0⟩ := trodAll_cons hA
  obtain ⟨v1, vs1, d1, ds1, p1, q1, rfl, rfl, rfl, h1, r1⟩ := trodAll_cons r0
  obtain ⟨rfl, rfl, rfl⟩ := trodAll_nil r1
  obtain rfl : args = #[v0, v1] := by cases args; simp_all
  obtain ⟨rfl, rfl⟩ := trodVars_none hV
  have k0 := h0
  have lt0 : ∀ x ∈ p0, x.block < W.heap.size := by obtain ⟨m, hm⟩ := k0; exact DataW.trod_lt m _ _ _ hm
  obtain ⟨a0, l0, c0, rfl, t0, s0⟩ := open_words (hval 0 36 v0 rfl rfl) h0
  have k1 := h1
  have lt1 : ∀ x ∈ p1, x.block < W.heap.size := by obtain ⟨m, hm⟩ := k1; exact DataW.trod_lt m _ _ _ hm
  obtain ⟨a1, rfl, _, _, w1⟩ := open_int Try.underlying3 (hval 1 3 v1 rfl rfl) h1
  clear hA0 hval0
  refine (walk a0 l0 c0 a1 W t0 s0 (bounds_i64 w1)).mono fun e W' ⟨he, bel⟩ => ?_
  subst he
  exact ⟨_, rfl, _, _, _, [], _, [], hW', trodAll_mk1 (shut_bool Try.underlying4 _), (trodAll_cons_mk (Below.trod laidOut (by kernel_rfl) (of_decide_eq_true (by kernel_rfl)) k0 bel lt0) (trodAll_cons_mk (Below.trod laidOut (by kernel_rfl) (of_decide_eq_true (by kernel_rfl)) k1 bel lt1) trodAll_mk0)), rfl, bel.frame _, fun h => by cases h⟩
theorem over : Rows.memoryPartsRow.holds Try.pinned (OpenSpec.ofChange Rows.memoryPartsSpec) :=
  OpenClaim.holds_of_wide 7 Try.f7 rfl rfl rfl rfl rfl rfl rfl ⟨rfl, rfl, rfl, rfl, rfl⟩ rfl rfl rfl rfl rfl (by kernel_rfl) Try.func7 (by kernel_rfl)
    (of_decide_eq_true (by kernel_rfl)) (by unfold Func.isWrapper; first | (rw [if_pos (by decide +kernel)]; kernel_rfl) | (rw [if_neg (by decide +kernel)]; exact ⟨rfl, rfl⟩))
    (fun os started H enc _ => lifted os started H enc)
end Go.Proofs.Ytfdddikgcfejpaa.memoryParts
namespace Go.Proofs.Ytfdddikgcfejpaa
/-- THE STATEMENT. -/
theorem memoryParts_said : Rows.MemoryPartsSaid := memoryParts.over
#print axioms memoryParts_said
end Go.Proofs.Ytfdddikgcfejpaa

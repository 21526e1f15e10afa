/-
  What number, word and read of package caps return; the program's four places lie as it laid them; no condition but that the numbers fit.
-/
import Derived.Test.YtokehmkegnmfdaaDoorCMint
import Derived.Test.YtokehmkegnmfdaaDoorCLaid
import Derived.Deep.Cut
import Derived.Deep.CutRange
namespace Go.Proofs.YtokehmkegnmfdaaDoor
open Go.RowKit Go.Deep
set_option linter.unusedSectionVars false
variable [dCp : DecidableEq Cp] [dLim : ∀ k, Decidable (Lim k)] [dBad : ∀ k, Decidable (Bad k)] [dFit : ∀ g z, Decidable (Fit g z)] [dFine : ∀ c, Decidable (Fine c)] [dMint : ∀ c v, Decidable (MintR c v)] [dWho : ∀ x y, Decidable (Whose x y)]

theorem number_any (v a n : Int) (w : World) (v0 : 0 ≤ v ∧ v ≤ 18446744073709551615) (h0 : 0 ≤ a) (h1 : 0 ≤ n) (h2 : n ≤ 64 - a) (h3 : n ≤ 62) :
    Calls Tryd.prog 38 #[.int .u64 v, .agg #[.int .i64 a, .int .i64 n]] w fun e w' => e = .returned (.int .i64 (fieldI v a n)) ∧ w' = w.alloc (.cells #[.int .i64 a, .int .i64 n] 46) := by
  have hw : IntKind.i64.wrap (fieldI v a n) = fieldI v a n := by
    have hb := fieldI_bd v a n h1
    obtain ⟨N, rfl⟩ := Int.eq_ofNat_of_zero_le h1
    rw [ones_cast] at hb
    have hp : 2 ^ N ≤ 2 ^ 62 := Nat.pow_le_pow_right (by omega) (by omega)
    generalize 2 ^ N = P at *
    rw [IntKind.wrap_i64]
    omega
  go_enter Tryd.func38, Tryd.ntmps38
  go_wp2_with fail
  refine (field_yes _ _ _ _ v0.1 v0.2 h0 h1 h2).mono ?_
  rintro e w' ⟨rfl, rfl⟩
  go_wp2
  all_goals go_ret
  all_goals exact ⟨rfl, rfl⟩
/-- A field and where it goes, as three cells. -/
def cellsF (k r z o : Int) : List Value := [.int .i64 0, .int .i64 4, .int .i64 k, .int .i64 4, .int .i64 3, .int .i64 r, .int .i64 7, .int .i64 7, .int .i64 z, .int .i64 16, .int .i64 31, .int .i64 o]
set_option maxHeartbeats 2000000 in
theorem word_any (k r z o : Int) (q : Nat) (w : World) (hq : w.heap[q]? = some (.cells (cellsF k r z o).toArray 48)) (k0 : 0 ≤ k ∧ k < 16) (r0 : 0 ≤ r ∧ r ≤ 7) (z0 : 0 ≤ z ∧ z < 128) (o0 : 0 ≤ o ∧ o ≤ 2147483647) :
    Calls Tryd.prog 32 #[.slice (some ⟨q, 0, none⟩) 4 4] w fun e w' => e = .returned (.int .u64 (k + 16 * r + 128 * z + 65536 * o)) ∧ w' = (((w.alloc (.cells #[.int .i64 0, .int .i64 4, .int .i64 k] 48)).alloc (.cells #[.int .i64 4, .int .i64 3, .int .i64 r] 48)).alloc (.cells #[.int .i64 7, .int .i64 7, .int .i64 z] 48)).alloc (.cells #[.int .i64 16, .int .i64 31, .int .i64 o] 48) := by
  obtain ⟨s1, s2, s3, s4⟩ := word_steps k r z o k0 r0 z0 o0
  have S1 : Hid (withI 0 0 4 k = k) := s1
  have S2 : Hid (withI k 4 3 r = k + 16 * r) := s2
  have S3 : Hid (withI (k + 16 * r) 7 7 z = k + 16 * r + 128 * z) := s3
  have S4 : Hid (withI (k + 16 * r + 128 * z) 16 31 o = k + 16 * r + 128 * z + 65536 * o) := s4
  clear s1 s2 s3 s4
  have g : ∀ i v, (cellsF k r z o)[i]? = some v → w.cell? ⟨q, i, none⟩ = some v := fun i v h => by simp [World.cell?, hq, h]
  have g0 := g 0 _ rfl
  have g1 := g 1 _ rfl
  have g2 := g 2 _ rfl
  have g3 := g 3 _ rfl
  have g4 := g 4 _ rfl
  have g5 := g 5 _ rfl
  have g6 := g 6 _ rfl
  have g7 := g 7 _ rfl
  have g8 := g 8 _ rfl
  have g9 := g 9 _ rfl
  have g10 := g 10 _ rfl
  have g11 := g 11 _ rfl
  have hq' : q < w.heap.size := (Array.getElem?_eq_some_iff.1 hq).1
  have hq1 : q < w.heap.size + 1 := by omega
  have hq2 : q < w.heap.size + 1 + 1 := by omega
  have hq3 : q < w.heap.size + 1 + 1 + 1 := by omega
  clear g hq
  have u1 : IntKind.u64.wrap k = k := by rw [IntKind.wrap_u64]; omega
  have u2 : IntKind.u64.wrap r = r := by rw [IntKind.wrap_u64]; omega
  have u3 : IntKind.u64.wrap z = z := by rw [IntKind.wrap_u64]; omega
  have u4 : IntKind.u64.wrap o = o := by rw [IntKind.wrap_u64]; omega
  go_enter Tryd.func32, Tryd.ntmps32
  go_wp2_with fail
  refine wp_loop_rounds 5 ?_
  rw [rounds_succ]
  go_wp2_with fail
  refine (with_yes (0) 0 4 k _ (by omega) (by omega) (by omega) (by omega) (by omega) (by omega) (by rw [show onesI 4 = 15 by decide +kernel]; omega)).mono ?_
  rintro e w' ⟨rfl, rfl⟩
  rw [S1.out]
  go_wp2_with fail
  rw [rounds_succ]
  go_wp2_with fail
  refine (with_yes (k) 4 3 r _ (by omega) (by omega) (by omega) (by omega) (by omega) (by omega) (by rw [show onesI 3 = 7 by decide +kernel]; omega)).mono ?_
  rintro e w' ⟨rfl, rfl⟩
  rw [S2.out]
  go_wp2_with fail
  rw [rounds_succ]
  go_wp2_with fail
  refine (with_yes (k + 16 * r) 7 7 z _ (by omega) (by omega) (by omega) (by omega) (by omega) (by omega) (by rw [show onesI 7 = 127 by decide +kernel]; omega)).mono ?_
  rintro e w' ⟨rfl, rfl⟩
  rw [S3.out]
  go_wp2_with fail
  rw [rounds_succ]
  go_wp2_with fail
  refine (with_yes (k + 16 * r + 128 * z) 16 31 o _ (by omega) (by omega) (by omega) (by omega) (by omega) (by omega) (by rw [show onesI 31 = 2147483647 by decide +kernel]; omega)).mono ?_
  rintro e w' ⟨rfl, rfl⟩
  rw [S4.out]
  go_wp2_with fail
  rw [rounds_succ]
  go_wp2_with fail
  go_ret
  exact ⟨rfl, rfl⟩
theorem five_new (w : World) (a b c d e : Obj) : Below w.heap.size w (((((w.alloc a).alloc b).alloc c).alloc d).alloc e) := ((((below_new w a).alloc (by simp) b).alloc (by simp; omega) c).alloc (by simp; omega) d).alloc (by simp; omega) e
theorem gone_next {w W w' : World} {r : Nat} {x y : Int} (h : W.cell? ⟨r, 0, none⟩ = some (.int .u64 x) ∧ W.cell? ⟨r, 1, none⟩ = some (.int .u64 y) ∧ W.cell? ⟨0, 0, none⟩ = some (.int .i64 0) ∧ W.cell? ⟨0, 1, none⟩ = some (.int .i64 4) ∧ W.cell? ⟨1, 0, none⟩ = some (.int .i64 4) ∧ W.cell? ⟨1, 1, none⟩ = some (.int .i64 3) ∧ W.cell? ⟨2, 0, none⟩ = some (.int .i64 7) ∧ W.cell? ⟨2, 1, none⟩ = some (.int .i64 7) ∧ W.cell? ⟨3, 0, none⟩ = some (.int .i64 16) ∧ W.cell? ⟨3, 1, none⟩ = some (.int .i64 31) ∧ (4 ≤ r ∧ AtC W (r + 1) no ∧ Below r w W))
    (b : Below W.heap.size W w') : w'.cell? ⟨r, 0, none⟩ = some (.int .u64 x) ∧ w'.cell? ⟨r, 1, none⟩ = some (.int .u64 y) ∧ w'.cell? ⟨0, 0, none⟩ = some (.int .i64 0) ∧ w'.cell? ⟨0, 1, none⟩ = some (.int .i64 4) ∧ w'.cell? ⟨1, 0, none⟩ = some (.int .i64 4) ∧ w'.cell? ⟨1, 1, none⟩ = some (.int .i64 3) ∧ w'.cell? ⟨2, 0, none⟩ = some (.int .i64 7) ∧ w'.cell? ⟨2, 1, none⟩ = some (.int .i64 7) ∧ w'.cell? ⟨3, 0, none⟩ = some (.int .i64 16) ∧ w'.cell? ⟨3, 1, none⟩ = some (.int .i64 31) ∧ (4 ≤ r ∧ AtC w' (r + 1) no ∧ Below r w w') := by
  obtain ⟨h1, h2, h3, h4, h5, h6, h7, h8, h9, h10, h11, h12, h13⟩ := h
  have hl := h12.lt
  have g : ∀ (q o : Nat), q ≤ r → w'.cell? ⟨q, o, none⟩ = W.cell? ⟨q, o, none⟩ := fun q o hq => b.cell (p := ⟨q, o, none⟩) (by simp only; omega)
  exact ⟨(g _ _ (Nat.le_refl _)).trans h1, (g _ _ (Nat.le_refl _)).trans h2, (g _ _ (by omega)).trans h3, (g _ _ (by omega)).trans h4, (g _ _ (by omega)).trans h5, (g _ _ (by omega)).trans h6, (g _ _ (by omega)).trans h7, (g _ _ (by omega)).trans h8, (g _ _ (by omega)).trans h9, (g _ _ (by omega)).trans h10, h11, h12.below b, Below.then h13 b (by omega)⟩
theorem at_0 (w : World) (X : Cp) (a b c d : Obj) : AtC (((((w.alloc (objC X)).alloc a).alloc b).alloc c).alloc d).drew w.heap.size X :=
  ((((AtC.new w X).below (below_new _ a)).below (below_new _ b)).below (below_new _ c)).below (below_new _ d).drew
theorem at_1 (w : World) (X : Cp) (a b c d : Obj) : AtC (((((w.alloc a).alloc (objC X)).alloc b).alloc c).alloc d).drew (w.heap.size + 1) X := by
  have h := AtC.new (w.alloc a) X
  rw [World.size_alloc] at h
  exact ((h.below (below_new _ b)).below (below_new _ c)).below (below_new _ d).drew
theorem at_2 (w : World) (X : Cp) (a b c d : Obj) : AtC (((((w.alloc a).alloc b).alloc (objC X)).alloc c).alloc d).drew (w.heap.size + 1 + 1) X := by
  have h := AtC.new ((w.alloc a).alloc b) X
  rw [World.size_alloc, World.size_alloc] at h
  exact (h.below (below_new _ c)).below (below_new _ d).drew
theorem at_3 (w : World) (X : Cp) (a b c d : Obj) : AtC (((((w.alloc a).alloc b).alloc c).alloc (objC X)).alloc d).drew (w.heap.size + 1 + 1 + 1) X := by
  have h := AtC.new (((w.alloc a).alloc b).alloc c) X
  rw [World.size_alloc, World.size_alloc, World.size_alloc] at h
  exact h.below (below_new _ d).drew
theorem at_4 (w : World) (X : Cp) (a b c d : Obj) : AtC (((((w.alloc a).alloc b).alloc c).alloc d).alloc (objC X)).drew (w.heap.size + 1 + 1 + 1 + 1) X := by
  have h := AtC.new ((((w.alloc a).alloc b).alloc c).alloc d) X
  rw [World.size_alloc, World.size_alloc, World.size_alloc, World.size_alloc] at h
  exact h
set_option maxHeartbeats 4000000 in
theorem read_any (x y : Int) (w : World) (hl : Laid w) (x0 : 0 ≤ x ∧ x ≤ 18446744073709551615) :
    Calls Tryd.prog 33 #[encW x y] w fun e w' => e = .returned (encC (readC x y)) ∧ Below w.heap.size w w' := by
  obtain ⟨s1, s2, s3, s4⟩ := read_steps x x0.1
  have b1 := two_new w (objW x y) (objC no)
  have a1 := (AtW.new w x y).below (below_new _ (objC no))
  have a2 := AtC.new (w.alloc (objW x y)) no
  have l1 := hl.below b1 hl.size
  have hs := hl.size
  rw [World.size_alloc] at a2
  clear hl
  simp only [encW, objC, objW, no] at b1 a1 a2 l1 ⊢
  go_enter Tryd.func33, Tryd.ntmps33
  go_wp2_with fail
  generalize hw1 : ((w.alloc (Obj.cells #[.int .u64 x, .int .u64 y] 33)).alloc (Obj.cells #[.int .i64 0, .int .i64 0, .int .i64 0, .int .u64 0, .int .u64 0, .int .i64 0] 24)) = w1 at *
  clear hw1
  generalize hr0 : w.heap.size = r at *
  have HR : Hid (w.heap.size = r) := hr0
  clear hr0
  have hS : w1.cell? ⟨r, 0, none⟩ = some (.int .u64 x) ∧ w1.cell? ⟨r, 1, none⟩ = some (.int .u64 y) ∧ w1.cell? ⟨0, 0, none⟩ = some (.int .i64 0) ∧ w1.cell? ⟨0, 1, none⟩ = some (.int .i64 4) ∧ w1.cell? ⟨1, 0, none⟩ = some (.int .i64 4) ∧ w1.cell? ⟨1, 1, none⟩ = some (.int .i64 3) ∧ w1.cell? ⟨2, 0, none⟩ = some (.int .i64 7) ∧ w1.cell? ⟨2, 1, none⟩ = some (.int .i64 7) ∧ w1.cell? ⟨3, 0, none⟩ = some (.int .i64 16) ∧ w1.cell? ⟨3, 1, none⟩ = some (.int .i64 31) ∧ (4 ≤ r ∧ AtC w1 (r + 1) no ∧ Below r w w1) := ⟨a1.cells.1, a1.cells.2, l1.k0, l1.k1, l1.r0, l1.r1, l1.b0, l1.b1, l1.o0, l1.o1, hs, a2, b1⟩
  clear a1 a2 b1 l1 hs
  have S1 : Hid (fieldI x 0 4 = x % 16) := s1
  have S2 : Hid (fieldI x 16 31 = x / 65536 % 2147483648) := s2
  have S3 : Hid (fieldI x 4 3 = x / 16 % 8) := s3
  have S4 : Hid (fieldI x 7 7 = x / 128 % 128) := s4
  clear s1 s2 s3 s4
  go_cut [3] from 3 to 20 (fun p wx => ∃ q, p = .pointer (some ⟨q, 0, none⟩) ∧ AtC wx q ⟨fieldI x 0 4, fieldI x 16 31, fieldI x 4 3, 0, 0, fieldI x 7 7⟩ ∧ r + 1 < q ∧ wx.cell? ⟨r, 0, none⟩ = some (.int .u64 x) ∧ wx.cell? ⟨r, 1, none⟩ = some (.int .u64 y) ∧ AtC wx (r + 1) no ∧ Below r w wx)
  case first =>
   go_region_held3 (fun W => W.cell? ⟨r, 0, none⟩ = some (.int .u64 x) ∧ W.cell? ⟨r, 1, none⟩ = some (.int .u64 y) ∧ W.cell? ⟨0, 0, none⟩ = some (.int .i64 0) ∧ W.cell? ⟨0, 1, none⟩ = some (.int .i64 4) ∧ W.cell? ⟨1, 0, none⟩ = some (.int .i64 4) ∧ W.cell? ⟨1, 1, none⟩ = some (.int .i64 3) ∧ W.cell? ⟨2, 0, none⟩ = some (.int .i64 7) ∧ W.cell? ⟨2, 1, none⟩ = some (.int .i64 7) ∧ W.cell? ⟨3, 0, none⟩ = some (.int .i64 16) ∧ W.cell? ⟨3, 1, none⟩ = some (.int .i64 31) ∧ (4 ≤ r ∧ AtC W (r + 1) no ∧ Below r w W)) ((first | assumption | exact gone_next hS ((Below.refl _ _).drew) | exact gone_next (by assumption) (below_new _ _) | exact gone_next (gone_next hS ((Below.refl _ _).drew)) (five_new _ _ _ _ _ _)))
    (first | (go_at_call 38; refine (number_any _ _ _ _ x0 (by decide) (by decide) (by decide) (by decide)).mono ?_; rintro e w6 ⟨rfl, rfl⟩))
   all_goals go_wp2_with fail
   all_goals go_meet
   all_goals rename_i hH
   all_goals obtain ⟨t1, t2, _, _, _, _, _, _, _, _, _, t12, t13⟩ := hH
   all_goals have hl := AtC.lt hS.2.2.2.2.2.2.2.2.2.2.2.1
   · exact ⟨_, rfl, at_4 w1 ⟨fieldI x 0 4, fieldI x 16 31, fieldI x 4 3, 0, 0, fieldI x 7 7⟩ _ _ _ _, by omega, t1, t2, t12, t13⟩
   · exact ⟨_, rfl, at_3 w1 ⟨fieldI x 0 4, fieldI x 16 31, fieldI x 4 3, 0, 0, fieldI x 7 7⟩ _ _ _ _, by omega, t1, t2, t12, t13⟩
   · exact ⟨_, rfl, at_2 w1 ⟨fieldI x 0 4, fieldI x 16 31, fieldI x 4 3, 0, 0, fieldI x 7 7⟩ _ _ _ _, by omega, t1, t2, t12, t13⟩
   · exact ⟨_, rfl, at_1 w1 ⟨fieldI x 0 4, fieldI x 16 31, fieldI x 4 3, 0, 0, fieldI x 7 7⟩ _ _ _ _, by omega, t1, t2, t12, t13⟩
   · exact ⟨_, rfl, at_0 w1 ⟨fieldI x 0 4, fieldI x 16 31, fieldI x 4 3, 0, 0, fieldI x 7 7⟩ _ _ _ _, by omega, t1, t2, t12, t13⟩
  case rest =>
   clear hS
   obtain ⟨q, rfl, a5, hq, g0, g1, a4, b3⟩ := hcut
   rw [S1.out, S2.out, S3.out, S4.out] at a5
   clear S1 S2 S3 S4
   obtain ⟨e0, e1, e2, e3, e4, e5⟩ := a5.cells
   obtain ⟨d0, d1, d2, d3, d4, d5⟩ := a4.cells
   have f5 := a5.frozen
   have f4 := a4.frozen
   have B : Hid (Below r w wc) := b3
   have n1 : ¬ q = r + 1 := by omega
   have n2 : ¬ r + 1 = q := by omega
   clear a4 a5 b3
   simp only at e0 e1 e2 e3 e4 e5
   by_cases hk : x % 16 = 2
   · have hk' : (x % 16 == 2) = true := by simp [hk]
     have HK : Hid (x % 16 = 2) := hk
     clear hk
     go_wp2
     refine bodyPost_ret (v := encC ⟨x % 16, x / 65536 % 2147483648, x / 16 % 8, 0, y, x / 128 % 128⟩) ?_ rfl ⟨?_, ?_⟩
     · simp [results, Tryd.f33, go_sem, encC, d0, d1, d2, d3, d4, d5]
     · rw [readC, if_pos HK.out, if_pos HK.out]
     · rw [HR.out]; exact six_sets (B.out.setCell (p := ⟨q, 4, none⟩) (by simp only; omega) _) (by omega) _ _ _ _ _ _
   · have hk' : (x % 16 == 2) = false := by simp [hk]
     have HK : Hid (¬ x % 16 = 2) := hk
     clear hk
     go_wp2
     refine bodyPost_ret (v := encC ⟨x % 16, x / 65536 % 2147483648, x / 16 % 8, y, 0, x / 128 % 128⟩) ?_ rfl ⟨?_, ?_⟩
     · simp [results, Tryd.f33, go_sem, encC, d0, d1, d2, d3, d4, d5]
     · rw [readC, if_neg HK.out, if_neg HK.out]
     · rw [HR.out]; exact six_sets (B.out.setCell (p := ⟨q, 3, none⟩) (by simp only; omega) _) (by omega) _ _ _ _ _ _
end Go.Proofs.YtokehmkegnmfdaaDoor

/-
  What Pack of package caps returns; the program's four places lie as it laid them; no condition but that the numbers fit.
-/
import Derived.Test.YtokehmkegnmfdaaDoorCPack
import Derived.Test.YtokehmkegnmfdaaDoorCPackNo
namespace Go.Proofs.YtokehmkegnmfdaaDoor
open Go.RowKit Go.Deep
set_option linter.unusedSectionVars false
variable [dCp : DecidableEq Cp] [dLim : ∀ k, Decidable (Lim k)] [dBad : ∀ k, Decidable (Bad k)] [dFit : ∀ g z, Decidable (Fit g z)] [dFine : ∀ c, Decidable (Fine c)] [dMint : ∀ c v, Decidable (MintR c v)] [dWho : ∀ x y, Decidable (Whose x y)]
theorem pk_next {w W w' : World} {r : Nat} {c : Cp} (h : W.cell? ⟨r, 0, none⟩ = some (.int .i64 c.k) ∧ W.cell? ⟨r, 1, none⟩ = some (.int .i64 c.o) ∧ W.cell? ⟨r, 2, none⟩ = some (.int .i64 c.r) ∧ W.cell? ⟨r, 3, none⟩ = some (.int .u64 c.b) ∧ W.cell? ⟨r, 4, none⟩ = some (.int .u64 c.g) ∧ W.cell? ⟨r, 5, none⟩ = some (.int .i64 c.z) ∧ W.cell? ⟨0, 0, none⟩ = some (.int .i64 0) ∧ W.cell? ⟨0, 1, none⟩ = some (.int .i64 4) ∧ W.cell? ⟨1, 0, none⟩ = some (.int .i64 4) ∧ W.cell? ⟨1, 1, none⟩ = some (.int .i64 3) ∧ W.cell? ⟨2, 0, none⟩ = some (.int .i64 7) ∧ W.cell? ⟨2, 1, none⟩ = some (.int .i64 7) ∧ W.cell? ⟨3, 0, none⟩ = some (.int .i64 16) ∧ W.cell? ⟨3, 1, none⟩ = some (.int .i64 31) ∧ (4 ≤ r ∧ AtW W (r + 1) 0 0 ∧ Below r w W))
    (b : Below W.heap.size W w') : w'.cell? ⟨r, 0, none⟩ = some (.int .i64 c.k) ∧ w'.cell? ⟨r, 1, none⟩ = some (.int .i64 c.o) ∧ w'.cell? ⟨r, 2, none⟩ = some (.int .i64 c.r) ∧ w'.cell? ⟨r, 3, none⟩ = some (.int .u64 c.b) ∧ w'.cell? ⟨r, 4, none⟩ = some (.int .u64 c.g) ∧ w'.cell? ⟨r, 5, none⟩ = some (.int .i64 c.z) ∧ w'.cell? ⟨0, 0, none⟩ = some (.int .i64 0) ∧ w'.cell? ⟨0, 1, none⟩ = some (.int .i64 4) ∧ w'.cell? ⟨1, 0, none⟩ = some (.int .i64 4) ∧ w'.cell? ⟨1, 1, none⟩ = some (.int .i64 3) ∧ w'.cell? ⟨2, 0, none⟩ = some (.int .i64 7) ∧ w'.cell? ⟨2, 1, none⟩ = some (.int .i64 7) ∧ w'.cell? ⟨3, 0, none⟩ = some (.int .i64 16) ∧ w'.cell? ⟨3, 1, none⟩ = some (.int .i64 31) ∧ (4 ≤ r ∧ AtW w' (r + 1) 0 0 ∧ Below r w w') := by
  obtain ⟨h0, h1, h2, h3, h4, h5, h6, h7, h8, h9, h10, h11, h12, h13, h14, h15, h16⟩ := h
  have hl := h15.lt
  have g : ∀ (q o : Nat), q ≤ r → w'.cell? ⟨q, o, none⟩ = W.cell? ⟨q, o, none⟩ := fun q o hq => b.cell (p := ⟨q, o, none⟩) (by simp only; omega)
  exact ⟨(g _ _ (Nat.le_refl _)).trans h0, (g _ _ (Nat.le_refl _)).trans h1, (g _ _ (Nat.le_refl _)).trans h2, (g _ _ (Nat.le_refl _)).trans h3, (g _ _ (Nat.le_refl _)).trans h4, (g _ _ (Nat.le_refl _)).trans h5, (g _ _ (by omega)).trans h6, (g _ _ (by omega)).trans h7, (g _ _ (by omega)).trans h8, (g _ _ (by omega)).trans h9, (g _ _ (by omega)).trans h10, (g _ _ (by omega)).trans h11, (g _ _ (by omega)).trans h12, (g _ _ (by omega)).trans h13, h14, h15.below b, Below.then h16 b (by omega)⟩
theorem six_new (w : World) (a b c d e f : Obj) : Below w.heap.size w ((((((w.alloc a).alloc b).alloc c).alloc d).alloc e).alloc f) := (five_new w a b c d e).alloc (by simp; omega) f
theorem four_new (w : World) (a b c d : Obj) : Below w.heap.size w ((((w.alloc a).alloc b).alloc c).alloc d) := (((below_new w a).alloc (by simp) b).alloc (by simp; omega) c).alloc (by simp; omega) d
theorem blk0 (w : World) (a : Obj) : (w.alloc a).heap[w.heap.size]? = some a := blk_alloc_new _ _
theorem blk1 (w : World) (a b : Obj) : ((w.alloc a).alloc b).heap[w.heap.size + 1]? = some b := by
  have h := blk_alloc_new (w.alloc a) b
  rwa [World.size_alloc] at h
theorem blkx (w : World) (a b : Obj) : ((w.alloc a).alloc b).heap[w.heap.size]? = some a := (Below.block (below_new (w.alloc a) b) _ (by simp)).trans (blk_alloc_new _ _)
theorem aw_0 (w : World) (x y : Int) (a b c d e : Obj) : AtW ((((((w.alloc (objW x y)).alloc a).alloc b).alloc c).alloc d).alloc e).drew w.heap.size x y :=
  (AtW.new w x y).below ((five_new (w.alloc (objW x y)) a b c d e).drew)
theorem aw_1 (w : World) (x y : Int) (a b c d e : Obj) : AtW ((((((w.alloc a).alloc (objW x y)).alloc b).alloc c).alloc d).alloc e).drew (w.heap.size + 1) x y := by
  have h := AtW.new (w.alloc a) x y
  rw [World.size_alloc] at h
  exact h.below ((four_new _ b c d e).drew)
theorem aw_5 (w : World) (x y : Int) (a b c d e : Obj) : AtW ((((((w.alloc a).alloc b).alloc c).alloc d).alloc e).alloc (objW x y)).drew (w.heap.size + 1 + 1 + 1 + 1 + 1) x y := by
  have h := AtW.new (((((w.alloc a).alloc b).alloc c).alloc d).alloc e) x y
  rw [World.size_alloc, World.size_alloc, World.size_alloc, World.size_alloc, World.size_alloc] at h
  exact h
set_option maxHeartbeats 4000000 in
theorem pack_yes (c : Cp) (w : World) (hl : Laid w) (hf : c.Fits) (h1 : Fine c) :
    Calls Tryd.prog 20 #[encC c] w fun e w' => e = .returned (.tuple #[encW (wordC c) (restC c), .int .i64 0]) ∧ Below w.heap.size w w' := by
  have HF : Hid c.Fits := hf
  have b1 := two_new w (objC c) (objW 0 0)
  have a1 := (AtC.new w c).below (below_new _ (objW 0 0))
  have a2 := AtW.new (w.alloc (objC c)) 0 0
  have l1 := hl.below b1 hl.size
  have hs := hl.size
  rw [World.size_alloc] at a2
  clear hf hl
  have X1 : Hid (Fine c) := h1
  clear h1
  simp only [encC, objC, objW] at b1 a1 a2 l1 ⊢
  go_enter Tryd.func20, Tryd.ntmps20
  go_wp2_with fail
  refine (check_any c _ HF.out).mono ?_
  rintro e w2 ⟨rfl, b2⟩
  rw [checkE, if_pos X1.out]
  have a3 := a1.below b2
  have a4 := a2.below b2
  have b3 := Below.then b1 b2 b1.size
  have l2 := l1.below b2 l1.size
  clear a1 a2 b1 b2 l1
  have hr : w.heap.size + 1 < w2.heap.size := a4.lt
  generalize hr0 : w.heap.size = r at *
  have HR : Hid (w.heap.size = r) := hr0
  clear hr0
  obtain ⟨c0, c1, c2, c3, c4, c5⟩ := a3.cells
  have hS : w2.cell? ⟨r, 0, none⟩ = some (.int .i64 c.k) ∧ w2.cell? ⟨r, 1, none⟩ = some (.int .i64 c.o) ∧ w2.cell? ⟨r, 2, none⟩ = some (.int .i64 c.r) ∧ w2.cell? ⟨r, 3, none⟩ = some (.int .u64 c.b) ∧ w2.cell? ⟨r, 4, none⟩ = some (.int .u64 c.g) ∧ w2.cell? ⟨r, 5, none⟩ = some (.int .i64 c.z) ∧ w2.cell? ⟨0, 0, none⟩ = some (.int .i64 0) ∧ w2.cell? ⟨0, 1, none⟩ = some (.int .i64 4) ∧ w2.cell? ⟨1, 0, none⟩ = some (.int .i64 4) ∧ w2.cell? ⟨1, 1, none⟩ = some (.int .i64 3) ∧ w2.cell? ⟨2, 0, none⟩ = some (.int .i64 7) ∧ w2.cell? ⟨2, 1, none⟩ = some (.int .i64 7) ∧ w2.cell? ⟨3, 0, none⟩ = some (.int .i64 16) ∧ w2.cell? ⟨3, 1, none⟩ = some (.int .i64 31) ∧ (4 ≤ r ∧ AtW w2 (r + 1) 0 0 ∧ Below r w w2) := ⟨c0, c1, c2, c3, c4, c5, l2.k0, l2.k1, l2.r0, l2.r1, l2.b0, l2.b1, l2.o0, l2.o1, hs, a4, b3⟩
  clear a3 a4 b3 l2 hs c0 c1 c2 c3 c4 c5
  obtain ⟨p1, p2, p3, p4, p5, p6, p7, p8⟩ := fine_word X1.out
  have q1 : 0 ≤ c.k ∧ c.k < 16 := ⟨p1, p2⟩
  have q2 : 0 ≤ c.r ∧ c.r ≤ 7 := ⟨p3, p4⟩
  have q3 : 0 ≤ c.z ∧ c.z < 128 := ⟨p5, p6⟩
  have q4 : 0 ≤ c.o ∧ c.o ≤ 2147483647 := ⟨p7, p8⟩
  clear p1 p2 p3 p4 p5 p6 p7 p8
  go_wp2_with fail
  go_cut [5] from 5 to 32 (fun p wx => ∃ q, p = .pointer (some ⟨q, 0, none⟩) ∧ AtW wx q (c.k + 16 * c.r + 128 * c.z + 65536 * c.o) c.b ∧ r + 1 < q ∧ wx.cell? ⟨r, 0, none⟩ = some (.int .i64 c.k) ∧ wx.cell? ⟨r, 4, none⟩ = some (.int .u64 c.g) ∧ AtW wx (r + 1) 0 0 ∧ Below r w wx)
  case first =>
   go_region_held3 (fun W => W.cell? ⟨r, 0, none⟩ = some (.int .i64 c.k) ∧ W.cell? ⟨r, 1, none⟩ = some (.int .i64 c.o) ∧ W.cell? ⟨r, 2, none⟩ = some (.int .i64 c.r) ∧ W.cell? ⟨r, 3, none⟩ = some (.int .u64 c.b) ∧ W.cell? ⟨r, 4, none⟩ = some (.int .u64 c.g) ∧ W.cell? ⟨r, 5, none⟩ = some (.int .i64 c.z) ∧ W.cell? ⟨0, 0, none⟩ = some (.int .i64 0) ∧ W.cell? ⟨0, 1, none⟩ = some (.int .i64 4) ∧ W.cell? ⟨1, 0, none⟩ = some (.int .i64 4) ∧ W.cell? ⟨1, 1, none⟩ = some (.int .i64 3) ∧ W.cell? ⟨2, 0, none⟩ = some (.int .i64 7) ∧ W.cell? ⟨2, 1, none⟩ = some (.int .i64 7) ∧ W.cell? ⟨3, 0, none⟩ = some (.int .i64 16) ∧ W.cell? ⟨3, 1, none⟩ = some (.int .i64 31) ∧ (4 ≤ r ∧ AtW W (r + 1) 0 0 ∧ Below r w W)) ((first | assumption | exact pk_next hS ((Below.refl _ _).drew) | exact pk_next (by assumption) (below_new _ _) | exact pk_next (by assumption) (four_new _ _ _ _ _) | exact pk_next (pk_next hS ((Below.refl _ _).drew)) (six_new _ _ _ _ _ _ _)))
    (first | (go_at_call 32; refine (word_any c.k c.r c.z c.o _ _ (by first | exact blk0 _ _ | exact blk1 _ _ _ | exact blkx _ _ _) q1 q2 q3 q4).mono ?_; rintro e w6 ⟨rfl, rfl⟩))
   all_goals go_wp2_with fail
   all_goals go_meet
   all_goals rename_i hH
   all_goals obtain ⟨t0, _, _, _, t4, _, _, _, _, _, _, _, _, _, _, t15, t16⟩ := hH
   · exact ⟨_, rfl, aw_5 w2 (c.k + 16 * c.r + 128 * c.z + 65536 * c.o) c.b _ _ _ _ _, by omega, t0, t4, t15, t16⟩
   · exact ⟨_, rfl, aw_1 w2 (c.k + 16 * c.r + 128 * c.z + 65536 * c.o) c.b _ _ _ _ _, by omega, t0, t4, t15, t16⟩
   · exact ⟨_, rfl, aw_0 w2 (c.k + 16 * c.r + 128 * c.z + 65536 * c.o) c.b _ _ _ _ _, by omega, t0, t4, t15, t16⟩
  case rest =>
   clear hS
   obtain ⟨q, rfl, a5, hq, g0, g4, a4, b3⟩ := hcut
   have HW : Hid (c.k + 16 * c.r + 128 * c.z + 65536 * c.o = wordC c) := rfl
   rw [HW.out] at a5
   clear q1 q2 q3 q4
   obtain ⟨e0, e1⟩ := a5.cells
   obtain ⟨d0, d1⟩ := a4.cells
   have f5 := a5.frozen
   have f4 := a4.frozen
   have B : Hid (Below r w wc) := b3
   have n1 : ¬ q = r + 1 := by omega
   have n2 : ¬ r + 1 = q := by omega
   clear a4 a5 b3
   by_cases hk : c.k = 2
   · have hk' : (c.k == 2) = true := by simp [hk]
     have HK : Hid (c.k = 2) := hk
     clear hk
     go_wp2
     refine bodyPost_ret (v := .tuple #[encW (wordC c) c.g, .int .i64 0]) ?_ rfl ⟨?_, ?_⟩
     · simp [results, Tryd.f20, go_sem, encW, d0, d1]
     · rw [restC, if_pos HK.out]
     · rw [HR.out]; exact two_sets (B.out.setCell (p := ⟨q, 1, none⟩) (by simp only; omega) _) (by omega) _ _
   · have hk' : (c.k == 2) = false := by simp [hk]
     have HK : Hid (¬ c.k = 2) := hk
     clear hk
     go_wp2
     refine bodyPost_ret (v := .tuple #[encW (wordC c) c.b, .int .i64 0]) ?_ rfl ⟨?_, ?_⟩
     · simp [results, Tryd.f20, go_sem, encW, d0, d1]
     · rw [restC, if_neg HK.out]
     · rw [HR.out]; exact two_sets B.out (by omega) _ _
theorem pack_any (c : Cp) (w : World) (hl : Laid w) (hf : c.Fits) : Calls Tryd.prog 20 #[encC c] w fun e w' => e = .returned (.tuple #[encW (packX c) (packY c), .int .i64 (checkE c)]) ∧ Below w.heap.size w w' := by
  by_cases h1 : Fine c
  · rw [packX, packY, checkE, if_pos h1, if_pos h1, if_pos h1]
    exact pack_yes c w hl hf h1
  · rw [packX, packY, checkE, if_neg h1, if_neg h1, if_neg h1]
    exact pack_no c w hf h1
end Go.Proofs.YtokehmkegnmfdaaDoor

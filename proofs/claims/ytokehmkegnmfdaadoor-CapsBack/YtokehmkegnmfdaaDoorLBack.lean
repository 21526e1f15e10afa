/-
  CapsBack answers true for every input; the program's four places lie as its text lays them, and the card ties that to the text.
-/
import Derived.Test.YtokehmkegnmfdaaDoorCFixed
import Derived.Test.YtokehmkegnmfdaaDoorCSay
namespace Go.Proofs.YtokehmkegnmfdaaDoor.capsBack
open Go.RowKit Go.Deep
set_option linter.unusedSectionVars false
section
variable [dCp : DecidableEq Cp] [dLim : ∀ k, Decidable (Lim k)] [dBad : ∀ k, Decidable (Bad k)] [dFit : ∀ g z, Decidable (Fit g z)] [dFine : ∀ c, Decidable (Fine c)] [dMint : ∀ c v, Decidable (MintR c v)] [dWho : ∀ x y, Decidable (Whose x y)]
theorem next {w W w' : World} {r q1 q2 q3 : Nat} {a b : Cp} {x y p1 p2 o1 o2 : Int} (h : W.cell? ⟨q3, 0, none⟩ = some (.int .i64 a.k) ∧ W.cell? ⟨q3, 1, none⟩ = some (.int .i64 a.o) ∧ W.cell? ⟨q3, 2, none⟩ = some (.int .i64 a.r) ∧ W.cell? ⟨q3, 3, none⟩ = some (.int .u64 a.b) ∧ W.cell? ⟨q3, 4, none⟩ = some (.int .u64 a.g) ∧ W.cell? ⟨q3, 5, none⟩ = some (.int .i64 a.z) ∧ W.cell? ⟨r, 0, none⟩ = some (.int .i64 a.k) ∧ W.cell? ⟨r, 1, none⟩ = some (.int .i64 a.o) ∧ W.cell? ⟨r, 2, none⟩ = some (.int .i64 a.r) ∧ W.cell? ⟨r, 3, none⟩ = some (.int .u64 a.b) ∧ W.cell? ⟨r, 4, none⟩ = some (.int .u64 a.g) ∧ W.cell? ⟨r, 5, none⟩ = some (.int .i64 a.z) ∧ W.cell? ⟨q1, 0, none⟩ = some (.int .u64 p1) ∧ W.cell? ⟨q1, 1, none⟩ = some (.int .u64 p2) ∧ W.cell? ⟨q2, 0, none⟩ = some (.int .u64 o1) ∧ W.cell? ⟨q2, 1, none⟩ = some (.int .u64 o2) ∧ W.cell? ⟨r + 1, 0, none⟩ = some (.int .i64 b.k) ∧ W.cell? ⟨r + 1, 1, none⟩ = some (.int .i64 b.o) ∧ W.cell? ⟨r + 1, 2, none⟩ = some (.int .i64 b.r) ∧ W.cell? ⟨r + 1, 3, none⟩ = some (.int .u64 b.b) ∧ W.cell? ⟨r + 1, 4, none⟩ = some (.int .u64 b.g) ∧ W.cell? ⟨r + 1, 5, none⟩ = some (.int .i64 b.z) ∧ (AtC W r a ∧ AtC W (r + 1) b ∧ AtW W (r + 1 + 1) x y ∧ AtW W q1 p1 p2 ∧ AtW W q2 o1 o2 ∧ AtC W q3 a ∧ Laid W ∧ Below r w W))
    (b2 : Below W.heap.size W w') : w'.cell? ⟨q3, 0, none⟩ = some (.int .i64 a.k) ∧ w'.cell? ⟨q3, 1, none⟩ = some (.int .i64 a.o) ∧ w'.cell? ⟨q3, 2, none⟩ = some (.int .i64 a.r) ∧ w'.cell? ⟨q3, 3, none⟩ = some (.int .u64 a.b) ∧ w'.cell? ⟨q3, 4, none⟩ = some (.int .u64 a.g) ∧ w'.cell? ⟨q3, 5, none⟩ = some (.int .i64 a.z) ∧ w'.cell? ⟨r, 0, none⟩ = some (.int .i64 a.k) ∧ w'.cell? ⟨r, 1, none⟩ = some (.int .i64 a.o) ∧ w'.cell? ⟨r, 2, none⟩ = some (.int .i64 a.r) ∧ w'.cell? ⟨r, 3, none⟩ = some (.int .u64 a.b) ∧ w'.cell? ⟨r, 4, none⟩ = some (.int .u64 a.g) ∧ w'.cell? ⟨r, 5, none⟩ = some (.int .i64 a.z) ∧ w'.cell? ⟨q1, 0, none⟩ = some (.int .u64 p1) ∧ w'.cell? ⟨q1, 1, none⟩ = some (.int .u64 p2) ∧ w'.cell? ⟨q2, 0, none⟩ = some (.int .u64 o1) ∧ w'.cell? ⟨q2, 1, none⟩ = some (.int .u64 o2) ∧ w'.cell? ⟨r + 1, 0, none⟩ = some (.int .i64 b.k) ∧ w'.cell? ⟨r + 1, 1, none⟩ = some (.int .i64 b.o) ∧ w'.cell? ⟨r + 1, 2, none⟩ = some (.int .i64 b.r) ∧ w'.cell? ⟨r + 1, 3, none⟩ = some (.int .u64 b.b) ∧ w'.cell? ⟨r + 1, 4, none⟩ = some (.int .u64 b.g) ∧ w'.cell? ⟨r + 1, 5, none⟩ = some (.int .i64 b.z) ∧ (AtC w' r a ∧ AtC w' (r + 1) b ∧ AtW w' (r + 1 + 1) x y ∧ AtW w' q1 p1 p2 ∧ AtW w' q2 o1 o2 ∧ AtC w' q3 a ∧ Laid w' ∧ Below r w w') := by
  obtain ⟨_, _, _, _, _, _, _, _, _, _, _, _, _, _, _, _, _, _, _, _, _, _, a0, a1, a2, a3, a4, a5, l, b⟩ := h
  have e0 := a0.below b2
  have e1 := a1.below b2
  have e2 := a2.below b2
  have e3 := a3.below b2
  have e4 := a4.below b2
  have e5 := a5.below b2
  obtain ⟨c0_0, c0_1, c0_2, c0_3, c0_4, c0_5⟩ := e5.cells
  obtain ⟨c1_0, c1_1, c1_2, c1_3, c1_4, c1_5⟩ := e0.cells
  obtain ⟨c2_0, c2_1⟩ := e3.cells
  obtain ⟨c3_0, c3_1⟩ := e4.cells
  obtain ⟨c4_0, c4_1, c4_2, c4_3, c4_4, c4_5⟩ := e1.cells
  exact ⟨c0_0, c0_1, c0_2, c0_3, c0_4, c0_5, c1_0, c1_1, c1_2, c1_3, c1_4, c1_5, c2_0, c2_1, c3_0, c3_1, c4_0, c4_1, c4_2, c4_3, c4_4, c4_5, e0, e1, e2, e3, e4, e5, l.below b2 l.size, Below.then b b2 (Nat.le_of_lt a0.lt)⟩
set_option maxHeartbeats 8000000 in
theorem walk_nw (a b c : Cp) (x y p1 p2 o1 o2 E : Int) (w : World) (hl : Laid w) (fa : Hid a.Fits) (fb : Hid b.Fits) (hx : Hid (0 ≤ x ∧ x ≤ 18446744073709551615)) (hy : Hid (0 ≤ y ∧ y ≤ 18446744073709551615)) (P1 : packX a = p1) (P2 : packY a = p2) (P3 : packX b = o1) (P4 : packY b = o2) (E1 : checkE a = 40) (E2 : checkE b = E) (V1 : unpackR x y = c) (V2 : unpackE x y = 0) (fc : Hid c.Fits) (V3 : packX c = x) (V4 : packY c = y) (V5 : checkE c = 0) :
    Calls Tryd.prog 6 #[encC a, encC b, encW x y] w fun e w' => e = .returned (.bool true) ∧ Below w.heap.size w w' := by
  have K1 := fun W hl => pack_any a W hl fa.out
  have K2 := fun W hl => pack_any b W hl fb.out
  have K4 := fun W hl => unpack_any x y W hl hx.out hy.out
  rw [P1, P2, E1] at K1
  rw [P3, P4, E2] at K2
  rw [V1, V2] at K4
  have X1 : Hid (∀ W : World, Laid W → Calls Tryd.prog 20 #[encC a] W fun e w' => e = .returned (.tuple #[encW p1 p2, .int .i64 40]) ∧ Below W.heap.size W w') := K1
  have X2 : Hid (∀ W : World, Laid W → Calls Tryd.prog 20 #[encC b] W fun e w' => e = .returned (.tuple #[encW o1 o2, .int .i64 E]) ∧ Below W.heap.size W w') := K2
  have X4 : Hid (∀ W : World, Laid W → Calls Tryd.prog 22 #[encW x y] W fun e w' => e = .returned (.tuple #[encC c, .int .i64 0]) ∧ Below W.heap.size W w') := K4
  have K5 := fun W hl => pack_any c W hl fc.out
  rw [V3, V4, V5] at K5
  have X5 : Hid (∀ W : World, Laid W → Calls Tryd.prog 20 #[encC c] W fun e w' => e = .returned (.tuple #[encW x y, .int .i64 0]) ∧ Below W.heap.size W w') := K5
  have K6 := fun W => check_any c W fc.out
  rw [V5] at K6
  have X6 : Hid (∀ W : World, Calls Tryd.prog 10 #[encC c] W fun e w' => e = .returned (.int .i64 0) ∧ Below W.heap.size W w') := K6
  clear K1 K2 K4 P1 P2 P3 P4 E1 E2 V1 V2 K5 K6 V3 V4 V5
  have HQ4 : ∀ W, (Op.equalIn 10000 33 (.agg #[.int .u64 x, .int .u64 y]) (.agg #[.int .u64 x, .int .u64 y])).run Tryd.prog W = .ok true W := fun W => by
    have h := eq_words W x y x y
    rwa [show decide (x = x ∧ y = y) = true by simp] at h
  simp only [encC, encW] at *
  have bw := below_new w (objC a)
  have bw := Below.then bw (below_new (w.alloc (objC a)) (objC b)) bw.size
  have bw := Below.then bw (below_new ((w.alloc (objC a)).alloc (objC b)) (objW x y)) bw.size
  have ba := AtC.new w a
  have ba := ba.below (below_new _ (objC b))
  have ba := ba.below (below_new _ (objW x y))
  have bb := AtC.new (w.alloc (objC a)) b
  rw [World.size_alloc] at bb
  have bb := bb.below (below_new _ (objW x y))
  have bt := AtW.new ((w.alloc (objC a)).alloc (objC b)) x y
  rw [World.size_alloc, World.size_alloc] at bt
  have l := hl.below bw hl.size
  have r4 := hl.size
  clear hl
  simp only [objC, objW] at bw l ba bb bt
  go_enter Tryd.func6, Tryd.ntmps6
  go_wp2_with fail
  generalize (((w.alloc (Obj.cells #[.int .i64 a.k, .int .i64 a.o, .int .i64 a.r, .int .u64 a.b, .int .u64 a.g, .int .i64 a.z] 24)).alloc (Obj.cells #[.int .i64 b.k, .int .i64 b.o, .int .i64 b.r, .int .u64 b.b, .int .u64 b.g, .int .i64 b.z] 24)).alloc (Obj.cells #[.int .u64 x, .int .u64 y] 33)) = v0 at *
  generalize hr : w.heap.size = r at *
  have HR : Hid (w.heap.size = r) := hr
  clear hr
  have hb := ba.lt
  refine (X1.out _ l).mono ?_
  rintro e u1 ⟨rfl, b2⟩
  have ba := (ba.below b2).below (below_new _ (objW p1 p2))
  have bb := (bb.below b2).below (below_new _ (objW p1 p2))
  have bt := (bt.below b2).below (below_new _ (objW p1 p2))
  have bw := Below.then (Below.then bw b2 (by omega)) (below_new u1 (objW p1 p2)) (by have := b2.size; omega)
  have l := (l.below b2 l.size).below (below_new u1 (objW p1 p2)) (l.below b2 l.size).size
  have s1 := AtW.new u1 p1 p2
  clear b2 hb
  simp only [objW] at bw l ba bb bt s1
  obtain ⟨bbc0, bbc1, bbc2, bbc3, bbc4, bbc5⟩ := bb.cells
  go_wp2_with fail
  clear bbc0 bbc1 bbc2 bbc3 bbc4 bbc5
  generalize u1.alloc (Obj.cells #[.int .u64 p1, .int .u64 p2] 33) = v1 at *
  generalize u1.heap.size = q1 at *
  have hb := ba.lt
  refine (X2.out _ l).mono ?_
  rintro e u2 ⟨rfl, b2⟩
  have ba := (ba.below b2).below (below_new _ (objW o1 o2))
  have bb := (bb.below b2).below (below_new _ (objW o1 o2))
  have bt := (bt.below b2).below (below_new _ (objW o1 o2))
  have s1 := (s1.below b2).below (below_new _ (objW o1 o2))
  have bw := Below.then (Below.then bw b2 (by omega)) (below_new u2 (objW o1 o2)) (by have := b2.size; omega)
  have l := (l.below b2 l.size).below (below_new u2 (objW o1 o2)) (l.below b2 l.size).size
  have s2 := AtW.new u2 o1 o2
  clear b2 hb
  simp only [objW] at bw l ba bb bt s1 s2
  obtain ⟨btc0, btc1⟩ := bt.cells
  go_wp2_with fail
  clear btc0 btc1
  generalize u2.alloc (Obj.cells #[.int .u64 o1, .int .u64 o2] 33) = v2 at *
  generalize u2.heap.size = q2 at *
  have hb := ba.lt
  refine (X4.out _ l).mono ?_
  rintro e u4 ⟨rfl, b2⟩
  have ba := (ba.below b2).below (below_new _ (objC c))
  have bb := (bb.below b2).below (below_new _ (objC c))
  have bt := (bt.below b2).below (below_new _ (objC c))
  have s1 := (s1.below b2).below (below_new _ (objC c))
  have s2 := (s2.below b2).below (below_new _ (objC c))
  have bw := Below.then (Below.then bw b2 (by omega)) (below_new u4 (objC c)) (by have := b2.size; omega)
  have l := (l.below b2 l.size).below (below_new u4 (objC c)) (l.below b2 l.size).size
  have s4 := AtC.new u4 c
  clear b2 hb
  simp only [objC] at bw l ba bb bt s1 s2 s4
  obtain ⟨s4c0, s4c1, s4c2, s4c3, s4c4, s4c5⟩ := s4.cells
  go_wp2_with fail
  clear s4c0 s4c1 s4c2 s4c3 s4c4 s4c5
  generalize u4.alloc (Obj.cells #[.int .i64 c.k, .int .i64 c.o, .int .i64 c.r, .int .u64 c.b, .int .u64 c.g, .int .i64 c.z] 24) = v4 at *
  generalize u4.heap.size = q4 at *
  have hb := ba.lt
  refine (X5.out _ l).mono ?_
  rintro e u5 ⟨rfl, b2⟩
  have ba := (ba.below b2).below (below_new _ (objW x y))
  have bb := (bb.below b2).below (below_new _ (objW x y))
  have bt := (bt.below b2).below (below_new _ (objW x y))
  have s1 := (s1.below b2).below (below_new _ (objW x y))
  have s2 := (s2.below b2).below (below_new _ (objW x y))
  have s4 := (s4.below b2).below (below_new _ (objW x y))
  have bw := Below.then (Below.then bw b2 (by omega)) (below_new u5 (objW x y)) (by have := b2.size; omega)
  have l := (l.below b2 l.size).below (below_new u5 (objW x y)) (l.below b2 l.size).size
  have s5 := AtW.new u5 x y
  clear b2 hb
  simp only [objW] at bw l ba bb bt s1 s2 s4 s5
  obtain ⟨s4c0, s4c1, s4c2, s4c3, s4c4, s4c5⟩ := s4.cells
  go_wp2_with fail
  clear s4c0 s4c1 s4c2 s4c3 s4c4 s4c5
  generalize u5.alloc (Obj.cells #[.int .u64 x, .int .u64 y] 33) = v5 at *
  generalize u5.heap.size = q5 at *
  have hb := ba.lt
  refine (X6.out _).mono ?_
  rintro e u6 ⟨rfl, b2⟩
  have ba := ba.below b2
  have bb := bb.below b2
  have bt := bt.below b2
  have s1 := s1.below b2
  have s2 := s2.below b2
  have s4 := s4.below b2
  have s5 := s5.below b2
  have bw := Below.then bw b2 (by omega)
  have l := l.below b2 l.size
  have hb' := b2.size
  clear b2
  have hb := ba.lt
  obtain ⟨s5c0, s5c1⟩ := s5.cells
  obtain ⟨btc0, btc1⟩ := bt.cells
  go_wp2_with fail
  clear s5c0 s5c1
  clear btc0 btc1
  refine (fixed_any _ l).mono ?_
  rintro e u7 ⟨rfl, b2⟩
  have B : Hid (Below r w u7) := Below.then bw b2 (by omega)
  clear bw b2 l hb ba bb bt s1 s2 s4 s5
  go_wp2
  go_ret
  exact ⟨rfl, by rw [HR.out]; exact B.out⟩
set_option maxHeartbeats 8000000 in
theorem walk_nn (a b : Cp) (x y p1 p2 o1 o2 E : Int) (w : World) (hl : Laid w) (fa : Hid a.Fits) (fb : Hid b.Fits) (hx : Hid (0 ≤ x ∧ x ≤ 18446744073709551615)) (hy : Hid (0 ≤ y ∧ y ≤ 18446744073709551615)) (P1 : packX a = p1) (P2 : packY a = p2) (P3 : packX b = o1) (P4 : packY b = o2) (E1 : checkE a = 40) (E2 : checkE b = E) (V1 : unpackR x y = no) (V2 : unpackE x y = 40) :
    Calls Tryd.prog 6 #[encC a, encC b, encW x y] w fun e w' => e = .returned (.bool true) ∧ Below w.heap.size w w' := by
  have K1 := fun W hl => pack_any a W hl fa.out
  have K2 := fun W hl => pack_any b W hl fb.out
  have K4 := fun W hl => unpack_any x y W hl hx.out hy.out
  rw [P1, P2, E1] at K1
  rw [P3, P4, E2] at K2
  rw [V1, V2] at K4
  have X1 : Hid (∀ W : World, Laid W → Calls Tryd.prog 20 #[encC a] W fun e w' => e = .returned (.tuple #[encW p1 p2, .int .i64 40]) ∧ Below W.heap.size W w') := K1
  have X2 : Hid (∀ W : World, Laid W → Calls Tryd.prog 20 #[encC b] W fun e w' => e = .returned (.tuple #[encW o1 o2, .int .i64 E]) ∧ Below W.heap.size W w') := K2
  have X4 : Hid (∀ W : World, Laid W → Calls Tryd.prog 22 #[encW x y] W fun e w' => e = .returned (.tuple #[encC no, .int .i64 40]) ∧ Below W.heap.size W w') := K4
  clear K1 K2 K4 P1 P2 P3 P4 E1 E2 V1 V2
  have HQ4 : ∀ W, (Op.equalIn 10000 24 (.agg #[.int .i64 0, .int .i64 0, .int .i64 0, .int .u64 0, .int .u64 0, .int .i64 0]) (.agg #[.int .i64 0, .int .i64 0, .int .i64 0, .int .u64 0, .int .u64 0, .int .i64 0])).run Tryd.prog W = .ok true W := fun W => by
    have h := eq_caps W no no
    rwa [show decide (no = no) = true by simp] at h
  simp only [encC, encW, no] at *
  have bw := below_new w (objC a)
  have bw := Below.then bw (below_new (w.alloc (objC a)) (objC b)) bw.size
  have bw := Below.then bw (below_new ((w.alloc (objC a)).alloc (objC b)) (objW x y)) bw.size
  have ba := AtC.new w a
  have ba := ba.below (below_new _ (objC b))
  have ba := ba.below (below_new _ (objW x y))
  have bb := AtC.new (w.alloc (objC a)) b
  rw [World.size_alloc] at bb
  have bb := bb.below (below_new _ (objW x y))
  have bt := AtW.new ((w.alloc (objC a)).alloc (objC b)) x y
  rw [World.size_alloc, World.size_alloc] at bt
  have l := hl.below bw hl.size
  have r4 := hl.size
  clear hl
  simp only [objC, objW] at bw l ba bb bt
  go_enter Tryd.func6, Tryd.ntmps6
  go_wp2_with fail
  generalize (((w.alloc (Obj.cells #[.int .i64 a.k, .int .i64 a.o, .int .i64 a.r, .int .u64 a.b, .int .u64 a.g, .int .i64 a.z] 24)).alloc (Obj.cells #[.int .i64 b.k, .int .i64 b.o, .int .i64 b.r, .int .u64 b.b, .int .u64 b.g, .int .i64 b.z] 24)).alloc (Obj.cells #[.int .u64 x, .int .u64 y] 33)) = v0 at *
  generalize hr : w.heap.size = r at *
  have HR : Hid (w.heap.size = r) := hr
  clear hr
  have hb := ba.lt
  refine (X1.out _ l).mono ?_
  rintro e u1 ⟨rfl, b2⟩
  have ba := (ba.below b2).below (below_new _ (objW p1 p2))
  have bb := (bb.below b2).below (below_new _ (objW p1 p2))
  have bt := (bt.below b2).below (below_new _ (objW p1 p2))
  have bw := Below.then (Below.then bw b2 (by omega)) (below_new u1 (objW p1 p2)) (by have := b2.size; omega)
  have l := (l.below b2 l.size).below (below_new u1 (objW p1 p2)) (l.below b2 l.size).size
  have s1 := AtW.new u1 p1 p2
  clear b2 hb
  simp only [objW] at bw l ba bb bt s1
  obtain ⟨bbc0, bbc1, bbc2, bbc3, bbc4, bbc5⟩ := bb.cells
  go_wp2_with fail
  clear bbc0 bbc1 bbc2 bbc3 bbc4 bbc5
  generalize u1.alloc (Obj.cells #[.int .u64 p1, .int .u64 p2] 33) = v1 at *
  generalize u1.heap.size = q1 at *
  have hb := ba.lt
  refine (X2.out _ l).mono ?_
  rintro e u2 ⟨rfl, b2⟩
  have ba := (ba.below b2).below (below_new _ (objW o1 o2))
  have bb := (bb.below b2).below (below_new _ (objW o1 o2))
  have bt := (bt.below b2).below (below_new _ (objW o1 o2))
  have s1 := (s1.below b2).below (below_new _ (objW o1 o2))
  have bw := Below.then (Below.then bw b2 (by omega)) (below_new u2 (objW o1 o2)) (by have := b2.size; omega)
  have l := (l.below b2 l.size).below (below_new u2 (objW o1 o2)) (l.below b2 l.size).size
  have s2 := AtW.new u2 o1 o2
  clear b2 hb
  simp only [objW] at bw l ba bb bt s1 s2
  obtain ⟨btc0, btc1⟩ := bt.cells
  go_wp2_with fail
  clear btc0 btc1
  generalize u2.alloc (Obj.cells #[.int .u64 o1, .int .u64 o2] 33) = v2 at *
  generalize u2.heap.size = q2 at *
  have hb := ba.lt
  refine (X4.out _ l).mono ?_
  rintro e u4 ⟨rfl, b2⟩
  have ba := (ba.below b2).below (below_new _ (objC ⟨0, 0, 0, 0, 0, 0⟩))
  have bb := (bb.below b2).below (below_new _ (objC ⟨0, 0, 0, 0, 0, 0⟩))
  have bt := (bt.below b2).below (below_new _ (objC ⟨0, 0, 0, 0, 0, 0⟩))
  have s1 := (s1.below b2).below (below_new _ (objC ⟨0, 0, 0, 0, 0, 0⟩))
  have s2 := (s2.below b2).below (below_new _ (objC ⟨0, 0, 0, 0, 0, 0⟩))
  have bw := Below.then (Below.then bw b2 (by omega)) (below_new u4 (objC ⟨0, 0, 0, 0, 0, 0⟩)) (by have := b2.size; omega)
  have l := (l.below b2 l.size).below (below_new u4 (objC ⟨0, 0, 0, 0, 0, 0⟩)) (l.below b2 l.size).size
  have s4 := AtC.new u4 ⟨0, 0, 0, 0, 0, 0⟩
  clear b2 hb
  simp only [objC] at bw l ba bb bt s1 s2 s4
  obtain ⟨s4c0, s4c1, s4c2, s4c3, s4c4, s4c5⟩ := s4.cells
  go_wp2_with fail
  clear s4c0 s4c1 s4c2 s4c3 s4c4 s4c5
  generalize u4.alloc (Obj.cells #[.int .i64 0, .int .i64 0, .int .i64 0, .int .u64 0, .int .u64 0, .int .i64 0] 24) = v4 at *
  generalize u4.heap.size = q4 at *
  have hb := ba.lt
  refine (fixed_any _ l).mono ?_
  rintro e u7 ⟨rfl, b2⟩
  have B : Hid (Below r w u7) := Below.then bw b2 (by omega)
  clear bw b2 l hb ba bb bt s1 s2 s4
  go_wp2
  go_ret
  exact ⟨rfl, by rw [HR.out]; exact B.out⟩
set_option maxHeartbeats 8000000 in
theorem walk_fw (a b c : Cp) (x y p1 p2 o1 o2 : Int) (w : World) (hl : Laid w) (fa : Hid a.Fits) (fb : Hid b.Fits) (hx : Hid (0 ≤ x ∧ x ≤ 18446744073709551615)) (hy : Hid (0 ≤ y ∧ y ≤ 18446744073709551615)) (P1 : packX a = p1) (P2 : packY a = p2) (P3 : packX b = o1) (P4 : packY b = o2) (E1 : checkE a = 0) (E2 : checkE b = 40) (U1 : unpackR p1 p2 = a) (U2 : unpackE p1 p2 = 0) (hp1 : 0 ≤ p1 ∧ p1 ≤ 18446744073709551615) (hp2 : 0 ≤ p2 ∧ p2 ≤ 18446744073709551615) (V1 : unpackR x y = c) (V2 : unpackE x y = 0) (fc : Hid c.Fits) (V3 : packX c = x) (V4 : packY c = y) (V5 : checkE c = 0) :
    Calls Tryd.prog 6 #[encC a, encC b, encW x y] w fun e w' => e = .returned (.bool true) ∧ Below w.heap.size w w' := by
  have K1 := fun W hl => pack_any a W hl fa.out
  have K2 := fun W hl => pack_any b W hl fb.out
  have K4 := fun W hl => unpack_any x y W hl hx.out hy.out
  rw [P1, P2, E1] at K1
  rw [P3, P4, E2] at K2
  rw [V1, V2] at K4
  have X1 : Hid (∀ W : World, Laid W → Calls Tryd.prog 20 #[encC a] W fun e w' => e = .returned (.tuple #[encW p1 p2, .int .i64 0]) ∧ Below W.heap.size W w') := K1
  have X2 : Hid (∀ W : World, Laid W → Calls Tryd.prog 20 #[encC b] W fun e w' => e = .returned (.tuple #[encW o1 o2, .int .i64 40]) ∧ Below W.heap.size W w') := K2
  have X4 : Hid (∀ W : World, Laid W → Calls Tryd.prog 22 #[encW x y] W fun e w' => e = .returned (.tuple #[encC c, .int .i64 0]) ∧ Below W.heap.size W w') := K4
  have K3 := fun W hl => unpack_any p1 p2 W hl hp1 hp2
  rw [U1, U2] at K3
  have X3 : Hid (∀ W : World, Laid W → Calls Tryd.prog 22 #[encW p1 p2] W fun e w' => e = .returned (.tuple #[encC a, .int .i64 0]) ∧ Below W.heap.size W w') := K3
  have K5 := fun W hl => pack_any c W hl fc.out
  rw [V3, V4, V5] at K5
  have X5 : Hid (∀ W : World, Laid W → Calls Tryd.prog 20 #[encC c] W fun e w' => e = .returned (.tuple #[encW x y, .int .i64 0]) ∧ Below W.heap.size W w') := K5
  have K6 := fun W => check_any c W fc.out
  rw [V5] at K6
  have X6 : Hid (∀ W : World, Calls Tryd.prog 10 #[encC c] W fun e w' => e = .returned (.int .i64 0) ∧ Below W.heap.size W w') := K6
  clear K1 K2 K4 P1 P2 P3 P4 E1 E2 V1 V2 K3 U1 U2 hp1 hp2 K5 K6 V3 V4 V5
  have HQ1 : ∀ W, (Op.equalIn 10000 24 (.agg #[.int .i64 a.k, .int .i64 a.o, .int .i64 a.r, .int .u64 a.b, .int .u64 a.g, .int .i64 a.z]) (.agg #[.int .i64 a.k, .int .i64 a.o, .int .i64 a.r, .int .u64 a.b, .int .u64 a.g, .int .i64 a.z])).run Tryd.prog W = .ok true W := fun W => by
    have h := eq_caps W a a
    rwa [show decide (a = a) = true by simp] at h
  have HQ4 : ∀ W, (Op.equalIn 10000 33 (.agg #[.int .u64 x, .int .u64 y]) (.agg #[.int .u64 x, .int .u64 y])).run Tryd.prog W = .ok true W := fun W => by
    have h := eq_words W x y x y
    rwa [show decide (x = x ∧ y = y) = true by simp] at h
  simp only [encC, encW] at *
  have bw := below_new w (objC a)
  have bw := Below.then bw (below_new (w.alloc (objC a)) (objC b)) bw.size
  have bw := Below.then bw (below_new ((w.alloc (objC a)).alloc (objC b)) (objW x y)) bw.size
  have ba := AtC.new w a
  have ba := ba.below (below_new _ (objC b))
  have ba := ba.below (below_new _ (objW x y))
  have bb := AtC.new (w.alloc (objC a)) b
  rw [World.size_alloc] at bb
  have bb := bb.below (below_new _ (objW x y))
  have bt := AtW.new ((w.alloc (objC a)).alloc (objC b)) x y
  rw [World.size_alloc, World.size_alloc] at bt
  have l := hl.below bw hl.size
  have r4 := hl.size
  clear hl
  simp only [objC, objW] at bw l ba bb bt
  go_enter Tryd.func6, Tryd.ntmps6
  go_wp2_with fail
  generalize (((w.alloc (Obj.cells #[.int .i64 a.k, .int .i64 a.o, .int .i64 a.r, .int .u64 a.b, .int .u64 a.g, .int .i64 a.z] 24)).alloc (Obj.cells #[.int .i64 b.k, .int .i64 b.o, .int .i64 b.r, .int .u64 b.b, .int .u64 b.g, .int .i64 b.z] 24)).alloc (Obj.cells #[.int .u64 x, .int .u64 y] 33)) = v0 at *
  generalize hr : w.heap.size = r at *
  have HR : Hid (w.heap.size = r) := hr
  clear hr
  have hb := ba.lt
  refine (X1.out _ l).mono ?_
  rintro e u1 ⟨rfl, b2⟩
  have ba := (ba.below b2).below (below_new _ (objW p1 p2))
  have bb := (bb.below b2).below (below_new _ (objW p1 p2))
  have bt := (bt.below b2).below (below_new _ (objW p1 p2))
  have bw := Below.then (Below.then bw b2 (by omega)) (below_new u1 (objW p1 p2)) (by have := b2.size; omega)
  have l := (l.below b2 l.size).below (below_new u1 (objW p1 p2)) (l.below b2 l.size).size
  have s1 := AtW.new u1 p1 p2
  clear b2 hb
  simp only [objW] at bw l ba bb bt s1
  obtain ⟨bbc0, bbc1, bbc2, bbc3, bbc4, bbc5⟩ := bb.cells
  go_wp2_with fail
  clear bbc0 bbc1 bbc2 bbc3 bbc4 bbc5
  generalize u1.alloc (Obj.cells #[.int .u64 p1, .int .u64 p2] 33) = v1 at *
  generalize u1.heap.size = q1 at *
  have hb := ba.lt
  refine (X2.out _ l).mono ?_
  rintro e u2 ⟨rfl, b2⟩
  have ba := (ba.below b2).below (below_new _ (objW o1 o2))
  have bb := (bb.below b2).below (below_new _ (objW o1 o2))
  have bt := (bt.below b2).below (below_new _ (objW o1 o2))
  have s1 := (s1.below b2).below (below_new _ (objW o1 o2))
  have bw := Below.then (Below.then bw b2 (by omega)) (below_new u2 (objW o1 o2)) (by have := b2.size; omega)
  have l := (l.below b2 l.size).below (below_new u2 (objW o1 o2)) (l.below b2 l.size).size
  have s2 := AtW.new u2 o1 o2
  clear b2 hb
  simp only [objW] at bw l ba bb bt s1 s2
  obtain ⟨s1c0, s1c1⟩ := s1.cells
  go_wp2_with fail
  clear s1c0 s1c1
  generalize u2.alloc (Obj.cells #[.int .u64 o1, .int .u64 o2] 33) = v2 at *
  generalize u2.heap.size = q2 at *
  have hb := ba.lt
  refine (X3.out _ l).mono ?_
  rintro e u3 ⟨rfl, b2⟩
  have ba := (ba.below b2).below (below_new _ (objC a))
  have bb := (bb.below b2).below (below_new _ (objC a))
  have bt := (bt.below b2).below (below_new _ (objC a))
  have s1 := (s1.below b2).below (below_new _ (objC a))
  have s2 := (s2.below b2).below (below_new _ (objC a))
  have bw := Below.then (Below.then bw b2 (by omega)) (below_new u3 (objC a)) (by have := b2.size; omega)
  have l := (l.below b2 l.size).below (below_new u3 (objC a)) (l.below b2 l.size).size
  have s3 := AtC.new u3 a
  clear b2 hb
  simp only [objC] at bw l ba bb bt s1 s2 s3
  go_wp2_with fail
  generalize u3.alloc (Obj.cells #[.int .i64 a.k, .int .i64 a.o, .int .i64 a.r, .int .u64 a.b, .int .u64 a.g, .int .i64 a.z] 24) = v3 at *
  generalize u3.heap.size = q3 at *
  have hb := ba.lt
  obtain ⟨s3c0, s3c1, s3c2, s3c3, s3c4, s3c5⟩ := s3.cells
  obtain ⟨bac0, bac1, bac2, bac3, bac4, bac5⟩ := ba.cells
  obtain ⟨s1c0, s1c1⟩ := s1.cells
  obtain ⟨s2c0, s2c1⟩ := s2.cells
  obtain ⟨bbc0, bbc1, bbc2, bbc3, bbc4, bbc5⟩ := bb.cells
  have Hba : Hid (AtC v3 r a) := ba
  have Hbb : Hid (AtC v3 (r + 1) b) := bb
  have Hbt : Hid (AtW v3 (r + 1 + 1) x y) := bt
  have Hs1 : Hid (AtW v3 q1 p1 p2) := s1
  have Hs2 : Hid (AtW v3 q2 o1 o2) := s2
  have Hs3 : Hid (AtC v3 q3 a) := s3
  have HL : Hid (Laid v3) := l
  have HB : Hid (Below r w v3) := bw
  clear ba bb bt s1 s2 s3 l bw hb
  go_quiet (fail)
  have ba : AtC (v3.drewN nq) r a := Hba.out
  have bb : AtC (v3.drewN nq) (r + 1) b := Hbb.out
  have bt : AtW (v3.drewN nq) (r + 1 + 1) x y := Hbt.out
  have s1 : AtW (v3.drewN nq) q1 p1 p2 := Hs1.out
  have s2 : AtW (v3.drewN nq) q2 o1 o2 := Hs2.out
  have s3 : AtC (v3.drewN nq) q3 a := Hs3.out
  have l : Laid (v3.drewN nq) := ⟨HL.out.size, HL.out.k0, HL.out.k1, HL.out.r0, HL.out.r1, HL.out.b0, HL.out.b1, HL.out.o0, HL.out.o1⟩
  have bw : Below r w (v3.drewN nq) := ⟨HB.out.os, HB.out.tape, HB.out.output, HB.out.size, HB.out.block⟩
  clear Hba Hbb Hbt Hs1 Hs2 Hs3 s3c0 s3c1 s3c2 s3c3 s3c4 s3c5 bac0 bac1 bac2 bac3 bac4 bac5 s1c0 s1c1 s2c0 s2c1 bbc0 bbc1 bbc2 bbc3 bbc4 bbc5 HL HB
  generalize v3.drewN nq = v3d at *
  have hb := ba.lt
  obtain ⟨btc0, btc1⟩ := bt.cells
  go_wp2_with fail
  clear btc0 btc1
  refine (X4.out _ l).mono ?_
  rintro e u4 ⟨rfl, b2⟩
  have ba := (ba.below b2).below (below_new _ (objC c))
  have bb := (bb.below b2).below (below_new _ (objC c))
  have bt := (bt.below b2).below (below_new _ (objC c))
  have s1 := (s1.below b2).below (below_new _ (objC c))
  have s2 := (s2.below b2).below (below_new _ (objC c))
  have s3 := (s3.below b2).below (below_new _ (objC c))
  have bw := Below.then (Below.then bw b2 (by omega)) (below_new u4 (objC c)) (by have := b2.size; omega)
  have l := (l.below b2 l.size).below (below_new u4 (objC c)) (l.below b2 l.size).size
  have s4 := AtC.new u4 c
  clear b2 hb
  simp only [objC] at bw l ba bb bt s1 s2 s3 s4
  obtain ⟨s4c0, s4c1, s4c2, s4c3, s4c4, s4c5⟩ := s4.cells
  go_wp2_with fail
  clear s4c0 s4c1 s4c2 s4c3 s4c4 s4c5
  generalize u4.alloc (Obj.cells #[.int .i64 c.k, .int .i64 c.o, .int .i64 c.r, .int .u64 c.b, .int .u64 c.g, .int .i64 c.z] 24) = v4 at *
  generalize u4.heap.size = q4 at *
  have hb := ba.lt
  refine (X5.out _ l).mono ?_
  rintro e u5 ⟨rfl, b2⟩
  have ba := (ba.below b2).below (below_new _ (objW x y))
  have bb := (bb.below b2).below (below_new _ (objW x y))
  have bt := (bt.below b2).below (below_new _ (objW x y))
  have s1 := (s1.below b2).below (below_new _ (objW x y))
  have s2 := (s2.below b2).below (below_new _ (objW x y))
  have s3 := (s3.below b2).below (below_new _ (objW x y))
  have s4 := (s4.below b2).below (below_new _ (objW x y))
  have bw := Below.then (Below.then bw b2 (by omega)) (below_new u5 (objW x y)) (by have := b2.size; omega)
  have l := (l.below b2 l.size).below (below_new u5 (objW x y)) (l.below b2 l.size).size
  have s5 := AtW.new u5 x y
  clear b2 hb
  simp only [objW] at bw l ba bb bt s1 s2 s3 s4 s5
  obtain ⟨s4c0, s4c1, s4c2, s4c3, s4c4, s4c5⟩ := s4.cells
  go_wp2_with fail
  clear s4c0 s4c1 s4c2 s4c3 s4c4 s4c5
  generalize u5.alloc (Obj.cells #[.int .u64 x, .int .u64 y] 33) = v5 at *
  generalize u5.heap.size = q5 at *
  have hb := ba.lt
  refine (X6.out _).mono ?_
  rintro e u6 ⟨rfl, b2⟩
  have ba := ba.below b2
  have bb := bb.below b2
  have bt := bt.below b2
  have s1 := s1.below b2
  have s2 := s2.below b2
  have s3 := s3.below b2
  have s4 := s4.below b2
  have s5 := s5.below b2
  have bw := Below.then bw b2 (by omega)
  have l := l.below b2 l.size
  have hb' := b2.size
  clear b2
  have hb := ba.lt
  obtain ⟨s5c0, s5c1⟩ := s5.cells
  obtain ⟨btc0, btc1⟩ := bt.cells
  go_wp2_with fail
  clear s5c0 s5c1
  clear btc0 btc1
  refine (fixed_any _ l).mono ?_
  rintro e u7 ⟨rfl, b2⟩
  have B : Hid (Below r w u7) := Below.then bw b2 (by omega)
  clear bw b2 l hb ba bb bt s1 s2 s3 s4 s5
  go_wp2
  go_ret
  exact ⟨rfl, by rw [HR.out]; exact B.out⟩
set_option maxHeartbeats 8000000 in
theorem walk_fn (a b : Cp) (x y p1 p2 o1 o2 : Int) (w : World) (hl : Laid w) (fa : Hid a.Fits) (fb : Hid b.Fits) (hx : Hid (0 ≤ x ∧ x ≤ 18446744073709551615)) (hy : Hid (0 ≤ y ∧ y ≤ 18446744073709551615)) (P1 : packX a = p1) (P2 : packY a = p2) (P3 : packX b = o1) (P4 : packY b = o2) (E1 : checkE a = 0) (E2 : checkE b = 40) (U1 : unpackR p1 p2 = a) (U2 : unpackE p1 p2 = 0) (hp1 : 0 ≤ p1 ∧ p1 ≤ 18446744073709551615) (hp2 : 0 ≤ p2 ∧ p2 ≤ 18446744073709551615) (V1 : unpackR x y = no) (V2 : unpackE x y = 40) :
    Calls Tryd.prog 6 #[encC a, encC b, encW x y] w fun e w' => e = .returned (.bool true) ∧ Below w.heap.size w w' := by
  have K1 := fun W hl => pack_any a W hl fa.out
  have K2 := fun W hl => pack_any b W hl fb.out
  have K4 := fun W hl => unpack_any x y W hl hx.out hy.out
  rw [P1, P2, E1] at K1
  rw [P3, P4, E2] at K2
  rw [V1, V2] at K4
  have X1 : Hid (∀ W : World, Laid W → Calls Tryd.prog 20 #[encC a] W fun e w' => e = .returned (.tuple #[encW p1 p2, .int .i64 0]) ∧ Below W.heap.size W w') := K1
  have X2 : Hid (∀ W : World, Laid W → Calls Tryd.prog 20 #[encC b] W fun e w' => e = .returned (.tuple #[encW o1 o2, .int .i64 40]) ∧ Below W.heap.size W w') := K2
  have X4 : Hid (∀ W : World, Laid W → Calls Tryd.prog 22 #[encW x y] W fun e w' => e = .returned (.tuple #[encC no, .int .i64 40]) ∧ Below W.heap.size W w') := K4
  have K3 := fun W hl => unpack_any p1 p2 W hl hp1 hp2
  rw [U1, U2] at K3
  have X3 : Hid (∀ W : World, Laid W → Calls Tryd.prog 22 #[encW p1 p2] W fun e w' => e = .returned (.tuple #[encC a, .int .i64 0]) ∧ Below W.heap.size W w') := K3
  clear K1 K2 K4 P1 P2 P3 P4 E1 E2 V1 V2 K3 U1 U2 hp1 hp2
  have HQ1 : ∀ W, (Op.equalIn 10000 24 (.agg #[.int .i64 a.k, .int .i64 a.o, .int .i64 a.r, .int .u64 a.b, .int .u64 a.g, .int .i64 a.z]) (.agg #[.int .i64 a.k, .int .i64 a.o, .int .i64 a.r, .int .u64 a.b, .int .u64 a.g, .int .i64 a.z])).run Tryd.prog W = .ok true W := fun W => by
    have h := eq_caps W a a
    rwa [show decide (a = a) = true by simp] at h
  have HQ4 : ∀ W, (Op.equalIn 10000 24 (.agg #[.int .i64 0, .int .i64 0, .int .i64 0, .int .u64 0, .int .u64 0, .int .i64 0]) (.agg #[.int .i64 0, .int .i64 0, .int .i64 0, .int .u64 0, .int .u64 0, .int .i64 0])).run Tryd.prog W = .ok true W := fun W => by
    have h := eq_caps W no no
    rwa [show decide (no = no) = true by simp] at h
  simp only [encC, encW, no] at *
  have bw := below_new w (objC a)
  have bw := Below.then bw (below_new (w.alloc (objC a)) (objC b)) bw.size
  have bw := Below.then bw (below_new ((w.alloc (objC a)).alloc (objC b)) (objW x y)) bw.size
  have ba := AtC.new w a
  have ba := ba.below (below_new _ (objC b))
  have ba := ba.below (below_new _ (objW x y))
  have bb := AtC.new (w.alloc (objC a)) b
  rw [World.size_alloc] at bb
  have bb := bb.below (below_new _ (objW x y))
  have bt := AtW.new ((w.alloc (objC a)).alloc (objC b)) x y
  rw [World.size_alloc, World.size_alloc] at bt
  have l := hl.below bw hl.size
  have r4 := hl.size
  clear hl
  simp only [objC, objW] at bw l ba bb bt
  go_enter Tryd.func6, Tryd.ntmps6
  go_wp2_with fail
  generalize (((w.alloc (Obj.cells #[.int .i64 a.k, .int .i64 a.o, .int .i64 a.r, .int .u64 a.b, .int .u64 a.g, .int .i64 a.z] 24)).alloc (Obj.cells #[.int .i64 b.k, .int .i64 b.o, .int .i64 b.r, .int .u64 b.b, .int .u64 b.g, .int .i64 b.z] 24)).alloc (Obj.cells #[.int .u64 x, .int .u64 y] 33)) = v0 at *
  generalize hr : w.heap.size = r at *
  have HR : Hid (w.heap.size = r) := hr
  clear hr
  have hb := ba.lt
  refine (X1.out _ l).mono ?_
  rintro e u1 ⟨rfl, b2⟩
  have ba := (ba.below b2).below (below_new _ (objW p1 p2))
  have bb := (bb.below b2).below (below_new _ (objW p1 p2))
  have bt := (bt.below b2).below (below_new _ (objW p1 p2))
  have bw := Below.then (Below.then bw b2 (by omega)) (below_new u1 (objW p1 p2)) (by have := b2.size; omega)
  have l := (l.below b2 l.size).below (below_new u1 (objW p1 p2)) (l.below b2 l.size).size
  have s1 := AtW.new u1 p1 p2
  clear b2 hb
  simp only [objW] at bw l ba bb bt s1
  obtain ⟨bbc0, bbc1, bbc2, bbc3, bbc4, bbc5⟩ := bb.cells
  go_wp2_with fail
  clear bbc0 bbc1 bbc2 bbc3 bbc4 bbc5
  generalize u1.alloc (Obj.cells #[.int .u64 p1, .int .u64 p2] 33) = v1 at *
  generalize u1.heap.size = q1 at *
  have hb := ba.lt
  refine (X2.out _ l).mono ?_
  rintro e u2 ⟨rfl, b2⟩
  have ba := (ba.below b2).below (below_new _ (objW o1 o2))
  have bb := (bb.below b2).below (below_new _ (objW o1 o2))
  have bt := (bt.below b2).below (below_new _ (objW o1 o2))
  have s1 := (s1.below b2).below (below_new _ (objW o1 o2))
  have bw := Below.then (Below.then bw b2 (by omega)) (below_new u2 (objW o1 o2)) (by have := b2.size; omega)
  have l := (l.below b2 l.size).below (below_new u2 (objW o1 o2)) (l.below b2 l.size).size
  have s2 := AtW.new u2 o1 o2
  clear b2 hb
  simp only [objW] at bw l ba bb bt s1 s2
  obtain ⟨s1c0, s1c1⟩ := s1.cells
  go_wp2_with fail
  clear s1c0 s1c1
  generalize u2.alloc (Obj.cells #[.int .u64 o1, .int .u64 o2] 33) = v2 at *
  generalize u2.heap.size = q2 at *
  have hb := ba.lt
  refine (X3.out _ l).mono ?_
  rintro e u3 ⟨rfl, b2⟩
  have ba := (ba.below b2).below (below_new _ (objC a))
  have bb := (bb.below b2).below (below_new _ (objC a))
  have bt := (bt.below b2).below (below_new _ (objC a))
  have s1 := (s1.below b2).below (below_new _ (objC a))
  have s2 := (s2.below b2).below (below_new _ (objC a))
  have bw := Below.then (Below.then bw b2 (by omega)) (below_new u3 (objC a)) (by have := b2.size; omega)
  have l := (l.below b2 l.size).below (below_new u3 (objC a)) (l.below b2 l.size).size
  have s3 := AtC.new u3 a
  clear b2 hb
  simp only [objC] at bw l ba bb bt s1 s2 s3
  go_wp2_with fail
  generalize u3.alloc (Obj.cells #[.int .i64 a.k, .int .i64 a.o, .int .i64 a.r, .int .u64 a.b, .int .u64 a.g, .int .i64 a.z] 24) = v3 at *
  generalize u3.heap.size = q3 at *
  have hb := ba.lt
  obtain ⟨s3c0, s3c1, s3c2, s3c3, s3c4, s3c5⟩ := s3.cells
  obtain ⟨bac0, bac1, bac2, bac3, bac4, bac5⟩ := ba.cells
  obtain ⟨s1c0, s1c1⟩ := s1.cells
  obtain ⟨s2c0, s2c1⟩ := s2.cells
  obtain ⟨bbc0, bbc1, bbc2, bbc3, bbc4, bbc5⟩ := bb.cells
  have Hba : Hid (AtC v3 r a) := ba
  have Hbb : Hid (AtC v3 (r + 1) b) := bb
  have Hbt : Hid (AtW v3 (r + 1 + 1) x y) := bt
  have Hs1 : Hid (AtW v3 q1 p1 p2) := s1
  have Hs2 : Hid (AtW v3 q2 o1 o2) := s2
  have Hs3 : Hid (AtC v3 q3 a) := s3
  have HL : Hid (Laid v3) := l
  have HB : Hid (Below r w v3) := bw
  clear ba bb bt s1 s2 s3 l bw hb
  go_quiet (fail)
  have ba : AtC (v3.drewN nq) r a := Hba.out
  have bb : AtC (v3.drewN nq) (r + 1) b := Hbb.out
  have bt : AtW (v3.drewN nq) (r + 1 + 1) x y := Hbt.out
  have s1 : AtW (v3.drewN nq) q1 p1 p2 := Hs1.out
  have s2 : AtW (v3.drewN nq) q2 o1 o2 := Hs2.out
  have s3 : AtC (v3.drewN nq) q3 a := Hs3.out
  have l : Laid (v3.drewN nq) := ⟨HL.out.size, HL.out.k0, HL.out.k1, HL.out.r0, HL.out.r1, HL.out.b0, HL.out.b1, HL.out.o0, HL.out.o1⟩
  have bw : Below r w (v3.drewN nq) := ⟨HB.out.os, HB.out.tape, HB.out.output, HB.out.size, HB.out.block⟩
  clear Hba Hbb Hbt Hs1 Hs2 Hs3 s3c0 s3c1 s3c2 s3c3 s3c4 s3c5 bac0 bac1 bac2 bac3 bac4 bac5 s1c0 s1c1 s2c0 s2c1 bbc0 bbc1 bbc2 bbc3 bbc4 bbc5 HL HB
  generalize v3.drewN nq = v3d at *
  have hb := ba.lt
  obtain ⟨btc0, btc1⟩ := bt.cells
  go_wp2_with fail
  clear btc0 btc1
  refine (X4.out _ l).mono ?_
  rintro e u4 ⟨rfl, b2⟩
  have ba := (ba.below b2).below (below_new _ (objC ⟨0, 0, 0, 0, 0, 0⟩))
  have bb := (bb.below b2).below (below_new _ (objC ⟨0, 0, 0, 0, 0, 0⟩))
  have bt := (bt.below b2).below (below_new _ (objC ⟨0, 0, 0, 0, 0, 0⟩))
  have s1 := (s1.below b2).below (below_new _ (objC ⟨0, 0, 0, 0, 0, 0⟩))
  have s2 := (s2.below b2).below (below_new _ (objC ⟨0, 0, 0, 0, 0, 0⟩))
  have s3 := (s3.below b2).below (below_new _ (objC ⟨0, 0, 0, 0, 0, 0⟩))
  have bw := Below.then (Below.then bw b2 (by omega)) (below_new u4 (objC ⟨0, 0, 0, 0, 0, 0⟩)) (by have := b2.size; omega)
  have l := (l.below b2 l.size).below (below_new u4 (objC ⟨0, 0, 0, 0, 0, 0⟩)) (l.below b2 l.size).size
  have s4 := AtC.new u4 ⟨0, 0, 0, 0, 0, 0⟩
  clear b2 hb
  simp only [objC] at bw l ba bb bt s1 s2 s3 s4
  obtain ⟨s4c0, s4c1, s4c2, s4c3, s4c4, s4c5⟩ := s4.cells
  go_wp2_with fail
  clear s4c0 s4c1 s4c2 s4c3 s4c4 s4c5
  generalize u4.alloc (Obj.cells #[.int .i64 0, .int .i64 0, .int .i64 0, .int .u64 0, .int .u64 0, .int .i64 0] 24) = v4 at *
  generalize u4.heap.size = q4 at *
  have hb := ba.lt
  refine (fixed_any _ l).mono ?_
  rintro e u7 ⟨rfl, b2⟩
  have B : Hid (Below r w u7) := Below.then bw b2 (by omega)
  clear bw b2 l hb ba bb bt s1 s2 s3 s4
  go_wp2
  go_ret
  exact ⟨rfl, by rw [HR.out]; exact B.out⟩
set_option maxHeartbeats 8000000 in
theorem walk_gw (a b c : Cp) (x y p1 p2 o1 o2 : Int) (β : Bool) (w : World) (hl : Laid w) (fa : Hid a.Fits) (fb : Hid b.Fits) (hx : Hid (0 ≤ x ∧ x ≤ 18446744073709551615)) (hy : Hid (0 ≤ y ∧ y ≤ 18446744073709551615)) (P1 : packX a = p1) (P2 : packY a = p2) (P3 : packX b = o1) (P4 : packY b = o2) (E1 : checkE a = 0) (E2 : checkE b = 0) (U1 : unpackR p1 p2 = a) (U2 : unpackE p1 p2 = 0) (hp1 : 0 ≤ p1 ∧ p1 ≤ 18446744073709551615) (hp2 : 0 ≤ p2 ∧ p2 ≤ 18446744073709551615) (Q2 : decide (p1 = o1 ∧ p2 = o2) = β) (Q3 : decide (a = b) = β) (V1 : unpackR x y = c) (V2 : unpackE x y = 0) (fc : Hid c.Fits) (V3 : packX c = x) (V4 : packY c = y) (V5 : checkE c = 0) :
    Calls Tryd.prog 6 #[encC a, encC b, encW x y] w fun e w' => e = .returned (.bool true) ∧ Below w.heap.size w w' := by
  have K1 := fun W hl => pack_any a W hl fa.out
  have K2 := fun W hl => pack_any b W hl fb.out
  have K4 := fun W hl => unpack_any x y W hl hx.out hy.out
  rw [P1, P2, E1] at K1
  rw [P3, P4, E2] at K2
  rw [V1, V2] at K4
  have X1 : Hid (∀ W : World, Laid W → Calls Tryd.prog 20 #[encC a] W fun e w' => e = .returned (.tuple #[encW p1 p2, .int .i64 0]) ∧ Below W.heap.size W w') := K1
  have X2 : Hid (∀ W : World, Laid W → Calls Tryd.prog 20 #[encC b] W fun e w' => e = .returned (.tuple #[encW o1 o2, .int .i64 0]) ∧ Below W.heap.size W w') := K2
  have X4 : Hid (∀ W : World, Laid W → Calls Tryd.prog 22 #[encW x y] W fun e w' => e = .returned (.tuple #[encC c, .int .i64 0]) ∧ Below W.heap.size W w') := K4
  have K3 := fun W hl => unpack_any p1 p2 W hl hp1 hp2
  rw [U1, U2] at K3
  have X3 : Hid (∀ W : World, Laid W → Calls Tryd.prog 22 #[encW p1 p2] W fun e w' => e = .returned (.tuple #[encC a, .int .i64 0]) ∧ Below W.heap.size W w') := K3
  have K5 := fun W hl => pack_any c W hl fc.out
  rw [V3, V4, V5] at K5
  have X5 : Hid (∀ W : World, Laid W → Calls Tryd.prog 20 #[encC c] W fun e w' => e = .returned (.tuple #[encW x y, .int .i64 0]) ∧ Below W.heap.size W w') := K5
  have K6 := fun W => check_any c W fc.out
  rw [V5] at K6
  have X6 : Hid (∀ W : World, Calls Tryd.prog 10 #[encC c] W fun e w' => e = .returned (.int .i64 0) ∧ Below W.heap.size W w') := K6
  clear K1 K2 K4 P1 P2 P3 P4 E1 E2 V1 V2 K3 U1 U2 hp1 hp2 K5 K6 V3 V4 V5
  have HQ1 : ∀ W, (Op.equalIn 10000 24 (.agg #[.int .i64 a.k, .int .i64 a.o, .int .i64 a.r, .int .u64 a.b, .int .u64 a.g, .int .i64 a.z]) (.agg #[.int .i64 a.k, .int .i64 a.o, .int .i64 a.r, .int .u64 a.b, .int .u64 a.g, .int .i64 a.z])).run Tryd.prog W = .ok true W := fun W => by
    have h := eq_caps W a a
    rwa [show decide (a = a) = true by simp] at h
  have HQ2 : ∀ W, (Op.equalIn 10000 33 (.agg #[.int .u64 p1, .int .u64 p2]) (.agg #[.int .u64 o1, .int .u64 o2])).run Tryd.prog W = .ok β W := fun W => by
    have h := eq_words W p1 p2 o1 o2
    rwa [Q2] at h
  have HQ3 : ∀ W, (Op.equalIn 10000 24 (.agg #[.int .i64 a.k, .int .i64 a.o, .int .i64 a.r, .int .u64 a.b, .int .u64 a.g, .int .i64 a.z]) (.agg #[.int .i64 b.k, .int .i64 b.o, .int .i64 b.r, .int .u64 b.b, .int .u64 b.g, .int .i64 b.z])).run Tryd.prog W = .ok β W := fun W => by
    have h := eq_caps W a b
    rwa [Q3] at h
  clear Q2 Q3
  have HQ4 : ∀ W, (Op.equalIn 10000 33 (.agg #[.int .u64 x, .int .u64 y]) (.agg #[.int .u64 x, .int .u64 y])).run Tryd.prog W = .ok true W := fun W => by
    have h := eq_words W x y x y
    rwa [show decide (x = x ∧ y = y) = true by simp] at h
  simp only [encC, encW] at *
  have bw := below_new w (objC a)
  have bw := Below.then bw (below_new (w.alloc (objC a)) (objC b)) bw.size
  have bw := Below.then bw (below_new ((w.alloc (objC a)).alloc (objC b)) (objW x y)) bw.size
  have ba := AtC.new w a
  have ba := ba.below (below_new _ (objC b))
  have ba := ba.below (below_new _ (objW x y))
  have bb := AtC.new (w.alloc (objC a)) b
  rw [World.size_alloc] at bb
  have bb := bb.below (below_new _ (objW x y))
  have bt := AtW.new ((w.alloc (objC a)).alloc (objC b)) x y
  rw [World.size_alloc, World.size_alloc] at bt
  have l := hl.below bw hl.size
  have r4 := hl.size
  clear hl
  simp only [objC, objW] at bw l ba bb bt
  go_enter Tryd.func6, Tryd.ntmps6
  go_wp2_with fail
  generalize (((w.alloc (Obj.cells #[.int .i64 a.k, .int .i64 a.o, .int .i64 a.r, .int .u64 a.b, .int .u64 a.g, .int .i64 a.z] 24)).alloc (Obj.cells #[.int .i64 b.k, .int .i64 b.o, .int .i64 b.r, .int .u64 b.b, .int .u64 b.g, .int .i64 b.z] 24)).alloc (Obj.cells #[.int .u64 x, .int .u64 y] 33)) = v0 at *
  generalize hr : w.heap.size = r at *
  have HR : Hid (w.heap.size = r) := hr
  clear hr
  have hb := ba.lt
  refine (X1.out _ l).mono ?_
  rintro e u1 ⟨rfl, b2⟩
  have ba := (ba.below b2).below (below_new _ (objW p1 p2))
  have bb := (bb.below b2).below (below_new _ (objW p1 p2))
  have bt := (bt.below b2).below (below_new _ (objW p1 p2))
  have bw := Below.then (Below.then bw b2 (by omega)) (below_new u1 (objW p1 p2)) (by have := b2.size; omega)
  have l := (l.below b2 l.size).below (below_new u1 (objW p1 p2)) (l.below b2 l.size).size
  have s1 := AtW.new u1 p1 p2
  clear b2 hb
  simp only [objW] at bw l ba bb bt s1
  obtain ⟨bbc0, bbc1, bbc2, bbc3, bbc4, bbc5⟩ := bb.cells
  go_wp2_with fail
  clear bbc0 bbc1 bbc2 bbc3 bbc4 bbc5
  generalize u1.alloc (Obj.cells #[.int .u64 p1, .int .u64 p2] 33) = v1 at *
  generalize u1.heap.size = q1 at *
  have hb := ba.lt
  refine (X2.out _ l).mono ?_
  rintro e u2 ⟨rfl, b2⟩
  have ba := (ba.below b2).below (below_new _ (objW o1 o2))
  have bb := (bb.below b2).below (below_new _ (objW o1 o2))
  have bt := (bt.below b2).below (below_new _ (objW o1 o2))
  have s1 := (s1.below b2).below (below_new _ (objW o1 o2))
  have bw := Below.then (Below.then bw b2 (by omega)) (below_new u2 (objW o1 o2)) (by have := b2.size; omega)
  have l := (l.below b2 l.size).below (below_new u2 (objW o1 o2)) (l.below b2 l.size).size
  have s2 := AtW.new u2 o1 o2
  clear b2 hb
  simp only [objW] at bw l ba bb bt s1 s2
  obtain ⟨s1c0, s1c1⟩ := s1.cells
  go_wp2_with fail
  clear s1c0 s1c1
  generalize u2.alloc (Obj.cells #[.int .u64 o1, .int .u64 o2] 33) = v2 at *
  generalize u2.heap.size = q2 at *
  have hb := ba.lt
  refine (X3.out _ l).mono ?_
  rintro e u3 ⟨rfl, b2⟩
  have ba := (ba.below b2).below (below_new _ (objC a))
  have bb := (bb.below b2).below (below_new _ (objC a))
  have bt := (bt.below b2).below (below_new _ (objC a))
  have s1 := (s1.below b2).below (below_new _ (objC a))
  have s2 := (s2.below b2).below (below_new _ (objC a))
  have bw := Below.then (Below.then bw b2 (by omega)) (below_new u3 (objC a)) (by have := b2.size; omega)
  have l := (l.below b2 l.size).below (below_new u3 (objC a)) (l.below b2 l.size).size
  have s3 := AtC.new u3 a
  clear b2 hb
  simp only [objC] at bw l ba bb bt s1 s2 s3
  go_wp2_with fail
  generalize u3.alloc (Obj.cells #[.int .i64 a.k, .int .i64 a.o, .int .i64 a.r, .int .u64 a.b, .int .u64 a.g, .int .i64 a.z] 24) = v3 at *
  generalize u3.heap.size = q3 at *
  have hb := ba.lt
  obtain ⟨s3c0, s3c1, s3c2, s3c3, s3c4, s3c5⟩ := s3.cells
  obtain ⟨bac0, bac1, bac2, bac3, bac4, bac5⟩ := ba.cells
  obtain ⟨s1c0, s1c1⟩ := s1.cells
  obtain ⟨s2c0, s2c1⟩ := s2.cells
  obtain ⟨bbc0, bbc1, bbc2, bbc3, bbc4, bbc5⟩ := bb.cells
  have hS : v3.cell? ⟨q3, 0, none⟩ = some (.int .i64 a.k) ∧ v3.cell? ⟨q3, 1, none⟩ = some (.int .i64 a.o) ∧ v3.cell? ⟨q3, 2, none⟩ = some (.int .i64 a.r) ∧ v3.cell? ⟨q3, 3, none⟩ = some (.int .u64 a.b) ∧ v3.cell? ⟨q3, 4, none⟩ = some (.int .u64 a.g) ∧ v3.cell? ⟨q3, 5, none⟩ = some (.int .i64 a.z) ∧ v3.cell? ⟨r, 0, none⟩ = some (.int .i64 a.k) ∧ v3.cell? ⟨r, 1, none⟩ = some (.int .i64 a.o) ∧ v3.cell? ⟨r, 2, none⟩ = some (.int .i64 a.r) ∧ v3.cell? ⟨r, 3, none⟩ = some (.int .u64 a.b) ∧ v3.cell? ⟨r, 4, none⟩ = some (.int .u64 a.g) ∧ v3.cell? ⟨r, 5, none⟩ = some (.int .i64 a.z) ∧ v3.cell? ⟨q1, 0, none⟩ = some (.int .u64 p1) ∧ v3.cell? ⟨q1, 1, none⟩ = some (.int .u64 p2) ∧ v3.cell? ⟨q2, 0, none⟩ = some (.int .u64 o1) ∧ v3.cell? ⟨q2, 1, none⟩ = some (.int .u64 o2) ∧ v3.cell? ⟨r + 1, 0, none⟩ = some (.int .i64 b.k) ∧ v3.cell? ⟨r + 1, 1, none⟩ = some (.int .i64 b.o) ∧ v3.cell? ⟨r + 1, 2, none⟩ = some (.int .i64 b.r) ∧ v3.cell? ⟨r + 1, 3, none⟩ = some (.int .u64 b.b) ∧ v3.cell? ⟨r + 1, 4, none⟩ = some (.int .u64 b.g) ∧ v3.cell? ⟨r + 1, 5, none⟩ = some (.int .i64 b.z) ∧ (AtC v3 r a ∧ AtC v3 (r + 1) b ∧ AtW v3 (r + 1 + 1) x y ∧ AtW v3 q1 p1 p2 ∧ AtW v3 q2 o1 o2 ∧ AtC v3 q3 a ∧ Laid v3 ∧ Below r w v3) := ⟨s3c0, s3c1, s3c2, s3c3, s3c4, s3c5, bac0, bac1, bac2, bac3, bac4, bac5, s1c0, s1c1, s2c0, s2c1, bbc0, bbc1, bbc2, bbc3, bbc4, bbc5, ba, bb, bt, s1, s2, s3, l, bw⟩
  clear s3c0 s3c1 s3c2 s3c3 s3c4 s3c5 bac0 bac1 bac2 bac3 bac4 bac5 s1c0 s1c1 s2c0 s2c1 bbc0 bbc1 bbc2 bbc3 bbc4 bbc5 ba bb bt s1 s2 s3 l bw hb
  go_region_held3 (fun W => W.cell? ⟨q3, 0, none⟩ = some (.int .i64 a.k) ∧ W.cell? ⟨q3, 1, none⟩ = some (.int .i64 a.o) ∧ W.cell? ⟨q3, 2, none⟩ = some (.int .i64 a.r) ∧ W.cell? ⟨q3, 3, none⟩ = some (.int .u64 a.b) ∧ W.cell? ⟨q3, 4, none⟩ = some (.int .u64 a.g) ∧ W.cell? ⟨q3, 5, none⟩ = some (.int .i64 a.z) ∧ W.cell? ⟨r, 0, none⟩ = some (.int .i64 a.k) ∧ W.cell? ⟨r, 1, none⟩ = some (.int .i64 a.o) ∧ W.cell? ⟨r, 2, none⟩ = some (.int .i64 a.r) ∧ W.cell? ⟨r, 3, none⟩ = some (.int .u64 a.b) ∧ W.cell? ⟨r, 4, none⟩ = some (.int .u64 a.g) ∧ W.cell? ⟨r, 5, none⟩ = some (.int .i64 a.z) ∧ W.cell? ⟨q1, 0, none⟩ = some (.int .u64 p1) ∧ W.cell? ⟨q1, 1, none⟩ = some (.int .u64 p2) ∧ W.cell? ⟨q2, 0, none⟩ = some (.int .u64 o1) ∧ W.cell? ⟨q2, 1, none⟩ = some (.int .u64 o2) ∧ W.cell? ⟨r + 1, 0, none⟩ = some (.int .i64 b.k) ∧ W.cell? ⟨r + 1, 1, none⟩ = some (.int .i64 b.o) ∧ W.cell? ⟨r + 1, 2, none⟩ = some (.int .i64 b.r) ∧ W.cell? ⟨r + 1, 3, none⟩ = some (.int .u64 b.b) ∧ W.cell? ⟨r + 1, 4, none⟩ = some (.int .u64 b.g) ∧ W.cell? ⟨r + 1, 5, none⟩ = some (.int .i64 b.z) ∧ (AtC W r a ∧ AtC W (r + 1) b ∧ AtW W (r + 1 + 1) x y ∧ AtW W q1 p1 p2 ∧ AtW W q2 o1 o2 ∧ AtC W q3 a ∧ Laid W ∧ Below r w W)) ((first | assumption | exact next hS ((Below.refl _ _).drew)))
    (fail)
  rename_i hH
  obtain ⟨_, _, _, _, _, _, _, _, _, _, _, _, _, _, _, _, _, _, _, _, _, _, ba, bb, bt, s1, s2, s3, l, bw⟩ := hH
  clear hS
  generalize v3.drew = v3d at *
  have hb := ba.lt
  obtain ⟨btc0, btc1⟩ := bt.cells
  go_wp2_with fail
  clear btc0 btc1
  refine (X4.out _ l).mono ?_
  rintro e u4 ⟨rfl, b2⟩
  have ba := (ba.below b2).below (below_new _ (objC c))
  have bb := (bb.below b2).below (below_new _ (objC c))
  have bt := (bt.below b2).below (below_new _ (objC c))
  have s1 := (s1.below b2).below (below_new _ (objC c))
  have s2 := (s2.below b2).below (below_new _ (objC c))
  have s3 := (s3.below b2).below (below_new _ (objC c))
  have bw := Below.then (Below.then bw b2 (by omega)) (below_new u4 (objC c)) (by have := b2.size; omega)
  have l := (l.below b2 l.size).below (below_new u4 (objC c)) (l.below b2 l.size).size
  have s4 := AtC.new u4 c
  clear b2 hb
  simp only [objC] at bw l ba bb bt s1 s2 s3 s4
  obtain ⟨s4c0, s4c1, s4c2, s4c3, s4c4, s4c5⟩ := s4.cells
  go_wp2_with fail
  clear s4c0 s4c1 s4c2 s4c3 s4c4 s4c5
  generalize u4.alloc (Obj.cells #[.int .i64 c.k, .int .i64 c.o, .int .i64 c.r, .int .u64 c.b, .int .u64 c.g, .int .i64 c.z] 24) = v4 at *
  generalize u4.heap.size = q4 at *
  have hb := ba.lt
  refine (X5.out _ l).mono ?_
  rintro e u5 ⟨rfl, b2⟩
  have ba := (ba.below b2).below (below_new _ (objW x y))
  have bb := (bb.below b2).below (below_new _ (objW x y))
  have bt := (bt.below b2).below (below_new _ (objW x y))
  have s1 := (s1.below b2).below (below_new _ (objW x y))
  have s2 := (s2.below b2).below (below_new _ (objW x y))
  have s3 := (s3.below b2).below (below_new _ (objW x y))
  have s4 := (s4.below b2).below (below_new _ (objW x y))
  have bw := Below.then (Below.then bw b2 (by omega)) (below_new u5 (objW x y)) (by have := b2.size; omega)
  have l := (l.below b2 l.size).below (below_new u5 (objW x y)) (l.below b2 l.size).size
  have s5 := AtW.new u5 x y
  clear b2 hb
  simp only [objW] at bw l ba bb bt s1 s2 s3 s4 s5
  obtain ⟨s4c0, s4c1, s4c2, s4c3, s4c4, s4c5⟩ := s4.cells
  go_wp2_with fail
  clear s4c0 s4c1 s4c2 s4c3 s4c4 s4c5
  generalize u5.alloc (Obj.cells #[.int .u64 x, .int .u64 y] 33) = v5 at *
  generalize u5.heap.size = q5 at *
  have hb := ba.lt
  refine (X6.out _).mono ?_
  rintro e u6 ⟨rfl, b2⟩
  have ba := ba.below b2
  have bb := bb.below b2
  have bt := bt.below b2
  have s1 := s1.below b2
  have s2 := s2.below b2
  have s3 := s3.below b2
  have s4 := s4.below b2
  have s5 := s5.below b2
  have bw := Below.then bw b2 (by omega)
  have l := l.below b2 l.size
  have hb' := b2.size
  clear b2
  have hb := ba.lt
  obtain ⟨s5c0, s5c1⟩ := s5.cells
  obtain ⟨btc0, btc1⟩ := bt.cells
  go_wp2_with fail
  clear s5c0 s5c1
  clear btc0 btc1
  refine (fixed_any _ l).mono ?_
  rintro e u7 ⟨rfl, b2⟩
  have B : Hid (Below r w u7) := Below.then bw b2 (by omega)
  clear bw b2 l hb ba bb bt s1 s2 s3 s4 s5
  go_wp2
  go_ret
  exact ⟨rfl, by rw [HR.out]; exact B.out⟩
set_option maxHeartbeats 8000000 in
theorem walk_gn (a b : Cp) (x y p1 p2 o1 o2 : Int) (β : Bool) (w : World) (hl : Laid w) (fa : Hid a.Fits) (fb : Hid b.Fits) (hx : Hid (0 ≤ x ∧ x ≤ 18446744073709551615)) (hy : Hid (0 ≤ y ∧ y ≤ 18446744073709551615)) (P1 : packX a = p1) (P2 : packY a = p2) (P3 : packX b = o1) (P4 : packY b = o2) (E1 : checkE a = 0) (E2 : checkE b = 0) (U1 : unpackR p1 p2 = a) (U2 : unpackE p1 p2 = 0) (hp1 : 0 ≤ p1 ∧ p1 ≤ 18446744073709551615) (hp2 : 0 ≤ p2 ∧ p2 ≤ 18446744073709551615) (Q2 : decide (p1 = o1 ∧ p2 = o2) = β) (Q3 : decide (a = b) = β) (V1 : unpackR x y = no) (V2 : unpackE x y = 40) :
    Calls Tryd.prog 6 #[encC a, encC b, encW x y] w fun e w' => e = .returned (.bool true) ∧ Below w.heap.size w w' := by
  have K1 := fun W hl => pack_any a W hl fa.out
  have K2 := fun W hl => pack_any b W hl fb.out
  have K4 := fun W hl => unpack_any x y W hl hx.out hy.out
  rw [P1, P2, E1] at K1
  rw [P3, P4, E2] at K2
  rw [V1, V2] at K4
  have X1 : Hid (∀ W : World, Laid W → Calls Tryd.prog 20 #[encC a] W fun e w' => e = .returned (.tuple #[encW p1 p2, .int .i64 0]) ∧ Below W.heap.size W w') := K1
  have X2 : Hid (∀ W : World, Laid W → Calls Tryd.prog 20 #[encC b] W fun e w' => e = .returned (.tuple #[encW o1 o2, .int .i64 0]) ∧ Below W.heap.size W w') := K2
  have X4 : Hid (∀ W : World, Laid W → Calls Tryd.prog 22 #[encW x y] W fun e w' => e = .returned (.tuple #[encC no, .int .i64 40]) ∧ Below W.heap.size W w') := K4
  have K3 := fun W hl => unpack_any p1 p2 W hl hp1 hp2
  rw [U1, U2] at K3
  have X3 : Hid (∀ W : World, Laid W → Calls Tryd.prog 22 #[encW p1 p2] W fun e w' => e = .returned (.tuple #[encC a, .int .i64 0]) ∧ Below W.heap.size W w') := K3
  clear K1 K2 K4 P1 P2 P3 P4 E1 E2 V1 V2 K3 U1 U2 hp1 hp2
  have HQ1 : ∀ W, (Op.equalIn 10000 24 (.agg #[.int .i64 a.k, .int .i64 a.o, .int .i64 a.r, .int .u64 a.b, .int .u64 a.g, .int .i64 a.z]) (.agg #[.int .i64 a.k, .int .i64 a.o, .int .i64 a.r, .int .u64 a.b, .int .u64 a.g, .int .i64 a.z])).run Tryd.prog W = .ok true W := fun W => by
    have h := eq_caps W a a
    rwa [show decide (a = a) = true by simp] at h
  have HQ2 : ∀ W, (Op.equalIn 10000 33 (.agg #[.int .u64 p1, .int .u64 p2]) (.agg #[.int .u64 o1, .int .u64 o2])).run Tryd.prog W = .ok β W := fun W => by
    have h := eq_words W p1 p2 o1 o2
    rwa [Q2] at h
  have HQ3 : ∀ W, (Op.equalIn 10000 24 (.agg #[.int .i64 a.k, .int .i64 a.o, .int .i64 a.r, .int .u64 a.b, .int .u64 a.g, .int .i64 a.z]) (.agg #[.int .i64 b.k, .int .i64 b.o, .int .i64 b.r, .int .u64 b.b, .int .u64 b.g, .int .i64 b.z])).run Tryd.prog W = .ok β W := fun W => by
    have h := eq_caps W a b
    rwa [Q3] at h
  clear Q2 Q3
  have HQ4 : ∀ W, (Op.equalIn 10000 24 (.agg #[.int .i64 0, .int .i64 0, .int .i64 0, .int .u64 0, .int .u64 0, .int .i64 0]) (.agg #[.int .i64 0, .int .i64 0, .int .i64 0, .int .u64 0, .int .u64 0, .int .i64 0])).run Tryd.prog W = .ok true W := fun W => by
    have h := eq_caps W no no
    rwa [show decide (no = no) = true by simp] at h
  simp only [encC, encW, no] at *
  have bw := below_new w (objC a)
  have bw := Below.then bw (below_new (w.alloc (objC a)) (objC b)) bw.size
  have bw := Below.then bw (below_new ((w.alloc (objC a)).alloc (objC b)) (objW x y)) bw.size
  have ba := AtC.new w a
  have ba := ba.below (below_new _ (objC b))
  have ba := ba.below (below_new _ (objW x y))
  have bb := AtC.new (w.alloc (objC a)) b
  rw [World.size_alloc] at bb
  have bb := bb.below (below_new _ (objW x y))
  have bt := AtW.new ((w.alloc (objC a)).alloc (objC b)) x y
  rw [World.size_alloc, World.size_alloc] at bt
  have l := hl.below bw hl.size
  have r4 := hl.size
  clear hl
  simp only [objC, objW] at bw l ba bb bt
  go_enter Tryd.func6, Tryd.ntmps6
  go_wp2_with fail
  generalize (((w.alloc (Obj.cells #[.int .i64 a.k, .int .i64 a.o, .int .i64 a.r, .int .u64 a.b, .int .u64 a.g, .int .i64 a.z] 24)).alloc (Obj.cells #[.int .i64 b.k, .int .i64 b.o, .int .i64 b.r, .int .u64 b.b, .int .u64 b.g, .int .i64 b.z] 24)).alloc (Obj.cells #[.int .u64 x, .int .u64 y] 33)) = v0 at *
  generalize hr : w.heap.size = r at *
  have HR : Hid (w.heap.size = r) := hr
  clear hr
  have hb := ba.lt
  refine (X1.out _ l).mono ?_
  rintro e u1 ⟨rfl, b2⟩
  have ba := (ba.below b2).below (below_new _ (objW p1 p2))
  have bb := (bb.below b2).below (below_new _ (objW p1 p2))
  have bt := (bt.below b2).below (below_new _ (objW p1 p2))
  have bw := Below.then (Below.then bw b2 (by omega)) (below_new u1 (objW p1 p2)) (by have := b2.size; omega)
  have l := (l.below b2 l.size).below (below_new u1 (objW p1 p2)) (l.below b2 l.size).size
  have s1 := AtW.new u1 p1 p2
  clear b2 hb
  simp only [objW] at bw l ba bb bt s1
  obtain ⟨bbc0, bbc1, bbc2, bbc3, bbc4, bbc5⟩ := bb.cells
  go_wp2_with fail
  clear bbc0 bbc1 bbc2 bbc3 bbc4 bbc5
  generalize u1.alloc (Obj.cells #[.int .u64 p1, .int .u64 p2] 33) = v1 at *
  generalize u1.heap.size = q1 at *
  have hb := ba.lt
  refine (X2.out _ l).mono ?_
  rintro e u2 ⟨rfl, b2⟩
  have ba := (ba.below b2).below (below_new _ (objW o1 o2))
  have bb := (bb.below b2).below (below_new _ (objW o1 o2))
  have bt := (bt.below b2).below (below_new _ (objW o1 o2))
  have s1 := (s1.below b2).below (below_new _ (objW o1 o2))
  have bw := Below.then (Below.then bw b2 (by omega)) (below_new u2 (objW o1 o2)) (by have := b2.size; omega)
  have l := (l.below b2 l.size).below (below_new u2 (objW o1 o2)) (l.below b2 l.size).size
  have s2 := AtW.new u2 o1 o2
  clear b2 hb
  simp only [objW] at bw l ba bb bt s1 s2
  obtain ⟨s1c0, s1c1⟩ := s1.cells
  go_wp2_with fail
  clear s1c0 s1c1
  generalize u2.alloc (Obj.cells #[.int .u64 o1, .int .u64 o2] 33) = v2 at *
  generalize u2.heap.size = q2 at *
  have hb := ba.lt
  refine (X3.out _ l).mono ?_
  rintro e u3 ⟨rfl, b2⟩
  have ba := (ba.below b2).below (below_new _ (objC a))
  have bb := (bb.below b2).below (below_new _ (objC a))
  have bt := (bt.below b2).below (below_new _ (objC a))
  have s1 := (s1.below b2).below (below_new _ (objC a))
  have s2 := (s2.below b2).below (below_new _ (objC a))
  have bw := Below.then (Below.then bw b2 (by omega)) (below_new u3 (objC a)) (by have := b2.size; omega)
  have l := (l.below b2 l.size).below (below_new u3 (objC a)) (l.below b2 l.size).size
  have s3 := AtC.new u3 a
  clear b2 hb
  simp only [objC] at bw l ba bb bt s1 s2 s3
  go_wp2_with fail
  generalize u3.alloc (Obj.cells #[.int .i64 a.k, .int .i64 a.o, .int .i64 a.r, .int .u64 a.b, .int .u64 a.g, .int .i64 a.z] 24) = v3 at *
  generalize u3.heap.size = q3 at *
  have hb := ba.lt
  obtain ⟨s3c0, s3c1, s3c2, s3c3, s3c4, s3c5⟩ := s3.cells
  obtain ⟨bac0, bac1, bac2, bac3, bac4, bac5⟩ := ba.cells
  obtain ⟨s1c0, s1c1⟩ := s1.cells
  obtain ⟨s2c0, s2c1⟩ := s2.cells
  obtain ⟨bbc0, bbc1, bbc2, bbc3, bbc4, bbc5⟩ := bb.cells
  have hS : v3.cell? ⟨q3, 0, none⟩ = some (.int .i64 a.k) ∧ v3.cell? ⟨q3, 1, none⟩ = some (.int .i64 a.o) ∧ v3.cell? ⟨q3, 2, none⟩ = some (.int .i64 a.r) ∧ v3.cell? ⟨q3, 3, none⟩ = some (.int .u64 a.b) ∧ v3.cell? ⟨q3, 4, none⟩ = some (.int .u64 a.g) ∧ v3.cell? ⟨q3, 5, none⟩ = some (.int .i64 a.z) ∧ v3.cell? ⟨r, 0, none⟩ = some (.int .i64 a.k) ∧ v3.cell? ⟨r, 1, none⟩ = some (.int .i64 a.o) ∧ v3.cell? ⟨r, 2, none⟩ = some (.int .i64 a.r) ∧ v3.cell? ⟨r, 3, none⟩ = some (.int .u64 a.b) ∧ v3.cell? ⟨r, 4, none⟩ = some (.int .u64 a.g) ∧ v3.cell? ⟨r, 5, none⟩ = some (.int .i64 a.z) ∧ v3.cell? ⟨q1, 0, none⟩ = some (.int .u64 p1) ∧ v3.cell? ⟨q1, 1, none⟩ = some (.int .u64 p2) ∧ v3.cell? ⟨q2, 0, none⟩ = some (.int .u64 o1) ∧ v3.cell? ⟨q2, 1, none⟩ = some (.int .u64 o2) ∧ v3.cell? ⟨r + 1, 0, none⟩ = some (.int .i64 b.k) ∧ v3.cell? ⟨r + 1, 1, none⟩ = some (.int .i64 b.o) ∧ v3.cell? ⟨r + 1, 2, none⟩ = some (.int .i64 b.r) ∧ v3.cell? ⟨r + 1, 3, none⟩ = some (.int .u64 b.b) ∧ v3.cell? ⟨r + 1, 4, none⟩ = some (.int .u64 b.g) ∧ v3.cell? ⟨r + 1, 5, none⟩ = some (.int .i64 b.z) ∧ (AtC v3 r a ∧ AtC v3 (r + 1) b ∧ AtW v3 (r + 1 + 1) x y ∧ AtW v3 q1 p1 p2 ∧ AtW v3 q2 o1 o2 ∧ AtC v3 q3 a ∧ Laid v3 ∧ Below r w v3) := ⟨s3c0, s3c1, s3c2, s3c3, s3c4, s3c5, bac0, bac1, bac2, bac3, bac4, bac5, s1c0, s1c1, s2c0, s2c1, bbc0, bbc1, bbc2, bbc3, bbc4, bbc5, ba, bb, bt, s1, s2, s3, l, bw⟩
  clear s3c0 s3c1 s3c2 s3c3 s3c4 s3c5 bac0 bac1 bac2 bac3 bac4 bac5 s1c0 s1c1 s2c0 s2c1 bbc0 bbc1 bbc2 bbc3 bbc4 bbc5 ba bb bt s1 s2 s3 l bw hb
  go_region_held3 (fun W => W.cell? ⟨q3, 0, none⟩ = some (.int .i64 a.k) ∧ W.cell? ⟨q3, 1, none⟩ = some (.int .i64 a.o) ∧ W.cell? ⟨q3, 2, none⟩ = some (.int .i64 a.r) ∧ W.cell? ⟨q3, 3, none⟩ = some (.int .u64 a.b) ∧ W.cell? ⟨q3, 4, none⟩ = some (.int .u64 a.g) ∧ W.cell? ⟨q3, 5, none⟩ = some (.int .i64 a.z) ∧ W.cell? ⟨r, 0, none⟩ = some (.int .i64 a.k) ∧ W.cell? ⟨r, 1, none⟩ = some (.int .i64 a.o) ∧ W.cell? ⟨r, 2, none⟩ = some (.int .i64 a.r) ∧ W.cell? ⟨r, 3, none⟩ = some (.int .u64 a.b) ∧ W.cell? ⟨r, 4, none⟩ = some (.int .u64 a.g) ∧ W.cell? ⟨r, 5, none⟩ = some (.int .i64 a.z) ∧ W.cell? ⟨q1, 0, none⟩ = some (.int .u64 p1) ∧ W.cell? ⟨q1, 1, none⟩ = some (.int .u64 p2) ∧ W.cell? ⟨q2, 0, none⟩ = some (.int .u64 o1) ∧ W.cell? ⟨q2, 1, none⟩ = some (.int .u64 o2) ∧ W.cell? ⟨r + 1, 0, none⟩ = some (.int .i64 b.k) ∧ W.cell? ⟨r + 1, 1, none⟩ = some (.int .i64 b.o) ∧ W.cell? ⟨r + 1, 2, none⟩ = some (.int .i64 b.r) ∧ W.cell? ⟨r + 1, 3, none⟩ = some (.int .u64 b.b) ∧ W.cell? ⟨r + 1, 4, none⟩ = some (.int .u64 b.g) ∧ W.cell? ⟨r + 1, 5, none⟩ = some (.int .i64 b.z) ∧ (AtC W r a ∧ AtC W (r + 1) b ∧ AtW W (r + 1 + 1) x y ∧ AtW W q1 p1 p2 ∧ AtW W q2 o1 o2 ∧ AtC W q3 a ∧ Laid W ∧ Below r w W)) ((first | assumption | exact next hS ((Below.refl _ _).drew)))
    (fail)
  rename_i hH
  obtain ⟨_, _, _, _, _, _, _, _, _, _, _, _, _, _, _, _, _, _, _, _, _, _, ba, bb, bt, s1, s2, s3, l, bw⟩ := hH
  clear hS
  generalize v3.drew = v3d at *
  have hb := ba.lt
  obtain ⟨btc0, btc1⟩ := bt.cells
  go_wp2_with fail
  clear btc0 btc1
  refine (X4.out _ l).mono ?_
  rintro e u4 ⟨rfl, b2⟩
  have ba := (ba.below b2).below (below_new _ (objC ⟨0, 0, 0, 0, 0, 0⟩))
  have bb := (bb.below b2).below (below_new _ (objC ⟨0, 0, 0, 0, 0, 0⟩))
  have bt := (bt.below b2).below (below_new _ (objC ⟨0, 0, 0, 0, 0, 0⟩))
  have s1 := (s1.below b2).below (below_new _ (objC ⟨0, 0, 0, 0, 0, 0⟩))
  have s2 := (s2.below b2).below (below_new _ (objC ⟨0, 0, 0, 0, 0, 0⟩))
  have s3 := (s3.below b2).below (below_new _ (objC ⟨0, 0, 0, 0, 0, 0⟩))
  have bw := Below.then (Below.then bw b2 (by omega)) (below_new u4 (objC ⟨0, 0, 0, 0, 0, 0⟩)) (by have := b2.size; omega)
  have l := (l.below b2 l.size).below (below_new u4 (objC ⟨0, 0, 0, 0, 0, 0⟩)) (l.below b2 l.size).size
  have s4 := AtC.new u4 ⟨0, 0, 0, 0, 0, 0⟩
  clear b2 hb
  simp only [objC] at bw l ba bb bt s1 s2 s3 s4
  obtain ⟨s4c0, s4c1, s4c2, s4c3, s4c4, s4c5⟩ := s4.cells
  go_wp2_with fail
  clear s4c0 s4c1 s4c2 s4c3 s4c4 s4c5
  generalize u4.alloc (Obj.cells #[.int .i64 0, .int .i64 0, .int .i64 0, .int .u64 0, .int .u64 0, .int .i64 0] 24) = v4 at *
  generalize u4.heap.size = q4 at *
  have hb := ba.lt
  refine (fixed_any _ l).mono ?_
  rintro e u7 ⟨rfl, b2⟩
  have B : Hid (Below r w u7) := Below.then bw b2 (by omega)
  clear bw b2 l hb ba bb bt s1 s2 s3 s4
  go_wp2
  go_ret
  exact ⟨rfl, by rw [HR.out]; exact B.out⟩
theorem pack_bd {c : Cp} (hf : c.Fits) (h : Fine c) : (0 ≤ wordC c ∧ wordC c ≤ 18446744073709551615) ∧ (0 ≤ restC c ∧ restC c ≤ 18446744073709551615) := by
  have hw := fine_word h
  have hb := hf.b
  have hg := hf.g
  refine ⟨by unfold wordC; omega, ?_⟩
  unfold restC
  split
  · exact hg
  · exact hb
theorem pack_inj {a b : Cp} (ha : Fine a) (hb : Fine b) : decide (wordC a = wordC b ∧ restC a = restC b) = decide (a = b) := by
  rw [Bool.eq_iff_iff, decide_eq_true_eq, decide_eq_true_eq]
  constructor
  · rintro ⟨h1, h2⟩
    rw [← read_word ha, ← read_word hb, h1, h2]
  · rintro rfl
    exact ⟨rfl, rfl⟩
theorem walk (a b : Cp) (x y : Int) (w : World) (hl : Laid w) (ga : a.Fits) (gb : b.Fits) (hx : 0 ≤ x ∧ x ≤ 18446744073709551615) (hy : 0 ≤ y ∧ y ≤ 18446744073709551615) :
    Calls Tryd.prog 6 #[encC a, encC b, encW x y] w fun e w' => e = .returned (.bool true) ∧ Below w.heap.size w w' := by
  have fa : Hid a.Fits := ga
  have fb : Hid b.Fits := gb
  have HX : Hid (0 ≤ x ∧ x ≤ 18446744073709551615) := hx
  have HY : Hid (0 ≤ y ∧ y ≤ 18446744073709551615) := hy
  by_cases hw : Whose x y
  · have V1 : unpackR x y = readC x y := by rw [unpackR, if_pos hw]
    have V2 : unpackE x y = 0 := by rw [unpackE, if_pos hw]
    have fc : Hid (readC x y).Fits := read_fits x y hy
    have V3 : packX (readC x y) = x := by rw [packX, if_pos hw.1]; exact hw.2.1
    have V4 : packY (readC x y) = y := by rw [packY, if_pos hw.1]; exact hw.2.2
    have V5 : checkE (readC x y) = 0 := by rw [checkE, if_pos hw.1]
    by_cases hA : Fine a
    · have P1 : packX a = wordC a := by rw [packX, if_pos hA]
      have P2 : packY a = restC a := by rw [packY, if_pos hA]
      have E1 : checkE a = 0 := by rw [checkE, if_pos hA]
      have hW := whose_word hA
      have U1 : unpackR (wordC a) (restC a) = a := by rw [unpackR, if_pos hW]; exact read_word hA
      have U2 : unpackE (wordC a) (restC a) = 0 := by rw [unpackE, if_pos hW]
      have hp := pack_bd ga hA
      by_cases hB : Fine b
      · have P3 : packX b = wordC b := by rw [packX, if_pos hB]
        have P4 : packY b = restC b := by rw [packY, if_pos hB]
        exact walk_gw a b _ x y _ _ _ _ _ w hl fa fb HX HY P1 P2 P3 P4 E1 (by rw [checkE, if_pos hB]) U1 U2 hp.1 hp.2 (pack_inj hA hB) rfl V1 V2 fc V3 V4 V5
      · exact walk_fw a b _ x y _ _ _ _ w hl fa fb HX HY P1 P2 rfl rfl E1 (by rw [checkE, if_neg hB]) U1 U2 hp.1 hp.2 V1 V2 fc V3 V4 V5
    · exact walk_nw a b _ x y _ _ _ _ _ w hl fa fb HX HY rfl rfl rfl rfl (by rw [checkE, if_neg hA]) rfl V1 V2 fc V3 V4 V5
  · have V1 : unpackR x y = no := by rw [unpackR, if_neg hw]
    have V2 : unpackE x y = 40 := by rw [unpackE, if_neg hw]
    by_cases hA : Fine a
    · have P1 : packX a = wordC a := by rw [packX, if_pos hA]
      have P2 : packY a = restC a := by rw [packY, if_pos hA]
      have E1 : checkE a = 0 := by rw [checkE, if_pos hA]
      have hW := whose_word hA
      have U1 : unpackR (wordC a) (restC a) = a := by rw [unpackR, if_pos hW]; exact read_word hA
      have U2 : unpackE (wordC a) (restC a) = 0 := by rw [unpackE, if_pos hW]
      have hp := pack_bd ga hA
      by_cases hB : Fine b
      · have P3 : packX b = wordC b := by rw [packX, if_pos hB]
        have P4 : packY b = restC b := by rw [packY, if_pos hB]
        exact walk_gn a b x y _ _ _ _ _ w hl fa fb HX HY P1 P2 P3 P4 E1 (by rw [checkE, if_pos hB]) U1 U2 hp.1 hp.2 (pack_inj hA hB) rfl V1 V2
      · exact walk_fn a b x y _ _ _ _ w hl fa fb HX HY P1 P2 rfl rfl E1 (by rw [checkE, if_neg hB]) U1 U2 hp.1 hp.2 V1 V2
    · exact walk_nn a b x y _ _ _ _ _ w hl fa fb HX HY rfl rfl rfl rfl (by rw [checkE, if_neg hA]) rfl V1 V2
end
open Go.ChangeShapes Go.WideShapes Go.ChangeAt Go.RowKit Go.Joins

/-! ### From the walk to the statement -/
theorem contract (H : Type) (enc : TypeId × Value → H) (W : World) (base : Nat) (args : Array Value) (ds gs : List (DataW H)) (before : List MemPlace)
    (hval : ∀ (j : Nat) t v, Tryd.f6.params[j]? = some t → args[j]? = some v → Value.okWide Tryd.prog W .any base t v)
    (hW : DataW.Whole enc Tryd.prog Tryd.f6.params.toList Rows.capsBackSpec.vars false W args.toList ds gs before) (hL : laidMetH Tryd.prog Rows.capsBackRow.laid W) :
    Calls Tryd.prog 6 args W fun e W' => ∃ v, e = .returned v ∧ Rows.capsBackSpec.post enc Tryd.prog Tryd.f6 false true false false W args v W' := by
  have dCp : DecidableEq Cp := fun a b => Classical.propDecidable (a = b)
  have dLim : ∀ k, Decidable (Lim k) := fun k => Classical.propDecidable (Lim k)
  have dBad : ∀ k, Decidable (Bad k) := fun k => Classical.propDecidable (Bad k)
  have dFit : ∀ g z, Decidable (Fit g z) := fun g z => Classical.propDecidable (Fit g z)
  have dFine : ∀ c, Decidable (Fine c) := fun c => Classical.propDecidable (Fine c)
  have dMint : ∀ c v, Decidable (MintR c v) := fun c v => Classical.propDecidable (MintR c v)
  have dWho : ∀ x y, Decidable (Whose x y) := fun x y => Classical.propDecidable (Whose x y)
  have hW' := hW
  obtain ⟨p, q, hA0, hV, rfl, hfz, hnd⟩ := hW
  have hA : DataW.TrodAll enc Tryd.prog W 0 (fun _ => true) true Tryd.f6.params.toList args.toList ds p := hA0
  rw [Tryd.params6] at hA hval
  obtain ⟨v0, vs0, d0, ds0, p0, q0, hargs, rfl, rfl, h0, r0⟩ := trodAll_cons hA
  obtain ⟨v1, vs1, d1, ds1, p1, q1, rfl, rfl, rfl, h1, r1⟩ := trodAll_cons r0
  obtain ⟨v2, vs2, d2, ds2, p2, q2, rfl, rfl, rfl, h2, r2⟩ := trodAll_cons r1
  obtain ⟨rfl, rfl, rfl⟩ := trodAll_nil r2
  obtain rfl : args = #[v0, v1, v2] := by cases args; simp_all
  obtain ⟨rfl, rfl⟩ := trodVars_none hV
  have k0 := h0
  have lt0 : ∀ x ∈ p0, x.block < W.heap.size := by obtain ⟨m, hm⟩ := k0; exact DataW.trod_lt m _ _ _ hm
  have k1 := h1
  have lt1 : ∀ x ∈ p1, x.block < W.heap.size := by obtain ⟨m, hm⟩ := k1; exact DataW.trod_lt m _ _ _ hm
  have k2 := h2
  have lt2 : ∀ x ∈ p2, x.block < W.heap.size := by obtain ⟨m, hm⟩ := k2; exact DataW.trod_lt m _ _ _ hm
  obtain ⟨a0, rfl, w0⟩ := open_cap (hval 0 24 v0 rfl rfl) h0
  obtain ⟨a1, rfl, w1⟩ := open_cap (hval 1 24 v1 rfl rfl) h1
  obtain ⟨a2x, a2y, rfl, w2x, w2y⟩ := open_pair (hval 2 33 v2 rfl rfl) h2
  clear hA0
  refine (walk a0 a1 a2x a2y W (table hL) w0 w1 w2x w2y).mono fun e W' ⟨he, bel⟩ => ?_
  subst he
  exact ⟨_, rfl, _, _, _, [], _, [], hW', trodAll_mk1 (shut_bool Tryd.underlying4 _), (trodAll_cons_mk (Below.trod laidOut (by kernel_rfl) (of_decide_eq_true (by kernel_rfl)) k0 bel lt0) (trodAll_cons_mk (Below.trod laidOut (by kernel_rfl) (of_decide_eq_true (by kernel_rfl)) k1 bel lt1) (trodAll_cons_mk (Below.trod laidOut (by kernel_rfl) (of_decide_eq_true (by kernel_rfl)) k2 bel lt2) trodAll_mk0))), rfl, bel.frame _, fun h => by cases h⟩

theorem laid_met (os : Os) : laidMet Tryd.prog Rows.capsBackRow.laid ((World.doorLaid Tryd.prog 40 os).forCall (fun _ _ => 0) ⟨#[], #[.agg #[.int .i64 0, .int .i64 0, .int .i64 0, .int .u64 0, .int .u64 0, .int .i64 0], .agg #[.int .i64 0, .int .i64 0, .int .i64 0, .int .u64 0, .int .u64 0, .int .i64 0], .agg #[.int .u64 0, .int .u64 0]], []⟩).memory :=
  laidMet_of_run' 8 (by kernel_rfl) (by kernel_rfl)
theorem reads (os : Os) {H : Type} (enc : TypeId × Value → H) : ∃ places, DataW.whole enc Tryd.prog ((World.doorLaid Tryd.prog 40 os).forCall (fun _ _ => 0) ⟨#[], #[.agg #[.int .i64 0, .int .i64 0, .int .i64 0, .int .u64 0, .int .u64 0, .int .i64 0], .agg #[.int .i64 0, .int .i64 0, .int .i64 0, .int .u64 0, .int .u64 0, .int .i64 0], .agg #[.int .u64 0, .int .u64 0]], []⟩).memory Tryd.f6.params.toList Rows.capsBackSpec.vars false (#[.agg #[.int .i64 0, .int .i64 0, .int .i64 0, .int .u64 0, .int .u64 0, .int .i64 0], .agg #[.int .i64 0, .int .i64 0, .int .i64 0, .int .u64 0, .int .u64 0, .int .i64 0], .agg #[.int .u64 0, .int .u64 0]] : Array Value).toList 8 = some ([.agg [.lit (.int .i64 0), .lit (.int .i64 0), .lit (.int .i64 0), .lit (.int .u64 0), .lit (.int .u64 0), .lit (.int .i64 0)], .agg [.lit (.int .i64 0), .lit (.int .i64 0), .lit (.int .i64 0), .lit (.int .u64 0), .lit (.int .u64 0), .lit (.int .i64 0)], .agg [.lit (.int .u64 0), .lit (.int .u64 0)]], [], places) :=
  ⟨[], by kernel_rfl⟩
set_option maxRecDepth 100000 in
theorem lifted (os : Os) (started : os.Started) (H : Type) (enc : TypeId × Value → H) (F : Stop.Interp) :
    ReturnsInHanded {} Tryd.checked os 6 .any ((OpenSpec.ofChange Rows.capsBackSpec).preRow enc Tryd.prog Tryd.f6 Rows.capsBackRow.domain false Rows.capsBackRow.laid) (((OpenSpec.ofChange Rows.capsBackSpec).at F).post enc Tryd.prog Tryd.f6 false true false false) := by
  have dCp : DecidableEq Cp := fun a b => Classical.propDecidable (a = b)
  have dLim : ∀ k, Decidable (Lim k) := fun k => Classical.propDecidable (Lim k)
  have dBad : ∀ k, Decidable (Bad k) := fun k => Classical.propDecidable (Bad k)
  have dFit : ∀ g z, Decidable (Fit g z) := fun g z => Classical.propDecidable (Fit g z)
  have dFine : ∀ c, Decidable (Fine c) := fun c => Classical.propDecidable (Fine c)
  have dMint : ∀ c v, Decidable (MintR c v) := fun c v => Classical.propDecidable (MintR c v)
  have dWho : ∀ x y, Decidable (Whose x y) := fun x y => Classical.propDecidable (Whose x y)
  obtain ⟨places, hx⟩ := reads os enc
  refine returnsInHanded_of_row (C := Tryd.checked) (s := OpenSpec.ofChange Rows.capsBackSpec) own started (by kernel_rfl) Tryd.func6
    (witness_row_at (enc := enc) (C := Tryd.checked) false (World.doorLaid Tryd.prog 40 os) #[.agg #[.int .i64 0, .int .i64 0, .int .i64 0, .int .u64 0, .int .u64 0, .int .i64 0], .agg #[.int .i64 0, .int .i64 0, .int .i64 0, .int .u64 0, .int .u64 0, .int .i64 0], .agg #[.int .u64 0, .int .u64 0]] rfl (by kernel_rfl) (by kernel_rfl) (by kernel_rfl)
      (OpenSpec.preRow_of_cond 8 hx (by kernel_rfl) (fun k hk => by cases hk) (by kernel_rfl) (laid_met os))) ?_
  intro W base args ds gs before hval hW _ _ _ hL _ _
  exact contract H enc W base args ds gs before hval hW hL
theorem said : Rows.CapsBackSaid :=
  OpenClaim.holds_of_cond 6 Tryd.f6 rfl rfl rfl rfl rfl rfl rfl ⟨rfl, rfl, rfl, rfl, rfl⟩ rfl rfl rfl rfl rfl (by kernel_rfl) Tryd.func6 (by kernel_rfl)
    (of_decide_eq_true (by kernel_rfl)) (by unfold Func.isWrapper; first | (rw [if_pos (by decide +kernel)]; kernel_rfl) | (rw [if_neg (by decide +kernel)]; exact ⟨rfl, rfl⟩))
    (fun os started H enc _ F => by rw [OpenClaim.pre_eq_preRow]; exact lifted os started H enc F)
theorem plain (f : FuncId) (fn : Func) (hf : Tryd.pinned.checked.prog.funcNamed "buttress/buttresslaw04.CapsBack" = some f) (hfn : Tryd.pinned.checked.prog.funcs[f]? = some fn) :
    false = Tryd.pinned.checked.prog.looks [] ∧ ∀ (j : Nat) t, fn.params[j]? = some t → Tryd.pinned.checked.prog.wantsStandIn t = false := by
  obtain rfl : f = 6 := Option.some.inj ((show Tryd.prog.funcNamed "buttress/buttresslaw04.CapsBack" = some 6 by kernel_rfl).symm.trans hf) |>.symm
  obtain rfl : fn = Tryd.f6 := (Option.some.inj (Tryd.func6.symm.trans hfn)).symm
  refine ⟨by kernel_rfl, fun j t ht => ?_⟩
  rw [Tryd.params6] at ht
  have hm : t ∈ [24, 24, 33] := by simpa using Array.mem_of_getElem? ht
  have hall : ([24, 24, 33].all fun u => !Tryd.prog.wantsStandIn u) = true := by kernel_rfl
  exact (show Tryd.prog.wantsStandIn t = false by simpa using List.all_eq_true.1 hall t hm)
end Go.Proofs.YtokehmkegnmfdaaDoor.capsBack
namespace Go.Proofs.YtokehmkegnmfdaaDoor
/-- THE CARD. -/
theorem capsBack_card : Rows.CapsBackCardSaid :=
  Claim7.holds_tied_plain_at .later [] _ _ _ _ capsBack.said (fun _ h => by cases h) (by kernel_rfl) (fun _ h => by cases h) capsBack_row_tie rfl ⟨rfl, rfl⟩ (by kernel_rfl) rfl capsBack.plain (by kernel_rfl)
#print axioms capsBack_card
end Go.Proofs.YtokehmkegnmfdaaDoor

/-
  CapsDerive answers true for every input; the program's four places lie as its text lays them, and the card ties that to the text.
-/
import Derived.Test.YtokehmkegnmfdaaDoorCFixed
import Derived.Test.YtokehmkegnmfdaaDoorCSay
import Derived.Test.YtokehmkegnmfdaaDoorCMore
namespace Go.Proofs.YtokehmkegnmfdaaDoor.capsDerive
open Go.RowKit Go.Deep
set_option linter.unusedSectionVars false
section
variable [dCp : DecidableEq Cp] [dLim : ∀ k, Decidable (Lim k)] [dBad : ∀ k, Decidable (Bad k)] [dFit : ∀ g z, Decidable (Fit g z)] [dFine : ∀ c, Decidable (Fine c)] [dMint : ∀ c v, Decidable (MintR c v)] [dWho : ∀ x y, Decidable (Whose x y)]
set_option maxHeartbeats 4000000 in
theorem walk_no (c : Cp) (n v N E : Int) (w : World) (hl : Laid w) (hf : Hid c.Fits) (hN : bits BinOp.and IntKind.i64 n 7 = N) (h1 : mintE c N v = E) (hE : ¬ E = 0) :
    Calls Tryd.prog 7 #[encC c, .int .i64 n, .int .u64 v] w fun e w' => e = .returned (.bool true) ∧ Below w.heap.size w w' := by
  have K1 := fun W => mint_any c N v W hf.out
  rw [mintR, h1, if_neg hE] at K1
  have hE' : (E != 0) = true := by simpa using hE
  have X1 : Hid (∀ W : World, Calls Tryd.prog 16 #[encC c, .int .i64 N, .int .u64 v] W fun e w' => e = .returned (.tuple #[encC no, .int .i64 E]) ∧ Below W.heap.size W w') := K1
  clear K1 h1 hE
  have HQ1 : ∀ W, (Op.equalIn 10000 24 (.agg #[.int .i64 0, .int .i64 0, .int .i64 0, .int .u64 0, .int .u64 0, .int .i64 0]) (.agg #[.int .i64 0, .int .i64 0, .int .i64 0, .int .u64 0, .int .u64 0, .int .i64 0])).run Tryd.prog W = .ok true W := fun W => by
    have h := eq_caps W no no
    rwa [show decide (no = no) = true by simp] at h
  simp only [encC, no] at *
  have b := below_new w (objC c)
  have s0 := AtC.new w c
  have l := hl.below b hl.size
  have r4 := hl.size
  clear hl
  simp only [objC] at b l s0
  go_enter Tryd.func7, Tryd.ntmps7
  go_wp2_with fail
  generalize (w.alloc (Obj.cells #[.int .i64 c.k, .int .i64 c.o, .int .i64 c.r, .int .u64 c.b, .int .u64 c.g, .int .i64 c.z] 24)) = v0 at *
  generalize hr : w.heap.size = r at *
  have HR : Hid (w.heap.size = r) := hr
  clear hr
  have hb := s0.lt
  refine (X1.out _).mono ?_
  rintro e u1 ⟨rfl, b2⟩
  have s0 := (s0.below b2).below (below_new _ (objC ⟨0, 0, 0, 0, 0, 0⟩))
  have b := Below.then (Below.then b b2 (by omega)) (below_new u1 (objC ⟨0, 0, 0, 0, 0, 0⟩)) (by have := b2.size; omega)
  have l := (l.below b2 l.size).below (below_new u1 (objC ⟨0, 0, 0, 0, 0, 0⟩)) (l.below b2 l.size).size
  have s1 := AtC.new u1 ⟨0, 0, 0, 0, 0, 0⟩
  clear b2 hb
  simp only [objC] at b l s0 s1
  obtain ⟨s1c0, s1c1, s1c2, s1c3, s1c4, s1c5⟩ := s1.cells
  go_wp2_with fail
  clear s1c0 s1c1 s1c2 s1c3 s1c4 s1c5
  generalize u1.alloc (Obj.cells #[.int .i64 0, .int .i64 0, .int .i64 0, .int .u64 0, .int .u64 0, .int .i64 0] 24) = v1 at *
  generalize u1.heap.size = q1 at *
  have hb := s0.lt
  refine (fixed_any _ l).mono ?_
  rintro e u5 ⟨rfl, b2⟩
  have B : Hid (Below r w u5) := Below.then b b2 (by omega)
  clear b b2 l hb
  go_wp2
  go_ret
  exact ⟨rfl, by rw [HR.out]; exact B.out⟩
set_option maxHeartbeats 4000000 in
theorem walk_z (c m x y : Cp) (n v N M g : Int) (w : World) (hl : Laid w) (hf : Hid c.Fits) (fm : Hid m.Fits) (fx : Hid x.Fits) (hN : bits BinOp.and IntKind.i64 n 7 = N) (hM : bits BinOp.and IntKind.i64 (n / 8) 7 = M)
    (h1 : mintE c N v = 0) (g1 : mintR c N v = m) (h2 : mintE m M 0 = 0) (g2 : mintR m M 0 = x) (h3 : mintE x 7 99 = g) (g3 : mintR x 7 99 = y)
    (k1 : checkE m = 0) (k2 : checkE x = 0) (d1 : derB c m = true) (d2 : derB m x = true) (d3 : derB c x = true) (q1 : (x.b != m.b) = false) (q2 : sameB x c = true) (q3 : (m.b == 0) = true) :
    Calls Tryd.prog 7 #[encC c, .int .i64 n, .int .u64 v] w fun e w' => e = .returned (.bool true) ∧ Below w.heap.size w w' := by
  have K1 := fun W => mint_any c N v W hf.out
  have K2 := fun W => mint_any m M 0 W fm.out
  have K3 := fun W => mint_any x 7 99 W fx.out
  rw [h1, g1] at K1
  rw [h2, g2] at K2
  rw [h3, g3] at K3
  have X1 : Hid (∀ W : World, Calls Tryd.prog 16 #[encC c, .int .i64 N, .int .u64 v] W fun e w' => e = .returned (.tuple #[encC m, .int .i64 0]) ∧ Below W.heap.size W w') := K1
  have X2 : Hid (∀ W : World, Calls Tryd.prog 16 #[encC m, .int .i64 M, .int .u64 0] W fun e w' => e = .returned (.tuple #[encC x, .int .i64 0]) ∧ Below W.heap.size W w') := K2
  have X3 : Hid (∀ W : World, Calls Tryd.prog 16 #[encC x, .int .i64 7, .int .u64 99] W fun e w' => e = .returned (.tuple #[encC y, .int .i64 g]) ∧ Below W.heap.size W w') := K3
  clear K1 K2 K3 h1 g1 h2 g2 h3 g3
  simp only [encC] at *
  have b := below_new w (objC c)
  have s0 := AtC.new w c
  have l := hl.below b hl.size
  have r4 := hl.size
  clear hl
  simp only [objC] at b l s0
  go_enter Tryd.func7, Tryd.ntmps7
  go_wp2_with fail
  generalize (w.alloc (Obj.cells #[.int .i64 c.k, .int .i64 c.o, .int .i64 c.r, .int .u64 c.b, .int .u64 c.g, .int .i64 c.z] 24)) = v0 at *
  generalize hr : w.heap.size = r at *
  have HR : Hid (w.heap.size = r) := hr
  clear hr
  have hb := s0.lt
  refine (X1.out _).mono ?_
  rintro e u1 ⟨rfl, b2⟩
  have s0 := (s0.below b2).below (below_new _ (objC m))
  have b := Below.then (Below.then b b2 (by omega)) (below_new u1 (objC m)) (by have := b2.size; omega)
  have l := (l.below b2 l.size).below (below_new u1 (objC m)) (l.below b2 l.size).size
  have s1 := AtC.new u1 m
  clear b2 hb
  simp only [objC] at b l s0 s1
  obtain ⟨s1c0, s1c1, s1c2, s1c3, s1c4, s1c5⟩ := s1.cells
  go_wp2_with fail
  clear s1c0 s1c1 s1c2 s1c3 s1c4 s1c5
  generalize u1.alloc (Obj.cells #[.int .i64 m.k, .int .i64 m.o, .int .i64 m.r, .int .u64 m.b, .int .u64 m.g, .int .i64 m.z] 24) = v1 at *
  generalize u1.heap.size = q1 at *
  have hb := s0.lt
  refine (X2.out _).mono ?_
  rintro e u2 ⟨rfl, b2⟩
  have s0 := (s0.below b2).below (below_new _ (objC x))
  have s1 := (s1.below b2).below (below_new _ (objC x))
  have b := Below.then (Below.then b b2 (by omega)) (below_new u2 (objC x)) (by have := b2.size; omega)
  have l := (l.below b2 l.size).below (below_new u2 (objC x)) (l.below b2 l.size).size
  have s2 := AtC.new u2 x
  clear b2 hb
  simp only [objC] at b l s0 s1 s2
  obtain ⟨s2c0, s2c1, s2c2, s2c3, s2c4, s2c5⟩ := s2.cells
  go_wp2_with fail
  clear s2c0 s2c1 s2c2 s2c3 s2c4 s2c5
  generalize u2.alloc (Obj.cells #[.int .i64 x.k, .int .i64 x.o, .int .i64 x.r, .int .u64 x.b, .int .u64 x.g, .int .i64 x.z] 24) = v2 at *
  generalize u2.heap.size = q2 at *
  have hb := s0.lt
  refine (X3.out _).mono ?_
  rintro e u3 ⟨rfl, b2⟩
  have s0 := (s0.below b2).below (below_new _ (objC y))
  have s1 := (s1.below b2).below (below_new _ (objC y))
  have s2 := (s2.below b2).below (below_new _ (objC y))
  have b := Below.then (Below.then b b2 (by omega)) (below_new u3 (objC y)) (by have := b2.size; omega)
  have l := (l.below b2 l.size).below (below_new u3 (objC y)) (l.below b2 l.size).size
  have s3 := AtC.new u3 y
  clear b2 hb
  simp only [objC] at b l s0 s1 s2 s3
  obtain ⟨s1c0, s1c1, s1c2, s1c3, s1c4, s1c5⟩ := s1.cells
  go_wp2_with fail
  clear s1c0 s1c1 s1c2 s1c3 s1c4 s1c5
  generalize u3.alloc (Obj.cells #[.int .i64 y.k, .int .i64 y.o, .int .i64 y.r, .int .u64 y.b, .int .u64 y.g, .int .i64 y.z] 24) = v3 at *
  generalize u3.heap.size = q3 at *
  have hb := s0.lt
  refine (check_any m _ fm.out).mono ?_
  rintro e u4 ⟨rfl, b2⟩
  have s0 := s0.below b2
  have s1 := s1.below b2
  have s2 := s2.below b2
  have s3 := s3.below b2
  have b := Below.then b b2 (by omega)
  have l := l.below b2 l.size
  have hb' := b2.size
  clear b2
  have hb := s0.lt
  obtain ⟨s2c0, s2c1, s2c2, s2c3, s2c4, s2c5⟩ := s2.cells
  go_wp2_with fail
  clear s2c0 s2c1 s2c2 s2c3 s2c4 s2c5
  refine (check_any x _ fx.out).mono ?_
  rintro e u5 ⟨rfl, b2⟩
  have s0 := s0.below b2
  have s1 := s1.below b2
  have s2 := s2.below b2
  have s3 := s3.below b2
  have b := Below.then b b2 (by omega)
  have l := l.below b2 l.size
  have hb' := b2.size
  clear b2
  have hb := s0.lt
  obtain ⟨s0c0, s0c1, s0c2, s0c3, s0c4, s0c5⟩ := s0.cells
  obtain ⟨s1c0, s1c1, s1c2, s1c3, s1c4, s1c5⟩ := s1.cells
  go_wp2_with fail
  clear s0c0 s0c1 s0c2 s0c3 s0c4 s0c5
  clear s1c0 s1c1 s1c2 s1c3 s1c4 s1c5
  refine (der_any c m _).mono ?_
  rintro e u6 ⟨rfl, b2⟩
  have s0 := s0.below b2
  have s1 := s1.below b2
  have s2 := s2.below b2
  have s3 := s3.below b2
  have b := Below.then b b2 (by omega)
  have l := l.below b2 l.size
  have hb' := b2.size
  clear b2
  have hb := s0.lt
  obtain ⟨s1c0, s1c1, s1c2, s1c3, s1c4, s1c5⟩ := s1.cells
  obtain ⟨s2c0, s2c1, s2c2, s2c3, s2c4, s2c5⟩ := s2.cells
  go_wp2_with fail
  clear s1c0 s1c1 s1c2 s1c3 s1c4 s1c5
  clear s2c0 s2c1 s2c2 s2c3 s2c4 s2c5
  refine (der_any m x _).mono ?_
  rintro e u7 ⟨rfl, b2⟩
  have s0 := s0.below b2
  have s1 := s1.below b2
  have s2 := s2.below b2
  have s3 := s3.below b2
  have b := Below.then b b2 (by omega)
  have l := l.below b2 l.size
  have hb' := b2.size
  clear b2
  have hb := s0.lt
  obtain ⟨s0c0, s0c1, s0c2, s0c3, s0c4, s0c5⟩ := s0.cells
  obtain ⟨s2c0, s2c1, s2c2, s2c3, s2c4, s2c5⟩ := s2.cells
  go_wp2_with fail
  clear s0c0 s0c1 s0c2 s0c3 s0c4 s0c5
  clear s2c0 s2c1 s2c2 s2c3 s2c4 s2c5
  refine (der_any c x _).mono ?_
  rintro e u8 ⟨rfl, b2⟩
  have s0 := s0.below b2
  have s1 := s1.below b2
  have s2 := s2.below b2
  have s3 := s3.below b2
  have b := Below.then b b2 (by omega)
  have l := l.below b2 l.size
  have hb' := b2.size
  clear b2
  have hb := s0.lt
  obtain ⟨s0c0, s0c1, s0c2, s0c3, s0c4, s0c5⟩ := s0.cells
  obtain ⟨s1c0, s1c1, s1c2, s1c3, s1c4, s1c5⟩ := s1.cells
  obtain ⟨s2c0, s2c1, s2c2, s2c3, s2c4, s2c5⟩ := s2.cells
  go_wp2_with fail
  clear s0c0 s0c1 s0c2 s0c3 s0c4 s0c5
  clear s1c0 s1c1 s1c2 s1c3 s1c4 s1c5
  clear s2c0 s2c1 s2c2 s2c3 s2c4 s2c5
  refine (same_any x c _).mono ?_
  rintro e u9 ⟨rfl, b2⟩
  have s0 := s0.below b2
  have s1 := s1.below b2
  have s2 := s2.below b2
  have s3 := s3.below b2
  have b := Below.then b b2 (by omega)
  have l := l.below b2 l.size
  have hb' := b2.size
  clear b2
  have hb := s0.lt
  go_wp2_with fail
  refine (fixed_any _ l).mono ?_
  rintro e u10 ⟨rfl, b2⟩
  have s0 := s0.below b2
  have s1 := s1.below b2
  have s2 := s2.below b2
  have s3 := s3.below b2
  have B : Hid (Below r w u10) := Below.then b b2 (by omega)
  clear b b2 l hb
  clear s0 s1 s2 s3
  go_wp2
  go_ret
  exact ⟨rfl, by rw [HR.out]; exact B.out⟩
set_option maxHeartbeats 4000000 in
theorem walk_b (c m x y : Cp) (n v N M g : Int) (w : World) (hl : Laid w) (hf : Hid c.Fits) (fm : Hid m.Fits) (fx : Hid x.Fits) (hN : bits BinOp.and IntKind.i64 n 7 = N) (hM : bits BinOp.and IntKind.i64 (n / 8) 7 = M)
    (h1 : mintE c N v = 0) (g1 : mintR c N v = m) (h2 : mintE m M 0 = 0) (g2 : mintR m M 0 = x) (h3 : mintE x 7 99 = g) (g3 : mintR x 7 99 = y)
    (k1 : checkE m = 0) (k2 : checkE x = 0) (d1 : derB c m = true) (d2 : derB m x = true) (d3 : derB c x = true) (q1 : (x.b != m.b) = false) (q2 : sameB x c = true) (q3 : (m.b == 0) = false) (q4 : g = 41) :
    Calls Tryd.prog 7 #[encC c, .int .i64 n, .int .u64 v] w fun e w' => e = .returned (.bool true) ∧ Below w.heap.size w w' := by
  have K1 := fun W => mint_any c N v W hf.out
  have K2 := fun W => mint_any m M 0 W fm.out
  have K3 := fun W => mint_any x 7 99 W fx.out
  rw [h1, g1] at K1
  rw [h2, g2] at K2
  rw [h3, g3] at K3
  subst q4
  have X1 : Hid (∀ W : World, Calls Tryd.prog 16 #[encC c, .int .i64 N, .int .u64 v] W fun e w' => e = .returned (.tuple #[encC m, .int .i64 0]) ∧ Below W.heap.size W w') := K1
  have X2 : Hid (∀ W : World, Calls Tryd.prog 16 #[encC m, .int .i64 M, .int .u64 0] W fun e w' => e = .returned (.tuple #[encC x, .int .i64 0]) ∧ Below W.heap.size W w') := K2
  have X3 : Hid (∀ W : World, Calls Tryd.prog 16 #[encC x, .int .i64 7, .int .u64 99] W fun e w' => e = .returned (.tuple #[encC y, .int .i64 41]) ∧ Below W.heap.size W w') := K3
  clear K1 K2 K3 h1 g1 h2 g2 h3 g3
  simp only [encC] at *
  have b := below_new w (objC c)
  have s0 := AtC.new w c
  have l := hl.below b hl.size
  have r4 := hl.size
  clear hl
  simp only [objC] at b l s0
  go_enter Tryd.func7, Tryd.ntmps7
  go_wp2_with fail
  generalize (w.alloc (Obj.cells #[.int .i64 c.k, .int .i64 c.o, .int .i64 c.r, .int .u64 c.b, .int .u64 c.g, .int .i64 c.z] 24)) = v0 at *
  generalize hr : w.heap.size = r at *
  have HR : Hid (w.heap.size = r) := hr
  clear hr
  have hb := s0.lt
  refine (X1.out _).mono ?_
  rintro e u1 ⟨rfl, b2⟩
  have s0 := (s0.below b2).below (below_new _ (objC m))
  have b := Below.then (Below.then b b2 (by omega)) (below_new u1 (objC m)) (by have := b2.size; omega)
  have l := (l.below b2 l.size).below (below_new u1 (objC m)) (l.below b2 l.size).size
  have s1 := AtC.new u1 m
  clear b2 hb
  simp only [objC] at b l s0 s1
  obtain ⟨s1c0, s1c1, s1c2, s1c3, s1c4, s1c5⟩ := s1.cells
  go_wp2_with fail
  clear s1c0 s1c1 s1c2 s1c3 s1c4 s1c5
  generalize u1.alloc (Obj.cells #[.int .i64 m.k, .int .i64 m.o, .int .i64 m.r, .int .u64 m.b, .int .u64 m.g, .int .i64 m.z] 24) = v1 at *
  generalize u1.heap.size = q1 at *
  have hb := s0.lt
  refine (X2.out _).mono ?_
  rintro e u2 ⟨rfl, b2⟩
  have s0 := (s0.below b2).below (below_new _ (objC x))
  have s1 := (s1.below b2).below (below_new _ (objC x))
  have b := Below.then (Below.then b b2 (by omega)) (below_new u2 (objC x)) (by have := b2.size; omega)
  have l := (l.below b2 l.size).below (below_new u2 (objC x)) (l.below b2 l.size).size
  have s2 := AtC.new u2 x
  clear b2 hb
  simp only [objC] at b l s0 s1 s2
  obtain ⟨s2c0, s2c1, s2c2, s2c3, s2c4, s2c5⟩ := s2.cells
  go_wp2_with fail
  clear s2c0 s2c1 s2c2 s2c3 s2c4 s2c5
  generalize u2.alloc (Obj.cells #[.int .i64 x.k, .int .i64 x.o, .int .i64 x.r, .int .u64 x.b, .int .u64 x.g, .int .i64 x.z] 24) = v2 at *
  generalize u2.heap.size = q2 at *
  have hb := s0.lt
  refine (X3.out _).mono ?_
  rintro e u3 ⟨rfl, b2⟩
  have s0 := (s0.below b2).below (below_new _ (objC y))
  have s1 := (s1.below b2).below (below_new _ (objC y))
  have s2 := (s2.below b2).below (below_new _ (objC y))
  have b := Below.then (Below.then b b2 (by omega)) (below_new u3 (objC y)) (by have := b2.size; omega)
  have l := (l.below b2 l.size).below (below_new u3 (objC y)) (l.below b2 l.size).size
  have s3 := AtC.new u3 y
  clear b2 hb
  simp only [objC] at b l s0 s1 s2 s3
  obtain ⟨s1c0, s1c1, s1c2, s1c3, s1c4, s1c5⟩ := s1.cells
  go_wp2_with fail
  clear s1c0 s1c1 s1c2 s1c3 s1c4 s1c5
  generalize u3.alloc (Obj.cells #[.int .i64 y.k, .int .i64 y.o, .int .i64 y.r, .int .u64 y.b, .int .u64 y.g, .int .i64 y.z] 24) = v3 at *
  generalize u3.heap.size = q3 at *
  have hb := s0.lt
  refine (check_any m _ fm.out).mono ?_
  rintro e u4 ⟨rfl, b2⟩
  have s0 := s0.below b2
  have s1 := s1.below b2
  have s2 := s2.below b2
  have s3 := s3.below b2
  have b := Below.then b b2 (by omega)
  have l := l.below b2 l.size
  have hb' := b2.size
  clear b2
  have hb := s0.lt
  obtain ⟨s2c0, s2c1, s2c2, s2c3, s2c4, s2c5⟩ := s2.cells
  go_wp2_with fail
  clear s2c0 s2c1 s2c2 s2c3 s2c4 s2c5
  refine (check_any x _ fx.out).mono ?_
  rintro e u5 ⟨rfl, b2⟩
  have s0 := s0.below b2
  have s1 := s1.below b2
  have s2 := s2.below b2
  have s3 := s3.below b2
  have b := Below.then b b2 (by omega)
  have l := l.below b2 l.size
  have hb' := b2.size
  clear b2
  have hb := s0.lt
  obtain ⟨s0c0, s0c1, s0c2, s0c3, s0c4, s0c5⟩ := s0.cells
  obtain ⟨s1c0, s1c1, s1c2, s1c3, s1c4, s1c5⟩ := s1.cells
  go_wp2_with fail
  clear s0c0 s0c1 s0c2 s0c3 s0c4 s0c5
  clear s1c0 s1c1 s1c2 s1c3 s1c4 s1c5
  refine (der_any c m _).mono ?_
  rintro e u6 ⟨rfl, b2⟩
  have s0 := s0.below b2
  have s1 := s1.below b2
  have s2 := s2.below b2
  have s3 := s3.below b2
  have b := Below.then b b2 (by omega)
  have l := l.below b2 l.size
  have hb' := b2.size
  clear b2
  have hb := s0.lt
  obtain ⟨s1c0, s1c1, s1c2, s1c3, s1c4, s1c5⟩ := s1.cells
  obtain ⟨s2c0, s2c1, s2c2, s2c3, s2c4, s2c5⟩ := s2.cells
  go_wp2_with fail
  clear s1c0 s1c1 s1c2 s1c3 s1c4 s1c5
  clear s2c0 s2c1 s2c2 s2c3 s2c4 s2c5
  refine (der_any m x _).mono ?_
  rintro e u7 ⟨rfl, b2⟩
  have s0 := s0.below b2
  have s1 := s1.below b2
  have s2 := s2.below b2
  have s3 := s3.below b2
  have b := Below.then b b2 (by omega)
  have l := l.below b2 l.size
  have hb' := b2.size
  clear b2
  have hb := s0.lt
  obtain ⟨s0c0, s0c1, s0c2, s0c3, s0c4, s0c5⟩ := s0.cells
  obtain ⟨s2c0, s2c1, s2c2, s2c3, s2c4, s2c5⟩ := s2.cells
  go_wp2_with fail
  clear s0c0 s0c1 s0c2 s0c3 s0c4 s0c5
  clear s2c0 s2c1 s2c2 s2c3 s2c4 s2c5
  refine (der_any c x _).mono ?_
  rintro e u8 ⟨rfl, b2⟩
  have s0 := s0.below b2
  have s1 := s1.below b2
  have s2 := s2.below b2
  have s3 := s3.below b2
  have b := Below.then b b2 (by omega)
  have l := l.below b2 l.size
  have hb' := b2.size
  clear b2
  have hb := s0.lt
  obtain ⟨s0c0, s0c1, s0c2, s0c3, s0c4, s0c5⟩ := s0.cells
  obtain ⟨s1c0, s1c1, s1c2, s1c3, s1c4, s1c5⟩ := s1.cells
  obtain ⟨s2c0, s2c1, s2c2, s2c3, s2c4, s2c5⟩ := s2.cells
  go_wp2_with fail
  clear s0c0 s0c1 s0c2 s0c3 s0c4 s0c5
  clear s1c0 s1c1 s1c2 s1c3 s1c4 s1c5
  clear s2c0 s2c1 s2c2 s2c3 s2c4 s2c5
  refine (same_any x c _).mono ?_
  rintro e u9 ⟨rfl, b2⟩
  have s0 := s0.below b2
  have s1 := s1.below b2
  have s2 := s2.below b2
  have s3 := s3.below b2
  have b := Below.then b b2 (by omega)
  have l := l.below b2 l.size
  have hb' := b2.size
  clear b2
  have hb := s0.lt
  go_wp2_with fail
  refine (fixed_any _ l).mono ?_
  rintro e u10 ⟨rfl, b2⟩
  have s0 := s0.below b2
  have s1 := s1.below b2
  have s2 := s2.below b2
  have s3 := s3.below b2
  have B : Hid (Below r w u10) := Below.then b b2 (by omega)
  clear b b2 l hb
  clear s0 s1 s2 s3
  go_wp2
  go_ret
  exact ⟨rfl, by rw [HR.out]; exact B.out⟩
theorem walk (c : Cp) (n v : Int) (w : World) (hl : Laid w) (hf : c.Fits) (_hn : -9223372036854775808 ≤ n ∧ n ≤ 9223372036854775807) (hv : 0 ≤ v ∧ v ≤ 18446744073709551615) :
    Calls Tryd.prog 7 #[encC c, .int .i64 n, .int .u64 v] w fun e w' => e = .returned (.bool true) ∧ Below w.heap.size w w' := by
  obtain ⟨N, hN⟩ : ∃ N, bits BinOp.and IntKind.i64 n 7 = N := ⟨_, rfl⟩
  obtain ⟨M, hM⟩ : ∃ M, bits BinOp.and IntKind.i64 (n / 8) 7 = M := ⟨_, rfl⟩
  have n0 := mask_vec n
  have m0 := mask_vec (n / 8)
  rw [hN] at n0
  rw [hM] at m0
  by_cases hE : mintE c N v = 0
  · have hE' := hE
    unfold mintE at hE'
    rw [if_pos n0] at hE'
    split at hE'
    case isFalse => omega
    rename_i hF
    split at hE'
    case isTrue => omega
    rename_i hR
    have hk0 : c.k ≠ 0 := fun h => hR (.inl h)
    have hb : v = 0 ∨ (Bad c.k ∧ c.b = 0) := by
      by_cases h : v = 0
      · exact .inl h
      · exact .inr (Decidable.byContradiction fun h' => hR (.inr ⟨h, h'⟩))
    have hr := fine_rights hF
    have g1 : mintR c N v = mintC c N v := by rw [mintR, if_pos hE]
    have fm : Fine (mintC c N v) := mint_fine hF hk0 n0 (hb.imp id And.left)
    have tm : (mintC c N v).Fits := mint_fits hf hr n0 hv
    generalize hm : mintC c N v = m at *
    have km : m.k = c.k := by rw [← hm]; rfl
    have km0 : m.k ≠ 0 := by rw [km]; exact hk0
    have d1 : derB c m = true := by rw [← hm]; exact mint_der hk0 hr n0 (hb.symm.imp And.right id)
    have rm := fine_rights fm
    have h2 : mintE m M 0 = 0 := by
      rw [mintE, if_pos fm, if_pos m0, if_neg]
      rintro (h | ⟨h, _⟩)
      · exact km0 h
      · exact h rfl
    have g2 : mintR m M 0 = mintC m M 0 := by rw [mintR, if_pos h2]
    have fx : Fine (mintC m M 0) := mint_fine fm km0 m0
    have tx : (mintC m M 0).Fits := mint_fits tm rm m0 (by decide)
    have d2 : derB m (mintC m M 0) = true := mint_der km0 rm m0 (.inr rfl)
    have xb : (mintC m M 0).b = m.b := by simp [mintC]
    have xk : (mintC m M 0).k = m.k := rfl
    generalize mintC m M 0 = x at *
    have rx := fine_rights fx
    have d3 : derB c x = true := der_trans hr rm rx d1 d2
    have q1 : (x.b != m.b) = false := by simp [xb]
    have q2 : sameB x c = true := by
      obtain ⟨⟨p1, p2, p3⟩, _⟩ := derB_iff.1 d3
      simp only [sameB, decide_eq_true_eq]
      exact ⟨by rw [← p2]; exact p1, p2.symm, p3.symm⟩
    have k1 : checkE m = 0 := by rw [checkE, if_pos fm]
    have k2 : checkE x = 0 := by rw [checkE, if_pos fx]
    by_cases hz : m.b = 0
    · exact walk_z c m x _ n v N M _ w hl hf tm tx hN hM hE g1 h2 g2 rfl rfl k1 k2 d1 d2 d3 q1 q2 (by simpa using hz)
    · have h3 : mintE x 7 99 = 41 := by
        rw [mintE, if_pos fx, if_pos (by decide), if_pos]
        exact .inr ⟨by decide, fun h => hz (by rw [← xb]; exact h.2)⟩
      exact walk_b c m x _ n v N M _ w hl hf tm tx hN hM hE g1 h2 g2 h3 rfl k1 k2 d1 d2 d3 q1 q2 (by simpa using hz) rfl
  · exact walk_no c n v N _ w hl hf hN rfl hE
end
open Go.ChangeShapes Go.WideShapes Go.ChangeAt Go.RowKit Go.Joins

/-! ### From the walk to the statement -/
theorem contract (H : Type) (enc : TypeId × Value → H) (W : World) (base : Nat) (args : Array Value) (ds gs : List (DataW H)) (before : List MemPlace)
    (hval : ∀ (j : Nat) t v, Tryd.f7.params[j]? = some t → args[j]? = some v → Value.okWide Tryd.prog W .any base t v)
    (hW : DataW.Whole enc Tryd.prog Tryd.f7.params.toList Rows.capsDeriveSpec.vars false W args.toList ds gs before) (hL : laidMetH Tryd.prog Rows.capsDeriveRow.laid W) :
    Calls Tryd.prog 7 args W fun e W' => ∃ v, e = .returned v ∧ Rows.capsDeriveSpec.post enc Tryd.prog Tryd.f7 false true false false W args v W' := by
  have dCp : DecidableEq Cp := fun a b => Classical.propDecidable (a = b)
  have dLim : ∀ k, Decidable (Lim k) := fun k => Classical.propDecidable (Lim k)
  have dBad : ∀ k, Decidable (Bad k) := fun k => Classical.propDecidable (Bad k)
  have dFit : ∀ g z, Decidable (Fit g z) := fun g z => Classical.propDecidable (Fit g z)
  have dFine : ∀ c, Decidable (Fine c) := fun c => Classical.propDecidable (Fine c)
  have dMint : ∀ c v, Decidable (MintR c v) := fun c v => Classical.propDecidable (MintR c v)
  have dWho : ∀ x y, Decidable (Whose x y) := fun x y => Classical.propDecidable (Whose x y)
  have hW' := hW
  obtain ⟨p, q, hA0, hV, rfl, hfz, hnd⟩ := hW
  have hA : DataW.TrodAll enc Tryd.prog W 0 (fun _ => true) true Tryd.f7.params.toList args.toList ds p := hA0
  rw [Tryd.params7] at hA hval
  obtain ⟨v0, vs0, d0, ds0, p0, q0, hargs, rfl, rfl, h0, r0⟩ := trodAll_cons hA
  obtain ⟨v1, vs1, d1, ds1, p1, q1, rfl, rfl, rfl, h1, r1⟩ := trodAll_cons r0
  obtain ⟨v2, vs2, d2, ds2, p2, q2, rfl, rfl, rfl, h2, r2⟩ := trodAll_cons r1
  obtain ⟨rfl, rfl, rfl⟩ := trodAll_nil r2
  obtain rfl : args = #[v0, v1, v2] := by cases args; simp_all
  obtain ⟨rfl, rfl⟩ := trodVars_none hV
  have k0 := h0
  have lt0 : ∀ x ∈ p0, x.block < W.heap.size := by obtain ⟨m, hm⟩ := k0; exact DataW.trod_lt m _ _ _ hm
  have k1 := h1
  have lt1 : ∀ x ∈ p1, x.block < W.heap.size := by obtain ⟨m, hm⟩ := k1; exact DataW.trod_lt m _ _ _ hm
  have k2 := h2
  have lt2 : ∀ x ∈ p2, x.block < W.heap.size := by obtain ⟨m, hm⟩ := k2; exact DataW.trod_lt m _ _ _ hm
  obtain ⟨a0, rfl, w0⟩ := open_cap (hval 0 24 v0 rfl rfl) h0
  obtain ⟨a1, rfl, _, _, w1⟩ := open_int Tryd.underlying3 (hval 1 3 v1 rfl rfl) h1
  obtain ⟨a2, rfl, _, _, w2⟩ := open_int Tryd.underlying22 (hval 2 22 v2 rfl rfl) h2
  clear hA0
  refine (walk a0 a1 a2 W (table hL) w0 (bounds_i64 w1) (bounds_u64 w2)).mono fun e W' ⟨he, bel⟩ => ?_
  subst he
  exact ⟨_, rfl, _, _, _, [], _, [], hW', trodAll_mk1 (shut_bool Tryd.underlying4 _), (trodAll_cons_mk (Below.trod laidOut (by kernel_rfl) (of_decide_eq_true (by kernel_rfl)) k0 bel lt0) (trodAll_cons_mk (Below.trod laidOut (by kernel_rfl) (of_decide_eq_true (by kernel_rfl)) k1 bel lt1) (trodAll_cons_mk (Below.trod laidOut (by kernel_rfl) (of_decide_eq_true (by kernel_rfl)) k2 bel lt2) trodAll_mk0))), rfl, bel.frame _, fun h => by cases h⟩

theorem laid_met (os : Os) : laidMet Tryd.prog Rows.capsDeriveRow.laid ((World.doorLaid Tryd.prog 40 os).forCall (fun _ _ => 0) ⟨#[], #[.agg #[.int .i64 0, .int .i64 0, .int .i64 0, .int .u64 0, .int .u64 0, .int .i64 0], .int .i64 0, .int .u64 0], []⟩).memory :=
  laidMet_of_run' 8 (by kernel_rfl) (by kernel_rfl)
theorem reads (os : Os) {H : Type} (enc : TypeId × Value → H) : ∃ places, DataW.whole enc Tryd.prog ((World.doorLaid Tryd.prog 40 os).forCall (fun _ _ => 0) ⟨#[], #[.agg #[.int .i64 0, .int .i64 0, .int .i64 0, .int .u64 0, .int .u64 0, .int .i64 0], .int .i64 0, .int .u64 0], []⟩).memory Tryd.f7.params.toList Rows.capsDeriveSpec.vars false (#[.agg #[.int .i64 0, .int .i64 0, .int .i64 0, .int .u64 0, .int .u64 0, .int .i64 0], .int .i64 0, .int .u64 0] : Array Value).toList 8 = some ([.agg [.lit (.int .i64 0), .lit (.int .i64 0), .lit (.int .i64 0), .lit (.int .u64 0), .lit (.int .u64 0), .lit (.int .i64 0)], .lit (.int .i64 0), .lit (.int .u64 0)], [], places) :=
  ⟨[], by kernel_rfl⟩
set_option maxRecDepth 100000 in
theorem lifted (os : Os) (started : os.Started) (H : Type) (enc : TypeId × Value → H) (F : Stop.Interp) :
    ReturnsInHanded {} Tryd.checked os 7 .any ((OpenSpec.ofChange Rows.capsDeriveSpec).preRow enc Tryd.prog Tryd.f7 Rows.capsDeriveRow.domain false Rows.capsDeriveRow.laid) (((OpenSpec.ofChange Rows.capsDeriveSpec).at F).post enc Tryd.prog Tryd.f7 false true false false) := by
  have dCp : DecidableEq Cp := fun a b => Classical.propDecidable (a = b)
  have dLim : ∀ k, Decidable (Lim k) := fun k => Classical.propDecidable (Lim k)
  have dBad : ∀ k, Decidable (Bad k) := fun k => Classical.propDecidable (Bad k)
  have dFit : ∀ g z, Decidable (Fit g z) := fun g z => Classical.propDecidable (Fit g z)
  have dFine : ∀ c, Decidable (Fine c) := fun c => Classical.propDecidable (Fine c)
  have dMint : ∀ c v, Decidable (MintR c v) := fun c v => Classical.propDecidable (MintR c v)
  have dWho : ∀ x y, Decidable (Whose x y) := fun x y => Classical.propDecidable (Whose x y)
  obtain ⟨places, hx⟩ := reads os enc
  refine returnsInHanded_of_row (C := Tryd.checked) (s := OpenSpec.ofChange Rows.capsDeriveSpec) own started (by kernel_rfl) Tryd.func7
    (witness_row_at (enc := enc) (C := Tryd.checked) false (World.doorLaid Tryd.prog 40 os) #[.agg #[.int .i64 0, .int .i64 0, .int .i64 0, .int .u64 0, .int .u64 0, .int .i64 0], .int .i64 0, .int .u64 0] rfl (by kernel_rfl) (by kernel_rfl) (by kernel_rfl)
      (OpenSpec.preRow_of_cond 8 hx (by kernel_rfl) (fun k hk => by cases hk) (by kernel_rfl) (laid_met os))) ?_
  intro W base args ds gs before hval hW _ _ _ hL _ _
  exact contract H enc W base args ds gs before hval hW hL
theorem said : Rows.CapsDeriveSaid :=
  OpenClaim.holds_of_cond 7 Tryd.f7 rfl rfl rfl rfl rfl rfl rfl ⟨rfl, rfl, rfl, rfl, rfl⟩ rfl rfl rfl rfl rfl (by kernel_rfl) Tryd.func7 (by kernel_rfl)
    (of_decide_eq_true (by kernel_rfl)) (by unfold Func.isWrapper; first | (rw [if_pos (by decide +kernel)]; kernel_rfl) | (rw [if_neg (by decide +kernel)]; exact ⟨rfl, rfl⟩))
    (fun os started H enc _ F => by rw [OpenClaim.pre_eq_preRow]; exact lifted os started H enc F)
theorem plain (f : FuncId) (fn : Func) (hf : Tryd.pinned.checked.prog.funcNamed "buttress/buttresslaw04.CapsDerive" = some f) (hfn : Tryd.pinned.checked.prog.funcs[f]? = some fn) :
    false = Tryd.pinned.checked.prog.looks [] ∧ ∀ (j : Nat) t, fn.params[j]? = some t → Tryd.pinned.checked.prog.wantsStandIn t = false := by
  obtain rfl : f = 7 := Option.some.inj ((show Tryd.prog.funcNamed "buttress/buttresslaw04.CapsDerive" = some 7 by kernel_rfl).symm.trans hf) |>.symm
  obtain rfl : fn = Tryd.f7 := (Option.some.inj (Tryd.func7.symm.trans hfn)).symm
  refine ⟨by kernel_rfl, fun j t ht => ?_⟩
  rw [Tryd.params7] at ht
  have hm : t ∈ [24, 3, 22] := by simpa using Array.mem_of_getElem? ht
  have hall : ([24, 3, 22].all fun u => !Tryd.prog.wantsStandIn u) = true := by kernel_rfl
  exact (show Tryd.prog.wantsStandIn t = false by simpa using List.all_eq_true.1 hall t hm)
end Go.Proofs.YtokehmkegnmfdaaDoor.capsDerive
namespace Go.Proofs.YtokehmkegnmfdaaDoor
/-- THE CARD. -/
theorem capsDerive_card : Rows.CapsDeriveCardSaid :=
  Claim7.holds_tied_plain_at .later [] _ _ _ _ capsDerive.said (fun _ h => by cases h) (by kernel_rfl) (fun _ h => by cases h) capsDerive_row_tie rfl ⟨rfl, rfl⟩ (by kernel_rfl) rfl capsDerive.plain (by kernel_rfl)
#print axioms capsDerive_card
end Go.Proofs.YtokehmkegnmfdaaDoor

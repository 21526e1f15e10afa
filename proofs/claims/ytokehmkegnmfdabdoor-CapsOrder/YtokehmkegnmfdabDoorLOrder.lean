/-
  CapsOrder answers true for every input; the program's four places lie as its text lays them, and the card ties that to the text.
-/
import Derived.Test.YtokehmkegnmfdabDoorCFixed
import Derived.Test.YtokehmkegnmfdabDoorCSay
import Derived.Test.YtokehmkegnmfdabDoorCMore
import Derived.Test.YtokehmkegnmfdabDoorCRCheck
namespace Go.Proofs.YtokehmkegnmfdabDoor.capsOrder
open Go.RowKit Go.Deep
set_option linter.unusedSectionVars false
section
variable [dCp : DecidableEq Cp] [dLim : ∀ k, Decidable (Lim k)] [dBad : ∀ k, Decidable (Bad k)] [dFit : ∀ g z, Decidable (Fit g z)] [dFine : ∀ c, Decidable (Fine c)] [dMint : ∀ c v, Decidable (MintR c v)] [dWho : ∀ x y, Decidable (Whose x y)]
set_option maxHeartbeats 4000000 in
theorem walk_a (a b c : Cp) (w : World) (hl : Laid w) (fa : Hid a.Fits) (ha : checkE a = 40) :
    Calls Tryd.prog 3 #[encC a, encC b, encC c] w fun e w' => e = .returned (.bool true) ∧ Below w.heap.size w w' := by
  simp only [encC]
  have bw := below_new w (objC a)
  have bw := Below.then bw (below_new (w.alloc (objC a)) (objC b)) bw.size
  have bw := Below.then bw (below_new ((w.alloc (objC a)).alloc (objC b)) (objC c)) bw.size
  have s0 := AtC.new w a
  have s0 := s0.below (below_new _ (objC b))
  have s0 := s0.below (below_new _ (objC c))
  have s1 := AtC.new (w.alloc (objC a)) b
  rw [World.size_alloc] at s1
  have s1 := s1.below (below_new _ (objC c))
  have s2 := AtC.new ((w.alloc (objC a)).alloc (objC b)) c
  rw [World.size_alloc, World.size_alloc] at s2
  have l := hl.below bw hl.size
  have r4 := hl.size
  clear hl
  simp only [objC] at bw l s0 s1 s2
  go_enter Tryd.func3, Tryd.ntmps3
  go_wp2_with fail
  generalize (((w.alloc (Obj.cells #[.int .i64 a.k, .int .i64 a.o, .int .i64 a.r, .int .u64 a.b, .int .u64 a.g, .int .i64 a.z] 24)).alloc (Obj.cells #[.int .i64 b.k, .int .i64 b.o, .int .i64 b.r, .int .u64 b.b, .int .u64 b.g, .int .i64 b.z] 24)).alloc (Obj.cells #[.int .i64 c.k, .int .i64 c.o, .int .i64 c.r, .int .u64 c.b, .int .u64 c.g, .int .i64 c.z] 24)) = v0 at *
  generalize hr : w.heap.size = r at *
  have HR : Hid (w.heap.size = r) := hr
  clear hr
  have hb := s0.lt
  refine (rcheck_any a _ fa.out).mono ?_
  rintro e u1 ⟨rfl, b2⟩
  have s0 := s0.below b2
  have s1 := s1.below b2
  have s2 := s2.below b2
  have bw := Below.then bw b2 (by omega)
  have l := l.below b2 l.size
  have hb' := b2.size
  clear b2
  have hb := s0.lt
  obtain ⟨s0c0, s0c1, s0c2, s0c3, s0c4, s0c5⟩ := s0.cells
  obtain ⟨s1c0, s1c1, s1c2, s1c3, s1c4, s1c5⟩ := s1.cells
  obtain ⟨s2c0, s2c1, s2c2, s2c3, s2c4, s2c5⟩ := s2.cells
  go_wp2_with fail
  clear s0c0 s0c1 s0c2 s0c3 s0c4 s0c5
  clear s1c0 s1c1 s1c2 s1c3 s1c4 s1c5
  clear s2c0 s2c1 s2c2 s2c3 s2c4 s2c5
  refine (fixed_any _ l).mono ?_
  rintro e u2 ⟨rfl, b2⟩
  have s0 := s0.below b2
  have s1 := s1.below b2
  have s2 := s2.below b2
  have B : Hid (Below r w u2) := Below.then bw b2 (by omega)
  clear bw b2 l hb
  clear s0 s1 s2
  go_wp2
  go_ret
  exact ⟨rfl, by rw [HR.out]; exact B.out⟩
set_option maxHeartbeats 4000000 in
theorem walk_b (a b c : Cp) (w : World) (hl : Laid w) (fa : Hid a.Fits) (fb : Hid b.Fits) (ha : checkE a = 0) (hb : checkE b = 40) :
    Calls Tryd.prog 3 #[encC a, encC b, encC c] w fun e w' => e = .returned (.bool true) ∧ Below w.heap.size w w' := by
  simp only [encC]
  have bw := below_new w (objC a)
  have bw := Below.then bw (below_new (w.alloc (objC a)) (objC b)) bw.size
  have bw := Below.then bw (below_new ((w.alloc (objC a)).alloc (objC b)) (objC c)) bw.size
  have s0 := AtC.new w a
  have s0 := s0.below (below_new _ (objC b))
  have s0 := s0.below (below_new _ (objC c))
  have s1 := AtC.new (w.alloc (objC a)) b
  rw [World.size_alloc] at s1
  have s1 := s1.below (below_new _ (objC c))
  have s2 := AtC.new ((w.alloc (objC a)).alloc (objC b)) c
  rw [World.size_alloc, World.size_alloc] at s2
  have l := hl.below bw hl.size
  have r4 := hl.size
  clear hl
  simp only [objC] at bw l s0 s1 s2
  go_enter Tryd.func3, Tryd.ntmps3
  go_wp2_with fail
  generalize (((w.alloc (Obj.cells #[.int .i64 a.k, .int .i64 a.o, .int .i64 a.r, .int .u64 a.b, .int .u64 a.g, .int .i64 a.z] 24)).alloc (Obj.cells #[.int .i64 b.k, .int .i64 b.o, .int .i64 b.r, .int .u64 b.b, .int .u64 b.g, .int .i64 b.z] 24)).alloc (Obj.cells #[.int .i64 c.k, .int .i64 c.o, .int .i64 c.r, .int .u64 c.b, .int .u64 c.g, .int .i64 c.z] 24)) = v0 at *
  generalize hr : w.heap.size = r at *
  have HR : Hid (w.heap.size = r) := hr
  clear hr
  have hb := s0.lt
  refine (rcheck_any a _ fa.out).mono ?_
  rintro e u1 ⟨rfl, b2⟩
  have s0 := s0.below b2
  have s1 := s1.below b2
  have s2 := s2.below b2
  have bw := Below.then bw b2 (by omega)
  have l := l.below b2 l.size
  have hb' := b2.size
  clear b2
  have hb := s0.lt
  obtain ⟨s0c0, s0c1, s0c2, s0c3, s0c4, s0c5⟩ := s0.cells
  obtain ⟨s1c0, s1c1, s1c2, s1c3, s1c4, s1c5⟩ := s1.cells
  obtain ⟨s2c0, s2c1, s2c2, s2c3, s2c4, s2c5⟩ := s2.cells
  go_wp2_with fail
  clear s0c0 s0c1 s0c2 s0c3 s0c4 s0c5
  clear s1c0 s1c1 s1c2 s1c3 s1c4 s1c5
  clear s2c0 s2c1 s2c2 s2c3 s2c4 s2c5
  refine (rcheck_any b _ fb.out).mono ?_
  rintro e u2 ⟨rfl, b2⟩
  have s0 := s0.below b2
  have s1 := s1.below b2
  have s2 := s2.below b2
  have bw := Below.then bw b2 (by omega)
  have l := l.below b2 l.size
  have hb' := b2.size
  clear b2
  have hb := s0.lt
  obtain ⟨s0c0, s0c1, s0c2, s0c3, s0c4, s0c5⟩ := s0.cells
  obtain ⟨s1c0, s1c1, s1c2, s1c3, s1c4, s1c5⟩ := s1.cells
  obtain ⟨s2c0, s2c1, s2c2, s2c3, s2c4, s2c5⟩ := s2.cells
  go_wp2_with fail
  clear s0c0 s0c1 s0c2 s0c3 s0c4 s0c5
  clear s1c0 s1c1 s1c2 s1c3 s1c4 s1c5
  clear s2c0 s2c1 s2c2 s2c3 s2c4 s2c5
  refine (fixed_any _ l).mono ?_
  rintro e u3 ⟨rfl, b2⟩
  have s0 := s0.below b2
  have s1 := s1.below b2
  have s2 := s2.below b2
  have B : Hid (Below r w u3) := Below.then bw b2 (by omega)
  clear bw b2 l hb
  clear s0 s1 s2
  go_wp2
  go_ret
  exact ⟨rfl, by rw [HR.out]; exact B.out⟩
set_option maxHeartbeats 4000000 in
theorem walk_c (a b c : Cp) (w : World) (hl : Laid w) (fa : Hid a.Fits) (fb : Hid b.Fits) (fc : Hid c.Fits) (ha : checkE a = 0) (hb : checkE b = 0) (hc : checkE c = 40) :
    Calls Tryd.prog 3 #[encC a, encC b, encC c] w fun e w' => e = .returned (.bool true) ∧ Below w.heap.size w w' := by
  simp only [encC]
  have bw := below_new w (objC a)
  have bw := Below.then bw (below_new (w.alloc (objC a)) (objC b)) bw.size
  have bw := Below.then bw (below_new ((w.alloc (objC a)).alloc (objC b)) (objC c)) bw.size
  have s0 := AtC.new w a
  have s0 := s0.below (below_new _ (objC b))
  have s0 := s0.below (below_new _ (objC c))
  have s1 := AtC.new (w.alloc (objC a)) b
  rw [World.size_alloc] at s1
  have s1 := s1.below (below_new _ (objC c))
  have s2 := AtC.new ((w.alloc (objC a)).alloc (objC b)) c
  rw [World.size_alloc, World.size_alloc] at s2
  have l := hl.below bw hl.size
  have r4 := hl.size
  clear hl
  simp only [objC] at bw l s0 s1 s2
  go_enter Tryd.func3, Tryd.ntmps3
  go_wp2_with fail
  generalize (((w.alloc (Obj.cells #[.int .i64 a.k, .int .i64 a.o, .int .i64 a.r, .int .u64 a.b, .int .u64 a.g, .int .i64 a.z] 24)).alloc (Obj.cells #[.int .i64 b.k, .int .i64 b.o, .int .i64 b.r, .int .u64 b.b, .int .u64 b.g, .int .i64 b.z] 24)).alloc (Obj.cells #[.int .i64 c.k, .int .i64 c.o, .int .i64 c.r, .int .u64 c.b, .int .u64 c.g, .int .i64 c.z] 24)) = v0 at *
  generalize hr : w.heap.size = r at *
  have HR : Hid (w.heap.size = r) := hr
  clear hr
  have hb := s0.lt
  refine (rcheck_any a _ fa.out).mono ?_
  rintro e u1 ⟨rfl, b2⟩
  have s0 := s0.below b2
  have s1 := s1.below b2
  have s2 := s2.below b2
  have bw := Below.then bw b2 (by omega)
  have l := l.below b2 l.size
  have hb' := b2.size
  clear b2
  have hb := s0.lt
  obtain ⟨s0c0, s0c1, s0c2, s0c3, s0c4, s0c5⟩ := s0.cells
  obtain ⟨s1c0, s1c1, s1c2, s1c3, s1c4, s1c5⟩ := s1.cells
  obtain ⟨s2c0, s2c1, s2c2, s2c3, s2c4, s2c5⟩ := s2.cells
  go_wp2_with fail
  clear s0c0 s0c1 s0c2 s0c3 s0c4 s0c5
  clear s1c0 s1c1 s1c2 s1c3 s1c4 s1c5
  clear s2c0 s2c1 s2c2 s2c3 s2c4 s2c5
  refine (rcheck_any b _ fb.out).mono ?_
  rintro e u2 ⟨rfl, b2⟩
  have s0 := s0.below b2
  have s1 := s1.below b2
  have s2 := s2.below b2
  have bw := Below.then bw b2 (by omega)
  have l := l.below b2 l.size
  have hb' := b2.size
  clear b2
  have hb := s0.lt
  obtain ⟨s0c0, s0c1, s0c2, s0c3, s0c4, s0c5⟩ := s0.cells
  obtain ⟨s1c0, s1c1, s1c2, s1c3, s1c4, s1c5⟩ := s1.cells
  obtain ⟨s2c0, s2c1, s2c2, s2c3, s2c4, s2c5⟩ := s2.cells
  go_wp2_with fail
  clear s0c0 s0c1 s0c2 s0c3 s0c4 s0c5
  clear s1c0 s1c1 s1c2 s1c3 s1c4 s1c5
  clear s2c0 s2c1 s2c2 s2c3 s2c4 s2c5
  refine (rcheck_any c _ fc.out).mono ?_
  rintro e u3 ⟨rfl, b2⟩
  have s0 := s0.below b2
  have s1 := s1.below b2
  have s2 := s2.below b2
  have bw := Below.then bw b2 (by omega)
  have l := l.below b2 l.size
  have hb' := b2.size
  clear b2
  have hb := s0.lt
  obtain ⟨s0c0, s0c1, s0c2, s0c3, s0c4, s0c5⟩ := s0.cells
  obtain ⟨s1c0, s1c1, s1c2, s1c3, s1c4, s1c5⟩ := s1.cells
  obtain ⟨s2c0, s2c1, s2c2, s2c3, s2c4, s2c5⟩ := s2.cells
  go_wp2_with fail
  clear s0c0 s0c1 s0c2 s0c3 s0c4 s0c5
  clear s1c0 s1c1 s1c2 s1c3 s1c4 s1c5
  clear s2c0 s2c1 s2c2 s2c3 s2c4 s2c5
  refine (fixed_any _ l).mono ?_
  rintro e u4 ⟨rfl, b2⟩
  have s0 := s0.below b2
  have s1 := s1.below b2
  have s2 := s2.below b2
  have B : Hid (Below r w u4) := Below.then bw b2 (by omega)
  clear bw b2 l hb
  clear s0 s1 s2
  go_wp2
  go_ret
  exact ⟨rfl, by rw [HR.out]; exact B.out⟩
set_option maxHeartbeats 4000000 in
theorem walk_none (a b c : Cp) (w : World) (hl : Laid w) (fa : Hid a.Fits) (fb : Hid b.Fits) (fc : Hid c.Fits) (ha : checkE a = 0) (hb : checkE b = 0) (hc : checkE c = 0) (h1 : derB a b = false) :
    Calls Tryd.prog 3 #[encC a, encC b, encC c] w fun e w' => e = .returned (.bool true) ∧ Below w.heap.size w w' := by
  simp only [encC]
  have bw := below_new w (objC a)
  have bw := Below.then bw (below_new (w.alloc (objC a)) (objC b)) bw.size
  have bw := Below.then bw (below_new ((w.alloc (objC a)).alloc (objC b)) (objC c)) bw.size
  have s0 := AtC.new w a
  have s0 := s0.below (below_new _ (objC b))
  have s0 := s0.below (below_new _ (objC c))
  have s1 := AtC.new (w.alloc (objC a)) b
  rw [World.size_alloc] at s1
  have s1 := s1.below (below_new _ (objC c))
  have s2 := AtC.new ((w.alloc (objC a)).alloc (objC b)) c
  rw [World.size_alloc, World.size_alloc] at s2
  have l := hl.below bw hl.size
  have r4 := hl.size
  clear hl
  simp only [objC] at bw l s0 s1 s2
  go_enter Tryd.func3, Tryd.ntmps3
  go_wp2_with fail
  generalize (((w.alloc (Obj.cells #[.int .i64 a.k, .int .i64 a.o, .int .i64 a.r, .int .u64 a.b, .int .u64 a.g, .int .i64 a.z] 24)).alloc (Obj.cells #[.int .i64 b.k, .int .i64 b.o, .int .i64 b.r, .int .u64 b.b, .int .u64 b.g, .int .i64 b.z] 24)).alloc (Obj.cells #[.int .i64 c.k, .int .i64 c.o, .int .i64 c.r, .int .u64 c.b, .int .u64 c.g, .int .i64 c.z] 24)) = v0 at *
  generalize hr : w.heap.size = r at *
  have HR : Hid (w.heap.size = r) := hr
  clear hr
  have hb := s0.lt
  refine (rcheck_any a _ fa.out).mono ?_
  rintro e u1 ⟨rfl, b2⟩
  have s0 := s0.below b2
  have s1 := s1.below b2
  have s2 := s2.below b2
  have bw := Below.then bw b2 (by omega)
  have l := l.below b2 l.size
  have hb' := b2.size
  clear b2
  have hb := s0.lt
  obtain ⟨s0c0, s0c1, s0c2, s0c3, s0c4, s0c5⟩ := s0.cells
  obtain ⟨s1c0, s1c1, s1c2, s1c3, s1c4, s1c5⟩ := s1.cells
  obtain ⟨s2c0, s2c1, s2c2, s2c3, s2c4, s2c5⟩ := s2.cells
  go_wp2_with fail
  clear s0c0 s0c1 s0c2 s0c3 s0c4 s0c5
  clear s1c0 s1c1 s1c2 s1c3 s1c4 s1c5
  clear s2c0 s2c1 s2c2 s2c3 s2c4 s2c5
  refine (rcheck_any b _ fb.out).mono ?_
  rintro e u2 ⟨rfl, b2⟩
  have s0 := s0.below b2
  have s1 := s1.below b2
  have s2 := s2.below b2
  have bw := Below.then bw b2 (by omega)
  have l := l.below b2 l.size
  have hb' := b2.size
  clear b2
  have hb := s0.lt
  obtain ⟨s0c0, s0c1, s0c2, s0c3, s0c4, s0c5⟩ := s0.cells
  obtain ⟨s1c0, s1c1, s1c2, s1c3, s1c4, s1c5⟩ := s1.cells
  obtain ⟨s2c0, s2c1, s2c2, s2c3, s2c4, s2c5⟩ := s2.cells
  go_wp2_with fail
  clear s0c0 s0c1 s0c2 s0c3 s0c4 s0c5
  clear s1c0 s1c1 s1c2 s1c3 s1c4 s1c5
  clear s2c0 s2c1 s2c2 s2c3 s2c4 s2c5
  refine (rcheck_any c _ fc.out).mono ?_
  rintro e u3 ⟨rfl, b2⟩
  have s0 := s0.below b2
  have s1 := s1.below b2
  have s2 := s2.below b2
  have bw := Below.then bw b2 (by omega)
  have l := l.below b2 l.size
  have hb' := b2.size
  clear b2
  have hb := s0.lt
  obtain ⟨s0c0, s0c1, s0c2, s0c3, s0c4, s0c5⟩ := s0.cells
  obtain ⟨s1c0, s1c1, s1c2, s1c3, s1c4, s1c5⟩ := s1.cells
  obtain ⟨s2c0, s2c1, s2c2, s2c3, s2c4, s2c5⟩ := s2.cells
  go_wp2_with fail
  clear s0c0 s0c1 s0c2 s0c3 s0c4 s0c5
  clear s1c0 s1c1 s1c2 s1c3 s1c4 s1c5
  clear s2c0 s2c1 s2c2 s2c3 s2c4 s2c5
  refine (der_any a b _).mono ?_
  rintro e u4 ⟨rfl, b2⟩
  have s0 := s0.below b2
  have s1 := s1.below b2
  have s2 := s2.below b2
  have bw := Below.then bw b2 (by omega)
  have l := l.below b2 l.size
  have hb' := b2.size
  clear b2
  have hb := s0.lt
  obtain ⟨s0c0, s0c1, s0c2, s0c3, s0c4, s0c5⟩ := s0.cells
  obtain ⟨s1c0, s1c1, s1c2, s1c3, s1c4, s1c5⟩ := s1.cells
  obtain ⟨s2c0, s2c1, s2c2, s2c3, s2c4, s2c5⟩ := s2.cells
  go_wp2_with fail
  clear s0c0 s0c1 s0c2 s0c3 s0c4 s0c5
  clear s1c0 s1c1 s1c2 s1c3 s1c4 s1c5
  clear s2c0 s2c1 s2c2 s2c3 s2c4 s2c5
  refine (der_any a b _).mono ?_
  rintro e u5 ⟨rfl, b2⟩
  have s0 := s0.below b2
  have s1 := s1.below b2
  have s2 := s2.below b2
  have bw := Below.then bw b2 (by omega)
  have l := l.below b2 l.size
  have hb' := b2.size
  clear b2
  have hb := s0.lt
  obtain ⟨s0c0, s0c1, s0c2, s0c3, s0c4, s0c5⟩ := s0.cells
  obtain ⟨s1c0, s1c1, s1c2, s1c3, s1c4, s1c5⟩ := s1.cells
  obtain ⟨s2c0, s2c1, s2c2, s2c3, s2c4, s2c5⟩ := s2.cells
  go_wp2_with fail
  clear s0c0 s0c1 s0c2 s0c3 s0c4 s0c5
  clear s1c0 s1c1 s1c2 s1c3 s1c4 s1c5
  clear s2c0 s2c1 s2c2 s2c3 s2c4 s2c5
  refine (fixed_any _ l).mono ?_
  rintro e u6 ⟨rfl, b2⟩
  have s0 := s0.below b2
  have s1 := s1.below b2
  have s2 := s2.below b2
  have B : Hid (Below r w u6) := Below.then bw b2 (by omega)
  clear bw b2 l hb
  clear s0 s1 s2
  go_wp2
  go_ret
  exact ⟨rfl, by rw [HR.out]; exact B.out⟩
set_option maxHeartbeats 4000000 in
theorem walk_t_f (a b c : Cp) (w : World) (hl : Laid w) (fa : Hid a.Fits) (fb : Hid b.Fits) (fc : Hid c.Fits) (ha : checkE a = 0) (hb : checkE b = 0) (hc : checkE c = 0) (h1 : derB a b = true) (h2 : derB b c = true) (h3 : derB a c = true) (h4 : derB b a = false) :
    Calls Tryd.prog 3 #[encC a, encC b, encC c] w fun e w' => e = .returned (.bool true) ∧ Below w.heap.size w w' := by
  simp only [encC]
  have bw := below_new w (objC a)
  have bw := Below.then bw (below_new (w.alloc (objC a)) (objC b)) bw.size
  have bw := Below.then bw (below_new ((w.alloc (objC a)).alloc (objC b)) (objC c)) bw.size
  have s0 := AtC.new w a
  have s0 := s0.below (below_new _ (objC b))
  have s0 := s0.below (below_new _ (objC c))
  have s1 := AtC.new (w.alloc (objC a)) b
  rw [World.size_alloc] at s1
  have s1 := s1.below (below_new _ (objC c))
  have s2 := AtC.new ((w.alloc (objC a)).alloc (objC b)) c
  rw [World.size_alloc, World.size_alloc] at s2
  have l := hl.below bw hl.size
  have r4 := hl.size
  clear hl
  simp only [objC] at bw l s0 s1 s2
  go_enter Tryd.func3, Tryd.ntmps3
  go_wp2_with fail
  generalize (((w.alloc (Obj.cells #[.int .i64 a.k, .int .i64 a.o, .int .i64 a.r, .int .u64 a.b, .int .u64 a.g, .int .i64 a.z] 24)).alloc (Obj.cells #[.int .i64 b.k, .int .i64 b.o, .int .i64 b.r, .int .u64 b.b, .int .u64 b.g, .int .i64 b.z] 24)).alloc (Obj.cells #[.int .i64 c.k, .int .i64 c.o, .int .i64 c.r, .int .u64 c.b, .int .u64 c.g, .int .i64 c.z] 24)) = v0 at *
  generalize hr : w.heap.size = r at *
  have HR : Hid (w.heap.size = r) := hr
  clear hr
  have hb := s0.lt
  refine (rcheck_any a _ fa.out).mono ?_
  rintro e u1 ⟨rfl, b2⟩
  have s0 := s0.below b2
  have s1 := s1.below b2
  have s2 := s2.below b2
  have bw := Below.then bw b2 (by omega)
  have l := l.below b2 l.size
  have hb' := b2.size
  clear b2
  have hb := s0.lt
  obtain ⟨s0c0, s0c1, s0c2, s0c3, s0c4, s0c5⟩ := s0.cells
  obtain ⟨s1c0, s1c1, s1c2, s1c3, s1c4, s1c5⟩ := s1.cells
  obtain ⟨s2c0, s2c1, s2c2, s2c3, s2c4, s2c5⟩ := s2.cells
  go_wp2_with fail
  clear s0c0 s0c1 s0c2 s0c3 s0c4 s0c5
  clear s1c0 s1c1 s1c2 s1c3 s1c4 s1c5
  clear s2c0 s2c1 s2c2 s2c3 s2c4 s2c5
  refine (rcheck_any b _ fb.out).mono ?_
  rintro e u2 ⟨rfl, b2⟩
  have s0 := s0.below b2
  have s1 := s1.below b2
  have s2 := s2.below b2
  have bw := Below.then bw b2 (by omega)
  have l := l.below b2 l.size
  have hb' := b2.size
  clear b2
  have hb := s0.lt
  obtain ⟨s0c0, s0c1, s0c2, s0c3, s0c4, s0c5⟩ := s0.cells
  obtain ⟨s1c0, s1c1, s1c2, s1c3, s1c4, s1c5⟩ := s1.cells
  obtain ⟨s2c0, s2c1, s2c2, s2c3, s2c4, s2c5⟩ := s2.cells
  go_wp2_with fail
  clear s0c0 s0c1 s0c2 s0c3 s0c4 s0c5
  clear s1c0 s1c1 s1c2 s1c3 s1c4 s1c5
  clear s2c0 s2c1 s2c2 s2c3 s2c4 s2c5
  refine (rcheck_any c _ fc.out).mono ?_
  rintro e u3 ⟨rfl, b2⟩
  have s0 := s0.below b2
  have s1 := s1.below b2
  have s2 := s2.below b2
  have bw := Below.then bw b2 (by omega)
  have l := l.below b2 l.size
  have hb' := b2.size
  clear b2
  have hb := s0.lt
  obtain ⟨s0c0, s0c1, s0c2, s0c3, s0c4, s0c5⟩ := s0.cells
  obtain ⟨s1c0, s1c1, s1c2, s1c3, s1c4, s1c5⟩ := s1.cells
  obtain ⟨s2c0, s2c1, s2c2, s2c3, s2c4, s2c5⟩ := s2.cells
  go_wp2_with fail
  clear s0c0 s0c1 s0c2 s0c3 s0c4 s0c5
  clear s1c0 s1c1 s1c2 s1c3 s1c4 s1c5
  clear s2c0 s2c1 s2c2 s2c3 s2c4 s2c5
  refine (der_any a b _).mono ?_
  rintro e u4 ⟨rfl, b2⟩
  have s0 := s0.below b2
  have s1 := s1.below b2
  have s2 := s2.below b2
  have bw := Below.then bw b2 (by omega)
  have l := l.below b2 l.size
  have hb' := b2.size
  clear b2
  have hb := s0.lt
  obtain ⟨s0c0, s0c1, s0c2, s0c3, s0c4, s0c5⟩ := s0.cells
  obtain ⟨s1c0, s1c1, s1c2, s1c3, s1c4, s1c5⟩ := s1.cells
  obtain ⟨s2c0, s2c1, s2c2, s2c3, s2c4, s2c5⟩ := s2.cells
  go_wp2_with fail
  clear s0c0 s0c1 s0c2 s0c3 s0c4 s0c5
  clear s1c0 s1c1 s1c2 s1c3 s1c4 s1c5
  clear s2c0 s2c1 s2c2 s2c3 s2c4 s2c5
  refine (der_any b c _).mono ?_
  rintro e u5 ⟨rfl, b2⟩
  have s0 := s0.below b2
  have s1 := s1.below b2
  have s2 := s2.below b2
  have bw := Below.then bw b2 (by omega)
  have l := l.below b2 l.size
  have hb' := b2.size
  clear b2
  have hb := s0.lt
  obtain ⟨s0c0, s0c1, s0c2, s0c3, s0c4, s0c5⟩ := s0.cells
  obtain ⟨s1c0, s1c1, s1c2, s1c3, s1c4, s1c5⟩ := s1.cells
  obtain ⟨s2c0, s2c1, s2c2, s2c3, s2c4, s2c5⟩ := s2.cells
  go_wp2_with fail
  clear s0c0 s0c1 s0c2 s0c3 s0c4 s0c5
  clear s1c0 s1c1 s1c2 s1c3 s1c4 s1c5
  clear s2c0 s2c1 s2c2 s2c3 s2c4 s2c5
  refine (der_any a c _).mono ?_
  rintro e u6 ⟨rfl, b2⟩
  have s0 := s0.below b2
  have s1 := s1.below b2
  have s2 := s2.below b2
  have bw := Below.then bw b2 (by omega)
  have l := l.below b2 l.size
  have hb' := b2.size
  clear b2
  have hb := s0.lt
  obtain ⟨s0c0, s0c1, s0c2, s0c3, s0c4, s0c5⟩ := s0.cells
  obtain ⟨s1c0, s1c1, s1c2, s1c3, s1c4, s1c5⟩ := s1.cells
  obtain ⟨s2c0, s2c1, s2c2, s2c3, s2c4, s2c5⟩ := s2.cells
  go_wp2_with fail
  clear s0c0 s0c1 s0c2 s0c3 s0c4 s0c5
  clear s1c0 s1c1 s1c2 s1c3 s1c4 s1c5
  clear s2c0 s2c1 s2c2 s2c3 s2c4 s2c5
  refine (der_any a b _).mono ?_
  rintro e u7 ⟨rfl, b2⟩
  have s0 := s0.below b2
  have s1 := s1.below b2
  have s2 := s2.below b2
  have bw := Below.then bw b2 (by omega)
  have l := l.below b2 l.size
  have hb' := b2.size
  clear b2
  have hb := s0.lt
  obtain ⟨s0c0, s0c1, s0c2, s0c3, s0c4, s0c5⟩ := s0.cells
  obtain ⟨s1c0, s1c1, s1c2, s1c3, s1c4, s1c5⟩ := s1.cells
  obtain ⟨s2c0, s2c1, s2c2, s2c3, s2c4, s2c5⟩ := s2.cells
  go_wp2_with fail
  clear s0c0 s0c1 s0c2 s0c3 s0c4 s0c5
  clear s1c0 s1c1 s1c2 s1c3 s1c4 s1c5
  clear s2c0 s2c1 s2c2 s2c3 s2c4 s2c5
  refine (der_any b a _).mono ?_
  rintro e u8 ⟨rfl, b2⟩
  have s0 := s0.below b2
  have s1 := s1.below b2
  have s2 := s2.below b2
  have bw := Below.then bw b2 (by omega)
  have l := l.below b2 l.size
  have hb' := b2.size
  clear b2
  have hb := s0.lt
  obtain ⟨s0c0, s0c1, s0c2, s0c3, s0c4, s0c5⟩ := s0.cells
  obtain ⟨s1c0, s1c1, s1c2, s1c3, s1c4, s1c5⟩ := s1.cells
  obtain ⟨s2c0, s2c1, s2c2, s2c3, s2c4, s2c5⟩ := s2.cells
  go_wp2_with fail
  clear s0c0 s0c1 s0c2 s0c3 s0c4 s0c5
  clear s1c0 s1c1 s1c2 s1c3 s1c4 s1c5
  clear s2c0 s2c1 s2c2 s2c3 s2c4 s2c5
  refine (fixed_any _ l).mono ?_
  rintro e u9 ⟨rfl, b2⟩
  have s0 := s0.below b2
  have s1 := s1.below b2
  have s2 := s2.below b2
  have B : Hid (Below r w u9) := Below.then bw b2 (by omega)
  clear bw b2 l hb
  clear s0 s1 s2
  go_wp2
  go_ret
  exact ⟨rfl, by rw [HR.out]; exact B.out⟩
set_option maxHeartbeats 4000000 in
theorem walk_t_t1 (a b c : Cp) (w : World) (hl : Laid w) (fa : Hid a.Fits) (fb : Hid b.Fits) (fc : Hid c.Fits) (ha : checkE a = 0) (hb : checkE b = 0) (hc : checkE c = 0) (h1 : derB a b = true) (h2 : derB b c = true) (h3 : derB a c = true) (h4 : derB b a = true) (g1 : (a.k == b.k) = true) (g2 : (a.o == b.o) = true) (g3 : (a.r == b.r) = true) (g4 : (a.b == b.b) = true) :
    Calls Tryd.prog 3 #[encC a, encC b, encC c] w fun e w' => e = .returned (.bool true) ∧ Below w.heap.size w w' := by
  simp only [encC]
  have bw := below_new w (objC a)
  have bw := Below.then bw (below_new (w.alloc (objC a)) (objC b)) bw.size
  have bw := Below.then bw (below_new ((w.alloc (objC a)).alloc (objC b)) (objC c)) bw.size
  have s0 := AtC.new w a
  have s0 := s0.below (below_new _ (objC b))
  have s0 := s0.below (below_new _ (objC c))
  have s1 := AtC.new (w.alloc (objC a)) b
  rw [World.size_alloc] at s1
  have s1 := s1.below (below_new _ (objC c))
  have s2 := AtC.new ((w.alloc (objC a)).alloc (objC b)) c
  rw [World.size_alloc, World.size_alloc] at s2
  have l := hl.below bw hl.size
  have r4 := hl.size
  clear hl
  simp only [objC] at bw l s0 s1 s2
  go_enter Tryd.func3, Tryd.ntmps3
  go_wp2_with fail
  generalize (((w.alloc (Obj.cells #[.int .i64 a.k, .int .i64 a.o, .int .i64 a.r, .int .u64 a.b, .int .u64 a.g, .int .i64 a.z] 24)).alloc (Obj.cells #[.int .i64 b.k, .int .i64 b.o, .int .i64 b.r, .int .u64 b.b, .int .u64 b.g, .int .i64 b.z] 24)).alloc (Obj.cells #[.int .i64 c.k, .int .i64 c.o, .int .i64 c.r, .int .u64 c.b, .int .u64 c.g, .int .i64 c.z] 24)) = v0 at *
  generalize hr : w.heap.size = r at *
  have HR : Hid (w.heap.size = r) := hr
  clear hr
  have hb := s0.lt
  refine (rcheck_any a _ fa.out).mono ?_
  rintro e u1 ⟨rfl, b2⟩
  have s0 := s0.below b2
  have s1 := s1.below b2
  have s2 := s2.below b2
  have bw := Below.then bw b2 (by omega)
  have l := l.below b2 l.size
  have hb' := b2.size
  clear b2
  have hb := s0.lt
  obtain ⟨s0c0, s0c1, s0c2, s0c3, s0c4, s0c5⟩ := s0.cells
  obtain ⟨s1c0, s1c1, s1c2, s1c3, s1c4, s1c5⟩ := s1.cells
  obtain ⟨s2c0, s2c1, s2c2, s2c3, s2c4, s2c5⟩ := s2.cells
  go_wp2_with fail
  clear s0c0 s0c1 s0c2 s0c3 s0c4 s0c5
  clear s1c0 s1c1 s1c2 s1c3 s1c4 s1c5
  clear s2c0 s2c1 s2c2 s2c3 s2c4 s2c5
  refine (rcheck_any b _ fb.out).mono ?_
  rintro e u2 ⟨rfl, b2⟩
  have s0 := s0.below b2
  have s1 := s1.below b2
  have s2 := s2.below b2
  have bw := Below.then bw b2 (by omega)
  have l := l.below b2 l.size
  have hb' := b2.size
  clear b2
  have hb := s0.lt
  obtain ⟨s0c0, s0c1, s0c2, s0c3, s0c4, s0c5⟩ := s0.cells
  obtain ⟨s1c0, s1c1, s1c2, s1c3, s1c4, s1c5⟩ := s1.cells
  obtain ⟨s2c0, s2c1, s2c2, s2c3, s2c4, s2c5⟩ := s2.cells
  go_wp2_with fail
  clear s0c0 s0c1 s0c2 s0c3 s0c4 s0c5
  clear s1c0 s1c1 s1c2 s1c3 s1c4 s1c5
  clear s2c0 s2c1 s2c2 s2c3 s2c4 s2c5
  refine (rcheck_any c _ fc.out).mono ?_
  rintro e u3 ⟨rfl, b2⟩
  have s0 := s0.below b2
  have s1 := s1.below b2
  have s2 := s2.below b2
  have bw := Below.then bw b2 (by omega)
  have l := l.below b2 l.size
  have hb' := b2.size
  clear b2
  have hb := s0.lt
  obtain ⟨s0c0, s0c1, s0c2, s0c3, s0c4, s0c5⟩ := s0.cells
  obtain ⟨s1c0, s1c1, s1c2, s1c3, s1c4, s1c5⟩ := s1.cells
  obtain ⟨s2c0, s2c1, s2c2, s2c3, s2c4, s2c5⟩ := s2.cells
  go_wp2_with fail
  clear s0c0 s0c1 s0c2 s0c3 s0c4 s0c5
  clear s1c0 s1c1 s1c2 s1c3 s1c4 s1c5
  clear s2c0 s2c1 s2c2 s2c3 s2c4 s2c5
  refine (der_any a b _).mono ?_
  rintro e u4 ⟨rfl, b2⟩
  have s0 := s0.below b2
  have s1 := s1.below b2
  have s2 := s2.below b2
  have bw := Below.then bw b2 (by omega)
  have l := l.below b2 l.size
  have hb' := b2.size
  clear b2
  have hb := s0.lt
  obtain ⟨s0c0, s0c1, s0c2, s0c3, s0c4, s0c5⟩ := s0.cells
  obtain ⟨s1c0, s1c1, s1c2, s1c3, s1c4, s1c5⟩ := s1.cells
  obtain ⟨s2c0, s2c1, s2c2, s2c3, s2c4, s2c5⟩ := s2.cells
  go_wp2_with fail
  clear s0c0 s0c1 s0c2 s0c3 s0c4 s0c5
  clear s1c0 s1c1 s1c2 s1c3 s1c4 s1c5
  clear s2c0 s2c1 s2c2 s2c3 s2c4 s2c5
  refine (der_any b c _).mono ?_
  rintro e u5 ⟨rfl, b2⟩
  have s0 := s0.below b2
  have s1 := s1.below b2
  have s2 := s2.below b2
  have bw := Below.then bw b2 (by omega)
  have l := l.below b2 l.size
  have hb' := b2.size
  clear b2
  have hb := s0.lt
  obtain ⟨s0c0, s0c1, s0c2, s0c3, s0c4, s0c5⟩ := s0.cells
  obtain ⟨s1c0, s1c1, s1c2, s1c3, s1c4, s1c5⟩ := s1.cells
  obtain ⟨s2c0, s2c1, s2c2, s2c3, s2c4, s2c5⟩ := s2.cells
  go_wp2_with fail
  clear s0c0 s0c1 s0c2 s0c3 s0c4 s0c5
  clear s1c0 s1c1 s1c2 s1c3 s1c4 s1c5
  clear s2c0 s2c1 s2c2 s2c3 s2c4 s2c5
  refine (der_any a c _).mono ?_
  rintro e u6 ⟨rfl, b2⟩
  have s0 := s0.below b2
  have s1 := s1.below b2
  have s2 := s2.below b2
  have bw := Below.then bw b2 (by omega)
  have l := l.below b2 l.size
  have hb' := b2.size
  clear b2
  have hb := s0.lt
  obtain ⟨s0c0, s0c1, s0c2, s0c3, s0c4, s0c5⟩ := s0.cells
  obtain ⟨s1c0, s1c1, s1c2, s1c3, s1c4, s1c5⟩ := s1.cells
  obtain ⟨s2c0, s2c1, s2c2, s2c3, s2c4, s2c5⟩ := s2.cells
  go_wp2_with fail
  clear s0c0 s0c1 s0c2 s0c3 s0c4 s0c5
  clear s1c0 s1c1 s1c2 s1c3 s1c4 s1c5
  clear s2c0 s2c1 s2c2 s2c3 s2c4 s2c5
  refine (der_any a b _).mono ?_
  rintro e u7 ⟨rfl, b2⟩
  have s0 := s0.below b2
  have s1 := s1.below b2
  have s2 := s2.below b2
  have bw := Below.then bw b2 (by omega)
  have l := l.below b2 l.size
  have hb' := b2.size
  clear b2
  have hb := s0.lt
  obtain ⟨s0c0, s0c1, s0c2, s0c3, s0c4, s0c5⟩ := s0.cells
  obtain ⟨s1c0, s1c1, s1c2, s1c3, s1c4, s1c5⟩ := s1.cells
  obtain ⟨s2c0, s2c1, s2c2, s2c3, s2c4, s2c5⟩ := s2.cells
  go_wp2_with fail
  clear s0c0 s0c1 s0c2 s0c3 s0c4 s0c5
  clear s1c0 s1c1 s1c2 s1c3 s1c4 s1c5
  clear s2c0 s2c1 s2c2 s2c3 s2c4 s2c5
  refine (der_any b a _).mono ?_
  rintro e u8 ⟨rfl, b2⟩
  have s0 := s0.below b2
  have s1 := s1.below b2
  have s2 := s2.below b2
  have bw := Below.then bw b2 (by omega)
  have l := l.below b2 l.size
  have hb' := b2.size
  clear b2
  have hb := s0.lt
  obtain ⟨s0c0, s0c1, s0c2, s0c3, s0c4, s0c5⟩ := s0.cells
  obtain ⟨s1c0, s1c1, s1c2, s1c3, s1c4, s1c5⟩ := s1.cells
  obtain ⟨s2c0, s2c1, s2c2, s2c3, s2c4, s2c5⟩ := s2.cells
  go_wp2_with fail
  clear s0c0 s0c1 s0c2 s0c3 s0c4 s0c5
  clear s1c0 s1c1 s1c2 s1c3 s1c4 s1c5
  clear s2c0 s2c1 s2c2 s2c3 s2c4 s2c5
  refine (fixed_any _ l).mono ?_
  rintro e u9 ⟨rfl, b2⟩
  have s0 := s0.below b2
  have s1 := s1.below b2
  have s2 := s2.below b2
  have B : Hid (Below r w u9) := Below.then bw b2 (by omega)
  clear bw b2 l hb
  clear s0 s1 s2
  go_wp2
  go_ret
  exact ⟨rfl, by rw [HR.out]; exact B.out⟩
set_option maxHeartbeats 4000000 in
theorem walk_t_t2 (a b c : Cp) (w : World) (hl : Laid w) (fa : Hid a.Fits) (fb : Hid b.Fits) (fc : Hid c.Fits) (ha : checkE a = 0) (hb : checkE b = 0) (hc : checkE c = 0) (h1 : derB a b = true) (h2 : derB b c = true) (h3 : derB a c = true) (h4 : derB b a = true) (g1 : (a.k == b.k) = true) (g2 : (a.o == b.o) = true) (g3 : (a.r == b.r) = true) (g4 : (a.b == b.b) = false) (g5 : (a.b == 0) = true) :
    Calls Tryd.prog 3 #[encC a, encC b, encC c] w fun e w' => e = .returned (.bool true) ∧ Below w.heap.size w w' := by
  simp only [encC]
  have bw := below_new w (objC a)
  have bw := Below.then bw (below_new (w.alloc (objC a)) (objC b)) bw.size
  have bw := Below.then bw (below_new ((w.alloc (objC a)).alloc (objC b)) (objC c)) bw.size
  have s0 := AtC.new w a
  have s0 := s0.below (below_new _ (objC b))
  have s0 := s0.below (below_new _ (objC c))
  have s1 := AtC.new (w.alloc (objC a)) b
  rw [World.size_alloc] at s1
  have s1 := s1.below (below_new _ (objC c))
  have s2 := AtC.new ((w.alloc (objC a)).alloc (objC b)) c
  rw [World.size_alloc, World.size_alloc] at s2
  have l := hl.below bw hl.size
  have r4 := hl.size
  clear hl
  simp only [objC] at bw l s0 s1 s2
  go_enter Tryd.func3, Tryd.ntmps3
  go_wp2_with fail
  generalize (((w.alloc (Obj.cells #[.int .i64 a.k, .int .i64 a.o, .int .i64 a.r, .int .u64 a.b, .int .u64 a.g, .int .i64 a.z] 24)).alloc (Obj.cells #[.int .i64 b.k, .int .i64 b.o, .int .i64 b.r, .int .u64 b.b, .int .u64 b.g, .int .i64 b.z] 24)).alloc (Obj.cells #[.int .i64 c.k, .int .i64 c.o, .int .i64 c.r, .int .u64 c.b, .int .u64 c.g, .int .i64 c.z] 24)) = v0 at *
  generalize hr : w.heap.size = r at *
  have HR : Hid (w.heap.size = r) := hr
  clear hr
  have hb := s0.lt
  refine (rcheck_any a _ fa.out).mono ?_
  rintro e u1 ⟨rfl, b2⟩
  have s0 := s0.below b2
  have s1 := s1.below b2
  have s2 := s2.below b2
  have bw := Below.then bw b2 (by omega)
  have l := l.below b2 l.size
  have hb' := b2.size
  clear b2
  have hb := s0.lt
  obtain ⟨s0c0, s0c1, s0c2, s0c3, s0c4, s0c5⟩ := s0.cells
  obtain ⟨s1c0, s1c1, s1c2, s1c3, s1c4, s1c5⟩ := s1.cells
  obtain ⟨s2c0, s2c1, s2c2, s2c3, s2c4, s2c5⟩ := s2.cells
  go_wp2_with fail
  clear s0c0 s0c1 s0c2 s0c3 s0c4 s0c5
  clear s1c0 s1c1 s1c2 s1c3 s1c4 s1c5
  clear s2c0 s2c1 s2c2 s2c3 s2c4 s2c5
  refine (rcheck_any b _ fb.out).mono ?_
  rintro e u2 ⟨rfl, b2⟩
  have s0 := s0.below b2
  have s1 := s1.below b2
  have s2 := s2.below b2
  have bw := Below.then bw b2 (by omega)
  have l := l.below b2 l.size
  have hb' := b2.size
  clear b2
  have hb := s0.lt
  obtain ⟨s0c0, s0c1, s0c2, s0c3, s0c4, s0c5⟩ := s0.cells
  obtain ⟨s1c0, s1c1, s1c2, s1c3, s1c4, s1c5⟩ := s1.cells
  obtain ⟨s2c0, s2c1, s2c2, s2c3, s2c4, s2c5⟩ := s2.cells
  go_wp2_with fail
  clear s0c0 s0c1 s0c2 s0c3 s0c4 s0c5
  clear s1c0 s1c1 s1c2 s1c3 s1c4 s1c5
  clear s2c0 s2c1 s2c2 s2c3 s2c4 s2c5
  refine (rcheck_any c _ fc.out).mono ?_
  rintro e u3 ⟨rfl, b2⟩
  have s0 := s0.below b2
  have s1 := s1.below b2
  have s2 := s2.below b2
  have bw := Below.then bw b2 (by omega)
  have l := l.below b2 l.size
  have hb' := b2.size
  clear b2
  have hb := s0.lt
  obtain ⟨s0c0, s0c1, s0c2, s0c3, s0c4, s0c5⟩ := s0.cells
  obtain ⟨s1c0, s1c1, s1c2, s1c3, s1c4, s1c5⟩ := s1.cells
  obtain ⟨s2c0, s2c1, s2c2, s2c3, s2c4, s2c5⟩ := s2.cells
  go_wp2_with fail
  clear s0c0 s0c1 s0c2 s0c3 s0c4 s0c5
  clear s1c0 s1c1 s1c2 s1c3 s1c4 s1c5
  clear s2c0 s2c1 s2c2 s2c3 s2c4 s2c5
  refine (der_any a b _).mono ?_
  rintro e u4 ⟨rfl, b2⟩
  have s0 := s0.below b2
  have s1 := s1.below b2
  have s2 := s2.below b2
  have bw := Below.then bw b2 (by omega)
  have l := l.below b2 l.size
  have hb' := b2.size
  clear b2
  have hb := s0.lt
  obtain ⟨s0c0, s0c1, s0c2, s0c3, s0c4, s0c5⟩ := s0.cells
  obtain ⟨s1c0, s1c1, s1c2, s1c3, s1c4, s1c5⟩ := s1.cells
  obtain ⟨s2c0, s2c1, s2c2, s2c3, s2c4, s2c5⟩ := s2.cells
  go_wp2_with fail
  clear s0c0 s0c1 s0c2 s0c3 s0c4 s0c5
  clear s1c0 s1c1 s1c2 s1c3 s1c4 s1c5
  clear s2c0 s2c1 s2c2 s2c3 s2c4 s2c5
  refine (der_any b c _).mono ?_
  rintro e u5 ⟨rfl, b2⟩
  have s0 := s0.below b2
  have s1 := s1.below b2
  have s2 := s2.below b2
  have bw := Below.then bw b2 (by omega)
  have l := l.below b2 l.size
  have hb' := b2.size
  clear b2
  have hb := s0.lt
  obtain ⟨s0c0, s0c1, s0c2, s0c3, s0c4, s0c5⟩ := s0.cells
  obtain ⟨s1c0, s1c1, s1c2, s1c3, s1c4, s1c5⟩ := s1.cells
  obtain ⟨s2c0, s2c1, s2c2, s2c3, s2c4, s2c5⟩ := s2.cells
  go_wp2_with fail
  clear s0c0 s0c1 s0c2 s0c3 s0c4 s0c5
  clear s1c0 s1c1 s1c2 s1c3 s1c4 s1c5
  clear s2c0 s2c1 s2c2 s2c3 s2c4 s2c5
  refine (der_any a c _).mono ?_
  rintro e u6 ⟨rfl, b2⟩
  have s0 := s0.below b2
  have s1 := s1.below b2
  have s2 := s2.below b2
  have bw := Below.then bw b2 (by omega)
  have l := l.below b2 l.size
  have hb' := b2.size
  clear b2
  have hb := s0.lt
  obtain ⟨s0c0, s0c1, s0c2, s0c3, s0c4, s0c5⟩ := s0.cells
  obtain ⟨s1c0, s1c1, s1c2, s1c3, s1c4, s1c5⟩ := s1.cells
  obtain ⟨s2c0, s2c1, s2c2, s2c3, s2c4, s2c5⟩ := s2.cells
  go_wp2_with fail
  clear s0c0 s0c1 s0c2 s0c3 s0c4 s0c5
  clear s1c0 s1c1 s1c2 s1c3 s1c4 s1c5
  clear s2c0 s2c1 s2c2 s2c3 s2c4 s2c5
  refine (der_any a b _).mono ?_
  rintro e u7 ⟨rfl, b2⟩
  have s0 := s0.below b2
  have s1 := s1.below b2
  have s2 := s2.below b2
  have bw := Below.then bw b2 (by omega)
  have l := l.below b2 l.size
  have hb' := b2.size
  clear b2
  have hb := s0.lt
  obtain ⟨s0c0, s0c1, s0c2, s0c3, s0c4, s0c5⟩ := s0.cells
  obtain ⟨s1c0, s1c1, s1c2, s1c3, s1c4, s1c5⟩ := s1.cells
  obtain ⟨s2c0, s2c1, s2c2, s2c3, s2c4, s2c5⟩ := s2.cells
  go_wp2_with fail
  clear s0c0 s0c1 s0c2 s0c3 s0c4 s0c5
  clear s1c0 s1c1 s1c2 s1c3 s1c4 s1c5
  clear s2c0 s2c1 s2c2 s2c3 s2c4 s2c5
  refine (der_any b a _).mono ?_
  rintro e u8 ⟨rfl, b2⟩
  have s0 := s0.below b2
  have s1 := s1.below b2
  have s2 := s2.below b2
  have bw := Below.then bw b2 (by omega)
  have l := l.below b2 l.size
  have hb' := b2.size
  clear b2
  have hb := s0.lt
  obtain ⟨s0c0, s0c1, s0c2, s0c3, s0c4, s0c5⟩ := s0.cells
  obtain ⟨s1c0, s1c1, s1c2, s1c3, s1c4, s1c5⟩ := s1.cells
  obtain ⟨s2c0, s2c1, s2c2, s2c3, s2c4, s2c5⟩ := s2.cells
  go_wp2_with fail
  clear s0c0 s0c1 s0c2 s0c3 s0c4 s0c5
  clear s1c0 s1c1 s1c2 s1c3 s1c4 s1c5
  clear s2c0 s2c1 s2c2 s2c3 s2c4 s2c5
  refine (fixed_any _ l).mono ?_
  rintro e u9 ⟨rfl, b2⟩
  have s0 := s0.below b2
  have s1 := s1.below b2
  have s2 := s2.below b2
  have B : Hid (Below r w u9) := Below.then bw b2 (by omega)
  clear bw b2 l hb
  clear s0 s1 s2
  go_wp2
  go_ret
  exact ⟨rfl, by rw [HR.out]; exact B.out⟩
set_option maxHeartbeats 4000000 in
theorem walk_f_f (a b c : Cp) (w : World) (hl : Laid w) (fa : Hid a.Fits) (fb : Hid b.Fits) (fc : Hid c.Fits) (ha : checkE a = 0) (hb : checkE b = 0) (hc : checkE c = 0) (h1 : derB a b = true) (h2 : derB b c = false) (h4 : derB b a = false) :
    Calls Tryd.prog 3 #[encC a, encC b, encC c] w fun e w' => e = .returned (.bool true) ∧ Below w.heap.size w w' := by
  simp only [encC]
  have bw := below_new w (objC a)
  have bw := Below.then bw (below_new (w.alloc (objC a)) (objC b)) bw.size
  have bw := Below.then bw (below_new ((w.alloc (objC a)).alloc (objC b)) (objC c)) bw.size
  have s0 := AtC.new w a
  have s0 := s0.below (below_new _ (objC b))
  have s0 := s0.below (below_new _ (objC c))
  have s1 := AtC.new (w.alloc (objC a)) b
  rw [World.size_alloc] at s1
  have s1 := s1.below (below_new _ (objC c))
  have s2 := AtC.new ((w.alloc (objC a)).alloc (objC b)) c
  rw [World.size_alloc, World.size_alloc] at s2
  have l := hl.below bw hl.size
  have r4 := hl.size
  clear hl
  simp only [objC] at bw l s0 s1 s2
  go_enter Tryd.func3, Tryd.ntmps3
  go_wp2_with fail
  generalize (((w.alloc (Obj.cells #[.int .i64 a.k, .int .i64 a.o, .int .i64 a.r, .int .u64 a.b, .int .u64 a.g, .int .i64 a.z] 24)).alloc (Obj.cells #[.int .i64 b.k, .int .i64 b.o, .int .i64 b.r, .int .u64 b.b, .int .u64 b.g, .int .i64 b.z] 24)).alloc (Obj.cells #[.int .i64 c.k, .int .i64 c.o, .int .i64 c.r, .int .u64 c.b, .int .u64 c.g, .int .i64 c.z] 24)) = v0 at *
  generalize hr : w.heap.size = r at *
  have HR : Hid (w.heap.size = r) := hr
  clear hr
  have hb := s0.lt
  refine (rcheck_any a _ fa.out).mono ?_
  rintro e u1 ⟨rfl, b2⟩
  have s0 := s0.below b2
  have s1 := s1.below b2
  have s2 := s2.below b2
  have bw := Below.then bw b2 (by omega)
  have l := l.below b2 l.size
  have hb' := b2.size
  clear b2
  have hb := s0.lt
  obtain ⟨s0c0, s0c1, s0c2, s0c3, s0c4, s0c5⟩ := s0.cells
  obtain ⟨s1c0, s1c1, s1c2, s1c3, s1c4, s1c5⟩ := s1.cells
  obtain ⟨s2c0, s2c1, s2c2, s2c3, s2c4, s2c5⟩ := s2.cells
  go_wp2_with fail
  clear s0c0 s0c1 s0c2 s0c3 s0c4 s0c5
  clear s1c0 s1c1 s1c2 s1c3 s1c4 s1c5
  clear s2c0 s2c1 s2c2 s2c3 s2c4 s2c5
  refine (rcheck_any b _ fb.out).mono ?_
  rintro e u2 ⟨rfl, b2⟩
  have s0 := s0.below b2
  have s1 := s1.below b2
  have s2 := s2.below b2
  have bw := Below.then bw b2 (by omega)
  have l := l.below b2 l.size
  have hb' := b2.size
  clear b2
  have hb := s0.lt
  obtain ⟨s0c0, s0c1, s0c2, s0c3, s0c4, s0c5⟩ := s0.cells
  obtain ⟨s1c0, s1c1, s1c2, s1c3, s1c4, s1c5⟩ := s1.cells
  obtain ⟨s2c0, s2c1, s2c2, s2c3, s2c4, s2c5⟩ := s2.cells
  go_wp2_with fail
  clear s0c0 s0c1 s0c2 s0c3 s0c4 s0c5
  clear s1c0 s1c1 s1c2 s1c3 s1c4 s1c5
  clear s2c0 s2c1 s2c2 s2c3 s2c4 s2c5
  refine (rcheck_any c _ fc.out).mono ?_
  rintro e u3 ⟨rfl, b2⟩
  have s0 := s0.below b2
  have s1 := s1.below b2
  have s2 := s2.below b2
  have bw := Below.then bw b2 (by omega)
  have l := l.below b2 l.size
  have hb' := b2.size
  clear b2
  have hb := s0.lt
  obtain ⟨s0c0, s0c1, s0c2, s0c3, s0c4, s0c5⟩ := s0.cells
  obtain ⟨s1c0, s1c1, s1c2, s1c3, s1c4, s1c5⟩ := s1.cells
  obtain ⟨s2c0, s2c1, s2c2, s2c3, s2c4, s2c5⟩ := s2.cells
  go_wp2_with fail
  clear s0c0 s0c1 s0c2 s0c3 s0c4 s0c5
  clear s1c0 s1c1 s1c2 s1c3 s1c4 s1c5
  clear s2c0 s2c1 s2c2 s2c3 s2c4 s2c5
  refine (der_any a b _).mono ?_
  rintro e u4 ⟨rfl, b2⟩
  have s0 := s0.below b2
  have s1 := s1.below b2
  have s2 := s2.below b2
  have bw := Below.then bw b2 (by omega)
  have l := l.below b2 l.size
  have hb' := b2.size
  clear b2
  have hb := s0.lt
  obtain ⟨s0c0, s0c1, s0c2, s0c3, s0c4, s0c5⟩ := s0.cells
  obtain ⟨s1c0, s1c1, s1c2, s1c3, s1c4, s1c5⟩ := s1.cells
  obtain ⟨s2c0, s2c1, s2c2, s2c3, s2c4, s2c5⟩ := s2.cells
  go_wp2_with fail
  clear s0c0 s0c1 s0c2 s0c3 s0c4 s0c5
  clear s1c0 s1c1 s1c2 s1c3 s1c4 s1c5
  clear s2c0 s2c1 s2c2 s2c3 s2c4 s2c5
  refine (der_any b c _).mono ?_
  rintro e u5 ⟨rfl, b2⟩
  have s0 := s0.below b2
  have s1 := s1.below b2
  have s2 := s2.below b2
  have bw := Below.then bw b2 (by omega)
  have l := l.below b2 l.size
  have hb' := b2.size
  clear b2
  have hb := s0.lt
  obtain ⟨s0c0, s0c1, s0c2, s0c3, s0c4, s0c5⟩ := s0.cells
  obtain ⟨s1c0, s1c1, s1c2, s1c3, s1c4, s1c5⟩ := s1.cells
  obtain ⟨s2c0, s2c1, s2c2, s2c3, s2c4, s2c5⟩ := s2.cells
  go_wp2_with fail
  clear s0c0 s0c1 s0c2 s0c3 s0c4 s0c5
  clear s1c0 s1c1 s1c2 s1c3 s1c4 s1c5
  clear s2c0 s2c1 s2c2 s2c3 s2c4 s2c5
  refine (der_any a b _).mono ?_
  rintro e u6 ⟨rfl, b2⟩
  have s0 := s0.below b2
  have s1 := s1.below b2
  have s2 := s2.below b2
  have bw := Below.then bw b2 (by omega)
  have l := l.below b2 l.size
  have hb' := b2.size
  clear b2
  have hb := s0.lt
  obtain ⟨s0c0, s0c1, s0c2, s0c3, s0c4, s0c5⟩ := s0.cells
  obtain ⟨s1c0, s1c1, s1c2, s1c3, s1c4, s1c5⟩ := s1.cells
  obtain ⟨s2c0, s2c1, s2c2, s2c3, s2c4, s2c5⟩ := s2.cells
  go_wp2_with fail
  clear s0c0 s0c1 s0c2 s0c3 s0c4 s0c5
  clear s1c0 s1c1 s1c2 s1c3 s1c4 s1c5
  clear s2c0 s2c1 s2c2 s2c3 s2c4 s2c5
  refine (der_any b a _).mono ?_
  rintro e u7 ⟨rfl, b2⟩
  have s0 := s0.below b2
  have s1 := s1.below b2
  have s2 := s2.below b2
  have bw := Below.then bw b2 (by omega)
  have l := l.below b2 l.size
  have hb' := b2.size
  clear b2
  have hb := s0.lt
  obtain ⟨s0c0, s0c1, s0c2, s0c3, s0c4, s0c5⟩ := s0.cells
  obtain ⟨s1c0, s1c1, s1c2, s1c3, s1c4, s1c5⟩ := s1.cells
  obtain ⟨s2c0, s2c1, s2c2, s2c3, s2c4, s2c5⟩ := s2.cells
  go_wp2_with fail
  clear s0c0 s0c1 s0c2 s0c3 s0c4 s0c5
  clear s1c0 s1c1 s1c2 s1c3 s1c4 s1c5
  clear s2c0 s2c1 s2c2 s2c3 s2c4 s2c5
  refine (fixed_any _ l).mono ?_
  rintro e u8 ⟨rfl, b2⟩
  have s0 := s0.below b2
  have s1 := s1.below b2
  have s2 := s2.below b2
  have B : Hid (Below r w u8) := Below.then bw b2 (by omega)
  clear bw b2 l hb
  clear s0 s1 s2
  go_wp2
  go_ret
  exact ⟨rfl, by rw [HR.out]; exact B.out⟩
set_option maxHeartbeats 4000000 in
theorem walk_f_t1 (a b c : Cp) (w : World) (hl : Laid w) (fa : Hid a.Fits) (fb : Hid b.Fits) (fc : Hid c.Fits) (ha : checkE a = 0) (hb : checkE b = 0) (hc : checkE c = 0) (h1 : derB a b = true) (h2 : derB b c = false) (h4 : derB b a = true) (g1 : (a.k == b.k) = true) (g2 : (a.o == b.o) = true) (g3 : (a.r == b.r) = true) (g4 : (a.b == b.b) = true) :
    Calls Tryd.prog 3 #[encC a, encC b, encC c] w fun e w' => e = .returned (.bool true) ∧ Below w.heap.size w w' := by
  simp only [encC]
  have bw := below_new w (objC a)
  have bw := Below.then bw (below_new (w.alloc (objC a)) (objC b)) bw.size
  have bw := Below.then bw (below_new ((w.alloc (objC a)).alloc (objC b)) (objC c)) bw.size
  have s0 := AtC.new w a
  have s0 := s0.below (below_new _ (objC b))
  have s0 := s0.below (below_new _ (objC c))
  have s1 := AtC.new (w.alloc (objC a)) b
  rw [World.size_alloc] at s1
  have s1 := s1.below (below_new _ (objC c))
  have s2 := AtC.new ((w.alloc (objC a)).alloc (objC b)) c
  rw [World.size_alloc, World.size_alloc] at s2
  have l := hl.below bw hl.size
  have r4 := hl.size
  clear hl
  simp only [objC] at bw l s0 s1 s2
  go_enter Tryd.func3, Tryd.ntmps3
  go_wp2_with fail
  generalize (((w.alloc (Obj.cells #[.int .i64 a.k, .int .i64 a.o, .int .i64 a.r, .int .u64 a.b, .int .u64 a.g, .int .i64 a.z] 24)).alloc (Obj.cells #[.int .i64 b.k, .int .i64 b.o, .int .i64 b.r, .int .u64 b.b, .int .u64 b.g, .int .i64 b.z] 24)).alloc (Obj.cells #[.int .i64 c.k, .int .i64 c.o, .int .i64 c.r, .int .u64 c.b, .int .u64 c.g, .int .i64 c.z] 24)) = v0 at *
  generalize hr : w.heap.size = r at *
  have HR : Hid (w.heap.size = r) := hr
  clear hr
  have hb := s0.lt
  refine (rcheck_any a _ fa.out).mono ?_
  rintro e u1 ⟨rfl, b2⟩
  have s0 := s0.below b2
  have s1 := s1.below b2
  have s2 := s2.below b2
  have bw := Below.then bw b2 (by omega)
  have l := l.below b2 l.size
  have hb' := b2.size
  clear b2
  have hb := s0.lt
  obtain ⟨s0c0, s0c1, s0c2, s0c3, s0c4, s0c5⟩ := s0.cells
  obtain ⟨s1c0, s1c1, s1c2, s1c3, s1c4, s1c5⟩ := s1.cells
  obtain ⟨s2c0, s2c1, s2c2, s2c3, s2c4, s2c5⟩ := s2.cells
  go_wp2_with fail
  clear s0c0 s0c1 s0c2 s0c3 s0c4 s0c5
  clear s1c0 s1c1 s1c2 s1c3 s1c4 s1c5
  clear s2c0 s2c1 s2c2 s2c3 s2c4 s2c5
  refine (rcheck_any b _ fb.out).mono ?_
  rintro e u2 ⟨rfl, b2⟩
  have s0 := s0.below b2
  have s1 := s1.below b2
  have s2 := s2.below b2
  have bw := Below.then bw b2 (by omega)
  have l := l.below b2 l.size
  have hb' := b2.size
  clear b2
  have hb := s0.lt
  obtain ⟨s0c0, s0c1, s0c2, s0c3, s0c4, s0c5⟩ := s0.cells
  obtain ⟨s1c0, s1c1, s1c2, s1c3, s1c4, s1c5⟩ := s1.cells
  obtain ⟨s2c0, s2c1, s2c2, s2c3, s2c4, s2c5⟩ := s2.cells
  go_wp2_with fail
  clear s0c0 s0c1 s0c2 s0c3 s0c4 s0c5
  clear s1c0 s1c1 s1c2 s1c3 s1c4 s1c5
  clear s2c0 s2c1 s2c2 s2c3 s2c4 s2c5
  refine (rcheck_any c _ fc.out).mono ?_
  rintro e u3 ⟨rfl, b2⟩
  have s0 := s0.below b2
  have s1 := s1.below b2
  have s2 := s2.below b2
  have bw := Below.then bw b2 (by omega)
  have l := l.below b2 l.size
  have hb' := b2.size
  clear b2
  have hb := s0.lt
  obtain ⟨s0c0, s0c1, s0c2, s0c3, s0c4, s0c5⟩ := s0.cells
  obtain ⟨s1c0, s1c1, s1c2, s1c3, s1c4, s1c5⟩ := s1.cells
  obtain ⟨s2c0, s2c1, s2c2, s2c3, s2c4, s2c5⟩ := s2.cells
  go_wp2_with fail
  clear s0c0 s0c1 s0c2 s0c3 s0c4 s0c5
  clear s1c0 s1c1 s1c2 s1c3 s1c4 s1c5
  clear s2c0 s2c1 s2c2 s2c3 s2c4 s2c5
  refine (der_any a b _).mono ?_
  rintro e u4 ⟨rfl, b2⟩
  have s0 := s0.below b2
  have s1 := s1.below b2
  have s2 := s2.below b2
  have bw := Below.then bw b2 (by omega)
  have l := l.below b2 l.size
  have hb' := b2.size
  clear b2
  have hb := s0.lt
  obtain ⟨s0c0, s0c1, s0c2, s0c3, s0c4, s0c5⟩ := s0.cells
  obtain ⟨s1c0, s1c1, s1c2, s1c3, s1c4, s1c5⟩ := s1.cells
  obtain ⟨s2c0, s2c1, s2c2, s2c3, s2c4, s2c5⟩ := s2.cells
  go_wp2_with fail
  clear s0c0 s0c1 s0c2 s0c3 s0c4 s0c5
  clear s1c0 s1c1 s1c2 s1c3 s1c4 s1c5
  clear s2c0 s2c1 s2c2 s2c3 s2c4 s2c5
  refine (der_any b c _).mono ?_
  rintro e u5 ⟨rfl, b2⟩
  have s0 := s0.below b2
  have s1 := s1.below b2
  have s2 := s2.below b2
  have bw := Below.then bw b2 (by omega)
  have l := l.below b2 l.size
  have hb' := b2.size
  clear b2
  have hb := s0.lt
  obtain ⟨s0c0, s0c1, s0c2, s0c3, s0c4, s0c5⟩ := s0.cells
  obtain ⟨s1c0, s1c1, s1c2, s1c3, s1c4, s1c5⟩ := s1.cells
  obtain ⟨s2c0, s2c1, s2c2, s2c3, s2c4, s2c5⟩ := s2.cells
  go_wp2_with fail
  clear s0c0 s0c1 s0c2 s0c3 s0c4 s0c5
  clear s1c0 s1c1 s1c2 s1c3 s1c4 s1c5
  clear s2c0 s2c1 s2c2 s2c3 s2c4 s2c5
  refine (der_any a b _).mono ?_
  rintro e u6 ⟨rfl, b2⟩
  have s0 := s0.below b2
  have s1 := s1.below b2
  have s2 := s2.below b2
  have bw := Below.then bw b2 (by omega)
  have l := l.below b2 l.size
  have hb' := b2.size
  clear b2
  have hb := s0.lt
  obtain ⟨s0c0, s0c1, s0c2, s0c3, s0c4, s0c5⟩ := s0.cells
  obtain ⟨s1c0, s1c1, s1c2, s1c3, s1c4, s1c5⟩ := s1.cells
  obtain ⟨s2c0, s2c1, s2c2, s2c3, s2c4, s2c5⟩ := s2.cells
  go_wp2_with fail
  clear s0c0 s0c1 s0c2 s0c3 s0c4 s0c5
  clear s1c0 s1c1 s1c2 s1c3 s1c4 s1c5
  clear s2c0 s2c1 s2c2 s2c3 s2c4 s2c5
  refine (der_any b a _).mono ?_
  rintro e u7 ⟨rfl, b2⟩
  have s0 := s0.below b2
  have s1 := s1.below b2
  have s2 := s2.below b2
  have bw := Below.then bw b2 (by omega)
  have l := l.below b2 l.size
  have hb' := b2.size
  clear b2
  have hb := s0.lt
  obtain ⟨s0c0, s0c1, s0c2, s0c3, s0c4, s0c5⟩ := s0.cells
  obtain ⟨s1c0, s1c1, s1c2, s1c3, s1c4, s1c5⟩ := s1.cells
  obtain ⟨s2c0, s2c1, s2c2, s2c3, s2c4, s2c5⟩ := s2.cells
  go_wp2_with fail
  clear s0c0 s0c1 s0c2 s0c3 s0c4 s0c5
  clear s1c0 s1c1 s1c2 s1c3 s1c4 s1c5
  clear s2c0 s2c1 s2c2 s2c3 s2c4 s2c5
  refine (fixed_any _ l).mono ?_
  rintro e u8 ⟨rfl, b2⟩
  have s0 := s0.below b2
  have s1 := s1.below b2
  have s2 := s2.below b2
  have B : Hid (Below r w u8) := Below.then bw b2 (by omega)
  clear bw b2 l hb
  clear s0 s1 s2
  go_wp2
  go_ret
  exact ⟨rfl, by rw [HR.out]; exact B.out⟩
set_option maxHeartbeats 4000000 in
theorem walk_f_t2 (a b c : Cp) (w : World) (hl : Laid w) (fa : Hid a.Fits) (fb : Hid b.Fits) (fc : Hid c.Fits) (ha : checkE a = 0) (hb : checkE b = 0) (hc : checkE c = 0) (h1 : derB a b = true) (h2 : derB b c = false) (h4 : derB b a = true) (g1 : (a.k == b.k) = true) (g2 : (a.o == b.o) = true) (g3 : (a.r == b.r) = true) (g4 : (a.b == b.b) = false) (g5 : (a.b == 0) = true) :
    Calls Tryd.prog 3 #[encC a, encC b, encC c] w fun e w' => e = .returned (.bool true) ∧ Below w.heap.size w w' := by
  simp only [encC]
  have bw := below_new w (objC a)
  have bw := Below.then bw (below_new (w.alloc (objC a)) (objC b)) bw.size
  have bw := Below.then bw (below_new ((w.alloc (objC a)).alloc (objC b)) (objC c)) bw.size
  have s0 := AtC.new w a
  have s0 := s0.below (below_new _ (objC b))
  have s0 := s0.below (below_new _ (objC c))
  have s1 := AtC.new (w.alloc (objC a)) b
  rw [World.size_alloc] at s1
  have s1 := s1.below (below_new _ (objC c))
  have s2 := AtC.new ((w.alloc (objC a)).alloc (objC b)) c
  rw [World.size_alloc, World.size_alloc] at s2
  have l := hl.below bw hl.size
  have r4 := hl.size
  clear hl
  simp only [objC] at bw l s0 s1 s2
  go_enter Tryd.func3, Tryd.ntmps3
  go_wp2_with fail
  generalize (((w.alloc (Obj.cells #[.int .i64 a.k, .int .i64 a.o, .int .i64 a.r, .int .u64 a.b, .int .u64 a.g, .int .i64 a.z] 24)).alloc (Obj.cells #[.int .i64 b.k, .int .i64 b.o, .int .i64 b.r, .int .u64 b.b, .int .u64 b.g, .int .i64 b.z] 24)).alloc (Obj.cells #[.int .i64 c.k, .int .i64 c.o, .int .i64 c.r, .int .u64 c.b, .int .u64 c.g, .int .i64 c.z] 24)) = v0 at *
  generalize hr : w.heap.size = r at *
  have HR : Hid (w.heap.size = r) := hr
  clear hr
  have hb := s0.lt
  refine (rcheck_any a _ fa.out).mono ?_
  rintro e u1 ⟨rfl, b2⟩
  have s0 := s0.below b2
  have s1 := s1.below b2
  have s2 := s2.below b2
  have bw := Below.then bw b2 (by omega)
  have l := l.below b2 l.size
  have hb' := b2.size
  clear b2
  have hb := s0.lt
  obtain ⟨s0c0, s0c1, s0c2, s0c3, s0c4, s0c5⟩ := s0.cells
  obtain ⟨s1c0, s1c1, s1c2, s1c3, s1c4, s1c5⟩ := s1.cells
  obtain ⟨s2c0, s2c1, s2c2, s2c3, s2c4, s2c5⟩ := s2.cells
  go_wp2_with fail
  clear s0c0 s0c1 s0c2 s0c3 s0c4 s0c5
  clear s1c0 s1c1 s1c2 s1c3 s1c4 s1c5
  clear s2c0 s2c1 s2c2 s2c3 s2c4 s2c5
  refine (rcheck_any b _ fb.out).mono ?_
  rintro e u2 ⟨rfl, b2⟩
  have s0 := s0.below b2
  have s1 := s1.below b2
  have s2 := s2.below b2
  have bw := Below.then bw b2 (by omega)
  have l := l.below b2 l.size
  have hb' := b2.size
  clear b2
  have hb := s0.lt
  obtain ⟨s0c0, s0c1, s0c2, s0c3, s0c4, s0c5⟩ := s0.cells
  obtain ⟨s1c0, s1c1, s1c2, s1c3, s1c4, s1c5⟩ := s1.cells
  obtain ⟨s2c0, s2c1, s2c2, s2c3, s2c4, s2c5⟩ := s2.cells
  go_wp2_with fail
  clear s0c0 s0c1 s0c2 s0c3 s0c4 s0c5
  clear s1c0 s1c1 s1c2 s1c3 s1c4 s1c5
  clear s2c0 s2c1 s2c2 s2c3 s2c4 s2c5
  refine (rcheck_any c _ fc.out).mono ?_
  rintro e u3 ⟨rfl, b2⟩
  have s0 := s0.below b2
  have s1 := s1.below b2
  have s2 := s2.below b2
  have bw := Below.then bw b2 (by omega)
  have l := l.below b2 l.size
  have hb' := b2.size
  clear b2
  have hb := s0.lt
  obtain ⟨s0c0, s0c1, s0c2, s0c3, s0c4, s0c5⟩ := s0.cells
  obtain ⟨s1c0, s1c1, s1c2, s1c3, s1c4, s1c5⟩ := s1.cells
  obtain ⟨s2c0, s2c1, s2c2, s2c3, s2c4, s2c5⟩ := s2.cells
  go_wp2_with fail
  clear s0c0 s0c1 s0c2 s0c3 s0c4 s0c5
  clear s1c0 s1c1 s1c2 s1c3 s1c4 s1c5
  clear s2c0 s2c1 s2c2 s2c3 s2c4 s2c5
  refine (der_any a b _).mono ?_
  rintro e u4 ⟨rfl, b2⟩
  have s0 := s0.below b2
  have s1 := s1.below b2
  have s2 := s2.below b2
  have bw := Below.then bw b2 (by omega)
  have l := l.below b2 l.size
  have hb' := b2.size
  clear b2
  have hb := s0.lt
  obtain ⟨s0c0, s0c1, s0c2, s0c3, s0c4, s0c5⟩ := s0.cells
  obtain ⟨s1c0, s1c1, s1c2, s1c3, s1c4, s1c5⟩ := s1.cells
  obtain ⟨s2c0, s2c1, s2c2, s2c3, s2c4, s2c5⟩ := s2.cells
  go_wp2_with fail
  clear s0c0 s0c1 s0c2 s0c3 s0c4 s0c5
  clear s1c0 s1c1 s1c2 s1c3 s1c4 s1c5
  clear s2c0 s2c1 s2c2 s2c3 s2c4 s2c5
  refine (der_any b c _).mono ?_
  rintro e u5 ⟨rfl, b2⟩
  have s0 := s0.below b2
  have s1 := s1.below b2
  have s2 := s2.below b2
  have bw := Below.then bw b2 (by omega)
  have l := l.below b2 l.size
  have hb' := b2.size
  clear b2
  have hb := s0.lt
  obtain ⟨s0c0, s0c1, s0c2, s0c3, s0c4, s0c5⟩ := s0.cells
  obtain ⟨s1c0, s1c1, s1c2, s1c3, s1c4, s1c5⟩ := s1.cells
  obtain ⟨s2c0, s2c1, s2c2, s2c3, s2c4, s2c5⟩ := s2.cells
  go_wp2_with fail
  clear s0c0 s0c1 s0c2 s0c3 s0c4 s0c5
  clear s1c0 s1c1 s1c2 s1c3 s1c4 s1c5
  clear s2c0 s2c1 s2c2 s2c3 s2c4 s2c5
  refine (der_any a b _).mono ?_
  rintro e u6 ⟨rfl, b2⟩
  have s0 := s0.below b2
  have s1 := s1.below b2
  have s2 := s2.below b2
  have bw := Below.then bw b2 (by omega)
  have l := l.below b2 l.size
  have hb' := b2.size
  clear b2
  have hb := s0.lt
  obtain ⟨s0c0, s0c1, s0c2, s0c3, s0c4, s0c5⟩ := s0.cells
  obtain ⟨s1c0, s1c1, s1c2, s1c3, s1c4, s1c5⟩ := s1.cells
  obtain ⟨s2c0, s2c1, s2c2, s2c3, s2c4, s2c5⟩ := s2.cells
  go_wp2_with fail
  clear s0c0 s0c1 s0c2 s0c3 s0c4 s0c5
  clear s1c0 s1c1 s1c2 s1c3 s1c4 s1c5
  clear s2c0 s2c1 s2c2 s2c3 s2c4 s2c5
  refine (der_any b a _).mono ?_
  rintro e u7 ⟨rfl, b2⟩
  have s0 := s0.below b2
  have s1 := s1.below b2
  have s2 := s2.below b2
  have bw := Below.then bw b2 (by omega)
  have l := l.below b2 l.size
  have hb' := b2.size
  clear b2
  have hb := s0.lt
  obtain ⟨s0c0, s0c1, s0c2, s0c3, s0c4, s0c5⟩ := s0.cells
  obtain ⟨s1c0, s1c1, s1c2, s1c3, s1c4, s1c5⟩ := s1.cells
  obtain ⟨s2c0, s2c1, s2c2, s2c3, s2c4, s2c5⟩ := s2.cells
  go_wp2_with fail
  clear s0c0 s0c1 s0c2 s0c3 s0c4 s0c5
  clear s1c0 s1c1 s1c2 s1c3 s1c4 s1c5
  clear s2c0 s2c1 s2c2 s2c3 s2c4 s2c5
  refine (fixed_any _ l).mono ?_
  rintro e u8 ⟨rfl, b2⟩
  have s0 := s0.below b2
  have s1 := s1.below b2
  have s2 := s2.below b2
  have B : Hid (Below r w u8) := Below.then bw b2 (by omega)
  clear bw b2 l hb
  clear s0 s1 s2
  go_wp2
  go_ret
  exact ⟨rfl, by rw [HR.out]; exact B.out⟩
theorem walk (a b c : Cp) (w : World) (hl : Laid w) (ga : a.Fits) (gb : b.Fits) (gc : c.Fits) :
    Calls Tryd.prog 3 #[encC a, encC b, encC c] w fun e w' => e = .returned (.bool true) ∧ Below w.heap.size w w' := by
  have fa : Hid a.Fits := ga
  have fb : Hid b.Fits := gb
  have fc : Hid c.Fits := gc
  by_cases ha : Fine a
  · have ea : checkE a = 0 := by rw [checkE, if_pos ha]
    by_cases hb : Fine b
    · have eb : checkE b = 0 := by rw [checkE, if_pos hb]
      by_cases hc : Fine c
      · have ec : checkE c = 0 := by rw [checkE, if_pos hc]
        cases h1 : derB a b with
        | false => exact walk_none a b c w hl fa fb fc ea eb ec h1
        | true =>
          have ra := fine_rights ha
          have rb := fine_rights hb
          have rc := fine_rights hc
          have key : derB b a = true → (a.k == b.k) = true ∧ (a.o == b.o) = true ∧ (a.r == b.r) = true ∧ (a.b = b.b ∨ a.b = 0) := by
            intro h4
            obtain ⟨⟨p1, p2, p3⟩, p4, p5⟩ := derB_iff.1 h1
            obtain ⟨⟨q1, q2, q3⟩, q4, q5⟩ := derB_iff.1 h4
            refine ⟨by simpa using p2, by simpa using p3, by simpa using not_not ra rb p4 q4, p5.symm⟩
          cases h2 : derB b c with
          | true =>
            have h3 := der_trans ra rb rc h1 h2
            cases h4 : derB b a with
            | false => exact walk_t_f a b c w hl fa fb fc ea eb ec h1 h2 h3 h4
            | true =>
              obtain ⟨g1, g2, g3, g4⟩ := key h4
              by_cases g5 : a.b = b.b
              · exact walk_t_t1 a b c w hl fa fb fc ea eb ec h1 h2 h3 h4 g1 g2 g3 (by simpa using g5)
              · exact walk_t_t2 a b c w hl fa fb fc ea eb ec h1 h2 h3 h4 g1 g2 g3 (by simpa using g5) (by simpa using g4.resolve_left g5)
          | false =>
            cases h4 : derB b a with
            | false => exact walk_f_f a b c w hl fa fb fc ea eb ec h1 h2 h4
            | true =>
              obtain ⟨g1, g2, g3, g4⟩ := key h4
              by_cases g5 : a.b = b.b
              · exact walk_f_t1 a b c w hl fa fb fc ea eb ec h1 h2 h4 g1 g2 g3 (by simpa using g5)
              · exact walk_f_t2 a b c w hl fa fb fc ea eb ec h1 h2 h4 g1 g2 g3 (by simpa using g5) (by simpa using g4.resolve_left g5)
      · exact walk_c a b c w hl fa fb fc ea eb (by rw [checkE, if_neg hc])
    · exact walk_b a b c w hl fa fb ea (by rw [checkE, if_neg hb])
  · exact walk_a a b c w hl fa (by rw [checkE, if_neg ha])
end
open Go.ChangeShapes Go.WideShapes Go.ChangeAt Go.RowKit Go.Joins

/-! ### From the walk to the statement -/
theorem contract (H : Type) (enc : TypeId × Value → H) (W : World) (base : Nat) (args : Array Value) (ds gs : List (DataW H)) (before : List MemPlace)
    (hval : ∀ (j : Nat) t v, Tryd.f3.params[j]? = some t → args[j]? = some v → Value.okWide Tryd.prog W .any base t v)
    (hW : DataW.Whole enc Tryd.prog Tryd.f3.params.toList Rows.capsOrderSpec.vars false W args.toList ds gs before) (hL : laidMetH Tryd.prog Rows.capsOrderRow.laid W) :
    Calls Tryd.prog 3 args W fun e W' => ∃ v, e = .returned v ∧ Rows.capsOrderSpec.post enc Tryd.prog Tryd.f3 false true false false W args v W' := by
  have dCp : DecidableEq Cp := fun a b => Classical.propDecidable (a = b)
  have dLim : ∀ k, Decidable (Lim k) := fun k => Classical.propDecidable (Lim k)
  have dBad : ∀ k, Decidable (Bad k) := fun k => Classical.propDecidable (Bad k)
  have dFit : ∀ g z, Decidable (Fit g z) := fun g z => Classical.propDecidable (Fit g z)
  have dFine : ∀ c, Decidable (Fine c) := fun c => Classical.propDecidable (Fine c)
  have dMint : ∀ c v, Decidable (MintR c v) := fun c v => Classical.propDecidable (MintR c v)
  have dWho : ∀ x y, Decidable (Whose x y) := fun x y => Classical.propDecidable (Whose x y)
  have hW' := hW
  obtain ⟨p, q, hA0, hV, rfl, hfz, hnd⟩ := hW
  have hA : DataW.TrodAll enc Tryd.prog W 0 (fun _ => true) true Tryd.f3.params.toList args.toList ds p := hA0
  rw [Tryd.params3] at hA hval
  obtain ⟨v0, vs0, d0, ds0, p0, q0, hargs, rfl, rfl, h0, r0⟩ := trodAll_cons hA
  obtain ⟨v1, vs1, d1, ds1, p1, q1, rfl, rfl, rfl, h1, r1⟩ := trodAll_cons r0
  obtain ⟨v2, vs2, d2, ds2, p2, q2, rfl, rfl, rfl, h2, r2⟩ := trodAll_cons r1
  obtain ⟨rfl, rfl, rfl⟩ := trodAll_nil r2
  obtain rfl : args = #[v0, v1, v2] := by cases args; simp_all
  obtain ⟨rfl, rfl⟩ := trodVars_none hV
  have k0 := h0
  have lt0 : ∀ x ∈ p0, x.block < W.heap.size := by obtain ⟨m, hm⟩ := k0; exact DataW.trod_lt m _ _ _ hm
  have k1 := h1
  have lt1 : ∀ x ∈ p1, x.block < W.heap.size := by obtain ⟨m, hm⟩ := k1; exact DataW.trod_lt m _ _ _ hm
  have k2 := h2
  have lt2 : ∀ x ∈ p2, x.block < W.heap.size := by obtain ⟨m, hm⟩ := k2; exact DataW.trod_lt m _ _ _ hm
  obtain ⟨a0, rfl, w0⟩ := open_cap (hval 0 24 v0 rfl rfl) h0
  obtain ⟨a1, rfl, w1⟩ := open_cap (hval 1 24 v1 rfl rfl) h1
  obtain ⟨a2, rfl, w2⟩ := open_cap (hval 2 24 v2 rfl rfl) h2
  clear hA0
  refine (walk a0 a1 a2 W (table hL) w0 w1 w2).mono fun e W' ⟨he, bel⟩ => ?_
  subst he
  exact ⟨_, rfl, _, _, _, [], _, [], hW', trodAll_mk1 (shut_bool Tryd.underlying4 _), (trodAll_cons_mk (Below.trod laidOut (by kernel_rfl) (of_decide_eq_true (by kernel_rfl)) k0 bel lt0) (trodAll_cons_mk (Below.trod laidOut (by kernel_rfl) (of_decide_eq_true (by kernel_rfl)) k1 bel lt1) (trodAll_cons_mk (Below.trod laidOut (by kernel_rfl) (of_decide_eq_true (by kernel_rfl)) k2 bel lt2) trodAll_mk0))), rfl, bel.frame _, fun h => by cases h⟩

theorem laid_met (os : Os) : laidMet Tryd.prog Rows.capsOrderRow.laid ((World.doorLaid Tryd.prog 40 os).forCall (fun _ _ => 0) ⟨#[], #[.agg #[.int .i64 0, .int .i64 0, .int .i64 0, .int .u64 0, .int .u64 0, .int .i64 0], .agg #[.int .i64 0, .int .i64 0, .int .i64 0, .int .u64 0, .int .u64 0, .int .i64 0], .agg #[.int .i64 0, .int .i64 0, .int .i64 0, .int .u64 0, .int .u64 0, .int .i64 0]], []⟩).memory :=
  laidMet_of_run' 8 (by kernel_rfl) (by kernel_rfl)
theorem reads (os : Os) {H : Type} (enc : TypeId × Value → H) : ∃ places, DataW.whole enc Tryd.prog ((World.doorLaid Tryd.prog 40 os).forCall (fun _ _ => 0) ⟨#[], #[.agg #[.int .i64 0, .int .i64 0, .int .i64 0, .int .u64 0, .int .u64 0, .int .i64 0], .agg #[.int .i64 0, .int .i64 0, .int .i64 0, .int .u64 0, .int .u64 0, .int .i64 0], .agg #[.int .i64 0, .int .i64 0, .int .i64 0, .int .u64 0, .int .u64 0, .int .i64 0]], []⟩).memory Tryd.f3.params.toList Rows.capsOrderSpec.vars false (#[.agg #[.int .i64 0, .int .i64 0, .int .i64 0, .int .u64 0, .int .u64 0, .int .i64 0], .agg #[.int .i64 0, .int .i64 0, .int .i64 0, .int .u64 0, .int .u64 0, .int .i64 0], .agg #[.int .i64 0, .int .i64 0, .int .i64 0, .int .u64 0, .int .u64 0, .int .i64 0]] : Array Value).toList 8 = some ([.agg [.lit (.int .i64 0), .lit (.int .i64 0), .lit (.int .i64 0), .lit (.int .u64 0), .lit (.int .u64 0), .lit (.int .i64 0)], .agg [.lit (.int .i64 0), .lit (.int .i64 0), .lit (.int .i64 0), .lit (.int .u64 0), .lit (.int .u64 0), .lit (.int .i64 0)], .agg [.lit (.int .i64 0), .lit (.int .i64 0), .lit (.int .i64 0), .lit (.int .u64 0), .lit (.int .u64 0), .lit (.int .i64 0)]], [], places) :=
  ⟨[], by kernel_rfl⟩
set_option maxRecDepth 100000 in
theorem lifted (os : Os) (started : os.Started) (H : Type) (enc : TypeId × Value → H) (F : Stop.Interp) :
    ReturnsInHanded {} Tryd.checked os 3 .any ((OpenSpec.ofChange Rows.capsOrderSpec).preRow enc Tryd.prog Tryd.f3 Rows.capsOrderRow.domain false Rows.capsOrderRow.laid) (((OpenSpec.ofChange Rows.capsOrderSpec).at F).post enc Tryd.prog Tryd.f3 false true false false) := by
  have dCp : DecidableEq Cp := fun a b => Classical.propDecidable (a = b)
  have dLim : ∀ k, Decidable (Lim k) := fun k => Classical.propDecidable (Lim k)
  have dBad : ∀ k, Decidable (Bad k) := fun k => Classical.propDecidable (Bad k)
  have dFit : ∀ g z, Decidable (Fit g z) := fun g z => Classical.propDecidable (Fit g z)
  have dFine : ∀ c, Decidable (Fine c) := fun c => Classical.propDecidable (Fine c)
  have dMint : ∀ c v, Decidable (MintR c v) := fun c v => Classical.propDecidable (MintR c v)
  have dWho : ∀ x y, Decidable (Whose x y) := fun x y => Classical.propDecidable (Whose x y)
  obtain ⟨places, hx⟩ := reads os enc
  refine returnsInHanded_of_row (C := Tryd.checked) (s := OpenSpec.ofChange Rows.capsOrderSpec) own started (by kernel_rfl) Tryd.func3
    (witness_row_at (enc := enc) (C := Tryd.checked) false (World.doorLaid Tryd.prog 40 os) #[.agg #[.int .i64 0, .int .i64 0, .int .i64 0, .int .u64 0, .int .u64 0, .int .i64 0], .agg #[.int .i64 0, .int .i64 0, .int .i64 0, .int .u64 0, .int .u64 0, .int .i64 0], .agg #[.int .i64 0, .int .i64 0, .int .i64 0, .int .u64 0, .int .u64 0, .int .i64 0]] rfl (by kernel_rfl) (by kernel_rfl) (by kernel_rfl)
      (OpenSpec.preRow_of_cond 8 hx (by kernel_rfl) (fun k hk => by cases hk) (by kernel_rfl) (laid_met os))) ?_
  intro W base args ds gs before hval hW _ _ _ hL _ _
  exact contract H enc W base args ds gs before hval hW hL
theorem said : Rows.CapsOrderSaid :=
  OpenClaim.holds_of_cond 3 Tryd.f3 rfl rfl rfl rfl rfl rfl rfl ⟨rfl, rfl, rfl, rfl, rfl⟩ rfl rfl rfl rfl rfl (by kernel_rfl) Tryd.func3 (by kernel_rfl)
    (of_decide_eq_true (by kernel_rfl)) (by unfold Func.isWrapper; first | (rw [if_pos (by decide +kernel)]; kernel_rfl) | (rw [if_neg (by decide +kernel)]; exact ⟨rfl, rfl⟩))
    (fun os started H enc _ F => by rw [OpenClaim.pre_eq_preRow]; exact lifted os started H enc F)
theorem plain (f : FuncId) (fn : Func) (hf : Tryd.pinned.checked.prog.funcNamed "buttress/buttresslaw04.CapsOrder" = some f) (hfn : Tryd.pinned.checked.prog.funcs[f]? = some fn) :
    false = Tryd.pinned.checked.prog.looks [] ∧ ∀ (j : Nat) t, fn.params[j]? = some t → Tryd.pinned.checked.prog.wantsStandIn t = false := by
  obtain rfl : f = 3 := Option.some.inj ((show Tryd.prog.funcNamed "buttress/buttresslaw04.CapsOrder" = some 3 by kernel_rfl).symm.trans hf) |>.symm
  obtain rfl : fn = Tryd.f3 := (Option.some.inj (Tryd.func3.symm.trans hfn)).symm
  refine ⟨by kernel_rfl, fun j t ht => ?_⟩
  rw [Tryd.params3] at ht
  have hm : t ∈ [24, 24, 24] := by simpa using Array.mem_of_getElem? ht
  have hall : ([24, 24, 24].all fun u => !Tryd.prog.wantsStandIn u) = true := by kernel_rfl
  exact (show Tryd.prog.wantsStandIn t = false by simpa using List.all_eq_true.1 hall t hm)
end Go.Proofs.YtokehmkegnmfdabDoor.capsOrder
namespace Go.Proofs.YtokehmkegnmfdabDoor
/-- THE CARD. -/
theorem capsOrder_card : Rows.CapsOrderCardSaid :=
  Claim7.holds_tied_plain_at .later [] _ _ _ _ capsOrder.said (fun _ h => by cases h) (by kernel_rfl) (fun _ h => by cases h) capsOrder_row_tie rfl ⟨rfl, rfl⟩ (by kernel_rfl) rfl capsOrder.plain (by kernel_rfl)
#print axioms capsOrder_card
end Go.Proofs.YtokehmkegnmfdabDoor

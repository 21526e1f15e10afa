/-
  CapsGuards answers true for every input; the program's four places lie as its text lays them, and the card ties that to the text.
-/
import Derived.Test.YtokehmkegnmfdabDoorCFixed
import Derived.Test.YtokehmkegnmfdabDoorCSay
import Derived.Test.YtokehmkegnmfdabDoorCRights
import Derived.Laws.Rows
import Derived.Deep.CutRange
import Derived.Deep.RegionWith
namespace Go.Proofs.YtokehmkegnmfdabDoor.capsGuards
open Go.RowKit Go.Deep
set_option linter.unusedSectionVars false
section
variable [dCp : DecidableEq Cp] [dLim : ∀ k, Decidable (Lim k)] [dBad : ∀ k, Decidable (Bad k)] [dFit : ∀ g z, Decidable (Fit g z)] [dFine : ∀ c, Decidable (Fine c)] [dMint : ∀ c v, Decidable (MintR c v)] [dWho : ∀ x y, Decidable (Whose x y)]
theorem next {w W w' : World} {r : Nat} {c : Cp} (h : W.cell? ⟨r, 0, none⟩ = some (.int .i64 c.k) ∧ W.cell? ⟨r, 1, none⟩ = some (.int .i64 c.o) ∧ W.cell? ⟨r, 2, none⟩ = some (.int .i64 c.r) ∧ W.cell? ⟨r, 3, none⟩ = some (.int .u64 c.b) ∧ W.cell? ⟨r, 4, none⟩ = some (.int .u64 c.g) ∧ W.cell? ⟨r, 5, none⟩ = some (.int .i64 c.z) ∧ (AtC W r c ∧ Laid W ∧ Below r w W))
    (b2 : Below W.heap.size W w') : w'.cell? ⟨r, 0, none⟩ = some (.int .i64 c.k) ∧ w'.cell? ⟨r, 1, none⟩ = some (.int .i64 c.o) ∧ w'.cell? ⟨r, 2, none⟩ = some (.int .i64 c.r) ∧ w'.cell? ⟨r, 3, none⟩ = some (.int .u64 c.b) ∧ w'.cell? ⟨r, 4, none⟩ = some (.int .u64 c.g) ∧ w'.cell? ⟨r, 5, none⟩ = some (.int .i64 c.z) ∧ (AtC w' r c ∧ Laid w' ∧ Below r w w') := by
  obtain ⟨_, _, _, _, _, _, a0, l, b⟩ := h
  have e0 := a0.below b2
  obtain ⟨c0_0, c0_1, c0_2, c0_3, c0_4, c0_5⟩ := e0.cells
  exact ⟨c0_0, c0_1, c0_2, c0_3, c0_4, c0_5, e0, l.below b2 l.size, Below.then b b2 (Nat.le_of_lt a0.lt)⟩
theorem set6 {W : World} {q : Nat} {z : Cp} (a : Cp) (h : AtC W q z) : AtC ((((((W.setCell ⟨q, 0, none⟩ (.int .i64 a.k)).setCell ⟨q, 1, none⟩ (.int .i64 a.o)).setCell ⟨q, 2, none⟩ (.int .i64 a.r)).setCell ⟨q, 3, none⟩ (.int .u64 a.b)).setCell ⟨q, 4, none⟩ (.int .u64 a.g)).setCell ⟨q, 5, none⟩ (.int .i64 a.z)) q a := by
  have h0 := heap_setCell_same W q 0 _ _ (.int .i64 a.k) h
  have h1 := heap_setCell_same _ q 1 _ _ (.int .i64 a.o) h0
  have h2 := heap_setCell_same _ q 2 _ _ (.int .i64 a.r) h1
  have h3 := heap_setCell_same _ q 3 _ _ (.int .u64 a.b) h2
  have h4 := heap_setCell_same _ q 4 _ _ (.int .u64 a.g) h3
  exact heap_setCell_same _ q 5 _ _ (.int .i64 a.z) h4
theorem next_sets {w W : World} {r q : Nat} {c : Cp} {v0 v1 v2 v3 v4 v5 : Value} (r4 : 4 ≤ r) (hq : r < q) (h : W.cell? ⟨r, 0, none⟩ = some (.int .i64 c.k) ∧ W.cell? ⟨r, 1, none⟩ = some (.int .i64 c.o) ∧ W.cell? ⟨r, 2, none⟩ = some (.int .i64 c.r) ∧ W.cell? ⟨r, 3, none⟩ = some (.int .u64 c.b) ∧ W.cell? ⟨r, 4, none⟩ = some (.int .u64 c.g) ∧ W.cell? ⟨r, 5, none⟩ = some (.int .i64 c.z) ∧ (AtC W r c ∧ Laid W ∧ Below r w W)) : ((((((W.setCell ⟨q, 0, none⟩ v0).setCell ⟨q, 1, none⟩ v1).setCell ⟨q, 2, none⟩ v2).setCell ⟨q, 3, none⟩ v3).setCell ⟨q, 4, none⟩ v4).setCell ⟨q, 5, none⟩ v5).cell? ⟨r, 0, none⟩ = some (.int .i64 c.k) ∧ ((((((W.setCell ⟨q, 0, none⟩ v0).setCell ⟨q, 1, none⟩ v1).setCell ⟨q, 2, none⟩ v2).setCell ⟨q, 3, none⟩ v3).setCell ⟨q, 4, none⟩ v4).setCell ⟨q, 5, none⟩ v5).cell? ⟨r, 1, none⟩ = some (.int .i64 c.o) ∧ ((((((W.setCell ⟨q, 0, none⟩ v0).setCell ⟨q, 1, none⟩ v1).setCell ⟨q, 2, none⟩ v2).setCell ⟨q, 3, none⟩ v3).setCell ⟨q, 4, none⟩ v4).setCell ⟨q, 5, none⟩ v5).cell? ⟨r, 2, none⟩ = some (.int .i64 c.r) ∧ ((((((W.setCell ⟨q, 0, none⟩ v0).setCell ⟨q, 1, none⟩ v1).setCell ⟨q, 2, none⟩ v2).setCell ⟨q, 3, none⟩ v3).setCell ⟨q, 4, none⟩ v4).setCell ⟨q, 5, none⟩ v5).cell? ⟨r, 3, none⟩ = some (.int .u64 c.b) ∧ ((((((W.setCell ⟨q, 0, none⟩ v0).setCell ⟨q, 1, none⟩ v1).setCell ⟨q, 2, none⟩ v2).setCell ⟨q, 3, none⟩ v3).setCell ⟨q, 4, none⟩ v4).setCell ⟨q, 5, none⟩ v5).cell? ⟨r, 4, none⟩ = some (.int .u64 c.g) ∧ ((((((W.setCell ⟨q, 0, none⟩ v0).setCell ⟨q, 1, none⟩ v1).setCell ⟨q, 2, none⟩ v2).setCell ⟨q, 3, none⟩ v3).setCell ⟨q, 4, none⟩ v4).setCell ⟨q, 5, none⟩ v5).cell? ⟨r, 5, none⟩ = some (.int .i64 c.z) ∧ (AtC ((((((W.setCell ⟨q, 0, none⟩ v0).setCell ⟨q, 1, none⟩ v1).setCell ⟨q, 2, none⟩ v2).setCell ⟨q, 3, none⟩ v3).setCell ⟨q, 4, none⟩ v4).setCell ⟨q, 5, none⟩ v5) r c ∧ Laid ((((((W.setCell ⟨q, 0, none⟩ v0).setCell ⟨q, 1, none⟩ v1).setCell ⟨q, 2, none⟩ v2).setCell ⟨q, 3, none⟩ v3).setCell ⟨q, 4, none⟩ v4).setCell ⟨q, 5, none⟩ v5) ∧ Below r w ((((((W.setCell ⟨q, 0, none⟩ v0).setCell ⟨q, 1, none⟩ v1).setCell ⟨q, 2, none⟩ v2).setCell ⟨q, 3, none⟩ v3).setCell ⟨q, 4, none⟩ v4).setCell ⟨q, 5, none⟩ v5)) := by
  obtain ⟨_, _, _, _, _, _, a0, l, b⟩ := h
  have b' : Below (r + 1) W ((((((W.setCell ⟨q, 0, none⟩ v0).setCell ⟨q, 1, none⟩ v1).setCell ⟨q, 2, none⟩ v2).setCell ⟨q, 3, none⟩ v3).setCell ⟨q, 4, none⟩ v4).setCell ⟨q, 5, none⟩ v5) := six_sets (Below.refl _ _) hq _ _ _ _ _ _
  have e0 : AtC ((((((W.setCell ⟨q, 0, none⟩ v0).setCell ⟨q, 1, none⟩ v1).setCell ⟨q, 2, none⟩ v2).setCell ⟨q, 3, none⟩ v3).setCell ⟨q, 4, none⟩ v4).setCell ⟨q, 5, none⟩ v5) r c := (b'.block r (by omega)).trans a0
  obtain ⟨c0, c1, c2, c3, c4, c5⟩ := e0.cells
  exact ⟨c0, c1, c2, c3, c4, c5, e0, l.below b' (by omega), b.trans (b'.mono (by omega))⟩
theorem next3 {w W w' : World} {r : Nat} {a c : Cp} {p q : Nat} (h : W.cell? ⟨r, 0, none⟩ = some (.int .i64 c.k) ∧ W.cell? ⟨r, 1, none⟩ = some (.int .i64 c.o) ∧ W.cell? ⟨r, 2, none⟩ = some (.int .i64 c.r) ∧ W.cell? ⟨r, 3, none⟩ = some (.int .u64 c.b) ∧ W.cell? ⟨r, 4, none⟩ = some (.int .u64 c.g) ∧ W.cell? ⟨r, 5, none⟩ = some (.int .i64 c.z) ∧ W.cell? ⟨q, 0, none⟩ = some (.int .i64 a.k) ∧ W.cell? ⟨q, 1, none⟩ = some (.int .i64 a.o) ∧ W.cell? ⟨q, 2, none⟩ = some (.int .i64 a.r) ∧ W.cell? ⟨q, 3, none⟩ = some (.int .u64 a.b) ∧ W.cell? ⟨q, 4, none⟩ = some (.int .u64 a.g) ∧ W.cell? ⟨q, 5, none⟩ = some (.int .i64 a.z) ∧ W.cell? ⟨p, 0, none⟩ = some (.int .i64 c.k) ∧ W.cell? ⟨p, 1, none⟩ = some (.int .i64 c.o) ∧ W.cell? ⟨p, 2, none⟩ = some (.int .i64 c.r) ∧ W.cell? ⟨p, 3, none⟩ = some (.int .u64 c.b) ∧ W.cell? ⟨p, 4, none⟩ = some (.int .u64 c.g) ∧ W.cell? ⟨p, 5, none⟩ = some (.int .i64 c.z) ∧ (AtC W r c ∧ AtC W q a ∧ AtC W p c ∧ Laid W ∧ Below r w W))
    (b2 : Below W.heap.size W w') : w'.cell? ⟨r, 0, none⟩ = some (.int .i64 c.k) ∧ w'.cell? ⟨r, 1, none⟩ = some (.int .i64 c.o) ∧ w'.cell? ⟨r, 2, none⟩ = some (.int .i64 c.r) ∧ w'.cell? ⟨r, 3, none⟩ = some (.int .u64 c.b) ∧ w'.cell? ⟨r, 4, none⟩ = some (.int .u64 c.g) ∧ w'.cell? ⟨r, 5, none⟩ = some (.int .i64 c.z) ∧ w'.cell? ⟨q, 0, none⟩ = some (.int .i64 a.k) ∧ w'.cell? ⟨q, 1, none⟩ = some (.int .i64 a.o) ∧ w'.cell? ⟨q, 2, none⟩ = some (.int .i64 a.r) ∧ w'.cell? ⟨q, 3, none⟩ = some (.int .u64 a.b) ∧ w'.cell? ⟨q, 4, none⟩ = some (.int .u64 a.g) ∧ w'.cell? ⟨q, 5, none⟩ = some (.int .i64 a.z) ∧ w'.cell? ⟨p, 0, none⟩ = some (.int .i64 c.k) ∧ w'.cell? ⟨p, 1, none⟩ = some (.int .i64 c.o) ∧ w'.cell? ⟨p, 2, none⟩ = some (.int .i64 c.r) ∧ w'.cell? ⟨p, 3, none⟩ = some (.int .u64 c.b) ∧ w'.cell? ⟨p, 4, none⟩ = some (.int .u64 c.g) ∧ w'.cell? ⟨p, 5, none⟩ = some (.int .i64 c.z) ∧ (AtC w' r c ∧ AtC w' q a ∧ AtC w' p c ∧ Laid w' ∧ Below r w w') := by
  obtain ⟨_, _, _, _, _, _, _, _, _, _, _, _, _, _, _, _, _, _, a0, a1, a2, l, b⟩ := h
  have e0 := a0.below b2
  have e1 := a1.below b2
  have e2 := a2.below b2
  obtain ⟨c0_0, c0_1, c0_2, c0_3, c0_4, c0_5⟩ := e0.cells
  obtain ⟨c1_0, c1_1, c1_2, c1_3, c1_4, c1_5⟩ := e1.cells
  obtain ⟨c2_0, c2_1, c2_2, c2_3, c2_4, c2_5⟩ := e2.cells
  exact ⟨c0_0, c0_1, c0_2, c0_3, c0_4, c0_5, c1_0, c1_1, c1_2, c1_3, c1_4, c1_5, c2_0, c2_1, c2_2, c2_3, c2_4, c2_5, e0, e1, e2, l.below b2 l.size, Below.then b b2 (Nat.le_of_lt a0.lt)⟩
theorem lay3 {w W : World} {r p q : Nat} {a c : Cp} (h : W.cell? ⟨r, 0, none⟩ = some (.int .i64 c.k) ∧ W.cell? ⟨r, 1, none⟩ = some (.int .i64 c.o) ∧ W.cell? ⟨r, 2, none⟩ = some (.int .i64 c.r) ∧ W.cell? ⟨r, 3, none⟩ = some (.int .u64 c.b) ∧ W.cell? ⟨r, 4, none⟩ = some (.int .u64 c.g) ∧ W.cell? ⟨r, 5, none⟩ = some (.int .i64 c.z) ∧ W.cell? ⟨q, 0, none⟩ = some (.int .i64 a.k) ∧ W.cell? ⟨q, 1, none⟩ = some (.int .i64 a.o) ∧ W.cell? ⟨q, 2, none⟩ = some (.int .i64 a.r) ∧ W.cell? ⟨q, 3, none⟩ = some (.int .u64 a.b) ∧ W.cell? ⟨q, 4, none⟩ = some (.int .u64 a.g) ∧ W.cell? ⟨q, 5, none⟩ = some (.int .i64 a.z) ∧ W.cell? ⟨p, 0, none⟩ = some (.int .i64 c.k) ∧ W.cell? ⟨p, 1, none⟩ = some (.int .i64 c.o) ∧ W.cell? ⟨p, 2, none⟩ = some (.int .i64 c.r) ∧ W.cell? ⟨p, 3, none⟩ = some (.int .u64 c.b) ∧ W.cell? ⟨p, 4, none⟩ = some (.int .u64 c.g) ∧ W.cell? ⟨p, 5, none⟩ = some (.int .i64 c.z) ∧ (AtC W r c ∧ AtC W q a ∧ AtC W p c ∧ Laid W ∧ Below r w W)) : Laid W := by
  obtain ⟨_, _, _, _, _, _, _, _, _, _, _, _, _, _, _, _, _, _, _, _, _, l, _⟩ := h
  exact l
set_option maxHeartbeats 8000000 in
theorem walk_yes (c a : Cp) (g n k G : Int) (w : World) (hl : Laid w) (fc : Hid c.Fits) (fa : Hid a.Fits) (hk : bits BinOp.and IntKind.i64 n 63 = k) (k0 : 0 ≤ k) (k1 : k ≤ 63)
    (hs : IntKind.u64.wrap (IntKind.u64.wrap (2 ^ k.toNat) - 1) = onesI k) (hG : bits BinOp.and IntKind.u64 g (onesI k) = G) (g0 : 0 ≤ G ∧ G ≤ 18446744073709551615)
    (e1 : guardE c G k = 0) (r1 : guardR c G k = a) (e2 : guardE a c.g c.z = 0) (r2 : guardR a c.g c.z = c)
    (q1 : (a.o == c.o) = true) (q2 : (a.g == G) = true) (q3 : (a.z == k) = true) (q4 : sameB a c = true) (q5 : checkE a = 0) :
    Calls Tryd.prog 5 #[encC c, .int .u64 g, .int .i64 n] w fun e w' => e = .returned (.bool true) ∧ Below w.heap.size w w' := by
  have K1 := fun W => guard_any c G k W fc.out g0
  have K2 := fun W => guard_any a c.g c.z W fa.out fc.out.g
  rw [e1, r1] at K1
  rw [e2, r2] at K2
  have X1 : Hid (∀ W : World, Calls Tryd.prog 10 #[encC c, .int .u64 G, .int .i64 k] W fun e w' => e = .returned (.tuple #[encC a, .int .i64 0]) ∧ Below W.heap.size W w') := K1
  have X2 : Hid (∀ W : World, Calls Tryd.prog 10 #[encC a, .int .u64 c.g, .int .i64 c.z] W fun e w' => e = .returned (.tuple #[encC c, .int .i64 0]) ∧ Below W.heap.size W w') := K2
  clear K1 K2 e1 r1 e2 r2
  have HQ1 : ∀ W, (Op.equalIn 10000 24 (.agg #[.int .i64 c.k, .int .i64 c.o, .int .i64 c.r, .int .u64 c.b, .int .u64 c.g, .int .i64 c.z]) (.agg #[.int .i64 c.k, .int .i64 c.o, .int .i64 c.r, .int .u64 c.b, .int .u64 c.g, .int .i64 c.z])).run Tryd.prog W = .ok true W := fun W => by
    have h := eq_caps W c c
    rwa [show decide (c = c) = true by simp] at h
  simp only [encC] at *
  have bw := below_new w (objC c)
  have s0 := AtC.new w c
  have l := hl.below bw hl.size
  have r4 := hl.size
  clear hl
  simp only [objC] at bw l s0
  go_enter Tryd.func5, Tryd.ntmps5
  go_wp2_with fail
  generalize (w.alloc (Obj.cells #[.int .i64 c.k, .int .i64 c.o, .int .i64 c.r, .int .u64 c.b, .int .u64 c.g, .int .i64 c.z] 24)) = v0 at *
  generalize hr : w.heap.size = r at *
  have HR : Hid (w.heap.size = r) := hr
  clear hr
  have hb := s0.lt
  obtain ⟨s0c0, s0c1, s0c2, s0c3, s0c4, s0c5⟩ := s0.cells
  have hq0 := s0.lt
  have hS : v0.cell? ⟨r, 0, none⟩ = some (.int .i64 c.k) ∧ v0.cell? ⟨r, 1, none⟩ = some (.int .i64 c.o) ∧ v0.cell? ⟨r, 2, none⟩ = some (.int .i64 c.r) ∧ v0.cell? ⟨r, 3, none⟩ = some (.int .u64 c.b) ∧ v0.cell? ⟨r, 4, none⟩ = some (.int .u64 c.g) ∧ v0.cell? ⟨r, 5, none⟩ = some (.int .i64 c.z) ∧ (AtC v0 r c ∧ Laid v0 ∧ Below r w v0) := ⟨s0c0, s0c1, s0c2, s0c3, s0c4, s0c5, s0, l, bw⟩
  clear s0c0 s0c1 s0c2 s0c3 s0c4 s0c5 s0 l bw hb
  have zm : AtC (v0.alloc (.cells #[.int .i64 0, .int .i64 0, .int .i64 0, .int .u64 0, .int .u64 0, .int .i64 0] 24)).drew v0.heap.size ⟨0, 0, 0, 0, 0, 0⟩ := AtC.new v0 ⟨0, 0, 0, 0, 0, 0⟩
  go_cut [8, 9] from 8 to 24 (fun p e wx => e = .int .i64 0 ∧ ∃ q, p = .pointer (some ⟨q, 0, none⟩) ∧ AtC wx q a ∧ r < q ∧ AtC wx r c ∧ Laid wx ∧ Below r w wx)
  case first =>
   have hS' := hS
   obtain ⟨c0, c1, c2, c3, c4, c5, _, _, _⟩ := hS'
   go_region_with (go_at_call 10; refine (X1.out _).mono ?_; rintro e u ⟨rfl, b2⟩; (first | (with_reducible have zz := AtC.below zm b2; obtain ⟨z0, z1, z2, z3, z4, z5⟩ := zz.cells; have zf := zz.frozen) | skip))
   all_goals go_wp2_with fail
   all_goals go_meet
   all_goals first
     | (with_reducible have T := next (next hS ((Below.refl _ _).drew)) b2
        obtain ⟨_, _, _, _, _, _, t0, tl, tb⟩ := next T (below_new u (objC a))
        exact ⟨rfl, _, rfl, AtC.new u a, T.2.2.2.2.2.2.1.lt, t0, tl, tb⟩)
     | (with_reducible have T := next (next hS ((below_new _ _).drew)) b2
        obtain ⟨_, _, _, _, _, _, t0, tl, tb⟩ := next_sets (v0 := .int .i64 a.k) (v1 := .int .i64 a.o) (v2 := .int .i64 a.r) (v3 := .int .u64 a.b) (v4 := .int .u64 a.g) (v5 := .int .i64 a.z) r4 hq0 T
        exact ⟨rfl, _, rfl, set6 a zz, hq0, t0, tl, tb⟩)
  obtain ⟨rfl, q, rfl, sa, hq1, s0, l, bw⟩ := hcut
  clear hS zm
  have hb := s0.lt
  obtain ⟨s0c0, s0c1, s0c2, s0c3, s0c4, s0c5⟩ := s0.cells
  obtain ⟨sac0, sac1, sac2, sac3, sac4, sac5⟩ := sa.cells
  go_wp2_with fail
  clear s0c0 s0c1 s0c2 s0c3 s0c4 s0c5
  clear sac0 sac1 sac2 sac3 sac4 sac5
  refine (X2.out _).mono ?_
  rintro e u2 ⟨rfl, b2⟩
  have s0 := (s0.below b2).below (below_new _ (objC c))
  have sa := (sa.below b2).below (below_new _ (objC c))
  have bw := Below.then (Below.then bw b2 (by omega)) (below_new u2 (objC c)) (by have := b2.size; omega)
  have l := (l.below b2 l.size).below (below_new u2 (objC c)) (l.below b2 l.size).size
  have s2 := AtC.new u2 c
  clear b2 hb
  simp only [objC] at bw l s0 sa s2
  go_wp2_with fail
  generalize u2.alloc (Obj.cells #[.int .i64 c.k, .int .i64 c.o, .int .i64 c.r, .int .u64 c.b, .int .u64 c.g, .int .i64 c.z] 24) = v2 at *
  generalize u2.heap.size = q2 at *
  have hb := s0.lt
  obtain ⟨s0c0, s0c1, s0c2, s0c3, s0c4, s0c5⟩ := s0.cells
  obtain ⟨sac0, sac1, sac2, sac3, sac4, sac5⟩ := sa.cells
  obtain ⟨s2c0, s2c1, s2c2, s2c3, s2c4, s2c5⟩ := s2.cells
  have hS : v2.cell? ⟨r, 0, none⟩ = some (.int .i64 c.k) ∧ v2.cell? ⟨r, 1, none⟩ = some (.int .i64 c.o) ∧ v2.cell? ⟨r, 2, none⟩ = some (.int .i64 c.r) ∧ v2.cell? ⟨r, 3, none⟩ = some (.int .u64 c.b) ∧ v2.cell? ⟨r, 4, none⟩ = some (.int .u64 c.g) ∧ v2.cell? ⟨r, 5, none⟩ = some (.int .i64 c.z) ∧ v2.cell? ⟨q, 0, none⟩ = some (.int .i64 a.k) ∧ v2.cell? ⟨q, 1, none⟩ = some (.int .i64 a.o) ∧ v2.cell? ⟨q, 2, none⟩ = some (.int .i64 a.r) ∧ v2.cell? ⟨q, 3, none⟩ = some (.int .u64 a.b) ∧ v2.cell? ⟨q, 4, none⟩ = some (.int .u64 a.g) ∧ v2.cell? ⟨q, 5, none⟩ = some (.int .i64 a.z) ∧ v2.cell? ⟨q2, 0, none⟩ = some (.int .i64 c.k) ∧ v2.cell? ⟨q2, 1, none⟩ = some (.int .i64 c.o) ∧ v2.cell? ⟨q2, 2, none⟩ = some (.int .i64 c.r) ∧ v2.cell? ⟨q2, 3, none⟩ = some (.int .u64 c.b) ∧ v2.cell? ⟨q2, 4, none⟩ = some (.int .u64 c.g) ∧ v2.cell? ⟨q2, 5, none⟩ = some (.int .i64 c.z) ∧ (AtC v2 r c ∧ AtC v2 q a ∧ AtC v2 q2 c ∧ Laid v2 ∧ Below r w v2) := ⟨s0c0, s0c1, s0c2, s0c3, s0c4, s0c5, sac0, sac1, sac2, sac3, sac4, sac5, s2c0, s2c1, s2c2, s2c3, s2c4, s2c5, s0, sa, s2, l, bw⟩
  clear s0c0 s0c1 s0c2 s0c3 s0c4 s0c5 sac0 sac1 sac2 sac3 sac4 sac5 s2c0 s2c1 s2c2 s2c3 s2c4 s2c5 s0 sa s2 l bw hb
  go_region_held3 (fun W => W.cell? ⟨r, 0, none⟩ = some (.int .i64 c.k) ∧ W.cell? ⟨r, 1, none⟩ = some (.int .i64 c.o) ∧ W.cell? ⟨r, 2, none⟩ = some (.int .i64 c.r) ∧ W.cell? ⟨r, 3, none⟩ = some (.int .u64 c.b) ∧ W.cell? ⟨r, 4, none⟩ = some (.int .u64 c.g) ∧ W.cell? ⟨r, 5, none⟩ = some (.int .i64 c.z) ∧ W.cell? ⟨q, 0, none⟩ = some (.int .i64 a.k) ∧ W.cell? ⟨q, 1, none⟩ = some (.int .i64 a.o) ∧ W.cell? ⟨q, 2, none⟩ = some (.int .i64 a.r) ∧ W.cell? ⟨q, 3, none⟩ = some (.int .u64 a.b) ∧ W.cell? ⟨q, 4, none⟩ = some (.int .u64 a.g) ∧ W.cell? ⟨q, 5, none⟩ = some (.int .i64 a.z) ∧ W.cell? ⟨q2, 0, none⟩ = some (.int .i64 c.k) ∧ W.cell? ⟨q2, 1, none⟩ = some (.int .i64 c.o) ∧ W.cell? ⟨q2, 2, none⟩ = some (.int .i64 c.r) ∧ W.cell? ⟨q2, 3, none⟩ = some (.int .u64 c.b) ∧ W.cell? ⟨q2, 4, none⟩ = some (.int .u64 c.g) ∧ W.cell? ⟨q2, 5, none⟩ = some (.int .i64 c.z) ∧ (AtC W r c ∧ AtC W q a ∧ AtC W q2 c ∧ Laid W ∧ Below r w W)) ((first | assumption | with_reducible exact next3 hS ((Below.refl _ _).drew) | with_reducible exact next3 (by assumption) b2))
    (first | (go_at_call 12; refine (same_any a c _).mono ?_; rintro e u ⟨rfl, b2⟩) | (go_at_call 11; refine (check_any a _ fa.out).mono ?_; rintro e u ⟨rfl, b2⟩) | (go_at_call 7; refine (fixed_any _ (lay3 (by assumption))).mono ?_; rintro e u ⟨rfl, b2⟩))
  rename_i hH
  obtain ⟨_, _, _, _, _, _, _, _, _, _, _, _, _, _, _, _, _, _, _, _, _, _, bw⟩ := hH
  have B : Hid (Below r w u) := bw
  clear hS bw
  go_wp2
  go_ret
  exact ⟨rfl, by rw [HR.out]; exact B.out⟩
set_option maxHeartbeats 8000000 in
theorem walk_n1 (c : Cp) (g n k G E : Int) (w : World) (hl : Laid w) (fc : Hid c.Fits) (hk : bits BinOp.and IntKind.i64 n 63 = k) (k0 : 0 ≤ k) (k1 : k ≤ 63)
    (hs : IntKind.u64.wrap (IntKind.u64.wrap (2 ^ k.toNat) - 1) = onesI k) (hG : bits BinOp.and IntKind.u64 g (onesI k) = G) (g0 : 0 ≤ G ∧ G ≤ 18446744073709551615)
    (e1 : guardE c G k = E) (hE : ¬ E = 0) (h1 : checkE c = 40) :
    Calls Tryd.prog 5 #[encC c, .int .u64 g, .int .i64 n] w fun e w' => e = .returned (.bool true) ∧ Below w.heap.size w w' := by
  have K1 := fun W => guard_any c G k W fc.out g0
  rw [guardR, e1, if_neg hE] at K1
  have hE' : (E != 0) = true := by simpa using hE
  have X1 : Hid (∀ W : World, Calls Tryd.prog 10 #[encC c, .int .u64 G, .int .i64 k] W fun e w' => e = .returned (.tuple #[encC no, .int .i64 E]) ∧ Below W.heap.size W w') := K1
  clear K1 e1 hE
  have HQ1 : ∀ W, (Op.equalIn 10000 24 (.agg #[.int .i64 0, .int .i64 0, .int .i64 0, .int .u64 0, .int .u64 0, .int .i64 0]) (.agg #[.int .i64 0, .int .i64 0, .int .i64 0, .int .u64 0, .int .u64 0, .int .i64 0])).run Tryd.prog W = .ok true W := fun W => by
    have h := eq_caps W no no
    rwa [show decide (no = no) = true by simp] at h
  simp only [encC, no] at *
  have bw := below_new w (objC c)
  have s0 := AtC.new w c
  have l := hl.below bw hl.size
  have r4 := hl.size
  clear hl
  simp only [objC] at bw l s0
  go_enter Tryd.func5, Tryd.ntmps5
  go_wp2_with fail
  generalize (w.alloc (Obj.cells #[.int .i64 c.k, .int .i64 c.o, .int .i64 c.r, .int .u64 c.b, .int .u64 c.g, .int .i64 c.z] 24)) = v0 at *
  generalize hr : w.heap.size = r at *
  have HR : Hid (w.heap.size = r) := hr
  clear hr
  have hb := s0.lt
  obtain ⟨s0c0, s0c1, s0c2, s0c3, s0c4, s0c5⟩ := s0.cells
  have hq0 := s0.lt
  have hS : v0.cell? ⟨r, 0, none⟩ = some (.int .i64 c.k) ∧ v0.cell? ⟨r, 1, none⟩ = some (.int .i64 c.o) ∧ v0.cell? ⟨r, 2, none⟩ = some (.int .i64 c.r) ∧ v0.cell? ⟨r, 3, none⟩ = some (.int .u64 c.b) ∧ v0.cell? ⟨r, 4, none⟩ = some (.int .u64 c.g) ∧ v0.cell? ⟨r, 5, none⟩ = some (.int .i64 c.z) ∧ (AtC v0 r c ∧ Laid v0 ∧ Below r w v0) := ⟨s0c0, s0c1, s0c2, s0c3, s0c4, s0c5, s0, l, bw⟩
  clear s0c0 s0c1 s0c2 s0c3 s0c4 s0c5 s0 l bw hb
  have zm : AtC (v0.alloc (.cells #[.int .i64 0, .int .i64 0, .int .i64 0, .int .u64 0, .int .u64 0, .int .i64 0] 24)).drew v0.heap.size ⟨0, 0, 0, 0, 0, 0⟩ := AtC.new v0 ⟨0, 0, 0, 0, 0, 0⟩
  go_cut [8, 9] from 8 to 24 (fun p e wx => e = .int .i64 E ∧ ∃ q, p = .pointer (some ⟨q, 0, none⟩) ∧ AtC wx q ⟨0, 0, 0, 0, 0, 0⟩ ∧ r < q ∧ AtC wx r c ∧ Laid wx ∧ Below r w wx)
  case first =>
   have hS' := hS
   obtain ⟨c0, c1, c2, c3, c4, c5, _, _, _⟩ := hS'
   go_region_with (go_at_call 10; refine (X1.out _).mono ?_; rintro e u ⟨rfl, b2⟩; (first | (with_reducible have zz := AtC.below zm b2; obtain ⟨z0, z1, z2, z3, z4, z5⟩ := zz.cells; have zf := zz.frozen) | skip))
   all_goals go_wp2_with fail
   all_goals go_meet
   all_goals first
     | (with_reducible have T := next (next hS ((Below.refl _ _).drew)) b2
        obtain ⟨_, _, _, _, _, _, t0, tl, tb⟩ := next T (below_new u (objC ⟨0, 0, 0, 0, 0, 0⟩))
        exact ⟨rfl, _, rfl, AtC.new u ⟨0, 0, 0, 0, 0, 0⟩, T.2.2.2.2.2.2.1.lt, t0, tl, tb⟩)
     | (with_reducible have T := next (next hS ((below_new _ _).drew)) b2
        obtain ⟨_, _, _, _, _, _, t0, tl, tb⟩ := next_sets (v0 := .int .i64 0) (v1 := .int .i64 0) (v2 := .int .i64 0) (v3 := .int .u64 0) (v4 := .int .u64 0) (v5 := .int .i64 0) r4 hq0 T
        exact ⟨rfl, _, rfl, set6 ⟨0, 0, 0, 0, 0, 0⟩ zz, hq0, t0, tl, tb⟩)
  obtain ⟨rfl, q, rfl, sa, hq1, s0, l, bw⟩ := hcut
  clear hS zm
  have hb := s0.lt
  obtain ⟨s0c0, s0c1, s0c2, s0c3, s0c4, s0c5⟩ := s0.cells
  obtain ⟨sac0, sac1, sac2, sac3, sac4, sac5⟩ := sa.cells
  go_wp2_with fail
  clear s0c0 s0c1 s0c2 s0c3 s0c4 s0c5
  clear sac0 sac1 sac2 sac3 sac4 sac5
  refine (check_any c _ fc.out).mono ?_
  rintro e u2 ⟨rfl, b2⟩
  have s0 := s0.below b2
  have sa := sa.below b2
  have bw := Below.then bw b2 (by omega)
  have l := l.below b2 l.size
  have hb' := b2.size
  clear b2
  have hb := s0.lt
  obtain ⟨s0c0, s0c1, s0c2, s0c3, s0c4, s0c5⟩ := s0.cells
  obtain ⟨sac0, sac1, sac2, sac3, sac4, sac5⟩ := sa.cells
  go_wp2_with fail
  clear s0c0 s0c1 s0c2 s0c3 s0c4 s0c5
  clear sac0 sac1 sac2 sac3 sac4 sac5
  refine (fixed_any _ l).mono ?_
  rintro e u3 ⟨rfl, b2⟩
  have B : Hid (Below r w u3) := Below.then bw b2 (by omega)
  clear bw b2 l hb s0 sa
  go_wp2
  go_ret
  exact ⟨rfl, by rw [HR.out]; exact B.out⟩
set_option maxHeartbeats 8000000 in
theorem walk_n2 (c : Cp) (g n k G E : Int) (w : World) (hl : Laid w) (fc : Hid c.Fits) (hk : bits BinOp.and IntKind.i64 n 63 = k) (k0 : 0 ≤ k) (k1 : k ≤ 63)
    (hs : IntKind.u64.wrap (IntKind.u64.wrap (2 ^ k.toNat) - 1) = onesI k) (hG : bits BinOp.and IntKind.u64 g (onesI k) = G) (g0 : 0 ≤ G ∧ G ≤ 18446744073709551615)
    (e1 : guardE c G k = E) (hE : ¬ E = 0) (h1 : checkE c = 0) (h2 : (c.k != 2) = true) :
    Calls Tryd.prog 5 #[encC c, .int .u64 g, .int .i64 n] w fun e w' => e = .returned (.bool true) ∧ Below w.heap.size w w' := by
  have K1 := fun W => guard_any c G k W fc.out g0
  rw [guardR, e1, if_neg hE] at K1
  have hE' : (E != 0) = true := by simpa using hE
  have X1 : Hid (∀ W : World, Calls Tryd.prog 10 #[encC c, .int .u64 G, .int .i64 k] W fun e w' => e = .returned (.tuple #[encC no, .int .i64 E]) ∧ Below W.heap.size W w') := K1
  clear K1 e1 hE
  have HQ1 : ∀ W, (Op.equalIn 10000 24 (.agg #[.int .i64 0, .int .i64 0, .int .i64 0, .int .u64 0, .int .u64 0, .int .i64 0]) (.agg #[.int .i64 0, .int .i64 0, .int .i64 0, .int .u64 0, .int .u64 0, .int .i64 0])).run Tryd.prog W = .ok true W := fun W => by
    have h := eq_caps W no no
    rwa [show decide (no = no) = true by simp] at h
  simp only [encC, no] at *
  have bw := below_new w (objC c)
  have s0 := AtC.new w c
  have l := hl.below bw hl.size
  have r4 := hl.size
  clear hl
  simp only [objC] at bw l s0
  go_enter Tryd.func5, Tryd.ntmps5
  go_wp2_with fail
  generalize (w.alloc (Obj.cells #[.int .i64 c.k, .int .i64 c.o, .int .i64 c.r, .int .u64 c.b, .int .u64 c.g, .int .i64 c.z] 24)) = v0 at *
  generalize hr : w.heap.size = r at *
  have HR : Hid (w.heap.size = r) := hr
  clear hr
  have hb := s0.lt
  obtain ⟨s0c0, s0c1, s0c2, s0c3, s0c4, s0c5⟩ := s0.cells
  have hq0 := s0.lt
  have hS : v0.cell? ⟨r, 0, none⟩ = some (.int .i64 c.k) ∧ v0.cell? ⟨r, 1, none⟩ = some (.int .i64 c.o) ∧ v0.cell? ⟨r, 2, none⟩ = some (.int .i64 c.r) ∧ v0.cell? ⟨r, 3, none⟩ = some (.int .u64 c.b) ∧ v0.cell? ⟨r, 4, none⟩ = some (.int .u64 c.g) ∧ v0.cell? ⟨r, 5, none⟩ = some (.int .i64 c.z) ∧ (AtC v0 r c ∧ Laid v0 ∧ Below r w v0) := ⟨s0c0, s0c1, s0c2, s0c3, s0c4, s0c5, s0, l, bw⟩
  clear s0c0 s0c1 s0c2 s0c3 s0c4 s0c5 s0 l bw hb
  have zm : AtC (v0.alloc (.cells #[.int .i64 0, .int .i64 0, .int .i64 0, .int .u64 0, .int .u64 0, .int .i64 0] 24)).drew v0.heap.size ⟨0, 0, 0, 0, 0, 0⟩ := AtC.new v0 ⟨0, 0, 0, 0, 0, 0⟩
  go_cut [8, 9] from 8 to 24 (fun p e wx => e = .int .i64 E ∧ ∃ q, p = .pointer (some ⟨q, 0, none⟩) ∧ AtC wx q ⟨0, 0, 0, 0, 0, 0⟩ ∧ r < q ∧ AtC wx r c ∧ Laid wx ∧ Below r w wx)
  case first =>
   have hS' := hS
   obtain ⟨c0, c1, c2, c3, c4, c5, _, _, _⟩ := hS'
   go_region_with (go_at_call 10; refine (X1.out _).mono ?_; rintro e u ⟨rfl, b2⟩; (first | (with_reducible have zz := AtC.below zm b2; obtain ⟨z0, z1, z2, z3, z4, z5⟩ := zz.cells; have zf := zz.frozen) | skip))
   all_goals go_wp2_with fail
   all_goals go_meet
   all_goals first
     | (with_reducible have T := next (next hS ((Below.refl _ _).drew)) b2
        obtain ⟨_, _, _, _, _, _, t0, tl, tb⟩ := next T (below_new u (objC ⟨0, 0, 0, 0, 0, 0⟩))
        exact ⟨rfl, _, rfl, AtC.new u ⟨0, 0, 0, 0, 0, 0⟩, T.2.2.2.2.2.2.1.lt, t0, tl, tb⟩)
     | (with_reducible have T := next (next hS ((below_new _ _).drew)) b2
        obtain ⟨_, _, _, _, _, _, t0, tl, tb⟩ := next_sets (v0 := .int .i64 0) (v1 := .int .i64 0) (v2 := .int .i64 0) (v3 := .int .u64 0) (v4 := .int .u64 0) (v5 := .int .i64 0) r4 hq0 T
        exact ⟨rfl, _, rfl, set6 ⟨0, 0, 0, 0, 0, 0⟩ zz, hq0, t0, tl, tb⟩)
  obtain ⟨rfl, q, rfl, sa, hq1, s0, l, bw⟩ := hcut
  clear hS zm
  have hb := s0.lt
  obtain ⟨s0c0, s0c1, s0c2, s0c3, s0c4, s0c5⟩ := s0.cells
  obtain ⟨sac0, sac1, sac2, sac3, sac4, sac5⟩ := sa.cells
  go_wp2_with fail
  clear s0c0 s0c1 s0c2 s0c3 s0c4 s0c5
  clear sac0 sac1 sac2 sac3 sac4 sac5
  refine (check_any c _ fc.out).mono ?_
  rintro e u2 ⟨rfl, b2⟩
  have s0 := s0.below b2
  have sa := sa.below b2
  have bw := Below.then bw b2 (by omega)
  have l := l.below b2 l.size
  have hb' := b2.size
  clear b2
  have hb := s0.lt
  obtain ⟨s0c0, s0c1, s0c2, s0c3, s0c4, s0c5⟩ := s0.cells
  obtain ⟨sac0, sac1, sac2, sac3, sac4, sac5⟩ := sa.cells
  go_wp2_with fail
  clear s0c0 s0c1 s0c2 s0c3 s0c4 s0c5
  clear sac0 sac1 sac2 sac3 sac4 sac5
  refine (fixed_any _ l).mono ?_
  rintro e u3 ⟨rfl, b2⟩
  have B : Hid (Below r w u3) := Below.then bw b2 (by omega)
  clear bw b2 l hb s0 sa
  go_wp2
  go_ret
  exact ⟨rfl, by rw [HR.out]; exact B.out⟩
theorem low_bits (g k : Int) (g0 : 0 ≤ g ∧ g ≤ 18446744073709551615) (k0 : 0 ≤ k) (k1 : k ≤ 63) : 0 ≤ bits .and .u64 g (onesI k) ∧ bits .and .u64 g (onesI k) ≤ onesI k := by
  have h := field_bits g 0 k g0.1 g0.2 (by omega) k0 (by omega)
  have e : g / 2 ^ (0 : Int).toNat = g := by simp
  rw [e] at h
  rw [h]
  exact fieldI_bd g 0 k k0
theorem walk (c : Cp) (g n : Int) (w : World) (hl : Laid w) (hf : c.Fits) (hg : 0 ≤ g ∧ g ≤ 18446744073709551615) (_hn : -9223372036854775808 ≤ n ∧ n ≤ 9223372036854775807) :
    Calls Tryd.prog 5 #[encC c, .int .u64 g, .int .i64 n] w fun e w' => e = .returned (.bool true) ∧ Below w.heap.size w w' := by
  have fc : Hid c.Fits := hf
  obtain ⟨k, hk⟩ : ∃ k, bits BinOp.and IntKind.i64 n 63 = k := ⟨_, rfl⟩
  have kk := mask63 n
  rw [hk] at kk
  have hs := ones_wrap k kk.1 (by omega)
  have gb := low_bits g k hg kk.1 kk.2
  have ob := onesI_bd k kk.1 (by omega)
  obtain ⟨G, hG⟩ : ∃ G, bits BinOp.and IntKind.u64 g (onesI k) = G := ⟨_, rfl⟩
  rw [hG] at gb
  have g0 : 0 ≤ G ∧ G ≤ 18446744073709551615 := by omega
  have hfit : Fit G k := ⟨kk.1, by omega, gb.2⟩
  by_cases hF : Fine c
  · by_cases h2 : c.k = 2
    · obtain ⟨p1, p2, p3, p4, p5, p6, p7⟩ := hF.of_ne (by omega)
      have e1 : guardE c G k = 0 := by rw [guardE, if_pos hF, if_pos h2, if_pos hfit]
      have r1 : guardR c G k = { c with g := G, z := k } := by rw [guardR, if_pos e1]
      have fa : Fine { c with g := G, z := k } := .inr ⟨p1, p2, p3, p4, p5, .inr h2, hfit⟩
      have e2 : guardE { c with g := G, z := k } c.g c.z = 0 := by rw [guardE, if_pos fa, if_pos h2, if_pos p7]
      have r2 : guardR { c with g := G, z := k } c.g c.z = c := by rw [guardR, if_pos e2]
      have ta : Hid (Cp.Fits { c with g := G, z := k }) := ⟨hf.k, hf.o, hf.r, hf.b, g0, (by omega : -9223372036854775808 ≤ k ∧ k ≤ 9223372036854775807)⟩
      exact walk_yes c { c with g := G, z := k } g n k G w hl fc ta hk kk.1 kk.2 hs hG g0 e1 r1 e2 r2 (by simp) (by simp) (by simp) (by simp [sameB]; omega) (by rw [checkE, if_pos fa])
    · have e1 : guardE c G k = 41 := by rw [guardE, if_pos hF, if_neg h2]
      exact walk_n2 c g n k G 41 w hl fc hk kk.1 kk.2 hs hG g0 e1 (by decide) (by rw [checkE, if_pos hF]) (by simpa using h2)
  · have e1 : guardE c G k = 40 := by rw [guardE, if_neg hF]
    exact walk_n1 c g n k G 40 w hl fc hk kk.1 kk.2 hs hG g0 e1 (by decide) (by rw [checkE, if_neg hF])
end
open Go.ChangeShapes Go.WideShapes Go.ChangeAt Go.RowKit Go.Joins

/-! ### From the walk to the statement -/
theorem contract (H : Type) (enc : TypeId × Value → H) (W : World) (base : Nat) (args : Array Value) (ds gs : List (DataW H)) (before : List MemPlace)
    (hval : ∀ (j : Nat) t v, Tryd.f5.params[j]? = some t → args[j]? = some v → Value.okWide Tryd.prog W .any base t v)
    (hW : DataW.Whole enc Tryd.prog Tryd.f5.params.toList Rows.capsGuardsSpec.vars false W args.toList ds gs before) (hL : laidMetH Tryd.prog Rows.capsGuardsRow.laid W) :
    Calls Tryd.prog 5 args W fun e W' => ∃ v, e = .returned v ∧ Rows.capsGuardsSpec.post enc Tryd.prog Tryd.f5 false true false false W args v W' := by
  have dCp : DecidableEq Cp := fun a b => Classical.propDecidable (a = b)
  have dLim : ∀ k, Decidable (Lim k) := fun k => Classical.propDecidable (Lim k)
  have dBad : ∀ k, Decidable (Bad k) := fun k => Classical.propDecidable (Bad k)
  have dFit : ∀ g z, Decidable (Fit g z) := fun g z => Classical.propDecidable (Fit g z)
  have dFine : ∀ c, Decidable (Fine c) := fun c => Classical.propDecidable (Fine c)
  have dMint : ∀ c v, Decidable (MintR c v) := fun c v => Classical.propDecidable (MintR c v)
  have dWho : ∀ x y, Decidable (Whose x y) := fun x y => Classical.propDecidable (Whose x y)
  have hW' := hW
  obtain ⟨p, q, hA0, hV, rfl, hfz, hnd⟩ := hW
  have hA : DataW.TrodAll enc Tryd.prog W 0 (fun _ => true) true Tryd.f5.params.toList args.toList ds p := hA0
  rw [Tryd.params5] at hA hval
  obtain ⟨v0, vs0, d0, ds0, p0, q0, hargs, rfl, rfl, h0, r0⟩ := trodAll_cons hA
  obtain ⟨v1, vs1, d1, ds1, p1, q1, rfl, rfl, rfl, h1, r1⟩ := trodAll_cons r0
  obtain ⟨v2, vs2, d2, ds2, p2, q2, rfl, rfl, rfl, h2, r2⟩ := trodAll_cons r1
  obtain ⟨rfl, rfl, rfl⟩ := trodAll_nil r2
  obtain rfl : args = #[v0, v1, v2] := by cases args; simp_all
  obtain ⟨rfl, rfl⟩ := trodVars_none hV
  have k0 := h0
  have lt0 : ∀ x ∈ p0, x.block < W.heap.size := by obtain ⟨m, hm⟩ := k0; exact DataW.trod_lt m _ _ _ hm
  have k1 := h1
  have lt1 : ∀ x ∈ p1, x.block < W.heap.size := by obtain ⟨m, hm⟩ := k1; exact DataW.trod_lt m _ _ _ hm
  have k2 := h2
  have lt2 : ∀ x ∈ p2, x.block < W.heap.size := by obtain ⟨m, hm⟩ := k2; exact DataW.trod_lt m _ _ _ hm
  obtain ⟨a0, rfl, w0⟩ := open_cap (hval 0 24 v0 rfl rfl) h0
  obtain ⟨a1, rfl, _, _, w1⟩ := open_int Tryd.underlying22 (hval 1 22 v1 rfl rfl) h1
  obtain ⟨a2, rfl, _, _, w2⟩ := open_int Tryd.underlying3 (hval 2 3 v2 rfl rfl) h2
  clear hA0
  refine (walk a0 a1 a2 W (table hL) w0 (bounds_u64 w1) (bounds_i64 w2)).mono fun e W' ⟨he, bel⟩ => ?_
  subst he
  exact ⟨_, rfl, _, _, _, [], _, [], hW', trodAll_mk1 (shut_bool Tryd.underlying4 _), (trodAll_cons_mk (Below.trod laidOut (by kernel_rfl) (of_decide_eq_true (by kernel_rfl)) k0 bel lt0) (trodAll_cons_mk (Below.trod laidOut (by kernel_rfl) (of_decide_eq_true (by kernel_rfl)) k1 bel lt1) (trodAll_cons_mk (Below.trod laidOut (by kernel_rfl) (of_decide_eq_true (by kernel_rfl)) k2 bel lt2) trodAll_mk0))), rfl, bel.frame _, fun h => by cases h⟩

theorem laid_met (os : Os) : laidMet Tryd.prog Rows.capsGuardsRow.laid ((World.doorLaid Tryd.prog 40 os).forCall (fun _ _ => 0) ⟨#[], #[.agg #[.int .i64 0, .int .i64 0, .int .i64 0, .int .u64 0, .int .u64 0, .int .i64 0], .int .u64 0, .int .i64 0], []⟩).memory :=
  laidMet_of_run' 8 (by kernel_rfl) (by kernel_rfl)
theorem reads (os : Os) {H : Type} (enc : TypeId × Value → H) : ∃ places, DataW.whole enc Tryd.prog ((World.doorLaid Tryd.prog 40 os).forCall (fun _ _ => 0) ⟨#[], #[.agg #[.int .i64 0, .int .i64 0, .int .i64 0, .int .u64 0, .int .u64 0, .int .i64 0], .int .u64 0, .int .i64 0], []⟩).memory Tryd.f5.params.toList Rows.capsGuardsSpec.vars false (#[.agg #[.int .i64 0, .int .i64 0, .int .i64 0, .int .u64 0, .int .u64 0, .int .i64 0], .int .u64 0, .int .i64 0] : Array Value).toList 8 = some ([.agg [.lit (.int .i64 0), .lit (.int .i64 0), .lit (.int .i64 0), .lit (.int .u64 0), .lit (.int .u64 0), .lit (.int .i64 0)], .lit (.int .u64 0), .lit (.int .i64 0)], [], places) :=
  ⟨[], by kernel_rfl⟩
set_option maxRecDepth 100000 in
theorem lifted (os : Os) (started : os.Started) (H : Type) (enc : TypeId × Value → H) (F : Stop.Interp) :
    ReturnsInHanded {} Tryd.checked os 5 .any ((OpenSpec.ofChange Rows.capsGuardsSpec).preRow enc Tryd.prog Tryd.f5 Rows.capsGuardsRow.domain false Rows.capsGuardsRow.laid) (((OpenSpec.ofChange Rows.capsGuardsSpec).at F).post enc Tryd.prog Tryd.f5 false true false false) := by
  have dCp : DecidableEq Cp := fun a b => Classical.propDecidable (a = b)
  have dLim : ∀ k, Decidable (Lim k) := fun k => Classical.propDecidable (Lim k)
  have dBad : ∀ k, Decidable (Bad k) := fun k => Classical.propDecidable (Bad k)
  have dFit : ∀ g z, Decidable (Fit g z) := fun g z => Classical.propDecidable (Fit g z)
  have dFine : ∀ c, Decidable (Fine c) := fun c => Classical.propDecidable (Fine c)
  have dMint : ∀ c v, Decidable (MintR c v) := fun c v => Classical.propDecidable (MintR c v)
  have dWho : ∀ x y, Decidable (Whose x y) := fun x y => Classical.propDecidable (Whose x y)
  obtain ⟨places, hx⟩ := reads os enc
  refine returnsInHanded_of_row (C := Tryd.checked) (s := OpenSpec.ofChange Rows.capsGuardsSpec) own started (by kernel_rfl) Tryd.func5
    (witness_row_at (enc := enc) (C := Tryd.checked) false (World.doorLaid Tryd.prog 40 os) #[.agg #[.int .i64 0, .int .i64 0, .int .i64 0, .int .u64 0, .int .u64 0, .int .i64 0], .int .u64 0, .int .i64 0] rfl (by kernel_rfl) (by kernel_rfl) (by kernel_rfl)
      (OpenSpec.preRow_of_cond 8 hx (by kernel_rfl) (fun k hk => by cases hk) (by kernel_rfl) (laid_met os))) ?_
  intro W base args ds gs before hval hW _ _ _ hL _ _
  exact contract H enc W base args ds gs before hval hW hL
theorem said : Rows.CapsGuardsSaid :=
  OpenClaim.holds_of_cond 5 Tryd.f5 rfl rfl rfl rfl rfl rfl rfl ⟨rfl, rfl, rfl, rfl, rfl⟩ rfl rfl rfl rfl rfl (by kernel_rfl) Tryd.func5 (by kernel_rfl)
    (of_decide_eq_true (by kernel_rfl)) (by unfold Func.isWrapper; first | (rw [if_pos (by decide +kernel)]; kernel_rfl) | (rw [if_neg (by decide +kernel)]; exact ⟨rfl, rfl⟩))
    (fun os started H enc _ F => by rw [OpenClaim.pre_eq_preRow]; exact lifted os started H enc F)
theorem plain (f : FuncId) (fn : Func) (hf : Tryd.pinned.checked.prog.funcNamed "buttress/buttresslaw04.CapsGuards" = some f) (hfn : Tryd.pinned.checked.prog.funcs[f]? = some fn) :
    false = Tryd.pinned.checked.prog.looks [] ∧ ∀ (j : Nat) t, fn.params[j]? = some t → Tryd.pinned.checked.prog.wantsStandIn t = false := by
  obtain rfl : f = 5 := Option.some.inj ((show Tryd.prog.funcNamed "buttress/buttresslaw04.CapsGuards" = some 5 by kernel_rfl).symm.trans hf) |>.symm
  obtain rfl : fn = Tryd.f5 := (Option.some.inj (Tryd.func5.symm.trans hfn)).symm
  refine ⟨by kernel_rfl, fun j t ht => ?_⟩
  rw [Tryd.params5] at ht
  have hm : t ∈ [24, 22, 3] := by simpa using Array.mem_of_getElem? ht
  have hall : ([24, 22, 3].all fun u => !Tryd.prog.wantsStandIn u) = true := by kernel_rfl
  exact (show Tryd.prog.wantsStandIn t = false by simpa using List.all_eq_true.1 hall t hm)
end Go.Proofs.YtokehmkegnmfdabDoor.capsGuards
namespace Go.Proofs.YtokehmkegnmfdabDoor
/-- THE CARD. -/
theorem capsGuards_card : Rows.CapsGuardsCardSaid :=
  Claim7.holds_tied_plain_at .later [] _ _ _ _ capsGuards.said (fun _ h => by cases h) (by kernel_rfl) (fun _ h => by cases h) capsGuards_row_tie rfl ⟨rfl, rfl⟩ (by kernel_rfl) rfl capsGuards.plain (by kernel_rfl)
#print axioms capsGuards_card
end Go.Proofs.YtokehmkegnmfdabDoor

/-
  Of a thread that is not there the calls of package threads answer the error, and lay new blocks alone; a region that draws its order, whose calls do just that, walked once; no condition of ours.
-/
import Derived.Test.YtchamgecalfmpabDoorHLaw
import Derived.BigQuiet
import Derived.Deep.Cut
import Derived.Deep.CutRange
namespace Go.Proofs.YtchamgecalfmpabDoor
open Go.RowKit Go.Deep Go.Shelf

/-- A world in which all blocks of w are as they were. -/
structure Grw (w : World) where
  val : World
  bel : Below w.heap.size w val
theorem wp_region_grw {id : Nat} {Q : Exit → Act → World → Prop} {a : Act} {w : World} {l : List Oper} (hm : Tryd.prog.follows .mixedOrders = true) (hB : Region.lexB .any l.toArray = true)
    (h : wpQuiet Tryd.prog l.toArray (fun w' => ∃ p : Grw w, w' = p.val) (fun a' => ∀ w', (∃ p : Grw w, w' = p.val) → Q .normal a' w') l a) : (Code.region id l.toArray true).wp Tryd.prog Q a w :=
  wp_region_quiet (C := fun w' => ∃ p : Grw w, w' = p.val) hm hB ⟨⟨{ w with drawn := w.drawn + 1 }, ⟨rfl, rfl, rfl, Nat.le_refl _, fun _ _ => rfl⟩⟩, rfl⟩ (by simpa using h)
theorem grw_of {f : FuncId} {args : Array Value} {w : World} {p : Grw w} {v : Value} (h : Calls Tryd.prog f args p.val fun e w' => e = .returned v ∧ Below p.val.heap.size p.val w') :
    Calls Tryd.prog f args p.val fun e w'' => e = .returned v ∧ ∃ p' : Grw w, w'' = p'.val :=
  h.mono fun _ w' ⟨he, hb⟩ => ⟨he, ⟨w', p.bel.trans (hb.mono p.bel.size)⟩, rfl⟩
theorem grw_same {f : FuncId} {args : Array Value} {w : World} {p : Grw w} {v : Value} (h : Calls Tryd.prog f args p.val fun e w' => e = .returned v ∧ w' = p.val) :
    Calls Tryd.prog f args p.val fun e w'' => e = .returned v ∧ ∃ p' : Grw w, w'' = p'.val :=
  h.mono fun _ _ ⟨he, hb⟩ => ⟨he, p, hb⟩
theorem grw_drew {f : FuncId} {args : Array Value} {w : World} {p : Grw w} {v : Value} (h : Calls Tryd.prog f args p.val fun e w' => e = .returned v ∧ ∃ m, w' = p.val.drewN m) :
    Calls Tryd.prog f args p.val fun e w'' => e = .returned v ∧ ∃ p' : Grw w, w'' = p'.val :=
  h.mono fun _ _ ⟨he, m, hb⟩ => ⟨he, ⟨p.val.drewN m, below_drewN p.bel m⟩, hb⟩
theorem Grw.cell {w : World} (p : Grw w) {a : Addr} {v : Value} (hb : a.block < w.heap.size) (h : w.cell? a = some v) : p.val.cell? a = some v := (p.bel.cell (p := a) hb).trans h
abbrev grw0 (w : World) : Inhabited (Grw w) := ⟨⟨w, Below.refl _ _⟩⟩
section
variable {w0 w : World} {r : Nat} {R : List Th}
theorem Sep.grw (h : Sep w0 r w R) (p : Grw w) : Sep w0 r p.val R := h.below p.bel
end
section
variable {w0 w : World} {F : Nat → Prop} {p : Nat} {v u : Value} {qs : List Nat} {h : Hs}
set_option maxHeartbeats 2000000 in
theorem resume_no (t : At qkP w0 F p v u qs h w) (i : Int) (hT : ¬ isT h i) :
    Calls Tryd.prog 10 #[ptr p, .int .i64 i] w fun e w' => e = .returned (.int .i64 100) ∧ Below w.heap.size w w' := by
  have hmf : ∀ (fn : Fn) (first cap : Array Value) (w : World), (Instr.makeFunc fn first cap).run Tryd.prog w = .ok (.func fn first cap) w := fun _ _ _ _ => rfl
  obtain ⟨ao, cap, rfl, hg⟩ := t.slice
  have T0 := hid t
  have hE0 : inE i (h.L.length : Int) 100 = 100 := inE_no hT
  clear t hg hT
  go_enter Tryd.func10, Tryd.ntmps10
  go_wp2_with fail
  refine Calls.mono (there_any p i _ _ _ w T0.out.var0) ?_
  rintro e w1 ⟨c1, rfl, k1, b1⟩
  obtain ⟨g1, l1, rfl⟩ := k1.form
  have B2 := hid (below_new w1 (.cells #[.int .i64 0, .int .i64 3] 3))
  have T1 := hid (Below.then b1 B2.out b1.size)
  have K1 := hid (k1.below B2.out)
  clear k1 b1
  go_wp2_with fail
  refine Calls.mono (among_raw p i _ _ _ _) ?_
  rintro e w3 ⟨g2, l2, rfl, b3⟩
  have T3 := hid (Below.then T1.out b3 T1.out.size)
  have K1' := hid (K1.out.below b3)
  clear b3
  go_wp2_with fail
  refine Calls.mono (first2 w3 _ _ _ 0 K1'.out fun e => by rw [hE0] at e; cases e) ?_
  rintro e w4 ⟨rfl, b4⟩
  have T4 := hid (Below.then T3.out b4 T3.out.size)
  clear b4
  rw [hE0]
  have hF : firstE [100, 0] = 100 := rfl
  rw [hF]
  clear K1 K1' B2 T1 T3 T0 hE0
  go_wp2
  go_ret
  exact ⟨rfl, T4.out⟩
set_option maxHeartbeats 2000000 in
theorem suspend_no (t : At qkP w0 F p v u qs h w) (i : Int) (hT : ¬ isT h i) :
    Calls Tryd.prog 11 #[ptr p, .int .i64 i] w fun e w' => e = .returned (.int .i64 100) ∧ Below w.heap.size w w' := by
  have hmf : ∀ (fn : Fn) (first cap : Array Value) (w : World), (Instr.makeFunc fn first cap).run Tryd.prog w = .ok (.func fn first cap) w := fun _ _ _ _ => rfl
  obtain ⟨ao, cap, rfl, hg⟩ := t.slice
  have T0 := hid t
  have hE0 : inE i (h.L.length : Int) 100 = 100 := inE_no hT
  clear t hg hT
  go_enter Tryd.func11, Tryd.ntmps11
  go_wp2_with fail
  refine Calls.mono (there_any p i _ _ _ w T0.out.var0) ?_
  rintro e w1 ⟨c1, rfl, k1, b1⟩
  obtain ⟨g1, l1, rfl⟩ := k1.form
  have B2 := hid (below_new w1 (.cells #[.int .i64 1, .int .i64 2, .int .i64 3] 3))
  have T1 := hid (Below.then b1 B2.out b1.size)
  have K1 := hid (k1.below B2.out)
  clear k1 b1
  go_wp2_with fail
  refine Calls.mono (among_raw p i _ _ _ _) ?_
  rintro e w3 ⟨g2, l2, rfl, b3⟩
  have T3 := hid (Below.then T1.out b3 T1.out.size)
  have K1' := hid (K1.out.below b3)
  clear b3
  go_wp2_with fail
  refine Calls.mono (first2 w3 _ _ _ 0 K1'.out fun e => by rw [hE0] at e; cases e) ?_
  rintro e w4 ⟨rfl, b4⟩
  have T4 := hid (Below.then T3.out b4 T3.out.size)
  clear b4
  rw [hE0]
  have hF : firstE [100, 0] = 100 := rfl
  rw [hF]
  clear K1 K1' B2 T1 T3 T0 hE0
  go_wp2
  go_ret
  exact ⟨rfl, T4.out⟩
set_option maxHeartbeats 2000000 in
theorem block_no (t : At qkP w0 F p v u qs h w) (i : Int) (hT : ¬ isT h i) :
    Calls Tryd.prog 12 #[ptr p, .int .i64 i] w fun e w' => e = .returned (.int .i64 100) ∧ Below w.heap.size w w' := by
  have hmf : ∀ (fn : Fn) (first cap : Array Value) (w : World), (Instr.makeFunc fn first cap).run Tryd.prog w = .ok (.func fn first cap) w := fun _ _ _ _ => rfl
  obtain ⟨ao, cap, rfl, hg⟩ := t.slice
  have T0 := hid t
  have hE0 : inE i (h.L.length : Int) 100 = 100 := inE_no hT
  clear t hg hT
  go_enter Tryd.func12, Tryd.ntmps12
  go_wp2_with fail
  refine Calls.mono (there_any p i _ _ _ w T0.out.var0) ?_
  rintro e w1 ⟨c1, rfl, k1, b1⟩
  obtain ⟨g1, l1, rfl⟩ := k1.form
  have B2 := hid (below_new w1 (.cells #[.int .i64 2] 3))
  have T1 := hid (Below.then b1 B2.out b1.size)
  have K1 := hid (k1.below B2.out)
  clear k1 b1
  go_wp2_with fail
  refine Calls.mono (among_raw p i _ _ _ _) ?_
  rintro e w3 ⟨g2, l2, rfl, b3⟩
  have T3 := hid (Below.then T1.out b3 T1.out.size)
  have K1' := hid (K1.out.below b3)
  clear b3
  go_wp2_with fail
  refine Calls.mono (first2 w3 _ _ _ 0 K1'.out fun e => by rw [hE0] at e; cases e) ?_
  rintro e w4 ⟨rfl, b4⟩
  have T4 := hid (Below.then T3.out b4 T3.out.size)
  clear b4
  rw [hE0]
  have hF : firstE [100, 0] = 100 := rfl
  rw [hF]
  clear K1 K1' B2 T1 T3 T0 hE0
  go_wp2
  go_ret
  exact ⟨rfl, T4.out⟩
set_option maxHeartbeats 2000000 in
theorem reg_no (t : At qkP w0 F p v u qs h w) (i k0 z : Int) (hT : ¬ isT h i) :
    Calls Tryd.prog 15 #[ptr p, .int .i64 i, .int .i64 k0, .int .u64 z] w fun e w' => e = .returned (.int .i64 100) ∧ Below w.heap.size w w' := by
  have hmf : ∀ (fn : Fn) (first cap : Array Value) (w : World), (Instr.makeFunc fn first cap).run Tryd.prog w = .ok (.func fn first cap) w := fun _ _ _ _ => rfl
  obtain ⟨ao, cap, rfl, hg⟩ := t.slice
  have T0 := hid t
  have hE0 : inE i (h.L.length : Int) 100 = 100 := inE_no hT
  clear t hg hT
  go_enter Tryd.func15, Tryd.ntmps15
  go_wp2_with fail
  refine Calls.mono (there_any p i _ _ _ _ T0.out.var0) ?_
  rintro e w1 ⟨c1, rfl, k1, b1⟩
  obtain ⟨g1, l1, rfl⟩ := k1.form
  have K1 := hid k1
  have T1 := hid b1
  clear k1 b1 T0
  go_wp2_with fail
  refine Calls.mono (below_any k0 8 w1) ?_
  rintro e w2 ⟨c2, rfl, k2, b2⟩
  obtain ⟨g2, l2, rfl⟩ := k2.form
  have K1' := hid (K1.out.below b2)
  have K2 := hid k2
  have T2 := hid (Below.then T1.out b2 T1.out.size)
  clear k2 b2 T1 K1
  go_wp2_with fail
  refine Calls.mono (first2 w2 _ _ _ _ K1'.out fun _ => K2.out) ?_
  rintro e w3 ⟨rfl, b3⟩
  have T3 := hid (Below.then T2.out b3 T2.out.size)
  clear b3 T2 K1' K2
  rw [hE0]
  have hF : firstE [100, inE k0 8 1] = 100 := rfl
  rw [hF]
  go_wp2
  go_ret
  exact ⟨rfl, T3.out⟩
set_option maxHeartbeats 2000000 in
theorem prio_no (t : At qkP w0 F p v u qs h w) (i k0 : Int) (hT : ¬ isT h i) :
    Calls Tryd.prog 13 #[ptr p, .int .i64 i, .int .i64 k0] w fun e w' => e = .returned (.int .i64 100) ∧ Below w.heap.size w w' := by
  have hmf : ∀ (fn : Fn) (first cap : Array Value) (w : World), (Instr.makeFunc fn first cap).run Tryd.prog w = .ok (.func fn first cap) w := fun _ _ _ _ => rfl
  obtain ⟨ao, cap, rfl, hg⟩ := t.slice
  have T0 := hid t
  have hE0 : inE i (h.L.length : Int) 100 = 100 := inE_no hT
  clear t hg hT
  go_enter Tryd.func13, Tryd.ntmps13
  go_wp2_with fail
  refine Calls.mono (there_any p i _ _ _ _ T0.out.var0) ?_
  rintro e w1 ⟨c1, rfl, k1, b1⟩
  obtain ⟨g1, l1, rfl⟩ := k1.form
  have K1 := hid k1
  have T1 := hid b1
  clear k1 b1 T0
  go_wp2_with fail
  refine Calls.mono (below_any k0 256 w1) ?_
  rintro e w2 ⟨c2, rfl, k2, b2⟩
  obtain ⟨g2, l2, rfl⟩ := k2.form
  have K1' := hid (K1.out.below b2)
  have K2 := hid k2
  have T2 := hid (Below.then T1.out b2 T1.out.size)
  clear k2 b2 T1 K1
  go_wp2_with fail
  refine Calls.mono (first2 w2 _ _ _ _ K1'.out fun _ => K2.out) ?_
  rintro e w3 ⟨rfl, b3⟩
  have T3 := hid (Below.then T2.out b3 T2.out.size)
  clear b3 T2 K1' K2
  rw [hE0]
  have hF : firstE [100, inE k0 256 1] = 100 := rfl
  rw [hF]
  go_wp2
  go_ret
  exact ⟨rfl, T3.out⟩
set_option maxHeartbeats 4000000 in
theorem core_no (t : At qkP w0 F p v u qs h w) (hq : 1 ≤ h.Q.length) (i k0 : Int) (hT : ¬ isT h i) :
    Calls Tryd.prog 14 #[ptr p, .int .i64 i, .int .i64 k0] w fun e w' => e = .returned (.int .i64 100) ∧ Below w.heap.size w w' := by
  have hmf : ∀ (fn : Fn) (first cap : Array Value) (w : World), (Instr.makeFunc fn first cap).run Tryd.prog w = .ok (.func fn first cap) w := fun _ _ _ _ => rfl
  obtain ⟨ao, cap, rfl, hg⟩ := t.slice
  obtain ⟨gq, capq, rfl⟩ := t.pslice hq
  have T0 := hid t.drew
  have B0 := hid ((Below.refl w.heap.size w).drew)
  have c1 := t.cell1
  have hE0 : inE i (h.L.length : Int) 100 = 100 := inE_no hT
  clear t hg hT hq
  go_enter Tryd.func14, Tryd.ntmps14
  go_wp2_with fail
  go_cut [7] from 7 to 21 (fun s7 wx => s7 = .int .i64 100 ∧ Below w.heap.size w wx)
  case first =>
    go_region_with (first
      | (go_at_call 23; (with_reducible refine Calls.mono (there_any p i _ _ _ _ T0.out.var0) ?_); rintro e w1 ⟨c1, rfl, k1, b1⟩; obtain ⟨g1, l1, rfl⟩ := k1.form; have T1 := hid (T0.out.below b1); have B1 := hid (Below.then B0.out b1 B0.out.size); have K1 := hid k1; have c1b := T1.out.cell1; clear k1 b1)
      | (go_at_call 21; (with_reducible refine Calls.mono (below_any k0 (h.Q.length : Int) _) ?_); rintro e w2 ⟨c2, rfl, k2, b2⟩; obtain ⟨g2, l2, rfl⟩ := k2.form; have B2 := hid (Below.then B1.out b2 B1.out.size); have K1' := hid (K1.out.below b2); have K2 := hid k2; clear k2 b2)
      | (go_at_call 20; (with_reducible refine Calls.mono (first2 w2 _ _ _ _ K1'.out fun _ => K2.out) ?_); rintro e w3 ⟨rfl, b3⟩; have B3 := hid (Below.then B2.out b3 B2.out.size); clear b3))
    all_goals go_wp2_with fail
    all_goals go_meet
    all_goals exact ⟨rfl, B3.out⟩
  case rest =>
    obtain ⟨rfl, b3⟩ := hcut
    have B3 := hid b3
    clear b3 T0 c1
    go_wp2
    go_ret
    exact ⟨rfl, B3.out⟩
end
end Go.Proofs.YtchamgecalfmpabDoor

/-
  ThreadsFull: there are at most 64 threads; each has what it was made with, and words 0; the variable words.halves starts as the program's text lays it (the card ties it).
-/
import Derived.Test.YtchamgecalfmpabDoorHLaw
import Derived.Test.YtchamgecalfmpabDoorHSmall
import Derived.Test.YtchamgecalfmpabDoorHEq
import Derived.Deep.Cut
import Derived.Deep.CutRange
namespace Go.Proofs.YtchamgecalfmpabDoor.threadsFull
open Go.RowKit Go.Deep Go.Shelf
/-- i threads of priority P, by turns at n cores. -/
def ful (n P : Nat) : Nat → Hs
  | 0 => newH n
  | i + 1 => makeH (ful n P i) P ((i % n : Nat) : Int)
theorem ful_is {n P : Nat} (hn : 1 ≤ n) (hP : P < 256) : ∀ i, i ≤ 64 → ful n P i = ⟨(List.range i).map fun j => ⟨0, P, j % n, 5, z8⟩, List.replicate n []⟩
  | 0, _ => rfl
  | i + 1, hi => by
    have ih := ful_is hn hP i (by omega)
    unfold ful
    rw [ih, (make_yes hP (h := ⟨(List.range i).map fun j => ⟨0, P, j % n, 5, z8⟩, List.replicate n []⟩) (c := i % n) (by simp only [List.length_replicate]; exact Nat.mod_lt _ (by omega)) (by simp; omega)).1, List.range_succ, List.map_append]
    rfl
theorem all {n P : Nat} (hn : 1 ≤ n) (hP : P < 256) : ∃ (M : Nat → Hs), M 0 = newH n ∧ (∀ i, i < 64 → makeH (M i) P ((i % n : Nat) : Int) = M (i + 1) ∧ makeN (M i) P ((i % n : Nat) : Int) = i ∧ makeE (M i) P ((i % n : Nat) : Int) = 0 ∧ getT (M (i + 1)) i = ⟨0, P, i % n, 5, z8⟩ ∧ getE (M (i + 1)) i = 0) ∧ makeE (M 64) P 0 = 2 ∧ getE (M 64) 64 = 100 := by
  refine ⟨ful n P, rfl, fun i hi => ?_, ?_, ?_⟩
  · have e := ful_is hn hP i (by omega)
    have e1 := ful_is hn hP (i + 1) (by omega)
    obtain ⟨m1, m2, m3⟩ := make_yes hP (h := ful n P i) (c := i % n) (by rw [e]; simp only [List.length_replicate]; exact Nat.mod_lt _ (by omega)) (by rw [e]; simp; omega)
    have hT : isT (ful n P (i + 1)) (i : Int) := by
      unfold isT
      rw [e1]
      simp
      omega
    refine ⟨rfl, ?_, m2, ?_, ?_⟩
    · rw [m3, e]
      simp
    · unfold getT
      rw [if_pos hT, Int.toNat_natCast, e1]
      unfold thr
      rw [List.getD_eq_getElem?_getD, List.getElem?_map, List.getElem?_range (by omega)]
      rfl
    · unfold getE
      rw [if_pos hT]
  · have e := ful_is hn hP 64 (by omega)
    have hC : isC (ful n P 64) 0 := by
      unfold isC
      rw [e]
      simp
      omega
    unfold makeE
    rw [if_pos ⟨by omega, hC⟩, if_pos (by rw [e]; simp)]
  · have e := ful_is hn hP 64 (by omega)
    unfold getE
    rw [if_neg]
    unfold isT
    rw [e]
    simp
set_option maxHeartbeats 8000000 in
set_option maxRecDepth 100000 in
theorem walk (cores prio : Int) (w : World) (ht : Tab w) (_ : -9223372036854775808 ≤ cores ∧ cores ≤ 9223372036854775807) (_ : -9223372036854775808 ≤ prio ∧ prio ≤ 9223372036854775807) :
    Calls Tryd.prog 3 #[.int .i64 cores, .int .i64 prio] w fun e w' => e = .returned (.bool true) ∧ Below w.heap.size w w' := by
  have HT := hid (Sep.tabs ht)
  clear ht
  obtain ⟨P, hP, hmask⟩ := mask255 prio
  obtain ⟨m, hm, hmask7⟩ := mask7 cores
  obtain ⟨N, hN⟩ : ∃ N : Nat, N = 1 + m := ⟨_, rfl⟩
  have hN1 : 1 ≤ N := by omega
  have hN8 : N ≤ 8 := by omega
  have hw : IntKind.i64.wrap (1 + (m : Int)) = (N : Int) := by
    unfold IntKind.wrap
    simp [IntKind.bits, IntKind.signed]
    omega
  have hw2 : 1 + (m : Int) = (N : Int) := by omega
  have hN0 : ¬ ((N : Int) = 0) := by omega
  obtain ⟨M, a0, a1, a2, a3⟩ := all hN1 hP
  have HA := hid (And.intro a0 (And.intro a1 (And.intro a2 a3)))
  clear hN hm a0 a1 a2 a3
  go_enter Tryd.func3, Tryd.ntmps3
  go_wp2_with fail
  refine Calls.mono (newT_sep (sep_nil w) N hN1 hN8) ?_
  rintro e w1 ⟨p, F, rfl, s1⟩
  have S1 := hid s1
  clear s1
  generalize hr : w.heap.size = r at *
  have HR := hid hr
  clear hr
  go_wp2_with fail
  go_loopw [9, 10, 11, 12, 13] (fun s9 _ _ _ _ wr => ∃ (k : Nat) (F : Nat → Prop), k ≤ 64 ∧ s9 = .int .i64 k ∧ Sep w r wr [tT p F (M k)]) (fun s9 _ _ _ _ _ => 64 - (intOf s9).toNat)
  case atStart => exact ⟨0, F, by omega, rfl, by rw [HA.out.1]; exact S1.out⟩
  case round =>
    clear S1
    obtain ⟨k, G, hk, rfl, s1⟩ := hrel
    have S1 := hid s1
    clear s1
    by_cases hlt : k < 64
    · have hltz : (k : Int) < 64 := by omega
      obtain ⟨b1, b2, b3, b4, b5⟩ := HA.out.2.1 k hlt
      have d2 : (k : Int).tmod (N : Int) = ((k % N : Nat) : Int) := by rw [Int.tmod_eq_emod_of_nonneg (by omega)]; rfl
      have d4 : (k : Int) % (N : Int) = ((k % N : Nat) : Int) := rfl
      have HI := hid hlt
      generalize k % N = C at *
      go_wp2_with fail
      refine Calls.mono (make_is S1.out P C b1 b2 b3) ?_
      rintro e w2 ⟨rfl, F2, s2⟩
      have S2 := hid s2
      clear s2
      go_wp2_with fail
      refine Calls.mono (get_agg S2.out k b4 b5) ?_
      rintro e w3 ⟨rfl, s3⟩
      have S3 := hid (s3.box (objT ⟨0, P, C, 5, z8⟩))
      have heq : ∀ W, (Op.equalIn 10000 31 (.agg #[.int .i64 0, .int .i64 P, .int .i64 C, .int .i64 5, .int .u64 0, .int .u64 0, .int .u64 0, .int .u64 0, .int .u64 0, .int .u64 0, .int .u64 0, .int .u64 0]) (.agg #[.int .i64 0, .int .i64 P, .int .i64 C, .int .i64 5, .int .u64 0, .int .u64 0, .int .u64 0, .int .u64 0, .int .u64 0, .int .u64 0, .int .u64 0, .int .u64 0])).run Tryd.prog W = .ok true W := fun W => eq_thread ⟨0, P, C, 5, z8⟩ W
      have hrg : ∀ j, rg ⟨0, P, C, 5, z8⟩ j = 0 := fun j => by
        unfold rg z8
        simp only [List.getD_eq_getElem?_getD, List.getElem?_replicate]
        split <;> rfl
      simp only [hrg, objT] at S3 ⊢
      clear s3
      go_wp2_with fail
      have h12 := (at12_new w3 ⟨0, P, C, 5, z8⟩).cells
      simp only [hrg, objT, Nat.zero_add] at h12
      obtain ⟨c0, c1, c2, c3, c4, c5, c6, c7, c8, c9, c10, c11⟩ := h12
      generalize w3.alloc (.cells #[.int .i64 0, .int .i64 P, .int .i64 C, .int .i64 5, .int .u64 0, .int .u64 0, .int .u64 0, .int .u64 0, .int .u64 0, .int .u64 0, .int .u64 0, .int .u64 0] 31) = W at *
      generalize w3.heap.size = q3 at *
      clear hrg S1 S2
      go_quiet (fail)
      have S4 := hid (S3.out.drop.drewN nq)
      generalize W.drewN nq = W4 at *
      clear c0 c1 c2 c3 c4 c5 c6 c7 c8 c9 c10 c11 heq S3
      go_wp2
      go_round
      case rel => exact ⟨k + 1, F2, by have := HI.out; omega, by go_num, S4.out⟩
      case measure => simp [intOf]; have := HI.out; omega
    · obtain rfl : k = 64 := by omega
      obtain ⟨_, _, b2, b3⟩ := HA.out
      clear hk hlt HA
      go_wp2_with fail
      refine Calls.mono (make_is S1.out P 0 rfl rfl b2) ?_
      rintro e w2 ⟨rfl, F2, s2⟩
      have hsame : makeH (M 64) P 0 = M 64 := by unfold makeH; rw [b2]; rfl
      rw [hsame] at s2
      generalize makeN (M 64) P 0 = mn at *
      have S2 := hid s2
      clear s2 S1 hsame
      go_wp2_with fail
      refine Calls.mono (get_agg S2.out 64 rfl b3) ?_
      rintro e w3 ⟨rfl, s3⟩
      generalize getT (M 64) 64 = y at *
      have S3 := hid (s3.box (objT y)).drop
      clear s3 S2
      go_wp2_with fail
      refine Calls.mono (fixed_sep S3.out HT.out) ?_
      rintro e w4 ⟨rfl, s4⟩
      have S4 := hid s4
      clear s4
      go_wp2
      go_ret
      exact ⟨rfl, by rw [HR.out]; exact S4.out.low⟩
open Go.ChangeShapes Go.WideShapes Go.ChangeAt Go.RowKit Go.Joins

/-! ### From the walk to the statement -/
set_option maxRecDepth 100000 in
theorem contract (H : Type) (enc : TypeId × Value → H) (W : World) (base : Nat) (args : Array Value) (ds gs : List (DataW H)) (before : List MemPlace)
    (hval : ∀ (j : Nat) t v, Tryd.f3.params[j]? = some t → args[j]? = some v → Value.okWide Tryd.prog W .any base t v)
    (hW : DataW.Whole enc Tryd.prog Tryd.f3.params.toList Rows.threadsFullSpec.vars false W args.toList ds gs before) (hL : laidMetH Tryd.prog Rows.threadsFullRow.laid W) :
    Calls Tryd.prog 3 args W fun e W' => ∃ v, e = .returned v ∧ Rows.threadsFullSpec.post enc Tryd.prog Tryd.f3 false true false false W args v W' := by
  have hW' := hW
  obtain ⟨p, q, hA0, hV, rfl, hfz, hnd⟩ := hW
  have hA : DataW.TrodAll enc Tryd.prog W 0 (fun _ => true) true Tryd.f3.params.toList args.toList ds p := hA0
  rw [Tryd.params3] at hA hval
  obtain ⟨v0, vs0, d0, ds0, p0, q0, hargs, rfl, rfl, h0, r0⟩ := trodAll_cons hA
  obtain ⟨v1, vs1, d1, ds1, p1, q1, rfl, rfl, rfl, h1, r1⟩ := trodAll_cons r0
  obtain ⟨rfl, rfl, rfl⟩ := trodAll_nil r1
  obtain rfl : args = #[v0, v1] := by cases args; simp_all
  obtain ⟨rfl, rfl⟩ := trodVars_none hV
  have k0 := h0
  have lt0 : ∀ x ∈ p0, x.block < W.heap.size := by obtain ⟨m, hm⟩ := k0; exact DataW.trod_lt m _ _ _ hm
  have k1 := h1
  have lt1 : ∀ x ∈ p1, x.block < W.heap.size := by obtain ⟨m, hm⟩ := k1; exact DataW.trod_lt m _ _ _ hm
  obtain ⟨a0, rfl, _, _, w0⟩ := open_int Tryd.underlying3 (hval 0 3 v0 rfl rfl) h0
  obtain ⟨a1, rfl, _, _, w1⟩ := open_int Tryd.underlying3 (hval 1 3 v1 rfl rfl) h1
  clear hA0
  refine (walk a0 a1 W (table hL) (bounds_i64 w0) (bounds_i64 w1)).mono fun e W' ⟨he, bel⟩ => ?_
  subst he
  exact ⟨_, rfl, _, _, _, [], _, [], hW', trodAll_mk1 (shut_bool Tryd.underlying4 _), (trodAll_cons_mk (Below.trod laidOut (by kernel_rfl) (of_decide_eq_true (by kernel_rfl)) k0 bel lt0) (trodAll_cons_mk (Below.trod laidOut (by kernel_rfl) (of_decide_eq_true (by kernel_rfl)) k1 bel lt1) trodAll_mk0)), rfl, bel.frame _, fun h => by cases h⟩

set_option maxRecDepth 100000 in
theorem laid_met (os : Os) : laidMet Tryd.prog Rows.threadsFullRow.laid ((World.doorLaid Tryd.prog 40 os).forCall (fun _ _ => 0) ⟨#[], #[.int .i64 0, .int .i64 0], []⟩).memory :=
  laidMet_of_run' 8 (by kernel_rfl) (by kernel_rfl)
set_option maxRecDepth 100000 in
theorem reads (os : Os) {H : Type} (enc : TypeId × Value → H) : ∃ places, DataW.whole enc Tryd.prog ((World.doorLaid Tryd.prog 40 os).forCall (fun _ _ => 0) ⟨#[], #[.int .i64 0, .int .i64 0], []⟩).memory Tryd.f3.params.toList Rows.threadsFullSpec.vars false (#[.int .i64 0, .int .i64 0] : Array Value).toList 8 = some ([.lit (.int .i64 0), .lit (.int .i64 0)], [], places) :=
  ⟨[], by kernel_rfl⟩
set_option maxRecDepth 100000 in
set_option maxRecDepth 100000 in
theorem lifted (os : Os) (started : os.Started) (H : Type) (enc : TypeId × Value → H) (F : Stop.Interp) :
    ReturnsInHanded {} Tryd.checked os 3 .any ((OpenSpec.ofChange Rows.threadsFullSpec).preRow enc Tryd.prog Tryd.f3 Rows.threadsFullRow.domain false Rows.threadsFullRow.laid) (((OpenSpec.ofChange Rows.threadsFullSpec).at F).post enc Tryd.prog Tryd.f3 false true false false) := by
  obtain ⟨places, hx⟩ := reads os enc
  refine returnsInHanded_of_row (C := Tryd.checked) (s := OpenSpec.ofChange Rows.threadsFullSpec) own started (by kernel_rfl) Tryd.func3
    (witness_row_at (enc := enc) (C := Tryd.checked) false (World.doorLaid Tryd.prog 40 os) #[.int .i64 0, .int .i64 0] rfl (by kernel_rfl) (by kernel_rfl) (by kernel_rfl)
      (OpenSpec.preRow_of_cond 8 hx (by kernel_rfl) (fun k hk => by cases hk) (by kernel_rfl) (laid_met os))) ?_
  intro W base args ds gs before hval hW _ _ _ hL _ _
  exact contract H enc W base args ds gs before hval hW hL
set_option maxRecDepth 100000 in
theorem said : Rows.ThreadsFullSaid :=
  OpenClaim.holds_of_cond 3 Tryd.f3 rfl rfl rfl rfl rfl rfl rfl ⟨rfl, rfl, rfl, rfl, rfl⟩ rfl rfl rfl rfl rfl (by kernel_rfl) Tryd.func3 (by kernel_rfl)
    (of_decide_eq_true (by kernel_rfl)) (by unfold Func.isWrapper; first | (rw [if_pos (by decide +kernel)]; kernel_rfl) | (rw [if_neg (by decide +kernel)]; exact ⟨rfl, rfl⟩))
    (fun os started H enc _ F => by rw [OpenClaim.pre_eq_preRow]; exact lifted os started H enc F)
set_option maxRecDepth 100000 in
theorem plain (f : FuncId) (fn : Func) (hf : Tryd.pinned.checked.prog.funcNamed "buttress/buttresslaw10.ThreadsFull" = some f) (hfn : Tryd.pinned.checked.prog.funcs[f]? = some fn) :
    false = Tryd.pinned.checked.prog.looks [] ∧ ∀ (j : Nat) t, fn.params[j]? = some t → Tryd.pinned.checked.prog.wantsStandIn t = false := by
  obtain rfl : f = 3 := Option.some.inj ((show Tryd.prog.funcNamed "buttress/buttresslaw10.ThreadsFull" = some 3 by kernel_rfl).symm.trans hf) |>.symm
  obtain rfl : fn = Tryd.f3 := (Option.some.inj (Tryd.func3.symm.trans hfn)).symm
  refine ⟨by kernel_rfl, fun j t ht => ?_⟩
  rw [Tryd.params3] at ht
  have hm : t ∈ [3, 3] := by simpa using Array.mem_of_getElem? ht
  have hall : ([3, 3].all fun u => !Tryd.prog.wantsStandIn u) = true := by kernel_rfl
  exact (show Tryd.prog.wantsStandIn t = false by simpa using List.all_eq_true.1 hall t hm)
end Go.Proofs.YtchamgecalfmpabDoor.threadsFull
namespace Go.Proofs.YtchamgecalfmpabDoor
/-- THE CARD. -/
theorem threadsFull_card : Rows.ThreadsFullCardSaid :=
  Claim7.holds_tied_plain_at .later [] _ _ _ _ threadsFull.said (fun _ h => by cases h) (by kernel_rfl) (fun _ h => by cases h) threadsFull_row_tie rfl ⟨rfl, rfl⟩ (by kernel_rfl) rfl threadsFull.plain (by kernel_rfl)
#print axioms threadsFull_card
end Go.Proofs.YtchamgecalfmpabDoor

/-
  ReadyApart: a copy and its original go their own ways; the variable words.halves starts as the program's text lays it (the card ties it).
-/
import Derived.Test.YtnjmjhmngjodcaaDoorQMore
namespace Go.Proofs.YtnjmjhmngjodcaaDoor.readyApart
open Go.RowKit Go.Deep Go.Shelf
set_option maxHeartbeats 4000000 in
theorem walk (ao : Option Addr) (X : List Oc) (cap : Nat) (o : Oc) (w : World) (ht : Tab w) (hX : Ops w ao X) (_hxl : X.length ≤ 9223372036854775807) (ho : o.Fits) :
    Calls Tryd.prog 8 #[.slice ao X.length cap, encO o] w fun e w' => e = .returned (.bool true) ∧ Below w.heap.size w w' := by
  have HT := hid (Sep.tabs ht)
  have HX := hid hX
  unfold encO
  clear ht hX
  go_enter Tryd.func8, Tryd.ntmps8
  go_wp2_with fail
  refine Calls.mono (new_sep ((sep_nil w).box (objO o))) ?_
  rintro e w1 ⟨q, F, rfl, s1⟩
  have S1 := hid s1
  clear s1
  generalize hr : w.heap.size = r at *
  have HR := hid hr
  clear hr
  go_wp2_with fail
  go_loopw [6] (fun i wr => ∃ (k : Nat) (F : Nat → Prop) (S : St), k ≤ 40 ∧ i = .int .i64 k ∧ S.length ≤ k ∧ Sep w r wr [quT q F S, blk r (objO o)]) (fun i _ => 40 - (intOf i).toNat)
  case atStart => exact ⟨0, F, [], by omega, rfl, by simp, S1.out⟩
  case round =>
    clear S1
    obtain ⟨k, G, S, hk, rfl, hS, s1⟩ := hrel
    have S1 := hid s1
    clear s1
    by_cases hgo : k < X.length ∧ k < 40
    · obtain ⟨hlt, h40⟩ := hgo
      obtain ⟨fx, b, a, rfl, c0, c1, c2⟩ := Ops.at (SeeK.below HX.out S1.out.low (by rw [HR.out]; exact Nat.le_refl _)) (List.getElem?_eq_getElem hlt)
      generalize hx : X[k] = x at *
      have HF := hid fx
      have HSl := hid hS
      clear fx hx hS
      generalize hn : X.length = n at *
      have hltz : (k : Int) < (n : Int) := by omega
      have h40z : (k : Int) < 40 := by omega
      go_wp2_with fail
      go_region_with (go_at_call 10; refine Calls.mono (put_sep S1.out.drew _ _ HF.out.n (by have := HSl.out; omega)) ?_; rintro e w2 ⟨rfl, F2, s2⟩)
      all_goals
        go_wp2
        go_round
        case rel => exact ⟨k + 1, F2, _, by omega, by go_num, by have := put_len S x.p x.n; have := HSl.out; omega, s2⟩
        case measure => simp [intOf]; omega
    · have hex : (¬ ((k : Int) < (X.length : Int))) ∨ ((k : Int) < (X.length : Int) ∧ ¬ ((k : Int) < 40)) := by omega
      have HSl : Hid (S.length ≤ 40) := (Nat.le_trans hS hk)
      clear hgo hS
      generalize hn : X.length = n at *
      rcases hex with h | ⟨h, h2⟩
      all_goals
        go_wp2_with fail
        refine Calls.mono (copy_sep S1.out (by have := HSl.out; omega)) ?_
        rintro e w2 ⟨q2, F2, rfl, s2⟩
        have S2 := hid s2
        clear s2
        obtain ⟨x0, x1, x2, x3, hw⟩ := wd_parts (occ S)
        have HW := hid hw
        have HG := hid S2.out.good
        clear hw
        go_wp2_with fail
        refine Calls.mono (bits_is S2.out HW.out) ?_
        rintro e w3 ⟨rfl, s3⟩
        have S3 := hid s3
        clear s3
        go_wp2_with fail
        refine Calls.mono (next_sep (S3.out.box (objB x0 x1 x2 x3)).swap HT.out) ?_
        rintro e w4 ⟨rfl, s4⟩
        have S4 := hid s4.third.swap
        obtain ⟨c0, c1, c2⟩ := S4.out.opAt (q := r) (x := o) (by simp)
        generalize w3.heap.size = bb at *
        clear s4
        have HN := hid (nextN_fit HG.out)
        have HB : Hid (nextB S = nextB S) := rfl
        have HNX : Hid (∀ w' q' F' (R' : List Th), Sep w r w' (quT q' F' S :: R') → Calls Tryd.prog 17 #[.pointer (some ⟨q', 0, none⟩)] w' fun e u => e = .returned (.tuple #[.int .i64 (nextN S), .bool (nextB S)]) ∧ Sep w r u (quT q' F' S :: R')) := fun w' q' F' R' h => next_sep h HT.out
        generalize nextN S = nn at *
        generalize nextB S = zz at *
        clear HB
        have HO := hid ho
        go_wp2_with fail
        refine Calls.mono (put_sep S4.out _ _ HO.out.n (by have := HSl.out; omega)) ?_
        rintro e w5 ⟨rfl, F5, s5⟩
        have S5 := hid s5
        have HL5 : Hid ((putS S o.p o.n).length ≤ 41) := (by have := put_len S o.p o.n; have := HSl.out; show (putS S o.p o.n).length ≤ 41; omega)
        clear s5
        go_wp2_with fail
        refine Calls.mono (turn_sep S5.out HT.out (by have := HL5.out; omega)) ?_
        rintro e w6 ⟨rfl, F6, s6⟩
        have HL6 : Hid ((turnS (putS S o.p o.n)).length ≤ 41) := Nat.le_trans (turn_len S5.out.good) HL5.out
        have S6 := hid s6
        clear s6
        go_wp2_with fail
        refine Calls.mono (take_sep S6.out nn HN.out (by have := HL6.out; omega)) ?_
        rintro e w7 ⟨rfl, F7, s7⟩
        have S7 := hid s7.third.swap
        clear s7
        go_wp2_with fail
        refine Calls.mono (HNX.out _ _ _ _ S7.out) ?_
        rintro e w8 ⟨rfl, s8⟩
        have S8 := hid s8
        clear s8
        go_wp2_with fail
        obtain ⟨d0, d1, d2, d3⟩ := S8.out.bitsGrw (q := bb) (x0 := x0) (x1 := x1) (x2 := x2) (x3 := x3) (by simp)
        have heq := eq_same x0 x1 x2 x3
        have hgi : ∀ u : World, Inhabited (Grw u) := grw0
        refine wp_region_grw (by kernel_rfl) (by kernel_rfl) ?_
        repeat (go_big_quiet_step ((first | (go_at_call 24; exact bits_grw (F := F2) (S := S) S8.out (by simp) HW.out) | (go_at_call 26; exact fixed_grw S8.out HT.out))))
        refine wpQuiet_nil ?_
        intro _ hw'
        obtain ⟨p9, hw''⟩ := hw'
        subst hw''
        go_wp2
        go_ret
        exact ⟨rfl, by rw [HR.out]; exact (S8.out.grw p9).low⟩
open Go.ChangeShapes Go.WideShapes Go.ChangeAt Go.RowKit Go.Joins

/-! ### From the walk to the statement -/
theorem contract (H : Type) (enc : TypeId × Value → H) (W : World) (base : Nat) (args : Array Value) (ds gs : List (DataW H)) (before : List MemPlace)
    (hval : ∀ (j : Nat) t v, Tryd.f8.params[j]? = some t → args[j]? = some v → Value.okWide Tryd.prog W .any base t v)
    (hW : DataW.Whole enc Tryd.prog Tryd.f8.params.toList Rows.readyApartSpec.vars false W args.toList ds gs before) (hL : laidMetH Tryd.prog Rows.readyApartRow.laid W) :
    Calls Tryd.prog 8 args W fun e W' => ∃ v, e = .returned v ∧ Rows.readyApartSpec.post enc Tryd.prog Tryd.f8 false true false false W args v W' := by
  have hW' := hW
  obtain ⟨p, q, hA0, hV, rfl, hfz, hnd⟩ := hW
  have hA : DataW.TrodAll enc Tryd.prog W 0 (fun _ => true) true Tryd.f8.params.toList args.toList ds p := hA0
  rw [Tryd.params8] at hA hval
  obtain ⟨v0, vs0, d0, ds0, p0, q0, hargs, rfl, rfl, h0, r0⟩ := trodAll_cons hA
  obtain ⟨v1, vs1, d1, ds1, p1, q1, rfl, rfl, rfl, h1, r1⟩ := trodAll_cons r0
  obtain ⟨rfl, rfl, rfl⟩ := trodAll_nil r1
  obtain rfl : args = #[v0, v1] := by cases args; simp_all
  obtain ⟨rfl, rfl⟩ := trodVars_none hV
  have k0 := h0
  have lt0 : ∀ x ∈ p0, x.block < W.heap.size := by obtain ⟨m, hm⟩ := k0; exact DataW.trod_lt m _ _ _ hm
  have k1 := h1
  have lt1 : ∀ x ∈ p1, x.block < W.heap.size := by obtain ⟨m, hm⟩ := k1; exact DataW.trod_lt m _ _ _ hm
  obtain ⟨a0, l0, c0, rfl, t0, s0⟩ := open_ops (hval 0 22 v0 rfl rfl) h0
  obtain ⟨a1, rfl, w1⟩ := open_op (hval 1 30 v1 rfl rfl) h1
  clear hA0
  refine (walk a0 l0 c0 a1 W (table hL) t0 s0 w1).mono fun e W' ⟨he, bel⟩ => ?_
  subst he
  exact ⟨_, rfl, _, _, _, [], _, [], hW', trodAll_mk1 (shut_bool Tryd.underlying4 _), (trodAll_cons_mk (Below.trod laidOut (by kernel_rfl) (of_decide_eq_true (by kernel_rfl)) k0 bel lt0) (trodAll_cons_mk (Below.trod laidOut (by kernel_rfl) (of_decide_eq_true (by kernel_rfl)) k1 bel lt1) trodAll_mk0)), rfl, bel.frame _, fun h => by cases h⟩

theorem laid_met (os : Os) : laidMet Tryd.prog Rows.readyApartRow.laid ((World.doorLaid Tryd.prog 40 os).forCall (fun _ _ => 0) ⟨#[], #[.slice none 0 0, .agg #[.int .i64 0, .int .i64 0, .int .i64 0]], []⟩).memory :=
  laidMet_of_run' 8 (by kernel_rfl) (by kernel_rfl)
theorem reads (os : Os) {H : Type} (enc : TypeId × Value → H) : ∃ places, DataW.whole enc Tryd.prog ((World.doorLaid Tryd.prog 40 os).forCall (fun _ _ => 0) ⟨#[], #[.slice none 0 0, .agg #[.int .i64 0, .int .i64 0, .int .i64 0]], []⟩).memory Tryd.f8.params.toList Rows.readyApartSpec.vars false (#[.slice none 0 0, .agg #[.int .i64 0, .int .i64 0, .int .i64 0]] : Array Value).toList 8 = some ([.nil, .agg [.lit (.int .i64 0), .lit (.int .i64 0), .lit (.int .i64 0)]], [], places) :=
  ⟨[], by kernel_rfl⟩
set_option maxRecDepth 100000 in
theorem lifted (os : Os) (started : os.Started) (H : Type) (enc : TypeId × Value → H) (F : Stop.Interp) :
    ReturnsInHanded {} Tryd.checked os 8 .any ((OpenSpec.ofChange Rows.readyApartSpec).preRow enc Tryd.prog Tryd.f8 Rows.readyApartRow.domain false Rows.readyApartRow.laid) (((OpenSpec.ofChange Rows.readyApartSpec).at F).post enc Tryd.prog Tryd.f8 false true false false) := by
  obtain ⟨places, hx⟩ := reads os enc
  refine returnsInHanded_of_row (C := Tryd.checked) (s := OpenSpec.ofChange Rows.readyApartSpec) own started (by kernel_rfl) Tryd.func8
    (witness_row_at (enc := enc) (C := Tryd.checked) false (World.doorLaid Tryd.prog 40 os) #[.slice none 0 0, .agg #[.int .i64 0, .int .i64 0, .int .i64 0]] rfl (by kernel_rfl) (by kernel_rfl) (by kernel_rfl)
      (OpenSpec.preRow_of_cond 8 hx (by kernel_rfl) (fun k hk => by cases hk) (by kernel_rfl) (laid_met os))) ?_
  intro W base args ds gs before hval hW _ _ _ hL _ _
  exact contract H enc W base args ds gs before hval hW hL
theorem said : Rows.ReadyApartSaid :=
  OpenClaim.holds_of_cond 8 Tryd.f8 rfl rfl rfl rfl rfl rfl rfl ⟨rfl, rfl, rfl, rfl, rfl⟩ rfl rfl rfl rfl rfl (by kernel_rfl) Tryd.func8 (by kernel_rfl)
    (of_decide_eq_true (by kernel_rfl)) (by unfold Func.isWrapper; first | (rw [if_pos (by decide +kernel)]; kernel_rfl) | (rw [if_neg (by decide +kernel)]; exact ⟨rfl, rfl⟩))
    (fun os started H enc _ F => by rw [OpenClaim.pre_eq_preRow]; exact lifted os started H enc F)
theorem plain (f : FuncId) (fn : Func) (hf : Tryd.pinned.checked.prog.funcNamed "buttress/buttresslaw09.ReadyApart" = some f) (hfn : Tryd.pinned.checked.prog.funcs[f]? = some fn) :
    false = Tryd.pinned.checked.prog.looks [] ∧ ∀ (j : Nat) t, fn.params[j]? = some t → Tryd.pinned.checked.prog.wantsStandIn t = false := by
  obtain rfl : f = 8 := Option.some.inj ((show Tryd.prog.funcNamed "buttress/buttresslaw09.ReadyApart" = some 8 by kernel_rfl).symm.trans hf) |>.symm
  obtain rfl : fn = Tryd.f8 := (Option.some.inj (Tryd.func8.symm.trans hfn)).symm
  refine ⟨by kernel_rfl, fun j t ht => ?_⟩
  rw [Tryd.params8] at ht
  have hm : t ∈ [22, 30] := by simpa using Array.mem_of_getElem? ht
  have hall : ([22, 30].all fun u => !Tryd.prog.wantsStandIn u) = true := by kernel_rfl
  exact (show Tryd.prog.wantsStandIn t = false by simpa using List.all_eq_true.1 hall t hm)
end Go.Proofs.YtnjmjhmngjodcaaDoor.readyApart
namespace Go.Proofs.YtnjmjhmngjodcaaDoor
/-- THE CARD. -/
theorem readyApart_card : Rows.ReadyApartCardSaid :=
  Claim7.holds_tied_plain_at .later [] _ _ _ _ readyApart.said (fun _ h => by cases h) (by kernel_rfl) (fun _ h => by cases h) readyApart_row_tie rfl ⟨rfl, rfl⟩ (by kernel_rfl) rfl readyApart.plain (by kernel_rfl)
#print axioms readyApart_card
end Go.Proofs.YtnjmjhmngjodcaaDoor

/-
  ReadyLines: lines of other priorities are as they were when somebody is put in, or the first line is turned; the variable words.halves starts as the program's text lays it (the card ties it).
-/
import Derived.Test.YtnjmjhmngjodcabDoorQLists
namespace Go.Proofs.YtnjmjhmngjodcabDoor.readyLines
open Go.RowKit Go.Deep Go.Shelf
theorem lineI_put {S : St} {p q n : Int} (h : p ≠ q) : lineI (putS S q n) p = lineI S p := by
  rcases putE_cases S q n with ⟨_, e, h0, h1, _⟩ | ⟨_, e, _⟩ | ⟨_, e, _⟩ <;> rw [e]
  unfold lineI
  by_cases hp : 0 ≤ p ∧ p < 256
  · rw [if_pos hp, if_pos hp, line_add, if_neg (by simp only; omega)]
  · rw [if_neg hp, if_neg hp]
theorem put_mem {S : St} {q n : Int} {x : In} (h : x ∈ S) : x ∈ putS S q n := by
  rcases putE_cases S q n with ⟨_, e, _⟩ | ⟨_, e, _⟩ | ⟨_, e, _⟩ <;> rw [e]
  · exact List.mem_append_left _ h
  · exact h
  · exact h
theorem turned {S : St} (g : Good S) {x : In} (hx : x ∈ S) : nextB S = true ∧ ∃ y : In, nextN (turnS S) = y.n ∧ nextB (turnS S) = true ∧ whI (turnS S) y.n = y.p ∧ whB (turnS S) y.n = true ∧ I64 y.n ∧ x.p ≤ y.p := by
  have g2 := good_turn g
  rcases next_cases g with ⟨e, _⟩ | ⟨_, _, _, _, _, _, e3, _⟩
  · rw [e] at hx
    simp at hx
  · refine ⟨e3, ?_⟩
    have hx2 := (turn_mem g x).2 hx
    rcases next_cases g2 with ⟨e, _⟩ | ⟨y, _, hy, _, _, f2, f3, _, _, f5⟩
    · rw [e] at hx2
      simp at hx2
    · exact ⟨y, f2, f3, (whB_of g2 hy).2, (whB_of g2 hy).1, (g2.fit y hy).2, f5 x hx2⟩
set_option maxHeartbeats 4000000 in
set_option maxRecDepth 100000 in
theorem walk (ao : Option Addr) (X : List Oc) (cap : Nat) (o : Oc) (p : Int) (w : World) (ht : Tab w) (hX : Ops w ao X) (_hxl : X.length ≤ 9223372036854775807) (ho : o.Fits) (_hp : -9223372036854775808 ≤ p ∧ p ≤ 9223372036854775807) :
    Calls Tryd.prog 3 #[.slice ao X.length cap, encO o, .int .i64 p] w fun e w' => e = .returned (.bool true) ∧ Below w.heap.size w w' := by
  have HT := hid (Sep.tabs ht)
  clear ht
  have HX := hid hX
  have HO := hid ho
  unfold encO
  clear hX ho
  go_enter Tryd.func3, Tryd.ntmps3
  go_wp2_with fail
  refine Calls.mono (new_sep ((sep_nil w).box (objO o))) ?_
  rintro e w1 ⟨q, F, rfl, s1⟩
  have S1 := hid s1
  clear s1
  generalize hr : w.heap.size = r at *
  have HR := hid hr
  clear hr
  go_wp2_with fail
  go_loopw [8] (fun i wr => ∃ (k : Nat) (F : Nat → Prop) (S : St), k ≤ 40 ∧ i = .int .i64 k ∧ S.length ≤ k ∧ Sep w r wr [quT q F S, blk r (objO o)]) (fun i _ => 40 - (intOf i).toNat)
  case atStart => exact ⟨0, F, [], by omega, rfl, by simp, S1.out⟩
  case round =>
    clear S1
    obtain ⟨k, G, S, hk, rfl, hS, s1⟩ := hrel
    have S1 := hid s1
    clear s1
    by_cases hgo : k < X.length ∧ k < 40
    · obtain ⟨hlt, h40⟩ := hgo
      obtain ⟨fx, b, a, rfl, c0, c1, c2⟩ := Ops.at (SeeK.below HX.out S1.out.low (by rw [HR.out]; exact Nat.le_refl _)) (List.getElem?_eq_getElem hlt)
      generalize hx : X[k] = x at *
      have HF := hid fx
      have HSl := hid hS
      clear fx hx hS
      generalize hn : X.length = n at *
      have hltz : (k : Int) < (n : Int) := by omega
      have h40z : (k : Int) < 40 := by omega
      go_wp2_with fail
      go_region_with (go_at_call 5; refine Calls.mono (put_sep S1.out.drew _ _ HF.out.n (by have := HSl.out; omega)) ?_; rintro e w2 ⟨rfl, F2, s2⟩)
      all_goals
        go_wp2
        go_round
        case rel => exact ⟨k + 1, F2, _, by omega, by go_num, by have := put_len S x.p x.n; have := HSl.out; omega, s2⟩
        case measure => simp [intOf]; omega
    · have hex : (¬ ((k : Int) < (X.length : Int))) ∨ ((k : Int) < (X.length : Int) ∧ ¬ ((k : Int) < 40)) := by omega
      have HSl : Hid (S.length ≤ 40) := (Nat.le_trans hS hk)
      clear hgo hS
      generalize hn : X.length = nX at *
      rcases hex with h | ⟨h, h2⟩
      all_goals
        obtain ⟨c0, c1, c2⟩ := S1.out.opAt (q := r) (x := o) (by simp)
        have HG := hid S1.out.good
        by_cases hpo : p = o.p
        · subst hpo
          go_wp2_with fail
          refine Calls.mono (fixed_sep S1.out HT.out) ?_
          rintro e w5 ⟨rfl, s5⟩
          have S5 := hid s5
          clear s5
          go_wp2
          go_ret
          exact ⟨rfl, by rw [HR.out]; exact S5.out.low⟩
        · have hpo2 : (p == o.p) = false := by simpa using hpo
          have HPO := hid hpo
          have HLp := hid (lineI_put (S := S) (n := o.n) hpo)
          have HA : Hid ((lineI S p).length ≤ 40) := by
            show (lineI S p).length ≤ 40
            unfold lineI
            split
            · exact Nat.le_trans (line_len S _) HSl.out
            · simp
          have HPl : Hid ((putS S o.p o.n).length ≤ 41) := Nat.le_trans (put_len S o.p o.n) (Nat.succ_le_succ HSl.out)
          have HP3 : Hid (∀ T : St, putE T 300 1 = 1 ∧ putS T 300 1 = T) := fun T => by
            have : putE T 300 1 = 1 := by simp [putE]
            exact ⟨this, by simp [putS, this]⟩
          generalize hAA : lineI S p = A at *
          have HAA := hid hAA
          clear hpo hAA
          go_wp2_with fail
          rcases next_cases HG.out with ⟨e0, _, _, e2, e3, _⟩ | ⟨x, L, hx, _, _, e2, e3, _, _, _⟩
          · have HE : Hid (nextN S = 0 ∧ nextB S = false ∧ I64 0 ∧ whI S 0 = 0 ∧ whB S 0 = false ∧ True) := ⟨e2, e3, by unfold I64; omega, by rw [e0]; rfl, by rw [e0]; rfl, trivial⟩
            clear e0 e2 e3
            refine Calls.mono (next_is S1.out HT.out (n := 0) (z := false) HE.out.1 HE.out.2.1) ?_
            rintro e w2 ⟨rfl, s2⟩
            have S2 := hid s2
            clear s2
            go_wp2_with fail
            refine Calls.mono (where_is S2.out HE.out.2.2.1 (p := 0) (z := false) HE.out.2.2.2.1 HE.out.2.2.2.2.1) ?_
            rintro e _ ⟨rfl, rfl⟩
            go_wp2_with fail
            refine Calls.mono (line_sep S2.out p (by have := HSl.out; omega)) ?_
            rintro e w3 ⟨v3, rfl, s3⟩
            rw [HAA.out] at s3
            obtain ⟨ao3, cap3, ev⟩ := s3.listIs (v := v3) (A := A) (by simp)
            subst ev
            have S3 := hid s3
            obtain ⟨c0, c1, c2⟩ := S3.out.opAt (q := r) (x := o) (by simp)
            clear s3
            go_wp2_with fail
            refine Calls.mono (put_sep S3.out o.p o.n HO.out.n (by have := HSl.out; omega)) ?_
            rintro e w4 ⟨rfl, F4, s4⟩
            have S4 := hid s4
            clear s4
            go_wp2_with fail
            refine Calls.mono (line_sep S4.out p (by have := HPl.out; omega)) ?_
            rintro e w5 ⟨v5, rfl, s5⟩
            rw [HLp.out] at s5
            obtain ⟨ao5, cap5, ev⟩ := s5.listIs (v := v5) (A := A) (by simp)
            subst ev
            have S5 := hid s5
            clear s5
            go_wp2_with fail
            go_loopw [15] (fun i wr => ∃ j : Nat, j ≤ A.length ∧ i = .int .i64 j ∧ Sep w r wr [quT q F4 (putS S o.p o.n), lstI (.slice ao5 A.length cap5) A, lstI (.slice ao3 A.length cap3) A, blk r (objO o)]) (fun i _ => A.length - (intOf i).toNat)
            case atStart => exact ⟨0, Nat.zero_le _, rfl, S5.out⟩
            case round =>
              clear S5
              obtain ⟨j, hj, rfl, s6⟩ := hrel
              have S6 := hid s6
              clear s6
              by_cases hlt : j < A.length
              · obtain ⟨g5, rfl, d5⟩ := S6.out.listAt (ao := ao5) (n := A.length) (cap := cap5) (A := A) (by simp) (List.getElem?_eq_getElem hlt)
                obtain ⟨g3, rfl, d3⟩ := S6.out.listAt (ao := ao3) (n := A.length) (cap := cap3) (A := A) (by simp) (List.getElem?_eq_getElem hlt)
                generalize hy : A[j] = y at *
                clear hy
                have hA2 := HA.out
                generalize hm : A.length = m at *
                have hltz : (j : Int) < (m : Int) := by omega
                go_wp2_with fail
                go_quiet (fail)
                go_wp2
                go_round
                case rel => exact ⟨j + 1, by omega, by go_num, S6.out.drewN _⟩
                case measure => simp [intOf]; omega
              · obtain rfl : j = A.length := by omega
                generalize hm : A.length = m at *
                go_wp2_with fail
                have HTl : Hid ((turnS (putS S o.p o.n)).length ≤ 41) := Nat.le_trans (turn_len S6.out.good) HPl.out
                have HGt := hid (good_turn S6.out.good)
                refine Calls.mono (turn_sep S6.out HT.out (by have := HPl.out; omega)) ?_
                rintro e w7 ⟨rfl, F7, s7⟩
                have S7 := hid s7
                clear s7
                generalize nextB (putS S o.p o.n) = zt at *
                go_wp2_with fail
                refine Calls.mono (next_sep S7.out HT.out) ?_
                rintro e w8 ⟨rfl, s8⟩
                have S8 := hid s8
                have HNf := hid (nextN_fit HGt.out)
                clear s8
                generalize nextN (turnS (putS S o.p o.n)) = nn at *
                generalize nextB (turnS (putS S o.p o.n)) = zz at *
                go_wp2_with fail
                refine Calls.mono (where_sep S8.out nn HNf.out) ?_
                rintro e _ ⟨rfl, rfl⟩
                go_wp2_with fail
                refine Calls.mono (put_is S8.out (p := 300) (n := 1) (by unfold I64; omega) (by have := HTl.out; omega) (HP3.out _).1 (HP3.out _).2) ?_
                rintro e w10 ⟨rfl, F10, s10⟩
                have S10 := hid s10
                clear s10
                go_wp2_with fail
                refine Calls.mono (fixed_sep S10.out HT.out) ?_
                rintro e w11 ⟨rfl, s11⟩
                have S11 := hid s11
                clear s11
                go_wp2
                go_ret
                exact ⟨rfl, by rw [HR.out]; exact S11.out.low⟩
          · have HE : Hid (nextN S = x.n ∧ nextB S = true ∧ I64 x.n ∧ whI S x.n = x.p ∧ whB S x.n = true ∧ x ∈ S) := ⟨e2, e3, (HG.out.fit x hx).2, (whB_of HG.out hx).2, (whB_of HG.out hx).1, hx⟩
            clear e2 e3 hx
            refine Calls.mono (next_is S1.out HT.out (n := x.n) (z := true) HE.out.1 HE.out.2.1) ?_
            rintro e w2 ⟨rfl, s2⟩
            have S2 := hid s2
            clear s2
            go_wp2_with fail
            refine Calls.mono (where_is S2.out HE.out.2.2.1 (p := (x.p : Int)) (z := true) HE.out.2.2.2.1 HE.out.2.2.2.2.1) ?_
            rintro e _ ⟨rfl, rfl⟩
            go_wp2_with fail
            refine Calls.mono (line_sep S2.out p (by have := HSl.out; omega)) ?_
            rintro e w3 ⟨v3, rfl, s3⟩
            rw [HAA.out] at s3
            obtain ⟨ao3, cap3, ev⟩ := s3.listIs (v := v3) (A := A) (by simp)
            subst ev
            have S3 := hid s3
            obtain ⟨c0, c1, c2⟩ := S3.out.opAt (q := r) (x := o) (by simp)
            clear s3
            go_wp2_with fail
            refine Calls.mono (put_sep S3.out o.p o.n HO.out.n (by have := HSl.out; omega)) ?_
            rintro e w4 ⟨rfl, F4, s4⟩
            have S4 := hid s4
            clear s4
            go_wp2_with fail
            refine Calls.mono (line_sep S4.out p (by have := HPl.out; omega)) ?_
            rintro e w5 ⟨v5, rfl, s5⟩
            rw [HLp.out] at s5
            obtain ⟨ao5, cap5, ev⟩ := s5.listIs (v := v5) (A := A) (by simp)
            subst ev
            have S5 := hid s5
            clear s5
            go_wp2_with fail
            go_loopw [15] (fun i wr => ∃ j : Nat, j ≤ A.length ∧ i = .int .i64 j ∧ Sep w r wr [quT q F4 (putS S o.p o.n), lstI (.slice ao5 A.length cap5) A, lstI (.slice ao3 A.length cap3) A, blk r (objO o)]) (fun i _ => A.length - (intOf i).toNat)
            case atStart => exact ⟨0, Nat.zero_le _, rfl, S5.out⟩
            case round =>
              clear S5
              obtain ⟨j, hj, rfl, s6⟩ := hrel
              have S6 := hid s6
              clear s6
              by_cases hlt : j < A.length
              · obtain ⟨g5, rfl, d5⟩ := S6.out.listAt (ao := ao5) (n := A.length) (cap := cap5) (A := A) (by simp) (List.getElem?_eq_getElem hlt)
                obtain ⟨g3, rfl, d3⟩ := S6.out.listAt (ao := ao3) (n := A.length) (cap := cap3) (A := A) (by simp) (List.getElem?_eq_getElem hlt)
                generalize hy : A[j] = y at *
                clear hy
                have hA2 := HA.out
                generalize hm : A.length = m at *
                have hltz : (j : Int) < (m : Int) := by omega
                go_wp2_with fail
                go_quiet (fail)
                go_wp2
                go_round
                case rel => exact ⟨j + 1, by omega, by go_num, S6.out.drewN _⟩
                case measure => simp [intOf]; omega
              · obtain rfl : j = A.length := by omega
                generalize hm : A.length = m at *
                go_wp2_with fail
                have HTl : Hid ((turnS (putS S o.p o.n)).length ≤ 41) := Nat.le_trans (turn_len S6.out.good) HPl.out
                obtain ⟨t1, y, t2, t3, t4, t5, t6, t7⟩ := turned S6.out.good (put_mem (q := o.p) (n := o.n) HE.out.2.2.2.2.2)
                have HY := hid (And.intro t1 (And.intro t2 (And.intro t3 (And.intro t4 (And.intro t5 t6)))))
                have hge : (x.p : Int) ≤ (y.p : Int) := by omega
                clear t1 t2 t3 t4 t5 t6 t7
                refine Calls.mono (turn_is S6.out HT.out (by have := HPl.out; omega) HY.out.1 rfl) ?_
                rintro e w7 ⟨rfl, F7, s7⟩
                have S7 := hid s7
                clear s7
                go_wp2_with fail
                refine Calls.mono (next_is S7.out HT.out HY.out.2.1 HY.out.2.2.1) ?_
                rintro e w8 ⟨rfl, s8⟩
                have S8 := hid s8
                clear s8
                go_wp2_with fail
                refine Calls.mono (where_is S8.out HY.out.2.2.2.2.2 HY.out.2.2.2.1 HY.out.2.2.2.2.1) ?_
                rintro e _ ⟨rfl, rfl⟩
                go_wp2_with fail
                refine Calls.mono (put_is S8.out (p := 300) (n := 1) (by unfold I64; omega) (by have := HTl.out; omega) (HP3.out _).1 (HP3.out _).2) ?_
                rintro e w10 ⟨rfl, F10, s10⟩
                have S10 := hid s10
                clear s10
                go_wp2_with fail
                refine Calls.mono (fixed_sep S10.out HT.out) ?_
                rintro e w11 ⟨rfl, s11⟩
                have S11 := hid s11
                clear s11
                go_wp2
                go_ret
                exact ⟨rfl, by rw [HR.out]; exact S11.out.low⟩
open Go.ChangeShapes Go.WideShapes Go.ChangeAt Go.RowKit Go.Joins

/-! ### From the walk to the statement -/
theorem contract (H : Type) (enc : TypeId × Value → H) (W : World) (base : Nat) (args : Array Value) (ds gs : List (DataW H)) (before : List MemPlace)
    (hval : ∀ (j : Nat) t v, Tryd.f3.params[j]? = some t → args[j]? = some v → Value.okWide Tryd.prog W .any base t v)
    (hW : DataW.Whole enc Tryd.prog Tryd.f3.params.toList Rows.readyLinesSpec.vars false W args.toList ds gs before) (hL : laidMetH Tryd.prog Rows.readyLinesRow.laid W) :
    Calls Tryd.prog 3 args W fun e W' => ∃ v, e = .returned v ∧ Rows.readyLinesSpec.post enc Tryd.prog Tryd.f3 false true false false W args v W' := by
  have hW' := hW
  obtain ⟨p, q, hA0, hV, rfl, hfz, hnd⟩ := hW
  have hA : DataW.TrodAll enc Tryd.prog W 0 (fun _ => true) true Tryd.f3.params.toList args.toList ds p := hA0
  rw [Tryd.params3] at hA hval
  obtain ⟨v0, vs0, d0, ds0, p0, q0, hargs, rfl, rfl, h0, r0⟩ := trodAll_cons hA
  obtain ⟨v1, vs1, d1, ds1, p1, q1, rfl, rfl, rfl, h1, r1⟩ := trodAll_cons r0
  obtain ⟨v2, vs2, d2, ds2, p2, q2, rfl, rfl, rfl, h2, r2⟩ := trodAll_cons r1
  obtain ⟨rfl, rfl, rfl⟩ := trodAll_nil r2
  obtain rfl : args = #[v0, v1, v2] := by cases args; simp_all
  obtain ⟨rfl, rfl⟩ := trodVars_none hV
  have k0 := h0
  have lt0 : ∀ x ∈ p0, x.block < W.heap.size := by obtain ⟨m, hm⟩ := k0; exact DataW.trod_lt m _ _ _ hm
  have k1 := h1
  have lt1 : ∀ x ∈ p1, x.block < W.heap.size := by obtain ⟨m, hm⟩ := k1; exact DataW.trod_lt m _ _ _ hm
  have k2 := h2
  have lt2 : ∀ x ∈ p2, x.block < W.heap.size := by obtain ⟨m, hm⟩ := k2; exact DataW.trod_lt m _ _ _ hm
  obtain ⟨a0, l0, c0, rfl, t0, s0⟩ := open_ops (hval 0 22 v0 rfl rfl) h0
  obtain ⟨a1, rfl, w1⟩ := open_op (hval 1 24 v1 rfl rfl) h1
  obtain ⟨a2, rfl, _, _, w2⟩ := open_int Tryd.underlying3 (hval 2 3 v2 rfl rfl) h2
  clear hA0
  refine (walk a0 l0 c0 a1 a2 W (table hL) t0 s0 w1 (bounds_i64 w2)).mono fun e W' ⟨he, bel⟩ => ?_
  subst he
  exact ⟨_, rfl, _, _, _, [], _, [], hW', trodAll_mk1 (shut_bool Tryd.underlying4 _), (trodAll_cons_mk (Below.trod laidOut (by kernel_rfl) (of_decide_eq_true (by kernel_rfl)) k0 bel lt0) (trodAll_cons_mk (Below.trod laidOut (by kernel_rfl) (of_decide_eq_true (by kernel_rfl)) k1 bel lt1) (trodAll_cons_mk (Below.trod laidOut (by kernel_rfl) (of_decide_eq_true (by kernel_rfl)) k2 bel lt2) trodAll_mk0))), rfl, bel.frame _, fun h => by cases h⟩

theorem laid_met (os : Os) : laidMet Tryd.prog Rows.readyLinesRow.laid ((World.doorLaid Tryd.prog 40 os).forCall (fun _ _ => 0) ⟨#[], #[.slice none 0 0, .agg #[.int .i64 0, .int .i64 0, .int .i64 0], .int .i64 0], []⟩).memory :=
  laidMet_of_run' 8 (by kernel_rfl) (by kernel_rfl)
theorem reads (os : Os) {H : Type} (enc : TypeId × Value → H) : ∃ places, DataW.whole enc Tryd.prog ((World.doorLaid Tryd.prog 40 os).forCall (fun _ _ => 0) ⟨#[], #[.slice none 0 0, .agg #[.int .i64 0, .int .i64 0, .int .i64 0], .int .i64 0], []⟩).memory Tryd.f3.params.toList Rows.readyLinesSpec.vars false (#[.slice none 0 0, .agg #[.int .i64 0, .int .i64 0, .int .i64 0], .int .i64 0] : Array Value).toList 8 = some ([.nil, .agg [.lit (.int .i64 0), .lit (.int .i64 0), .lit (.int .i64 0)], .lit (.int .i64 0)], [], places) :=
  ⟨[], by kernel_rfl⟩
set_option maxRecDepth 100000 in
theorem lifted (os : Os) (started : os.Started) (H : Type) (enc : TypeId × Value → H) (F : Stop.Interp) :
    ReturnsInHanded {} Tryd.checked os 3 .any ((OpenSpec.ofChange Rows.readyLinesSpec).preRow enc Tryd.prog Tryd.f3 Rows.readyLinesRow.domain false Rows.readyLinesRow.laid) (((OpenSpec.ofChange Rows.readyLinesSpec).at F).post enc Tryd.prog Tryd.f3 false true false false) := by
  obtain ⟨places, hx⟩ := reads os enc
  refine returnsInHanded_of_row (C := Tryd.checked) (s := OpenSpec.ofChange Rows.readyLinesSpec) own started (by kernel_rfl) Tryd.func3
    (witness_row_at (enc := enc) (C := Tryd.checked) false (World.doorLaid Tryd.prog 40 os) #[.slice none 0 0, .agg #[.int .i64 0, .int .i64 0, .int .i64 0], .int .i64 0] rfl (by kernel_rfl) (by kernel_rfl) (by kernel_rfl)
      (OpenSpec.preRow_of_cond 8 hx (by kernel_rfl) (fun k hk => by cases hk) (by kernel_rfl) (laid_met os))) ?_
  intro W base args ds gs before hval hW _ _ _ hL _ _
  exact contract H enc W base args ds gs before hval hW hL
theorem said : Rows.ReadyLinesSaid :=
  OpenClaim.holds_of_cond 3 Tryd.f3 rfl rfl rfl rfl rfl rfl rfl ⟨rfl, rfl, rfl, rfl, rfl⟩ rfl rfl rfl rfl rfl (by kernel_rfl) Tryd.func3 (by kernel_rfl)
    (of_decide_eq_true (by kernel_rfl)) (by unfold Func.isWrapper; first | (rw [if_pos (by decide +kernel)]; kernel_rfl) | (rw [if_neg (by decide +kernel)]; exact ⟨rfl, rfl⟩))
    (fun os started H enc _ F => by rw [OpenClaim.pre_eq_preRow]; exact lifted os started H enc F)
theorem plain (f : FuncId) (fn : Func) (hf : Tryd.pinned.checked.prog.funcNamed "buttress/buttresslaw09.ReadyLines" = some f) (hfn : Tryd.pinned.checked.prog.funcs[f]? = some fn) :
    false = Tryd.pinned.checked.prog.looks [] ∧ ∀ (j : Nat) t, fn.params[j]? = some t → Tryd.pinned.checked.prog.wantsStandIn t = false := by
  obtain rfl : f = 3 := Option.some.inj ((show Tryd.prog.funcNamed "buttress/buttresslaw09.ReadyLines" = some 3 by kernel_rfl).symm.trans hf) |>.symm
  obtain rfl : fn = Tryd.f3 := (Option.some.inj (Tryd.func3.symm.trans hfn)).symm
  refine ⟨by kernel_rfl, fun j t ht => ?_⟩
  rw [Tryd.params3] at ht
  have hm : t ∈ [22, 24, 3] := by simpa using Array.mem_of_getElem? ht
  have hall : ([22, 24, 3].all fun u => !Tryd.prog.wantsStandIn u) = true := by kernel_rfl
  exact (show Tryd.prog.wantsStandIn t = false by simpa using List.all_eq_true.1 hall t hm)
end Go.Proofs.YtnjmjhmngjodcabDoor.readyLines
namespace Go.Proofs.YtnjmjhmngjodcabDoor
/-- THE CARD. -/
theorem readyLines_card : Rows.ReadyLinesCardSaid :=
  Claim7.holds_tied_plain_at .later [] _ _ _ _ readyLines.said (fun _ h => by cases h) (by kernel_rfl) (fun _ h => by cases h) readyLines_row_tie rfl ⟨rfl, rfl⟩ (by kernel_rfl) rfl readyLines.plain (by kernel_rfl)
#print axioms readyLines_card
end Go.Proofs.YtnjmjhmngjodcabDoor

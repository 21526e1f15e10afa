/-
  ReadyTakes: who is taken out stands in no line, and can be put in again, behind all; all others stand as they stood; the variable words.halves starts as the program's text lays it (the card ties it).
-/
import Derived.Test.YtnjmjhmngjodcaaDoorQNums
namespace Go.Proofs.YtnjmjhmngjodcaaDoor.readyTakes
open Go.RowKit Go.Deep Go.Shelf
theorem line_some {S : St} (g : Good S) {x : In} (hx : x ∈ S) : lineI S (x.p : Int) = lineN S x.p := by
  have := (g.fit x hx).1
  unfold lineI
  rw [if_pos (by omega), Int.toNat_natCast]
set_option maxHeartbeats 4000000 in
set_option maxRecDepth 100000 in
theorem walk (ao : Option Addr) (X : List Oc) (cap : Nat) (n : Int) (w : World) (ht : Tab w) (hX : Ops w ao X) (_hxl : X.length ≤ 9223372036854775807) (hn : I64 n) :
    Calls Tryd.prog 7 #[.slice ao X.length cap, .int .i64 n] w fun e w' => e = .returned (.bool true) ∧ Below w.heap.size w w' := by
  have HT := hid (Sep.tabs ht)
  clear ht
  have HX := hid hX
  have HI := hid hn
  clear hX hn
  go_enter Tryd.func7, Tryd.ntmps7
  go_wp2_with fail
  refine Calls.mono (new_sep (sep_nil w)) ?_
  rintro e w1 ⟨q, F, rfl, s1⟩
  have S1 := hid s1
  clear s1
  generalize hr : w.heap.size = r at *
  have HR := hid hr
  clear hr
  go_wp2_with fail
  go_loopw [6] (fun i wr => ∃ (k : Nat) (F : Nat → Prop) (S : St), k ≤ 40 ∧ i = .int .i64 k ∧ S.length ≤ k ∧ Sep w r wr [quT q F S]) (fun i _ => 40 - (intOf i).toNat)
  case atStart => exact ⟨0, F, [], by omega, rfl, by simp, S1.out⟩
  case round =>
    clear S1
    obtain ⟨k, G, S, hk, rfl, hS, s1⟩ := hrel
    have S1 := hid s1
    clear s1
    by_cases hgo : k < X.length ∧ k < 40
    · obtain ⟨hlt, h40⟩ := hgo
      obtain ⟨fx, b, a, rfl, c0, c1, c2⟩ := Ops.at (SeeK.below HX.out S1.out.low (by rw [HR.out]; exact Nat.le_refl _)) (List.getElem?_eq_getElem hlt)
      generalize hx : X[k] = x at *
      have HF := hid fx
      have HSl := hid hS
      clear fx hx hS
      generalize hn : X.length = n at *
      have hltz : (k : Int) < (n : Int) := by omega
      have h40z : (k : Int) < 40 := by omega
      go_wp2_with fail
      go_region_with (go_at_call 10; refine Calls.mono (put_sep S1.out.drew _ _ HF.out.n (by have := HSl.out; omega)) ?_; rintro e w2 ⟨rfl, F2, s2⟩)
      all_goals
        go_wp2
        go_round
        case rel => exact ⟨k + 1, F2, _, by omega, by go_num, by have := put_len S x.p x.n; have := HSl.out; omega, s2⟩
        case measure => simp [intOf]; omega
    · have hex : (¬ ((k : Int) < (X.length : Int))) ∨ ((k : Int) < (X.length : Int) ∧ ¬ ((k : Int) < 40)) := by omega
      have HSl : Hid (S.length ≤ 40) := (Nat.le_trans hS hk)
      clear hgo hS
      generalize hn : X.length = nX at *
      rcases hex with h | ⟨h, h2⟩
      all_goals
        go_wp2_with fail
        have HG := hid S1.out.good
        rcases wh_cases S n with ⟨e1, e2, e3⟩ | ⟨x, hx, hxn, e1, e2, e3⟩
        · have HE := hid (And.intro e1 e3)
          clear e1 e2 e3
          refine Calls.mono (where_is S1.out HI.out HE.out.2 HE.out.1) ?_
          rintro e _ ⟨rfl, rfl⟩
          go_wp2_with fail
          refine Calls.mono (line_sep S1.out 0 (by have := HSl.out; omega)) ?_
          rintro e w2 ⟨v2, rfl, s2⟩
          have S2 := hid s2
          clear s2
          go_wp2_with fail
          refine Calls.mono (take_is S2.out (e0 := 91) (T := S) HI.out (by have := HSl.out; omega) (by simp [takeE, HE.out.1]) (take_none HE.out.1)) ?_
          rintro e w3 ⟨rfl, F3, s3⟩
          have S3 := hid s3
          clear s3
          go_wp2_with fail
          refine Calls.mono (fixed_sep S3.out HT.out) ?_
          rintro e w4 ⟨rfl, s4⟩
          have S4 := hid s4
          clear s4
          go_wp2
          go_ret
          exact ⟨rfl, by rw [HR.out]; exact S4.out.low⟩
        · have HE := hid (And.intro e1 (And.intro e3 (And.intro hx hxn)))
          clear e1 e2 e3 hx hxn
          refine Calls.mono (where_is S1.out HI.out HE.out.2.1 HE.out.1) ?_
          rintro e _ ⟨rfl, rfl⟩
          go_wp2_with fail
          refine Calls.mono (line_sep S1.out (x.p : Int) (by have := HSl.out; omega)) ?_
          rintro e w2 ⟨v2, rfl, s2⟩
          rw [line_some HG.out HE.out.2.2.1] at s2
          have S2 := hid s2
          clear s2
          go_wp2_with fail
          refine Calls.mono (take_is S2.out (e0 := 0) (T := takeS S n) HI.out (by have := HSl.out; omega) (by simp [takeE, HE.out.1]) rfl) ?_
          rintro e w3 ⟨rfl, F3, s3⟩
          have S3 := hid s3
          clear s3
          go_wp2_with fail
          obtain ⟨ao2, cap2, ev⟩ := S3.out.listIs (v := v2) (A := lineN S x.p) (by simp)
          subst ev
          have S4 := hid S3.out.madeI
          have HLn : Hid ((lineN S x.p).length ≤ 40) := Nat.le_trans (line_len S x.p) HSl.out
          generalize w3.heap.size = g4 at *
          generalize hL : lineN S x.p = L at *
          have HL := hid hL
          clear hL
          go_loopw [11, 12] (fun s11 s12 wr => ∃ (i : Nat) (u : Value), i ≤ L.length ∧ s12 = .int .i64 i ∧ s11 = u ∧ Sep w r wr [lstI u ((L.take i).filter fun y => y != n), quT q F3 (takeS S n), lstI (.slice ao2 L.length cap2) L]) (fun _ s12 _ => L.length - (intOf s12).toNat)
          case atStart => exact ⟨0, _, Nat.zero_le _, rfl, rfl, S4.out⟩
          case round =>
            clear S4
            obtain ⟨i, u, hi, rfl, rfl, s5⟩ := hrel
            have S5 := hid s5
            clear s5
            by_cases hlt : i < L.length
            · obtain ⟨g, rfl, c5⟩ := S5.out.listAt (ao := ao2) (n := L.length) (cap := cap2) (A := L) (by simp) (List.getElem?_eq_getElem hlt)
              have HTk := hid (List.take_succ_eq_append_getElem hlt)
              generalize hy : L[i] = y at *
              have hltz : (i : Int) < (L.length : Int) := by omega
              have HLn2 := HLn.out
              clear hy
              by_cases hyn : y = n
              · subst hyn
                generalize hm : L.length = m at *
                go_wp2
                go_round
                case rel => exact ⟨i + 1, _, by omega, by go_num, rfl, by rw [HTk.out, List.filter_append]; simpa using S5.out⟩
                case measure => simp [intOf]; omega
              · have hne : (y == n) = false := by simpa using hyn
                have hne2 : (y != n) = true := by simpa using hyn
                obtain ⟨v6, w6, r6, s6⟩ := S5.out.more y (by have := List.length_filter_le (fun y => y != n) (L.take i); rw [List.length_take] at this; omega)
                have S6 := hid s6
                have R6 := hid r6
                clear s6 r6
                generalize hm : L.length = m at *
                go_wp2_with (at_builtin; refine wpList_append_run rfl _ _ _ _ rfl _ _ _ _ rfl rfl R6.out ?_)
                go_round
                case rel => exact ⟨i + 1, _, by omega, by go_num, rfl, by rw [HTk.out, List.filter_append]; simpa [hyn] using S6.out⟩
                case measure => simp [intOf]; omega
            · obtain rfl : i = L.length := by omega
              have S6 := hid S5.out.swap
              rw [List.take_length] at S6
              clear S5
              have HFl := hid (show lineI (takeS S n) (x.p : Int) = L.filter (fun y => y != n) by
                have := (HG.out.fit x HE.out.2.2.1).1
                unfold lineI
                rw [if_pos (by omega), Int.toNat_natCast, line_take, HL.out])
              have HFn : Hid ((L.filter fun y => y != n).length ≤ 40) := Nat.le_trans (List.length_filter_le _ _) HLn.out
              generalize (L.filter fun y => y != n) = E at *
              have HTl : Hid ((takeS S n).length ≤ 40) := Nat.le_trans (takeS_len S n) HSl.out
              have HWt : Hid (whF (takeS S n) n = none) := by
                show whF (takeS S n) n = none
                rw [whF_take HG.out, if_pos rfl]
              generalize hm : L.length = m at *
              have hmm : ¬ ((m : Int) < (m : Int)) := by omega
              go_wp2_with fail
              refine Calls.mono (where_is S6.out HI.out (p := 0) (z := false) (by simp [whI, HWt.out]) (by simp [whB, HWt.out])) ?_
              rintro e _ ⟨rfl, rfl⟩
              go_wp2_with fail
              refine Calls.mono (line_sep S6.out (x.p : Int) (by have := HTl.out; omega)) ?_
              rintro e w7 ⟨v7, rfl, s7⟩
              rw [HFl.out] at s7
              have S7 := hid s7
              clear s7
              go_wp2_with fail
              have HP0 : Hid (putE (takeS S n) (x.p : Int) n = 0 ∧ putS (takeS S n) (x.p : Int) n = takeS S n ++ [⟨x.p, n⟩]) := by
                have h1 := (HG.out.fit x HE.out.2.2.1).1
                have h2 : putE (takeS S n) (x.p : Int) n = 0 := by simp [putE, whB, HWt.out]; omega
                exact ⟨h2, by simp [putS, h2]⟩
              refine Calls.mono (put_is S7.out HI.out (by have := HTl.out; omega) HP0.out.1 HP0.out.2) ?_
              rintro e w8 ⟨rfl, F8, s8⟩
              have S8 := hid s8.madeI
              clear s8
              obtain ⟨v9, w9, r9, s9⟩ := S8.out.onto (v := u11) (B := E) (by simp) (by have := HFn.out; simp; omega)
              have R9 := hid r9
              obtain ⟨v10, w10, r10, s10⟩ := s9.more n (by have := HFn.out; simp; omega)
              have R10 := hid r10
              have S10 := hid s10.swap
              clear r9 r10 s9 s10
              go_wp2_with (first | (at_builtin; (with_reducible refine wpList_append_run rfl (.tmp 95) (.tmp 96) 38 38 rfl (.slice (some ⟨w8.heap.size, 0, none⟩) 0 0) u11 v9 w9 rfl rfl R9.out ?_)) | (at_builtin; (with_reducible refine wpList_append_run rfl (.tmp 98) (.tmp 100) 38 38 rfl v9 (.slice (some ⟨w9.heap.size, 0, none⟩) 1 1) v10 w10 rfl rfl R10.out ?_)) | fail)
              clear R9 R10
              refine Calls.mono (nums_is S10.out (u := v7) (v := u11) (A := E) (B := E) (by simp) (by simp) (by have := HFn.out; omega) rfl) ?_
              rintro e w11 ⟨rfl, s11⟩
              have S11 := hid s11
              clear s11
              go_wp2_with fail
              refine Calls.mono (line_sep S11.out (x.p : Int) (by have := HTl.out; simp; omega)) ?_
              rintro e w12 ⟨v12, rfl, s12⟩
              have HLq := hid (show lineI (takeS S n ++ [⟨x.p, n⟩]) (x.p : Int) = [] ++ E ++ [n] by
                have h1 := (HG.out.fit x HE.out.2.2.1).1
                have h2 := HFl.out
                unfold lineI at h2 ⊢
                rw [if_pos (by omega), Int.toNat_natCast] at h2 ⊢
                rw [line_add, if_pos rfl, h2]
                rfl)
              rw [HLq.out] at s12
              have S12 := hid s12
              clear s12
              go_wp2_with fail
              refine Calls.mono (nums_is S12.out (u := v12) (v := v10) (A := [] ++ E ++ [n]) (B := [] ++ E ++ [n]) (by simp) (by simp) (by have := HFn.out; simp; omega) rfl) ?_
              rintro e w13 ⟨rfl, s13⟩
              have S13 := hid s13
              clear s13
              go_wp2_with fail
              refine Calls.mono (fixed_sep S13.out HT.out) ?_
              rintro e w14 ⟨rfl, s14⟩
              have S14 := hid s14
              clear s14
              go_wp2
              go_ret
              exact ⟨rfl, by rw [HR.out]; exact S14.out.low⟩
open Go.ChangeShapes Go.WideShapes Go.ChangeAt Go.RowKit Go.Joins

/-! ### From the walk to the statement -/
theorem contract (H : Type) (enc : TypeId × Value → H) (W : World) (base : Nat) (args : Array Value) (ds gs : List (DataW H)) (before : List MemPlace)
    (hval : ∀ (j : Nat) t v, Tryd.f7.params[j]? = some t → args[j]? = some v → Value.okWide Tryd.prog W .any base t v)
    (hW : DataW.Whole enc Tryd.prog Tryd.f7.params.toList Rows.readyTakesSpec.vars false W args.toList ds gs before) (hL : laidMetH Tryd.prog Rows.readyTakesRow.laid W) :
    Calls Tryd.prog 7 args W fun e W' => ∃ v, e = .returned v ∧ Rows.readyTakesSpec.post enc Tryd.prog Tryd.f7 false true false false W args v W' := by
  have hW' := hW
  obtain ⟨p, q, hA0, hV, rfl, hfz, hnd⟩ := hW
  have hA : DataW.TrodAll enc Tryd.prog W 0 (fun _ => true) true Tryd.f7.params.toList args.toList ds p := hA0
  rw [Tryd.params7] at hA hval
  obtain ⟨v0, vs0, d0, ds0, p0, q0, hargs, rfl, rfl, h0, r0⟩ := trodAll_cons hA
  obtain ⟨v1, vs1, d1, ds1, p1, q1, rfl, rfl, rfl, h1, r1⟩ := trodAll_cons r0
  obtain ⟨rfl, rfl, rfl⟩ := trodAll_nil r1
  obtain rfl : args = #[v0, v1] := by cases args; simp_all
  obtain ⟨rfl, rfl⟩ := trodVars_none hV
  have k0 := h0
  have lt0 : ∀ x ∈ p0, x.block < W.heap.size := by obtain ⟨m, hm⟩ := k0; exact DataW.trod_lt m _ _ _ hm
  have k1 := h1
  have lt1 : ∀ x ∈ p1, x.block < W.heap.size := by obtain ⟨m, hm⟩ := k1; exact DataW.trod_lt m _ _ _ hm
  obtain ⟨a0, l0, c0, rfl, t0, s0⟩ := open_ops (hval 0 22 v0 rfl rfl) h0
  obtain ⟨a1, rfl, _, _, w1⟩ := open_int Tryd.underlying3 (hval 1 3 v1 rfl rfl) h1
  clear hA0
  refine (walk a0 l0 c0 a1 W (table hL) t0 s0 (bounds_i64 w1)).mono fun e W' ⟨he, bel⟩ => ?_
  subst he
  exact ⟨_, rfl, _, _, _, [], _, [], hW', trodAll_mk1 (shut_bool Tryd.underlying4 _), (trodAll_cons_mk (Below.trod laidOut (by kernel_rfl) (of_decide_eq_true (by kernel_rfl)) k0 bel lt0) (trodAll_cons_mk (Below.trod laidOut (by kernel_rfl) (of_decide_eq_true (by kernel_rfl)) k1 bel lt1) trodAll_mk0)), rfl, bel.frame _, fun h => by cases h⟩

theorem laid_met (os : Os) : laidMet Tryd.prog Rows.readyTakesRow.laid ((World.doorLaid Tryd.prog 40 os).forCall (fun _ _ => 0) ⟨#[], #[.slice none 0 0, .int .i64 0], []⟩).memory :=
  laidMet_of_run' 8 (by kernel_rfl) (by kernel_rfl)
theorem reads (os : Os) {H : Type} (enc : TypeId × Value → H) : ∃ places, DataW.whole enc Tryd.prog ((World.doorLaid Tryd.prog 40 os).forCall (fun _ _ => 0) ⟨#[], #[.slice none 0 0, .int .i64 0], []⟩).memory Tryd.f7.params.toList Rows.readyTakesSpec.vars false (#[.slice none 0 0, .int .i64 0] : Array Value).toList 8 = some ([.nil, .lit (.int .i64 0)], [], places) :=
  ⟨[], by kernel_rfl⟩
set_option maxRecDepth 100000 in
theorem lifted (os : Os) (started : os.Started) (H : Type) (enc : TypeId × Value → H) (F : Stop.Interp) :
    ReturnsInHanded {} Tryd.checked os 7 .any ((OpenSpec.ofChange Rows.readyTakesSpec).preRow enc Tryd.prog Tryd.f7 Rows.readyTakesRow.domain false Rows.readyTakesRow.laid) (((OpenSpec.ofChange Rows.readyTakesSpec).at F).post enc Tryd.prog Tryd.f7 false true false false) := by
  obtain ⟨places, hx⟩ := reads os enc
  refine returnsInHanded_of_row (C := Tryd.checked) (s := OpenSpec.ofChange Rows.readyTakesSpec) own started (by kernel_rfl) Tryd.func7
    (witness_row_at (enc := enc) (C := Tryd.checked) false (World.doorLaid Tryd.prog 40 os) #[.slice none 0 0, .int .i64 0] rfl (by kernel_rfl) (by kernel_rfl) (by kernel_rfl)
      (OpenSpec.preRow_of_cond 8 hx (by kernel_rfl) (fun k hk => by cases hk) (by kernel_rfl) (laid_met os))) ?_
  intro W base args ds gs before hval hW _ _ _ hL _ _
  exact contract H enc W base args ds gs before hval hW hL
theorem said : Rows.ReadyTakesSaid :=
  OpenClaim.holds_of_cond 7 Tryd.f7 rfl rfl rfl rfl rfl rfl rfl ⟨rfl, rfl, rfl, rfl, rfl⟩ rfl rfl rfl rfl rfl (by kernel_rfl) Tryd.func7 (by kernel_rfl)
    (of_decide_eq_true (by kernel_rfl)) (by unfold Func.isWrapper; first | (rw [if_pos (by decide +kernel)]; kernel_rfl) | (rw [if_neg (by decide +kernel)]; exact ⟨rfl, rfl⟩))
    (fun os started H enc _ F => by rw [OpenClaim.pre_eq_preRow]; exact lifted os started H enc F)
theorem plain (f : FuncId) (fn : Func) (hf : Tryd.pinned.checked.prog.funcNamed "buttress/buttresslaw09.ReadyTakes" = some f) (hfn : Tryd.pinned.checked.prog.funcs[f]? = some fn) :
    false = Tryd.pinned.checked.prog.looks [] ∧ ∀ (j : Nat) t, fn.params[j]? = some t → Tryd.pinned.checked.prog.wantsStandIn t = false := by
  obtain rfl : f = 7 := Option.some.inj ((show Tryd.prog.funcNamed "buttress/buttresslaw09.ReadyTakes" = some 7 by kernel_rfl).symm.trans hf) |>.symm
  obtain rfl : fn = Tryd.f7 := (Option.some.inj (Tryd.func7.symm.trans hfn)).symm
  refine ⟨by kernel_rfl, fun j t ht => ?_⟩
  rw [Tryd.params7] at ht
  have hm : t ∈ [22, 3] := by simpa using Array.mem_of_getElem? ht
  have hall : ([22, 3].all fun u => !Tryd.prog.wantsStandIn u) = true := by kernel_rfl
  exact (show Tryd.prog.wantsStandIn t = false by simpa using List.all_eq_true.1 hall t hm)
end Go.Proofs.YtnjmjhmngjodcaaDoor.readyTakes
namespace Go.Proofs.YtnjmjhmngjodcaaDoor
/-- THE CARD. -/
theorem readyTakes_card : Rows.ReadyTakesCardSaid :=
  Claim7.holds_tied_plain_at .later [] _ _ _ _ readyTakes.said (fun _ h => by cases h) (by kernel_rfl) (fun _ h => by cases h) readyTakes_row_tie rfl ⟨rfl, rfl⟩ (by kernel_rfl) rfl readyTakes.plain (by kernel_rfl)
#print axioms readyTakes_card
end Go.Proofs.YtnjmjhmngjodcaaDoor

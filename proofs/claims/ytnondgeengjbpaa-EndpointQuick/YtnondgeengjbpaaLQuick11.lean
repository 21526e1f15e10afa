/-
  EndpointQuick: who does not wait leaves all as it is, unless somebody waited for it; no condition.
-/
import Derived.Test.YtnondgeengjbpaaJLaw
import Derived.Deep.Cut
import Derived.Deep.CutRange
namespace Go.Proofs.Ytnondgeengjbpaa.endpointQuick
open Go.RowKit Go.Deep Go.Shelf
/-- Those that wait receive, all of them. -/
def Rc (S : St) : Prop := ∀ x ∈ S, x.s = false
theorem rc_recv {S : St} (h : Rc S) (n : Int) (z : Bool) : Rc (recvS S n z) := by
  unfold recvS
  have h0 : hasB S true = false := by
    match S, h with
    | [], _ => rfl
    | x :: T, h => simp [hasB, h x (by simp)]
  rw [h0]
  split
  · exact h
  · simp only [Bool.false_eq_true, if_false]
    split
    · intro x hx
      rcases List.mem_append.1 hx with hx | hx
      · exact h x hx
      · obtain rfl : x = _ := by simpa using hx
        rfl
    · exact h
theorem rc_has {S : St} (h : Rc S) : hasB S true = false := by
  match S, h with
  | [], _ => rfl
  | x :: T, h => simp [hasB, h x (by simp)]
theorem quick_recv {S : St} (h : Rc S) (n : Int) : recvM S n = mt0 ∧ recvS S n false = S := by
  have h0 := rc_has h
  refine ⟨?_, by simp [recvS, h0]⟩
  unfold recvM
  match S, h with
  | [], _ => simp
  | x :: T, h => simp [h x (by simp)]
theorem quick_send {S : St} (h : Rc S) (n : Int) (m : Ms) (ht : thB S n = false) : (S = [] ∧ sendM S n m = mt0 ∧ sendS S n m false = []) ∨ ∃ x T, S = x :: T ∧ sendM S n m = ⟨true, n, x.n, m⟩ ∧ sendS S n m false = T := by
  match S, h, ht with
  | [], _, ht => exact .inl ⟨rfl, by simp [sendM], by simp [sendS, hasB]⟩
  | x :: T, h, ht =>
    have hx := h x (by simp)
    exact .inr ⟨x, T, rfl, by simp [sendM, ht, hx], by simp [sendS, ht, hasB, hx]⟩
set_option maxHeartbeats 8000000 in
set_option maxRecDepth 100000 in
theorem walk (ao : Option Addr) (X : List Int) (cap : Nat) (n : Int) (m : Ms) (w : World) (hX : Ints w ao X) (_hxl : X.length ≤ 9223372036854775807) (_hn : -9223372036854775808 ≤ n ∧ n ≤ 9223372036854775807) (_hm : m.Fits) :
    Calls Try.prog 7 #[.slice ao X.length cap, .int .i64 n, encM m] w fun e w' => e = .returned (.bool true) ∧ Below w.heap.size w w' := by
  have HX := hid hX
  unfold encM
  clear hX _hm _hn
  go_enter Try.func7, Try.ntmps7
  go_wp2_with fail
  refine Calls.mono (new_sep ((sep_nil w).box (objM m))) ?_
  rintro e w1 ⟨p, v, rfl, s1⟩
  have S1 := hid s1
  clear s1
  generalize hr : w.heap.size = r at *
  have HR := hid hr
  clear hr
  go_wp2_with fail
  go_loopw [8] (fun i wr => ∃ (k : Nat) (v : Value) (S : St), k ≤ 30 ∧ i = .int .i64 k ∧ S.length ≤ k ∧ Rc S ∧ Sep w r wr [epT p v S, blk r (objM m)]) (fun i _ => 30 - (intOf i).toNat)
  case atStart => exact ⟨0, v, [], by omega, rfl, by simp, fun x hx => by simp at hx, S1.out⟩
  case round =>
    clear S1
    obtain ⟨k, v, S, hk, rfl, hS, hrc, s1⟩ := hrel
    have S1 := hid s1
    have HC := hid hrc
    clear s1 hrc
    by_cases hgo : k < X.length ∧ k < 30
    · obtain ⟨hlt, h40⟩ := hgo
      obtain ⟨-, b, a, rfl, c0⟩ := Ints.at (SeeK.below HX.out S1.out.low (by rw [HR.out]; exact Nat.le_refl _)) (List.getElem?_eq_getElem hlt)
      generalize hx : X[k] = x at *
      have HSl := hid hS
      clear hx hS
      generalize hn : X.length = n at *
      have hltz : (k : Int) < (n : Int) := by omega
      have h40z : (k : Int) < 30 := by omega
      go_wp2_with fail
      refine Calls.mono (recv_is S1.out x true (by have := HSl.out; omega) rfl rfl rfl) ?_
      rintro e w2 ⟨rfl, v2, s2⟩
      have S2 := hid s2
      have HC2 := hid (rc_recv HC.out x true)
      have HL2 := hid (recv_len S x true)
      generalize recvM S x = x2 at *
      generalize sendE S x = e2 at *
      generalize recvS S x true = T2 at *
      clear s2 S1
      go_wp2
      go_round
      case rel => exact ⟨k + 1, v2, _, by omega, by go_num, by have := HL2.out; have := HSl.out; omega, HC2.out, S2.out⟩
      case measure => simp [intOf]; omega
    · have hex : (¬ ((k : Int) < (X.length : Int))) ∨ ((k : Int) < (X.length : Int) ∧ ¬ ((k : Int) < 30)) := by omega
      have HSl : Hid (S.length ≤ 30) := (Nat.le_trans hS hk)
      clear hgo hS
      generalize hn : X.length = nX at *
      obtain ⟨L, hL⟩ : ∃ L, waitsN S = L := ⟨_, rfl⟩
      have HL : Hid (waitsN S = L ∧ hasB S true = false ∧ L.length ≤ 1000) := ⟨hL, rc_has HC.out, by rw [← hL, waits_len]; have := HSl.out; omega⟩
      clear hL
      rcases hex with h | ⟨h, h2⟩
      all_goals
        go_wp2_with fail
        refine Calls.mono (waits_is S1.out (by have := HSl.out; omega) HL.out.1 HL.out.2.1) ?_
        rintro e w2 ⟨a2, c2, rfl, s2⟩
        have S2 := hid s2
        clear s2 S1
        obtain ⟨E, hE⟩ : ∃ E, sendE S n = E := ⟨_, rfl⟩
        have HE := hid hE
        clear hE
        go_wp2_with fail
        refine Calls.mono (recv_is (x := ⟨false, 0, 0, ⟨0, 0, 0, 0, 0, 0, false⟩⟩) S2.out n false (by have := HSl.out; omega) (quick_recv HC.out n).1 HE.out (quick_recv HC.out n).2) ?_
        rintro e w3 ⟨rfl, v3, s3⟩
        have S3 := hid (s3.box (objT mt0)).swap
        clear s3 S2
        go_wp2_with fail
        refine Calls.mono (waits_is S3.out (by have := HSl.out; omega) HL.out.1 HL.out.2.1) ?_
        rintro e w4 ⟨a4, c4, rfl, s4⟩
        obtain ⟨d0, -⟩ := (atT_of (x := mt0) (s4.each (blk w3.heap.size (objT mt0)) (by simp)).1).cells
        have S4 := hid s4
        clear s4 S3
        simp only [mt0] at d0
        generalize w3.heap.size = q3 at *
        go_wp2_with (go_at_call 17; refine Calls.mono (nums_is S4.out (A := L) (B := L) (by simp) (by simp) HL.out.2.2 rfl) ?_; rintro e w5 ⟨rfl, s5⟩; obtain ⟨m0, m1, m2, m3, m4, m5, m6⟩ := (s5.msgAt (q := r) (m := m) (by simp)).cells; have S5 := hid s5; clear s5 S4)
        cases ht : thB S n with
        | true =>
          have HT : Hid (E = 110 ∧ sendM S n m = mt0 ∧ sendS S n m false = S) := ⟨by rw [← HE.out]; simp [sendE, ht], by simp [sendM, ht], by simp [sendS, ht]⟩
          obtain ⟨rfl, -⟩ := HT.out
          clear ht
          refine Calls.mono (send_is (x := ⟨false, 0, 0, ⟨0, 0, 0, 0, 0, 0, false⟩⟩) S5.out n m false (by have := HSl.out; omega) HT.out.2.1 HE.out HT.out.2.2) ?_
          rintro e w6 ⟨rfl, v6, s6⟩
          have S6 := hid (s6.box (objT mt0)).swap
          clear s6 S5 HT
          go_wp2_with fail
          refine Calls.mono (waits_is S6.out (by have := HSl.out; omega) HL.out.1 HL.out.2.1) ?_
          rintro e w7 ⟨a7, c7, rfl, s7⟩
          have S7 := hid s7
          clear s7 S6
          generalize w6.heap.size = q6 at *
          go_wp2_with (first
            | (go_at_call 17; refine Calls.mono (nums_is S7.out (A := L) (B := L) (by simp) (by simp) HL.out.2.2 rfl) ?_; rintro e w8 ⟨rfl, s8⟩; have S8 := hid s8; clear s8)
            | (go_at_call 22; refine Calls.mono (fixed_sep S8.out) ?_; rintro e w9 ⟨rfl, s9⟩; have S9 := hid s9; clear s9))
          go_ret
          exact ⟨rfl, by rw [HR.out]; exact S9.out.low⟩
        | false =>
          have HT : Hid (E = 0) := by rw [← HE.out]; simp [sendE, ht]; exact trivial
          obtain rfl := HT.out
          have HQ := hid (quick_send HC.out n m ht)
          clear ht HT
          rcases HQ.out with ⟨rfl, hm1, hs1⟩ | ⟨x, T, rfl, hm1, hs1⟩
          · refine Calls.mono (send_is (x := ⟨false, 0, 0, ⟨0, 0, 0, 0, 0, 0, false⟩⟩) S5.out n m false (by have := HSl.out; omega) hm1 HE.out hs1) ?_
            rintro e w6 ⟨rfl, v6, s6⟩
            have S6 := hid (s6.box (objT mt0)).swap
            obtain rfl : [] = L := HL.out.1
            clear s6 S5 hm1 hs1 HQ
            go_wp2_with fail
            refine Calls.mono (waits_is (L := []) (b := false) S6.out (by decide) rfl rfl) ?_
            rintro e w7 ⟨a7, c7, rfl, s7⟩
            obtain ⟨d0, -⟩ := (atT_of (x := mt0) (s7.each (blk w6.heap.size (objT mt0)) (by simp)).1).cells
            have S7 := hid s7
            clear s7 S6
            simp only [mt0] at d0
            generalize w6.heap.size = q6 at *
            go_wp2_with (go_at_call 22; refine Calls.mono (fixed_sep S7.out) ?_; rintro e w9 ⟨rfl, s9⟩; have S9 := hid s9; clear s9)
            go_ret
            exact ⟨rfl, by rw [HR.out]; exact S9.out.low⟩
          · refine Calls.mono (send_is (x := ⟨true, n, x.n, m⟩) S5.out n m false (by have := HSl.out; omega) hm1 HE.out hs1) ?_
            rintro e w6 ⟨rfl, v6, s6⟩
            have S6 := hid (s6.box (objT ⟨true, n, x.n, m⟩)).swap
            have hL : x.n :: waitsN T = L := HL.out.1
            obtain ⟨L7, hL7⟩ : ∃ L7, waitsN T = L7 := ⟨_, rfl⟩
            rw [hL7] at hL
            have HL7 : Hid (waitsN T = L7 ∧ x.n :: L7 = L ∧ L7.length ≤ 1000) := ⟨hL7, hL, by have := HL.out.2.2; rw [← hL] at this; simp at this; omega⟩
            obtain ⟨β, hβ⟩ : ∃ β, hasB T true = β := ⟨_, rfl⟩
            have HB := hid hβ
            clear s6 S5 hm1 hs1 HQ hL hL7 hβ
            go_wp2_with fail
            refine Calls.mono (waits_is S6.out (by have := HSl.out; simp at this; omega) HL7.out.1 HB.out) ?_
            rintro e w7 ⟨a7, c7, rfl, s7⟩
            have S7 := hid s7
            obtain ⟨g2, hg2, -⟩ := s7.listAt okI (ao := a2) (n := L.length) (cap := c2) (A := L) (by simp) (k := 0) (x := x.n) (by rw [← HL7.out.2.1]; rfl)
            subst hg2
            have row : RowI w7 (.slice (some ⟨g2, 0, none⟩) L.length c2) L := (s7.each (lstI (.slice (some ⟨g2, 0, none⟩) L.length c2) L) (by simp)).1
            have hc2 := row.slice
            obtain ⟨_, _, ev, hcap, hcap2, -⟩ := hc2
            cases ev
            have HV := hid row
            have l0 := fun (p : Grw w7) => RowI.cell (Row.below row p.bel) (i := 0) (x := x.n) (by rw [← HL7.out.2.1]; rfl)
            obtain ⟨e0, e1, e2, e3, e4, e5, e6, e7, e8, e9⟩ : _ := (fun (p : Grw w7) => (atT_of (x := ⟨true, n, x.n, m⟩) ((s7.grw p).each (blk w6.heap.size (objT ⟨true, n, x.n, m⟩)) (by simp)).1).cells) |> fun f => (⟨fun p => (f p).1, fun p => (f p).2.1, fun p => (f p).2.2.1, fun p => (f p).2.2.2.1, fun p => (f p).2.2.2.2.1, fun p => (f p).2.2.2.2.2.1, fun p => (f p).2.2.2.2.2.2.1, fun p => (f p).2.2.2.2.2.2.2.1, fun p => (f p).2.2.2.2.2.2.2.2.1, fun p => (f p).2.2.2.2.2.2.2.2.2⟩ : (∀ p, _) ∧ (∀ p, _) ∧ (∀ p, _) ∧ (∀ p, _) ∧ (∀ p, _) ∧ (∀ p, _) ∧ (∀ p, _) ∧ (∀ p, _) ∧ (∀ p, _) ∧ (∀ p, _))
            have gm := fun (p : Grw w7) => ((s7.grw p).msgAt (q := r) (m := m) (by simp)).cells
            have g0 := fun p => (gm p).1
            have g1 := fun p => (gm p).2.1
            have g2' := fun p => (gm p).2.2.1
            have g3 := fun p => (gm p).2.2.2.1
            have g4 := fun p => (gm p).2.2.2.2.1
            have g5 := fun p => (gm p).2.2.2.2.2.1
            have g6 := fun p => (gm p).2.2.2.2.2.2
            have q1 := fun W => eq_met W ⟨true, n, x.n, m⟩ ⟨true, n, x.n, m⟩
            simp only [encT, decide_true] at q1
            have hLl : L.length = L7.length + 1 := by rw [← HL7.out.2.1]; rfl
            have HLl := hid hLl
            have hL1 : (1 : Int) ≤ (L.length : Int) := by omega
            have hL0 : (0 : Int) < (L.length : Int) := by omega
            have hL2 : ¬ (L.length = 0) := by omega
            have see : SeeI w7 (if c2 = 1 then some ⟨g2, 0, none⟩ else some ⟨g2, 1, none⟩) L7 := by
              by_cases hc : c2 = 1
              · have h0 : L7 = [] := List.length_eq_zero_iff.1 (by omega)
                rw [h0]
                exact see_nil _ _
              · rw [if_neg hc]
                exact RowI.seeTail (by rw [HL7.out.2.1]; exact row)
            have row7 : RowI w7 (.slice a7 L7.length c7) L7 := (s7.each (lstI (.slice a7 L7.length c7) L7) (by simp)).1
            have HN := hid (fun (p : Grw w7) => nums_see a7 (if c2 = 1 then some ⟨g2, 0, none⟩ else some ⟨g2, 1, none⟩) c7 (c2 - 1) L7 L7 p.val (RowI.see (Row.below row7 p.bel)) (see.below p.bel) HL7.out.2.2)
            have e9' : L7.length = L.length - 1 := by omega
            have HN' : Hid (∀ (p : Grw w7), Calls Try.prog 17 #[.slice a7 L7.length c7, .slice (if c2 = 1 then some ⟨g2, 0, none⟩ else some ⟨g2, 1, none⟩) (L.length - 1) (c2 - 1)] p.val fun e w' => e = .returned (.bool true) ∧ Below p.val.heap.size p.val w') := fun p => by
              have := HN.out p
              rw [decide_eq_true rfl] at this
              rw [← e9']
              exact this
            clear see row7 HN e9'
            clear s7 S6 row gm hLl m0 m1 m2 m3 m4 m5 m6
            generalize w6.heap.size = q6 at *
            generalize hnL : L.length = nL at *
            go_wp2_with fail
            have hgi : ∀ u : World, Inhabited (Grw u) := grw0
            refine wp_region_grw (by kernel_rfl) (by kernel_rfl) ?_
            repeat (go_big_quiet_step ((first | (go_at_call 17; exact grw_of (HN'.out _)) | (go_at_call 22; exact fixed_grw))))
            refine wpQuiet_nil ?_
            intro _ hw'
            obtain ⟨p9, hw''⟩ := hw'
            subst hw''
            have S9 := hid (S7.out.grw p9)
            go_wp2
            all_goals
              go_ret
              exact ⟨rfl, by rw [HR.out]; exact S9.out.low⟩
open Go.ChangeShapes Go.WideShapes Go.ChangeAt Go.RowKit Go.Joins

/-! ### From the walk to the statement -/
set_option maxRecDepth 100000 in
theorem lifted (os : Os) (started : os.Started) (H : Type) (enc : TypeId × Value → H) :
    ReturnsInHanded {} Try.checked os 7 .any (Rows.endpointQuickSpec.pre6 enc Try.prog Try.f7 Rows.endpointQuickRow.domain false) (Rows.endpointQuickSpec.post enc Try.prog Try.f7 false true false false) := by
  refine returnsInHanded_of_change (C := Try.checked) own started (by kernel_rfl) Try.func7
    (ChangeSpec.witness6 (enc := enc) (C := Try.checked) false ⟨#[], #[.slice none 0 0, .int .i64 0, .agg #[.int .i64 0, .int .u64 0, .int .u64 0, .int .u64 0, .int .u64 0, .int .u64 0, .bool false]], []⟩ 8 (by kernel_rfl) (by kernel_rfl) (by kernel_rfl) (by kernel_rfl)) ?_
  intro W base args ds gs before hval0 hW hcnd _
  have hval : ∀ (j : Nat) t v, Try.f7.params[j]? = some t → args[j]? = some v → Value.okWide Try.prog W .any base t v := hval0
  have hW' := hW
  obtain ⟨p, q, hA0, hV, rfl, hfz, hnd⟩ := hW
  have hA : DataW.TrodAll enc Try.prog W 0 (fun _ => true) true Try.f7.params.toList args.toList ds p := hA0
  rw [Try.params7] at hA hval
  obtain ⟨v0, vs0, d0, ds0, p0, q0, hargs, rfl, rfl, h0, r0⟩ := trodAll_cons hA
  obtain ⟨v1, vs1, d1, ds1, p1, q1, rfl, rfl, rfl, h1, r1⟩ := trodAll_cons r0
  obtain ⟨v2, vs2, d2, ds2, p2, q2, rfl, rfl, rfl, h2, r2⟩ := trodAll_cons r1
  obtain ⟨rfl, rfl, rfl⟩ := trodAll_nil r2
  obtain rfl : args = #[v0, v1, v2] := by cases args; simp_all
  obtain ⟨rfl, rfl⟩ := trodVars_none hV
  have k0 := h0
  have lt0 : ∀ x ∈ p0, x.block < W.heap.size := by obtain ⟨m, hm⟩ := k0; exact DataW.trod_lt m _ _ _ hm
  obtain ⟨a0, l0, c0, rfl, t0, s0⟩ := open_ints (hval 0 27 v0 rfl rfl) h0
  have k1 := h1
  have lt1 : ∀ x ∈ p1, x.block < W.heap.size := by obtain ⟨m, hm⟩ := k1; exact DataW.trod_lt m _ _ _ hm
  obtain ⟨a1, rfl, _, _, w1⟩ := open_int Try.underlying3 (hval 1 3 v1 rfl rfl) h1
  have k2 := h2
  have lt2 : ∀ x ∈ p2, x.block < W.heap.size := by obtain ⟨m, hm⟩ := k2; exact DataW.trod_lt m _ _ _ hm
  obtain ⟨a2, rfl, w2⟩ := open_msg (hval 2 33 v2 rfl rfl) h2
  clear hA0 hval0
  refine (walk a0 l0 c0 a1 a2 W t0 s0 (bounds_i64 w1) w2).mono fun e W' ⟨he, bel⟩ => ?_
  subst he
  exact ⟨_, rfl, _, _, _, [], _, [], hW', trodAll_mk1 (shut_bool Try.underlying4 _), (trodAll_cons_mk (Below.trod laidOut (by kernel_rfl) (of_decide_eq_true (by kernel_rfl)) k0 bel lt0) (trodAll_cons_mk (Below.trod laidOut (by kernel_rfl) (of_decide_eq_true (by kernel_rfl)) k1 bel lt1) (trodAll_cons_mk (Below.trod laidOut (by kernel_rfl) (of_decide_eq_true (by kernel_rfl)) k2 bel lt2) trodAll_mk0))), rfl, bel.frame _, fun h => by cases h⟩
theorem over : Rows.endpointQuickRow.holds Try.pinned (OpenSpec.ofChange Rows.endpointQuickSpec) :=
  OpenClaim.holds_of_wide 7 Try.f7 rfl rfl rfl rfl rfl rfl rfl ⟨rfl, rfl, rfl, rfl, rfl⟩ rfl rfl rfl rfl rfl (by kernel_rfl) Try.func7 (by kernel_rfl)
    (of_decide_eq_true (by kernel_rfl)) (by unfold Func.isWrapper; first | (rw [if_pos (by decide +kernel)]; kernel_rfl) | (rw [if_neg (by decide +kernel)]; exact ⟨rfl, rfl⟩))
    (fun os started H enc _ => lifted os started H enc)
end Go.Proofs.Ytnondgeengjbpaa.endpointQuick
namespace Go.Proofs.Ytnondgeengjbpaa
/-- THE STATEMENT. -/
theorem endpointQuick_said : Rows.EndpointQuickSaid := endpointQuick.over
#print axioms endpointQuick_said
end Go.Proofs.Ytnondgeengjbpaa

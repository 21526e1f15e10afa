/-
  EndpointOnce: each message that was sent meets one receiver, or none, waits, or was taken back; each that receives meets one; who met waits no more; no condition.
-/
import Derived.Test.YtnondgeengjbpaaJLaw
import Derived.Deep.Cut
import Derived.Deep.CutRange
namespace Go.Proofs.Ytnondgeengjbpaa.endpointOnce
open Go.RowKit Go.Deep Go.Shelf
open Classical
theorem send_cases {S : St} (g : Good S) (n : Int) (m : Ms) (z : Bool) :
    (sendE S n = 110 ∧ sendM S n m = ⟨false, 0, 0, ⟨0, 0, 0, 0, 0, 0, false⟩⟩ ∧ sendS S n m z = S) ∨
    (∃ x T, S = x :: T ∧ sendE S n = 0 ∧ sendM S n m = ⟨true, n, x.n, m⟩ ∧ sendS S n m z = T ∧ hasB S true = false) ∨
    (sendE S n = 0 ∧ sendM S n m = ⟨false, 0, 0, ⟨0, 0, 0, 0, 0, 0, false⟩⟩ ∧ (S = [] ∨ (0 < S.length ∧ hasB S true = true)) ∧ waitsN (sendS S n m z) = if z = true then waitsN S ++ [n] else waitsN S) := by
  have _ := g
  cases ht : thB S n with
  | true => exact .inl ⟨by simp [sendE, ht], by simp [sendM, ht, mt0, ms0], by simp [sendS, ht]⟩
  | false =>
    refine .inr ?_
    rcases S with _ | ⟨x, T⟩
    · refine .inr ⟨by simp [sendE, ht], by simp [sendM, mt0, ms0], .inl rfl, ?_⟩
      cases z <;> simp [sendS, ht, hasB, waitsN]
    · cases hx : x.s with
      | false => exact .inl ⟨x, T, rfl, by simp [sendE, ht], by simp [sendM, ht, hx], by simp [sendS, ht, hasB, hx], by simp [hasB, hx]⟩
      | true =>
        refine .inr ⟨by simp [sendE, ht], by simp [sendM, hx, mt0, ms0], .inr ⟨by simp, by simp [hasB, hx]⟩, ?_⟩
        cases z <;> simp [sendS, ht, hasB, hx, waitsN]
theorem recv_cases {S : St} (g : Good S) (n : Int) (z : Bool) :
    (sendE S n = 110 ∧ recvM S n = ⟨false, 0, 0, ⟨0, 0, 0, 0, 0, 0, false⟩⟩ ∧ recvS S n z = S) ∨
    (∃ x T, S = x :: T ∧ sendE S n = 0 ∧ recvM S n = ⟨true, x.n, n, x.m⟩ ∧ recvS S n z = T ∧ hasB S true = true) ∨
    (sendE S n = 0 ∧ recvM S n = ⟨false, 0, 0, ⟨0, 0, 0, 0, 0, 0, false⟩⟩ ∧ (S = [] ∨ (0 < S.length ∧ hasB S true = false)) ∧ waitsN (recvS S n z) = if z = true then waitsN S ++ [n] else waitsN S) := by
  have _ := g
  cases ht : thB S n with
  | true => exact .inl ⟨by simp [sendE, ht], by simp [recvM, ht, mt0, ms0], by simp [recvS, ht]⟩
  | false =>
    refine .inr ?_
    rcases S with _ | ⟨x, T⟩
    · refine .inr ⟨by simp [sendE, ht], by simp [recvM, mt0, ms0], .inl rfl, ?_⟩
      cases z <;> simp [recvS, ht, hasB, waitsN]
    · cases hx : x.s with
      | true => exact .inl ⟨x, T, rfl, by simp [sendE, ht], by simp [recvM, ht, hx], by simp [recvS, ht, hasB, hx], by simp [hasB, hx]⟩
      | false =>
        refine .inr ⟨by simp [sendE, ht], by simp [recvM, hx, mt0, ms0], .inr ⟨by simp, by simp [hasB, hx]⟩, ?_⟩
        cases z <;> simp [recvS, ht, hasB, hx, waitsN]
set_option maxHeartbeats 16000000 in
set_option maxRecDepth 100000 in
theorem walk (ao : Option Addr) (X : List Oc) (cap : Nat) (w : World) (hX : Ops w ao X) (_hxl : X.length ≤ 9223372036854775807) :
    Calls Try.prog 4 #[.slice ao X.length cap] w fun e w' => e = .returned (.bool true) ∧ Below w.heap.size w w' := by
  have HX := hid hX
  clear hX
  go_enter Try.func4, Try.ntmps4
  go_wp2_with fail
  refine Calls.mono (new_sep (sep_nil w)) ?_
  rintro e w1 ⟨p, v, rfl, s1⟩
  have S1 := hid s1
  clear s1
  generalize hr : w.heap.size = r at *
  have HR := hid hr
  clear hr
  go_wp2_with fail
  go_loopw [4] (fun i wr => ∃ (k : Nat) (v : Value) (S : St), k ≤ 80 ∧ i = .int .i64 k ∧ S.length ≤ k ∧ Sep w r wr [epT p v S]) (fun i _ => 80 - (intOf i).toNat)
  case atStart => exact ⟨0, v, [], by omega, rfl, by simp, S1.out⟩
  case round =>
    clear S1
    obtain ⟨k, v, S, hk, rfl, hS, s1⟩ := hrel
    have S1 := hid s1
    clear s1
    by_cases hgo : k < X.length ∧ k < 80
    · obtain ⟨hlt, h40⟩ := hgo
      obtain ⟨-, b, a, rfl, d0, d1, d2, d3, d4, d5, d6, d7, d8, d9⟩ := Ops.at (SeeK.below HX.out S1.out.low (by rw [HR.out]; exact Nat.le_refl _)) (List.getElem?_eq_getElem hlt)
      generalize hx : X[k] = x at *
      have HSl := hid hS
      clear hx hS
      generalize hn : X.length = n at *
      have hltz : (k : Int) < (n : Int) := by omega
      have h40z : (k : Int) < 80 := by omega
      have S2 := hid (S1.out.box (objO x)).swap
      clear S1
      obtain ⟨L, hL⟩ : ∃ L, waitsN S = L := ⟨_, rfl⟩
      obtain ⟨β, hβ⟩ : ∃ β, hasB S true = β := ⟨_, rfl⟩
      have HL : Hid (waitsN S = L ∧ hasB S true = β ∧ L.length ≤ 1000) := ⟨hL, hβ, by rw [← hL, waits_len]; have := HSl.out; omega⟩
      clear hL hβ
      unfold objO at S2
      go_wp2_with fail
      refine Calls.mono (waits_is S2.out (by have := HSl.out; omega) HL.out.1 HL.out.2.1) ?_
      rintro e w2 ⟨a6, c6, rfl, s2⟩
      have s3 := (s2.box (objT mt0)).swap
      have hobO : objO x = .cells #[.int .i64 x.k, .int .i64 x.n, .int .i64 x.m.l, .int .u64 x.m.a, .int .u64 x.m.b, .int .u64 x.m.c, .int .u64 x.m.d, .int .u64 x.m.g, .bool x.m.q, .bool x.z] 35 := rfl
      rw [← hobO] at s3
      generalize wr.heap.size = qo at *
      obtain ⟨k0, k1, k2, k3, k4, k5, k6, k7, k8, k9⟩ := s3.opAt (q := qo) (x := x) (by simp)
      have S3 := hid s3
      clear s3 s2 S2 hobO d0 d1 d2 d3 d4 d5 d6 d7 d8 d9
      simp only [objT, mt0, ms0] at k0 k1 k2 k3 k4 k5 k6 k7 k8 k9
      by_cases hk0 : x.k = 0
      · have hq : (x.k == 0) = true := by simpa using hk0
        have hq' : (x.k != 0) = false := by simpa using hk0
        clear hk0
        rcases send_cases S3.out.good x.n x.m x.z with ⟨hE, hM, hT⟩ | ⟨y, T, hS, hE, hM, hT, hb⟩ | ⟨hE, hM, hS, hN⟩
        · have HD : Hid (sendE S x.n = 110 ∧ sendM S x.n x.m = ⟨false, 0, 0, ⟨0, 0, 0, 0, 0, 0, false⟩⟩ ∧ sendS S x.n x.m x.z = S) := ⟨hE, hM, hT⟩
          have HT : Hid (S.length ≤ S.length + 1) := Nat.le_succ _
          have HN : Hid (waitsN S = L) := HL.out.1
          clear hE hM hT
          go_wp2_with fail
          refine Calls.mono (send_is (x := ⟨false, 0, 0, ⟨0, 0, 0, 0, 0, 0, false⟩⟩) S3.out x.n x.m x.z (by have := HSl.out; omega) HD.out.2.1 HD.out.1 HD.out.2.2) ?_
          rintro e w4 ⟨rfl, v4, s4⟩
          generalize w2.heap.size = q3 at *
          have Z := (s4.each (blk q3 (objT mt0)) (by simp)).1
          obtain ⟨z0, z1, z2, z3, z4, z5, z6, z7, z8, z9⟩ := (atT_of (x := mt0) Z).cells
          have zf := frozenT (x := mt0) Z
          have s5 := (s4.swap.putT ⟨false, 0, 0, ⟨0, 0, 0, 0, 0, 0, false⟩⟩).swap
          unfold put10 at s5
          simp only [mt0, ms0] at z0 z1 z2 z3 z4 z5 z6 z7 z8 z9
          clear Z s4 S3 k0 k1 k2 k3 k4 k5 k6 k7 k8 k9
          generalize hw5 : ((((((((((w4.setCell ⟨q3, 0, none⟩ (.bool (⟨false, 0, 0, ⟨0, 0, 0, 0, 0, 0, false⟩⟩ : Mt).i)).setCell ⟨q3, 1, none⟩ (.int .i64 (⟨false, 0, 0, ⟨0, 0, 0, 0, 0, 0, false⟩⟩ : Mt).f)).setCell ⟨q3, 2, none⟩ (.int .i64 (⟨false, 0, 0, ⟨0, 0, 0, 0, 0, 0, false⟩⟩ : Mt).t)).setCell ⟨q3, 3, none⟩ (.int .i64 (⟨false, 0, 0, ⟨0, 0, 0, 0, 0, 0, false⟩⟩ : Mt).m.l)).setCell ⟨q3, 4, none⟩ (.int .u64 (⟨false, 0, 0, ⟨0, 0, 0, 0, 0, 0, false⟩⟩ : Mt).m.a)).setCell ⟨q3, 5, none⟩ (.int .u64 (⟨false, 0, 0, ⟨0, 0, 0, 0, 0, 0, false⟩⟩ : Mt).m.b)).setCell ⟨q3, 6, none⟩ (.int .u64 (⟨false, 0, 0, ⟨0, 0, 0, 0, 0, 0, false⟩⟩ : Mt).m.c)).setCell ⟨q3, 7, none⟩ (.int .u64 (⟨false, 0, 0, ⟨0, 0, 0, 0, 0, 0, false⟩⟩ : Mt).m.d)).setCell ⟨q3, 8, none⟩ (.int .u64 (⟨false, 0, 0, ⟨0, 0, 0, 0, 0, 0, false⟩⟩ : Mt).m.g)).setCell ⟨q3, 9, none⟩ (.bool (⟨false, 0, 0, ⟨0, 0, 0, 0, 0, 0, false⟩⟩ : Mt).m.q)) = w5 at s5
          have HW5 := hid hw5
          have S5 := hid s5
          clear hw5 s5
          go_wp2_with (rw [HW5.out]; clear HW5)
          refine Calls.mono (waits_is S5.out (by have := HSl.out; have := HT.out; omega) HN.out rfl) ?_
          rintro e w6 ⟨a10, c10, rfl, s6⟩
          generalize hasB S true = b10 at *
          obtain ⟨k0, k1, k2, k3, k4, k5, k6, k7, k8, k9⟩ := s6.opAt (q := qo) (x := x) (by simp)
          obtain ⟨y0, y1, y2, y3, y4, y5, y6, y7, y8, y9⟩ := (atT_of (x := ⟨false, 0, 0, ⟨0, 0, 0, 0, 0, 0, false⟩⟩) (s6.each (blk q3 (objT ⟨false, 0, 0, ⟨0, 0, 0, 0, 0, 0, false⟩⟩)) (by simp)).1).cells
          have S6 := hid s6
          clear s6 S5 z0 z1 z2 z3 z4 z5 z6 z7 z8 z9 zf
          go_wp2_with (go_at_call 17; refine Calls.mono (nums_is S6.out (A := L) (B := L) (by simp) (by simp) HL.out.2.2 rfl) ?_; rintro e w7 ⟨rfl, s7⟩; have S7 := hid s7; clear s7 S6)
          all_goals
            go_round
            case rel => exact ⟨k + 1, v4, _, by omega, by go_num, by have := HT.out; have := HSl.out; omega, S7.out.drop2.drop2.drop2.drop2⟩
            case measure => simp [intOf]; omega
        · have HD : Hid (sendE S x.n = 0 ∧ sendM S x.n x.m = ⟨true, x.n, y.n, x.m⟩ ∧ sendS S x.n x.m x.z = T) := ⟨hE, hM, hT⟩
          have HT : Hid (T.length ≤ S.length + 1) := by show _ ≤ _; rw [hS]; simp; omega
          obtain rfl : false = β := by rw [← hb]; exact HL.out.2.1
          obtain ⟨L', hL'⟩ : ∃ L', waitsN T = L' := ⟨_, rfl⟩
          have hLL : y.n :: L' = L := by rw [← hL', ← HL.out.1, hS]; rfl
          have HY : Hid (waitsN T = L' ∧ y.n :: L' = L ∧ L.length = L'.length + 1) := ⟨hL', hLL, by rw [← hLL]; rfl⟩
          have HN : Hid (waitsN T = L') := hL'
          clear hE hM hT hS hb hL' hLL
          go_wp2_with fail
          refine Calls.mono (send_is (x := ⟨true, x.n, y.n, x.m⟩) S3.out x.n x.m x.z (by have := HSl.out; omega) HD.out.2.1 HD.out.1 HD.out.2.2) ?_
          rintro e w4 ⟨rfl, v4, s4⟩
          generalize w2.heap.size = q3 at *
          have Z := (s4.each (blk q3 (objT mt0)) (by simp)).1
          obtain ⟨z0, z1, z2, z3, z4, z5, z6, z7, z8, z9⟩ := (atT_of (x := mt0) Z).cells
          have zf := frozenT (x := mt0) Z
          have s5 := (s4.swap.putT ⟨true, x.n, y.n, x.m⟩).swap
          unfold put10 at s5
          simp only [mt0, ms0] at z0 z1 z2 z3 z4 z5 z6 z7 z8 z9
          clear Z s4 S3 k0 k1 k2 k3 k4 k5 k6 k7 k8 k9
          generalize hw5 : ((((((((((w4.setCell ⟨q3, 0, none⟩ (.bool (⟨true, x.n, y.n, x.m⟩ : Mt).i)).setCell ⟨q3, 1, none⟩ (.int .i64 (⟨true, x.n, y.n, x.m⟩ : Mt).f)).setCell ⟨q3, 2, none⟩ (.int .i64 (⟨true, x.n, y.n, x.m⟩ : Mt).t)).setCell ⟨q3, 3, none⟩ (.int .i64 (⟨true, x.n, y.n, x.m⟩ : Mt).m.l)).setCell ⟨q3, 4, none⟩ (.int .u64 (⟨true, x.n, y.n, x.m⟩ : Mt).m.a)).setCell ⟨q3, 5, none⟩ (.int .u64 (⟨true, x.n, y.n, x.m⟩ : Mt).m.b)).setCell ⟨q3, 6, none⟩ (.int .u64 (⟨true, x.n, y.n, x.m⟩ : Mt).m.c)).setCell ⟨q3, 7, none⟩ (.int .u64 (⟨true, x.n, y.n, x.m⟩ : Mt).m.d)).setCell ⟨q3, 8, none⟩ (.int .u64 (⟨true, x.n, y.n, x.m⟩ : Mt).m.g)).setCell ⟨q3, 9, none⟩ (.bool (⟨true, x.n, y.n, x.m⟩ : Mt).m.q)) = w5 at s5
          have HW5 := hid hw5
          have S5 := hid s5
          clear hw5 s5
          go_wp2_with (rw [HW5.out]; clear HW5)
          refine Calls.mono (waits_is S5.out (by have := HSl.out; have := HT.out; omega) HN.out rfl) ?_
          rintro e w6 ⟨a10, c10, rfl, s6⟩
          generalize hasB T true = b10 at *
          obtain ⟨k0, k1, k2, k3, k4, k5, k6, k7, k8, k9⟩ := s6.opAt (q := qo) (x := x) (by simp)
          obtain ⟨y0, y1, y2, y3, y4, y5, y6, y7, y8, y9⟩ := (atT_of (x := ⟨true, x.n, y.n, x.m⟩) (s6.each (blk q3 (objT ⟨true, x.n, y.n, x.m⟩)) (by simp)).1).cells
          have S6 := hid s6
          clear s6 S5 z0 z1 z2 z3 z4 z5 z6 z7 z8 z9 zf
          obtain ⟨v7, w7, r7, s7⟩ := (S6.out.made (E := elI)).onto okI (Row.below ((S6.out.each (lstI (.slice a6 L.length c6) L) (by simp)).1) (below_new _ _)) 27 (by have := HL.out.2.2; simp; omega)
          simp only [elI] at r7
          rw [List.nil_append] at s7
          obtain ⟨a13, c13, rfl⟩ := s7.listIs (E := elI) (v := v7) (A := L) (by simp)
          have R7 := hid r7
          clear r7
          have row13 : RowI w7 (.slice a13 L.length c13) L := s7.head
          obtain ⟨_, _, ev, hcap, hcap2, hg13, -⟩ := row13.slice
          cases ev
          obtain ⟨g13, rfl⟩ := hg13 0 (by rw [← HY.out.2.1]; simp)
          have see : SeeI w7 (if c13 = 1 then some ⟨g13, 0, none⟩ else some ⟨g13, 1, none⟩) L' := by
            by_cases hc : c13 = 1
            · have h0 : L' = [] := List.length_eq_zero_iff.1 (by have := HY.out.2.2; omega)
              rw [h0]
              exact see_nil _ _
            · rw [if_neg hc]
              exact RowI.seeTail (by rw [HY.out.2.1]; exact row13)
          have row10 : RowI w7 (.slice a10 L'.length c10) L' := (s7.each (lstI (.slice a10 L'.length c10) L') (by simp)).1
          have e9' : L'.length = L.length - 1 := by have := HY.out.2.2; omega
          have HN' : Hid (Calls Try.prog 17 #[.slice a10 L'.length c10, .slice (if c13 = 1 then some ⟨g13, 0, none⟩ else some ⟨g13, 1, none⟩) (L.length - 1) (c13 - 1)] w7 fun e w' => e = .returned (.bool true) ∧ Below w7.heap.size w7 w') := by
            have := nums_see a10 (if c13 = 1 then some ⟨g13, 0, none⟩ else some ⟨g13, 1, none⟩) c10 (c13 - 1) L' L' w7 (RowI.see row10) see (by have := HL.out.2.2; omega)
            rw [decide_eq_true rfl] at this
            rw [← e9']
            exact this
          obtain ⟨g6, hg6, -⟩ := s7.listAt okI (ao := a6) (n := L.length) (cap := c6) (A := L) (by simp) (k := 0) (x := y.n) (by rw [← HY.out.2.1]; rfl)
          subst hg6
          have hL1 : (1 : Int) ≤ (L.length : Int) := by have := HY.out.2.2; omega
          have hL0 : (0 : Int) < (L.length : Int) := by have := HY.out.2.2; omega
          have hL00 : 0 < L.length := by have := HY.out.2.2; omega
          have S7 := hid s7
          obtain ⟨A13, hA13⟩ : ∃ A13, (if c13 = 1 then some (⟨g13, 0, none⟩ : Addr) else some ⟨g13, 1, none⟩) = A13 := ⟨_, rfl⟩
          rw [hA13] at HN'
          clear s7 see row10 row13 e9' hg13
          generalize hnL : L.length = nL at *
          clear hnL
          go_wp2_with (first
            | (at_builtin; refine wpList_append_run rfl _ _ _ _ rfl _ _ _ _ rfl rfl R7.out ?_; obtain ⟨k0, k1, k2, k3, k4, k5, k6, k7, k8, k9⟩ := S7.out.opAt (q := qo) (x := x) (by simp); obtain ⟨y0, y1, y2, y3, y4, y5, y6, y7, y8, y9⟩ := (atT_of (x := ⟨true, x.n, y.n, x.m⟩) (S7.out.each (blk q3 (objT ⟨true, x.n, y.n, x.m⟩)) (by simp)).1).cells; clear R7)
            | (go_at_call 17; refine Calls.mono HN'.out ?_; rintro e w8 ⟨rfl, b8⟩; have S8 := hid (S7.out.below b8); obtain ⟨k0, k1, k2, k3, k4, k5, k6, k7, k8, k9⟩ := S8.out.opAt (q := qo) (x := x) (by simp); obtain ⟨y0, y1, y2, y3, y4, y5, y6, y7, y8, y9⟩ := (atT_of (x := ⟨true, x.n, y.n, x.m⟩) (S8.out.each (blk q3 (objT ⟨true, x.n, y.n, x.m⟩)) (by simp)).1).cells; have l0 := RowI.cell (S8.out.each (lstI (.slice (some ⟨g6, 0, none⟩) nL c6) L) (by simp)).1 (i := 0) (x := y.n) (by rw [← HY.out.2.1]; rfl); clear S7 b8))
          have gm := fun (p : Grw w8) => (S8.out.grw p).opAt (q := qo) (x := x) (by simp)
          have gy := fun (p : Grw w8) => (atT_of (x := ⟨true, x.n, y.n, x.m⟩) ((S8.out.grw p).each (blk q3 (objT ⟨true, x.n, y.n, x.m⟩)) (by simp)).1).cells
          have gk0 := fun p => (gm p).1
          have gk1 := fun p => (gm p).2.1
          have gk2 := fun p => (gm p).2.2.1
          have gk3 := fun p => (gm p).2.2.2.1
          have gk4 := fun p => (gm p).2.2.2.2.1
          have gk5 := fun p => (gm p).2.2.2.2.2.1
          have gk6 := fun p => (gm p).2.2.2.2.2.2.1
          have gk7 := fun p => (gm p).2.2.2.2.2.2.2.1
          have gk8 := fun p => (gm p).2.2.2.2.2.2.2.2.1
          have gk9 := fun p => (gm p).2.2.2.2.2.2.2.2.2
          have gy0 := fun p => (gy p).1
          have gy1 := fun p => (gy p).2.1
          have gy2 := fun p => (gy p).2.2.1
          have gy3 := fun p => (gy p).2.2.2.1
          have gy4 := fun p => (gy p).2.2.2.2.1
          have gy5 := fun p => (gy p).2.2.2.2.2.1
          have gy6 := fun p => (gy p).2.2.2.2.2.2.1
          have gy7 := fun p => (gy p).2.2.2.2.2.2.2.1
          have gy8 := fun p => (gy p).2.2.2.2.2.2.2.2.1
          have gy9 := fun p => (gy p).2.2.2.2.2.2.2.2.2
          have gl := fun (p : Grw w8) => RowI.cell ((S8.out.grw p).each (lstI (.slice (some ⟨g6, 0, none⟩) nL c6) L) (by simp)).1 (i := 0) (x := y.n) (by rw [← HY.out.2.1]; rfl)
          have q1 : ∀ W, (Op.equalIn 10000 33 (encM x.m) (encM x.m)).run Try.prog W = .ok true W := fun W => by have := eq_msg 9997 W x.m x.m; rw [decide_eq_true rfl] at this; exact this
          unfold encM at q1
          clear gm gy l0 k0 k1 k2 k3 k4 k5 k6 k7 k8 k9 y0 y1 y2 y3 y4 y5 y6 y7 y8 y9
          have hgi : ∀ u : World, Inhabited (Grw u) := grw0
          refine wp_region_grw (by kernel_rfl) (by kernel_rfl) ?_
          repeat (go_big_quiet_step (fail))
          refine wpQuiet_nil ?_
          intro _ hw'
          obtain ⟨p9, hw''⟩ := hw'
          subst hw''
          have S10 := hid (S8.out.drop.grw p9)
          go_wp2
          go_round
          case rel => exact ⟨k + 1, v4, T, by omega, by go_num, by have := HT.out; have := HSl.out; omega, S10.out.drop2.drop2.drop2.drop2⟩
          case measure => simp [intOf]; omega
        · obtain ⟨T4, hT4⟩ : ∃ T4, sendS S x.n x.m x.z = T4 := ⟨_, rfl⟩
          have HD : Hid (sendE S x.n = 0 ∧ sendM S x.n x.m = ⟨false, 0, 0, ⟨0, 0, 0, 0, 0, 0, false⟩⟩ ∧ sendS S x.n x.m x.z = T4) := ⟨hE, hM, hT4⟩
          have HT : Hid (T4.length ≤ S.length + 1) := by show _ ≤ _; rw [← hT4]; exact send_len _ _ _ _
          rw [hT4, HL.out.1] at hN
          have HSS : Hid ((L.length = 0 ∧ β = false) ∨ (0 < L.length ∧ β = true)) := by
            rcases hS with rfl | ⟨h1, h2⟩
            · exact .inl ⟨by rw [← HL.out.1]; rfl, by rw [← HL.out.2.1]; rfl⟩
            · exact .inr ⟨by rw [← HL.out.1, waits_len]; exact h1, by rw [← HL.out.2.1]; exact h2⟩
          clear hE hM hT4 hS
          obtain ⟨L', hL'⟩ : ∃ L', L' = (if x.z = true then L ++ [x.n] else L) := ⟨_, rfl⟩
          rw [← hL'] at hN
          have HN : Hid (waitsN T4 = L') := hN
          have HZ := hid hL'
          clear hN hL'
          go_wp2_with fail
          refine Calls.mono (send_is (x := ⟨false, 0, 0, ⟨0, 0, 0, 0, 0, 0, false⟩⟩) S3.out x.n x.m x.z (by have := HSl.out; omega) HD.out.2.1 HD.out.1 HD.out.2.2) ?_
          rintro e w4 ⟨rfl, v4, s4⟩
          generalize w2.heap.size = q3 at *
          have Z := (s4.each (blk q3 (objT mt0)) (by simp)).1
          obtain ⟨z0, z1, z2, z3, z4, z5, z6, z7, z8, z9⟩ := (atT_of (x := mt0) Z).cells
          have zf := frozenT (x := mt0) Z
          have s5 := (s4.swap.putT ⟨false, 0, 0, ⟨0, 0, 0, 0, 0, 0, false⟩⟩).swap
          unfold put10 at s5
          simp only [mt0, ms0] at z0 z1 z2 z3 z4 z5 z6 z7 z8 z9
          clear Z s4 S3 k0 k1 k2 k3 k4 k5 k6 k7 k8 k9
          generalize hw5 : ((((((((((w4.setCell ⟨q3, 0, none⟩ (.bool (⟨false, 0, 0, ⟨0, 0, 0, 0, 0, 0, false⟩⟩ : Mt).i)).setCell ⟨q3, 1, none⟩ (.int .i64 (⟨false, 0, 0, ⟨0, 0, 0, 0, 0, 0, false⟩⟩ : Mt).f)).setCell ⟨q3, 2, none⟩ (.int .i64 (⟨false, 0, 0, ⟨0, 0, 0, 0, 0, 0, false⟩⟩ : Mt).t)).setCell ⟨q3, 3, none⟩ (.int .i64 (⟨false, 0, 0, ⟨0, 0, 0, 0, 0, 0, false⟩⟩ : Mt).m.l)).setCell ⟨q3, 4, none⟩ (.int .u64 (⟨false, 0, 0, ⟨0, 0, 0, 0, 0, 0, false⟩⟩ : Mt).m.a)).setCell ⟨q3, 5, none⟩ (.int .u64 (⟨false, 0, 0, ⟨0, 0, 0, 0, 0, 0, false⟩⟩ : Mt).m.b)).setCell ⟨q3, 6, none⟩ (.int .u64 (⟨false, 0, 0, ⟨0, 0, 0, 0, 0, 0, false⟩⟩ : Mt).m.c)).setCell ⟨q3, 7, none⟩ (.int .u64 (⟨false, 0, 0, ⟨0, 0, 0, 0, 0, 0, false⟩⟩ : Mt).m.d)).setCell ⟨q3, 8, none⟩ (.int .u64 (⟨false, 0, 0, ⟨0, 0, 0, 0, 0, 0, false⟩⟩ : Mt).m.g)).setCell ⟨q3, 9, none⟩ (.bool (⟨false, 0, 0, ⟨0, 0, 0, 0, 0, 0, false⟩⟩ : Mt).m.q)) = w5 at s5
          have HW5 := hid hw5
          have S5 := hid s5
          clear hw5 s5
          go_wp2_with (rw [HW5.out]; clear HW5)
          refine Calls.mono (waits_is S5.out (by have := HSl.out; have := HT.out; omega) HN.out rfl) ?_
          rintro e w6 ⟨a10, c10, rfl, s6⟩
          generalize hasB T4 true = b10 at *
          obtain ⟨k0, k1, k2, k3, k4, k5, k6, k7, k8, k9⟩ := s6.opAt (q := qo) (x := x) (by simp)
          obtain ⟨y0, y1, y2, y3, y4, y5, y6, y7, y8, y9⟩ := (atT_of (x := ⟨false, 0, 0, ⟨0, 0, 0, 0, 0, 0, false⟩⟩) (s6.each (blk q3 (objT ⟨false, 0, 0, ⟨0, 0, 0, 0, 0, 0, false⟩⟩)) (by simp)).1).cells
          have S6 := hid s6
          clear s6 S5 z0 z1 z2 z3 z4 z5 z6 z7 z8 z9 zf
          obtain ⟨v7, w7, r7, s7⟩ := (S6.out.made (E := elI)).onto okI (Row.below ((S6.out.each (lstI (.slice a6 L.length c6) L) (by simp)).1) (below_new _ _)) 27 (by have := HL.out.2.2; simp; omega)
          simp only [elI] at r7
          rw [List.nil_append] at s7
          obtain ⟨a13, c13, rfl⟩ := s7.listIs (E := elI) (v := v7) (A := L) (by simp)
          have R7 := hid r7
          clear r7
          rcases HSS.out with ⟨hL0, rfl⟩ | ⟨hL0, rfl⟩
          · have hL1 : ¬ ((0 : Int) < (L.length : Int)) := by omega
            have hL2 : ¬ (0 < L.length) := by omega
            clear hL0
            cases hz : x.z with
            | true =>
              have S7 := hid s7
              obtain ⟨v8, w8, r8, s8⟩ := s7.more okI 27 x.n (C := #[.int .i64 x.n]) rfl (by have := HL.out.2.2; omega)
              simp only [elI] at r8
              obtain ⟨a8, c8, ev8⟩ := s8.listIs (E := elI) (v := v8) (A := L ++ [x.n]) (by simp)
              subst ev8
              have HLL : Hid (L' = L ++ [x.n]) := by show _ = _; rw [HZ.out, hz]; simp
              obtain ⟨M, hM⟩ : ∃ M, L ++ [x.n] = M := ⟨_, rfl⟩
              rw [hM] at s8 r8 HLL
              obtain rfl := HLL.out
              have S8 := hid s8
              have R8 := hid r8
              have HLM : Hid (L'.length ≤ 1000) := by show _ ≤ _; rw [← hM]; simp; have := HL.out.2.2; have := HSl.out; have hh := HL.out.1; rw [← hh, waits_len]; omega
              clear r8 s8 s7 hM HZ
              go_wp2_with (first
                | (at_builtin; refine wpList_append_run rfl _ _ _ _ rfl _ _ _ _ rfl rfl R7.out ?_; obtain ⟨k0, k1, k2, k3, k4, k5, k6, k7, k8, k9⟩ := S7.out.opAt (q := qo) (x := x) (by simp); obtain ⟨y0, y1, y2, y3, y4, y5, y6, y7, y8, y9⟩ := (atT_of (x := ⟨false, 0, 0, ⟨0, 0, 0, 0, 0, 0, false⟩⟩) (S7.out.each (blk q3 (objT ⟨false, 0, 0, ⟨0, 0, 0, 0, 0, 0, false⟩⟩)) (by simp)).1).cells; clear R7)
                | (at_builtin; refine wpList_append_run rfl _ _ _ _ rfl _ _ _ _ rfl rfl R8.out ?_; obtain ⟨k0, k1, k2, k3, k4, k5, k6, k7, k8, k9⟩ := S8.out.opAt (q := qo) (x := x) (by simp); obtain ⟨y0, y1, y2, y3, y4, y5, y6, y7, y8, y9⟩ := (atT_of (x := ⟨false, 0, 0, ⟨0, 0, 0, 0, 0, 0, false⟩⟩) (S8.out.each (blk q3 (objT ⟨false, 0, 0, ⟨0, 0, 0, 0, 0, 0, false⟩⟩)) (by simp)).1).cells))
              refine Calls.mono (nums_is S8.out (u := .slice a10 L'.length c10) (v := .slice a8 L'.length c8) (A := L') (B := L') (by simp) (by simp) HLM.out rfl) ?_
              rintro e w9 ⟨rfl, s9⟩
              have S9 := hid s9
              clear s9 S8
              go_wp2_with fail
              have gm := fun (p : Grw w9) => (S9.out.grw p).opAt (q := qo) (x := x) (by simp)
              have gy := fun (p : Grw w9) => (atT_of (x := ⟨false, 0, 0, ⟨0, 0, 0, 0, 0, 0, false⟩⟩) ((S9.out.grw p).each (blk q3 (objT ⟨false, 0, 0, ⟨0, 0, 0, 0, 0, 0, false⟩⟩)) (by simp)).1).cells
              have gy0 := fun p => (gy p).1
              clear gm gy k0 k1 k2 k3 k4 k5 k6 k7 k8 k9 y0 y1 y2 y3 y4 y5 y6 y7 y8 y9
              have hgi : ∀ u : World, Inhabited (Grw u) := grw0
              refine wp_region_grw (by kernel_rfl) (by kernel_rfl) ?_
              repeat (go_big_quiet_step (fail))
              refine wpQuiet_nil ?_
              intro _ hw'
              obtain ⟨p9, hw''⟩ := hw'
              subst hw''
              have S10 := hid (S9.out.drop.grw p9)
              go_wp2
              go_round
              case rel => exact ⟨k + 1, v4, T4, by omega, by go_num, by have := HT.out; have := HSl.out; omega, S10.out.drop2.drop2.drop2.drop2⟩
              case measure => simp [intOf]; omega

            | false =>
              have HLL : Hid (L' = L) := by show _ = _; rw [HZ.out, hz]; simp
              obtain rfl := HLL.out
              have S7 := hid s7
              clear s7 HZ
              go_wp2_with (at_builtin; refine wpList_append_run rfl _ _ _ _ rfl _ _ _ _ rfl rfl R7.out ?_; obtain ⟨k0, k1, k2, k3, k4, k5, k6, k7, k8, k9⟩ := S7.out.opAt (q := qo) (x := x) (by simp); obtain ⟨y0, y1, y2, y3, y4, y5, y6, y7, y8, y9⟩ := (atT_of (x := ⟨false, 0, 0, ⟨0, 0, 0, 0, 0, 0, false⟩⟩) (S7.out.each (blk q3 (objT ⟨false, 0, 0, ⟨0, 0, 0, 0, 0, 0, false⟩⟩)) (by simp)).1).cells; clear R7)
              refine Calls.mono (nums_is S7.out (u := .slice a10 L'.length c10) (v := .slice a13 L'.length c13) (A := L') (B := L') (by simp) (by simp) HL.out.2.2 rfl) ?_
              rintro e w9 ⟨rfl, s9⟩
              have S9 := hid s9
              clear s9 S7
              go_wp2_with fail
              have gm := fun (p : Grw w9) => (S9.out.grw p).opAt (q := qo) (x := x) (by simp)
              have gy := fun (p : Grw w9) => (atT_of (x := ⟨false, 0, 0, ⟨0, 0, 0, 0, 0, 0, false⟩⟩) ((S9.out.grw p).each (blk q3 (objT ⟨false, 0, 0, ⟨0, 0, 0, 0, 0, 0, false⟩⟩)) (by simp)).1).cells
              have gy0 := fun p => (gy p).1
              clear gm gy k0 k1 k2 k3 k4 k5 k6 k7 k8 k9 y0 y1 y2 y3 y4 y5 y6 y7 y8 y9
              have hgi : ∀ u : World, Inhabited (Grw u) := grw0
              refine wp_region_grw (by kernel_rfl) (by kernel_rfl) ?_
              repeat (go_big_quiet_step (fail))
              refine wpQuiet_nil ?_
              intro _ hw'
              obtain ⟨p9, hw''⟩ := hw'
              subst hw''
              have S10 := hid (S9.out.drop.grw p9)
              go_wp2
              go_round
              case rel => exact ⟨k + 1, v4, T4, by omega, by go_num, by have := HT.out; have := HSl.out; omega, S10.out.drop2.drop2.drop2.drop2⟩
              case measure => simp [intOf]; omega

          · have hL1 : (0 : Int) < (L.length : Int) := by omega
            have hL2 : 0 < L.length := by omega
            clear hL0
            cases hz : x.z with
            | true =>
              have S7 := hid s7
              obtain ⟨v8, w8, r8, s8⟩ := s7.more okI 27 x.n (C := #[.int .i64 x.n]) rfl (by have := HL.out.2.2; omega)
              simp only [elI] at r8
              obtain ⟨a8, c8, ev8⟩ := s8.listIs (E := elI) (v := v8) (A := L ++ [x.n]) (by simp)
              subst ev8
              have HLL : Hid (L' = L ++ [x.n]) := by show _ = _; rw [HZ.out, hz]; simp
              obtain ⟨M, hM⟩ : ∃ M, L ++ [x.n] = M := ⟨_, rfl⟩
              rw [hM] at s8 r8 HLL
              obtain rfl := HLL.out
              have S8 := hid s8
              have R8 := hid r8
              have HLM : Hid (L'.length ≤ 1000) := by show _ ≤ _; rw [← hM]; simp; have := HL.out.2.2; have := HSl.out; have hh := HL.out.1; rw [← hh, waits_len]; omega
              clear r8 s8 s7 hM HZ
              go_wp2_with (first
                | (at_builtin; refine wpList_append_run rfl _ _ _ _ rfl _ _ _ _ rfl rfl R7.out ?_; obtain ⟨k0, k1, k2, k3, k4, k5, k6, k7, k8, k9⟩ := S7.out.opAt (q := qo) (x := x) (by simp); obtain ⟨y0, y1, y2, y3, y4, y5, y6, y7, y8, y9⟩ := (atT_of (x := ⟨false, 0, 0, ⟨0, 0, 0, 0, 0, 0, false⟩⟩) (S7.out.each (blk q3 (objT ⟨false, 0, 0, ⟨0, 0, 0, 0, 0, 0, false⟩⟩)) (by simp)).1).cells; clear R7)
                | (at_builtin; refine wpList_append_run rfl _ _ _ _ rfl _ _ _ _ rfl rfl R8.out ?_; obtain ⟨k0, k1, k2, k3, k4, k5, k6, k7, k8, k9⟩ := S8.out.opAt (q := qo) (x := x) (by simp); obtain ⟨y0, y1, y2, y3, y4, y5, y6, y7, y8, y9⟩ := (atT_of (x := ⟨false, 0, 0, ⟨0, 0, 0, 0, 0, 0, false⟩⟩) (S8.out.each (blk q3 (objT ⟨false, 0, 0, ⟨0, 0, 0, 0, 0, 0, false⟩⟩)) (by simp)).1).cells))
              refine Calls.mono (nums_is S8.out (u := .slice a10 L'.length c10) (v := .slice a8 L'.length c8) (A := L') (B := L') (by simp) (by simp) HLM.out rfl) ?_
              rintro e w9 ⟨rfl, s9⟩
              have S9 := hid s9
              clear s9 S8
              go_wp2_with fail
              have gm := fun (p : Grw w9) => (S9.out.grw p).opAt (q := qo) (x := x) (by simp)
              have gy := fun (p : Grw w9) => (atT_of (x := ⟨false, 0, 0, ⟨0, 0, 0, 0, 0, 0, false⟩⟩) ((S9.out.grw p).each (blk q3 (objT ⟨false, 0, 0, ⟨0, 0, 0, 0, 0, 0, false⟩⟩)) (by simp)).1).cells
              have gy0 := fun p => (gy p).1
              clear gm gy k0 k1 k2 k3 k4 k5 k6 k7 k8 k9 y0 y1 y2 y3 y4 y5 y6 y7 y8 y9
              have hgi : ∀ u : World, Inhabited (Grw u) := grw0
              refine wp_region_grw (by kernel_rfl) (by kernel_rfl) ?_
              repeat (go_big_quiet_step (fail))
              refine wpQuiet_nil ?_
              intro _ hw'
              obtain ⟨p9, hw''⟩ := hw'
              subst hw''
              have S10 := hid (S9.out.drop.grw p9)
              go_wp2
              go_round
              case rel => exact ⟨k + 1, v4, T4, by omega, by go_num, by have := HT.out; have := HSl.out; omega, S10.out.drop2.drop2.drop2.drop2⟩
              case measure => simp [intOf]; omega

            | false =>
              have HLL : Hid (L' = L) := by show _ = _; rw [HZ.out, hz]; simp
              obtain rfl := HLL.out
              have S7 := hid s7
              clear s7 HZ
              go_wp2_with (at_builtin; refine wpList_append_run rfl _ _ _ _ rfl _ _ _ _ rfl rfl R7.out ?_; obtain ⟨k0, k1, k2, k3, k4, k5, k6, k7, k8, k9⟩ := S7.out.opAt (q := qo) (x := x) (by simp); obtain ⟨y0, y1, y2, y3, y4, y5, y6, y7, y8, y9⟩ := (atT_of (x := ⟨false, 0, 0, ⟨0, 0, 0, 0, 0, 0, false⟩⟩) (S7.out.each (blk q3 (objT ⟨false, 0, 0, ⟨0, 0, 0, 0, 0, 0, false⟩⟩)) (by simp)).1).cells; clear R7)
              refine Calls.mono (nums_is S7.out (u := .slice a10 L'.length c10) (v := .slice a13 L'.length c13) (A := L') (B := L') (by simp) (by simp) HL.out.2.2 rfl) ?_
              rintro e w9 ⟨rfl, s9⟩
              have S9 := hid s9
              clear s9 S7
              go_wp2_with fail
              have gm := fun (p : Grw w9) => (S9.out.grw p).opAt (q := qo) (x := x) (by simp)
              have gy := fun (p : Grw w9) => (atT_of (x := ⟨false, 0, 0, ⟨0, 0, 0, 0, 0, 0, false⟩⟩) ((S9.out.grw p).each (blk q3 (objT ⟨false, 0, 0, ⟨0, 0, 0, 0, 0, 0, false⟩⟩)) (by simp)).1).cells
              have gy0 := fun p => (gy p).1
              clear gm gy k0 k1 k2 k3 k4 k5 k6 k7 k8 k9 y0 y1 y2 y3 y4 y5 y6 y7 y8 y9
              have hgi : ∀ u : World, Inhabited (Grw u) := grw0
              refine wp_region_grw (by kernel_rfl) (by kernel_rfl) ?_
              repeat (go_big_quiet_step (fail))
              refine wpQuiet_nil ?_
              intro _ hw'
              obtain ⟨p9, hw''⟩ := hw'
              subst hw''
              have S10 := hid (S9.out.drop.grw p9)
              go_wp2
              go_round
              case rel => exact ⟨k + 1, v4, T4, by omega, by go_num, by have := HT.out; have := HSl.out; omega, S10.out.drop2.drop2.drop2.drop2⟩
              case measure => simp [intOf]; omega

      · have hq : (x.k == 0) = false := by simpa using hk0
        have hq' : (x.k != 0) = true := by simpa using hk0
        clear hk0
        rcases recv_cases S3.out.good x.n x.z with ⟨hE, hM, hT⟩ | ⟨y, T, hS, hE, hM, hT, hb⟩ | ⟨hE, hM, hS, hN⟩
        · have HD : Hid (sendE S x.n = 110 ∧ recvM S x.n = ⟨false, 0, 0, ⟨0, 0, 0, 0, 0, 0, false⟩⟩ ∧ recvS S x.n x.z = S) := ⟨hE, hM, hT⟩
          have HT : Hid (S.length ≤ S.length + 1) := Nat.le_succ _
          have HN : Hid (waitsN S = L) := HL.out.1
          clear hE hM hT
          go_wp2_with fail
          refine Calls.mono (recv_is (x := ⟨false, 0, 0, ⟨0, 0, 0, 0, 0, 0, false⟩⟩) S3.out x.n x.z (by have := HSl.out; omega) HD.out.2.1 HD.out.1 HD.out.2.2) ?_
          rintro e w4 ⟨rfl, v4, s4⟩
          generalize w2.heap.size = q3 at *
          have Z := (s4.each (blk q3 (objT mt0)) (by simp)).1
          obtain ⟨z0, z1, z2, z3, z4, z5, z6, z7, z8, z9⟩ := (atT_of (x := mt0) Z).cells
          have zf := frozenT (x := mt0) Z
          have s5 := (s4.swap.putT ⟨false, 0, 0, ⟨0, 0, 0, 0, 0, 0, false⟩⟩).swap
          unfold put10 at s5
          simp only [mt0, ms0] at z0 z1 z2 z3 z4 z5 z6 z7 z8 z9
          clear Z s4 S3 k0 k1 k2 k3 k4 k5 k6 k7 k8 k9
          generalize hw5 : ((((((((((w4.setCell ⟨q3, 0, none⟩ (.bool (⟨false, 0, 0, ⟨0, 0, 0, 0, 0, 0, false⟩⟩ : Mt).i)).setCell ⟨q3, 1, none⟩ (.int .i64 (⟨false, 0, 0, ⟨0, 0, 0, 0, 0, 0, false⟩⟩ : Mt).f)).setCell ⟨q3, 2, none⟩ (.int .i64 (⟨false, 0, 0, ⟨0, 0, 0, 0, 0, 0, false⟩⟩ : Mt).t)).setCell ⟨q3, 3, none⟩ (.int .i64 (⟨false, 0, 0, ⟨0, 0, 0, 0, 0, 0, false⟩⟩ : Mt).m.l)).setCell ⟨q3, 4, none⟩ (.int .u64 (⟨false, 0, 0, ⟨0, 0, 0, 0, 0, 0, false⟩⟩ : Mt).m.a)).setCell ⟨q3, 5, none⟩ (.int .u64 (⟨false, 0, 0, ⟨0, 0, 0, 0, 0, 0, false⟩⟩ : Mt).m.b)).setCell ⟨q3, 6, none⟩ (.int .u64 (⟨false, 0, 0, ⟨0, 0, 0, 0, 0, 0, false⟩⟩ : Mt).m.c)).setCell ⟨q3, 7, none⟩ (.int .u64 (⟨false, 0, 0, ⟨0, 0, 0, 0, 0, 0, false⟩⟩ : Mt).m.d)).setCell ⟨q3, 8, none⟩ (.int .u64 (⟨false, 0, 0, ⟨0, 0, 0, 0, 0, 0, false⟩⟩ : Mt).m.g)).setCell ⟨q3, 9, none⟩ (.bool (⟨false, 0, 0, ⟨0, 0, 0, 0, 0, 0, false⟩⟩ : Mt).m.q)) = w5 at s5
          have HW5 := hid hw5
          have S5 := hid s5
          clear hw5 s5
          go_wp2_with (rw [HW5.out]; clear HW5)
          refine Calls.mono (waits_is S5.out (by have := HSl.out; have := HT.out; omega) HN.out rfl) ?_
          rintro e w6 ⟨a10, c10, rfl, s6⟩
          generalize hasB S true = b10 at *
          obtain ⟨k0, k1, k2, k3, k4, k5, k6, k7, k8, k9⟩ := s6.opAt (q := qo) (x := x) (by simp)
          obtain ⟨y0, y1, y2, y3, y4, y5, y6, y7, y8, y9⟩ := (atT_of (x := ⟨false, 0, 0, ⟨0, 0, 0, 0, 0, 0, false⟩⟩) (s6.each (blk q3 (objT ⟨false, 0, 0, ⟨0, 0, 0, 0, 0, 0, false⟩⟩)) (by simp)).1).cells
          have S6 := hid s6
          clear s6 S5 z0 z1 z2 z3 z4 z5 z6 z7 z8 z9 zf
          go_wp2_with (go_at_call 17; refine Calls.mono (nums_is S6.out (A := L) (B := L) (by simp) (by simp) HL.out.2.2 rfl) ?_; rintro e w7 ⟨rfl, s7⟩; have S7 := hid s7; clear s7 S6)
          all_goals
            go_round
            case rel => exact ⟨k + 1, v4, _, by omega, by go_num, by have := HT.out; have := HSl.out; omega, S7.out.drop2.drop2.drop2.drop2⟩
            case measure => simp [intOf]; omega
        · have HD : Hid (sendE S x.n = 0 ∧ recvM S x.n = ⟨true, y.n, x.n, y.m⟩ ∧ recvS S x.n x.z = T) := ⟨hE, hM, hT⟩
          have HT : Hid (T.length ≤ S.length + 1) := by show _ ≤ _; rw [hS]; simp; omega
          obtain rfl : true = β := by rw [← hb]; exact HL.out.2.1
          obtain ⟨L', hL'⟩ : ∃ L', waitsN T = L' := ⟨_, rfl⟩
          have hLL : y.n :: L' = L := by rw [← hL', ← HL.out.1, hS]; rfl
          have HY : Hid (waitsN T = L' ∧ y.n :: L' = L ∧ L.length = L'.length + 1) := ⟨hL', hLL, by rw [← hLL]; rfl⟩
          have HN : Hid (waitsN T = L') := hL'
          clear hE hM hT hS hb hL' hLL
          go_wp2_with fail
          refine Calls.mono (recv_is (x := ⟨true, y.n, x.n, y.m⟩) S3.out x.n x.z (by have := HSl.out; omega) HD.out.2.1 HD.out.1 HD.out.2.2) ?_
          rintro e w4 ⟨rfl, v4, s4⟩
          generalize w2.heap.size = q3 at *
          have Z := (s4.each (blk q3 (objT mt0)) (by simp)).1
          obtain ⟨z0, z1, z2, z3, z4, z5, z6, z7, z8, z9⟩ := (atT_of (x := mt0) Z).cells
          have zf := frozenT (x := mt0) Z
          have s5 := (s4.swap.putT ⟨true, y.n, x.n, y.m⟩).swap
          unfold put10 at s5
          simp only [mt0, ms0] at z0 z1 z2 z3 z4 z5 z6 z7 z8 z9
          clear Z s4 S3 k0 k1 k2 k3 k4 k5 k6 k7 k8 k9
          generalize hw5 : ((((((((((w4.setCell ⟨q3, 0, none⟩ (.bool (⟨true, y.n, x.n, y.m⟩ : Mt).i)).setCell ⟨q3, 1, none⟩ (.int .i64 (⟨true, y.n, x.n, y.m⟩ : Mt).f)).setCell ⟨q3, 2, none⟩ (.int .i64 (⟨true, y.n, x.n, y.m⟩ : Mt).t)).setCell ⟨q3, 3, none⟩ (.int .i64 (⟨true, y.n, x.n, y.m⟩ : Mt).m.l)).setCell ⟨q3, 4, none⟩ (.int .u64 (⟨true, y.n, x.n, y.m⟩ : Mt).m.a)).setCell ⟨q3, 5, none⟩ (.int .u64 (⟨true, y.n, x.n, y.m⟩ : Mt).m.b)).setCell ⟨q3, 6, none⟩ (.int .u64 (⟨true, y.n, x.n, y.m⟩ : Mt).m.c)).setCell ⟨q3, 7, none⟩ (.int .u64 (⟨true, y.n, x.n, y.m⟩ : Mt).m.d)).setCell ⟨q3, 8, none⟩ (.int .u64 (⟨true, y.n, x.n, y.m⟩ : Mt).m.g)).setCell ⟨q3, 9, none⟩ (.bool (⟨true, y.n, x.n, y.m⟩ : Mt).m.q)) = w5 at s5
          have HW5 := hid hw5
          have S5 := hid s5
          clear hw5 s5
          go_wp2_with (rw [HW5.out]; clear HW5)
          refine Calls.mono (waits_is S5.out (by have := HSl.out; have := HT.out; omega) HN.out rfl) ?_
          rintro e w6 ⟨a10, c10, rfl, s6⟩
          generalize hasB T true = b10 at *
          obtain ⟨k0, k1, k2, k3, k4, k5, k6, k7, k8, k9⟩ := s6.opAt (q := qo) (x := x) (by simp)
          obtain ⟨y0, y1, y2, y3, y4, y5, y6, y7, y8, y9⟩ := (atT_of (x := ⟨true, y.n, x.n, y.m⟩) (s6.each (blk q3 (objT ⟨true, y.n, x.n, y.m⟩)) (by simp)).1).cells
          have S6 := hid s6
          clear s6 S5 z0 z1 z2 z3 z4 z5 z6 z7 z8 z9 zf
          obtain ⟨v7, w7, r7, s7⟩ := (S6.out.made (E := elI)).onto okI (Row.below ((S6.out.each (lstI (.slice a6 L.length c6) L) (by simp)).1) (below_new _ _)) 27 (by have := HL.out.2.2; simp; omega)
          simp only [elI] at r7
          rw [List.nil_append] at s7
          obtain ⟨a13, c13, rfl⟩ := s7.listIs (E := elI) (v := v7) (A := L) (by simp)
          have R7 := hid r7
          clear r7
          have row13 : RowI w7 (.slice a13 L.length c13) L := s7.head
          obtain ⟨_, _, ev, hcap, hcap2, hg13, -⟩ := row13.slice
          cases ev
          obtain ⟨g13, rfl⟩ := hg13 0 (by rw [← HY.out.2.1]; simp)
          have see : SeeI w7 (if c13 = 1 then some ⟨g13, 0, none⟩ else some ⟨g13, 1, none⟩) L' := by
            by_cases hc : c13 = 1
            · have h0 : L' = [] := List.length_eq_zero_iff.1 (by have := HY.out.2.2; omega)
              rw [h0]
              exact see_nil _ _
            · rw [if_neg hc]
              exact RowI.seeTail (by rw [HY.out.2.1]; exact row13)
          have row10 : RowI w7 (.slice a10 L'.length c10) L' := (s7.each (lstI (.slice a10 L'.length c10) L') (by simp)).1
          have e9' : L'.length = L.length - 1 := by have := HY.out.2.2; omega
          have HN' : Hid (Calls Try.prog 17 #[.slice a10 L'.length c10, .slice (if c13 = 1 then some ⟨g13, 0, none⟩ else some ⟨g13, 1, none⟩) (L.length - 1) (c13 - 1)] w7 fun e w' => e = .returned (.bool true) ∧ Below w7.heap.size w7 w') := by
            have := nums_see a10 (if c13 = 1 then some ⟨g13, 0, none⟩ else some ⟨g13, 1, none⟩) c10 (c13 - 1) L' L' w7 (RowI.see row10) see (by have := HL.out.2.2; omega)
            rw [decide_eq_true rfl] at this
            rw [← e9']
            exact this
          obtain ⟨g6, hg6, -⟩ := s7.listAt okI (ao := a6) (n := L.length) (cap := c6) (A := L) (by simp) (k := 0) (x := y.n) (by rw [← HY.out.2.1]; rfl)
          subst hg6
          have hL1 : (1 : Int) ≤ (L.length : Int) := by have := HY.out.2.2; omega
          have hL0 : (0 : Int) < (L.length : Int) := by have := HY.out.2.2; omega
          have hL00 : 0 < L.length := by have := HY.out.2.2; omega
          have S7 := hid s7
          obtain ⟨A13, hA13⟩ : ∃ A13, (if c13 = 1 then some (⟨g13, 0, none⟩ : Addr) else some ⟨g13, 1, none⟩) = A13 := ⟨_, rfl⟩
          rw [hA13] at HN'
          clear s7 see row10 row13 e9' hg13
          generalize hnL : L.length = nL at *
          clear hnL
          go_wp2_with (first
            | (at_builtin; refine wpList_append_run rfl _ _ _ _ rfl _ _ _ _ rfl rfl R7.out ?_; obtain ⟨k0, k1, k2, k3, k4, k5, k6, k7, k8, k9⟩ := S7.out.opAt (q := qo) (x := x) (by simp); obtain ⟨y0, y1, y2, y3, y4, y5, y6, y7, y8, y9⟩ := (atT_of (x := ⟨true, y.n, x.n, y.m⟩) (S7.out.each (blk q3 (objT ⟨true, y.n, x.n, y.m⟩)) (by simp)).1).cells; clear R7)
            | (go_at_call 17; refine Calls.mono HN'.out ?_; rintro e w8 ⟨rfl, b8⟩; have S8 := hid (S7.out.below b8); obtain ⟨k0, k1, k2, k3, k4, k5, k6, k7, k8, k9⟩ := S8.out.opAt (q := qo) (x := x) (by simp); obtain ⟨y0, y1, y2, y3, y4, y5, y6, y7, y8, y9⟩ := (atT_of (x := ⟨true, y.n, x.n, y.m⟩) (S8.out.each (blk q3 (objT ⟨true, y.n, x.n, y.m⟩)) (by simp)).1).cells; have l0 := RowI.cell (S8.out.each (lstI (.slice (some ⟨g6, 0, none⟩) nL c6) L) (by simp)).1 (i := 0) (x := y.n) (by rw [← HY.out.2.1]; rfl); clear S7 b8))
          have gm := fun (p : Grw w8) => (S8.out.grw p).opAt (q := qo) (x := x) (by simp)
          have gy := fun (p : Grw w8) => (atT_of (x := ⟨true, y.n, x.n, y.m⟩) ((S8.out.grw p).each (blk q3 (objT ⟨true, y.n, x.n, y.m⟩)) (by simp)).1).cells
          have gk0 := fun p => (gm p).1
          have gk1 := fun p => (gm p).2.1
          have gk2 := fun p => (gm p).2.2.1
          have gk3 := fun p => (gm p).2.2.2.1
          have gk4 := fun p => (gm p).2.2.2.2.1
          have gk5 := fun p => (gm p).2.2.2.2.2.1
          have gk6 := fun p => (gm p).2.2.2.2.2.2.1
          have gk7 := fun p => (gm p).2.2.2.2.2.2.2.1
          have gk8 := fun p => (gm p).2.2.2.2.2.2.2.2.1
          have gk9 := fun p => (gm p).2.2.2.2.2.2.2.2.2
          have gy0 := fun p => (gy p).1
          have gy1 := fun p => (gy p).2.1
          have gy2 := fun p => (gy p).2.2.1
          have gy3 := fun p => (gy p).2.2.2.1
          have gy4 := fun p => (gy p).2.2.2.2.1
          have gy5 := fun p => (gy p).2.2.2.2.2.1
          have gy6 := fun p => (gy p).2.2.2.2.2.2.1
          have gy7 := fun p => (gy p).2.2.2.2.2.2.2.1
          have gy8 := fun p => (gy p).2.2.2.2.2.2.2.2.1
          have gy9 := fun p => (gy p).2.2.2.2.2.2.2.2.2
          have gl := fun (p : Grw w8) => RowI.cell ((S8.out.grw p).each (lstI (.slice (some ⟨g6, 0, none⟩) nL c6) L) (by simp)).1 (i := 0) (x := y.n) (by rw [← HY.out.2.1]; rfl)
          have q1 : ∀ W, (Op.equalIn 10000 33 (encM x.m) (encM x.m)).run Try.prog W = .ok true W := fun W => by have := eq_msg 9997 W x.m x.m; rw [decide_eq_true rfl] at this; exact this
          unfold encM at q1
          clear gm gy l0 k0 k1 k2 k3 k4 k5 k6 k7 k8 k9 y0 y1 y2 y3 y4 y5 y6 y7 y8 y9
          have hgi : ∀ u : World, Inhabited (Grw u) := grw0
          refine wp_region_grw (by kernel_rfl) (by kernel_rfl) ?_
          repeat (go_big_quiet_step (fail))
          refine wpQuiet_nil ?_
          intro _ hw'
          obtain ⟨p9, hw''⟩ := hw'
          subst hw''
          have S10 := hid (S8.out.drop.grw p9)
          go_wp2
          go_round
          case rel => exact ⟨k + 1, v4, T, by omega, by go_num, by have := HT.out; have := HSl.out; omega, S10.out.drop2.drop2.drop2.drop2⟩
          case measure => simp [intOf]; omega
        · obtain ⟨T4, hT4⟩ : ∃ T4, recvS S x.n x.z = T4 := ⟨_, rfl⟩
          have HD : Hid (sendE S x.n = 0 ∧ recvM S x.n = ⟨false, 0, 0, ⟨0, 0, 0, 0, 0, 0, false⟩⟩ ∧ recvS S x.n x.z = T4) := ⟨hE, hM, hT4⟩
          have HT : Hid (T4.length ≤ S.length + 1) := by show _ ≤ _; rw [← hT4]; exact recv_len _ _ _
          rw [hT4, HL.out.1] at hN
          have HSS : Hid ((L.length = 0 ∧ β = false) ∨ (0 < L.length ∧ β = false)) := by
            rcases hS with rfl | ⟨h1, h2⟩
            · exact .inl ⟨by rw [← HL.out.1]; rfl, by rw [← HL.out.2.1]; rfl⟩
            · exact .inr ⟨by rw [← HL.out.1, waits_len]; exact h1, by rw [← HL.out.2.1]; exact h2⟩
          clear hE hM hT4 hS
          obtain ⟨L', hL'⟩ : ∃ L', L' = (if x.z = true then L ++ [x.n] else L) := ⟨_, rfl⟩
          rw [← hL'] at hN
          have HN : Hid (waitsN T4 = L') := hN
          have HZ := hid hL'
          clear hN hL'
          go_wp2_with fail
          refine Calls.mono (recv_is (x := ⟨false, 0, 0, ⟨0, 0, 0, 0, 0, 0, false⟩⟩) S3.out x.n x.z (by have := HSl.out; omega) HD.out.2.1 HD.out.1 HD.out.2.2) ?_
          rintro e w4 ⟨rfl, v4, s4⟩
          generalize w2.heap.size = q3 at *
          have Z := (s4.each (blk q3 (objT mt0)) (by simp)).1
          obtain ⟨z0, z1, z2, z3, z4, z5, z6, z7, z8, z9⟩ := (atT_of (x := mt0) Z).cells
          have zf := frozenT (x := mt0) Z
          have s5 := (s4.swap.putT ⟨false, 0, 0, ⟨0, 0, 0, 0, 0, 0, false⟩⟩).swap
          unfold put10 at s5
          simp only [mt0, ms0] at z0 z1 z2 z3 z4 z5 z6 z7 z8 z9
          clear Z s4 S3 k0 k1 k2 k3 k4 k5 k6 k7 k8 k9
          generalize hw5 : ((((((((((w4.setCell ⟨q3, 0, none⟩ (.bool (⟨false, 0, 0, ⟨0, 0, 0, 0, 0, 0, false⟩⟩ : Mt).i)).setCell ⟨q3, 1, none⟩ (.int .i64 (⟨false, 0, 0, ⟨0, 0, 0, 0, 0, 0, false⟩⟩ : Mt).f)).setCell ⟨q3, 2, none⟩ (.int .i64 (⟨false, 0, 0, ⟨0, 0, 0, 0, 0, 0, false⟩⟩ : Mt).t)).setCell ⟨q3, 3, none⟩ (.int .i64 (⟨false, 0, 0, ⟨0, 0, 0, 0, 0, 0, false⟩⟩ : Mt).m.l)).setCell ⟨q3, 4, none⟩ (.int .u64 (⟨false, 0, 0, ⟨0, 0, 0, 0, 0, 0, false⟩⟩ : Mt).m.a)).setCell ⟨q3, 5, none⟩ (.int .u64 (⟨false, 0, 0, ⟨0, 0, 0, 0, 0, 0, false⟩⟩ : Mt).m.b)).setCell ⟨q3, 6, none⟩ (.int .u64 (⟨false, 0, 0, ⟨0, 0, 0, 0, 0, 0, false⟩⟩ : Mt).m.c)).setCell ⟨q3, 7, none⟩ (.int .u64 (⟨false, 0, 0, ⟨0, 0, 0, 0, 0, 0, false⟩⟩ : Mt).m.d)).setCell ⟨q3, 8, none⟩ (.int .u64 (⟨false, 0, 0, ⟨0, 0, 0, 0, 0, 0, false⟩⟩ : Mt).m.g)).setCell ⟨q3, 9, none⟩ (.bool (⟨false, 0, 0, ⟨0, 0, 0, 0, 0, 0, false⟩⟩ : Mt).m.q)) = w5 at s5
          have HW5 := hid hw5
          have S5 := hid s5
          clear hw5 s5
          go_wp2_with (rw [HW5.out]; clear HW5)
          refine Calls.mono (waits_is S5.out (by have := HSl.out; have := HT.out; omega) HN.out rfl) ?_
          rintro e w6 ⟨a10, c10, rfl, s6⟩
          generalize hasB T4 true = b10 at *
          obtain ⟨k0, k1, k2, k3, k4, k5, k6, k7, k8, k9⟩ := s6.opAt (q := qo) (x := x) (by simp)
          obtain ⟨y0, y1, y2, y3, y4, y5, y6, y7, y8, y9⟩ := (atT_of (x := ⟨false, 0, 0, ⟨0, 0, 0, 0, 0, 0, false⟩⟩) (s6.each (blk q3 (objT ⟨false, 0, 0, ⟨0, 0, 0, 0, 0, 0, false⟩⟩)) (by simp)).1).cells
          have S6 := hid s6
          clear s6 S5 z0 z1 z2 z3 z4 z5 z6 z7 z8 z9 zf
          obtain ⟨v7, w7, r7, s7⟩ := (S6.out.made (E := elI)).onto okI (Row.below ((S6.out.each (lstI (.slice a6 L.length c6) L) (by simp)).1) (below_new _ _)) 27 (by have := HL.out.2.2; simp; omega)
          simp only [elI] at r7
          rw [List.nil_append] at s7
          obtain ⟨a13, c13, rfl⟩ := s7.listIs (E := elI) (v := v7) (A := L) (by simp)
          have R7 := hid r7
          clear r7
          rcases HSS.out with ⟨hL0, rfl⟩ | ⟨hL0, rfl⟩
          · have hL1 : ¬ ((0 : Int) < (L.length : Int)) := by omega
            have hL2 : ¬ (0 < L.length) := by omega
            clear hL0
            cases hz : x.z with
            | true =>
              have S7 := hid s7
              obtain ⟨v8, w8, r8, s8⟩ := s7.more okI 27 x.n (C := #[.int .i64 x.n]) rfl (by have := HL.out.2.2; omega)
              simp only [elI] at r8
              obtain ⟨a8, c8, ev8⟩ := s8.listIs (E := elI) (v := v8) (A := L ++ [x.n]) (by simp)
              subst ev8
              have HLL : Hid (L' = L ++ [x.n]) := by show _ = _; rw [HZ.out, hz]; simp
              obtain ⟨M, hM⟩ : ∃ M, L ++ [x.n] = M := ⟨_, rfl⟩
              rw [hM] at s8 r8 HLL
              obtain rfl := HLL.out
              have S8 := hid s8
              have R8 := hid r8
              have HLM : Hid (L'.length ≤ 1000) := by show _ ≤ _; rw [← hM]; simp; have := HL.out.2.2; have := HSl.out; have hh := HL.out.1; rw [← hh, waits_len]; omega
              clear r8 s8 s7 hM HZ
              go_wp2_with (first
                | (at_builtin; refine wpList_append_run rfl _ _ _ _ rfl _ _ _ _ rfl rfl R7.out ?_; obtain ⟨k0, k1, k2, k3, k4, k5, k6, k7, k8, k9⟩ := S7.out.opAt (q := qo) (x := x) (by simp); obtain ⟨y0, y1, y2, y3, y4, y5, y6, y7, y8, y9⟩ := (atT_of (x := ⟨false, 0, 0, ⟨0, 0, 0, 0, 0, 0, false⟩⟩) (S7.out.each (blk q3 (objT ⟨false, 0, 0, ⟨0, 0, 0, 0, 0, 0, false⟩⟩)) (by simp)).1).cells; clear R7)
                | (at_builtin; refine wpList_append_run rfl _ _ _ _ rfl _ _ _ _ rfl rfl R8.out ?_; obtain ⟨k0, k1, k2, k3, k4, k5, k6, k7, k8, k9⟩ := S8.out.opAt (q := qo) (x := x) (by simp); obtain ⟨y0, y1, y2, y3, y4, y5, y6, y7, y8, y9⟩ := (atT_of (x := ⟨false, 0, 0, ⟨0, 0, 0, 0, 0, 0, false⟩⟩) (S8.out.each (blk q3 (objT ⟨false, 0, 0, ⟨0, 0, 0, 0, 0, 0, false⟩⟩)) (by simp)).1).cells))
              refine Calls.mono (nums_is S8.out (u := .slice a10 L'.length c10) (v := .slice a8 L'.length c8) (A := L') (B := L') (by simp) (by simp) HLM.out rfl) ?_
              rintro e w9 ⟨rfl, s9⟩
              have S9 := hid s9
              clear s9 S8
              go_wp2_with fail
              have gm := fun (p : Grw w9) => (S9.out.grw p).opAt (q := qo) (x := x) (by simp)
              have gy := fun (p : Grw w9) => (atT_of (x := ⟨false, 0, 0, ⟨0, 0, 0, 0, 0, 0, false⟩⟩) ((S9.out.grw p).each (blk q3 (objT ⟨false, 0, 0, ⟨0, 0, 0, 0, 0, 0, false⟩⟩)) (by simp)).1).cells
              have gy0 := fun p => (gy p).1
              clear gm gy k0 k1 k2 k3 k4 k5 k6 k7 k8 k9 y0 y1 y2 y3 y4 y5 y6 y7 y8 y9
              have hgi : ∀ u : World, Inhabited (Grw u) := grw0
              refine wp_region_grw (by kernel_rfl) (by kernel_rfl) ?_
              repeat (go_big_quiet_step (fail))
              refine wpQuiet_nil ?_
              intro _ hw'
              obtain ⟨p9, hw''⟩ := hw'
              subst hw''
              have S10 := hid (S9.out.drop.grw p9)
              go_wp2
              go_round
              case rel => exact ⟨k + 1, v4, T4, by omega, by go_num, by have := HT.out; have := HSl.out; omega, S10.out.drop2.drop2.drop2.drop2⟩
              case measure => simp [intOf]; omega

            | false =>
              have HLL : Hid (L' = L) := by show _ = _; rw [HZ.out, hz]; simp
              obtain rfl := HLL.out
              have S7 := hid s7
              clear s7 HZ
              go_wp2_with (at_builtin; refine wpList_append_run rfl _ _ _ _ rfl _ _ _ _ rfl rfl R7.out ?_; obtain ⟨k0, k1, k2, k3, k4, k5, k6, k7, k8, k9⟩ := S7.out.opAt (q := qo) (x := x) (by simp); obtain ⟨y0, y1, y2, y3, y4, y5, y6, y7, y8, y9⟩ := (atT_of (x := ⟨false, 0, 0, ⟨0, 0, 0, 0, 0, 0, false⟩⟩) (S7.out.each (blk q3 (objT ⟨false, 0, 0, ⟨0, 0, 0, 0, 0, 0, false⟩⟩)) (by simp)).1).cells; clear R7)
              refine Calls.mono (nums_is S7.out (u := .slice a10 L'.length c10) (v := .slice a13 L'.length c13) (A := L') (B := L') (by simp) (by simp) HL.out.2.2 rfl) ?_
              rintro e w9 ⟨rfl, s9⟩
              have S9 := hid s9
              clear s9 S7
              go_wp2_with fail
              have gm := fun (p : Grw w9) => (S9.out.grw p).opAt (q := qo) (x := x) (by simp)
              have gy := fun (p : Grw w9) => (atT_of (x := ⟨false, 0, 0, ⟨0, 0, 0, 0, 0, 0, false⟩⟩) ((S9.out.grw p).each (blk q3 (objT ⟨false, 0, 0, ⟨0, 0, 0, 0, 0, 0, false⟩⟩)) (by simp)).1).cells
              have gy0 := fun p => (gy p).1
              clear gm gy k0 k1 k2 k3 k4 k5 k6 k7 k8 k9 y0 y1 y2 y3 y4 y5 y6 y7 y8 y9
              have hgi : ∀ u : World, Inhabited (Grw u) := grw0
              refine wp_region_grw (by kernel_rfl) (by kernel_rfl) ?_
              repeat (go_big_quiet_step (fail))
              refine wpQuiet_nil ?_
              intro _ hw'
              obtain ⟨p9, hw''⟩ := hw'
              subst hw''
              have S10 := hid (S9.out.drop.grw p9)
              go_wp2
              go_round
              case rel => exact ⟨k + 1, v4, T4, by omega, by go_num, by have := HT.out; have := HSl.out; omega, S10.out.drop2.drop2.drop2.drop2⟩
              case measure => simp [intOf]; omega

          · have hL1 : (0 : Int) < (L.length : Int) := by omega
            have hL2 : 0 < L.length := by omega
            clear hL0
            cases hz : x.z with
            | true =>
              have S7 := hid s7
              obtain ⟨v8, w8, r8, s8⟩ := s7.more okI 27 x.n (C := #[.int .i64 x.n]) rfl (by have := HL.out.2.2; omega)
              simp only [elI] at r8
              obtain ⟨a8, c8, ev8⟩ := s8.listIs (E := elI) (v := v8) (A := L ++ [x.n]) (by simp)
              subst ev8
              have HLL : Hid (L' = L ++ [x.n]) := by show _ = _; rw [HZ.out, hz]; simp
              obtain ⟨M, hM⟩ : ∃ M, L ++ [x.n] = M := ⟨_, rfl⟩
              rw [hM] at s8 r8 HLL
              obtain rfl := HLL.out
              have S8 := hid s8
              have R8 := hid r8
              have HLM : Hid (L'.length ≤ 1000) := by show _ ≤ _; rw [← hM]; simp; have := HL.out.2.2; have := HSl.out; have hh := HL.out.1; rw [← hh, waits_len]; omega
              clear r8 s8 s7 hM HZ
              go_wp2_with (first
                | (at_builtin; refine wpList_append_run rfl _ _ _ _ rfl _ _ _ _ rfl rfl R7.out ?_; obtain ⟨k0, k1, k2, k3, k4, k5, k6, k7, k8, k9⟩ := S7.out.opAt (q := qo) (x := x) (by simp); obtain ⟨y0, y1, y2, y3, y4, y5, y6, y7, y8, y9⟩ := (atT_of (x := ⟨false, 0, 0, ⟨0, 0, 0, 0, 0, 0, false⟩⟩) (S7.out.each (blk q3 (objT ⟨false, 0, 0, ⟨0, 0, 0, 0, 0, 0, false⟩⟩)) (by simp)).1).cells; clear R7)
                | (at_builtin; refine wpList_append_run rfl _ _ _ _ rfl _ _ _ _ rfl rfl R8.out ?_; obtain ⟨k0, k1, k2, k3, k4, k5, k6, k7, k8, k9⟩ := S8.out.opAt (q := qo) (x := x) (by simp); obtain ⟨y0, y1, y2, y3, y4, y5, y6, y7, y8, y9⟩ := (atT_of (x := ⟨false, 0, 0, ⟨0, 0, 0, 0, 0, 0, false⟩⟩) (S8.out.each (blk q3 (objT ⟨false, 0, 0, ⟨0, 0, 0, 0, 0, 0, false⟩⟩)) (by simp)).1).cells))
              refine Calls.mono (nums_is S8.out (u := .slice a10 L'.length c10) (v := .slice a8 L'.length c8) (A := L') (B := L') (by simp) (by simp) HLM.out rfl) ?_
              rintro e w9 ⟨rfl, s9⟩
              have S9 := hid s9
              clear s9 S8
              go_wp2_with fail
              have gm := fun (p : Grw w9) => (S9.out.grw p).opAt (q := qo) (x := x) (by simp)
              have gy := fun (p : Grw w9) => (atT_of (x := ⟨false, 0, 0, ⟨0, 0, 0, 0, 0, 0, false⟩⟩) ((S9.out.grw p).each (blk q3 (objT ⟨false, 0, 0, ⟨0, 0, 0, 0, 0, 0, false⟩⟩)) (by simp)).1).cells
              have gy0 := fun p => (gy p).1
              clear gm gy k0 k1 k2 k3 k4 k5 k6 k7 k8 k9 y0 y1 y2 y3 y4 y5 y6 y7 y8 y9
              have hgi : ∀ u : World, Inhabited (Grw u) := grw0
              refine wp_region_grw (by kernel_rfl) (by kernel_rfl) ?_
              repeat (go_big_quiet_step (fail))
              refine wpQuiet_nil ?_
              intro _ hw'
              obtain ⟨p9, hw''⟩ := hw'
              subst hw''
              have S10 := hid (S9.out.drop.grw p9)
              go_wp2
              go_round
              case rel => exact ⟨k + 1, v4, T4, by omega, by go_num, by have := HT.out; have := HSl.out; omega, S10.out.drop2.drop2.drop2.drop2⟩
              case measure => simp [intOf]; omega

            | false =>
              have HLL : Hid (L' = L) := by show _ = _; rw [HZ.out, hz]; simp
              obtain rfl := HLL.out
              have S7 := hid s7
              clear s7 HZ
              go_wp2_with (at_builtin; refine wpList_append_run rfl _ _ _ _ rfl _ _ _ _ rfl rfl R7.out ?_; obtain ⟨k0, k1, k2, k3, k4, k5, k6, k7, k8, k9⟩ := S7.out.opAt (q := qo) (x := x) (by simp); obtain ⟨y0, y1, y2, y3, y4, y5, y6, y7, y8, y9⟩ := (atT_of (x := ⟨false, 0, 0, ⟨0, 0, 0, 0, 0, 0, false⟩⟩) (S7.out.each (blk q3 (objT ⟨false, 0, 0, ⟨0, 0, 0, 0, 0, 0, false⟩⟩)) (by simp)).1).cells; clear R7)
              refine Calls.mono (nums_is S7.out (u := .slice a10 L'.length c10) (v := .slice a13 L'.length c13) (A := L') (B := L') (by simp) (by simp) HL.out.2.2 rfl) ?_
              rintro e w9 ⟨rfl, s9⟩
              have S9 := hid s9
              clear s9 S7
              go_wp2_with fail
              have gm := fun (p : Grw w9) => (S9.out.grw p).opAt (q := qo) (x := x) (by simp)
              have gy := fun (p : Grw w9) => (atT_of (x := ⟨false, 0, 0, ⟨0, 0, 0, 0, 0, 0, false⟩⟩) ((S9.out.grw p).each (blk q3 (objT ⟨false, 0, 0, ⟨0, 0, 0, 0, 0, 0, false⟩⟩)) (by simp)).1).cells
              have gy0 := fun p => (gy p).1
              clear gm gy k0 k1 k2 k3 k4 k5 k6 k7 k8 k9 y0 y1 y2 y3 y4 y5 y6 y7 y8 y9
              have hgi : ∀ u : World, Inhabited (Grw u) := grw0
              refine wp_region_grw (by kernel_rfl) (by kernel_rfl) ?_
              repeat (go_big_quiet_step (fail))
              refine wpQuiet_nil ?_
              intro _ hw'
              obtain ⟨p9, hw''⟩ := hw'
              subst hw''
              have S10 := hid (S9.out.drop.grw p9)
              go_wp2
              go_round
              case rel => exact ⟨k + 1, v4, T4, by omega, by go_num, by have := HT.out; have := HSl.out; omega, S10.out.drop2.drop2.drop2.drop2⟩
              case measure => simp [intOf]; omega

    · have hex : (¬ ((k : Int) < (X.length : Int))) ∨ ((k : Int) < (X.length : Int) ∧ ¬ ((k : Int) < 80)) := by omega
      clear hgo hS
      generalize hn : X.length = nX at *
      rcases hex with h | ⟨h, h2⟩
      all_goals
        go_wp2_with fail
        refine Calls.mono (fixed_sep S1.out) ?_
        rintro e w2 ⟨rfl, s2⟩
        have S2 := hid s2
        clear s2
        go_wp2
        go_ret
        exact ⟨rfl, by rw [HR.out]; exact S2.out.low⟩
open Go.ChangeShapes Go.WideShapes Go.ChangeAt Go.RowKit Go.Joins

/-! ### From the walk to the statement -/
set_option maxRecDepth 100000 in
theorem lifted (os : Os) (started : os.Started) (H : Type) (enc : TypeId × Value → H) :
    ReturnsInHanded {} Try.checked os 4 .any (Rows.endpointOnceSpec.pre6 enc Try.prog Try.f4 Rows.endpointOnceRow.domain false) (Rows.endpointOnceSpec.post enc Try.prog Try.f4 false true false false) := by
  refine returnsInHanded_of_change (C := Try.checked) own started (by kernel_rfl) Try.func4
    (ChangeSpec.witness6 (enc := enc) (C := Try.checked) false ⟨#[], #[.slice none 0 0], []⟩ 8 (by kernel_rfl) (by kernel_rfl) (by kernel_rfl) (by kernel_rfl)) ?_
  intro W base args ds gs before hval0 hW hcnd _
  have hval : ∀ (j : Nat) t v, Try.f4.params[j]? = some t → args[j]? = some v → Value.okWide Try.prog W .any base t v := hval0
  have hW' := hW
  obtain ⟨p, q, hA0, hV, rfl, hfz, hnd⟩ := hW
  have hA : DataW.TrodAll enc Try.prog W 0 (fun _ => true) true Try.f4.params.toList args.toList ds p := hA0
  rw [Try.params4] at hA hval
  obtain ⟨v0, vs0, d0, ds0, p0, q0, hargs, rfl, rfl, h0, r0⟩ := trodAll_cons hA
  obtain ⟨rfl, rfl, rfl⟩ := trodAll_nil r0
  obtain rfl : args = #[v0] := by cases args; simp_all
  obtain ⟨rfl, rfl⟩ := trodVars_none hV
  have k0 := h0
  have lt0 : ∀ x ∈ p0, x.block < W.heap.size := by obtain ⟨m, hm⟩ := k0; exact DataW.trod_lt m _ _ _ hm
  obtain ⟨a0, l0, c0, rfl, t0, s0⟩ := open_ops (hval 0 22 v0 rfl rfl) h0
  clear hA0 hval0
  refine (walk a0 l0 c0 W t0 s0).mono fun e W' ⟨he, bel⟩ => ?_
  subst he
  exact ⟨_, rfl, _, _, _, [], _, [], hW', trodAll_mk1 (shut_bool Try.underlying4 _), (trodAll_cons_mk (Below.trod laidOut (by kernel_rfl) (of_decide_eq_true (by kernel_rfl)) k0 bel lt0) trodAll_mk0), rfl, bel.frame _, fun h => by cases h⟩
theorem over : Rows.endpointOnceRow.holds Try.pinned (OpenSpec.ofChange Rows.endpointOnceSpec) :=
  OpenClaim.holds_of_wide 4 Try.f4 rfl rfl rfl rfl rfl rfl rfl ⟨rfl, rfl, rfl, rfl, rfl⟩ rfl rfl rfl rfl rfl (by kernel_rfl) Try.func4 (by kernel_rfl)
    (of_decide_eq_true (by kernel_rfl)) (by unfold Func.isWrapper; first | (rw [if_pos (by decide +kernel)]; kernel_rfl) | (rw [if_neg (by decide +kernel)]; exact ⟨rfl, rfl⟩))
    (fun os started H enc _ => lifted os started H enc)
end Go.Proofs.Ytnondgeengjbpaa.endpointOnce
namespace Go.Proofs.Ytnondgeengjbpaa
/-- THE STATEMENT. -/
theorem endpointOnce_said : Rows.EndpointOnceSaid := endpointOnce.over
#print axioms endpointOnce_said
end Go.Proofs.Ytnondgeengjbpaa

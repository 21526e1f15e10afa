/-
  EndpointDoes: whatever is sent and received, whoever waits no more, in any order: who meets whom, with what, and who waits, is as the document says; what is told is its owner's; no condition.
-/
import Derived.Test.YtddeiglcbnemfaaJDo
import Derived.Deep.Cut
import Derived.Deep.CutRange
namespace Go.Proofs.Ytddeiglcbnemfaa.endpointDoes
open Go.RowKit Go.Deep Go.Shelf
set_option maxHeartbeats 16000000 in
set_option maxRecDepth 100000 in
theorem walk (ao : Option Addr) (X : List Oc) (cap : Nat) (w : World) (hX : Ops w ao X) (_hxl : X.length ≤ 9223372036854775807) :
    Calls Try.prog 3 #[.slice ao X.length cap] w fun e w' => e = .returned (.bool true) ∧ Below w.heap.size w w' := by
  have HX := hid hX
  clear hX
  go_enter Try.func3, Try.ntmps3
  go_wp2_with fail
  refine Calls.mono (new_sep (sep_nil w)) ?_
  rintro e w1 ⟨p, v, rfl, s1⟩
  have s2 := (((Sep.nil (E := elI) s1).nil (E := elS)).box (objR (.slice none 0 0) (.slice none 0 0))).fourth
  unfold objR at s2
  have S1 := hid s2
  clear s1 s2
  generalize hr : w.heap.size = r at *
  have HR := hid hr
  clear hr
  go_wp2_with fail
  generalize w1.heap.size = kq at *
  go_loopw [3, 5] (fun s3 s5 wr => ∃ (i p : Nat) (v a b : Value) (S : St), i ≤ 80 ∧ s5 = .int .i64 i ∧ s3 = .pointer (some ⟨p, 0, none⟩) ∧ S.length ≤ i ∧ Sep w r wr [epT p v S, blk kq (objR a b), lstS a (sd S), lstI b (rc S)]) (fun _ s5 _ => 80 - (intOf s5).toNat)
  case atStart => exact ⟨0, p, v, _, _, [], by omega, rfl, rfl, by simp, S1.out⟩
  case round =>
    clear S1
    obtain ⟨i, p, v, a, b, S, hk, rfl, rfl, hS, s1⟩ := hrel
    have S1 := hid s1
    clear s1
    by_cases hgo : i < X.length ∧ i < 80
    · obtain ⟨hlt, h40⟩ := hgo
      obtain ⟨-, b0, a0, rfl, d0, d1, d2, d3, d4, d5, d6, d7, d8, d9⟩ := Ops.at (SeeK.below HX.out S1.out.low (by rw [HR.out]; exact Nat.le_refl _)) (List.getElem?_eq_getElem hlt)
      generalize hx : X[i] = x at *
      have HSl := hid hS
      clear hx hS
      generalize hn : X.length = n at *
      have hltz : (i : Int) < (n : Int) := by omega
      have h40z : (i : Int) < 80 := by omega
      have s3 := (((S1.out.box (objO x)).box (objT mt0)).box (objT mt0)).rot34
      have e8 : (wr.alloc (objO x)).heap.size = wr.heap.size + 1 := by simp
      have e9 : ((wr.alloc (objO x)).alloc (objT mt0)).heap.size = wr.heap.size + 1 + 1 := by simp
      rw [e8, e9] at s3
      generalize hqo : wr.heap.size = qo at *
      obtain ⟨k0, k1, k2, k3, k4, k5, k6, k7, k8, k9⟩ := s3.opAt (q := qo) (x := x) (by simp)
      have S3 := hid s3
      clear s3 e8 e9 S1
      simp only [objT, objO, mt0, ms0] at k0 k1 k2 k3 k4 k5 k6 k7 k8 k9
      by_cases hk0 : x.k = 0
      · have hq0 : (x.k == 0) = true := by simpa using hk0
        clear hk0
        obtain ⟨Y, hY⟩ : ∃ Y, sendM S x.n x.m = Y := ⟨_, rfl⟩
        obtain ⟨E, hE⟩ : ∃ E, sendE S x.n = E := ⟨_, rfl⟩
        obtain ⟨T, hT⟩ : ∃ T, sendS S x.n x.m x.z = T := ⟨_, rfl⟩
        have HD : Hid (sendM S x.n x.m = Y ∧ sendE S x.n = E ∧ sendS S x.n x.m x.z = T ∧ T.length ≤ S.length + 1) := ⟨hY, hE, hT, by rw [← hT]; exact send_len _ _ _ _⟩
        have HG := hid S3.out.good
        clear hY hE hT
        go_wp2_with fail
        refine Calls.mono (send_is S3.out x.n x.m x.z (by have := HSl.out; omega) HD.out.1 HD.out.2.1 HD.out.2.2.1) ?_
        rintro e w4 ⟨rfl, v4, s4⟩
        generalize hq8 : qo + 1 + 1 = q8 at *
        generalize hq7 : qo + 1 = q7 at *
        clear hq7 hq8
        have Z := (s4.each (blk (q7) (objT mt0)) (by simp)).1
        obtain ⟨z0, z1, z2, z3, z4, z5, z6, z7, z8, z9⟩ := (atT_of (x := mt0) Z).cells
        have zf := frozenT (x := mt0) Z
        simp only [mt0, ms0] at z0 z1 z2 z3 z4 z5 z6 z7 z8 z9
        clear Z
        have s5 := (s4.pull5.putT Y).push5
        unfold put10 at s5
        generalize hw5 : ((((((((((w4.setCell ⟨q7, 0, none⟩ (.bool Y.i)).setCell ⟨q7, 1, none⟩ (.int .i64 Y.f)).setCell ⟨q7, 2, none⟩ (.int .i64 Y.t)).setCell ⟨q7, 3, none⟩ (.int .i64 Y.m.l)).setCell ⟨q7, 4, none⟩ (.int .u64 Y.m.a)).setCell ⟨q7, 5, none⟩ (.int .u64 Y.m.b)).setCell ⟨q7, 6, none⟩ (.int .u64 Y.m.c)).setCell ⟨q7, 7, none⟩ (.int .u64 Y.m.d)).setCell ⟨q7, 8, none⟩ (.int .u64 Y.m.g)).setCell ⟨q7, 9, none⟩ (.bool Y.m.q)) = w5 at s5
        have HW5 := hid hw5
        clear k0 k1 k2 k3 k4 k5 k6 k7 k8 k9
        obtain ⟨k0, k1, k2, k3, k4, k5, k6, k7, k8, k9⟩ := s5.opAt (q := qo) (x := x) (by simp)
        have S5 : Hid (Sep w r w5 [blk kq (objR a b), lstS a (sd S), lstI b (rc S), blk (q8) (objT mt0), blk (q7) (objT Y), blk qo (objO x), epT p v4 T]) := s5.last1
        clear hw5 s4 s5 S3
        go_wp2_with (rw [HW5.out]; clear HW5 z0 z1 z2 z3 z4 z5 z6 z7 z8 z9 zf)
        refine Calls.mono (rsend_is S5.out HG.out x.n x.m x.z (by have := HSl.out; omega) HD.out.1 HD.out.2.1 HD.out.2.2.1) ?_
        rintro e w6 ⟨rfl, a', b', s6⟩
        have Z := (s6.each (blk (q8) (objT mt0)) (by simp)).1
        obtain ⟨z0, z1, z2, z3, z4, z5, z6, z7, z8, z9⟩ := (atT_of (x := mt0) Z).cells
        have zf := frozenT (x := mt0) Z
        simp only [mt0, ms0] at z0 z1 z2 z3 z4 z5 z6 z7 z8 z9
        clear Z
        have s7 := (s6.fourth.putT Y).one3
        unfold put10 at s7
        generalize hw7 : ((((((((((w6.setCell ⟨q8, 0, none⟩ (.bool Y.i)).setCell ⟨q8, 1, none⟩ (.int .i64 Y.f)).setCell ⟨q8, 2, none⟩ (.int .i64 Y.t)).setCell ⟨q8, 3, none⟩ (.int .i64 Y.m.l)).setCell ⟨q8, 4, none⟩ (.int .u64 Y.m.a)).setCell ⟨q8, 5, none⟩ (.int .u64 Y.m.b)).setCell ⟨q8, 6, none⟩ (.int .u64 Y.m.c)).setCell ⟨q8, 7, none⟩ (.int .u64 Y.m.d)).setCell ⟨q8, 8, none⟩ (.int .u64 Y.m.g)).setCell ⟨q8, 9, none⟩ (.bool Y.m.q)) = w7 at s7
        have HW7 := hid hw7
        have S7 : Hid (Sep w r w7 [epT p v4 T, blk kq (objR a' b'), lstS a' (sd T), lstI b' (rc T), blk (q8) (objT Y), blk (q7) (objT Y), blk qo (objO x)]) := Sep.front1 (R := [blk kq (objR a' b'), lstS a' (sd T), lstI b' (rc T), blk (q8) (objT Y), blk (q7) (objT Y), blk qo (objO x)]) (a := epT p v4 T) s7
        clear hw7 s6 s7 S5 k0 k1 k2 k3 k4 k5 k6 k7 k8 k9
        go_wp2_with (rw [HW7.out]; clear HW7 z0 z1 z2 z3 z4 z5 z6 z7 z8 z9 zf)
        have S5 := S7
        clear S7
        have HTl : Hid (T.length ≤ 1000) := by show _ ≤ _; have := HSl.out; have := HD.out.2.2.2; omega
        have HG2 := hid S5.out.good
        obtain ⟨L, hL⟩ : ∃ L, waitsN T = L := ⟨_, rfl⟩
        obtain ⟨β, hβ⟩ : ∃ β, hasB T true = β := ⟨_, rfl⟩
        have HL : Hid (waitsN T = L ∧ hasB T true = β ∧ L.length ≤ 1000) := ⟨hL, hβ, by rw [← hL, waits_len]; exact HTl.out⟩
        clear hL hβ
        refine Calls.mono (waits_is S5.out HTl.out HL.out.1 HL.out.2.1) ?_
        rintro e w8 ⟨a14, c14, rfl, s8⟩
        have S8 : Hid (Sep w r w8 [blk kq (objR a' b'), lstS a' (sd T), lstI b' (rc T), blk (q8) (objT Y), blk (q7) (objT Y), blk qo (objO x), epT p v4 T, lstI (.slice a14 L.length c14) L]) := s8.last1.last1
        clear s8 S5
        go_wp2_with fail
        refine Calls.mono (rwaits_is S8.out HG2.out HTl.out HL.out.1 HL.out.2.1) ?_
        rintro e w9 ⟨a16, c16, rfl, s9⟩
        obtain ⟨y0, y1, y2, y3, y4, y5, y6, y7, y8, y9⟩ := (atT_of (x := Y) (s9.each (blk (q7) (objT Y)) (by simp)).1).cells
        obtain ⟨x0, x1, x2, x3, x4, x5, x6, x7, x8, x9⟩ := (atT_of (x := Y) (s9.each (blk (q8) (objT Y)) (by simp)).1).cells
        have q1 := fun W => eq_met W Y Y
        simp only [encT, decide_true] at q1
        have S9 := hid s9
        clear s9 S8
        go_wp2_with fail
        refine Calls.mono (nums_is S9.out (u := .slice a14 L.length c14) (v := .slice a16 L.length c16) (A := L) (B := L) (by simp) (by simp) HL.out.2.2 rfl) ?_
        rintro e w10 ⟨rfl, s10⟩
        have s11 := s10.drop.fourth.drop.fourth.drop.fourth.drop.fourth.pull4.any
        have S11 := hid s11
        have hm1 : L.length ≤ 1000 := HL.out.2.2
        clear s10 s11 S9 y0 y1 y2 y3 y4 y5 y6 y7 y8 y9 x0 x1 x2 x3 x4 x5 x6 x7 x8 x9
        generalize L.length = m at *
        go_wp2_with fail
        go_loopw [18] (fun s18 wr => ∃ j : Nat, j ≤ m ∧ s18 = .int .i64 j ∧ Sep w r wr [anyI (.slice a14 m c14) m, epT p v4 T, blk kq (objR a' b'), lstS a' (sd T), lstI b' (rc T)]) (fun s18 _ => m - (intOf s18).toNat)
        case atStart => exact ⟨0, Nat.zero_le _, rfl, S11.out⟩
        case round =>
          clear S11
          obtain ⟨j, hj, rfl, s12⟩ := hrel
          by_cases hlt2 : j < m
          · have hltz2 : (j : Int) < (m : Int) := by omega
            obtain ⟨g14, rfl, ⟨y0', hy0⟩, hf0, hset⟩ := s12.over hlt2
            have S12 := hid (hset 99)
            clear s12 hset
            go_wp2
            go_round
            case rel => exact ⟨j + 1, by omega, by go_num, S12.out⟩
            case measure => simp [intOf]; omega
          · have hltz2 : ¬ (j : Int) < (m : Int) := by omega
            have S12 := hid s12.drop
            clear s12
            go_wp2
            go_round
            case rel => exact ⟨i + 1, p, v4, a', b', T, by omega, by go_num, rfl, by have := HSl.out; have := HD.out.2.2.2; omega, S12.out⟩
            case measure => simp [intOf]; omega
      · have hq0 : (x.k == 0) = false := by simpa using hk0
        clear hk0
        by_cases hk1 : x.k = 1
        · have hq1 : (x.k == 1) = true := by simpa using hk1
          clear hk1
          obtain ⟨Y, hY⟩ : ∃ Y, recvM S x.n = Y := ⟨_, rfl⟩
          obtain ⟨E, hE⟩ : ∃ E, sendE S x.n = E := ⟨_, rfl⟩
          obtain ⟨T, hT⟩ : ∃ T, recvS S x.n x.z = T := ⟨_, rfl⟩
          have HD : Hid (recvM S x.n = Y ∧ sendE S x.n = E ∧ recvS S x.n x.z = T ∧ T.length ≤ S.length + 1) := ⟨hY, hE, hT, by rw [← hT]; exact recv_len _ _ _⟩
          have HG := hid S3.out.good
          clear hY hE hT
          go_wp2_with fail
          refine Calls.mono (recv_is S3.out x.n x.z (by have := HSl.out; omega) HD.out.1 HD.out.2.1 HD.out.2.2.1) ?_
          rintro e w4 ⟨rfl, v4, s4⟩
          generalize hq8 : qo + 1 + 1 = q8 at *
          generalize hq7 : qo + 1 = q7 at *
          clear hq7 hq8
          have Z := (s4.each (blk (q7) (objT mt0)) (by simp)).1
          obtain ⟨z0, z1, z2, z3, z4, z5, z6, z7, z8, z9⟩ := (atT_of (x := mt0) Z).cells
          have zf := frozenT (x := mt0) Z
          simp only [mt0, ms0] at z0 z1 z2 z3 z4 z5 z6 z7 z8 z9
          clear Z
          have s5 := (s4.pull5.putT Y).push5
          unfold put10 at s5
          generalize hw5 : ((((((((((w4.setCell ⟨q7, 0, none⟩ (.bool Y.i)).setCell ⟨q7, 1, none⟩ (.int .i64 Y.f)).setCell ⟨q7, 2, none⟩ (.int .i64 Y.t)).setCell ⟨q7, 3, none⟩ (.int .i64 Y.m.l)).setCell ⟨q7, 4, none⟩ (.int .u64 Y.m.a)).setCell ⟨q7, 5, none⟩ (.int .u64 Y.m.b)).setCell ⟨q7, 6, none⟩ (.int .u64 Y.m.c)).setCell ⟨q7, 7, none⟩ (.int .u64 Y.m.d)).setCell ⟨q7, 8, none⟩ (.int .u64 Y.m.g)).setCell ⟨q7, 9, none⟩ (.bool Y.m.q)) = w5 at s5
          have HW5 := hid hw5
          clear k0 k1 k2 k3 k4 k5 k6 k7 k8 k9
          obtain ⟨k0, k1, k2, k3, k4, k5, k6, k7, k8, k9⟩ := s5.opAt (q := qo) (x := x) (by simp)
          have S5 : Hid (Sep w r w5 [blk kq (objR a b), lstS a (sd S), lstI b (rc S), blk (q8) (objT mt0), blk (q7) (objT Y), blk qo (objO x), epT p v4 T]) := s5.last1
          clear hw5 s4 s5 S3
          go_wp2_with (rw [HW5.out]; clear HW5 z0 z1 z2 z3 z4 z5 z6 z7 z8 z9 zf)
          refine Calls.mono (rrecv_is S5.out HG.out x.n x.z (by have := HSl.out; omega) HD.out.1 HD.out.2.1 HD.out.2.2.1) ?_
          rintro e w6 ⟨rfl, a', b', s6⟩
          have Z := (s6.each (blk (q8) (objT mt0)) (by simp)).1
          obtain ⟨z0, z1, z2, z3, z4, z5, z6, z7, z8, z9⟩ := (atT_of (x := mt0) Z).cells
          have zf := frozenT (x := mt0) Z
          simp only [mt0, ms0] at z0 z1 z2 z3 z4 z5 z6 z7 z8 z9
          clear Z
          have s7 := (s6.fourth.putT Y).one3
          unfold put10 at s7
          generalize hw7 : ((((((((((w6.setCell ⟨q8, 0, none⟩ (.bool Y.i)).setCell ⟨q8, 1, none⟩ (.int .i64 Y.f)).setCell ⟨q8, 2, none⟩ (.int .i64 Y.t)).setCell ⟨q8, 3, none⟩ (.int .i64 Y.m.l)).setCell ⟨q8, 4, none⟩ (.int .u64 Y.m.a)).setCell ⟨q8, 5, none⟩ (.int .u64 Y.m.b)).setCell ⟨q8, 6, none⟩ (.int .u64 Y.m.c)).setCell ⟨q8, 7, none⟩ (.int .u64 Y.m.d)).setCell ⟨q8, 8, none⟩ (.int .u64 Y.m.g)).setCell ⟨q8, 9, none⟩ (.bool Y.m.q)) = w7 at s7
          have HW7 := hid hw7
          have S7 : Hid (Sep w r w7 [epT p v4 T, blk kq (objR a' b'), lstS a' (sd T), lstI b' (rc T), blk (q8) (objT Y), blk (q7) (objT Y), blk qo (objO x)]) := Sep.front1 (R := [blk kq (objR a' b'), lstS a' (sd T), lstI b' (rc T), blk (q8) (objT Y), blk (q7) (objT Y), blk qo (objO x)]) (a := epT p v4 T) s7
          clear hw7 s6 s7 S5 k0 k1 k2 k3 k4 k5 k6 k7 k8 k9
          go_wp2_with (rw [HW7.out]; clear HW7 z0 z1 z2 z3 z4 z5 z6 z7 z8 z9 zf)
          have S5 := S7
          clear S7
          have HTl : Hid (T.length ≤ 1000) := by show _ ≤ _; have := HSl.out; have := HD.out.2.2.2; omega
          have HG2 := hid S5.out.good
          obtain ⟨L, hL⟩ : ∃ L, waitsN T = L := ⟨_, rfl⟩
          obtain ⟨β, hβ⟩ : ∃ β, hasB T true = β := ⟨_, rfl⟩
          have HL : Hid (waitsN T = L ∧ hasB T true = β ∧ L.length ≤ 1000) := ⟨hL, hβ, by rw [← hL, waits_len]; exact HTl.out⟩
          clear hL hβ
          refine Calls.mono (waits_is S5.out HTl.out HL.out.1 HL.out.2.1) ?_
          rintro e w8 ⟨a14, c14, rfl, s8⟩
          have S8 : Hid (Sep w r w8 [blk kq (objR a' b'), lstS a' (sd T), lstI b' (rc T), blk (q8) (objT Y), blk (q7) (objT Y), blk qo (objO x), epT p v4 T, lstI (.slice a14 L.length c14) L]) := s8.last1.last1
          clear s8 S5
          go_wp2_with fail
          refine Calls.mono (rwaits_is S8.out HG2.out HTl.out HL.out.1 HL.out.2.1) ?_
          rintro e w9 ⟨a16, c16, rfl, s9⟩
          obtain ⟨y0, y1, y2, y3, y4, y5, y6, y7, y8, y9⟩ := (atT_of (x := Y) (s9.each (blk (q7) (objT Y)) (by simp)).1).cells
          obtain ⟨x0, x1, x2, x3, x4, x5, x6, x7, x8, x9⟩ := (atT_of (x := Y) (s9.each (blk (q8) (objT Y)) (by simp)).1).cells
          have q1 := fun W => eq_met W Y Y
          simp only [encT, decide_true] at q1
          have S9 := hid s9
          clear s9 S8
          go_wp2_with fail
          refine Calls.mono (nums_is S9.out (u := .slice a14 L.length c14) (v := .slice a16 L.length c16) (A := L) (B := L) (by simp) (by simp) HL.out.2.2 rfl) ?_
          rintro e w10 ⟨rfl, s10⟩
          have s11 := s10.drop.fourth.drop.fourth.drop.fourth.drop.fourth.pull4.any
          have S11 := hid s11
          have hm1 : L.length ≤ 1000 := HL.out.2.2
          clear s10 s11 S9 y0 y1 y2 y3 y4 y5 y6 y7 y8 y9 x0 x1 x2 x3 x4 x5 x6 x7 x8 x9
          generalize L.length = m at *
          go_wp2_with fail
          go_loopw [18] (fun s18 wr => ∃ j : Nat, j ≤ m ∧ s18 = .int .i64 j ∧ Sep w r wr [anyI (.slice a14 m c14) m, epT p v4 T, blk kq (objR a' b'), lstS a' (sd T), lstI b' (rc T)]) (fun s18 _ => m - (intOf s18).toNat)
          case atStart => exact ⟨0, Nat.zero_le _, rfl, S11.out⟩
          case round =>
            clear S11
            obtain ⟨j, hj, rfl, s12⟩ := hrel
            by_cases hlt2 : j < m
            · have hltz2 : (j : Int) < (m : Int) := by omega
              obtain ⟨g14, rfl, ⟨y0', hy0⟩, hf0, hset⟩ := s12.over hlt2
              have S12 := hid (hset 99)
              clear s12 hset
              go_wp2
              go_round
              case rel => exact ⟨j + 1, by omega, by go_num, S12.out⟩
              case measure => simp [intOf]; omega
            · have hltz2 : ¬ (j : Int) < (m : Int) := by omega
              have S12 := hid s12.drop
              clear s12
              go_wp2
              go_round
              case rel => exact ⟨i + 1, p, v4, a', b', T, by omega, by go_num, rfl, by have := HSl.out; have := HD.out.2.2.2; omega, S12.out⟩
              case measure => simp [intOf]; omega
        · have hq1 : (x.k == 1) = false := by simpa using hk1
          clear hk1
          by_cases hk2 : x.k = 2
          · have hq2 : (x.k == 2) = true := by simpa using hk2
            clear hk2
            obtain ⟨β, hβ⟩ : ∃ β, thB S x.n = β := ⟨_, rfl⟩
            obtain ⟨T, hT⟩ : ∃ T, outS (isW x.n) S = T := ⟨_, rfl⟩
            obtain ⟨Y, hY⟩ : ∃ Y, mt0 = Y := ⟨_, rfl⟩
            have HD : Hid (thB S x.n = β ∧ outS (isW x.n) S = T ∧ mt0 = Y ∧ T.length ≤ S.length + 1) := ⟨hβ, hT, hY, by rw [← hT]; have := out_len (isW x.n) S; omega⟩
            have HG := hid S3.out.good
            clear hY hβ hT
            go_wp2_with fail
            refine Calls.mono (cancel_is' S3.out x.n (by have := HSl.out; omega) HD.out.1 HD.out.2.1) ?_
            rintro e w4 ⟨rfl, v4, s4⟩
            generalize hq8 : qo + 1 + 1 = q8 at *
            generalize hq7 : qo + 1 = q7 at *
            clear hq7 hq8
            clear k0 k1 k2 k3 k4 k5 k6 k7 k8 k9
            obtain ⟨k0, k1, k2, k3, k4, k5, k6, k7, k8, k9⟩ := s4.opAt (q := qo) (x := x) (by simp)
            rw [HD.out.2.2.1] at s4
            have S4 : Hid (Sep w r w4 [blk kq (objR a b), lstS a (sd S), lstI b (rc S), blk (q8) (objT Y), blk (q7) (objT Y), blk qo (objO x), epT p v4 T]) := s4.last1
            clear s4 S3
            go_wp2_with fail
            refine Calls.mono (rcancel_is S4.out HG.out x.n (by have := HSl.out; omega) HD.out.1 HD.out.2.1) ?_
            rintro e w6 ⟨rfl, a', b', s6⟩
            have S5 : Hid (Sep w r w6 [epT p v4 T, blk kq (objR a' b'), lstS a' (sd T), lstI b' (rc T), blk (q8) (objT Y), blk (q7) (objT Y), blk qo (objO x)]) := Sep.front1 (R := [blk kq (objR a' b'), lstS a' (sd T), lstI b' (rc T), blk (q8) (objT Y), blk (q7) (objT Y), blk qo (objO x)]) (a := epT p v4 T) s6
            clear s6 S4 k0 k1 k2 k3 k4 k5 k6 k7 k8 k9
            go_wp2_with fail
            have HTl : Hid (T.length ≤ 1000) := by show _ ≤ _; have := HSl.out; have := HD.out.2.2.2; omega
            have HG2 := hid S5.out.good
            obtain ⟨L, hL⟩ : ∃ L, waitsN T = L := ⟨_, rfl⟩
            obtain ⟨β, hβ⟩ : ∃ β, hasB T true = β := ⟨_, rfl⟩
            have HL : Hid (waitsN T = L ∧ hasB T true = β ∧ L.length ≤ 1000) := ⟨hL, hβ, by rw [← hL, waits_len]; exact HTl.out⟩
            clear hL hβ
            refine Calls.mono (waits_is S5.out HTl.out HL.out.1 HL.out.2.1) ?_
            rintro e w8 ⟨a14, c14, rfl, s8⟩
            have S8 : Hid (Sep w r w8 [blk kq (objR a' b'), lstS a' (sd T), lstI b' (rc T), blk (q8) (objT Y), blk (q7) (objT Y), blk qo (objO x), epT p v4 T, lstI (.slice a14 L.length c14) L]) := s8.last1.last1
            clear s8 S5
            go_wp2_with fail
            refine Calls.mono (rwaits_is S8.out HG2.out HTl.out HL.out.1 HL.out.2.1) ?_
            rintro e w9 ⟨a16, c16, rfl, s9⟩
            obtain ⟨y0, y1, y2, y3, y4, y5, y6, y7, y8, y9⟩ := (atT_of (x := Y) (s9.each (blk (q7) (objT Y)) (by simp)).1).cells
            obtain ⟨x0, x1, x2, x3, x4, x5, x6, x7, x8, x9⟩ := (atT_of (x := Y) (s9.each (blk (q8) (objT Y)) (by simp)).1).cells
            have q1 := fun W => eq_met W Y Y
            simp only [encT, decide_true] at q1
            have S9 := hid s9
            clear s9 S8
            go_wp2_with fail
            refine Calls.mono (nums_is S9.out (u := .slice a14 L.length c14) (v := .slice a16 L.length c16) (A := L) (B := L) (by simp) (by simp) HL.out.2.2 rfl) ?_
            rintro e w10 ⟨rfl, s10⟩
            have s11 := s10.drop.fourth.drop.fourth.drop.fourth.drop.fourth.pull4.any
            have S11 := hid s11
            have hm1 : L.length ≤ 1000 := HL.out.2.2
            clear s10 s11 S9 y0 y1 y2 y3 y4 y5 y6 y7 y8 y9 x0 x1 x2 x3 x4 x5 x6 x7 x8 x9
            generalize L.length = m at *
            go_wp2_with fail
            go_loopw [18] (fun s18 wr => ∃ j : Nat, j ≤ m ∧ s18 = .int .i64 j ∧ Sep w r wr [anyI (.slice a14 m c14) m, epT p v4 T, blk kq (objR a' b'), lstS a' (sd T), lstI b' (rc T)]) (fun s18 _ => m - (intOf s18).toNat)
            case atStart => exact ⟨0, Nat.zero_le _, rfl, S11.out⟩
            case round =>
              clear S11
              obtain ⟨j, hj, rfl, s12⟩ := hrel
              by_cases hlt2 : j < m
              · have hltz2 : (j : Int) < (m : Int) := by omega
                obtain ⟨g14, rfl, ⟨y0', hy0⟩, hf0, hset⟩ := s12.over hlt2
                have S12 := hid (hset 99)
                clear s12 hset
                go_wp2
                go_round
                case rel => exact ⟨j + 1, by omega, by go_num, S12.out⟩
                case measure => simp [intOf]; omega
              · have hltz2 : ¬ (j : Int) < (m : Int) := by omega
                have S12 := hid s12.drop
                clear s12
                go_wp2
                go_round
                case rel => exact ⟨i + 1, p, v4, a', b', T, by omega, by go_num, rfl, by have := HSl.out; have := HD.out.2.2.2; omega, S12.out⟩
                case measure => simp [intOf]; omega
          · have hq2 : (x.k == 2) = false := by simpa using hk2
            clear hk2
            by_cases hk3 : x.k = 3
            · have hq3 : (x.k == 3) = true := by simpa using hk3
              clear hk3
              obtain ⟨B0, hB⟩ : ∃ B0, outN (isG x.m.g) S = B0 := ⟨_, rfl⟩
              obtain ⟨T, hT⟩ : ∃ T, outS (isG x.m.g) S = T := ⟨_, rfl⟩
              obtain ⟨Y, hY⟩ : ∃ Y, mt0 = Y := ⟨_, rfl⟩
              have HD : Hid ((outN (isG x.m.g) S = B0 ∧ B0.length ≤ 1000) ∧ outS (isG x.m.g) S = T ∧ mt0 = Y ∧ T.length ≤ S.length + 1) := ⟨⟨hB, by rw [← hB]; have := outN_len (isG x.m.g) S; have := HSl.out; omega⟩, hT, hY, by rw [← hT]; have := out_len (isG x.m.g) S; omega⟩
              clear hY hB hT
              go_wp2_with fail
              refine Calls.mono (badge_is S3.out x.m.g (by have := HSl.out; omega) HD.out.1.1 HD.out.2.1) ?_
              rintro e w4 ⟨a12, c12, v4, rfl, s4⟩
              generalize hq8 : qo + 1 + 1 = q8 at *
              generalize hq7 : qo + 1 = q7 at *
              clear hq7 hq8
              clear k0 k1 k2 k3 k4 k5 k6 k7 k8 k9
              obtain ⟨k0, k1, k2, k3, k4, k5, k6, k7, k8, k9⟩ := s4.opAt (q := qo) (x := x) (by simp)
              rw [HD.out.2.2.1] at s4
              have S4 : Hid (Sep w r w4 [blk kq (objR a b), lstS a (sd S), lstI b (rc S), blk (q8) (objT Y), blk (q7) (objT Y), blk qo (objO x), epT p v4 T, lstI (.slice a12 B0.length c12) B0]) := s4.last1.last1
              clear s4 S3
              go_wp2_with fail
              refine Calls.mono (rbadge_is S4.out x.m.g (by have := HSl.out; omega) HD.out.1.1 HD.out.2.1) ?_
              rintro e w6 ⟨a13, c13, a', rfl, s6⟩
              have S6 := hid s6
              clear s6 S4 k0 k1 k2 k3 k4 k5 k6 k7 k8 k9
              go_wp2_with fail
              refine Calls.mono (nums_is S6.out (u := .slice a12 B0.length c12) (v := .slice a13 B0.length c13) (A := B0) (B := B0) (by simp) (by simp) HD.out.1.2 rfl) ?_
              rintro e w7 ⟨rfl, s7⟩
              have s7' := s7.fourth.drop
              have s7b : Sep w r w7 [blk kq (objR a' b), lstS a' (sd T), lstI b (rc T), blk (q8) (objT Y), blk (q7) (objT Y), blk qo (objO x), epT p v4 T] := (Sep.front1 (R := [blk kq (objR a' b), lstS a' (sd T), lstI b (rc T), blk (q8) (objT Y), blk (q7) (objT Y), blk qo (objO x), epT p v4 T]) (a := lstI (.slice a12 B0.length c12) B0) s7').drop
              have S5 : Hid (Sep w r w7 [epT p v4 T, blk kq (objR a' b), lstS a' (sd T), lstI b (rc T), blk (q8) (objT Y), blk (q7) (objT Y), blk qo (objO x)]) := Sep.front1 (R := [blk kq (objR a' b), lstS a' (sd T), lstI b (rc T), blk (q8) (objT Y), blk (q7) (objT Y), blk qo (objO x)]) (a := epT p v4 T) s7b
              clear s7 s7' s7b S6
              generalize B0.length = mB at *
              have HG := hid S5.out.good
              go_wp2_with fail
              have HTl : Hid (T.length ≤ 1000) := by show _ ≤ _; have := HSl.out; have := HD.out.2.2.2; omega
              have HG2 := hid S5.out.good
              obtain ⟨L, hL⟩ : ∃ L, waitsN T = L := ⟨_, rfl⟩
              obtain ⟨β, hβ⟩ : ∃ β, hasB T true = β := ⟨_, rfl⟩
              have HL : Hid (waitsN T = L ∧ hasB T true = β ∧ L.length ≤ 1000) := ⟨hL, hβ, by rw [← hL, waits_len]; exact HTl.out⟩
              clear hL hβ
              refine Calls.mono (waits_is S5.out HTl.out HL.out.1 HL.out.2.1) ?_
              rintro e w8 ⟨a14, c14, rfl, s8⟩
              have S8 : Hid (Sep w r w8 [blk kq (objR a' b), lstS a' (sd T), lstI b (rc T), blk (q8) (objT Y), blk (q7) (objT Y), blk qo (objO x), epT p v4 T, lstI (.slice a14 L.length c14) L]) := s8.last1.last1
              clear s8 S5
              go_wp2_with fail
              refine Calls.mono (rwaits_is S8.out HG2.out HTl.out HL.out.1 HL.out.2.1) ?_
              rintro e w9 ⟨a16, c16, rfl, s9⟩
              obtain ⟨y0, y1, y2, y3, y4, y5, y6, y7, y8, y9⟩ := (atT_of (x := Y) (s9.each (blk (q7) (objT Y)) (by simp)).1).cells
              obtain ⟨x0, x1, x2, x3, x4, x5, x6, x7, x8, x9⟩ := (atT_of (x := Y) (s9.each (blk (q8) (objT Y)) (by simp)).1).cells
              have q1 := fun W => eq_met W Y Y
              simp only [encT, decide_true] at q1
              have S9 := hid s9
              clear s9 S8
              go_wp2_with fail
              refine Calls.mono (nums_is S9.out (u := .slice a14 L.length c14) (v := .slice a16 L.length c16) (A := L) (B := L) (by simp) (by simp) HL.out.2.2 rfl) ?_
              rintro e w10 ⟨rfl, s10⟩
              have s11 := s10.drop.fourth.drop.fourth.drop.fourth.drop.fourth.pull4.any
              have S11 := hid s11
              have hm1 : L.length ≤ 1000 := HL.out.2.2
              clear s10 s11 S9 y0 y1 y2 y3 y4 y5 y6 y7 y8 y9 x0 x1 x2 x3 x4 x5 x6 x7 x8 x9
              generalize L.length = m at *
              go_wp2_with fail
              go_loopw [18] (fun s18 wr => ∃ j : Nat, j ≤ m ∧ s18 = .int .i64 j ∧ Sep w r wr [anyI (.slice a14 m c14) m, epT p v4 T, blk kq (objR a' b), lstS a' (sd T), lstI b (rc T)]) (fun s18 _ => m - (intOf s18).toNat)
              case atStart => exact ⟨0, Nat.zero_le _, rfl, S11.out⟩
              case round =>
                clear S11
                obtain ⟨j, hj, rfl, s12⟩ := hrel
                by_cases hlt2 : j < m
                · have hltz2 : (j : Int) < (m : Int) := by omega
                  obtain ⟨g14, rfl, ⟨y0', hy0⟩, hf0, hset⟩ := s12.over hlt2
                  have S12 := hid (hset 99)
                  clear s12 hset
                  go_wp2
                  go_round
                  case rel => exact ⟨j + 1, by omega, by go_num, S12.out⟩
                  case measure => simp [intOf]; omega
                · have hltz2 : ¬ (j : Int) < (m : Int) := by omega
                  have S12 := hid s12.drop
                  clear s12
                  go_wp2
                  go_round
                  case rel => exact ⟨i + 1, p, v4, a', b, T, by omega, by go_num, rfl, by have := HSl.out; have := HD.out.2.2.2; omega, S12.out⟩
                  case measure => simp [intOf]; omega
            · have hq3 : (x.k == 3) = false := by simpa using hk3
              clear hk3
              by_cases hk4 : x.k = 4
              · have hq4 : (x.k == 4) = true := by simpa using hk4
                clear hk4
                obtain ⟨Y, hY⟩ : ∃ Y, mt0 = Y := ⟨_, rfl⟩
                have HD : Hid (True ∧ True ∧ mt0 = Y ∧ S.length ≤ S.length + 1) := ⟨trivial, trivial, hY, by omega⟩
                clear hY
                go_wp2_with fail
                refine Calls.mono (copy_sep S3.out (by have := HSl.out; omega)) ?_
                rintro e w4 ⟨p4, v4, rfl, s4⟩
                generalize hq8 : qo + 1 + 1 = q8 at *
                generalize hq7 : qo + 1 = q7 at *
                clear hq7 hq8
                rw [HD.out.2.2.1] at s4
                have S4 := hid s4.swap
                clear s4 S3
                go_wp2_with fail
                refine Calls.mono (recv_is (x := recvM S 777) (e0 := sendE S 777) (T := recvS S 777 true) S4.out 777 true (by have := HSl.out; omega) rfl rfl rfl) ?_
                rintro e w5 ⟨rfl, v5, s5⟩
                clear k0 k1 k2 k3 k4 k5 k6 k7 k8 k9
                obtain ⟨k0, k1, k2, k3, k4, k5, k6, k7, k8, k9⟩ := s5.opAt (q := qo) (x := x) (by simp)
                obtain ⟨T5, hT5⟩ : ∃ T5, recvS S 777 true = T5 := ⟨_, rfl⟩
                have HT5 : Hid (T5.length ≤ 1000) := by show _ ≤ _; rw [← hT5]; have := recv_len S 777 true; have := HSl.out; omega
                rw [hT5] at s5
                have S5 := hid s5
                clear s5 S4 hT5
                generalize recvM S 777 = Y5 at *
                generalize sendE S 777 = E5 at *
                go_wp2_with fail
                refine Calls.mono (cancel_sep S5.out x.n HT5.out) ?_
                rintro e w6 ⟨rfl, v6, s6⟩
                have S6 := hid s6.drop
                clear s6 S5 k0 k1 k2 k3 k4 k5 k6 k7 k8 k9
                generalize thB T5 x.n = β6 at *
                have S5 := S6
                clear S6
                go_wp2_with fail
                have HTl : Hid (S.length ≤ 1000) := by show _ ≤ _; have := HSl.out; have := HD.out.2.2.2; omega
                have HG2 := hid S5.out.good
                obtain ⟨L, hL⟩ : ∃ L, waitsN S = L := ⟨_, rfl⟩
                obtain ⟨β, hβ⟩ : ∃ β, hasB S true = β := ⟨_, rfl⟩
                have HL : Hid (waitsN S = L ∧ hasB S true = β ∧ L.length ≤ 1000) := ⟨hL, hβ, by rw [← hL, waits_len]; exact HTl.out⟩
                clear hL hβ
                refine Calls.mono (waits_is S5.out HTl.out HL.out.1 HL.out.2.1) ?_
                rintro e w8 ⟨a14, c14, rfl, s8⟩
                have S8 : Hid (Sep w r w8 [blk kq (objR a b), lstS a (sd S), lstI b (rc S), blk (q8) (objT Y), blk (q7) (objT Y), blk qo (objO x), epT p4 v4 S, lstI (.slice a14 L.length c14) L]) := s8.last1.last1
                clear s8 S5
                go_wp2_with fail
                refine Calls.mono (rwaits_is S8.out HG2.out HTl.out HL.out.1 HL.out.2.1) ?_
                rintro e w9 ⟨a16, c16, rfl, s9⟩
                obtain ⟨y0, y1, y2, y3, y4, y5, y6, y7, y8, y9⟩ := (atT_of (x := Y) (s9.each (blk (q7) (objT Y)) (by simp)).1).cells
                obtain ⟨x0, x1, x2, x3, x4, x5, x6, x7, x8, x9⟩ := (atT_of (x := Y) (s9.each (blk (q8) (objT Y)) (by simp)).1).cells
                have q1 := fun W => eq_met W Y Y
                simp only [encT, decide_true] at q1
                have S9 := hid s9
                clear s9 S8
                go_wp2_with fail
                refine Calls.mono (nums_is S9.out (u := .slice a14 L.length c14) (v := .slice a16 L.length c16) (A := L) (B := L) (by simp) (by simp) HL.out.2.2 rfl) ?_
                rintro e w10 ⟨rfl, s10⟩
                have s11 := s10.drop.fourth.drop.fourth.drop.fourth.drop.fourth.pull4.any
                have S11 := hid s11
                have hm1 : L.length ≤ 1000 := HL.out.2.2
                clear s10 s11 S9 y0 y1 y2 y3 y4 y5 y6 y7 y8 y9 x0 x1 x2 x3 x4 x5 x6 x7 x8 x9
                generalize L.length = m at *
                go_wp2_with fail
                go_loopw [18] (fun s18 wr => ∃ j : Nat, j ≤ m ∧ s18 = .int .i64 j ∧ Sep w r wr [anyI (.slice a14 m c14) m, epT p4 v4 S, blk kq (objR a b), lstS a (sd S), lstI b (rc S)]) (fun s18 _ => m - (intOf s18).toNat)
                case atStart => exact ⟨0, Nat.zero_le _, rfl, S11.out⟩
                case round =>
                  clear S11
                  obtain ⟨j, hj, rfl, s12⟩ := hrel
                  by_cases hlt2 : j < m
                  · have hltz2 : (j : Int) < (m : Int) := by omega
                    obtain ⟨g14, rfl, ⟨y0', hy0⟩, hf0, hset⟩ := s12.over hlt2
                    have S12 := hid (hset 99)
                    clear s12 hset
                    go_wp2
                    go_round
                    case rel => exact ⟨j + 1, by omega, by go_num, S12.out⟩
                    case measure => simp [intOf]; omega
                  · have hltz2 : ¬ (j : Int) < (m : Int) := by omega
                    have S12 := hid s12.drop
                    clear s12
                    go_wp2
                    go_round
                    case rel => exact ⟨i + 1, p4, v4, a, b, S, by omega, by go_num, rfl, by have := HSl.out; have := HD.out.2.2.2; omega, S12.out⟩
                    case measure => simp [intOf]; omega
              · have hq4 : (x.k == 4) = false := by simpa using hk4
                clear hk4
                obtain ⟨Y, hY⟩ : ∃ Y, mt0 = Y := ⟨_, rfl⟩
                have HD : Hid (True ∧ True ∧ mt0 = Y ∧ S.length ≤ S.length + 1) := ⟨trivial, trivial, hY, by omega⟩
                clear hY
                have S5 := S3
                clear S3
                go_wp2_with fail
                have HTl : Hid (S.length ≤ 1000) := by show _ ≤ _; have := HSl.out; have := HD.out.2.2.2; omega
                have HG2 := hid S5.out.good
                obtain ⟨L, hL⟩ : ∃ L, waitsN S = L := ⟨_, rfl⟩
                obtain ⟨β, hβ⟩ : ∃ β, hasB S true = β := ⟨_, rfl⟩
                have HL : Hid (waitsN S = L ∧ hasB S true = β ∧ L.length ≤ 1000) := ⟨hL, hβ, by rw [← hL, waits_len]; exact HTl.out⟩
                clear hL hβ
                refine Calls.mono (waits_is S5.out HTl.out HL.out.1 HL.out.2.1) ?_
                rintro e w8 ⟨a14, c14, rfl, s8⟩
                generalize hq8 : qo + 1 + 1 = q8 at *
                generalize hq7 : qo + 1 = q7 at *
                clear hq7 hq8
                rw [HD.out.2.2.1] at s8
                clear k0 k1 k2 k3 k4 k5 k6 k7 k8 k9
                have S8 : Hid (Sep w r w8 [blk kq (objR a b), lstS a (sd S), lstI b (rc S), blk (q8) (objT Y), blk (q7) (objT Y), blk qo (objO x), epT p v S, lstI (.slice a14 L.length c14) L]) := s8.last1.last1
                clear s8 S5
                go_wp2_with fail
                refine Calls.mono (rwaits_is S8.out HG2.out HTl.out HL.out.1 HL.out.2.1) ?_
                rintro e w9 ⟨a16, c16, rfl, s9⟩
                obtain ⟨y0, y1, y2, y3, y4, y5, y6, y7, y8, y9⟩ := (atT_of (x := Y) (s9.each (blk (q7) (objT Y)) (by simp)).1).cells
                obtain ⟨x0, x1, x2, x3, x4, x5, x6, x7, x8, x9⟩ := (atT_of (x := Y) (s9.each (blk (q8) (objT Y)) (by simp)).1).cells
                have q1 := fun W => eq_met W Y Y
                simp only [encT, decide_true] at q1
                have S9 := hid s9
                clear s9 S8
                go_wp2_with fail
                refine Calls.mono (nums_is S9.out (u := .slice a14 L.length c14) (v := .slice a16 L.length c16) (A := L) (B := L) (by simp) (by simp) HL.out.2.2 rfl) ?_
                rintro e w10 ⟨rfl, s10⟩
                have s11 := s10.drop.fourth.drop.fourth.drop.fourth.drop.fourth.pull4.any
                have S11 := hid s11
                have hm1 : L.length ≤ 1000 := HL.out.2.2
                clear s10 s11 S9 y0 y1 y2 y3 y4 y5 y6 y7 y8 y9 x0 x1 x2 x3 x4 x5 x6 x7 x8 x9
                generalize L.length = m at *
                go_wp2_with fail
                go_loopw [18] (fun s18 wr => ∃ j : Nat, j ≤ m ∧ s18 = .int .i64 j ∧ Sep w r wr [anyI (.slice a14 m c14) m, epT p v S, blk kq (objR a b), lstS a (sd S), lstI b (rc S)]) (fun s18 _ => m - (intOf s18).toNat)
                case atStart => exact ⟨0, Nat.zero_le _, rfl, S11.out⟩
                case round =>
                  clear S11
                  obtain ⟨j, hj, rfl, s12⟩ := hrel
                  by_cases hlt2 : j < m
                  · have hltz2 : (j : Int) < (m : Int) := by omega
                    obtain ⟨g14, rfl, ⟨y0', hy0⟩, hf0, hset⟩ := s12.over hlt2
                    have S12 := hid (hset 99)
                    clear s12 hset
                    go_wp2
                    go_round
                    case rel => exact ⟨j + 1, by omega, by go_num, S12.out⟩
                    case measure => simp [intOf]; omega
                  · have hltz2 : ¬ (j : Int) < (m : Int) := by omega
                    have S12 := hid s12.drop
                    clear s12
                    go_wp2
                    go_round
                    case rel => exact ⟨i + 1, p, v, a, b, S, by omega, by go_num, rfl, by have := HSl.out; have := HD.out.2.2.2; omega, S12.out⟩
                    case measure => simp [intOf]; omega

    · have hex : (¬ ((i : Int) < (X.length : Int))) ∨ ((i : Int) < (X.length : Int) ∧ ¬ ((i : Int) < 80)) := by omega
      clear hgo hS
      generalize hn : X.length = nX at *
      rcases hex with h | ⟨h, h2⟩
      all_goals
        go_wp2_with fail
        refine Calls.mono (fixed_sep S1.out) ?_
        rintro e w2 ⟨rfl, s2⟩
        have S2 := hid s2
        clear s2
        go_wp2
        go_ret
        exact ⟨rfl, by rw [HR.out]; exact S2.out.low⟩
open Go.ChangeShapes Go.WideShapes Go.ChangeAt Go.RowKit Go.Joins

/-! ### From the walk to the statement -/
set_option maxRecDepth 100000 in
theorem lifted (os : Os) (started : os.Started) (H : Type) (enc : TypeId × Value → H) :
    ReturnsInHanded {} Try.checked os 3 .any (Rows.endpointDoesSpec.pre6 enc Try.prog Try.f3 Rows.endpointDoesRow.domain false) (Rows.endpointDoesSpec.post enc Try.prog Try.f3 false true false false) := by
  refine returnsInHanded_of_change (C := Try.checked) own started (by kernel_rfl) Try.func3
    (ChangeSpec.witness6 (enc := enc) (C := Try.checked) false ⟨#[], #[.slice none 0 0], []⟩ 8 (by kernel_rfl) (by kernel_rfl) (by kernel_rfl) (by kernel_rfl)) ?_
  intro W base args ds gs before hval0 hW hcnd _
  have hval : ∀ (j : Nat) t v, Try.f3.params[j]? = some t → args[j]? = some v → Value.okWide Try.prog W .any base t v := hval0
  have hW' := hW
  obtain ⟨p, q, hA0, hV, rfl, hfz, hnd⟩ := hW
  have hA : DataW.TrodAll enc Try.prog W 0 (fun _ => true) true Try.f3.params.toList args.toList ds p := hA0
  rw [Try.params3] at hA hval
  obtain ⟨v0, vs0, d0, ds0, p0, q0, hargs, rfl, rfl, h0, r0⟩ := trodAll_cons hA
  obtain ⟨rfl, rfl, rfl⟩ := trodAll_nil r0
  obtain rfl : args = #[v0] := by cases args; simp_all
  obtain ⟨rfl, rfl⟩ := trodVars_none hV
  have k0 := h0
  have lt0 : ∀ x ∈ p0, x.block < W.heap.size := by obtain ⟨m, hm⟩ := k0; exact DataW.trod_lt m _ _ _ hm
  obtain ⟨a0, l0, c0, rfl, t0, s0⟩ := open_ops (hval 0 22 v0 rfl rfl) h0
  clear hA0 hval0
  refine (walk a0 l0 c0 W t0 s0).mono fun e W' ⟨he, bel⟩ => ?_
  subst he
  exact ⟨_, rfl, _, _, _, [], _, [], hW', trodAll_mk1 (shut_bool Try.underlying4 _), (trodAll_cons_mk (Below.trod laidOut (by kernel_rfl) (of_decide_eq_true (by kernel_rfl)) k0 bel lt0) trodAll_mk0), rfl, bel.frame _, fun h => by cases h⟩
theorem over : Rows.endpointDoesRow.holds Try.pinned (OpenSpec.ofChange Rows.endpointDoesSpec) :=
  OpenClaim.holds_of_wide 3 Try.f3 rfl rfl rfl rfl rfl rfl rfl ⟨rfl, rfl, rfl, rfl, rfl⟩ rfl rfl rfl rfl rfl (by kernel_rfl) Try.func3 (by kernel_rfl)
    (of_decide_eq_true (by kernel_rfl)) (by unfold Func.isWrapper; first | (rw [if_pos (by decide +kernel)]; kernel_rfl) | (rw [if_neg (by decide +kernel)]; exact ⟨rfl, rfl⟩))
    (fun os started H enc _ => lifted os started H enc)
end Go.Proofs.Ytddeiglcbnemfaa.endpointDoes
namespace Go.Proofs.Ytddeiglcbnemfaa
/-- THE STATEMENT. -/
theorem endpointDoes_said : Rows.EndpointDoesSaid := endpointDoes.over
#print axioms endpointDoes_said
end Go.Proofs.Ytddeiglcbnemfaa

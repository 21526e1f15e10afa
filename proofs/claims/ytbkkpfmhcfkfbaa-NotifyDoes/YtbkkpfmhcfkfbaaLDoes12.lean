/-
  NotifyDoes: whatever is signalled, whoever waits, or waits no more, in any order: each answer, the word, and who waits, is as the document says; what is told is its owner's; no condition.
-/
import Derived.Test.YtbkkpfmhcfkfbaaVDo
import Derived.Deep.Cut
import Derived.Deep.CutRange
namespace Go.Proofs.Ytbkkpfmhcfkfbaa.notifyDoes
open Go.RowKit Go.Deep Go.Shelf
set_option maxHeartbeats 16000000 in
set_option maxRecDepth 100000 in
theorem walk (ao : Option Addr) (X : List Oc) (cap : Nat) (w : World) (hX : Ops w ao X) (_hxl : X.length ≤ 9223372036854775807) :
    Calls Try.prog 3 #[.slice ao X.length cap] w fun e w' => e = .returned (.bool true) ∧ Below w.heap.size w w' := by
  have HX := hid hX
  clear hX
  go_enter Try.func3, Try.ntmps3
  go_wp2_with fail
  refine Calls.mono (new_sep (sep_nil w)) ?_
  rintro e w1 ⟨p, v, rfl, s1⟩
  have s2 := (((Sep.nil (E := elI) s1).nil (E := elU)).box (objR (.slice none 0 0) (.slice none 0 0)))
  have s3 : Sep w w.heap.size (w1.alloc (objR (.slice none 0 0) (.slice none 0 0))) [ntT p v ns0, blk w1.heap.size (objR (.slice none 0 0) (.slice none 0 0)), lstU (.slice none 0 0) [], lstI (.slice none 0 0) []] := Sep.front1 (R := [blk w1.heap.size (objR (.slice none 0 0) (.slice none 0 0)), lstU (.slice none 0 0) [], lstI (.slice none 0 0) []]) (a := ntT p v ns0) s2
  unfold objR at s3
  have S1 := hid s3
  clear s1 s2 s3
  generalize hr : w.heap.size = r at *
  have HR := hid hr
  clear hr
  go_wp2_with fail
  generalize w1.heap.size = kq at *
  go_loopw [3, 5] (fun s3 s5 wr => ∃ (i p : Nat) (v a b : Value) (B : List Int) (S : Ns), i ≤ 80 ∧ s5 = .int .i64 i ∧ s3 = .pointer (some ⟨p, 0, none⟩) ∧ S.l.length ≤ i ∧ B.length ≤ i ∧ Rel B S ∧ Sep w r wr [ntT p v S, blk kq (objR a b), lstU a B, lstI b S.l]) (fun _ s5 _ => 80 - (intOf s5).toNat)
  case atStart => exact ⟨0, p, v, _, _, [], ns0, by omega, rfl, rfl, by simp [ns0], by simp, rel_0, S1.out⟩
  case round =>
    clear S1
    obtain ⟨i, p, v, a, b, B, S, hk, rfl, rfl, hS, hB, hrl, s1⟩ := hrel
    have S1 := hid s1
    have HRel := hid hrl
    clear s1 hrl
    by_cases hgo : i < X.length ∧ i < 80
    · obtain ⟨hlt, h40⟩ := hgo
      obtain ⟨hf, b0, a0, rfl, d0, d1, d2, d3⟩ := Ops.at (SeeK.below HX.out S1.out.low (by rw [HR.out]; exact Nat.le_refl _)) (List.getElem?_eq_getElem hlt)
      generalize hx : X[i] = x at *
      have HSl := hid hS
      have HBl := hid hB
      have HF := hid hf
      clear hx hS hB hf
      generalize hn : X.length = n at *
      have hltz : (i : Int) < (n : Int) := by omega
      have h40z : (i : Int) < 80 := by omega
      have s3 : Sep w r (wr.alloc (objO x)) [ntT p v S, blk kq (objR a b), lstU a B, lstI b S.l, blk wr.heap.size (objO x)] := (S1.out.box (objO x)).last1
      generalize hqo : wr.heap.size = qo at *
      obtain ⟨k0, k1, k2, k3⟩ := s3.opAt (q := qo) (x := x) (by simp)
      have S3 := hid s3
      clear s3 S1
      simp only [objO] at k0 k1 k2 k3
      by_cases hk0 : x.k = 0
      · have hq0 : (x.k == 0) = true := by simpa using hk0
        clear hk0
        obtain ⟨n0, hn0⟩ : ∃ n0, sigN S = n0 := ⟨_, rfl⟩
        obtain ⟨x0, hx0⟩ : ∃ x0, sigW S x.g = x0 := ⟨_, rfl⟩
        obtain ⟨q0, hq0'⟩ : ∃ q0, sigB S = q0 := ⟨_, rfl⟩
        obtain ⟨T, hT⟩ : ∃ T, sigS S x.g = T := ⟨_, rfl⟩
        have HD : Hid (T.l.length ≤ S.l.length + 1 ∧ sigN S = n0 ∧ sigW S x.g = x0 ∧ sigB S = q0 ∧ sigS S x.g = T) := ⟨by rw [← hT]; have := sig_len S x.g; omega, hn0, hx0, hq0', hT⟩
        clear hn0 hx0 hq0' hT
        go_wp2_with fail
        refine Calls.mono (signal_is S3.out x.g HF.out.g (by have := HSl.out; omega) HD.out.2.1 HD.out.2.2.1 HD.out.2.2.2.1 HD.out.2.2.2.2) ?_
        rintro e w4 ⟨rfl, v4, s4⟩
        clear k0 k1 k2 k3
        obtain ⟨k0, k1, k2, k3⟩ := s4.opAt (q := qo) (x := x) (by simp)
        have S4 : Hid (Sep w r w4 [blk kq (objR a b), lstU a B, lstI b S.l, blk qo (objO x), ntT p v4 T]) := s4.last1
        clear s4 S3
        go_wp2_with fail
        refine Calls.mono (rsignal_is S4.out HRel.out x.g (by have := HBl.out; omega) (by have := HSl.out; omega) HD.out.2.1 HD.out.2.2.1 HD.out.2.2.2.1 HD.out.2.2.2.2) ?_
        rintro e w6 ⟨rfl, a', b', B', hrl, hbl, s6⟩
        have S5 : Hid (Sep w r w6 [ntT p v4 T, blk kq (objR a' b'), lstU a' B', lstI b' T.l, blk qo (objO x)]) := Sep.front1 (R := [blk kq (objR a' b'), lstU a' B', lstI b' T.l, blk qo (objO x)]) (a := ntT p v4 T) s6
        have HRT : Hid (Rel B' T ∧ B'.length ≤ 1000) := ⟨hrl, by have := HBl.out; omega⟩
        have HRB : Hid (B'.length ≤ i + 1) := by show _ ≤ _; have := HBl.out; omega
        have HTl : Hid (T.l.length ≤ i + 1) := by show _ ≤ _; have := HD.out.1; have := HSl.out; omega
        clear s6 S4 hrl hbl k0 k1 k2 k3
        go_wp2_with fail
        obtain ⟨yw, hyw⟩ : ∃ yw, T.w = yw := ⟨_, rfl⟩
        obtain ⟨yb, hyb⟩ : ∃ yb, T.b = yb := ⟨_, rfl⟩
        obtain ⟨L, hL⟩ : ∃ L, T.l = L := ⟨_, rfl⟩
        have HY : Hid (T.w = yw ∧ T.b = yb ∧ T.l = L ∧ L.length ≤ 1000 ∧ (yb = true → ¬ 0 < L.length)) := ⟨hyw, hyb, hL, by rw [← hL]; have := HTl.out; omega, fun e => by rw [← hL, S5.out.good.sig (hyb.trans e)]; simp⟩
        clear hyw hyb hL
        refine Calls.mono (word_is S5.out HY.out.1 HY.out.2.1) ?_
        rintro e w8 ⟨rfl, s8⟩
        have S8 : Hid (Sep w r w8 [blk kq (objR a' b'), lstU a' B', lstI b' T.l, blk qo (objO x), ntT p v4 T]) := s8.last1
        clear s8 S5
        go_wp2_with fail
        refine Calls.mono (rword_is S8.out HRT.out.1 HRT.out.2 HY.out.1 HY.out.2.1) ?_
        rintro e w9 ⟨rfl, s9⟩
        have S9 : Hid (Sep w r w9 [ntT p v4 T, blk kq (objR a' b'), lstU a' B', lstI b' T.l, blk qo (objO x)]) := Sep.front1 (R := [blk kq (objR a' b'), lstU a' B', lstI b' T.l, blk qo (objO x)]) (a := ntT p v4 T) s9
        clear s9 S8
        go_wp2_with fail
        refine Calls.mono (waits_is S9.out (by rw [HY.out.2.2.1]; exact HY.out.2.2.2.1) HY.out.2.2.1) ?_
        rintro e w10 ⟨a14, c14, rfl, s10⟩
        have s11 := s10.third.swap
        rw [HY.out.2.2.1] at s11
        obtain ⟨ab, cb, hbv⟩ := s11.listIs (E := elI) (v := b') (A := L) (by simp)
        subst hbv
        obtain ⟨-, dd1, -, -⟩ := s11.cellR
        have S11 := hid s11
        clear s10 s11 S9
        cases yb
        all_goals
          have hn1 : L.length ≤ 1000 := HY.out.2.2.2.1
          have hn0 : (0 : Int) < (L.length : Int) ∨ ¬ (0 : Int) < (L.length : Int) := by omega
          clear hn0
          first | (have hn2 : ¬ (0 : Int) < (L.length : Int) := by have := HY.out.2.2.2.2 rfl; omega) | skip
          go_wp2_with fail
          refine Calls.mono (nums_is S11.out (u := .slice a14 L.length c14) (v := .slice ab L.length cb) (A := L) (B := L) (by simp) (by simp) HY.out.2.2.2.1 rfl) ?_
          rintro e w12 ⟨rfl, s12⟩
          have S12 : Hid (Sep w r w12 [anyI (.slice a14 L.length c14) L.length, ntT p v4 T, blk kq (objR a' (.slice ab L.length cb)), lstU a' B', lstI (.slice ab L.length cb) T.l]) := by
            rw [HY.out.2.2.1]
            exact (Sep.front1 (R := [anyI (.slice a14 L.length c14) L.length, ntT p v4 T, blk kq (objR a' (.slice ab L.length cb)), lstU a' B', lstI (.slice ab L.length cb) L]) (a := blk qo (objO x)) s12.swap.in2.any).drop
          clear s12 S11
          generalize L.length = m at *
          go_wp2_with fail
          go_loopw [26] (fun s26 wr => ∃ j : Nat, j ≤ m ∧ s26 = .int .i64 j ∧ Sep w r wr [anyI (.slice a14 m c14) m, ntT p v4 T, blk kq (objR a' (.slice ab m cb)), lstU a' B', lstI (.slice ab m cb) T.l]) (fun s26 _ => m - (intOf s26).toNat)
          case atStart => exact ⟨0, Nat.zero_le _, rfl, S12.out⟩
          case round =>
            clear S12
            obtain ⟨j, hj, rfl, s13⟩ := hrel
            by_cases hlt2 : j < m
            · first
              | (exfalso; omega)
              | (have hltz2 : (j : Int) < (m : Int) := by omega
                 obtain ⟨g14, rfl, ⟨y0', hy0⟩, hf0, hset⟩ := s13.over hlt2
                 have S13 := hid (hset 99)
                 clear s13 hset
                 go_wp2
                 go_round
                 case rel => exact ⟨j + 1, by omega, by go_num, S13.out⟩
                 case measure => simp [intOf]; omega)
            · have hltz2 : ¬ (j : Int) < (m : Int) := by omega
              have S13 := hid s13.drop
              clear s13
              go_wp2
              go_round
              case rel => exact ⟨i + 1, p, v4, a', _, B', T, by omega, by go_num, rfl, HTl.out, HRB.out, HRT.out.1, S13.out⟩
              case measure => simp [intOf]; omega
      · have hq0 : (x.k == 0) = false := by simpa using hk0
        clear hk0
        by_cases hk1 : x.k = 1
        · have hq1 : (x.k == 1) = true := by simpa using hk1
          clear hk1
          obtain ⟨x0, hx0⟩ : ∃ x0, waitW S x.n = x0 := ⟨_, rfl⟩
          obtain ⟨q0, hq0'⟩ : ∃ q0, waitB S x.n = q0 := ⟨_, rfl⟩
          obtain ⟨E, hE⟩ : ∃ E, waitE S x.n = E := ⟨_, rfl⟩
          obtain ⟨T, hT⟩ : ∃ T, waitS S x.n x.z = T := ⟨_, rfl⟩
          have HD : Hid (T.l.length ≤ S.l.length + 1 ∧ waitW S x.n = x0 ∧ waitB S x.n = q0 ∧ waitE S x.n = E ∧ waitS S x.n x.z = T) := ⟨by rw [← hT]; exact wait_len S x.n x.z, hx0, hq0', hE, hT⟩
          clear hx0 hq0' hE hT
          go_wp2_with fail
          refine Calls.mono (wait_is S3.out x.n x.z (by have := HSl.out; omega) HD.out.2.1 HD.out.2.2.1 HD.out.2.2.2.1 HD.out.2.2.2.2) ?_
          rintro e w4 ⟨rfl, v4, s4⟩
          clear k0 k1 k2 k3
          obtain ⟨k0, k1, k2, k3⟩ := s4.opAt (q := qo) (x := x) (by simp)
          have S4 : Hid (Sep w r w4 [blk kq (objR a b), lstU a B, lstI b S.l, blk qo (objO x), ntT p v4 T]) := s4.last1
          clear s4 S3
          go_wp2_with fail
          refine Calls.mono (rwait_is S4.out HRel.out x.n x.z (by have := HBl.out; omega) (by have := HSl.out; omega) HD.out.2.1 HD.out.2.2.1 HD.out.2.2.2.1 HD.out.2.2.2.2) ?_
          rintro e w6 ⟨rfl, a', b', B', hrl, hbl, s6⟩
          have S5 : Hid (Sep w r w6 [ntT p v4 T, blk kq (objR a' b'), lstU a' B', lstI b' T.l, blk qo (objO x)]) := Sep.front1 (R := [blk kq (objR a' b'), lstU a' B', lstI b' T.l, blk qo (objO x)]) (a := ntT p v4 T) s6
          have HRT : Hid (Rel B' T ∧ B'.length ≤ 1000) := ⟨hrl, by have := HBl.out; omega⟩
          have HRB : Hid (B'.length ≤ i + 1) := by show _ ≤ _; have := HBl.out; omega
          have HTl : Hid (T.l.length ≤ i + 1) := by show _ ≤ _; have := HD.out.1; have := HSl.out; omega
          clear s6 S4 hrl hbl k0 k1 k2 k3
          go_wp2_with fail
          obtain ⟨yw, hyw⟩ : ∃ yw, T.w = yw := ⟨_, rfl⟩
          obtain ⟨yb, hyb⟩ : ∃ yb, T.b = yb := ⟨_, rfl⟩
          obtain ⟨L, hL⟩ : ∃ L, T.l = L := ⟨_, rfl⟩
          have HY : Hid (T.w = yw ∧ T.b = yb ∧ T.l = L ∧ L.length ≤ 1000 ∧ (yb = true → ¬ 0 < L.length)) := ⟨hyw, hyb, hL, by rw [← hL]; have := HTl.out; omega, fun e => by rw [← hL, S5.out.good.sig (hyb.trans e)]; simp⟩
          clear hyw hyb hL
          refine Calls.mono (word_is S5.out HY.out.1 HY.out.2.1) ?_
          rintro e w8 ⟨rfl, s8⟩
          have S8 : Hid (Sep w r w8 [blk kq (objR a' b'), lstU a' B', lstI b' T.l, blk qo (objO x), ntT p v4 T]) := s8.last1
          clear s8 S5
          go_wp2_with fail
          refine Calls.mono (rword_is S8.out HRT.out.1 HRT.out.2 HY.out.1 HY.out.2.1) ?_
          rintro e w9 ⟨rfl, s9⟩
          have S9 : Hid (Sep w r w9 [ntT p v4 T, blk kq (objR a' b'), lstU a' B', lstI b' T.l, blk qo (objO x)]) := Sep.front1 (R := [blk kq (objR a' b'), lstU a' B', lstI b' T.l, blk qo (objO x)]) (a := ntT p v4 T) s9
          clear s9 S8
          go_wp2_with fail
          refine Calls.mono (waits_is S9.out (by rw [HY.out.2.2.1]; exact HY.out.2.2.2.1) HY.out.2.2.1) ?_
          rintro e w10 ⟨a14, c14, rfl, s10⟩
          have s11 := s10.third.swap
          rw [HY.out.2.2.1] at s11
          obtain ⟨ab, cb, hbv⟩ := s11.listIs (E := elI) (v := b') (A := L) (by simp)
          subst hbv
          obtain ⟨-, dd1, -, -⟩ := s11.cellR
          have S11 := hid s11
          clear s10 s11 S9
          cases yb
          all_goals
            have hn1 : L.length ≤ 1000 := HY.out.2.2.2.1
            have hn0 : (0 : Int) < (L.length : Int) ∨ ¬ (0 : Int) < (L.length : Int) := by omega
            clear hn0
            first | (have hn2 : ¬ (0 : Int) < (L.length : Int) := by have := HY.out.2.2.2.2 rfl; omega) | skip
            go_wp2_with fail
            refine Calls.mono (nums_is S11.out (u := .slice a14 L.length c14) (v := .slice ab L.length cb) (A := L) (B := L) (by simp) (by simp) HY.out.2.2.2.1 rfl) ?_
            rintro e w12 ⟨rfl, s12⟩
            have S12 : Hid (Sep w r w12 [anyI (.slice a14 L.length c14) L.length, ntT p v4 T, blk kq (objR a' (.slice ab L.length cb)), lstU a' B', lstI (.slice ab L.length cb) T.l]) := by
              rw [HY.out.2.2.1]
              exact (Sep.front1 (R := [anyI (.slice a14 L.length c14) L.length, ntT p v4 T, blk kq (objR a' (.slice ab L.length cb)), lstU a' B', lstI (.slice ab L.length cb) L]) (a := blk qo (objO x)) s12.swap.in2.any).drop
            clear s12 S11
            generalize L.length = m at *
            go_wp2_with fail
            go_loopw [26] (fun s26 wr => ∃ j : Nat, j ≤ m ∧ s26 = .int .i64 j ∧ Sep w r wr [anyI (.slice a14 m c14) m, ntT p v4 T, blk kq (objR a' (.slice ab m cb)), lstU a' B', lstI (.slice ab m cb) T.l]) (fun s26 _ => m - (intOf s26).toNat)
            case atStart => exact ⟨0, Nat.zero_le _, rfl, S12.out⟩
            case round =>
              clear S12
              obtain ⟨j, hj, rfl, s13⟩ := hrel
              by_cases hlt2 : j < m
              · first
                | (exfalso; omega)
                | (have hltz2 : (j : Int) < (m : Int) := by omega
                   obtain ⟨g14, rfl, ⟨y0', hy0⟩, hf0, hset⟩ := s13.over hlt2
                   have S13 := hid (hset 99)
                   clear s13 hset
                   go_wp2
                   go_round
                   case rel => exact ⟨j + 1, by omega, by go_num, S13.out⟩
                   case measure => simp [intOf]; omega)
              · have hltz2 : ¬ (j : Int) < (m : Int) := by omega
                have S13 := hid s13.drop
                clear s13
                go_wp2
                go_round
                case rel => exact ⟨i + 1, p, v4, a', _, B', T, by omega, by go_num, rfl, HTl.out, HRB.out, HRT.out.1, S13.out⟩
                case measure => simp [intOf]; omega
        · have hq1 : (x.k == 1) = false := by simpa using hk1
          clear hk1
          by_cases hk2 : x.k = 2
          · have hq2 : (x.k == 2) = true := by simpa using hk2
            clear hk2
            obtain ⟨q0, hq0'⟩ : ∃ q0, thB S x.n = q0 := ⟨_, rfl⟩
            obtain ⟨T, hT⟩ : ∃ T, canS S x.n = T := ⟨_, rfl⟩
            have HD : Hid (T.l.length ≤ S.l.length + 1 ∧ thB S x.n = q0 ∧ canS S x.n = T) := ⟨by rw [← hT]; have := out_len S.l x.n; simp only [canS]; omega, hq0', hT⟩
            clear hq0' hT
            go_wp2_with fail
            refine Calls.mono (cancel_is S3.out x.n (by have := HSl.out; omega) HD.out.2.1 HD.out.2.2) ?_
            rintro e w4 ⟨rfl, v4, s4⟩
            clear k0 k1 k2 k3
            obtain ⟨k0, k1, k2, k3⟩ := s4.opAt (q := qo) (x := x) (by simp)
            have S4 : Hid (Sep w r w4 [blk kq (objR a b), lstU a B, lstI b S.l, blk qo (objO x), ntT p v4 T]) := s4.last1
            clear s4 S3
            go_wp2_with fail
            refine Calls.mono (rcancel_is S4.out HRel.out x.n (by have := HSl.out; omega) HD.out.2.1 HD.out.2.2) ?_
            rintro e w6 ⟨rfl, a', b', B', hrl, hbl, s6⟩
            have S5 : Hid (Sep w r w6 [ntT p v4 T, blk kq (objR a' b'), lstU a' B', lstI b' T.l, blk qo (objO x)]) := Sep.front1 (R := [blk kq (objR a' b'), lstU a' B', lstI b' T.l, blk qo (objO x)]) (a := ntT p v4 T) s6
            have HRT : Hid (Rel B' T ∧ B'.length ≤ 1000) := ⟨hrl, by have := HBl.out; omega⟩
            have HRB : Hid (B'.length ≤ i + 1) := by show _ ≤ _; have := HBl.out; omega
            have HTl : Hid (T.l.length ≤ i + 1) := by show _ ≤ _; have := HD.out.1; have := HSl.out; omega
            clear s6 S4 hrl hbl k0 k1 k2 k3
            go_wp2_with fail
            obtain ⟨yw, hyw⟩ : ∃ yw, T.w = yw := ⟨_, rfl⟩
            obtain ⟨yb, hyb⟩ : ∃ yb, T.b = yb := ⟨_, rfl⟩
            obtain ⟨L, hL⟩ : ∃ L, T.l = L := ⟨_, rfl⟩
            have HY : Hid (T.w = yw ∧ T.b = yb ∧ T.l = L ∧ L.length ≤ 1000 ∧ (yb = true → ¬ 0 < L.length)) := ⟨hyw, hyb, hL, by rw [← hL]; have := HTl.out; omega, fun e => by rw [← hL, S5.out.good.sig (hyb.trans e)]; simp⟩
            clear hyw hyb hL
            refine Calls.mono (word_is S5.out HY.out.1 HY.out.2.1) ?_
            rintro e w8 ⟨rfl, s8⟩
            have S8 : Hid (Sep w r w8 [blk kq (objR a' b'), lstU a' B', lstI b' T.l, blk qo (objO x), ntT p v4 T]) := s8.last1
            clear s8 S5
            go_wp2_with fail
            refine Calls.mono (rword_is S8.out HRT.out.1 HRT.out.2 HY.out.1 HY.out.2.1) ?_
            rintro e w9 ⟨rfl, s9⟩
            have S9 : Hid (Sep w r w9 [ntT p v4 T, blk kq (objR a' b'), lstU a' B', lstI b' T.l, blk qo (objO x)]) := Sep.front1 (R := [blk kq (objR a' b'), lstU a' B', lstI b' T.l, blk qo (objO x)]) (a := ntT p v4 T) s9
            clear s9 S8
            go_wp2_with fail
            refine Calls.mono (waits_is S9.out (by rw [HY.out.2.2.1]; exact HY.out.2.2.2.1) HY.out.2.2.1) ?_
            rintro e w10 ⟨a14, c14, rfl, s10⟩
            have s11 := s10.third.swap
            rw [HY.out.2.2.1] at s11
            obtain ⟨ab, cb, hbv⟩ := s11.listIs (E := elI) (v := b') (A := L) (by simp)
            subst hbv
            obtain ⟨-, dd1, -, -⟩ := s11.cellR
            have S11 := hid s11
            clear s10 s11 S9
            cases yb
            all_goals
              have hn1 : L.length ≤ 1000 := HY.out.2.2.2.1
              have hn0 : (0 : Int) < (L.length : Int) ∨ ¬ (0 : Int) < (L.length : Int) := by omega
              clear hn0
              first | (have hn2 : ¬ (0 : Int) < (L.length : Int) := by have := HY.out.2.2.2.2 rfl; omega) | skip
              go_wp2_with fail
              refine Calls.mono (nums_is S11.out (u := .slice a14 L.length c14) (v := .slice ab L.length cb) (A := L) (B := L) (by simp) (by simp) HY.out.2.2.2.1 rfl) ?_
              rintro e w12 ⟨rfl, s12⟩
              have S12 : Hid (Sep w r w12 [anyI (.slice a14 L.length c14) L.length, ntT p v4 T, blk kq (objR a' (.slice ab L.length cb)), lstU a' B', lstI (.slice ab L.length cb) T.l]) := by
                rw [HY.out.2.2.1]
                exact (Sep.front1 (R := [anyI (.slice a14 L.length c14) L.length, ntT p v4 T, blk kq (objR a' (.slice ab L.length cb)), lstU a' B', lstI (.slice ab L.length cb) L]) (a := blk qo (objO x)) s12.swap.in2.any).drop
              clear s12 S11
              generalize L.length = m at *
              go_wp2_with fail
              go_loopw [26] (fun s26 wr => ∃ j : Nat, j ≤ m ∧ s26 = .int .i64 j ∧ Sep w r wr [anyI (.slice a14 m c14) m, ntT p v4 T, blk kq (objR a' (.slice ab m cb)), lstU a' B', lstI (.slice ab m cb) T.l]) (fun s26 _ => m - (intOf s26).toNat)
              case atStart => exact ⟨0, Nat.zero_le _, rfl, S12.out⟩
              case round =>
                clear S12
                obtain ⟨j, hj, rfl, s13⟩ := hrel
                by_cases hlt2 : j < m
                · first
                  | (exfalso; omega)
                  | (have hltz2 : (j : Int) < (m : Int) := by omega
                     obtain ⟨g14, rfl, ⟨y0', hy0⟩, hf0, hset⟩ := s13.over hlt2
                     have S13 := hid (hset 99)
                     clear s13 hset
                     go_wp2
                     go_round
                     case rel => exact ⟨j + 1, by omega, by go_num, S13.out⟩
                     case measure => simp [intOf]; omega)
                · have hltz2 : ¬ (j : Int) < (m : Int) := by omega
                  have S13 := hid s13.drop
                  clear s13
                  go_wp2
                  go_round
                  case rel => exact ⟨i + 1, p, v4, a', _, B', T, by omega, by go_num, rfl, HTl.out, HRB.out, HRT.out.1, S13.out⟩
                  case measure => simp [intOf]; omega
          · have hq2 : (x.k == 2) = false := by simpa using hk2
            clear hk2
            by_cases hk3 : x.k = 3
            · have hq3 : (x.k == 3) = true := by simpa using hk3
              clear hk3
              have HRT : Hid (Rel B S ∧ B.length ≤ 1000) := ⟨HRel.out, by have := HBl.out; omega⟩
              have HRB : Hid (B.length ≤ i + 1) := by show _ ≤ _; have := HBl.out; omega
              have HTl : Hid (S.l.length ≤ i + 1) := by show _ ≤ _; have := HSl.out; omega
              go_wp2_with fail
              refine Calls.mono (copy_sep S3.out (by have := HSl.out; omega)) ?_
              rintro e w4 ⟨p4, v4, rfl, s4⟩
              have S4 := hid s4.swap
              clear s4 S3 k0 k1 k2 k3
              obtain ⟨T4, hT4⟩ : ∃ T4, waitS S 777 true = T4 := ⟨_, rfl⟩
              obtain ⟨x4, hx4⟩ : ∃ x4, waitW S 777 = x4 := ⟨_, rfl⟩
              obtain ⟨q4, hq4⟩ : ∃ q4, waitB S 777 = q4 := ⟨_, rfl⟩
              obtain ⟨e4, he4⟩ : ∃ e4, waitE S 777 = e4 := ⟨_, rfl⟩
              have H4 : Hid (waitW S 777 = x4 ∧ waitB S 777 = q4 ∧ waitE S 777 = e4 ∧ waitS S 777 true = T4 ∧ T4.l.length ≤ 999) := ⟨hx4, hq4, he4, hT4, by rw [← hT4]; have := wait_len S 777 true; have := HSl.out; omega⟩
              clear hT4 hx4 hq4 he4
              go_wp2_with fail
              refine Calls.mono (wait_is S4.out 777 true (by have := HSl.out; omega) H4.out.1 H4.out.2.1 H4.out.2.2.1 H4.out.2.2.2.1) ?_
              rintro e w5 ⟨rfl, v5, s5⟩
              have S6 := hid s5
              clear s5 S4
              obtain ⟨T5, hT5⟩ : ∃ T5, sigS T4 1099511627776 = T5 := ⟨_, rfl⟩
              obtain ⟨n5, hn5⟩ : ∃ n5, sigN T4 = n5 := ⟨_, rfl⟩
              obtain ⟨x5, hx5⟩ : ∃ x5, sigW T4 1099511627776 = x5 := ⟨_, rfl⟩
              obtain ⟨q5, hq5⟩ : ∃ q5, sigB T4 = q5 := ⟨_, rfl⟩
              have H5 : Hid (sigN T4 = n5 ∧ sigW T4 1099511627776 = x5 ∧ sigB T4 = q5 ∧ sigS T4 1099511627776 = T5 ∧ T5.l.length ≤ 1000) := ⟨hn5, hx5, hq5, hT5, by rw [← hT5]; have := sig_len T4 1099511627776; have := H4.out.2.2.2.2; omega⟩
              clear hT5 hn5 hx5 hq5
              go_wp2_with fail
              refine Calls.mono (signal_is S6.out 1099511627776 (by unfold U64; omega) (by have := H4.out.2.2.2.2; omega) H5.out.1 H5.out.2.1 H5.out.2.2.1 H5.out.2.2.2.1) ?_
              rintro e w6 ⟨rfl, v6, s6⟩
              obtain ⟨k0, k1, k2, k3⟩ := s6.opAt (q := qo) (x := x) (by simp)
              have S7 := hid s6
              clear s6 S6
              obtain ⟨q6, hq6⟩ : ∃ q6, thB T5 x.n = q6 := ⟨_, rfl⟩
              have HQ6 := hid hq6
              clear hq6
              go_wp2_with fail
              refine Calls.mono (cancel_is S7.out x.n H5.out.2.2.2.2 HQ6.out rfl) ?_
              rintro e w7 ⟨rfl, v7, s7⟩
              have S5 := hid s7.drop
              clear s7 S7 k0 k1 k2 k3
              go_wp2_with fail
              obtain ⟨yw, hyw⟩ : ∃ yw, S.w = yw := ⟨_, rfl⟩
              obtain ⟨yb, hyb⟩ : ∃ yb, S.b = yb := ⟨_, rfl⟩
              obtain ⟨L, hL⟩ : ∃ L, S.l = L := ⟨_, rfl⟩
              have HY : Hid (S.w = yw ∧ S.b = yb ∧ S.l = L ∧ L.length ≤ 1000 ∧ (yb = true → ¬ 0 < L.length)) := ⟨hyw, hyb, hL, by rw [← hL]; have := HTl.out; omega, fun e => by rw [← hL, S5.out.good.sig (hyb.trans e)]; simp⟩
              clear hyw hyb hL
              refine Calls.mono (word_is S5.out HY.out.1 HY.out.2.1) ?_
              rintro e w8 ⟨rfl, s8⟩
              have S8 : Hid (Sep w r w8 [blk kq (objR a b), lstU a B, lstI b S.l, blk qo (objO x), ntT p4 v4 S]) := s8.last1
              clear s8 S5
              go_wp2_with fail
              refine Calls.mono (rword_is S8.out HRT.out.1 HRT.out.2 HY.out.1 HY.out.2.1) ?_
              rintro e w9 ⟨rfl, s9⟩
              have S9 : Hid (Sep w r w9 [ntT p4 v4 S, blk kq (objR a b), lstU a B, lstI b S.l, blk qo (objO x)]) := Sep.front1 (R := [blk kq (objR a b), lstU a B, lstI b S.l, blk qo (objO x)]) (a := ntT p4 v4 S) s9
              clear s9 S8
              go_wp2_with fail
              refine Calls.mono (waits_is S9.out (by rw [HY.out.2.2.1]; exact HY.out.2.2.2.1) HY.out.2.2.1) ?_
              rintro e w10 ⟨a14, c14, rfl, s10⟩
              have s11 := s10.third.swap
              rw [HY.out.2.2.1] at s11
              obtain ⟨ab, cb, hbv⟩ := s11.listIs (E := elI) (v := b) (A := L) (by simp)
              subst hbv
              obtain ⟨-, dd1, -, -⟩ := s11.cellR
              have S11 := hid s11
              clear s10 s11 S9
              cases yb
              all_goals
                have hn1 : L.length ≤ 1000 := HY.out.2.2.2.1
                have hn0 : (0 : Int) < (L.length : Int) ∨ ¬ (0 : Int) < (L.length : Int) := by omega
                clear hn0
                first | (have hn2 : ¬ (0 : Int) < (L.length : Int) := by have := HY.out.2.2.2.2 rfl; omega) | skip
                go_wp2_with fail
                refine Calls.mono (nums_is S11.out (u := .slice a14 L.length c14) (v := .slice ab L.length cb) (A := L) (B := L) (by simp) (by simp) HY.out.2.2.2.1 rfl) ?_
                rintro e w12 ⟨rfl, s12⟩
                have S12 : Hid (Sep w r w12 [anyI (.slice a14 L.length c14) L.length, ntT p4 v4 S, blk kq (objR a (.slice ab L.length cb)), lstU a B, lstI (.slice ab L.length cb) S.l]) := by
                  rw [HY.out.2.2.1]
                  exact (Sep.front1 (R := [anyI (.slice a14 L.length c14) L.length, ntT p4 v4 S, blk kq (objR a (.slice ab L.length cb)), lstU a B, lstI (.slice ab L.length cb) L]) (a := blk qo (objO x)) s12.swap.in2.any).drop
                clear s12 S11
                generalize L.length = m at *
                go_wp2_with fail
                go_loopw [26] (fun s26 wr => ∃ j : Nat, j ≤ m ∧ s26 = .int .i64 j ∧ Sep w r wr [anyI (.slice a14 m c14) m, ntT p4 v4 S, blk kq (objR a (.slice ab m cb)), lstU a B, lstI (.slice ab m cb) S.l]) (fun s26 _ => m - (intOf s26).toNat)
                case atStart => exact ⟨0, Nat.zero_le _, rfl, S12.out⟩
                case round =>
                  clear S12
                  obtain ⟨j, hj, rfl, s13⟩ := hrel
                  by_cases hlt2 : j < m
                  · first
                    | (exfalso; omega)
                    | (have hltz2 : (j : Int) < (m : Int) := by omega
                       obtain ⟨g14, rfl, ⟨y0', hy0⟩, hf0, hset⟩ := s13.over hlt2
                       have S13 := hid (hset 99)
                       clear s13 hset
                       go_wp2
                       go_round
                       case rel => exact ⟨j + 1, by omega, by go_num, S13.out⟩
                       case measure => simp [intOf]; omega)
                  · have hltz2 : ¬ (j : Int) < (m : Int) := by omega
                    have S13 := hid s13.drop
                    clear s13
                    go_wp2
                    go_round
                    case rel => exact ⟨i + 1, p4, v4, a, _, B, S, by omega, by go_num, rfl, HTl.out, HRB.out, HRT.out.1, S13.out⟩
                    case measure => simp [intOf]; omega
            · have hq3 : (x.k == 3) = false := by simpa using hk3
              clear hk3
              have HRT : Hid (Rel B S ∧ B.length ≤ 1000) := ⟨HRel.out, by have := HBl.out; omega⟩
              have HRB : Hid (B.length ≤ i + 1) := by show _ ≤ _; have := HBl.out; omega
              have HTl : Hid (S.l.length ≤ i + 1) := by show _ ≤ _; have := HSl.out; omega
              have S5 := S3
              clear S3
              go_wp2_with fail
              obtain ⟨yw, hyw⟩ : ∃ yw, S.w = yw := ⟨_, rfl⟩
              obtain ⟨yb, hyb⟩ : ∃ yb, S.b = yb := ⟨_, rfl⟩
              obtain ⟨L, hL⟩ : ∃ L, S.l = L := ⟨_, rfl⟩
              have HY : Hid (S.w = yw ∧ S.b = yb ∧ S.l = L ∧ L.length ≤ 1000 ∧ (yb = true → ¬ 0 < L.length)) := ⟨hyw, hyb, hL, by rw [← hL]; have := HTl.out; omega, fun e => by rw [← hL, S5.out.good.sig (hyb.trans e)]; simp⟩
              clear hyw hyb hL
              refine Calls.mono (word_is S5.out HY.out.1 HY.out.2.1) ?_
              rintro e w8 ⟨rfl, s8⟩
              have S8 : Hid (Sep w r w8 [blk kq (objR a b), lstU a B, lstI b S.l, blk qo (objO x), ntT p v S]) := s8.last1
              clear s8 S5
              go_wp2_with fail
              refine Calls.mono (rword_is S8.out HRT.out.1 HRT.out.2 HY.out.1 HY.out.2.1) ?_
              rintro e w9 ⟨rfl, s9⟩
              have S9 : Hid (Sep w r w9 [ntT p v S, blk kq (objR a b), lstU a B, lstI b S.l, blk qo (objO x)]) := Sep.front1 (R := [blk kq (objR a b), lstU a B, lstI b S.l, blk qo (objO x)]) (a := ntT p v S) s9
              clear s9 S8
              go_wp2_with fail
              refine Calls.mono (waits_is S9.out (by rw [HY.out.2.2.1]; exact HY.out.2.2.2.1) HY.out.2.2.1) ?_
              rintro e w10 ⟨a14, c14, rfl, s10⟩
              have s11 := s10.third.swap
              rw [HY.out.2.2.1] at s11
              obtain ⟨ab, cb, hbv⟩ := s11.listIs (E := elI) (v := b) (A := L) (by simp)
              subst hbv
              obtain ⟨-, dd1, -, -⟩ := s11.cellR
              have S11 := hid s11
              clear s10 s11 S9
              cases yb
              all_goals
                have hn1 : L.length ≤ 1000 := HY.out.2.2.2.1
                have hn0 : (0 : Int) < (L.length : Int) ∨ ¬ (0 : Int) < (L.length : Int) := by omega
                clear hn0
                first | (have hn2 : ¬ (0 : Int) < (L.length : Int) := by have := HY.out.2.2.2.2 rfl; omega) | skip
                go_wp2_with fail
                refine Calls.mono (nums_is S11.out (u := .slice a14 L.length c14) (v := .slice ab L.length cb) (A := L) (B := L) (by simp) (by simp) HY.out.2.2.2.1 rfl) ?_
                rintro e w12 ⟨rfl, s12⟩
                have S12 : Hid (Sep w r w12 [anyI (.slice a14 L.length c14) L.length, ntT p v S, blk kq (objR a (.slice ab L.length cb)), lstU a B, lstI (.slice ab L.length cb) S.l]) := by
                  rw [HY.out.2.2.1]
                  exact (Sep.front1 (R := [anyI (.slice a14 L.length c14) L.length, ntT p v S, blk kq (objR a (.slice ab L.length cb)), lstU a B, lstI (.slice ab L.length cb) L]) (a := blk qo (objO x)) s12.swap.in2.any).drop
                clear s12 S11
                generalize L.length = m at *
                go_wp2_with fail
                go_loopw [26] (fun s26 wr => ∃ j : Nat, j ≤ m ∧ s26 = .int .i64 j ∧ Sep w r wr [anyI (.slice a14 m c14) m, ntT p v S, blk kq (objR a (.slice ab m cb)), lstU a B, lstI (.slice ab m cb) S.l]) (fun s26 _ => m - (intOf s26).toNat)
                case atStart => exact ⟨0, Nat.zero_le _, rfl, S12.out⟩
                case round =>
                  clear S12
                  obtain ⟨j, hj, rfl, s13⟩ := hrel
                  by_cases hlt2 : j < m
                  · first
                    | (exfalso; omega)
                    | (have hltz2 : (j : Int) < (m : Int) := by omega
                       obtain ⟨g14, rfl, ⟨y0', hy0⟩, hf0, hset⟩ := s13.over hlt2
                       have S13 := hid (hset 99)
                       clear s13 hset
                       go_wp2
                       go_round
                       case rel => exact ⟨j + 1, by omega, by go_num, S13.out⟩
                       case measure => simp [intOf]; omega)
                  · have hltz2 : ¬ (j : Int) < (m : Int) := by omega
                    have S13 := hid s13.drop
                    clear s13
                    go_wp2
                    go_round
                    case rel => exact ⟨i + 1, p, v, a, _, B, S, by omega, by go_num, rfl, HTl.out, HRB.out, HRT.out.1, S13.out⟩
                    case measure => simp [intOf]; omega

    · have hex : (¬ ((i : Int) < (X.length : Int))) ∨ ((i : Int) < (X.length : Int) ∧ ¬ ((i : Int) < 80)) := by omega
      clear hgo hS hB
      generalize hn : X.length = nX at *
      rcases hex with h | ⟨h, h2⟩
      all_goals
        go_wp2_with fail
        refine Calls.mono (fixed_sep S1.out) ?_
        rintro e w2 ⟨rfl, s2⟩
        have S2 := hid s2
        clear s2
        go_wp2
        go_ret
        exact ⟨rfl, by rw [HR.out]; exact S2.out.low⟩
open Go.ChangeShapes Go.WideShapes Go.ChangeAt Go.RowKit Go.Joins

/-! ### From the walk to the statement -/
set_option maxRecDepth 100000 in
theorem lifted (os : Os) (started : os.Started) (H : Type) (enc : TypeId × Value → H) :
    ReturnsInHanded {} Try.checked os 3 .any (Rows.notifyDoesSpec.pre6 enc Try.prog Try.f3 Rows.notifyDoesRow.domain false) (Rows.notifyDoesSpec.post enc Try.prog Try.f3 false true false false) := by
  refine returnsInHanded_of_change (C := Try.checked) own started (by kernel_rfl) Try.func3
    (ChangeSpec.witness6 (enc := enc) (C := Try.checked) false ⟨#[], #[.slice none 0 0], []⟩ 8 (by kernel_rfl) (by kernel_rfl) (by kernel_rfl) (by kernel_rfl)) ?_
  intro W base args ds gs before hval0 hW hcnd _
  have hval : ∀ (j : Nat) t v, Try.f3.params[j]? = some t → args[j]? = some v → Value.okWide Try.prog W .any base t v := hval0
  have hW' := hW
  obtain ⟨p, q, hA0, hV, rfl, hfz, hnd⟩ := hW
  have hA : DataW.TrodAll enc Try.prog W 0 (fun _ => true) true Try.f3.params.toList args.toList ds p := hA0
  rw [Try.params3] at hA hval
  obtain ⟨v0, vs0, d0, ds0, p0, q0, hargs, rfl, rfl, h0, r0⟩ := trodAll_cons hA
  obtain ⟨rfl, rfl, rfl⟩ := trodAll_nil r0
  obtain rfl : args = #[v0] := by cases args; simp_all
  obtain ⟨rfl, rfl⟩ := trodVars_none hV
  have k0 := h0
  have lt0 : ∀ x ∈ p0, x.block < W.heap.size := by obtain ⟨m, hm⟩ := k0; exact DataW.trod_lt m _ _ _ hm
  obtain ⟨a0, l0, c0, rfl, t0, s0⟩ := open_ops (hval 0 22 v0 rfl rfl) h0
  clear hA0 hval0
  refine (walk a0 l0 c0 W t0 s0).mono fun e W' ⟨he, bel⟩ => ?_
  subst he
  exact ⟨_, rfl, _, _, _, [], _, [], hW', trodAll_mk1 (shut_bool Try.underlying4 _), (trodAll_cons_mk (Below.trod laidOut (by kernel_rfl) (of_decide_eq_true (by kernel_rfl)) k0 bel lt0) trodAll_mk0), rfl, bel.frame _, fun h => by cases h⟩
theorem over : Rows.notifyDoesRow.holds Try.pinned (OpenSpec.ofChange Rows.notifyDoesSpec) :=
  OpenClaim.holds_of_wide 3 Try.f3 rfl rfl rfl rfl rfl rfl rfl ⟨rfl, rfl, rfl, rfl, rfl⟩ rfl rfl rfl rfl rfl (by kernel_rfl) Try.func3 (by kernel_rfl)
    (of_decide_eq_true (by kernel_rfl)) (by unfold Func.isWrapper; first | (rw [if_pos (by decide +kernel)]; kernel_rfl) | (rw [if_neg (by decide +kernel)]; exact ⟨rfl, rfl⟩))
    (fun os started H enc _ => lifted os started H enc)
end Go.Proofs.Ytbkkpfmhcfkfbaa.notifyDoes
namespace Go.Proofs.Ytbkkpfmhcfkfbaa
/-- THE STATEMENT. -/
theorem notifyDoes_said : Rows.NotifyDoesSaid := notifyDoes.over
#print axioms notifyDoes_said
end Go.Proofs.Ytbkkpfmhcfkfbaa

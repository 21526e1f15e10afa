/-
  IrqDoes: whatever lines are bound, freed, raised and heard, in any order: each answer, and each line, is as the document says; no condition.
-/
import Derived.Test.YtgkcbcigdjappaaIDo
import Derived.Deep.Cut
import Derived.Deep.CutRange
namespace Go.Proofs.Ytgkcbcigdjappaa.irqDoes
open Go.RowKit Go.Deep Go.Shelf
set_option maxHeartbeats 16000000 in
set_option maxRecDepth 100000 in
theorem walk (b : Int) (ao : Option Addr) (X : List Oc) (cap : Nat) (w : World) (_hb : -9223372036854775808 ≤ b ∧ b ≤ 9223372036854775807) (hX : Ops w ao X) (_hxl : X.length ≤ 9223372036854775807) :
    Calls Try.prog 3 #[.int .i64 b, .slice ao X.length cap] w fun e w' => e = .returned (.bool true) ∧ Below w.heap.size w w' := by
  have HX := hid hX
  obtain ⟨t, ht1, ht⟩ := mask7 b
  obtain ⟨N, hN⟩ : ∃ N : Nat, N = t + 1 := ⟨_, rfl⟩
  have htN : 1 + (t : Int) = (N : Int) := by omega
  have hN1 : 1 ≤ N := by omega
  have hN8 : N ≤ 8 := by omega
  have hN64 : N ≤ 64 := by omega
  clear hX _hb hN
  go_enter Try.func3, Try.ntmps3
  go_wp2_with fail
  refine Calls.mono (new_sep (sep_nil w) N hN1 hN64) ?_
  rintro e w1 ⟨p, v, rfl, s1⟩
  have S1 := hid s1
  clear s1
  go_wp2_with fail
  refine Calls.mono (rnew_sep S1.out N hN1 hN64) ?_
  rintro e w2 ⟨kq, kv, rfl, s2⟩
  obtain ⟨ak, ck, rfl, -⟩ := s2.sliceR
  rw [List.length_replicate] at s2
  have S2 := hid s2.swap
  clear s2 S1
  generalize hr : w.heap.size = r at *
  have HR := hid hr
  clear hr
  go_wp2_with fail
  go_loopw [5, 9] (fun s5 s9 wr => ∃ (i p : Nat) (v : Value) (S : List Ln), i ≤ 80 ∧ s9 = .int .i64 i ∧ s5 = .pointer (some ⟨p, 0, none⟩) ∧ S.length = N ∧ Sep w r wr [lnT p v S, rfT kq (.slice ak N ck) S]) (fun _ s9 _ => 80 - (intOf s9).toNat)
  case atStart => exact ⟨0, p, v, _, by omega, rfl, rfl, by simp, S2.out⟩
  case round =>
    clear S2
    obtain ⟨i, p, v, S, hk, rfl, rfl, hS, s1⟩ := hrel
    have S1 := hid s1
    have HSl := hid hS
    clear s1 hS
    by_cases hgo : i < X.length ∧ i < 80
    · obtain ⟨hlt, h40⟩ := hgo
      obtain ⟨hf, b0, a0, rfl, d0, d1, d2, d3⟩ := Ops.at (SeeK.below HX.out S1.out.low (by rw [HR.out]; exact Nat.le_refl _)) (List.getElem?_eq_getElem hlt)
      generalize hx : X[i] = x at *
      clear hx
      generalize hn : X.length = n at *
      have hltz : (i : Int) < (n : Int) := by omega
      have h40z : (i : Int) < 80 := by omega
      have s3 : Sep w r (wr.alloc (objO x)) [lnT p v S, rfT kq (.slice ak N ck) S, blk wr.heap.size (objO x)] := (S1.out.box (objO x)).third
      generalize hqo : wr.heap.size = qo at *
      obtain ⟨k0, k1, k2, k3⟩ := s3.opAt (q := qo) (x := x) (by simp)
      have S3 := hid s3
      clear s3 S1
      simp only [objO] at k0 k1 k2 k3
      by_cases hk0 : x.k = 0
      · have hq0 : (x.k == 0) = true := by simpa using hk0
        clear hk0
        obtain ⟨E, hE⟩ : ∃ E, bindE S x.l x.a = E := ⟨_, rfl⟩
        have HE := hid hE
        clear hE
        obtain ⟨T, hT⟩ : ∃ T, bindS S x.l x.a x.g = T := ⟨_, rfl⟩
        have HD : Hid (bindS S x.l x.a x.g = T) := hT
        have HTl : Hid (T.length = N) := by show _ = _; rw [← hT, bind_len]; exact HSl.out
        clear hT
        go_wp2_with fail
        refine Calls.mono (bind_is S3.out x.l x.a x.g HE.out HD.out) ?_
        rintro e w4 ⟨rfl, s4⟩
        clear k0 k1 k2 k3
        obtain ⟨k0, k1, k2, k3⟩ := s4.opAt (q := qo) (x := x) (by simp)
        have S4 := hid s4.swap
        clear s4 S3
        go_wp2_with fail
        refine Calls.mono (rbind_is S4.out x.l x.a x.g HE.out HD.out) ?_
        rintro e w6 ⟨rfl, s6⟩
        have S5 : Hid (Sep w r w6 [lnT p v T, rfT kq (.slice ak N ck) T]) := s6.swap.third.swap.drop.swap
        clear s6 S4 k0 k1 k2 k3
        go_wp2_with fail
        go_loopw [20] (fun s20 wr => ∃ j : Nat, j ≤ N + 1 ∧ s20 = .int .i64 j ∧ Sep w r wr [lnT p v T, rfT kq (.slice ak N ck) T]) (fun s20 _ => N + 1 - (intOf s20).toNat)
        case atStart => exact ⟨0, by omega, rfl, S5.out⟩
        case round =>
          clear S5
          obtain ⟨j, hj, rfl, s6⟩ := hrel
          have kc := Sep.cellH s6.swap
          have S6 := hid s6
          clear s6
          by_cases hlt2 : j ≤ N
          · have hltz2 : (j : Int) ≤ (N : Int) := by omega
            obtain ⟨oo, hoo⟩ : ∃ oo, telB isO T (j : Int) = oo := ⟨_, rfl⟩
            obtain ⟨om, hom⟩ : ∃ om, telB isM T (j : Int) = om := ⟨_, rfl⟩
            have HO : Hid (telB isO T (j : Int) = oo ∧ telB isM T (j : Int) = om) := ⟨hoo, hom⟩
            clear hoo hom
            go_wp2_with fail
            refine Calls.mono (open_is S6.out (j : Int) HO.out.1 HO.out.2) ?_
            rintro e w8 ⟨rfl, s8⟩
            have S8 := hid s8.swap
            clear s8 S6 kc
            go_wp2_with fail
            refine Calls.mono (ropen_is S8.out (j : Int) HO.out.1 HO.out.2) ?_
            rintro e w9 ⟨rfl, s9⟩
            have S9 := hid s9.swap
            clear s9 S8
            go_wp2
            go_round
            case rel => exact ⟨j + 1, by omega, by go_num, S9.out⟩
            case measure => simp [intOf]; omega
          · have hltz2 : ¬ (j : Int) ≤ (N : Int) := by omega
            go_wp2
            go_round
            case rel => exact ⟨i + 1, p, v, T, by omega, by go_num, rfl, HTl.out, S6.out⟩
            case measure => simp [intOf]; omega
      · have hq0 : (x.k == 0) = false := by simpa using hk0
        clear hk0
        by_cases hk1 : x.k = 1
        · have hq1 : (x.k == 1) = true := by simpa using hk1
          clear hk1
          obtain ⟨E, hE⟩ : ∃ E, freeE S x.l = E := ⟨_, rfl⟩
          have HE := hid hE
          clear hE
          obtain ⟨T, hT⟩ : ∃ T, freeS S x.l = T := ⟨_, rfl⟩
          have HD : Hid (freeS S x.l = T) := hT
          have HTl : Hid (T.length = N) := by show _ = _; rw [← hT, free_len]; exact HSl.out
          clear hT
          go_wp2_with fail
          refine Calls.mono (free_is S3.out x.l HE.out HD.out) ?_
          rintro e w4 ⟨rfl, s4⟩
          clear k0 k1 k2 k3
          obtain ⟨k0, k1, k2, k3⟩ := s4.opAt (q := qo) (x := x) (by simp)
          have S4 := hid s4.swap
          clear s4 S3
          go_wp2_with fail
          refine Calls.mono (rfree_is S4.out x.l HE.out HD.out) ?_
          rintro e w6 ⟨rfl, s6⟩
          have S5 : Hid (Sep w r w6 [lnT p v T, rfT kq (.slice ak N ck) T]) := s6.swap.third.swap.drop.swap
          clear s6 S4 k0 k1 k2 k3
          go_wp2_with fail
          go_loopw [20] (fun s20 wr => ∃ j : Nat, j ≤ N + 1 ∧ s20 = .int .i64 j ∧ Sep w r wr [lnT p v T, rfT kq (.slice ak N ck) T]) (fun s20 _ => N + 1 - (intOf s20).toNat)
          case atStart => exact ⟨0, by omega, rfl, S5.out⟩
          case round =>
            clear S5
            obtain ⟨j, hj, rfl, s6⟩ := hrel
            have kc := Sep.cellH s6.swap
            have S6 := hid s6
            clear s6
            by_cases hlt2 : j ≤ N
            · have hltz2 : (j : Int) ≤ (N : Int) := by omega
              obtain ⟨oo, hoo⟩ : ∃ oo, telB isO T (j : Int) = oo := ⟨_, rfl⟩
              obtain ⟨om, hom⟩ : ∃ om, telB isM T (j : Int) = om := ⟨_, rfl⟩
              have HO : Hid (telB isO T (j : Int) = oo ∧ telB isM T (j : Int) = om) := ⟨hoo, hom⟩
              clear hoo hom
              go_wp2_with fail
              refine Calls.mono (open_is S6.out (j : Int) HO.out.1 HO.out.2) ?_
              rintro e w8 ⟨rfl, s8⟩
              have S8 := hid s8.swap
              clear s8 S6 kc
              go_wp2_with fail
              refine Calls.mono (ropen_is S8.out (j : Int) HO.out.1 HO.out.2) ?_
              rintro e w9 ⟨rfl, s9⟩
              have S9 := hid s9.swap
              clear s9 S8
              go_wp2
              go_round
              case rel => exact ⟨j + 1, by omega, by go_num, S9.out⟩
              case measure => simp [intOf]; omega
            · have hltz2 : ¬ (j : Int) ≤ (N : Int) := by omega
              go_wp2
              go_round
              case rel => exact ⟨i + 1, p, v, T, by omega, by go_num, rfl, HTl.out, S6.out⟩
              case measure => simp [intOf]; omega
        · have hq1 : (x.k == 1) = false := by simpa using hk1
          clear hk1
          by_cases hk2 : x.k = 2
          · have hq2 : (x.k == 2) = true := by simpa using hk2
            clear hk2
            obtain ⟨ea, hea⟩ : ∃ ea, telA isO S x.l = ea := ⟨_, rfl⟩
            obtain ⟨eg, heg⟩ : ∃ eg, telG isO S x.l = eg := ⟨_, rfl⟩
            obtain ⟨eq, heq⟩ : ∃ eq, telB isO S x.l = eq := ⟨_, rfl⟩
            obtain ⟨ee, hee⟩ : ∃ ee, telE S x.l = ee := ⟨_, rfl⟩
            have HE : Hid (telA isO S x.l = ea ∧ telG isO S x.l = eg ∧ telB isO S x.l = eq ∧ telE S x.l = ee) := ⟨hea, heg, heq, hee⟩
            clear hea heg heq hee
            obtain ⟨T, hT⟩ : ∃ T, telS raiseX S x.l = T := ⟨_, rfl⟩
            have HD : Hid (telS raiseX S x.l = T) := hT
            have HTl : Hid (T.length = N) := by show _ = _; rw [← hT, tel_len]; exact HSl.out
            clear hT
            go_wp2_with fail
            refine Calls.mono (raise_is S3.out x.l HE.out.1 HE.out.2.1 HE.out.2.2.1 HE.out.2.2.2 HD.out) ?_
            rintro e w4 ⟨rfl, s4⟩
            clear k0 k1 k2 k3
            obtain ⟨k0, k1, k2, k3⟩ := s4.opAt (q := qo) (x := x) (by simp)
            have S4 := hid s4.swap
            clear s4 S3
            go_wp2_with fail
            refine Calls.mono (rraise_is S4.out x.l HE.out.1 HE.out.2.1 HE.out.2.2.1 HE.out.2.2.2 HD.out) ?_
            rintro e w6 ⟨rfl, s6⟩
            have S5 : Hid (Sep w r w6 [lnT p v T, rfT kq (.slice ak N ck) T]) := s6.swap.third.swap.drop.swap
            clear s6 S4 k0 k1 k2 k3
            go_wp2_with fail
            go_loopw [20] (fun s20 wr => ∃ j : Nat, j ≤ N + 1 ∧ s20 = .int .i64 j ∧ Sep w r wr [lnT p v T, rfT kq (.slice ak N ck) T]) (fun s20 _ => N + 1 - (intOf s20).toNat)
            case atStart => exact ⟨0, by omega, rfl, S5.out⟩
            case round =>
              clear S5
              obtain ⟨j, hj, rfl, s6⟩ := hrel
              have kc := Sep.cellH s6.swap
              have S6 := hid s6
              clear s6
              by_cases hlt2 : j ≤ N
              · have hltz2 : (j : Int) ≤ (N : Int) := by omega
                obtain ⟨oo, hoo⟩ : ∃ oo, telB isO T (j : Int) = oo := ⟨_, rfl⟩
                obtain ⟨om, hom⟩ : ∃ om, telB isM T (j : Int) = om := ⟨_, rfl⟩
                have HO : Hid (telB isO T (j : Int) = oo ∧ telB isM T (j : Int) = om) := ⟨hoo, hom⟩
                clear hoo hom
                go_wp2_with fail
                refine Calls.mono (open_is S6.out (j : Int) HO.out.1 HO.out.2) ?_
                rintro e w8 ⟨rfl, s8⟩
                have S8 := hid s8.swap
                clear s8 S6 kc
                go_wp2_with fail
                refine Calls.mono (ropen_is S8.out (j : Int) HO.out.1 HO.out.2) ?_
                rintro e w9 ⟨rfl, s9⟩
                have S9 := hid s9.swap
                clear s9 S8
                go_wp2
                go_round
                case rel => exact ⟨j + 1, by omega, by go_num, S9.out⟩
                case measure => simp [intOf]; omega
              · have hltz2 : ¬ (j : Int) ≤ (N : Int) := by omega
                go_wp2
                go_round
                case rel => exact ⟨i + 1, p, v, T, by omega, by go_num, rfl, HTl.out, S6.out⟩
                case measure => simp [intOf]; omega
          · have hq2 : (x.k == 2) = false := by simpa using hk2
            clear hk2
            by_cases hk3 : x.k = 3
            · have hq3 : (x.k == 3) = true := by simpa using hk3
              clear hk3
              obtain ⟨ea, hea⟩ : ∃ ea, telA isM S x.l = ea := ⟨_, rfl⟩
              obtain ⟨eg, heg⟩ : ∃ eg, telG isM S x.l = eg := ⟨_, rfl⟩
              obtain ⟨eq, heq⟩ : ∃ eq, telB isM S x.l = eq := ⟨_, rfl⟩
              obtain ⟨ee, hee⟩ : ∃ ee, telE S x.l = ee := ⟨_, rfl⟩
              have HE : Hid (telA isM S x.l = ea ∧ telG isM S x.l = eg ∧ telB isM S x.l = eq ∧ telE S x.l = ee) := ⟨hea, heg, heq, hee⟩
              clear hea heg heq hee
              obtain ⟨T, hT⟩ : ∃ T, telS ackX S x.l = T := ⟨_, rfl⟩
              have HD : Hid (telS ackX S x.l = T) := hT
              have HTl : Hid (T.length = N) := by show _ = _; rw [← hT, tel_len]; exact HSl.out
              clear hT
              go_wp2_with fail
              refine Calls.mono (ack_is S3.out x.l HE.out.1 HE.out.2.1 HE.out.2.2.1 HE.out.2.2.2 HD.out) ?_
              rintro e w4 ⟨rfl, s4⟩
              clear k0 k1 k2 k3
              obtain ⟨k0, k1, k2, k3⟩ := s4.opAt (q := qo) (x := x) (by simp)
              have S4 := hid s4.swap
              clear s4 S3
              go_wp2_with fail
              refine Calls.mono (rack_is S4.out x.l HE.out.1 HE.out.2.1 HE.out.2.2.1 HE.out.2.2.2 HD.out) ?_
              rintro e w6 ⟨rfl, s6⟩
              have S5 : Hid (Sep w r w6 [lnT p v T, rfT kq (.slice ak N ck) T]) := s6.swap.third.swap.drop.swap
              clear s6 S4 k0 k1 k2 k3
              go_wp2_with fail
              go_loopw [20] (fun s20 wr => ∃ j : Nat, j ≤ N + 1 ∧ s20 = .int .i64 j ∧ Sep w r wr [lnT p v T, rfT kq (.slice ak N ck) T]) (fun s20 _ => N + 1 - (intOf s20).toNat)
              case atStart => exact ⟨0, by omega, rfl, S5.out⟩
              case round =>
                clear S5
                obtain ⟨j, hj, rfl, s6⟩ := hrel
                have kc := Sep.cellH s6.swap
                have S6 := hid s6
                clear s6
                by_cases hlt2 : j ≤ N
                · have hltz2 : (j : Int) ≤ (N : Int) := by omega
                  obtain ⟨oo, hoo⟩ : ∃ oo, telB isO T (j : Int) = oo := ⟨_, rfl⟩
                  obtain ⟨om, hom⟩ : ∃ om, telB isM T (j : Int) = om := ⟨_, rfl⟩
                  have HO : Hid (telB isO T (j : Int) = oo ∧ telB isM T (j : Int) = om) := ⟨hoo, hom⟩
                  clear hoo hom
                  go_wp2_with fail
                  refine Calls.mono (open_is S6.out (j : Int) HO.out.1 HO.out.2) ?_
                  rintro e w8 ⟨rfl, s8⟩
                  have S8 := hid s8.swap
                  clear s8 S6 kc
                  go_wp2_with fail
                  refine Calls.mono (ropen_is S8.out (j : Int) HO.out.1 HO.out.2) ?_
                  rintro e w9 ⟨rfl, s9⟩
                  have S9 := hid s9.swap
                  clear s9 S8
                  go_wp2
                  go_round
                  case rel => exact ⟨j + 1, by omega, by go_num, S9.out⟩
                  case measure => simp [intOf]; omega
                · have hltz2 : ¬ (j : Int) ≤ (N : Int) := by omega
                  go_wp2
                  go_round
                  case rel => exact ⟨i + 1, p, v, T, by omega, by go_num, rfl, HTl.out, S6.out⟩
                  case measure => simp [intOf]; omega
            · have hq3 : (x.k == 3) = false := by simpa using hk3
              clear hk3
              by_cases hk4 : x.k = 4
              · have hq4 : (x.k == 4) = true := by simpa using hk4
                clear hk4
                have HTl := HSl
                go_wp2_with fail
                refine Calls.mono (copy_sep S3.out (by have := HSl.out; omega)) ?_
                rintro e w4 ⟨p4, v4, rfl, s4⟩
                clear k0 k1 k2 k3
                obtain ⟨k0, k1, k2, k3⟩ := s4.opAt (q := qo) (x := x) (by simp)
                have S4 := hid s4.swap
                clear s4 S3
                obtain ⟨E4, hE4⟩ : ∃ E4, freeE S x.l = E4 := ⟨_, rfl⟩
                obtain ⟨T4, hT4⟩ : ∃ T4, freeS S x.l = T4 := ⟨_, rfl⟩
                have H4 : Hid (freeE S x.l = E4 ∧ freeS S x.l = T4) := ⟨hE4, hT4⟩
                clear hE4 hT4
                go_wp2_with fail
                refine Calls.mono (free_is S4.out x.l H4.out.1 H4.out.2) ?_
                rintro e w5 ⟨rfl, s5⟩
                have S6 := hid s5
                clear s5 S4 k0 k1 k2 k3
                obtain ⟨ea, hea⟩ : ∃ ea, telA isO T4 0 = ea := ⟨_, rfl⟩
                obtain ⟨eg, heg⟩ : ∃ eg, telG isO T4 0 = eg := ⟨_, rfl⟩
                obtain ⟨eq, heq⟩ : ∃ eq, telB isO T4 0 = eq := ⟨_, rfl⟩
                obtain ⟨ee, hee⟩ : ∃ ee, telE T4 0 = ee := ⟨_, rfl⟩
                have HE : Hid (telA isO T4 0 = ea ∧ telG isO T4 0 = eg ∧ telB isO T4 0 = eq ∧ telE T4 0 = ee) := ⟨hea, heg, heq, hee⟩
                clear hea heg heq hee
                go_wp2_with fail
                refine Calls.mono (raise_is S6.out 0 HE.out.1 HE.out.2.1 HE.out.2.2.1 HE.out.2.2.2 rfl) ?_
                rintro e w6 ⟨rfl, s6⟩
                have S5 : Hid (Sep w r w6 [lnT p4 v4 S, rfT kq (.slice ak N ck) S]) := s6.drop.third.swap.drop.swap
                clear s6 S6
                go_wp2_with fail
                go_loopw [20] (fun s20 wr => ∃ j : Nat, j ≤ N + 1 ∧ s20 = .int .i64 j ∧ Sep w r wr [lnT p4 v4 S, rfT kq (.slice ak N ck) S]) (fun s20 _ => N + 1 - (intOf s20).toNat)
                case atStart => exact ⟨0, by omega, rfl, S5.out⟩
                case round =>
                  clear S5
                  obtain ⟨j, hj, rfl, s6⟩ := hrel
                  have kc := Sep.cellH s6.swap
                  have S6 := hid s6
                  clear s6
                  by_cases hlt2 : j ≤ N
                  · have hltz2 : (j : Int) ≤ (N : Int) := by omega
                    obtain ⟨oo, hoo⟩ : ∃ oo, telB isO S (j : Int) = oo := ⟨_, rfl⟩
                    obtain ⟨om, hom⟩ : ∃ om, telB isM S (j : Int) = om := ⟨_, rfl⟩
                    have HO : Hid (telB isO S (j : Int) = oo ∧ telB isM S (j : Int) = om) := ⟨hoo, hom⟩
                    clear hoo hom
                    go_wp2_with fail
                    refine Calls.mono (open_is S6.out (j : Int) HO.out.1 HO.out.2) ?_
                    rintro e w8 ⟨rfl, s8⟩
                    have S8 := hid s8.swap
                    clear s8 S6 kc
                    go_wp2_with fail
                    refine Calls.mono (ropen_is S8.out (j : Int) HO.out.1 HO.out.2) ?_
                    rintro e w9 ⟨rfl, s9⟩
                    have S9 := hid s9.swap
                    clear s9 S8
                    go_wp2
                    go_round
                    case rel => exact ⟨j + 1, by omega, by go_num, S9.out⟩
                    case measure => simp [intOf]; omega
                  · have hltz2 : ¬ (j : Int) ≤ (N : Int) := by omega
                    go_wp2
                    go_round
                    case rel => exact ⟨i + 1, p4, v4, S, by omega, by go_num, rfl, HTl.out, S6.out⟩
                    case measure => simp [intOf]; omega
              · have hq4 : (x.k == 4) = false := by simpa using hk4
                clear hk4
                have HTl := HSl
                have S5 : Hid (Sep w r (wr.alloc (objO x)) [lnT p v S, rfT kq (.slice ak N ck) S]) := S3.out.third.swap.drop.swap
                clear S3
                simp only [objO] at S5
                go_wp2_with fail
                go_loopw [20] (fun s20 wr => ∃ j : Nat, j ≤ N + 1 ∧ s20 = .int .i64 j ∧ Sep w r wr [lnT p v S, rfT kq (.slice ak N ck) S]) (fun s20 _ => N + 1 - (intOf s20).toNat)
                case atStart => exact ⟨0, by omega, rfl, S5.out⟩
                case round =>
                  clear S5
                  obtain ⟨j, hj, rfl, s6⟩ := hrel
                  have kc := Sep.cellH s6.swap
                  have S6 := hid s6
                  clear s6
                  by_cases hlt2 : j ≤ N
                  · have hltz2 : (j : Int) ≤ (N : Int) := by omega
                    obtain ⟨oo, hoo⟩ : ∃ oo, telB isO S (j : Int) = oo := ⟨_, rfl⟩
                    obtain ⟨om, hom⟩ : ∃ om, telB isM S (j : Int) = om := ⟨_, rfl⟩
                    have HO : Hid (telB isO S (j : Int) = oo ∧ telB isM S (j : Int) = om) := ⟨hoo, hom⟩
                    clear hoo hom
                    go_wp2_with fail
                    refine Calls.mono (open_is S6.out (j : Int) HO.out.1 HO.out.2) ?_
                    rintro e w8 ⟨rfl, s8⟩
                    have S8 := hid s8.swap
                    clear s8 S6 kc
                    go_wp2_with fail
                    refine Calls.mono (ropen_is S8.out (j : Int) HO.out.1 HO.out.2) ?_
                    rintro e w9 ⟨rfl, s9⟩
                    have S9 := hid s9.swap
                    clear s9 S8
                    go_wp2
                    go_round
                    case rel => exact ⟨j + 1, by omega, by go_num, S9.out⟩
                    case measure => simp [intOf]; omega
                  · have hltz2 : ¬ (j : Int) ≤ (N : Int) := by omega
                    go_wp2
                    go_round
                    case rel => exact ⟨i + 1, p, v, S, by omega, by go_num, rfl, HTl.out, S6.out⟩
                    case measure => simp [intOf]; omega

    · have hex : (¬ ((i : Int) < (X.length : Int))) ∨ ((i : Int) < (X.length : Int) ∧ ¬ ((i : Int) < 80)) := by omega
      clear hgo
      generalize hn : X.length = nX at *
      rcases hex with h | ⟨h, h2⟩
      all_goals
        go_wp2_with fail
        refine Calls.mono (fixed_sep S1.out) ?_
        rintro e w2 ⟨rfl, s2⟩
        have S2 := hid s2
        clear s2
        go_wp2
        go_ret
        exact ⟨rfl, by rw [HR.out]; exact S2.out.low⟩
open Go.ChangeShapes Go.WideShapes Go.ChangeAt Go.RowKit Go.Joins

/-! ### From the walk to the statement -/
set_option maxRecDepth 100000 in
theorem lifted (os : Os) (started : os.Started) (H : Type) (enc : TypeId × Value → H) :
    ReturnsInHanded {} Try.checked os 3 .any (Rows.irqDoesSpec.pre6 enc Try.prog Try.f3 Rows.irqDoesRow.domain false) (Rows.irqDoesSpec.post enc Try.prog Try.f3 false true false false) := by
  refine returnsInHanded_of_change (C := Try.checked) own started (by kernel_rfl) Try.func3
    (ChangeSpec.witness6 (enc := enc) (C := Try.checked) false ⟨#[], #[.int .i64 0, .slice none 0 0], []⟩ 8 (by kernel_rfl) (by kernel_rfl) (by kernel_rfl) (by kernel_rfl)) ?_
  intro W base args ds gs before hval0 hW hcnd _
  have hval : ∀ (j : Nat) t v, Try.f3.params[j]? = some t → args[j]? = some v → Value.okWide Try.prog W .any base t v := hval0
  have hW' := hW
  obtain ⟨p, q, hA0, hV, rfl, hfz, hnd⟩ := hW
  have hA : DataW.TrodAll enc Try.prog W 0 (fun _ => true) true Try.f3.params.toList args.toList ds p := hA0
  rw [Try.params3] at hA hval
  obtain ⟨v0, vs0, d0, ds0, p0, q0, hargs, rfl, rfl, h0, r0⟩ := trodAll_cons hA
  obtain ⟨v1, vs1, d1, ds1, p1, q1, rfl, rfl, rfl, h1, r1⟩ := trodAll_cons r0
  obtain ⟨rfl, rfl, rfl⟩ := trodAll_nil r1
  obtain rfl : args = #[v0, v1] := by cases args; simp_all
  obtain ⟨rfl, rfl⟩ := trodVars_none hV
  have k0 := h0
  have lt0 : ∀ x ∈ p0, x.block < W.heap.size := by obtain ⟨m, hm⟩ := k0; exact DataW.trod_lt m _ _ _ hm
  obtain ⟨a0, rfl, _, _, w0⟩ := open_int Try.underlying3 (hval 0 3 v0 rfl rfl) h0
  have k1 := h1
  have lt1 : ∀ x ∈ p1, x.block < W.heap.size := by obtain ⟨m, hm⟩ := k1; exact DataW.trod_lt m _ _ _ hm
  obtain ⟨a1, l1, c1, rfl, t1, s1⟩ := open_ops (hval 1 22 v1 rfl rfl) h1
  clear hA0 hval0
  refine (walk a0 a1 l1 c1 W (bounds_i64 w0) t1 s1).mono fun e W' ⟨he, bel⟩ => ?_
  subst he
  exact ⟨_, rfl, _, _, _, [], _, [], hW', trodAll_mk1 (shut_bool Try.underlying4 _), (trodAll_cons_mk (Below.trod laidOut (by kernel_rfl) (of_decide_eq_true (by kernel_rfl)) k0 bel lt0) (trodAll_cons_mk (Below.trod laidOut (by kernel_rfl) (of_decide_eq_true (by kernel_rfl)) k1 bel lt1) trodAll_mk0)), rfl, bel.frame _, fun h => by cases h⟩
theorem over : Rows.irqDoesRow.holds Try.pinned (OpenSpec.ofChange Rows.irqDoesSpec) :=
  OpenClaim.holds_of_wide 3 Try.f3 rfl rfl rfl rfl rfl rfl rfl ⟨rfl, rfl, rfl, rfl, rfl⟩ rfl rfl rfl rfl rfl (by kernel_rfl) Try.func3 (by kernel_rfl)
    (of_decide_eq_true (by kernel_rfl)) (by unfold Func.isWrapper; first | (rw [if_pos (by decide +kernel)]; kernel_rfl) | (rw [if_neg (by decide +kernel)]; exact ⟨rfl, rfl⟩))
    (fun os started H enc _ => lifted os started H enc)
end Go.Proofs.Ytgkcbcigdjappaa.irqDoes
namespace Go.Proofs.Ytgkcbcigdjappaa
/-- THE STATEMENT. -/
theorem irqDoes_said : Rows.IrqDoesSaid := irqDoes.over
#print axioms irqDoes_said
end Go.Proofs.Ytgkcbcigdjappaa

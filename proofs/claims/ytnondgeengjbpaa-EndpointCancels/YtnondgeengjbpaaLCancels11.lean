/-
  EndpointCancels: who is taken back meets nobody; those with a badge are taken back all, and no other one; no condition.
-/
import Derived.Test.YtnondgeengjbpaaJLaw
import Derived.Test.YtnondgeengjbpaaJOdds
import Derived.Deep.Cut
import Derived.Deep.CutRange
namespace Go.Proofs.Ytnondgeengjbpaa.endpointCancels
open Go.RowKit Go.Deep Go.Shelf
set_option maxHeartbeats 16000000 in
set_option maxRecDepth 100000 in
theorem walk (ao : Option Addr) (X : List Oc) (cap : Nat) (g : Int) (w : World) (hX : Ops w ao X) (_hxl : X.length ≤ 9223372036854775807) (_hg : 0 ≤ g ∧ g ≤ 18446744073709551615) :
    Calls Try.prog 5 #[.slice ao X.length cap, .int .u64 g] w fun e w' => e = .returned (.bool true) ∧ Below w.heap.size w w' := by
  have HX := hid hX
  clear hX _hg
  go_enter Try.func5, Try.ntmps5
  go_wp2_with fail
  refine Calls.mono (new_sep (sep_nil w)) ?_
  rintro e w1 ⟨p, v, rfl, s1⟩
  have s2 := (Sep.made (E := elI) (Sep.made (E := elI) s1)).third.swap
  have e9 : (w1.alloc (.cells #[] elI.e)).heap.size = w1.heap.size + 1 := by simp
  rw [e9] at s2
  simp only [elI] at s2
  have S1 := hid s2
  clear s1 s2 e9
  generalize hr : w.heap.size = r at *
  have HR := hid hr
  clear hr
  go_wp2_with fail
  go_loopw [6, 7, 8] (fun s6 s7 s8 wr => ∃ (k : Nat) (v : Value) (S : St), k ≤ 30 ∧ s8 = .int .i64 k ∧ S.length ≤ k ∧ Sn S ∧ Sep w r wr [epT p v S, lstI s6 (outN (isG g) S), lstI s7 (waitsN (outS (isG g) S))]) (fun _ _ s8 _ => 30 - (intOf s8).toNat)
  case atStart => exact ⟨0, v, [], by omega, rfl, by simp, fun x hx => by simp at hx, S1.out⟩
  case round =>
    clear S1
    obtain ⟨k, v, S, hk, rfl, hS, hsn, s1⟩ := hrel
    obtain ⟨a6, c6, rfl⟩ := s1.listIs (E := elI) (v := u6) (A := outN (isG g) S) (by simp)
    obtain ⟨a7, c7, rfl⟩ := s1.listIs (E := elI) (v := u7) (A := waitsN (outS (isG g) S)) (by simp)
    have S1 := hid s1
    have HC := hid hsn
    have HLn : Hid ((outN (isG g) S).length ≤ 1000 ∧ (waitsN (outS (isG g) S)).length ≤ 1000) := ⟨by have := outN_len (isG g) S; omega, by have := out_len (isG g) S; rw [waits_len]; omega⟩
    clear s1 hsn
    by_cases hgo : k < X.length ∧ k < 30
    · obtain ⟨hlt, h40⟩ := hgo
      have HAT := hid (fun (W : World) (h : Below r w W) => Ops.at (SeeK.below HX.out h (by rw [HR.out]; exact Nat.le_refl _)) (List.getElem?_eq_getElem hlt))
      obtain ⟨-, b, a, rfl, d0, d1, d2, d3, d4, d5, d6, d7, d8, d9⟩ := HAT.out wr S1.out.low
      generalize hx : X[k] = x at *
      have HSl := hid hS
      clear hx hS d0 d9
      generalize hn : X.length = n at *
      have hltz : (k : Int) < (n : Int) := by omega
      have h40z : (k : Int) < 30 := by omega
      obtain ⟨E, hE⟩ : ∃ E, sendE S x.n = E := ⟨_, rfl⟩
      obtain ⟨T, hT⟩ : ∃ T, sendS S x.n x.m true = T := ⟨_, rfl⟩
      obtain ⟨Y, hY⟩ : ∃ Y, sendM S x.n x.m = Y := ⟨_, rfl⟩
      have HD : Hid (sendE S x.n = E ∧ sendS S x.n x.m true = T ∧ sendM S x.n x.m = Y) := ⟨hE, hT, hY⟩
      clear hE hT hY
      obtain ⟨A, hA⟩ : ∃ A, outN (isG g) S = A := ⟨_, rfl⟩
      obtain ⟨B, hB⟩ : ∃ B, waitsN (outS (isG g) S) = B := ⟨_, rfl⟩
      rw [hA, hB] at S1 HLn
      rw [hA, hB]
      have HAB := hid (And.intro hA hB)
      clear hA hB
      go_wp2_with fail
      go_cut [9, 10] from 33 to 47 (fun s9 s10 wx => ∃ q v2, s9 = .pointer (some ⟨q, 0, none⟩) ∧ s10 = .int .i64 E ∧ Sep w r wx [epT p v2 T, lstI (.slice a6 A.length c6) A, lstI (.slice a7 B.length c7) B])
      case first =>
        have hob : objT mt0 = .cells #[.bool false, .int .i64 0, .int .i64 0, .int .i64 0, .int .u64 0, .int .u64 0, .int .u64 0, .int .u64 0, .int .u64 0, .bool false] 37 := rfl
        have sb := (S1.out.box (objT mt0)).swap.drew
        rw [hob] at sb
        have SB := hid sb
        clear sb
        have D1 := cell_al d1 (.cells #[.bool false, .int .i64 0, .int .i64 0, .int .i64 0, .int .u64 0, .int .u64 0, .int .u64 0, .int .u64 0, .int .u64 0, .bool false] 37)
        have D2 := cell_al d2 (.cells #[.bool false, .int .i64 0, .int .i64 0, .int .i64 0, .int .u64 0, .int .u64 0, .int .u64 0, .int .u64 0, .int .u64 0, .bool false] 37)
        have D3 := cell_al d3 (.cells #[.bool false, .int .i64 0, .int .i64 0, .int .i64 0, .int .u64 0, .int .u64 0, .int .u64 0, .int .u64 0, .int .u64 0, .bool false] 37)
        have D4 := cell_al d4 (.cells #[.bool false, .int .i64 0, .int .i64 0, .int .i64 0, .int .u64 0, .int .u64 0, .int .u64 0, .int .u64 0, .int .u64 0, .bool false] 37)
        have D5 := cell_al d5 (.cells #[.bool false, .int .i64 0, .int .i64 0, .int .i64 0, .int .u64 0, .int .u64 0, .int .u64 0, .int .u64 0, .int .u64 0, .bool false] 37)
        have D6 := cell_al d6 (.cells #[.bool false, .int .i64 0, .int .i64 0, .int .i64 0, .int .u64 0, .int .u64 0, .int .u64 0, .int .u64 0, .int .u64 0, .bool false] 37)
        have D7 := cell_al d7 (.cells #[.bool false, .int .i64 0, .int .i64 0, .int .i64 0, .int .u64 0, .int .u64 0, .int .u64 0, .int .u64 0, .int .u64 0, .bool false] 37)
        have D8 := cell_al d8 (.cells #[.bool false, .int .i64 0, .int .i64 0, .int .i64 0, .int .u64 0, .int .u64 0, .int .u64 0, .int .u64 0, .int .u64 0, .bool false] 37)
        go_region_with (first
          | (go_at_call 10; (with_reducible refine Calls.mono (send_is SB.out x.n x.m true (by have := HSl.out; omega) HD.out.2.2 HD.out.1 HD.out.2.1) ?_); rintro e w2 ⟨rfl, v2, s2⟩; rw [← hob] at s2; have Z := (s2.each (blk wr.heap.size (objT mt0)) (by simp)).1; obtain ⟨z0, z1, z2, z3, z4, z5, z6, z7, z8, z9⟩ := (atT_of (x := mt0) Z).cells; have zf := frozenT (x := mt0) Z; have S5 := hid ((s2.swap.putT Y).drop); clear Z s2; unfold put10 at S5; simp only [mt0, ms0] at z0 z1 z2 z3 z4 z5 z6 z7 z8 z9)
          | (go_at_call 10; (with_reducible refine Calls.mono (send_is S1.out.drew x.n x.m true (by have := HSl.out; omega) HD.out.2.2 HD.out.1 HD.out.2.1) ?_); rintro e w2 ⟨rfl, v2, s2⟩; have S5 := hid (s2.box (objT Y)).drop; clear s2))
        all_goals go_wp2_with fail
        all_goals go_meet
        all_goals exact ⟨_, _, rfl, rfl, S5.out⟩
      case rest =>
        obtain ⟨q, v2, rfl, rfl, s3⟩ := hcut
        have S3 := hid s3
        obtain ⟨-, _, _, ee, -, f1, -, -, -, -, -, f7, -, -⟩ := HAT.out _ s3.low
        cases ee
        clear s3 S1 d1 d2 d3 d4 d5 d6 d7 d8
        have HQ := hid (sn_send HC.out x.n x.m)
        rw [HD.out.1, HD.out.2.1] at HQ
        rcases HQ.out with ⟨rfl, rfl⟩ | ⟨rfl, hT⟩
        · clear HQ
          go_wp2
          go_round
          case rel => exact ⟨k + 1, v2, T, by omega, by go_num, by have := HSl.out; omega, HC.out, by rw [HAB.out.1, HAB.out.2]; exact S3.out⟩
          case measure => simp [intOf]; omega
        · have HA : outN (isG g) T = if isG g ⟨x.n, true, x.m⟩ = true then A ++ [x.n] else A := by rw [hT, outN_app, HAB.out.1]
          have HB : waitsN (outS (isG g) T) = if isG g ⟨x.n, true, x.m⟩ = true then B else B ++ [x.n] := by rw [hT, waits_app, HAB.out.2]
          have HS : Hid (Sn T) := by show Sn T; rw [hT]; exact sn_app HC.out x.n x.m
          have HLT : Hid (T.length = S.length + 1) := by show _ = _; rw [hT]; simp
          clear HQ
          by_cases hgg : x.m.g = g
          · have hq : (x.m.g == g) = true := by simpa using hgg
            have hi : isG g ⟨x.n, true, x.m⟩ = true := by simp [isG, hgg]
            rw [if_pos hi] at HA HB
            have HAB2 := hid (And.intro HA HB)
            obtain ⟨v4, w4, r4, s4⟩ := S3.out.swap.more okI 27 x.n (C := #[.int .i64 x.n]) rfl (by have := HLn.out; omega)
            simp only [elI] at r4
            have R4 := hid r4
            have S4 := hid s4.swap
            clear HA HB r4 s4 hgg hi hT
            go_wp2_with (at_builtin; refine wpList_append_run rfl _ _ _ _ rfl _ _ _ _ rfl rfl R4.out ?_)
            go_round
            case rel => exact ⟨k + 1, v2, T, by omega, by go_num, by have := HSl.out; have := HLT.out; omega, HS.out, by rw [HAB2.out.1, HAB2.out.2]; exact S4.out⟩
            case measure => simp [intOf]; omega
          · have hq : (x.m.g == g) = false := by simpa using hgg
            have hi : ¬ isG g ⟨x.n, true, x.m⟩ = true := by simp [isG, hgg]
            rw [if_neg hi] at HA HB
            have HAB2 := hid (And.intro HA HB)
            obtain ⟨v4, w4, r4, s4⟩ := S3.out.third.third.more okI 27 x.n (C := #[.int .i64 x.n]) rfl (by have := HLn.out; omega)
            simp only [elI] at r4
            have R4 := hid r4
            have S4 := hid s4.third
            clear HA HB r4 s4 hgg hi hT
            go_wp2_with (at_builtin; refine wpList_append_run rfl _ _ _ _ rfl _ _ _ _ rfl rfl R4.out ?_)
            go_round
            case rel => exact ⟨k + 1, v2, T, by omega, by go_num, by have := HSl.out; have := HLT.out; omega, HS.out, by rw [HAB2.out.1, HAB2.out.2]; exact S4.out⟩
            case measure => simp [intOf]; omega
    · have hex : (¬ ((k : Int) < (X.length : Int))) ∨ ((k : Int) < (X.length : Int) ∧ ¬ ((k : Int) < 30)) := by omega
      have HSl : Hid (S.length ≤ 30) := (Nat.le_trans hS hk)
      clear hgo hS
      generalize hn : X.length = nX at *
      obtain ⟨Q, hQ⟩ : ∃ Q, outS (isG g) S = Q := ⟨_, rfl⟩
      have HQg : Hid (Good Q ∧ Sn Q ∧ Q.length ≤ 30 ∧ outS (isG g) S = Q) := ⟨by rw [← hQ]; exact good_out S1.out.good _, by rw [← hQ]; exact sn_out HC.out _, by have := out_len (isG g) S; rw [hQ] at this; have := HSl.out; omega, hQ⟩
      rw [hQ] at S1 HLn
      rw [hQ]
      obtain ⟨A, hA⟩ : ∃ A, outN (isG g) S = A := ⟨_, rfl⟩
      obtain ⟨N, hN⟩ : ∃ N, waitsN Q = N := ⟨_, rfl⟩
      rw [hA, hN] at S1 HLn
      rw [hA, hN]
      have HA := hid hA
      have HN : Hid (waitsN Q = N ∧ N.length = Q.length) := ⟨hN, by rw [← hN, waits_len]⟩
      clear hQ hA hN
      rcases hex with h | ⟨h, h2⟩
      all_goals
        go_wp2_with fail
        refine Calls.mono (badge_is S1.out g (by have := HSl.out; omega) HA.out HQg.out.2.2.2) ?_
        rintro e w2 ⟨ab, cb, v2, rfl, s2⟩
        have S2 := hid s2
        clear s2 S1
        go_wp2_with fail
        refine Calls.mono (nums_is S2.out (u := .slice ab A.length cb) (v := .slice a6 A.length c6) (A := A) (B := A) (by simp) (by simp) HLn.out.1 rfl) ?_
        rintro e w3 ⟨rfl, s3⟩
        have S3 := hid s3.drop2.drop2
        clear s3 S2
        generalize hm : N.length = m at *
        have HM : Hid (N.length = m) := hm
        have hm30 : m ≤ 30 := by have := HN.out.2; have := HQg.out.2.2.1; omega
        clear hm
        go_wp2_with fail
        go_loopw [11] (fun s11 wr => ∃ (j : Nat) (v : Value), j ≤ m ∧ s11 = .int .i64 j ∧ Sep w r wr [epT p v (left Q j), lstI (.slice a7 m c7) N]) (fun s11 _ => m - (intOf s11).toNat)
        case atStart => exact ⟨0, v2, by omega, rfl, by rw [left_zero]; exact S3.out⟩
        case round =>
          clear S3
          obtain ⟨j, v3, hj, rfl, s4⟩ := hrel
          have HLl := hid (left_len Q j)
          by_cases hlt : j < m
          · have hltz : (j : Int) < (m : Int) := by omega
            have hjQ : j < Q.length := by have := HN.out.2; omega
            have hx := List.getElem?_eq_getElem hjQ
            have hnx : N[j]? = some Q[j].n := by rw [← HN.out.1]; unfold waitsN; rw [List.getElem?_map, hx]; rfl
            obtain ⟨g7, rfl, hc⟩ := s4.listAt okI (ao := a7) (n := m) (cap := c7) (A := N) (by simp) hnx
            have c0 := hc 0 _ rfl
            have c0' : wr.cell? ⟨g7, j, none⟩ = some (.int .i64 Q[j].n) := by simpa [elI] using c0
            have S4 := hid s4
            by_cases hp : j % 2 = 0
            · have HE := hid (left_even HQg.out.1 hx hp)
              have ht1 : (j : Int).tmod 2 = 0 := by rw [Int.tmod_eq_emod_of_nonneg (by omega)]; omega
              have ht2 : (j : Int) % 2 = 0 := by omega
              generalize Q[j] = y at *
              clear hx hnx hc c0 s4 hp hjQ
              go_wp2_with fail
              refine Calls.mono (cancel_is' S4.out y.n (by have := HLl.out; have := HQg.out.2.2.1; omega) HE.out.1 HE.out.2) ?_
              rintro e w5 ⟨rfl, v5, s5⟩
              have S5 := hid s5
              clear s5 S4
              go_wp2
              go_round
              case rel => exact ⟨j + 1, v5, by omega, by go_num, S5.out⟩
              case measure => simp [intOf]; omega
            · have HE := hid (left_odd Q hx (by omega))
              have ht1 : (j : Int).tmod 2 = 1 := by rw [Int.tmod_eq_emod_of_nonneg (by omega)]; omega
              have ht2 : (j : Int) % 2 = 1 := by omega
              clear hx hnx hc c0 c0' s4 hp hjQ
              go_wp2
              go_round
              case rel => exact ⟨j + 1, v3, by omega, by go_num, by rw [HE.out]; exact S4.out⟩
              case measure => simp [intOf]; omega
          · have hltz : ¬ (j : Int) < (m : Int) := by omega
            rw [left_all Q (by have := HN.out.2; omega)] at s4
            have S4 := hid s4
            clear s4 hlt hj HLl
            go_wp2_with fail
            go_loopw [12] (fun s12 wr => ∃ (t : Nat) (v : Value), t ≤ (odds Q).length ∧ s12 = .int .i64 ((2 * t + 1 : Nat) : Int) ∧ Sep w r wr [epT p v ((odds Q).drop t), lstI (.slice a7 m c7) N]) (fun s12 _ => 40 - (intOf s12).toNat)
            case atStart => exact ⟨0, v3, by omega, rfl, S4.out⟩
            case round =>
              clear S4
              obtain ⟨t, v4, ht, rfl, s5⟩ := hrel
              have hol := odds_len Q t
              have hos := (odds_sub Q).length_le
              by_cases hlt : t < (odds Q).length
              · have hq30 := HQg.out.2.2.1
                have hmq := HN.out.2
                have h21 := hol.1 hlt
                generalize hi : 2 * t + 1 = i at *
                have hltz : (i : Int) < (m : Int) := by omega
                have hi30 : i ≤ 30 := by omega
                have hy := List.getElem?_eq_getElem hlt
                have hQy : Q[i]? = some (odds Q)[t] := by rw [← hi, ← odds_get]; exact hy
                have hnx : N[i]? = some (odds Q)[t].n := by rw [← HN.out.1]; unfold waitsN; rw [List.getElem?_map, hQy]; rfl
                have hd : (odds Q).drop t = (odds Q)[t] :: (odds Q).drop (t + 1) := List.drop_eq_getElem_cons hlt
                have hys : (odds Q)[t].s = true := HQg.out.2.1 _ ((odds_sub Q).subset (List.getElem_mem hlt))
                rw [hd] at s5
                have HSy := hid (sn_recv (T := (odds Q).drop (t + 1)) hys (-7))
                have HLd : Hid (((odds Q)[t] :: (odds Q).drop (t + 1)).length ≤ 1000) := by show _ ≤ _; rw [← hd, List.length_drop]; omega
                obtain ⟨g7, rfl, hc⟩ := s5.listAt okI (ao := a7) (n := m) (cap := c7) (A := N) (by simp) hnx
                have S5 := hid s5
                have HNX := hid hnx
                have HI := hid hi
                have HT := hid hlt
                have hw1 : IntKind.i64.wrap ((i : Int) + 2) = (i : Int) + 2 := by
                  unfold IntKind.wrap
                  simp [IntKind.bits, IntKind.signed]
                  omega
                have c0 := fun (W : World) (h : Sep w r W [epT p v4 ((odds Q)[t] :: (odds Q).drop (t + 1)), lstI (.slice (some ⟨g7, 0, none⟩) m c7) N]) => h.low
                clear hy hQy hd hys s5 hc hol hos h21 c0 hmq hq30
                generalize (odds Q)[t] = y at *
                clear hlt hi ht hnx
                generalize hD : (odds Q).drop (t + 1) = D at *
                have HDD := hid hD
                clear hD
                rcases HSy.out with ⟨hE, hR⟩ | ⟨hE, hM, hR⟩
                · obtain ⟨Y, hY⟩ : ∃ Y, recvM (y :: D) (-7) = Y := ⟨_, rfl⟩
                  have HR3 := hid (And.intro hE (And.intro hY hR))
                  clear hE hY hR HSy
                  go_wp2_with fail
                  refine Calls.mono (recv_is S5.out (-7) false HLd.out HR3.out.2.1 HR3.out.1 HR3.out.2.2) ?_
                  rintro e w6 ⟨rfl, v6, s6⟩
                  have s7 := (s6.box (objT Y)).swap
                  obtain ⟨-, d1, -⟩ := (s7.metAt (q := w6.heap.size) (x := Y) (by simp)).cells
                  have c0 := RowI.cell (s7.each (lstI (.slice (some ⟨g7, 0, none⟩) m c7) N) (by simp)).1 HNX.out
                  obtain ⟨β, hb⟩ : ∃ β, (Y.f == y.n) = β := ⟨_, rfl⟩
                  have S7 := hid s7
                  have hob : objT Y = .cells #[.bool Y.i, .int .i64 Y.f, .int .i64 Y.t, .int .i64 Y.m.l, .int .u64 Y.m.a, .int .u64 Y.m.b, .int .u64 Y.m.c, .int .u64 Y.m.d, .int .u64 Y.m.g, .bool Y.m.q] 37 := rfl
                  generalize hw7 : w6.alloc (objT Y) = w7 at *
                  rw [hob] at hw7
                  have HW7 := hid hw7
                  clear hw7 hob s6 s7 S5
                  go_wp2_with (rw [HW7.out]; generalize w6.heap.size = q6 at *; clear HW7)
                  go_quiet (fail)
                  go_wp2_with fail
                  refine Calls.mono (fixed_sep (S7.out.drewN _)) ?_
                  rintro e w8 ⟨rfl, s8⟩
                  have S8 := hid s8
                  clear s8 S7
                  go_wp2
                  go_ret
                  exact ⟨rfl, by rw [HR.out]; exact S8.out.low⟩
                · have HR3 := hid (And.intro hE (And.intro hM hR))
                  clear hE hM hR HSy
                  go_wp2_with fail
                  refine Calls.mono (recv_is S5.out (-7) false HLd.out HR3.out.2.1 HR3.out.1 HR3.out.2.2) ?_
                  rintro e w6 ⟨rfl, v6, s6⟩
                  have s7 := (s6.box (objT ⟨true, y.n, -7, y.m⟩)).swap
                  obtain ⟨d0, d1, -⟩ := (s7.metAt (q := w6.heap.size) (x := ⟨true, y.n, -7, y.m⟩) (by simp)).cells
                  have c0 := RowI.cell (s7.each (lstI (.slice (some ⟨g7, 0, none⟩) m c7) N) (by simp)).1 HNX.out
                  have S7 := hid s7
                  have hob : objT ⟨true, y.n, -7, y.m⟩ = .cells #[.bool true, .int .i64 y.n, .int .i64 (-7), .int .i64 y.m.l, .int .u64 y.m.a, .int .u64 y.m.b, .int .u64 y.m.c, .int .u64 y.m.d, .int .u64 y.m.g, .bool y.m.q] 37 := rfl
                  generalize hw7 : w6.alloc (objT ⟨true, y.n, -7, y.m⟩) = w7 at *
                  rw [hob] at hw7
                  have HW7 := hid hw7
                  clear hw7 hob s6 s7 S5
                  simp only at d0 d1
                  go_wp2_with (rw [HW7.out]; generalize w6.heap.size = q6 at *; clear HW7)
                  go_quiet (fail)
                  go_wp2
                  go_round
                  case rel => exact ⟨t + 1, v6, HT.out, by have := HI.out; have e : ((2 * (t + 1) + 1 : Nat) : Int) = (i : Int) + 2 := (by omega); rw [e], by rw [HDD.out]; exact S7.out.drop2.drewN _⟩
                  case measure => simp [intOf]; omega
              · have hti : t = (odds Q).length := by omega
                have hmq := HN.out.2
                have hq30 := HQg.out.2.2.1
                have hn21 : ¬ (2 * t + 1 < Q.length) := fun h => hlt (hol.2 h)
                generalize hi : 2 * t + 1 = i at *
                have hltz : ¬ ((i : Int) < (m : Int)) := by omega
                rw [hti, List.drop_length] at s5
                obtain ⟨Y, hY⟩ : ∃ Y, recvM [] (-7) = Y := ⟨_, rfl⟩
                have HY : Hid (recvM [] (-7) = Y ∧ Y.i = false) := ⟨hY, by rw [← hY]; rfl⟩
                have S5 := hid s5
                clear s5 hti hol hos hlt hi hY hn21
                go_wp2_with fail
                refine Calls.mono (recv_is (e0 := 0) (T := []) S5.out (-7) false (by decide) HY.out.1 rfl rfl) ?_
                rintro e w6 ⟨rfl, v6, s6⟩
                have s7 := (s6.box (objT Y)).swap
                obtain ⟨d0, -⟩ := (s7.metAt (q := w6.heap.size) (x := Y) (by simp)).cells
                rw [HY.out.2] at d0
                have S7 := hid s7
                have hob : objT Y = .cells #[.bool Y.i, .int .i64 Y.f, .int .i64 Y.t, .int .i64 Y.m.l, .int .u64 Y.m.a, .int .u64 Y.m.b, .int .u64 Y.m.c, .int .u64 Y.m.d, .int .u64 Y.m.g, .bool Y.m.q] 37 := rfl
                generalize hw7 : w6.alloc (objT Y) = w7 at *
                rw [hob] at hw7
                have HW7 := hid hw7
                clear hw7 hob s6 s7 S5
                go_wp2_with (first | (rw [HW7.out]; generalize w6.heap.size = q6 at *; clear HW7) | (go_at_call 22; refine Calls.mono (fixed_sep S7.out) ?_; rintro e w8 ⟨rfl, s8⟩; have S8 := hid s8; clear s8))
                go_ret
                exact ⟨rfl, by rw [HR.out]; exact S8.out.low⟩
open Go.ChangeShapes Go.WideShapes Go.ChangeAt Go.RowKit Go.Joins

/-! ### From the walk to the statement -/
set_option maxRecDepth 100000 in
theorem lifted (os : Os) (started : os.Started) (H : Type) (enc : TypeId × Value → H) :
    ReturnsInHanded {} Try.checked os 5 .any (Rows.endpointCancelsSpec.pre6 enc Try.prog Try.f5 Rows.endpointCancelsRow.domain false) (Rows.endpointCancelsSpec.post enc Try.prog Try.f5 false true false false) := by
  refine returnsInHanded_of_change (C := Try.checked) own started (by kernel_rfl) Try.func5
    (ChangeSpec.witness6 (enc := enc) (C := Try.checked) false ⟨#[], #[.slice none 0 0, .int .u64 0], []⟩ 8 (by kernel_rfl) (by kernel_rfl) (by kernel_rfl) (by kernel_rfl)) ?_
  intro W base args ds gs before hval0 hW hcnd _
  have hval : ∀ (j : Nat) t v, Try.f5.params[j]? = some t → args[j]? = some v → Value.okWide Try.prog W .any base t v := hval0
  have hW' := hW
  obtain ⟨p, q, hA0, hV, rfl, hfz, hnd⟩ := hW
  have hA : DataW.TrodAll enc Try.prog W 0 (fun _ => true) true Try.f5.params.toList args.toList ds p := hA0
  rw [Try.params5] at hA hval
  obtain ⟨v0, vs0, d0, ds0, p0, q0, hargs, rfl, rfl, h0, r0⟩ := trodAll_cons hA
  obtain ⟨v1, vs1, d1, ds1, p1, q1, rfl, rfl, rfl, h1, r1⟩ := trodAll_cons r0
  obtain ⟨rfl, rfl, rfl⟩ := trodAll_nil r1
  obtain rfl : args = #[v0, v1] := by cases args; simp_all
  obtain ⟨rfl, rfl⟩ := trodVars_none hV
  have k0 := h0
  have lt0 : ∀ x ∈ p0, x.block < W.heap.size := by obtain ⟨m, hm⟩ := k0; exact DataW.trod_lt m _ _ _ hm
  obtain ⟨a0, l0, c0, rfl, t0, s0⟩ := open_ops (hval 0 22 v0 rfl rfl) h0
  have k1 := h1
  have lt1 : ∀ x ∈ p1, x.block < W.heap.size := by obtain ⟨m, hm⟩ := k1; exact DataW.trod_lt m _ _ _ hm
  obtain ⟨a1, rfl, _, _, w1⟩ := open_int Try.underlying30 (hval 1 30 v1 rfl rfl) h1
  clear hA0 hval0
  refine (walk a0 l0 c0 a1 W t0 s0 (bounds_u64 w1)).mono fun e W' ⟨he, bel⟩ => ?_
  subst he
  exact ⟨_, rfl, _, _, _, [], _, [], hW', trodAll_mk1 (shut_bool Try.underlying4 _), (trodAll_cons_mk (Below.trod laidOut (by kernel_rfl) (of_decide_eq_true (by kernel_rfl)) k0 bel lt0) (trodAll_cons_mk (Below.trod laidOut (by kernel_rfl) (of_decide_eq_true (by kernel_rfl)) k1 bel lt1) trodAll_mk0)), rfl, bel.frame _, fun h => by cases h⟩
theorem over : Rows.endpointCancelsRow.holds Try.pinned (OpenSpec.ofChange Rows.endpointCancelsSpec) :=
  OpenClaim.holds_of_wide 5 Try.f5 rfl rfl rfl rfl rfl rfl rfl ⟨rfl, rfl, rfl, rfl, rfl⟩ rfl rfl rfl rfl rfl (by kernel_rfl) Try.func5 (by kernel_rfl)
    (of_decide_eq_true (by kernel_rfl)) (by unfold Func.isWrapper; first | (rw [if_pos (by decide +kernel)]; kernel_rfl) | (rw [if_neg (by decide +kernel)]; exact ⟨rfl, rfl⟩))
    (fun os started H enc _ => lifted os started H enc)
end Go.Proofs.Ytnondgeengjbpaa.endpointCancels
namespace Go.Proofs.Ytnondgeengjbpaa
/-- THE STATEMENT. -/
theorem endpointCancels_said : Rows.EndpointCancelsSaid := endpointCancels.over
#print axioms endpointCancels_said
end Go.Proofs.Ytnondgeengjbpaa

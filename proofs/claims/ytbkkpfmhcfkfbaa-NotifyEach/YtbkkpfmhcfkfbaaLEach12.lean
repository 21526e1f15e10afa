/-
  NotifyEach: as many of those that wait get a word as are signalled; the others wait still, in order; no condition.
-/
import Derived.Test.YtbkkpfmhcfkfbaaVLaw
import Derived.Test.YtbkkpfmhcfkfbaaVPure
import Derived.Deep.Cut
import Derived.Deep.CutRange
namespace Go.Proofs.Ytbkkpfmhcfkfbaa.notifyEach
open Go.RowKit Go.Deep Go.Shelf
theorem row_cases {w : World} {a : Option Addr} {n c : Nat} {L : List Int} (h : RowI w (.slice a n c) L) : (a = none ∧ n = 0 ∧ c = 0 ∧ L = []) ∨ ∃ g, a = some ⟨g, 0, none⟩ ∧ n ≤ c ∧ n = L.length := by
  rcases h.2 with ⟨e, h0⟩ | ⟨g, cap, cur, e, _, _, h1, _⟩
  · cases e
    exact .inl ⟨rfl, rfl, rfl, List.length_eq_zero_iff.1 h0⟩
  · cases e
    exact .inr ⟨g, rfl, h1, rfl⟩
theorem row_some {w : World} {a : Option Addr} {n c : Nat} {L : List Int} (h : RowI w (.slice a n c) L) {i : Nat} (hi : i < L.length) : ∃ g, a = some ⟨g, 0, none⟩ := by
  obtain ⟨a', c', ev, -, -, hg, -⟩ := Row.slice h
  cases ev
  exact hg i hi
theorem nums_sl {w0 w : World} {r p n2 c6 c7 : Nat} {v : Value} {S : Ns} {R : List Th} {a6 ad : Option Addr} {D : List Int} (s : Sep w0 r w (ntT p v S :: lstI (.slice a6 D.length c6) D :: R)) (h2 : SeeI w ad D) (hl : D.length ≤ 1000 ∧ D.length = n2) :
    Calls Try.prog 20 #[.slice a6 D.length c6, .slice ad n2 c7] w fun e w' => e = .returned (.bool true) ∧ Sep w0 r w' (ntT p v S :: lstI (.slice a6 D.length c6) D :: R) := by
  have h1 := RowI.see (s.each (lstI (.slice a6 D.length c6) D) (by simp)).1
  have := nums_see a6 ad c6 c7 D D w h1 h2 hl.1
  rw [decide_eq_true rfl] at this
  rw [← hl.2]
  exact this.mono fun _ _ ⟨he, b⟩ => ⟨he, s.below b⟩
theorem see_drop {w : World} {g n cap : Nat} {L : List Int} (h : RowI w (.slice (some ⟨g, 0, none⟩) n cap) L) (m : Nat) : SeeI w (some ⟨g, m, none⟩) (L.drop m) := fun i x hx => by
  refine ⟨g, m, rfl, Row.lt h rfl, RowI.cell h (i := m + i) ?_⟩
  rw [List.getElem?_drop] at hx
  exact hx
set_option maxHeartbeats 8000000 in
set_option maxRecDepth 100000 in
theorem walk (ao : Option Addr) (X : List Int) (cap : Nat) (n : Int) (w : World) (hX : Ints w ao X) (_hxl : X.length ≤ 9223372036854775807) (_hn : -9223372036854775808 ≤ n ∧ n ≤ 9223372036854775807) :
    Calls Try.prog 8 #[.slice ao X.length cap, .int .i64 n] w fun e w' => e = .returned (.bool true) ∧ Below w.heap.size w w' := by
  have HX := hid hX
  clear hX _hn
  go_enter Try.func8, Try.ntmps8
  go_wp2_with fail
  refine Calls.mono (new_sep (sep_nil w)) ?_
  rintro e w1 ⟨p, v, rfl, s1⟩
  have S1 := hid s1
  clear s1
  generalize hr : w.heap.size = r at *
  have HR := hid hr
  clear hr
  go_wp2_with fail
  go_loopw [6] (fun s6 wr => ∃ (k : Nat) (v : Value) (L : List Int), k ≤ 20 ∧ s6 = .int .i64 k ∧ L.length ≤ k ∧ Sep w r wr [ntT p v (lnS L)]) (fun s6 _ => 20 - (intOf s6).toNat)
  case atStart => exact ⟨0, v, [], by omega, rfl, by simp, S1.out⟩
  case round =>
    clear S1
    obtain ⟨k, v, L, hk, rfl, hL, s1⟩ := hrel
    have S1 := hid s1
    clear s1
    by_cases hgo : k < X.length ∧ k < 20
    · obtain ⟨hlt, h40⟩ := hgo
      obtain ⟨-, b, a, rfl, c0⟩ := Ints.at (SeeK.below HX.out S1.out.low (by rw [HR.out]; exact Nat.le_refl _)) (List.getElem?_eq_getElem hlt)
      generalize hx : X[k] = x at *
      have HSl := hid hL
      clear hx hL
      generalize hn : X.length = nx at *
      have hltz : (k : Int) < (nx : Int) := by omega
      have h40z : (k : Int) < 20 := by omega
      go_wp2_with fail
      obtain ⟨e1, e2, e3, e4, e5⟩ := ln_wait L x
      obtain ⟨E, hE⟩ : ∃ E, waitE (lnS L) x = E := ⟨_, rfl⟩
      have HW : Hid (waitW (lnS L) x = 0 ∧ waitB (lnS L) x = false ∧ waitE (lnS L) x = E ∧ waitS (lnS L) x true = lnS (addL L x)) := ⟨e1, e2, hE, e3⟩
      have HA := hid (add_len L x)
      clear e1 e2 e3 e4 e5 hE
      refine Calls.mono (wait_is S1.out x true (by have := HSl.out; show L.length ≤ 1000; omega) HW.out.1 HW.out.2.1 HW.out.2.2.1 HW.out.2.2.2) ?_
      rintro e w2 ⟨rfl, v2, s2⟩
      have S2 := hid s2
      clear s2 S1
      go_wp2
      go_round
      case rel => exact ⟨k + 1, v2, _, by omega, by go_num, by have := HA.out; have := HSl.out; omega, S2.out⟩
      case measure => simp [intOf]; omega
    · have hex : (¬ ((k : Int) < (X.length : Int))) ∨ ((k : Int) < (X.length : Int) ∧ ¬ ((k : Int) < 20)) := by omega
      have HSl : Hid (L.length ≤ 20) := (Nat.le_trans hL hk)
      have HGd : Hid L.Nodup := S1.out.good.one
      clear hgo hL
      generalize hn : X.length = nX at *
      rcases hex with h | ⟨h, h2⟩
      all_goals
        go_wp2_with fail
        refine Calls.mono (waits_is (L := L) S1.out (by have := HSl.out; show L.length ≤ 1000; omega) rfl) ?_
        rintro e w2 ⟨a2, c2, rfl, s2⟩
        have S2 := hid s2
        clear s2 S1
        obtain ⟨t, ht, hmask⟩ := mask64k n
        generalize hN : L.length = N at *
        have hN20 : N ≤ 20 := HSl.out
        have hNz : (N : Int) ≤ 20 := by omega
        obtain ⟨m, hm, hrem⟩ := rem_nat t ((N : Int) + 1) (by omega)
        have hmN : m ≤ N := by omega
        have HM : Hid (m ≤ N) := hmN
        have hnz1 : ¬ ((N : Int) + 1 = 0) := by omega
        have hnz2 : (((N : Int) + 1) == 0) = false := by rw [beq_eq_false_iff_ne]; omega
        go_wp2_with fail
        rw [hrem]
        have HNL := hid hN
        clear hmask hrem hnz1 hnz2 hN hmN hNz hN20 hm ht
        go_loopw [9] (fun s9 wr => ∃ (j : Nat) (v3 : Value), j ≤ m ∧ s9 = .int .i64 j ∧ Sep w r wr [ntT p v3 (lnS (L.drop j)), lstI (.slice a2 N c2) L]) (fun s9 _ => m - (intOf s9).toNat)
        case atStart => exact ⟨0, v, Nat.zero_le _, rfl, S2.out⟩
        case round =>
          clear S2
          obtain ⟨j, v3, hj, rfl, s3⟩ := hrel
          by_cases hjm : j < m
          · have hjmz : (j : Int) < (m : Int) := by omega
            have hjN : j < N := by have := HM.out; omega
            have hj20 : j < 20 := by have := HSl.out; omega
            have hjL : j < L.length := by have := HNL.out; omega
            obtain ⟨x, hx⟩ : ∃ x, L[j]? = some x := ⟨_, List.getElem?_eq_getElem hjL⟩
            have e3 : L.drop j = x :: L.drop (j + 1) := by
              rw [List.drop_eq_getElem_cons hjL]
              congr 1
              exact (List.getElem?_eq_some_iff.1 hx).2
            rw [e3] at s3
            have hln : (x :: L.drop (j + 1)).length ≤ 1000 := by rw [← e3, List.length_drop]; have := HNL.out; have := HSl.out; omega
            have S3 := hid s3
            have HX3 := hid hx
            have HLn := hid hln
            clear s3 e3 hx hln hjL
            go_wp2_with fail
            refine Calls.mono (signal_is (a := x) (x := 1) (q := true) (T := lnS (L.drop (j + 1))) S3.out 1 (by unfold U64; omega) HLn.out rfl rfl rfl rfl) ?_
            rintro e w4 ⟨rfl, v4, s4⟩
            have row : RowI w4 (.slice a2 N c2) L := (s4.each (lstI (.slice a2 N c2) L) (by simp)).1
            obtain ⟨g, rfl⟩ := row_some row (i := j) (by have := HNL.out; omega)
            have c4 := RowI.cell row HX3.out
            have S4 := hid s4
            clear s4 S3 row HX3 HLn
            go_wp2
            go_round
            case rel => exact ⟨j + 1, v4, by omega, by go_num, S4.out⟩
            case measure => simp [intOf]; omega
          · have hjmz : ¬ (j : Int) < (m : Int) := by omega
            obtain rfl : j = m := by omega
            obtain ⟨D, hD⟩ : ∃ D, L.drop j = D := ⟨_, rfl⟩
            have HD := hid hD
            rw [hD] at s3
            have HDl : Hid (D.length ≤ 1000 ∧ D.length = N - j) := ⟨by rw [← hD, List.length_drop]; have := HNL.out; have := HSl.out; omega, by rw [← hD, List.length_drop, HNL.out]⟩
            have S3 := hid s3
            clear s3 hjm hD
            obtain ⟨e1, e2, -, e4, e5⟩ := ln_wait D (-9)
            have HE : Hid (waitW (lnS D) (-9) = 0 ∧ waitB (lnS D) (-9) = false ∧ waitS (lnS D) (-9) false = lnS D) := ⟨e1, e2, e4⟩
            obtain ⟨E, hE⟩ : ∃ E, waitE (lnS D) (-9) = E := ⟨_, rfl⟩
            have hE2 : E = 0 ∨ E = 120 := by
              rw [← hE, e5]
              split
              · exact .inr rfl
              · exact .inl rfl
            have HEE := hid hE
            clear e1 e2 e4 e5 hE
            go_wp2_with fail
            refine Calls.mono (word_is (x := 0) (q := false) S3.out rfl rfl) ?_
            rintro e w4 ⟨rfl, s4⟩
            have S4 := hid s4
            clear s4 S3
            go_wp2_with fail
            refine Calls.mono (wait_is S4.out (-9) false HDl.out.1 HE.out.1 HE.out.2.1 HEE.out HE.out.2.2) ?_
            rintro e w5 ⟨rfl, v5, s5⟩
            have S5 := hid s5.drew
            clear s5 S4
            have hsl : j ≤ N := HM.out
            have hslz : (j : Int) ≤ (N : Int) := by omega
            have hrow : RowI w5.drew (.slice a2 N c2) L := (S5.out.each (lstI (.slice a2 N c2) L) (by simp)).1
            rcases row_cases hrow with ⟨rfl, rfl, rfl, rfl⟩ | ⟨g, rfl, hNc, -⟩
            · obtain rfl : j = 0 := by have := HM.out; omega
              obtain rfl : D = [] := HD.out.symm
              have HNil : Hid (∀ W, SeeI W none ([] : List Int)) := fun W => see_nil W none
              clear hrow
              rcases hE2 with rfl | rfl
              · go_wp2_with fail
                refine wp_region_any (by kernel_rfl) ?_
                change wpAny _ _ _ _ _ _ _ (World.drew _)
                refine wpAny_take (i := 0) (v := ?_) rfl (by kernel_rfl) (by kernel_rfl) (by kernel_rfl) (fun _ _ _ h => h) (Or.inl ⟨by rfl, ?_⟩) ?_
                rotate_left
                · intro w
                  go_simp
                  try with_reducible rfl
                simp only [List.getElem_toArray, List.getElem_cons_zero, Act.put, List.setIfInBounds_toArray, List.set_cons_zero, List.set_cons_succ]
                refine wpAny_take (i := 1) (v := ?_) rfl (by kernel_rfl) (by kernel_rfl) (by kernel_rfl) (fun _ _ _ h => h) (Or.inl ⟨by rfl, ?_⟩) ?_
                rotate_left
                · intro w
                  go_simp
                  try with_reducible rfl
                simp only [List.getElem_toArray, List.getElem_cons_zero, List.getElem_cons_succ, Act.put, List.setIfInBounds_toArray, List.set_cons_zero, List.set_cons_succ]
                refine wpAny_take (i := 2) (v := ?_) rfl (by kernel_rfl) (by kernel_rfl) (by kernel_rfl) (fun _ _ _ h => h) (Or.inl ⟨by rfl, ?_⟩) ?_
                rotate_left
                · intro w
                  go_simp
                  try with_reducible rfl
                simp only [List.getElem_toArray, List.getElem_cons_zero, List.getElem_cons_succ, Act.put, List.setIfInBounds_toArray, List.set_cons_zero, List.set_cons_succ]
                refine wpAny_take (i := 3) (v := ?_) rfl (by kernel_rfl) (by kernel_rfl) (by kernel_rfl) (fun _ _ _ h => h) (Or.inl ⟨by rfl, ?_⟩) ?_
                rotate_left
                · intro w
                  go_simp
                  try with_reducible rfl
                simp only [List.getElem_toArray, List.getElem_cons_zero, List.getElem_cons_succ, Act.put, List.setIfInBounds_toArray, List.set_cons_zero, List.set_cons_succ]
                refine wpAny_take (i := 4) (v := ?_) rfl (by kernel_rfl) (by kernel_rfl) (by kernel_rfl) (fun _ _ _ h => h) (Or.inl ⟨by rfl, ?_⟩) ?_
                rotate_left
                · intro w
                  go_simp
                  try with_reducible rfl
                simp only [List.getElem_toArray, List.getElem_cons_zero, List.getElem_cons_succ, Act.put, List.setIfInBounds_toArray, List.set_cons_zero, List.set_cons_succ]
                refine wpAny_take (i := 5) (v := ?_) rfl (by kernel_rfl) (by kernel_rfl) (by kernel_rfl) (fun _ _ _ h => h) (Or.inl ⟨by rfl, ?_⟩) ?_
                rotate_left
                · intro w
                  go_simp
                  try with_reducible rfl
                simp only [List.getElem_toArray, List.getElem_cons_zero, List.getElem_cons_succ, Act.put, List.setIfInBounds_toArray, List.set_cons_zero, List.set_cons_succ]
                refine wpAny_take (i := 6) (v := undef) rfl (by kernel_rfl) (by kernel_rfl) (by kernel_rfl) (fun _ _ _ h => h) (Or.inr ⟨by rfl, rfl⟩) ?_
                simp only [List.getElem_toArray, List.getElem_cons_zero, List.getElem_cons_succ, Act.put, List.setIfInBounds_toArray, List.set_cons_zero, List.set_cons_succ]
                refine wpAny_take (i := 7) (v := undef) rfl (by kernel_rfl) (by kernel_rfl) (by kernel_rfl) (fun _ _ _ h => h) (Or.inr ⟨by rfl, rfl⟩) ?_
                simp only [List.getElem_toArray, List.getElem_cons_zero, List.getElem_cons_succ, Act.put, List.setIfInBounds_toArray, List.set_cons_zero, List.set_cons_succ]
                refine wpAny_take (i := 8) (v := ?_) rfl (by kernel_rfl) (by kernel_rfl) (by kernel_rfl) (fun _ _ _ h => h) (Or.inl ⟨by rfl, ?_⟩) ?_
                rotate_left
                · intro w
                  go_simp
                  try with_reducible rfl
                simp only [List.getElem_toArray, List.getElem_cons_zero, List.getElem_cons_succ, Act.put, List.setIfInBounds_toArray, List.set_cons_zero, List.set_cons_succ]
                refine wpAny_take (i := 9) (v := ?_) rfl (by kernel_rfl) (by kernel_rfl) (by kernel_rfl) (fun _ _ _ h => h) (Or.inl ⟨by rfl, ?_⟩) ?_
                rotate_left
                · intro w
                  go_simp
                  try with_reducible rfl
                simp only [List.getElem_toArray, List.getElem_cons_zero, List.getElem_cons_succ, Act.put, List.setIfInBounds_toArray, List.set_cons_zero, List.set_cons_succ]
                refine wpAny_take (i := 10) (v := ?_) rfl (by kernel_rfl) (by kernel_rfl) (by kernel_rfl) (fun _ _ _ h => h) (Or.inl ⟨by rfl, ?_⟩) ?_
                rotate_left
                · intro w
                  go_simp
                  try with_reducible rfl
                simp only [List.getElem_toArray, List.getElem_cons_zero, List.getElem_cons_succ, Act.put, List.setIfInBounds_toArray, List.set_cons_zero, List.set_cons_succ]
                refine wpAny_take (i := 11) (v := ?_) rfl (by kernel_rfl) (by kernel_rfl) (by kernel_rfl) (fun _ _ _ h => h) (Or.inl ⟨by rfl, ?_⟩) ?_
                rotate_left
                · intro w
                  go_simp
                  try with_reducible rfl
                simp only [List.getElem_toArray, List.getElem_cons_zero, List.getElem_cons_succ, Act.put, List.setIfInBounds_toArray, List.set_cons_zero, List.set_cons_succ]
                refine wpAny_take (i := 13) (v := ?_) rfl (by kernel_rfl) (by kernel_rfl) (by kernel_rfl) (fun _ _ _ h => h) (Or.inl ⟨by rfl, ?_⟩) ?_
                rotate_left
                · intro w
                  go_simp
                  try with_reducible rfl
                simp only [List.getElem_toArray, List.getElem_cons_zero, List.getElem_cons_succ, Act.put, List.setIfInBounds_toArray, List.set_cons_zero, List.set_cons_succ]
                refine wpAny_take (i := 14) (v := ?_) rfl (by kernel_rfl) (by kernel_rfl) (by kernel_rfl) (fun _ _ _ h => h) (Or.inl ⟨by rfl, ?_⟩) ?_
                rotate_left
                · intro w
                  go_simp
                  try with_reducible rfl
                simp only [List.getElem_toArray, List.getElem_cons_zero, List.getElem_cons_succ, Act.put, List.setIfInBounds_toArray, List.set_cons_zero, List.set_cons_succ]
                refine wpAny_take (i := 15) (v := ?_) rfl (by kernel_rfl) (by kernel_rfl) (by kernel_rfl) (fun _ _ _ h => h) (Or.inl ⟨by rfl, ?_⟩) ?_
                rotate_left
                · intro w
                  go_simp
                  try with_reducible rfl
                simp only [List.getElem_toArray, List.getElem_cons_zero, List.getElem_cons_succ, Act.put, List.setIfInBounds_toArray, List.set_cons_zero, List.set_cons_succ]
                refine wpAny_ready (rs := [12]) (by kernel_rfl) (by simp) ?_
                refine AllReady.cons rfl (fun K hK => ?_) AllReady.nil
                go_simp
                go_wp2_with (go_at_call 19; refine Calls.mono (waits_is (L := []) S5.out (by simp [lnS]) rfl) ?_; rintro e w6 ⟨a6, c6, rfl, s6⟩; simp only [List.length_nil] at s6 ⊢; have S6 := hid s6; clear s6 S5)
                first | (refine hK _ _ ?_; clear hK K) | skip
                try simp only [List.getElem_toArray, List.getElem_cons_zero, List.getElem_cons_succ, Act.put, List.setIfInBounds_toArray, List.set_cons_zero, List.set_cons_succ]
                refine wpAny_ready (rs := [16]) (by kernel_rfl) (by simp) ?_
                refine AllReady.cons rfl (fun K hK => ?_) AllReady.nil
                go_simp
                go_wp2_with (go_at_call 20; refine Calls.mono (nums_sl (D := []) (n2 := 0) S6.out (HNil.out w6) ⟨by simp, rfl⟩) ?_; rintro e w7 ⟨rfl, s7⟩; have S7 := hid s7; clear s7 S6)
                first | (refine hK _ _ ?_; clear hK K) | skip
                try simp only [List.getElem_toArray, List.getElem_cons_zero, List.getElem_cons_succ, Act.put, List.setIfInBounds_toArray, List.set_cons_zero, List.set_cons_succ]
                refine wpAny_take (i := 17) (v := ?_) rfl (by kernel_rfl) (by kernel_rfl) (by kernel_rfl) (fun _ _ _ h => h) (Or.inl ⟨by rfl, ?_⟩) ?_
                rotate_left
                · intro w
                  go_simp
                  try with_reducible rfl
                simp only [List.getElem_toArray, List.getElem_cons_zero, List.getElem_cons_succ, Act.put, List.setIfInBounds_toArray, List.set_cons_zero, List.set_cons_succ]
                refine wpAny_take (i := 18) (v := ?_) rfl (by kernel_rfl) (by kernel_rfl) (by kernel_rfl) (fun _ _ _ h => h) (Or.inl ⟨by rfl, ?_⟩) ?_
                rotate_left
                · intro w
                  go_simp
                  try with_reducible rfl
                simp only [List.getElem_toArray, List.getElem_cons_zero, List.getElem_cons_succ, Act.put, List.setIfInBounds_toArray, List.set_cons_zero, List.set_cons_succ]
                refine wpAny_ready (rs := [19]) (by kernel_rfl) (by simp) ?_
                refine AllReady.cons rfl (fun K hK => ?_) AllReady.nil
                go_simp
                go_wp2_with (go_at_call 21; refine Calls.mono (fixed_sep S7.out) ?_; rintro e wf ⟨rfl, sf⟩; have SF := hid sf; clear sf S7)
                first | (refine hK _ _ ?_; clear hK K) | skip
                try simp only [List.getElem_toArray, List.getElem_cons_zero, List.getElem_cons_succ, Act.put, List.setIfInBounds_toArray, List.set_cons_zero, List.set_cons_succ]
                refine wpAny_take (i := 20) (v := ?_) rfl (by kernel_rfl) (by kernel_rfl) (by kernel_rfl) (fun _ _ _ h => h) (Or.inl ⟨by rfl, ?_⟩) ?_
                rotate_left
                · intro w
                  go_simp
                  try with_reducible rfl
                simp only [List.getElem_toArray, List.getElem_cons_zero, List.getElem_cons_succ, Act.put, List.setIfInBounds_toArray, List.set_cons_zero, List.set_cons_succ]
                refine wpAny_take (i := 21) (v := ?_) rfl (by kernel_rfl) (by kernel_rfl) (by kernel_rfl) (fun _ _ _ h => h) (Or.inl ⟨by rfl, ?_⟩) ?_
                rotate_left
                · intro w
                  go_simp
                  try with_reducible rfl
                simp only [List.getElem_toArray, List.getElem_cons_zero, List.getElem_cons_succ, Act.put, List.setIfInBounds_toArray, List.set_cons_zero, List.set_cons_succ]
                refine wpAny_done (by kernel_rfl) ?_ _
                go_wp2
                go_ret
                exact ⟨rfl, by rw [HR.out]; exact SF.out.low⟩
              · have hS5 : w5.drew.cell? ⟨p, 1, none⟩ = some (.int .u64 0) := S5.out.cellsP.2.1
                go_wp2_with fail
                go_region_held3 (fun W => W.cell? ⟨p, 1, none⟩ = some (.int .u64 0)) ((first | with_reducible assumption)) (first
                  | (go_at_call 19; refine Calls.mono (waits_is (L := []) S5.out (by simp [lnS]) rfl) ?_; rintro e w6 ⟨a6, c6, rfl, s6⟩; simp only [List.length_nil] at s6 ⊢; have hS0 : w6.cell? ⟨p, 1, none⟩ = some (.int .u64 0) := s6.cellsP.2.1; have S6 := hid s6; clear s6 S5)
                  | (go_at_call 20; refine Calls.mono (nums_sl (D := []) (n2 := 0) S6.out (HNil.out w6) ⟨by simp, rfl⟩) ?_; rintro e w7 ⟨rfl, s7⟩; have hS1 : w7.cell? ⟨p, 1, none⟩ = some (.int .u64 0) := s7.cellsP.2.1; have S7 := hid s7; clear s7 S6)
                  | (go_at_call 21; refine Calls.mono (fixed_sep S7.out) ?_; rintro e wf ⟨rfl, sf⟩; have hS2 : wf.cell? ⟨p, 1, none⟩ = some (.int .u64 0) := sf.cellsP.2.1; have SF := hid sf; clear sf S7))
                go_wp2
                go_ret
                exact ⟨rfl, by rw [HR.out]; exact SF.out.low⟩
            obtain ⟨ad, had, hsee⟩ : ∃ ad : Addr, (if c2 = j then some (⟨g, 0, none⟩ : Addr) else some ⟨g, j, none⟩) = some ad ∧ ∀ W, RowI W (.slice (some ⟨g, 0, none⟩) N c2) L → SeeI W (some ad) D := by
              rw [← HD.out]
              by_cases hc : c2 = j
              · refine ⟨⟨g, 0, none⟩, by simp [hc], fun W _ => ?_⟩
                have : L.drop j = [] := List.drop_of_length_le (by have := HNL.out; omega)
                rw [this]
                exact see_nil _ _
              · exact ⟨⟨g, j, none⟩, by simp [hc], fun W h => see_drop h j⟩
            have hjc : j ≤ c2 := by omega
            have hjcz : (j : Int) ≤ (c2 : Int) := by omega
            have HSee := hid hsee
            clear hsee hrow
            rcases hE2 with rfl | rfl
            · go_wp2_with fail
              refine wp_region_any (by kernel_rfl) ?_
              change wpAny _ _ _ _ _ _ _ (World.drew _)
              refine wpAny_take (i := 0) (v := ?_) rfl (by kernel_rfl) (by kernel_rfl) (by kernel_rfl) (fun _ _ _ h => h) (Or.inl ⟨by rfl, ?_⟩) ?_
              rotate_left
              · intro w
                go_simp
                try with_reducible rfl
              simp only [List.getElem_toArray, List.getElem_cons_zero, Act.put, List.setIfInBounds_toArray, List.set_cons_zero, List.set_cons_succ]
              refine wpAny_take (i := 1) (v := ?_) rfl (by kernel_rfl) (by kernel_rfl) (by kernel_rfl) (fun _ _ _ h => h) (Or.inl ⟨by rfl, ?_⟩) ?_
              rotate_left
              · intro w
                go_simp
                try with_reducible rfl
              simp only [List.getElem_toArray, List.getElem_cons_zero, List.getElem_cons_succ, Act.put, List.setIfInBounds_toArray, List.set_cons_zero, List.set_cons_succ]
              refine wpAny_take (i := 2) (v := ?_) rfl (by kernel_rfl) (by kernel_rfl) (by kernel_rfl) (fun _ _ _ h => h) (Or.inl ⟨by rfl, ?_⟩) ?_
              rotate_left
              · intro w
                go_simp
                try with_reducible rfl
              simp only [List.getElem_toArray, List.getElem_cons_zero, List.getElem_cons_succ, Act.put, List.setIfInBounds_toArray, List.set_cons_zero, List.set_cons_succ]
              refine wpAny_take (i := 3) (v := ?_) rfl (by kernel_rfl) (by kernel_rfl) (by kernel_rfl) (fun _ _ _ h => h) (Or.inl ⟨by rfl, ?_⟩) ?_
              rotate_left
              · intro w
                go_simp
                try with_reducible rfl
              simp only [List.getElem_toArray, List.getElem_cons_zero, List.getElem_cons_succ, Act.put, List.setIfInBounds_toArray, List.set_cons_zero, List.set_cons_succ]
              refine wpAny_take (i := 4) (v := ?_) rfl (by kernel_rfl) (by kernel_rfl) (by kernel_rfl) (fun _ _ _ h => h) (Or.inl ⟨by rfl, ?_⟩) ?_
              rotate_left
              · intro w
                go_simp
                try with_reducible rfl
              simp only [List.getElem_toArray, List.getElem_cons_zero, List.getElem_cons_succ, Act.put, List.setIfInBounds_toArray, List.set_cons_zero, List.set_cons_succ]
              refine wpAny_take (i := 5) (v := ?_) rfl (by kernel_rfl) (by kernel_rfl) (by kernel_rfl) (fun _ _ _ h => h) (Or.inl ⟨by rfl, ?_⟩) ?_
              rotate_left
              · intro w
                go_simp
                try with_reducible rfl
              simp only [List.getElem_toArray, List.getElem_cons_zero, List.getElem_cons_succ, Act.put, List.setIfInBounds_toArray, List.set_cons_zero, List.set_cons_succ]
              refine wpAny_take (i := 6) (v := undef) rfl (by kernel_rfl) (by kernel_rfl) (by kernel_rfl) (fun _ _ _ h => h) (Or.inr ⟨by rfl, rfl⟩) ?_
              simp only [List.getElem_toArray, List.getElem_cons_zero, List.getElem_cons_succ, Act.put, List.setIfInBounds_toArray, List.set_cons_zero, List.set_cons_succ]
              refine wpAny_take (i := 7) (v := undef) rfl (by kernel_rfl) (by kernel_rfl) (by kernel_rfl) (fun _ _ _ h => h) (Or.inr ⟨by rfl, rfl⟩) ?_
              simp only [List.getElem_toArray, List.getElem_cons_zero, List.getElem_cons_succ, Act.put, List.setIfInBounds_toArray, List.set_cons_zero, List.set_cons_succ]
              refine wpAny_take (i := 8) (v := ?_) rfl (by kernel_rfl) (by kernel_rfl) (by kernel_rfl) (fun _ _ _ h => h) (Or.inl ⟨by rfl, ?_⟩) ?_
              rotate_left
              · intro w
                go_simp
                try with_reducible rfl
              simp only [List.getElem_toArray, List.getElem_cons_zero, List.getElem_cons_succ, Act.put, List.setIfInBounds_toArray, List.set_cons_zero, List.set_cons_succ]
              refine wpAny_take (i := 9) (v := ?_) rfl (by kernel_rfl) (by kernel_rfl) (by kernel_rfl) (fun _ _ _ h => h) (Or.inl ⟨by rfl, ?_⟩) ?_
              rotate_left
              · intro w
                go_simp
                try with_reducible rfl
              simp only [List.getElem_toArray, List.getElem_cons_zero, List.getElem_cons_succ, Act.put, List.setIfInBounds_toArray, List.set_cons_zero, List.set_cons_succ]
              refine wpAny_take (i := 10) (v := ?_) rfl (by kernel_rfl) (by kernel_rfl) (by kernel_rfl) (fun _ _ _ h => h) (Or.inl ⟨by rfl, ?_⟩) ?_
              rotate_left
              · intro w
                go_simp
                try with_reducible rfl
              simp only [List.getElem_toArray, List.getElem_cons_zero, List.getElem_cons_succ, Act.put, List.setIfInBounds_toArray, List.set_cons_zero, List.set_cons_succ]
              refine wpAny_take (i := 11) (v := ?_) rfl (by kernel_rfl) (by kernel_rfl) (by kernel_rfl) (fun _ _ _ h => h) (Or.inl ⟨by rfl, ?_⟩) ?_
              rotate_left
              · intro w
                go_simp
                try with_reducible rfl
              simp only [List.getElem_toArray, List.getElem_cons_zero, List.getElem_cons_succ, Act.put, List.setIfInBounds_toArray, List.set_cons_zero, List.set_cons_succ]
              refine wpAny_take (i := 13) (v := ?_) rfl (by kernel_rfl) (by kernel_rfl) (by kernel_rfl) (fun _ _ _ h => h) (Or.inl ⟨by rfl, ?_⟩) ?_
              rotate_left
              · intro w
                go_simp
                try with_reducible rfl
              simp only [List.getElem_toArray, List.getElem_cons_zero, List.getElem_cons_succ, Act.put, List.setIfInBounds_toArray, List.set_cons_zero, List.set_cons_succ]
              refine wpAny_take (i := 14) (v := ?_) rfl (by kernel_rfl) (by kernel_rfl) (by kernel_rfl) (fun _ _ _ h => h) (Or.inl ⟨by rfl, ?_⟩) ?_
              rotate_left
              · intro w
                go_simp
                try with_reducible rfl
              simp only [List.getElem_toArray, List.getElem_cons_zero, List.getElem_cons_succ, Act.put, List.setIfInBounds_toArray, List.set_cons_zero, List.set_cons_succ]
              refine wpAny_take (i := 15) (v := ?_) rfl (by kernel_rfl) (by kernel_rfl) (by kernel_rfl) (fun _ _ _ h => h) (Or.inl ⟨by rfl, ?_⟩) ?_
              rotate_left
              · intro w
                go_simp
                try with_reducible rfl
              simp only [List.getElem_toArray, List.getElem_cons_zero, List.getElem_cons_succ, Act.put, List.setIfInBounds_toArray, List.set_cons_zero, List.set_cons_succ]
              refine wpAny_ready (rs := [12]) (by kernel_rfl) (by simp) ?_
              refine AllReady.cons rfl (fun K hK => ?_) AllReady.nil
              go_simp
              go_wp2_with (go_at_call 19; refine Calls.mono (waits_is (L := D) S5.out HDl.out.1 rfl) ?_; rintro e w6 ⟨a6, c6, rfl, s6⟩; have S6 := hid s6; clear s6 S5)
              first | (refine hK _ _ ?_; clear hK K) | skip
              try simp only [List.getElem_toArray, List.getElem_cons_zero, List.getElem_cons_succ, Act.put, List.setIfInBounds_toArray, List.set_cons_zero, List.set_cons_succ]
              refine wpAny_ready (rs := [16]) (by kernel_rfl) (by simp) ?_
              refine AllReady.cons rfl (fun K hK => ?_) AllReady.nil
              go_simp
              go_wp2_with (go_at_call 20; refine Calls.mono (nums_sl S6.out (HSee.out w6 (S6.out.each (lstI (.slice (some ⟨g, 0, none⟩) N c2) L) (by simp)).1) HDl.out) ?_; rintro e w7 ⟨rfl, s7⟩; have S7 := hid s7; clear s7 S6)
              first | (refine hK _ _ ?_; clear hK K) | skip
              try simp only [List.getElem_toArray, List.getElem_cons_zero, List.getElem_cons_succ, Act.put, List.setIfInBounds_toArray, List.set_cons_zero, List.set_cons_succ]
              refine wpAny_take (i := 17) (v := ?_) rfl (by kernel_rfl) (by kernel_rfl) (by kernel_rfl) (fun _ _ _ h => h) (Or.inl ⟨by rfl, ?_⟩) ?_
              rotate_left
              · intro w
                go_simp
                try with_reducible rfl
              simp only [List.getElem_toArray, List.getElem_cons_zero, List.getElem_cons_succ, Act.put, List.setIfInBounds_toArray, List.set_cons_zero, List.set_cons_succ]
              refine wpAny_take (i := 18) (v := ?_) rfl (by kernel_rfl) (by kernel_rfl) (by kernel_rfl) (fun _ _ _ h => h) (Or.inl ⟨by rfl, ?_⟩) ?_
              rotate_left
              · intro w
                go_simp
                try with_reducible rfl
              simp only [List.getElem_toArray, List.getElem_cons_zero, List.getElem_cons_succ, Act.put, List.setIfInBounds_toArray, List.set_cons_zero, List.set_cons_succ]
              refine wpAny_ready (rs := [19]) (by kernel_rfl) (by simp) ?_
              refine AllReady.cons rfl (fun K hK => ?_) AllReady.nil
              go_simp
              go_wp2_with (go_at_call 21; refine Calls.mono (fixed_sep S7.out) ?_; rintro e wf ⟨rfl, sf⟩; have SF := hid sf; clear sf S7)
              first | (refine hK _ _ ?_; clear hK K) | skip
              try simp only [List.getElem_toArray, List.getElem_cons_zero, List.getElem_cons_succ, Act.put, List.setIfInBounds_toArray, List.set_cons_zero, List.set_cons_succ]
              refine wpAny_take (i := 20) (v := ?_) rfl (by kernel_rfl) (by kernel_rfl) (by kernel_rfl) (fun _ _ _ h => h) (Or.inl ⟨by rfl, ?_⟩) ?_
              rotate_left
              · intro w
                go_simp
                try with_reducible rfl
              simp only [List.getElem_toArray, List.getElem_cons_zero, List.getElem_cons_succ, Act.put, List.setIfInBounds_toArray, List.set_cons_zero, List.set_cons_succ]
              refine wpAny_take (i := 21) (v := ?_) rfl (by kernel_rfl) (by kernel_rfl) (by kernel_rfl) (fun _ _ _ h => h) (Or.inl ⟨by rfl, ?_⟩) ?_
              rotate_left
              · intro w
                go_simp
                try with_reducible rfl
              simp only [List.getElem_toArray, List.getElem_cons_zero, List.getElem_cons_succ, Act.put, List.setIfInBounds_toArray, List.set_cons_zero, List.set_cons_succ]
              refine wpAny_done (by kernel_rfl) ?_ _
              go_wp2
              go_ret
              exact ⟨rfl, by rw [HR.out]; exact SF.out.low⟩
            · have hS5 : w5.drew.cell? ⟨p, 1, none⟩ = some (.int .u64 0) := S5.out.cellsP.2.1
              go_wp2_with fail
              go_region_held3 (fun W => W.cell? ⟨p, 1, none⟩ = some (.int .u64 0)) ((first | with_reducible assumption)) (first
                | (go_at_call 19; refine Calls.mono (waits_is (L := D) S5.out HDl.out.1 rfl) ?_; rintro e w6 ⟨a6, c6, rfl, s6⟩; have hS0 : w6.cell? ⟨p, 1, none⟩ = some (.int .u64 0) := s6.cellsP.2.1; have S6 := hid s6; clear s6 S5)
                | (go_at_call 20; refine Calls.mono (nums_sl S6.out (HSee.out w6 (S6.out.each (lstI (.slice (some ⟨g, 0, none⟩) N c2) L) (by simp)).1) HDl.out) ?_; rintro e w7 ⟨rfl, s7⟩; have hS1 : w7.cell? ⟨p, 1, none⟩ = some (.int .u64 0) := s7.cellsP.2.1; have S7 := hid s7; clear s7 S6)
                | (go_at_call 21; refine Calls.mono (fixed_sep S7.out) ?_; rintro e wf ⟨rfl, sf⟩; have hS2 : wf.cell? ⟨p, 1, none⟩ = some (.int .u64 0) := sf.cellsP.2.1; have SF := hid sf; clear sf S7))
              go_wp2
              go_ret
              exact ⟨rfl, by rw [HR.out]; exact SF.out.low⟩

open Go.ChangeShapes Go.WideShapes Go.ChangeAt Go.RowKit Go.Joins

/-! ### From the walk to the statement -/
set_option maxRecDepth 100000 in
theorem lifted (os : Os) (started : os.Started) (H : Type) (enc : TypeId × Value → H) :
    ReturnsInHanded {} Try.checked os 8 .any (Rows.notifyEachSpec.pre6 enc Try.prog Try.f8 Rows.notifyEachRow.domain false) (Rows.notifyEachSpec.post enc Try.prog Try.f8 false true false false) := by
  refine returnsInHanded_of_change (C := Try.checked) own started (by kernel_rfl) Try.func8
    (ChangeSpec.witness6 (enc := enc) (C := Try.checked) false ⟨#[], #[.slice none 0 0, .int .i64 0], []⟩ 8 (by kernel_rfl) (by kernel_rfl) (by kernel_rfl) (by kernel_rfl)) ?_
  intro W base args ds gs before hval0 hW hcnd _
  have hval : ∀ (j : Nat) t v, Try.f8.params[j]? = some t → args[j]? = some v → Value.okWide Try.prog W .any base t v := hval0
  have hW' := hW
  obtain ⟨p, q, hA0, hV, rfl, hfz, hnd⟩ := hW
  have hA : DataW.TrodAll enc Try.prog W 0 (fun _ => true) true Try.f8.params.toList args.toList ds p := hA0
  rw [Try.params8] at hA hval
  obtain ⟨v0, vs0, d0, ds0, p0, q0, hargs, rfl, rfl, h0, r0⟩ := trodAll_cons hA
  obtain ⟨v1, vs1, d1, ds1, p1, q1, rfl, rfl, rfl, h1, r1⟩ := trodAll_cons r0
  obtain ⟨rfl, rfl, rfl⟩ := trodAll_nil r1
  obtain rfl : args = #[v0, v1] := by cases args; simp_all
  obtain ⟨rfl, rfl⟩ := trodVars_none hV
  have k0 := h0
  have lt0 : ∀ x ∈ p0, x.block < W.heap.size := by obtain ⟨m, hm⟩ := k0; exact DataW.trod_lt m _ _ _ hm
  obtain ⟨a0, l0, c0, rfl, t0, s0⟩ := open_ints (hval 0 27 v0 rfl rfl) h0
  have k1 := h1
  have lt1 : ∀ x ∈ p1, x.block < W.heap.size := by obtain ⟨m, hm⟩ := k1; exact DataW.trod_lt m _ _ _ hm
  obtain ⟨a1, rfl, _, _, w1⟩ := open_int Try.underlying3 (hval 1 3 v1 rfl rfl) h1
  clear hA0 hval0
  refine (walk a0 l0 c0 a1 W t0 s0 (bounds_i64 w1)).mono fun e W' ⟨he, bel⟩ => ?_
  subst he
  exact ⟨_, rfl, _, _, _, [], _, [], hW', trodAll_mk1 (shut_bool Try.underlying4 _), (trodAll_cons_mk (Below.trod laidOut (by kernel_rfl) (of_decide_eq_true (by kernel_rfl)) k0 bel lt0) (trodAll_cons_mk (Below.trod laidOut (by kernel_rfl) (of_decide_eq_true (by kernel_rfl)) k1 bel lt1) trodAll_mk0)), rfl, bel.frame _, fun h => by cases h⟩
theorem over : Rows.notifyEachRow.holds Try.pinned (OpenSpec.ofChange Rows.notifyEachSpec) :=
  OpenClaim.holds_of_wide 8 Try.f8 rfl rfl rfl rfl rfl rfl rfl ⟨rfl, rfl, rfl, rfl, rfl⟩ rfl rfl rfl rfl rfl (by kernel_rfl) Try.func8 (by kernel_rfl)
    (of_decide_eq_true (by kernel_rfl)) (by unfold Func.isWrapper; first | (rw [if_pos (by decide +kernel)]; kernel_rfl) | (rw [if_neg (by decide +kernel)]; exact ⟨rfl, rfl⟩))
    (fun os started H enc _ => lifted os started H enc)
end Go.Proofs.Ytbkkpfmhcfkfbaa.notifyEach
namespace Go.Proofs.Ytbkkpfmhcfkfbaa
/-- THE STATEMENT. -/
theorem notifyEach_said : Rows.NotifyEachSaid := notifyEach.over
#print axioms notifyEach_said
end Go.Proofs.Ytbkkpfmhcfkfbaa

/-
  What Place of the document's own answer for layer 8 returns: by the same plain words plL, plU, plE as the program's; no condition but that the numbers fit.
-/
import Derived.Test.YtkelblkegpmlpaaDoorURef
import Derived.Test.YtkelblkegpmlpaaDoorUCut
namespace Go.Proofs.YtkelblkegpmlpaaDoor
open Go.RowKit Go.Deep

theorem below_drew1 {B : Nat} {a w : World} (h : Below B a w) : Below B a w.drew := ⟨h.os, h.tape, h.output, h.size, h.block⟩
theorem rcheck_ok (u : Un) (w : World) (hf : u.Fits) (h : okU u) : Calls Tryd.prog 16 #[encU u] w fun e w' => e = .returned (.int .i64 0) ∧ Below w.heap.size w w' := by
  have := rcheck_any u w hf
  rwa [chkE, if_pos h] at this
theorem rcheck_bad (u : Un) (w : World) (hf : u.Fits) (h : ¬ okU u) : Calls Tryd.prog 16 #[encU u] w fun e w' => e = .returned (.int .i64 1) ∧ Below w.heap.size w w' := by
  have := rcheck_any u w hf
  rwa [chkE, if_neg h] at this
theorem rsize_yes (k b : Int) (w : World) (hb : -9223372036854775808 ≤ b ∧ b ≤ 9223372036854775807) (hz : szE k b = 0) :
    Calls Tryd.prog 12 #[.int .i64 k, .int .i64 b] w fun e w' => e = .returned (.tuple #[.int .i64 (szN k b), .int .i64 0]) ∧ w' = w := by
  have := rsize_any k b w hb
  rwa [hz] at this
theorem rsize_no (k b : Int) (w : World) (hb : -9223372036854775808 ≤ b ∧ b ≤ 9223372036854775807) (hz : szE k b ≠ 0) :
    Calls Tryd.prog 12 #[.int .i64 k, .int .i64 b] w fun e w' => e = .returned (.tuple #[.int .i64 0, .int .i64 (szE k b)]) ∧ w' = w := by
  have := rsize_any k b w hb
  rwa [szN_no hz] at this

set_option maxHeartbeats 4000000 in
theorem rplace_chk (u : Un) (k b n : Int) (w : World) (hf : u.Fits) (hb : -9223372036854775808 ≤ b ∧ b ≤ 9223372036854775807) (h1 : ¬ okU u) :
    Calls Tryd.prog 10 #[encU u, .int .i64 k, .int .i64 b, .int .i64 n] w fun e w' => e = .returned (.tuple #[.slice none 0 0, encU Un.zero, .int .i64 1]) ∧ Below w.heap.size w w' := by
  have X1 : Hid (¬ okU u) := h1
  clear h1
  have HF : Hid u.Fits := hf
  have b1 := two_new w (objU u) (objU Un.zero)
  have HB : Hid (-9223372036854775808 ≤ b ∧ b ≤ 9223372036854775807) := hb
  have a1 := (AtU.new w u).below (below_new _ (objU Un.zero))
  have a2 := AtU.new (w.alloc (objU u)) Un.zero
  rw [World.size_alloc] at a2
  clear hf hb
  simp only [encU, objU, Un.zero] at b1 a1 a2 ⊢
  go_enter Tryd.func10, Tryd.ntmps10
  go_wp2_with fail
  refine (rcheck_bad u _ HF.out X1.out).mono ?_
  rintro e w2 ⟨rfl, b2⟩
  have a3 := a1.below b2
  have a4 := a2.below b2
  have b3 := Below.then b1 b2 b1.size
  clear a1 a2 b1 b2
  have hr : w.heap.size + 1 < w2.heap.size := a4.lt
  generalize hr0 : w.heap.size = r at *
  have HR : Hid (w.heap.size = r) := hr0
  clear hr0
  obtain ⟨c0, c1, c2⟩ := a3.cells
  obtain ⟨d0, d1, d2⟩ := a4.cells
  have f3 := a3.frozen
  have f4 := a4.frozen
  have A3 : Hid (AtU w2 r u) := a3
  have A4 : Hid (AtU w2 (r + 1) ⟨0, 0, 0⟩) := a4
  have B : Hid (Below r w w2) := b3
  clear a3 a4 b3
  go_wp2
  refine bodyPost_ret (v := .tuple #[.slice none 0 0, encU Un.zero, .int .i64 1]) ?_ rfl ⟨rfl, ?_⟩
  · simp [results, Tryd.f10, go_sem, encU, Un.zero, d0, d1, d2]
  · rw [HR.out]; exact three_sets B.out (by omega) _ _ _
set_option maxHeartbeats 4000000 in
theorem rplace_sz (u : Un) (k b n : Int) (w : World) (hf : u.Fits) (hb : -9223372036854775808 ≤ b ∧ b ≤ 9223372036854775807) (h1 : okU u) (h2 : szE k b ≠ 0) :
    Calls Tryd.prog 10 #[encU u, .int .i64 k, .int .i64 b, .int .i64 n] w fun e w' => e = .returned (.tuple #[.slice none 0 0, encU Un.zero, .int .i64 (szE k b)]) ∧ Below w.heap.size w w' := by
  have X1 : Hid (okU u) := h1
  have X2 : Hid (szE k b ≠ 0) := h2
  clear h1 h2
  have HF : Hid u.Fits := hf
  have b1 := two_new w (objU u) (objU Un.zero)
  have HB : Hid (-9223372036854775808 ≤ b ∧ b ≤ 9223372036854775807) := hb
  have a1 := (AtU.new w u).below (below_new _ (objU Un.zero))
  have a2 := AtU.new (w.alloc (objU u)) Un.zero
  rw [World.size_alloc] at a2
  clear hf hb
  simp only [encU, objU, Un.zero] at b1 a1 a2 ⊢
  go_enter Tryd.func10, Tryd.ntmps10
  go_wp2_with fail
  refine (rcheck_ok u _ HF.out X1.out).mono ?_
  rintro e w2 ⟨rfl, b2⟩
  have a3 := a1.below b2
  have a4 := a2.below b2
  have b3 := Below.then b1 b2 b1.size
  clear a1 a2 b1 b2
  have hr : w.heap.size + 1 < w2.heap.size := a4.lt
  generalize hr0 : w.heap.size = r at *
  have HR : Hid (w.heap.size = r) := hr0
  clear hr0
  obtain ⟨c0, c1, c2⟩ := a3.cells
  obtain ⟨d0, d1, d2⟩ := a4.cells
  have f3 := a3.frozen
  have f4 := a4.frozen
  have A3 : Hid (AtU w2 r u) := a3
  have A4 : Hid (AtU w2 (r + 1) ⟨0, 0, 0⟩) := a4
  have B : Hid (Below r w w2) := b3
  clear a3 a4 b3
  go_wp2_with fail
  refine (rsize_no k b _ HB.out X2.out).mono ?_
  rintro e w' ⟨rfl, hw⟩
  obtain rfl := hw.symm
  have hne : (szE k b != 0) = true := by have := X2.out; simpa using this
  go_wp2
  refine bodyPost_ret (v := .tuple #[.slice none 0 0, encU Un.zero, .int .i64 (szE k b)]) ?_ rfl ⟨rfl, ?_⟩
  · simp [results, Tryd.f10, go_sem, encU, Un.zero, d0, d1, d2]
  · rw [HR.out]; exact three_sets B.out (by omega) _ _ _
set_option maxHeartbeats 4000000 in
theorem rplace_n (u : Un) (k b n : Int) (w : World) (hf : u.Fits) (hb : -9223372036854775808 ≤ b ∧ b ≤ 9223372036854775807) (h1 : okU u) (h2 : szE k b = 0) (h3 : ¬ (1 ≤ n ∧ n ≤ 64)) :
    Calls Tryd.prog 10 #[encU u, .int .i64 k, .int .i64 b, .int .i64 n] w fun e w' => e = .returned (.tuple #[.slice none 0 0, encU Un.zero, .int .i64 1]) ∧ Below w.heap.size w w' := by
  have X1 : Hid (okU u) := h1
  have X2 : Hid (szE k b = 0) := h2
  have X3 : Hid (¬ (1 ≤ n ∧ n ≤ 64)) := h3
  clear h1 h2 h3
  have HF : Hid u.Fits := hf
  have b1 := two_new w (objU u) (objU Un.zero)
  have HB : Hid (-9223372036854775808 ≤ b ∧ b ≤ 9223372036854775807) := hb
  have a1 := (AtU.new w u).below (below_new _ (objU Un.zero))
  have a2 := AtU.new (w.alloc (objU u)) Un.zero
  rw [World.size_alloc] at a2
  clear hf hb
  simp only [encU, objU, Un.zero] at b1 a1 a2 ⊢
  go_enter Tryd.func10, Tryd.ntmps10
  go_wp2_with fail
  refine (rcheck_ok u _ HF.out X1.out).mono ?_
  rintro e w2 ⟨rfl, b2⟩
  have a3 := a1.below b2
  have a4 := a2.below b2
  have b3 := Below.then b1 b2 b1.size
  clear a1 a2 b1 b2
  have hr : w.heap.size + 1 < w2.heap.size := a4.lt
  generalize hr0 : w.heap.size = r at *
  have HR : Hid (w.heap.size = r) := hr0
  clear hr0
  obtain ⟨c0, c1, c2⟩ := a3.cells
  obtain ⟨d0, d1, d2⟩ := a4.cells
  have f3 := a3.frozen
  have f4 := a4.frozen
  have A3 : Hid (AtU w2 r u) := a3
  have A4 : Hid (AtU w2 (r + 1) ⟨0, 0, 0⟩) := a4
  have B : Hid (Below r w w2) := b3
  clear a3 a4 b3
  go_wp2_with fail
  refine (rsize_yes k b _ HB.out X2.out).mono ?_
  rintro e w' ⟨rfl, hw⟩
  obtain rfl := hw.symm
  have hn := X3.out
  go_wp2
  all_goals refine bodyPost_ret (v := .tuple #[.slice none 0 0, encU Un.zero, .int .i64 1]) ?_ rfl ⟨rfl, ?_⟩
  any_goals (rw [HR.out]; exact three_sets B.out (by omega) _ _ _)
  all_goals simp [results, Tryd.f10, go_sem, encU, Un.zero, d0, d1, d2]
set_option maxHeartbeats 4000000 in
theorem rplace_mod (u : Un) (k b n : Int) (w : World) (hf : u.Fits) (hb : -9223372036854775808 ≤ b ∧ b ≤ 9223372036854775807) (h1 : okU u) (h2 : szE k b = 0) (h3 : 1 ≤ n ∧ n ≤ 64) (h4 : (u.base + u.used) % twoI (szN k b) = 0) :
    Calls Tryd.prog 10 #[encU u, .int .i64 k, .int .i64 b, .int .i64 n] w fun e w' => ∃ ao cap, e = .returned (.tuple #[.slice ao (plL u k b n).length cap, encU (plU u k b n), .int .i64 (plE u k b n)]) ∧ Told w' ao (plL u k b n) ∧ Below w.heap.size w w' := by
  have X1 : Hid (okU u) := h1
  have X2 : Hid (szE k b = 0) := h2
  have X3 : Hid (1 ≤ n ∧ n ≤ 64) := h3
  have X4 : Hid ((u.base + u.used) % twoI (szN k b) = 0) := h4
  clear h1 h2 h3 h4
  have HF : Hid u.Fits := hf
  have b1 := two_new w (objU u) (objU Un.zero)
  have HB : Hid (-9223372036854775808 ≤ b ∧ b ≤ 9223372036854775807) := hb
  have a1 := (AtU.new w u).below (below_new _ (objU Un.zero))
  have a2 := AtU.new (w.alloc (objU u)) Un.zero
  rw [World.size_alloc] at a2
  clear hf hb
  simp only [encU, objU, Un.zero] at b1 a1 a2 ⊢
  go_enter Tryd.func10, Tryd.ntmps10
  go_wp2_with fail
  refine (rcheck_ok u _ HF.out X1.out).mono ?_
  rintro e w2 ⟨rfl, b2⟩
  have a3 := a1.below b2
  have a4 := a2.below b2
  have b3 := Below.then b1 b2 b1.size
  clear a1 a2 b1 b2
  have hr : w.heap.size + 1 < w2.heap.size := a4.lt
  generalize hr0 : w.heap.size = r at *
  have HR : Hid (w.heap.size = r) := hr0
  clear hr0
  obtain ⟨c0, c1, c2⟩ := a3.cells
  obtain ⟨d0, d1, d2⟩ := a4.cells
  have f3 := a3.frozen
  have f4 := a4.frozen
  have A3 : Hid (AtU w2 r u) := a3
  have A4 : Hid (AtU w2 (r + 1) ⟨0, 0, 0⟩) := a4
  have B : Hid (Below r w w2) := b3
  clear a3 a4 b3
  go_wp2_with fail
  refine (rsize_yes k b _ HB.out X2.out).mono ?_
  rintro e w' ⟨rfl, hw⟩
  obtain rfl := hw.symm
  have N := nums HF.out X1.out X2.out
  have HNM : Hid (Nums u (szN k b) (firstI u (szN k b)) (twoI (szN k b)) (twoI u.bits)) := N
  obtain ⟨n0, n1⟩ := X3.out
  have F1 := HF.out.base
  have F3 := HF.out.used
  have hs := N.sz
  have hP := N.P1
  have hS := N.S1
  have hB := N.base
  have hU := N.used
  have hF0 := N.F0
  have hF1 := N.F1
  have hbits := N.bits
  clear N
  go_wp2_with fail
  go_quiet ((go_at_call 18; exact Calls.quiet_of_same (two_any _ _ (by omega) (by omega))))
  clear c0 c1 c2 d0 d1 d2 f3 f4 hr
  have A7 : Hid (AtU (w2.drewN nq) r u) := A3.out.of_block (by rfl)
  have A8 : Hid (AtU (w2.drewN nq) (r + 1) ⟨0, 0, 0⟩) := A4.out.of_block (by rfl)
  have B4 : Hid (Below r w (w2.drewN nq)) := below_drewN B.out _
  clear A3 A4 B
  generalize w2.drewN nq = w4 at *
  have hr2 : r + 1 < w4.heap.size := A8.out.lt
  obtain ⟨c0, c1, c2⟩ := A7.out.cells
  have hdoc := up_doc (v := u.base + u.used) (n := szN k b) (by omega) (by omega) (by omega)
  have hmod := X4.out
  rw [if_pos hmod] at hdoc
  have HFi : Hid (firstI u (szN k b) = u.base + u.used) := hdoc
  have hm : ((u.base + u.used) % twoI (szN k b) != 0) = false := by rw [hmod]; rfl
  clear hdoc hmod
  go_wp2_with fail
  rw [← HFi.out]
  clear hm F1 F3 hs hB hU hbits hF0 hF1 hP hS
  have HNO : Hid (∀ i : Nat, (i : Int) < n → u.base + twoI u.bits < firstI u (szN k b) + (i : Int) * twoI (szN k b) + twoI (szN k b) → plE u k b n = 81 ∧ plL u k b n = [] ∧ plU u k b n = Un.zero) := fun i hi h => by
    have hS := HNM.out.S1
    have hle : ((i + 1 : Nat) : Int) * twoI (szN k b) ≤ n * twoI (szN k b) := Int.mul_le_mul_of_nonneg_right (by omega) (by omega)
    rw [show ((i + 1 : Nat) : Int) = (i : Int) + 1 by omega, Int.add_mul, Int.one_mul] at hle
    have hR : ¬ roomB u (szN k b) n := by unfold roomB; omega
    have e : plE u k b n = 81 := by unfold plE; rw [if_neg (not_not_intro X1.out), if_neg (by simpa using X2.out), if_neg (by simpa using X3.out), if_neg hR]
    exact ⟨e, by unfold plL; rw [if_neg (by omega)], by unfold plU; rw [if_neg (by omega)]⟩
  have HYES : Hid (firstI u (szN k b) + n * twoI (szN k b) ≤ u.base + twoI u.bits → plE u k b n = 0 ∧ plL u k b n = runL (firstI u (szN k b)) (twoI (szN k b)) n.toNat ∧ plU u k b n = ⟨u.base, u.bits, firstI u (szN k b) + n * twoI (szN k b) - u.base⟩) := fun h => by
    have e := (found_iff u k b n).2 ⟨X1.out, X2.out, X3.out, h⟩
    exact ⟨e, by unfold plL; rw [if_pos e], by unfold plU; rw [if_pos e]⟩
  have hF0 := HNM.out.F0
  have hF1 := HNM.out.F1
  have hP := HNM.out.P1
  have hS := HNM.out.S1
  have hB := HNM.out.base
  have hU := HNM.out.used
  have F1 := HF.out.base
  have F3 := HF.out.used
  have hF2 : 0 ≤ firstI u (szN k b) ∧ firstI u (szN k b) ≤ 1099513724928 := by omega
  clear HFi hF0 hF1 hU F3 c0 c1 c2
  have hbb : u.base ≤ firstI u (szN k b) := by have := HNM.out.F0; have := HF.out.used; omega
  generalize firstI u (szN k b) = F at *
  generalize twoI (szN k b) = S at *
  have O0 : Hid (Own w4.heap.size (w4.alloc (.cells #[] 22)) (.slice (some ⟨w4.heap.size, 0, none⟩) 0 0) []) := own_new _ _ (Nat.le_refl _)
  have B0 : Hid (Below w4.heap.size w4 (w4.alloc (.cells #[] 22))) := below_new _ _
  have HR2 : Hid (r + 1 < w4.heap.size) := hr2
  clear hr2
  generalize w4.alloc (.cells #[] 22) = w5 at *
  generalize hq : w4.heap.size = q at *
  have HQ : Hid (w4.heap.size = q) := hq
  clear hq
  go_loopw [16, 17, 18] (fun s16 s17 s18 wr => ∃ i : Nat, (i : Int) ≤ n ∧ s18 = .int .i64 i ∧ s16 = .int .u64 (F + (i : Int) * S) ∧ Own q wr s17 (runL F S i) ∧ Below q w4 wr ∧ Hid (i = 0 ∨ F + (i : Int) * S ≤ u.base + twoI u.bits)) (fun _ _ s18 _ => n.toNat - (intOf s18).toNat)
  case atStart => exact ⟨0, by omega, rfl, by simp, O0.out, B0.out, .inl rfl⟩
  case round =>
    clear O0 B0
    obtain ⟨i, hi, rfl, rfl, ho, hb, hd⟩ := hrel
    have mi : 0 ≤ (i : Int) * S ∧ (i : Int) * S ≤ 64 * S := ⟨Int.mul_nonneg (by omega) (by omega), Int.mul_le_mul_of_nonneg_right (by omega) (by omega)⟩
    have AU : Hid (AtU wr r u) := A7.out.of_block (hb.block r (by have := HR2.out; omega))
    have AZ : Hid (AtU wr (r + 1) ⟨0, 0, 0⟩) := A8.out.of_block (hb.block (r + 1) HR2.out)
    have BW : Hid (Below r w wr) := B4.out.trans (hb.mono (by have := HR2.out; omega))
    by_cases hin : (i : Int) < n
    · by_cases hfit : F + (i : Int) * S + S ≤ u.base + twoI u.bits
      · have e1 : F + ((i + 1 : Nat) : Int) * S = F + (i : Int) * S + S := by
          rw [show ((i + 1 : Nat) : Int) = (i : Int) + 1 by omega, Int.add_mul]
          omega
        obtain ⟨v', w', hrun, ho', hb'⟩ := append_one q w4 wr 27 u17 (runL F S i) (F + (i : Int) * S) ho hb (by rw [runL_len]; omega) (by have := hb.size; rw [HQ.out] at this; exact this)
        rw [← runL_succ] at ho'
        have HRun : Hid _ := hrun
        have HD : Hid (F + ((i + 1 : Nat) : Int) * S = F + (i : Int) * S + S ∧ Own q w' v' (runL F S (i + 1)) ∧ Below q w4 w' ∧ (i : Int) < n ∧ F + (i : Int) * S + S ≤ u.base + twoI u.bits) := ⟨e1, ho', hb', hin, hfit⟩
        have hx0 : 0 ≤ F + (i : Int) * S := by omega
        have hx1 : F + (i : Int) * S + S ≤ 9223372036854775807 := by omega
        clear hrun ho' hb' ho hb e1 mi hd
        generalize F + (i : Int) * S = x at *
        go_wp2_with (at_builtin; refine wpList_append_words rfl (.tmp 78) (.tmp 80) rfl _ _ v' w' rfl rfl (by exact HRun.out) ?_)
        go_roundw
        case rel => exact ⟨i + 1, by have := HD.out.2.2.2.1; omega, by go_num, by rw [HD.out.1], HD.out.2.1, HD.out.2.2.1, .inr (by rw [HD.out.1]; exact HD.out.2.2.2.2)⟩
        case measure => simp [intOf]; have := HD.out.2.2.2.1; omega
      · obtain ⟨g1, g2, g3⟩ := HNO.out i hin (by omega)
        have hx1 : F + (i : Int) * S + S ≤ 9223372036854775807 := by omega
        have hgt : u.base + twoI u.bits < F + (i : Int) * S + S := by omega
        have G : Hid (plE u k b n = 81 ∧ plL u k b n = [] ∧ plU u k b n = Un.zero) := ⟨g1, g2, g3⟩
        clear g1 g2 g3 hfit ho hb hd
        obtain ⟨d0, d1, d2⟩ := AZ.out.cells
        have f4 := AZ.out.frozen
        simp only at d0 d1 d2
        go_wp2
        refine bodyPost_ret (v := .tuple #[.slice none 0 0, encU Un.zero, .int .i64 81]) ?_ rfl ?_
        · simp [results, Tryd.f10, go_sem, encU, Un.zero, d0, d1, d2]
        · rw [G.out.1, G.out.2.1, G.out.2.2]
          exact ⟨none, 0, rfl, .inl rfl, by rw [HR.out]; exact three_sets BW.out (by omega) _ _ _⟩
    · have hin' : (i : Int) = n := by omega
      have hroom : F + (i : Int) * S ≤ u.base + twoI u.bits := by
        rcases hd.out with h | h
        · omega
        · exact h
      rw [hin'] at hroom
      obtain ⟨g1, g2, g3⟩ := HYES.out hroom
      have g4 : plU u k b n = ⟨u.base, u.bits, F + (i : Int) * S - u.base⟩ := by rw [hin']; exact g3
      rw [← hin'] at hroom
      have et : n.toNat = i := by omega
      rw [et] at g2
      have G : Hid (plE u k b n = 0 ∧ plL u k b n = runL F S i ∧ plU u k b n = ⟨u.base, u.bits, F + (i : Int) * S - u.base⟩) := ⟨g1, g2, g4⟩
      obtain ⟨ao, cap, rfl, ht, hx⟩ := ho.told
      rw [runL_len]
      have HT6 : Hid (Told wr ao (runL F S i)) := ht
      have HX6 : Hid (∀ x, ao = some x → x.block ≠ r + 1) := far_block HR2.out hx
      have hge : ¬ (i : Int) < n := hin
      clear g1 g2 g3 g4 hd et ht hx ho hb hin'
      obtain ⟨c0, c1, c2⟩ := AU.out.cells
      obtain ⟨d0, d1, d2⟩ := AZ.out.cells
      have f4 := AZ.out.frozen
      simp only at d0 d1 d2
      have hx0 : 0 ≤ F + (i : Int) * S - u.base ∧ F + (i : Int) * S ≤ 9223372036854775807 := by omega
      go_wp2_with fail
      go_region
      all_goals go_wp2
      all_goals refine bodyPost_ret (v := .tuple #[.slice ao i cap, encU ⟨u.base, u.bits, F + (i : Int) * S - u.base⟩, .int .i64 0]) ?_ rfl ?_
      any_goals
        rw [G.out.1, G.out.2.1, G.out.2.2, runL_len]
        exact ⟨ao, cap, rfl, (told_sets HT6.out HX6.out _ _ _).below (bw_drew _), by rw [HR.out]; exact below_drew1 (three_sets BW.out (by omega) _ _ _)⟩
      all_goals simp [results, Tryd.f10, go_sem, encU, d0, d1, d2]
set_option maxHeartbeats 4000000 in
theorem rplace_up (u : Un) (k b n : Int) (w : World) (hf : u.Fits) (hb : -9223372036854775808 ≤ b ∧ b ≤ 9223372036854775807) (h1 : okU u) (h2 : szE k b = 0) (h3 : 1 ≤ n ∧ n ≤ 64) (h4 : ¬ (u.base + u.used) % twoI (szN k b) = 0) :
    Calls Tryd.prog 10 #[encU u, .int .i64 k, .int .i64 b, .int .i64 n] w fun e w' => ∃ ao cap, e = .returned (.tuple #[.slice ao (plL u k b n).length cap, encU (plU u k b n), .int .i64 (plE u k b n)]) ∧ Told w' ao (plL u k b n) ∧ Below w.heap.size w w' := by
  have X1 : Hid (okU u) := h1
  have X2 : Hid (szE k b = 0) := h2
  have X3 : Hid (1 ≤ n ∧ n ≤ 64) := h3
  have X4 : Hid (¬ (u.base + u.used) % twoI (szN k b) = 0) := h4
  clear h1 h2 h3 h4
  have HF : Hid u.Fits := hf
  have b1 := two_new w (objU u) (objU Un.zero)
  have HB : Hid (-9223372036854775808 ≤ b ∧ b ≤ 9223372036854775807) := hb
  have a1 := (AtU.new w u).below (below_new _ (objU Un.zero))
  have a2 := AtU.new (w.alloc (objU u)) Un.zero
  rw [World.size_alloc] at a2
  clear hf hb
  simp only [encU, objU, Un.zero] at b1 a1 a2 ⊢
  go_enter Tryd.func10, Tryd.ntmps10
  go_wp2_with fail
  refine (rcheck_ok u _ HF.out X1.out).mono ?_
  rintro e w2 ⟨rfl, b2⟩
  have a3 := a1.below b2
  have a4 := a2.below b2
  have b3 := Below.then b1 b2 b1.size
  clear a1 a2 b1 b2
  have hr : w.heap.size + 1 < w2.heap.size := a4.lt
  generalize hr0 : w.heap.size = r at *
  have HR : Hid (w.heap.size = r) := hr0
  clear hr0
  obtain ⟨c0, c1, c2⟩ := a3.cells
  obtain ⟨d0, d1, d2⟩ := a4.cells
  have f3 := a3.frozen
  have f4 := a4.frozen
  have A3 : Hid (AtU w2 r u) := a3
  have A4 : Hid (AtU w2 (r + 1) ⟨0, 0, 0⟩) := a4
  have B : Hid (Below r w w2) := b3
  clear a3 a4 b3
  go_wp2_with fail
  refine (rsize_yes k b _ HB.out X2.out).mono ?_
  rintro e w' ⟨rfl, hw⟩
  obtain rfl := hw.symm
  have N := nums HF.out X1.out X2.out
  have HNM : Hid (Nums u (szN k b) (firstI u (szN k b)) (twoI (szN k b)) (twoI u.bits)) := N
  obtain ⟨n0, n1⟩ := X3.out
  have F1 := HF.out.base
  have F3 := HF.out.used
  have hs := N.sz
  have hP := N.P1
  have hS := N.S1
  have hB := N.base
  have hU := N.used
  have hF0 := N.F0
  have hF1 := N.F1
  have hbits := N.bits
  clear N
  go_wp2_with fail
  go_quiet ((go_at_call 18; exact Calls.quiet_of_same (two_any _ _ (by omega) (by omega))))
  clear c0 c1 c2 d0 d1 d2 f3 f4 hr
  have A7 : Hid (AtU (w2.drewN nq) r u) := A3.out.of_block (by rfl)
  have A8 : Hid (AtU (w2.drewN nq) (r + 1) ⟨0, 0, 0⟩) := A4.out.of_block (by rfl)
  have B4 : Hid (Below r w (w2.drewN nq)) := below_drewN B.out _
  clear A3 A4 B
  generalize w2.drewN nq = w4 at *
  have hr2 : r + 1 < w4.heap.size := A8.out.lt
  obtain ⟨c0, c1, c2⟩ := A7.out.cells
  have hdoc := up_doc (v := u.base + u.used) (n := szN k b) (by omega) (by omega) (by omega)
  have hmod := X4.out
  rw [if_neg hmod] at hdoc
  have HFi : Hid (firstI u (szN k b) = u.base + u.used - (u.base + u.used) % twoI (szN k b) + twoI (szN k b)) := hdoc
  have hm : ((u.base + u.used) % twoI (szN k b) != 0) = true := by simpa using hmod
  have hm0 := Int.emod_nonneg (u.base + u.used) (show twoI (szN k b) ≠ 0 by omega)
  have hm1 := Int.emod_lt_of_pos (u.base + u.used) (show 0 < twoI (szN k b) by omega)
  have hmle : (u.base + u.used) % twoI (szN k b) ≤ u.base + u.used := by
    have g1 := Int.ediv_nonneg (show 0 ≤ u.base + u.used by omega) (show 0 ≤ twoI (szN k b) by omega)
    have g2 := Int.emod_def (u.base + u.used) (twoI (szN k b))
    have g3 := Int.mul_nonneg (show 0 ≤ twoI (szN k b) by omega) g1
    omega
  clear hdoc hmod
  go_wp2_with fail
  rw [← HFi.out]
  clear hm F1 F3 hs hB hU hbits hF0 hF1 hP hS
  have HNO : Hid (∀ i : Nat, (i : Int) < n → u.base + twoI u.bits < firstI u (szN k b) + (i : Int) * twoI (szN k b) + twoI (szN k b) → plE u k b n = 81 ∧ plL u k b n = [] ∧ plU u k b n = Un.zero) := fun i hi h => by
    have hS := HNM.out.S1
    have hle : ((i + 1 : Nat) : Int) * twoI (szN k b) ≤ n * twoI (szN k b) := Int.mul_le_mul_of_nonneg_right (by omega) (by omega)
    rw [show ((i + 1 : Nat) : Int) = (i : Int) + 1 by omega, Int.add_mul, Int.one_mul] at hle
    have hR : ¬ roomB u (szN k b) n := by unfold roomB; omega
    have e : plE u k b n = 81 := by unfold plE; rw [if_neg (not_not_intro X1.out), if_neg (by simpa using X2.out), if_neg (by simpa using X3.out), if_neg hR]
    exact ⟨e, by unfold plL; rw [if_neg (by omega)], by unfold plU; rw [if_neg (by omega)]⟩
  have HYES : Hid (firstI u (szN k b) + n * twoI (szN k b) ≤ u.base + twoI u.bits → plE u k b n = 0 ∧ plL u k b n = runL (firstI u (szN k b)) (twoI (szN k b)) n.toNat ∧ plU u k b n = ⟨u.base, u.bits, firstI u (szN k b) + n * twoI (szN k b) - u.base⟩) := fun h => by
    have e := (found_iff u k b n).2 ⟨X1.out, X2.out, X3.out, h⟩
    exact ⟨e, by unfold plL; rw [if_pos e], by unfold plU; rw [if_pos e]⟩
  have hF0 := HNM.out.F0
  have hF1 := HNM.out.F1
  have hP := HNM.out.P1
  have hS := HNM.out.S1
  have hB := HNM.out.base
  have hU := HNM.out.used
  have F1 := HF.out.base
  have F3 := HF.out.used
  have hF2 : 0 ≤ firstI u (szN k b) ∧ firstI u (szN k b) ≤ 1099513724928 := by omega
  clear HFi hF0 hF1 hU F3 c0 c1 c2
  have hbb : u.base ≤ firstI u (szN k b) := by have := HNM.out.F0; have := HF.out.used; omega
  generalize firstI u (szN k b) = F at *
  generalize twoI (szN k b) = S at *
  have O0 : Hid (Own w4.heap.size (w4.alloc (.cells #[] 22)) (.slice (some ⟨w4.heap.size, 0, none⟩) 0 0) []) := own_new _ _ (Nat.le_refl _)
  have B0 : Hid (Below w4.heap.size w4 (w4.alloc (.cells #[] 22))) := below_new _ _
  have HR2 : Hid (r + 1 < w4.heap.size) := hr2
  clear hr2
  generalize w4.alloc (.cells #[] 22) = w5 at *
  generalize hq : w4.heap.size = q at *
  have HQ : Hid (w4.heap.size = q) := hq
  clear hq
  go_loopw [16, 17, 18] (fun s16 s17 s18 wr => ∃ i : Nat, (i : Int) ≤ n ∧ s18 = .int .i64 i ∧ s16 = .int .u64 (F + (i : Int) * S) ∧ Own q wr s17 (runL F S i) ∧ Below q w4 wr ∧ Hid (i = 0 ∨ F + (i : Int) * S ≤ u.base + twoI u.bits)) (fun _ _ s18 _ => n.toNat - (intOf s18).toNat)
  case atStart => exact ⟨0, by omega, rfl, by simp, O0.out, B0.out, .inl rfl⟩
  case round =>
    clear O0 B0
    obtain ⟨i, hi, rfl, rfl, ho, hb, hd⟩ := hrel
    have mi : 0 ≤ (i : Int) * S ∧ (i : Int) * S ≤ 64 * S := ⟨Int.mul_nonneg (by omega) (by omega), Int.mul_le_mul_of_nonneg_right (by omega) (by omega)⟩
    have AU : Hid (AtU wr r u) := A7.out.of_block (hb.block r (by have := HR2.out; omega))
    have AZ : Hid (AtU wr (r + 1) ⟨0, 0, 0⟩) := A8.out.of_block (hb.block (r + 1) HR2.out)
    have BW : Hid (Below r w wr) := B4.out.trans (hb.mono (by have := HR2.out; omega))
    by_cases hin : (i : Int) < n
    · by_cases hfit : F + (i : Int) * S + S ≤ u.base + twoI u.bits
      · have e1 : F + ((i + 1 : Nat) : Int) * S = F + (i : Int) * S + S := by
          rw [show ((i + 1 : Nat) : Int) = (i : Int) + 1 by omega, Int.add_mul]
          omega
        obtain ⟨v', w', hrun, ho', hb'⟩ := append_one q w4 wr 27 u17 (runL F S i) (F + (i : Int) * S) ho hb (by rw [runL_len]; omega) (by have := hb.size; rw [HQ.out] at this; exact this)
        rw [← runL_succ] at ho'
        have HRun : Hid _ := hrun
        have HD : Hid (F + ((i + 1 : Nat) : Int) * S = F + (i : Int) * S + S ∧ Own q w' v' (runL F S (i + 1)) ∧ Below q w4 w' ∧ (i : Int) < n ∧ F + (i : Int) * S + S ≤ u.base + twoI u.bits) := ⟨e1, ho', hb', hin, hfit⟩
        have hx0 : 0 ≤ F + (i : Int) * S := by omega
        have hx1 : F + (i : Int) * S + S ≤ 9223372036854775807 := by omega
        clear hrun ho' hb' ho hb e1 mi hd
        generalize F + (i : Int) * S = x at *
        go_wp2_with (at_builtin; refine wpList_append_words rfl (.tmp 78) (.tmp 80) rfl _ _ v' w' rfl rfl (by exact HRun.out) ?_)
        go_roundw
        case rel => exact ⟨i + 1, by have := HD.out.2.2.2.1; omega, by go_num, by rw [HD.out.1], HD.out.2.1, HD.out.2.2.1, .inr (by rw [HD.out.1]; exact HD.out.2.2.2.2)⟩
        case measure => simp [intOf]; have := HD.out.2.2.2.1; omega
      · obtain ⟨g1, g2, g3⟩ := HNO.out i hin (by omega)
        have hx1 : F + (i : Int) * S + S ≤ 9223372036854775807 := by omega
        have hgt : u.base + twoI u.bits < F + (i : Int) * S + S := by omega
        have G : Hid (plE u k b n = 81 ∧ plL u k b n = [] ∧ plU u k b n = Un.zero) := ⟨g1, g2, g3⟩
        clear g1 g2 g3 hfit ho hb hd
        obtain ⟨d0, d1, d2⟩ := AZ.out.cells
        have f4 := AZ.out.frozen
        simp only at d0 d1 d2
        go_wp2
        refine bodyPost_ret (v := .tuple #[.slice none 0 0, encU Un.zero, .int .i64 81]) ?_ rfl ?_
        · simp [results, Tryd.f10, go_sem, encU, Un.zero, d0, d1, d2]
        · rw [G.out.1, G.out.2.1, G.out.2.2]
          exact ⟨none, 0, rfl, .inl rfl, by rw [HR.out]; exact three_sets BW.out (by omega) _ _ _⟩
    · have hin' : (i : Int) = n := by omega
      have hroom : F + (i : Int) * S ≤ u.base + twoI u.bits := by
        rcases hd.out with h | h
        · omega
        · exact h
      rw [hin'] at hroom
      obtain ⟨g1, g2, g3⟩ := HYES.out hroom
      have g4 : plU u k b n = ⟨u.base, u.bits, F + (i : Int) * S - u.base⟩ := by rw [hin']; exact g3
      rw [← hin'] at hroom
      have et : n.toNat = i := by omega
      rw [et] at g2
      have G : Hid (plE u k b n = 0 ∧ plL u k b n = runL F S i ∧ plU u k b n = ⟨u.base, u.bits, F + (i : Int) * S - u.base⟩) := ⟨g1, g2, g4⟩
      obtain ⟨ao, cap, rfl, ht, hx⟩ := ho.told
      rw [runL_len]
      have HT6 : Hid (Told wr ao (runL F S i)) := ht
      have HX6 : Hid (∀ x, ao = some x → x.block ≠ r + 1) := far_block HR2.out hx
      have hge : ¬ (i : Int) < n := hin
      clear g1 g2 g3 g4 hd et ht hx ho hb hin'
      obtain ⟨c0, c1, c2⟩ := AU.out.cells
      obtain ⟨d0, d1, d2⟩ := AZ.out.cells
      have f4 := AZ.out.frozen
      simp only at d0 d1 d2
      have hx0 : 0 ≤ F + (i : Int) * S - u.base ∧ F + (i : Int) * S ≤ 9223372036854775807 := by omega
      go_wp2_with fail
      go_region
      all_goals go_wp2
      all_goals refine bodyPost_ret (v := .tuple #[.slice ao i cap, encU ⟨u.base, u.bits, F + (i : Int) * S - u.base⟩, .int .i64 0]) ?_ rfl ?_
      any_goals
        rw [G.out.1, G.out.2.1, G.out.2.2, runL_len]
        exact ⟨ao, cap, rfl, (told_sets HT6.out HX6.out _ _ _).below (bw_drew _), by rw [HR.out]; exact below_drew1 (three_sets BW.out (by omega) _ _ _)⟩
      all_goals simp [results, Tryd.f10, go_sem, encU, d0, d1, d2]
/-- Place, whole. -/
theorem rplace_any (u : Un) (k b n : Int) (w : World) (hf : u.Fits) (hb : -9223372036854775808 ≤ b ∧ b ≤ 9223372036854775807) :
    Calls Tryd.prog 10 #[encU u, .int .i64 k, .int .i64 b, .int .i64 n] w fun e w' => ∃ ao cap, e = .returned (.tuple #[.slice ao (plL u k b n).length cap, encU (plU u k b n), .int .i64 (plE u k b n)]) ∧ Told w' ao (plL u k b n) ∧ Below w.heap.size w w' := by
  have fin : ∀ E : Int, plE u k b n = E → E ≠ 0 → (Calls Tryd.prog 10 #[encU u, .int .i64 k, .int .i64 b, .int .i64 n] w fun e w' => e = .returned (.tuple #[.slice none 0 0, encU Un.zero, .int .i64 E]) ∧ Below w.heap.size w w') →
      Calls Tryd.prog 10 #[encU u, .int .i64 k, .int .i64 b, .int .i64 n] w fun e w' => ∃ ao cap, e = .returned (.tuple #[.slice ao (plL u k b n).length cap, encU (plU u k b n), .int .i64 (plE u k b n)]) ∧ Told w' ao (plL u k b n) ∧ Below w.heap.size w w' := by
    intro E hE h0 h
    have e1 : plL u k b n = [] := by unfold plL; rw [if_neg (by omega)]
    have e2 : plU u k b n = Un.zero := by unfold plU; rw [if_neg (by omega)]
    rw [e1, e2, hE]
    refine h.mono ?_
    rintro e w' ⟨rfl, hb'⟩
    exact ⟨none, 0, rfl, .inl rfl, hb'⟩
  by_cases h1 : okU u
  · by_cases h2 : szE k b = 0
    · by_cases h3 : 1 ≤ n ∧ n ≤ 64
      · by_cases h4 : (u.base + u.used) % twoI (szN k b) = 0
        · exact rplace_mod u k b n w hf hb h1 h2 h3 h4
        · exact rplace_up u k b n w hf hb h1 h2 h3 h4
      · exact fin 1 (by unfold plE; rw [if_neg (not_not_intro h1), if_neg (by simpa using h2), if_pos h3]) (by decide) (rplace_n u k b n w hf hb h1 h2 h3)
    · exact fin _ (by unfold plE; rw [if_neg (not_not_intro h1), if_pos h2]) h2 (rplace_sz u k b n w hf hb h1 h2)
  · exact fin 1 (by unfold plE; rw [if_pos h1]) (by decide) (rplace_chk u k b n w hf hb h1)
end Go.Proofs.YtkelblkegpmlpaaDoor

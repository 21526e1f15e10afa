/-
  What Place of package untyped answers, for all that is handed in, where the table of sizes lies as the program laid it: each answer by the plain words plL, plU, plE.
-/
import Derived.Test.YtkelblkegpmlpabDoorURow
namespace Go.Proofs.YtkelblkegpmlpabDoor
open Go.RowKit Go.Deep

theorem check_ok (u : Un) (w : World) (hf : u.Fits) (h : okU u) : Calls Tryd.prog 5 #[encU u] w fun e w' => e = .returned (.int .i64 0) ∧ Below w.heap.size w w' := by
  have := check_any u w hf
  rwa [chkE, if_pos h] at this
theorem check_bad (u : Un) (w : World) (hf : u.Fits) (h : ¬ okU u) : Calls Tryd.prog 5 #[encU u] w fun e w' => e = .returned (.int .i64 1) ∧ Below w.heap.size w w' := by
  have := check_any u w hf
  rwa [chkE, if_neg h] at this
theorem size_yes (k b : Int) (w : World) (h : Tab w) (hb : -9223372036854775808 ≤ b ∧ b ≤ 9223372036854775807) (hz : szE k b = 0) :
    Calls Tryd.prog 8 #[.int .i64 k, .int .i64 b] w fun e w' => e = .returned (.tuple #[.int .i64 (szN k b), .int .i64 0]) ∧ Below w.heap.size w w' := by
  have := size_any k b w h hb
  rwa [hz] at this
theorem size_no (k b : Int) (w : World) (h : Tab w) (hb : -9223372036854775808 ≤ b ∧ b ≤ 9223372036854775807) (hz : szE k b ≠ 0) :
    Calls Tryd.prog 8 #[.int .i64 k, .int .i64 b] w fun e w' => e = .returned (.tuple #[.int .i64 0, .int .i64 (szE k b)]) ∧ Below w.heap.size w w' := by
  have := size_any k b w h hb
  rwa [szN_no hz] at this
theorem below_drewN {B : Nat} {a w : World} (h : Below B a w) (n : Nat) : Below B a (w.drewN n) := ⟨h.os, h.tape, h.output, h.size, h.block⟩
theorem AtU.setUsed {w : World} {q : Nat} {u : Un} (h : AtU w q u) (v : Int) : AtU (w.setCell ⟨q, 2, none⟩ (.int .u64 v)) q ⟨u.base, u.bits, v⟩ := by
  unfold AtU objU at *
  simp only [World.setCell, Array.getElem?_modify, h, if_true, Option.map_some]
  rfl
theorem far_block {q s : Nat} {ao : Option Addr} (h : q < s) (hx : ∀ x, ao = some x → s ≤ x.block) : ∀ x, ao = some x → x.block ≠ q := by
  intro x hx' e
  have := hx x hx'
  omega
theorem told_sets {w : World} {ao : Option Addr} {L : List Int} (h : Told w ao L) {q : Nat} (hp : ∀ x, ao = some x → x.block ≠ q) (a b c : Value) :
    Told (((w.setCell ⟨q, 0, none⟩ a).setCell ⟨q, 1, none⟩ b).setCell ⟨q, 2, none⟩ c) ao L :=
  Told.setOther (Told.setOther (Told.setOther h (p := ⟨q, 0, none⟩) hp a) (p := ⟨q, 1, none⟩) hp b) (p := ⟨q, 2, none⟩) hp c
/-- Three stores into a block of the call's own leave all older ones. -/
theorem three_sets {B q : Nat} {w u : World} (h : Below B w u) (hq : B ≤ q) (a b c : Value) :
    Below B w (((u.setCell ⟨q, 0, none⟩ a).setCell ⟨q, 1, none⟩ b).setCell ⟨q, 2, none⟩ c) :=
  ((h.setCell (p := ⟨q, 0, none⟩) hq a).setCell (p := ⟨q, 1, none⟩) hq b).setCell (p := ⟨q, 2, none⟩) hq c

set_option maxHeartbeats 2000000 in
theorem place_chk (u : Un) (k b n : Int) (w : World) (hT : Tab w) (hf : u.Fits) (hb : -9223372036854775808 ≤ b ∧ b ≤ 9223372036854775807) (hn : -9223372036854775808 ≤ n ∧ n ≤ 9223372036854775807) (h1 : ¬ okU u) :
    Calls Tryd.prog 4 #[encU u, .int .i64 k, .int .i64 b, .int .i64 n] w fun e w' => e = .returned (.tuple #[.slice none 0 0, encU Un.zero, .int .i64 1]) ∧ Below w.heap.size w w' := by
  have X1 : Hid (¬ okU u) := h1
  clear h1
  have HF : Hid u.Fits := hf
  have b1 := two_new w (objU u) (objU Un.zero)
  have HT : Hid (Tab w) := hT
  have HB : Hid (-9223372036854775808 ≤ b ∧ b ≤ 9223372036854775807) := hb
  have HN : Hid (-9223372036854775808 ≤ n ∧ n ≤ 9223372036854775807) := hn
  have a1 := (AtU.new w u).below (below_new _ (objU Un.zero))
  have a2 := AtU.new (w.alloc (objU u)) Un.zero
  rw [World.size_alloc] at a2
  clear hf hT hb hn
  simp only [encU, objU, Un.zero] at b1 a1 a2 ⊢
  go_enter Tryd.func4, Tryd.ntmps4
  go_wp2_with fail
  refine (check_bad u _ HF.out X1.out).mono ?_
  rintro e w2 ⟨rfl, b2⟩
  have a3 := a1.below b2
  have a4 := a2.below b2
  have b3 := Below.then b1 b2 b1.size
  clear a1 a2 b1 b2
  have hr : w.heap.size + 1 < w2.heap.size := a4.lt
  generalize hr0 : w.heap.size = r at *
  have HR : Hid (w.heap.size = r) := hr0
  clear hr0
  obtain ⟨c0, c1, c2⟩ := a3.cells
  obtain ⟨d0, d1, d2⟩ := a4.cells
  have f3 := a3.frozen
  have f4 := a4.frozen
  have A3 : Hid (AtU w2 r u) := a3
  have A4 : Hid (AtU w2 (r + 1) ⟨0, 0, 0⟩) := a4
  have B : Hid (Below r w w2) := b3
  clear a3 a4 b3
  go_wp2
  refine bodyPost_ret (v := .tuple #[.slice none 0 0, encU Un.zero, .int .i64 1]) ?_ rfl ⟨rfl, ?_⟩
  · simp [results, Tryd.f4, go_sem, encU, Un.zero, d0, d1, d2]
  · rw [HR.out]; exact three_sets B.out (by omega) _ _ _
set_option maxHeartbeats 2000000 in
theorem place_sz (u : Un) (k b n : Int) (w : World) (hT : Tab w) (hf : u.Fits) (hb : -9223372036854775808 ≤ b ∧ b ≤ 9223372036854775807) (hn : -9223372036854775808 ≤ n ∧ n ≤ 9223372036854775807) (h1 : okU u) (h2 : szE k b ≠ 0) :
    Calls Tryd.prog 4 #[encU u, .int .i64 k, .int .i64 b, .int .i64 n] w fun e w' => e = .returned (.tuple #[.slice none 0 0, encU Un.zero, .int .i64 (szE k b)]) ∧ Below w.heap.size w w' := by
  have X1 : Hid (okU u) := h1
  have X2 : Hid (szE k b ≠ 0) := h2
  clear h1 h2
  have HF : Hid u.Fits := hf
  have b1 := two_new w (objU u) (objU Un.zero)
  have HT : Hid (Tab w) := hT
  have HB : Hid (-9223372036854775808 ≤ b ∧ b ≤ 9223372036854775807) := hb
  have HN : Hid (-9223372036854775808 ≤ n ∧ n ≤ 9223372036854775807) := hn
  have a1 := (AtU.new w u).below (below_new _ (objU Un.zero))
  have a2 := AtU.new (w.alloc (objU u)) Un.zero
  rw [World.size_alloc] at a2
  clear hf hT hb hn
  simp only [encU, objU, Un.zero] at b1 a1 a2 ⊢
  go_enter Tryd.func4, Tryd.ntmps4
  go_wp2_with fail
  refine (check_ok u _ HF.out X1.out).mono ?_
  rintro e w2 ⟨rfl, b2⟩
  have a3 := a1.below b2
  have a4 := a2.below b2
  have b3 := Below.then b1 b2 b1.size
  clear a1 a2 b1 b2
  have hr : w.heap.size + 1 < w2.heap.size := a4.lt
  generalize hr0 : w.heap.size = r at *
  have HR : Hid (w.heap.size = r) := hr0
  clear hr0
  obtain ⟨c0, c1, c2⟩ := a3.cells
  obtain ⟨d0, d1, d2⟩ := a4.cells
  have f3 := a3.frozen
  have f4 := a4.frozen
  have A3 : Hid (AtU w2 r u) := a3
  have A4 : Hid (AtU w2 (r + 1) ⟨0, 0, 0⟩) := a4
  have B : Hid (Below r w w2) := b3
  clear a3 a4 b3
  go_wp2_with fail
  refine (size_no k b _ (HT.out.below B.out (by rw [← HR.out]; exact HT.out.size)) HB.out X2.out).mono ?_
  rintro e w3 ⟨rfl, b4⟩
  have B3 : Hid (Below r w w3) := B.out.trans (b4.mono (by omega))
  have A5 : Hid (AtU w3 r u) := A3.out.below b4
  have A6 : Hid (AtU w3 (r + 1) ⟨0, 0, 0⟩) := A4.out.below b4
  have hr2 : r + 1 < w3.heap.size := A6.out.lt
  clear b4 c0 c1 c2 d0 d1 d2 f3 f4 hr A3 A4 B
  obtain ⟨c0, c1, c2⟩ := A5.out.cells
  obtain ⟨d0, d1, d2⟩ := A6.out.cells
  have f3 := A5.out.frozen
  have f4 := A6.out.frozen
  have hne : (szE k b != 0) = true := by have := X2.out; simpa using this
  go_wp2
  refine bodyPost_ret (v := .tuple #[.slice none 0 0, encU Un.zero, .int .i64 (szE k b)]) ?_ rfl ⟨rfl, ?_⟩
  · simp [results, Tryd.f4, go_sem, encU, Un.zero, d0, d1, d2]
  · rw [HR.out]; exact three_sets B3.out (by omega) _ _ _
set_option maxHeartbeats 2000000 in
theorem place_n (u : Un) (k b n : Int) (w : World) (hT : Tab w) (hf : u.Fits) (hb : -9223372036854775808 ≤ b ∧ b ≤ 9223372036854775807) (hn : -9223372036854775808 ≤ n ∧ n ≤ 9223372036854775807) (h1 : okU u) (h2 : szE k b = 0) (h3 : ¬ (1 ≤ n ∧ n ≤ 64)) :
    Calls Tryd.prog 4 #[encU u, .int .i64 k, .int .i64 b, .int .i64 n] w fun e w' => e = .returned (.tuple #[.slice none 0 0, encU Un.zero, .int .i64 1]) ∧ Below w.heap.size w w' := by
  have X1 : Hid (okU u) := h1
  have X2 : Hid (szE k b = 0) := h2
  have X3 : Hid (¬ (1 ≤ n ∧ n ≤ 64)) := h3
  clear h1 h2 h3
  have HF : Hid u.Fits := hf
  have b1 := two_new w (objU u) (objU Un.zero)
  have HT : Hid (Tab w) := hT
  have HB : Hid (-9223372036854775808 ≤ b ∧ b ≤ 9223372036854775807) := hb
  have HN : Hid (-9223372036854775808 ≤ n ∧ n ≤ 9223372036854775807) := hn
  have a1 := (AtU.new w u).below (below_new _ (objU Un.zero))
  have a2 := AtU.new (w.alloc (objU u)) Un.zero
  rw [World.size_alloc] at a2
  clear hf hT hb hn
  simp only [encU, objU, Un.zero] at b1 a1 a2 ⊢
  go_enter Tryd.func4, Tryd.ntmps4
  go_wp2_with fail
  refine (check_ok u _ HF.out X1.out).mono ?_
  rintro e w2 ⟨rfl, b2⟩
  have a3 := a1.below b2
  have a4 := a2.below b2
  have b3 := Below.then b1 b2 b1.size
  clear a1 a2 b1 b2
  have hr : w.heap.size + 1 < w2.heap.size := a4.lt
  generalize hr0 : w.heap.size = r at *
  have HR : Hid (w.heap.size = r) := hr0
  clear hr0
  obtain ⟨c0, c1, c2⟩ := a3.cells
  obtain ⟨d0, d1, d2⟩ := a4.cells
  have f3 := a3.frozen
  have f4 := a4.frozen
  have A3 : Hid (AtU w2 r u) := a3
  have A4 : Hid (AtU w2 (r + 1) ⟨0, 0, 0⟩) := a4
  have B : Hid (Below r w w2) := b3
  clear a3 a4 b3
  go_wp2_with fail
  refine (size_yes k b _ (HT.out.below B.out (by rw [← HR.out]; exact HT.out.size)) HB.out X2.out).mono ?_
  rintro e w3 ⟨rfl, b4⟩
  have B3 : Hid (Below r w w3) := B.out.trans (b4.mono (by omega))
  have A5 : Hid (AtU w3 r u) := A3.out.below b4
  have A6 : Hid (AtU w3 (r + 1) ⟨0, 0, 0⟩) := A4.out.below b4
  have hr2 : r + 1 < w3.heap.size := A6.out.lt
  clear b4 c0 c1 c2 d0 d1 d2 f3 f4 hr A3 A4 B
  obtain ⟨c0, c1, c2⟩ := A5.out.cells
  obtain ⟨d0, d1, d2⟩ := A6.out.cells
  have f3 := A5.out.frozen
  have f4 := A6.out.frozen
  have hn := X3.out
  go_wp2
  all_goals refine bodyPost_ret (v := .tuple #[.slice none 0 0, encU Un.zero, .int .i64 1]) ?_ rfl ⟨rfl, ?_⟩
  any_goals (rw [HR.out]; exact three_sets B3.out (by omega) _ _ _)
  all_goals simp [results, Tryd.f4, go_sem, encU, Un.zero, d0, d1, d2]
set_option maxHeartbeats 2000000 in
theorem place_room (u : Un) (k b n : Int) (w : World) (hT : Tab w) (hf : u.Fits) (hb : -9223372036854775808 ≤ b ∧ b ≤ 9223372036854775807) (hn : -9223372036854775808 ≤ n ∧ n ≤ 9223372036854775807) (h1 : okU u) (h2 : szE k b = 0) (h3 : 1 ≤ n ∧ n ≤ 64) (h4 : ¬ roomB u (szN k b) n) :
    Calls Tryd.prog 4 #[encU u, .int .i64 k, .int .i64 b, .int .i64 n] w fun e w' => e = .returned (.tuple #[.slice none 0 0, encU Un.zero, .int .i64 81]) ∧ Below w.heap.size w w' := by
  have X1 : Hid (okU u) := h1
  have X2 : Hid (szE k b = 0) := h2
  have X3 : Hid (1 ≤ n ∧ n ≤ 64) := h3
  have X4 : Hid (¬ roomB u (szN k b) n) := h4
  clear h1 h2 h3 h4
  have HF : Hid u.Fits := hf
  have b1 := two_new w (objU u) (objU Un.zero)
  have HT : Hid (Tab w) := hT
  have HB : Hid (-9223372036854775808 ≤ b ∧ b ≤ 9223372036854775807) := hb
  have HN : Hid (-9223372036854775808 ≤ n ∧ n ≤ 9223372036854775807) := hn
  have a1 := (AtU.new w u).below (below_new _ (objU Un.zero))
  have a2 := AtU.new (w.alloc (objU u)) Un.zero
  rw [World.size_alloc] at a2
  clear hf hT hb hn
  simp only [encU, objU, Un.zero] at b1 a1 a2 ⊢
  go_enter Tryd.func4, Tryd.ntmps4
  go_wp2_with fail
  refine (check_ok u _ HF.out X1.out).mono ?_
  rintro e w2 ⟨rfl, b2⟩
  have a3 := a1.below b2
  have a4 := a2.below b2
  have b3 := Below.then b1 b2 b1.size
  clear a1 a2 b1 b2
  have hr : w.heap.size + 1 < w2.heap.size := a4.lt
  generalize hr0 : w.heap.size = r at *
  have HR : Hid (w.heap.size = r) := hr0
  clear hr0
  obtain ⟨c0, c1, c2⟩ := a3.cells
  obtain ⟨d0, d1, d2⟩ := a4.cells
  have f3 := a3.frozen
  have f4 := a4.frozen
  have A3 : Hid (AtU w2 r u) := a3
  have A4 : Hid (AtU w2 (r + 1) ⟨0, 0, 0⟩) := a4
  have B : Hid (Below r w w2) := b3
  clear a3 a4 b3
  go_wp2_with fail
  refine (size_yes k b _ (HT.out.below B.out (by rw [← HR.out]; exact HT.out.size)) HB.out X2.out).mono ?_
  rintro e w3 ⟨rfl, b4⟩
  have B3 : Hid (Below r w w3) := B.out.trans (b4.mono (by omega))
  have A5 : Hid (AtU w3 r u) := A3.out.below b4
  have A6 : Hid (AtU w3 (r + 1) ⟨0, 0, 0⟩) := A4.out.below b4
  have hr2 : r + 1 < w3.heap.size := A6.out.lt
  clear b4 c0 c1 c2 d0 d1 d2 f3 f4 hr A3 A4 B
  obtain ⟨c0, c1, c2⟩ := A5.out.cells
  obtain ⟨d0, d1, d2⟩ := A6.out.cells
  have f3 := A5.out.frozen
  have f4 := A6.out.frozen
  have N := nums HF.out X1.out X2.out
  obtain ⟨n0, n1⟩ := X3.out
  have F1 := HF.out.base
  have F3 := HF.out.used
  have hs := N.sz
  have hP := N.P1
  have hS := N.S1
  have hB := N.base
  have hU := N.used
  have hF0 := N.F0
  have hF1 := N.F1
  have hbits := N.bits
  have hup : u.base + u.used ≤ notI (onesI (szN k b)) := by unfold notI; rw [onesI_two]; omega
  have HFi : Hid (firstI u (szN k b) = upI (u.base + u.used) (szN k b)) := rfl
  have hmul : n * twoI (szN k b) ≤ 67108864 := by
    have e1 := Int.mul_le_mul_of_nonneg_right n1 (show 0 ≤ twoI (szN k b) by omega)
    omega
  have hmul0 : 0 ≤ n * twoI (szN k b) := Int.mul_nonneg (by omega) (by omega)
  have HM : Hid (u.base % twoI u.bits = 0) := N.mult
  clear N
  have hroom := X4.out
  unfold roomB at hroom
  go_wp2_with fail
  refine (up_yes _ _ _ (by omega) (by omega) (by omega) hup).mono ?_
  rintro e w' ⟨rfl, hw⟩
  obtain rfl := hw.symm
  rw [show upI (u.base + u.used) (szN k b) = firstI u (szN k b) from rfl]
  generalize firstI u (szN k b) = F at *
  go_wp2_with fail
  refine (power_any _ _ (by omega) (by omega)).mono ?_
  rintro e w' ⟨rfl, hw⟩
  obtain rfl := hw.symm
  go_wp2_with fail
  go_quiet ((go_at_call 10; exact Calls.quiet_of_same (power_any _ _ (by omega) (by omega))))
  clear c0 c1 c2 d0 d1 d2 f3 f4 hr2
  have A7 : Hid (AtU (w3.drewN nq) r u) := A5.out.of_block (by rfl)
  have A8 : Hid (AtU (w3.drewN nq) (r + 1) ⟨0, 0, 0⟩) := A6.out.of_block (by rfl)
  have B4 : Hid (Below r w (w3.drewN nq)) := below_drewN B3.out _
  clear A5 A6 B3
  generalize w3.drewN nq = w4 at *
  clear w3
  have hr2 : r + 1 < w4.heap.size := A8.out.lt
  obtain ⟨c0, c1, c2⟩ := A7.out.cells
  obtain ⟨d0, d1, d2⟩ := A8.out.cells
  have f3 := A7.out.frozen
  have f4 := A8.out.frozen
  go_wp2
  refine bodyPost_ret (v := .tuple #[.slice none 0 0, encU Un.zero, .int .i64 81]) ?_ rfl ⟨rfl, ?_⟩
  · simp [results, Tryd.f4, go_sem, encU, Un.zero, d0, d1, d2]
  · rw [HR.out]; exact three_sets B4.out (by omega) _ _ _
set_option maxHeartbeats 2000000 in
theorem place_yes (u : Un) (k b n : Int) (w : World) (hT : Tab w) (hf : u.Fits) (hb : -9223372036854775808 ≤ b ∧ b ≤ 9223372036854775807) (hn : -9223372036854775808 ≤ n ∧ n ≤ 9223372036854775807) (h1 : okU u) (h2 : szE k b = 0) (h3 : 1 ≤ n ∧ n ≤ 64) (h4 : roomB u (szN k b) n) :
    Calls Tryd.prog 4 #[encU u, .int .i64 k, .int .i64 b, .int .i64 n] w fun e w' => ∃ ao cap, e = .returned (.tuple #[.slice ao n.toNat cap, encU ⟨u.base, u.bits, firstI u (szN k b) + n * twoI (szN k b) - u.base⟩, .int .i64 0]) ∧ Told w' ao (runL (firstI u (szN k b)) (twoI (szN k b)) n.toNat) ∧ Below w.heap.size w w' := by
  have X1 : Hid (okU u) := h1
  have X2 : Hid (szE k b = 0) := h2
  have X3 : Hid (1 ≤ n ∧ n ≤ 64) := h3
  have X4 : Hid (roomB u (szN k b) n) := h4
  clear h1 h2 h3 h4
  have HF : Hid u.Fits := hf
  have b1 := two_new w (objU u) (objU Un.zero)
  have HT : Hid (Tab w) := hT
  have HB : Hid (-9223372036854775808 ≤ b ∧ b ≤ 9223372036854775807) := hb
  have HN : Hid (-9223372036854775808 ≤ n ∧ n ≤ 9223372036854775807) := hn
  have a1 := (AtU.new w u).below (below_new _ (objU Un.zero))
  have a2 := AtU.new (w.alloc (objU u)) Un.zero
  rw [World.size_alloc] at a2
  clear hf hT hb hn
  simp only [encU, objU, Un.zero] at b1 a1 a2 ⊢
  go_enter Tryd.func4, Tryd.ntmps4
  go_wp2_with fail
  refine (check_ok u _ HF.out X1.out).mono ?_
  rintro e w2 ⟨rfl, b2⟩
  have a3 := a1.below b2
  have a4 := a2.below b2
  have b3 := Below.then b1 b2 b1.size
  clear a1 a2 b1 b2
  have hr : w.heap.size + 1 < w2.heap.size := a4.lt
  generalize hr0 : w.heap.size = r at *
  have HR : Hid (w.heap.size = r) := hr0
  clear hr0
  obtain ⟨c0, c1, c2⟩ := a3.cells
  obtain ⟨d0, d1, d2⟩ := a4.cells
  have f3 := a3.frozen
  have f4 := a4.frozen
  have A3 : Hid (AtU w2 r u) := a3
  have A4 : Hid (AtU w2 (r + 1) ⟨0, 0, 0⟩) := a4
  have B : Hid (Below r w w2) := b3
  clear a3 a4 b3
  go_wp2_with fail
  refine (size_yes k b _ (HT.out.below B.out (by rw [← HR.out]; exact HT.out.size)) HB.out X2.out).mono ?_
  rintro e w3 ⟨rfl, b4⟩
  have B3 : Hid (Below r w w3) := B.out.trans (b4.mono (by omega))
  have A5 : Hid (AtU w3 r u) := A3.out.below b4
  have A6 : Hid (AtU w3 (r + 1) ⟨0, 0, 0⟩) := A4.out.below b4
  have hr2 : r + 1 < w3.heap.size := A6.out.lt
  clear b4 c0 c1 c2 d0 d1 d2 f3 f4 hr A3 A4 B
  obtain ⟨c0, c1, c2⟩ := A5.out.cells
  obtain ⟨d0, d1, d2⟩ := A6.out.cells
  have f3 := A5.out.frozen
  have f4 := A6.out.frozen
  have N := nums HF.out X1.out X2.out
  obtain ⟨n0, n1⟩ := X3.out
  have F1 := HF.out.base
  have F3 := HF.out.used
  have hs := N.sz
  have hP := N.P1
  have hS := N.S1
  have hB := N.base
  have hU := N.used
  have hF0 := N.F0
  have hF1 := N.F1
  have hbits := N.bits
  have hup : u.base + u.used ≤ notI (onesI (szN k b)) := by unfold notI; rw [onesI_two]; omega
  have HFi : Hid (firstI u (szN k b) = upI (u.base + u.used) (szN k b)) := rfl
  have hmul : n * twoI (szN k b) ≤ 67108864 := by
    have e1 := Int.mul_le_mul_of_nonneg_right n1 (show 0 ≤ twoI (szN k b) by omega)
    omega
  have hmul0 : 0 ≤ n * twoI (szN k b) := Int.mul_nonneg (by omega) (by omega)
  have HM : Hid (u.base % twoI u.bits = 0) := N.mult
  clear N
  have hroom := X4.out
  unfold roomB at hroom
  go_wp2_with fail
  refine (up_yes _ _ _ (by omega) (by omega) (by omega) hup).mono ?_
  rintro e w' ⟨rfl, hw⟩
  obtain rfl := hw.symm
  rw [show upI (u.base + u.used) (szN k b) = firstI u (szN k b) from rfl]
  generalize firstI u (szN k b) = F at *
  go_wp2_with fail
  refine (power_any _ _ (by omega) (by omega)).mono ?_
  rintro e w' ⟨rfl, hw⟩
  obtain rfl := hw.symm
  go_wp2_with fail
  go_quiet ((go_at_call 10; exact Calls.quiet_of_same (power_any _ _ (by omega) (by omega))))
  clear c0 c1 c2 d0 d1 d2 f3 f4 hr2
  have A7 : Hid (AtU (w3.drewN nq) r u) := A5.out.of_block (by rfl)
  have A8 : Hid (AtU (w3.drewN nq) (r + 1) ⟨0, 0, 0⟩) := A6.out.of_block (by rfl)
  have B4 : Hid (Below r w (w3.drewN nq)) := below_drewN B3.out _
  clear A5 A6 B3
  generalize w3.drewN nq = w4 at *
  clear w3
  have hr2 : r + 1 < w4.heap.size := A8.out.lt
  obtain ⟨c0, c1, c2⟩ := A7.out.cells
  obtain ⟨d0, d1, d2⟩ := A8.out.cells
  have f3 := A7.out.frozen
  have f4 := A8.out.frozen
  have hrow : ∀ W, Calls Tryd.prog 11 #[.int .u64 F, .int .u64 (twoI (szN k b)), .int .i64 n] W fun e w' => ∃ ao cap, e = .returned (.slice ao n.toNat cap) ∧ Told w' ao (runL F (twoI (szN k b)) n.toNat) ∧ (∀ x, ao = some x → W.heap.size ≤ x.block) ∧ Below W.heap.size W w' := fun W => by
    have := row_any F (twoI (szN k b)) n.toNat W (by omega) (by omega) (by omega) (by rw [Int.toNat_of_nonneg (by omega)]; omega)
    rwa [Int.toNat_of_nonneg (by omega)] at this
  have HRow : Hid _ := hrow
  clear hrow
  go_wp2_with fail
  have A9 : Hid (AtU (w4.setCell ⟨r, 2, none⟩ (.int .u64 (F + n * twoI (szN k b) - u.base))) r ⟨u.base, u.bits, F + n * twoI (szN k b) - u.base⟩) := A7.out.setUsed _
  have A10 : Hid (AtU (w4.setCell ⟨r, 2, none⟩ (.int .u64 (F + n * twoI (szN k b) - u.base))) (r + 1) ⟨0, 0, 0⟩) := A8.out.of_block (blk_setCell_other _ _ _ _ (by simp))
  have B5 : Hid (Below r w (w4.setCell ⟨r, 2, none⟩ (.int .u64 (F + n * twoI (szN k b) - u.base)))) := B4.out.setCell (p := ⟨r, 2, none⟩) (Nat.le_refl _) _
  clear c0 c1 c2 d0 d1 d2 f3 f4 A7 A8 B4 hr2
  generalize w4.setCell ⟨r, 2, none⟩ (.int .u64 (F + n * twoI (szN k b) - u.base)) = w5 at *
  have hr2 : r + 1 < w5.heap.size := A10.out.lt
  obtain ⟨c0, c1, c2⟩ := A9.out.cells
  obtain ⟨d0, d1, d2⟩ := A10.out.cells
  have f3 := A9.out.frozen
  have f4 := A10.out.frozen
  have hs2 : 0 ≤ szN k b ∧ szN k b ≤ 63 := by omega
  have HS2 : Hid (0 ≤ szN k b ∧ szN k b ≤ 63) := hs2
  have hr3 : Hid (r + 1 < w5.heap.size) := hr2
  clear hs2 hroom hF0 hF1 hmul hmul0 hup hP hS hB hU hbits hs F1 F3 n0 n1
  go_region_with (first | (go_at_call 10; refine (power_any _ _ HS2.out.1 HS2.out.2).mono ?_; rintro e w' ⟨rfl, rfl⟩) | (go_at_call 11; refine (HRow.out _).mono ?_; rintro e w6 ⟨ao, cap, rfl, ht6, hx6, b6⟩; have A11 : AtU w6 r ⟨u.base, u.bits, F + n * twoI (szN k b) - u.base⟩ := (AtU.of_block (w' := w5.drew) A9.out rfl).below b6; have A12 : AtU w6 (r + 1) ⟨0, 0, 0⟩ := (AtU.of_block (w' := w5.drew) A10.out rfl).below b6; obtain ⟨g0, g1, g2⟩ := A11.cells; obtain ⟨i0, i1, i2⟩ := A12.cells; have g3 := A11.frozen; have g4 := A12.frozen; have B6 : Hid (Below r w w6) := B5.out.trans ((show Below w5.heap.size w5 w6 from ⟨b6.os, b6.tape, b6.output, b6.size, b6.block⟩).mono (by have := hr3.out; omega)); have T6 : Hid (Told w6 ao (runL F (twoI (szN k b)) n.toNat)) := ht6; have X6 : Hid (∀ x, ao = some x → x.block ≠ r + 1) := far_block hr3.out hx6; clear ht6 hx6 b6 A11 A12))
  all_goals go_wp2
  all_goals (have eF := HFi.out; subst eF)
  all_goals refine bodyPost_ret (v := .tuple #[.slice ao n.toNat cap, encU ⟨u.base, u.bits, firstI u (szN k b) + n * twoI (szN k b) - u.base⟩, .int .i64 0]) ?_ rfl ⟨ao, cap, rfl, told_sets T6.out X6.out _ _ _, ?_⟩
  any_goals (rw [HR.out]; exact three_sets B6.out (by omega) _ _ _)
  all_goals simp [results, Tryd.f4, go_sem, encU, i0, i1, i2, firstI]
/-- Place, whole. -/
theorem place_any (u : Un) (k b n : Int) (w : World) (hT : Tab w) (hf : u.Fits) (hb : -9223372036854775808 ≤ b ∧ b ≤ 9223372036854775807) (hn : -9223372036854775808 ≤ n ∧ n ≤ 9223372036854775807) :
    Calls Tryd.prog 4 #[encU u, .int .i64 k, .int .i64 b, .int .i64 n] w fun e w' => ∃ ao cap, e = .returned (.tuple #[.slice ao (plL u k b n).length cap, encU (plU u k b n), .int .i64 (plE u k b n)]) ∧ Told w' ao (plL u k b n) ∧ Below w.heap.size w w' := by
  have fin : ∀ E : Int, plE u k b n = E → E ≠ 0 → (Calls Tryd.prog 4 #[encU u, .int .i64 k, .int .i64 b, .int .i64 n] w fun e w' => e = .returned (.tuple #[.slice none 0 0, encU Un.zero, .int .i64 E]) ∧ Below w.heap.size w w') →
      Calls Tryd.prog 4 #[encU u, .int .i64 k, .int .i64 b, .int .i64 n] w fun e w' => ∃ ao cap, e = .returned (.tuple #[.slice ao (plL u k b n).length cap, encU (plU u k b n), .int .i64 (plE u k b n)]) ∧ Told w' ao (plL u k b n) ∧ Below w.heap.size w w' := by
    intro E hE h0 h
    have e1 : plL u k b n = [] := by unfold plL; rw [if_neg (by omega)]
    have e2 : plU u k b n = Un.zero := by unfold plU; rw [if_neg (by omega)]
    rw [e1, e2, hE]
    refine h.mono ?_
    rintro e w' ⟨rfl, hb'⟩
    exact ⟨none, 0, rfl, .inl rfl, hb'⟩
  by_cases h1 : okU u
  · by_cases h2 : szE k b = 0
    · by_cases h3 : 1 ≤ n ∧ n ≤ 64
      · by_cases h4 : roomB u (szN k b) n
        · have hF := (found_iff u k b n).2 ⟨h1, h2, h3, h4⟩
          unfold plL plU
          rw [if_pos hF, if_pos hF, hF, runL_len]
          exact place_yes u k b n w hT hf hb hn h1 h2 h3 h4
        · exact fin 81 (by unfold plE; rw [if_neg (not_not_intro h1), if_neg (by simpa using h2), if_neg (by simpa using h3), if_neg h4]) (by decide) (place_room u k b n w hT hf hb hn h1 h2 h3 h4)
      · exact fin 1 (by unfold plE; rw [if_neg (not_not_intro h1), if_neg (by simpa using h2), if_pos h3]) (by decide) (place_n u k b n w hT hf hb hn h1 h2 h3)
    · exact fin _ (by unfold plE; rw [if_neg (not_not_intro h1), if_pos h2]) h2 (place_sz u k b n w hT hf hb hn h1 h2)
  · exact fin 1 (by unfold plE; rw [if_pos h1]) (by decide) (place_chk u k b n w hT hf hb hn h1)
end Go.Proofs.YtkelblkegpmlpabDoor

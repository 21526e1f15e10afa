/-
  The statement UntypedFull: for every two numbers the law returns true and what was handed in reads as it did; the table of sizes lies as the program's text lays it, and the card ties that to the text.
-/
import Derived.Test.YtkelblkegpmlpaaDoorUCut
import Derived.Test.YtkelblkegpmlpaaDoorUTwo
namespace Go.Proofs.YtkelblkegpmlpaaDoor.untypedFull
open Go.RowKit Go.Deep
theorem two_add (a b : Int) (ha : 0 ≤ a) (hb : 0 ≤ b) : twoI (a + b) = twoI a * twoI b := by
  obtain ⟨x, rfl⟩ := Int.eq_ofNat_of_zero_le ha
  obtain ⟨y, rfl⟩ := Int.eq_ofNat_of_zero_le hb
  have e : (x : Int) + (y : Int) = ((x + y : Nat) : Int) := by omega
  rw [e, two_cast, two_cast, two_cast, Nat.pow_add]
  simp
theorem mul_between {c q S : Int} (hS : 0 < S) (h1 : c * S ≤ q * S) (h2 : q * S < (c + 1) * S) : c = q := by
  have a := Int.le_of_mul_le_mul_right h1 hS
  have b := Int.lt_of_mul_lt_mul_right h2 (Int.le_of_lt hS)
  omega
/-- As many as go in. -/
theorem full_is {n s c : Int} (hn : 4 ≤ n ∧ n ≤ 10) (hs : 2 ≤ s ∧ s ≤ 6) (c0 : 0 ≤ c) (h1 : c * twoI s ≤ twoI n) (h2 : twoI n < (c + 1) * twoI s) : c = if s ≤ n then twoI (n - s) else 0 := by
  have hS := (twoI_20 s (by omega) (by omega)).1
  split
  · have e := two_add (n - s) s (by omega) (by omega)
    rw [show n - s + s = n by omega] at e
    rw [e] at h1 h2
    exact mul_between (by omega) h1 h2
  · have e := two_add n (s - n) (by omega) (by omega)
    rw [show n + (s - n) = s by omega] at e
    have g : 2 ≤ twoI (s - n) := by
      have e2 := two_add 1 (s - n - 1) (by omega) (by omega)
      rw [show 1 + (s - n - 1) = s - n by omega] at e2
      have := (twoI_20 (s - n - 1) (by omega) (by omega)).1
      rw [e2, show twoI 1 = 2 by decide]
      omega
    have hN := (twoI_20 n (by omega) (by omega)).1
    have hlt : twoI n < twoI s := by
      rw [e]
      have := Int.mul_le_mul_of_nonneg_left g (show 0 ≤ twoI n by omega)
      omega
    have h3 : c * twoI s < 1 * twoI s := by omega
    have := Int.lt_of_mul_lt_mul_right h3 (by omega)
    omega
theorem fst_is {n s c : Int} (hs : 2 ≤ s ∧ s ≤ 6) (c0 : 0 ≤ c) : firstI ⟨0, n, c * twoI s⟩ s = c * twoI s := by
  have hS := (twoI_20 s (by omega) (by omega)).1
  have h0 : 0 ≤ c * twoI s := Int.mul_nonneg c0 (by omega)
  show upI (0 + c * twoI s) s = _
  rw [Int.zero_add]
  exact up_is h0 (by omega) (by simp) (by omega) (by omega)
theorem okc {n s c : Int} (hn : 4 ≤ n ∧ n ≤ 10) (h1 : c * twoI s ≤ twoI n) : okU ⟨0, n, c * twoI s⟩ :=
  ⟨(show 0 ≤ n ∧ n ≤ 20 by omega), by show (0 : Int) % _ = 0; simp, by show (0 : Int) ≤ _; decide, h1⟩
theorem in_yes {n k c : Int} (hn : 4 ≤ n ∧ n ≤ 10) (hz : szE k 0 = 0) (hs : 2 ≤ szN k 0 ∧ szN k 0 ≤ 6) (c0 : 0 ≤ c) (h : (c + 1) * twoI (szN k 0) ≤ twoI n) :
    plE ⟨0, n, c * twoI (szN k 0)⟩ k 0 1 = 0 ∧ plU ⟨0, n, c * twoI (szN k 0)⟩ k 0 1 = ⟨0, n, (c + 1) * twoI (szN k 0)⟩ := by
  have hS := (twoI_20 (szN k 0) (by omega) (by omega)).1
  have e := fst_is (n := n) hs c0
  have e2 : (c + 1) * twoI (szN k 0) = c * twoI (szN k 0) + twoI (szN k 0) := by rw [Int.add_mul, Int.one_mul]
  have hF : Found ⟨0, n, c * twoI (szN k 0)⟩ k 0 1 := ⟨okc hn (by omega), hz, by decide, by
    unfold roomB
    rw [e]
    show _ ≤ 0 + twoI n
    omega⟩
  have h0 := (found_iff _ _ _ _).2 hF
  refine ⟨h0, ?_⟩
  unfold plU
  rw [if_pos h0, e]
  simp only [Un.mk.injEq, true_and]
  omega
theorem in_no {n k c : Int} (hn : 4 ≤ n ∧ n ≤ 10) (hz : szE k 0 = 0) (hs : 2 ≤ szN k 0 ∧ szN k 0 ≤ 6) (c0 : 0 ≤ c) (h1 : c * twoI (szN k 0) ≤ twoI n) (h : twoI n < (c + 1) * twoI (szN k 0)) :
    plE ⟨0, n, c * twoI (szN k 0)⟩ k 0 1 = 81 := by
  have e := fst_is (n := n) hs c0
  have e2 : (c + 1) * twoI (szN k 0) = c * twoI (szN k 0) + twoI (szN k 0) := by rw [Int.add_mul, Int.one_mul]
  have hR : ¬ roomB ⟨0, n, c * twoI (szN k 0)⟩ (szN k 0) 1 := by
    unfold roomB
    rw [e]
    show ¬ _ ≤ 0 + twoI n
    omega
  unfold plE
  rw [if_neg (not_not_intro (okc hn h1)), if_neg (by simpa using hz), if_neg (by decide), if_neg hR]
theorem few {n s c : Int} (hn : 4 ≤ n ∧ n ≤ 10) (hs : 2 ≤ s ∧ s ≤ 6) (h1 : c * twoI s ≤ twoI n) : c ≤ 256 := by
  have h4 := twoI_2 s hs.1 (by omega)
  have h10 : twoI n ≤ 1024 := by
    have e := two_add n (10 - n) (by omega) (by omega)
    rw [show n + (10 - n) = 10 by omega, show twoI 10 = 1024 by decide] at e
    have g := (twoI_20 (10 - n) (by omega) (by omega)).1
    have hN := (twoI_20 n (by omega) (by omega)).1
    have := Int.mul_le_mul_of_nonneg_left g (show 0 ≤ twoI n by omega)
    omega
  apply Int.not_lt.1
  intro hc
  have := Int.mul_le_mul_of_nonneg_right (show 257 ≤ c by omega) (show 0 ≤ twoI s by omega)
  omega
theorem n_is (x : Int) : ∃ z : Int, Int.tmod (bits .and .i64 x 65535) 7 = z ∧ 0 ≤ z ∧ z ≤ 6 := by
  refine ⟨_, rfl, ?_⟩
  rw [i64_65535]
  have h0 : 0 ≤ x % 65536 := Int.emod_nonneg _ (by decide)
  rw [Int.tmod_eq_emod_of_nonneg h0]
  omega
set_option maxRecDepth 100000 in
set_option maxHeartbeats 4000000 in
theorem kind0 (x y : Int) (w : World) (hT : Tab w) (hj : bits .and .i64 y 3 = 0) :
    Calls Tryd.prog 8 #[.int .i64 x, .int .i64 y] w fun e w' => e = .returned (.bool true) ∧ Below w.heap.size w w' := by
  obtain ⟨z, hz, z0, z1⟩ := n_is x
  have hxy : 0 ≤ bits .and .i64 x 65535 ∧ bits .and .i64 x 65535 ≤ 65535 := by rw [i64_65535]; omega
  have h1 := (Kp.start hT).alloc (.cells #[.int .i64 4, .int .i64 5, .int .i64 3, .int .i64 6] 3)
  clear hT
  go_enter Tryd.func8, Tryd.ntmps8
  go_wp2_with fail
  generalize w.alloc (Obj.cells #[.int .i64 4, .int .i64 5, .int .i64 3, .int .i64 6] 3) = W1 at *
  generalize hr0 : w.heap.size = r at *
  have HR : Hid (w.heap.size = r) := hr0
  clear hr0
  have hn : 4 ≤ 4 + z ∧ 4 + z ≤ 10 := by omega
  generalize 4 + z = n at *
  clear hz z0 z1 hxy hj
  have k1 : Hid (Kp w r W1 _ []) := h1
  clear h1
  refine (size_kp 4 0 k1.out (by decide)).mono ?_
  rintro e w2 ⟨rfl, h2⟩
  rw [show szN 4 0 = 2 by decide, show szE 4 0 = 0 by decide]
  have k2 : Hid (Kp w r w2 _ []) := h2
  clear h2 k1
  have HN : Hid (4 ≤ n ∧ n ≤ 10) := hn
  have hz : twoI (szN 4 0) = 4 := by decide
  have LY : Hid (∀ c : Nat, ((c : Int) + 1) * 4 ≤ twoI n → plE ⟨0, n, (c : Int) * 4⟩ 4 0 1 = 0 ∧ plU ⟨0, n, (c : Int) * 4⟩ 4 0 1 = ⟨0, n, ((c : Int) + 1) * 4⟩) := fun c h => by
    have := in_yes (k := 4) (c := (c : Int)) HN.out (by decide) (by decide) (by omega) (by rw [hz]; exact h)
    rwa [hz] at this
  have LN : Hid (∀ c : Nat, (c : Int) * 4 ≤ twoI n → twoI n < ((c : Int) + 1) * 4 → plE ⟨0, n, (c : Int) * 4⟩ 4 0 1 = 81) := fun c h1 h => by
    have := in_no (k := 4) (c := (c : Int)) HN.out (by decide) (by decide) (by omega) (by rw [hz]; exact h1) (by rw [hz]; exact h)
    rwa [hz] at this
  have LF : Hid (∀ c : Nat, (c : Int) * 4 ≤ twoI n → (c : Int) ≤ 256) := fun c h => few (s := 2) HN.out (by decide) (by rw [show twoI 2 = 4 by decide]; exact h)
  have LE : Hid (∀ c : Nat, (c : Int) * 4 ≤ twoI n → twoI n < ((c : Int) + 1) * 4 → (c : Int) = if 2 ≤ n then twoI (n - 2) else 0) := fun c h1 h2 => full_is (s := 2) HN.out (by decide) (by omega) (by rw [show twoI 2 = 4 by decide]; exact h1) (by rw [show twoI 2 = 4 by decide]; exact h2)
  have LP : Hid (1 ≤ twoI n ∧ twoI n ≤ 1048576) := twoI_20 n (by omega) (by omega)
  clear hz
  go_wp2_with fail
  have hat := AtU.new w2 ⟨0, n, 0⟩
  have hb0 := below_new w2 (objU ⟨0, n, 0⟩)
  simp only [objU] at hb0 hat
  unfold AtU objU at hat
  generalize w2.alloc (Obj.cells #[.int .u64 0, .int .i64 n, .int .u64 0] 24) = W3 at *
  have HA : Hid (AtU W3 w2.heap.size ⟨0, n, 0⟩) := hat
  have HB : Hid (Below w2.heap.size w2 W3) := hb0
  clear hat hb0
  generalize hq : w2.heap.size = q at *
  have HQ : Hid (w2.heap.size = q) := hq
  clear hq hn
  go_loopw [10, 11] (fun s10 s11 wr => ∃ c : Nat, s10 = .int .i64 c ∧ s11 = .int .i64 c ∧ (c : Int) * 4 ≤ twoI n ∧ AtU wr q ⟨0, n, (c : Int) * 4⟩ ∧ Below q w2 wr) (fun _ s11 _ => 300 - (intOf s11).toNat)
  case atStart => exact ⟨0, rfl, rfl, by have := LP.out; omega, HA.out, HB.out⟩
  case round =>
    clear HA HB
    obtain ⟨c, rfl, rfl, hc, ha, hb⟩ := hrel
    have hc2 := LF.out c hc
    have hpp := LP.out
    have hnn := HN.out
    have UF : Hid (Un.Fits ⟨0, n, (c : Int) * 4⟩) := ⟨(show (0 : Int) ≤ 0 ∧ (0 : Int) ≤ 18446744073709551615 by decide), (show -9223372036854775808 ≤ n ∧ n ≤ 9223372036854775807 by omega), (show 0 ≤ (c : Int) * 4 ∧ (c : Int) * 4 ≤ 18446744073709551615 by omega)⟩
    have HA : Hid (AtU wr q ⟨0, n, (c : Int) * 4⟩) := ha
    have HB : Hid (Below q w2 wr) := hb
    have KR : Hid (Kp w r wr _ []) := k2.out.below (by rw [HQ.out]; exact hb)
    obtain ⟨d0, d1, d2⟩ := ha.cells
    simp only at d0 d1 d2
    clear ha hb
    by_cases hin : ((c : Int) + 1) * 4 ≤ twoI n
    · obtain ⟨e1, e2⟩ := LY.out c hin
      have E1 : Hid (plE ⟨0, n, (c : Int) * 4⟩ 4 0 1 = 0) := e1
      have E2 : Hid (plU ⟨0, n, (c : Int) * 4⟩ 4 0 1 = ⟨0, n, ((c : Int) + 1) * 4⟩) := e2
      have HI : Hid (((c : Int) + 1) * 4 ≤ twoI n) := hin
      have HC : Hid ((c : Int) ≤ 256) := hc2
      clear e1 e2 hin hc hpp hnn
      go_wp2_with fail
      refine (place_aggis ⟨0, n, (c : Int) * 4⟩ ⟨0, n, ((c : Int) + 1) * 4⟩ 4 0 1 0 _ wr KR.out.tab UF.out (by decide) (by decide) rfl E2.out E1.out).mono ?_
      rintro e w4 ⟨ao4, cap4, rfl, -, -, b4⟩
      have A4 : Hid (AtU (w4.alloc (objU ⟨0, n, ((c : Int) + 1) * 4⟩)) q ⟨0, n, (c : Int) * 4⟩) := (HA.out.below b4).below (below_new _ _)
      have B4 : Hid (Below q w2 (w4.alloc (objU ⟨0, n, ((c : Int) + 1) * 4⟩))) := (HB.out.trans (b4.mono (by have := HB.out.size; rw [HQ.out] at this; exact this))).trans ((below_new w4 _).mono (by have := HB.out.size; have := b4.size; rw [HQ.out] at *; omega))
      clear b4 d0 d1 d2
      obtain ⟨d0, d1, d2⟩ := A4.out.cells
      have df := A4.out.frozen
      simp only [objU] at d0 d1 d2 df A4 B4
      go_wp2
      go_roundw
      case rel => exact ⟨c + 1, by go_num, by go_num, by have := HI.out; omega, by have := A4.out.set3 0 n (((c : Int) + 1) * 4); simpa using this, three_sets B4.out (Nat.le_refl _) _ _ _⟩
      case measure => simp [intOf]; have := HC.out; omega
    · have E1 : Hid (plE ⟨0, n, (c : Int) * 4⟩ 4 0 1 = 81) := LN.out c hc (by omega)
      have HW : Hid ((c : Int) = if 2 ≤ n then twoI (n - 2) else 0) := LE.out c hc (by omega)
      have LT : Hid (n ≤ 10) := hnn.2
      clear hin hc hpp
      obtain ⟨v, hv⟩ : ∃ v, plU ⟨0, n, (c : Int) * 4⟩ 4 0 1 = v := ⟨_, rfl⟩
      have E2 : Hid (plU ⟨0, n, (c : Int) * 4⟩ 4 0 1 = v) := hv
      clear hv
      go_wp2_with fail
      refine (place_aggis ⟨0, n, (c : Int) * 4⟩ v 4 0 1 81 _ wr KR.out.tab UF.out (by decide) (by decide) rfl E2.out E1.out).mono ?_
      rintro e w4 ⟨ao4, cap4, rfl, -, -, b4⟩
      have k4 : Hid (Kp w r (w4.alloc (objU v)) _ _) := (KR.out.below b4).alloc (objU v)
      simp only [objU] at k4
      clear b4 d0 d1 d2
      by_cases hns : 2 ≤ n
      · have hw := HW.out
        rw [if_pos hns] at hw
        have HH : Hid ((c : Int) = twoI (n - 2)) := hw
        clear hw
        go_wp2_with fail
        generalize w4.alloc _ = W5 at *
        refine (two_any (n - 2) W5 (by omega) (by omega)).mono ?_
        rintro e w6 ⟨rfl, rfl⟩
        rw [← HH.out]
        go_wp2_with fail
        refine (fixed_kp k4.out).mono ?_
        rintro e w7 ⟨rfl, h7⟩
        have B : Hid (Below r w w7) := h7.bel
        clear h7
        go_wp2_with fail
        go_ret
        refine ⟨rfl, ?_⟩
        rw [HR.out]
        exact B.out
      · exact absurd (show 2 ≤ n by omega) hns
set_option maxRecDepth 100000 in
set_option maxHeartbeats 4000000 in
theorem kind1 (x y : Int) (w : World) (hT : Tab w) (hj : bits .and .i64 y 3 = 1) :
    Calls Tryd.prog 8 #[.int .i64 x, .int .i64 y] w fun e w' => e = .returned (.bool true) ∧ Below w.heap.size w w' := by
  obtain ⟨z, hz, z0, z1⟩ := n_is x
  have hxy : 0 ≤ bits .and .i64 x 65535 ∧ bits .and .i64 x 65535 ≤ 65535 := by rw [i64_65535]; omega
  have h1 := (Kp.start hT).alloc (.cells #[.int .i64 4, .int .i64 5, .int .i64 3, .int .i64 6] 3)
  clear hT
  go_enter Tryd.func8, Tryd.ntmps8
  go_wp2_with fail
  generalize w.alloc (Obj.cells #[.int .i64 4, .int .i64 5, .int .i64 3, .int .i64 6] 3) = W1 at *
  generalize hr0 : w.heap.size = r at *
  have HR : Hid (w.heap.size = r) := hr0
  clear hr0
  have hn : 4 ≤ 4 + z ∧ 4 + z ≤ 10 := by omega
  generalize 4 + z = n at *
  clear hz z0 z1 hxy hj
  have k1 : Hid (Kp w r W1 _ []) := h1
  clear h1
  refine (size_kp 5 0 k1.out (by decide)).mono ?_
  rintro e w2 ⟨rfl, h2⟩
  rw [show szN 5 0 = 2 by decide, show szE 5 0 = 0 by decide]
  have k2 : Hid (Kp w r w2 _ []) := h2
  clear h2 k1
  have HN : Hid (4 ≤ n ∧ n ≤ 10) := hn
  have hz : twoI (szN 5 0) = 4 := by decide
  have LY : Hid (∀ c : Nat, ((c : Int) + 1) * 4 ≤ twoI n → plE ⟨0, n, (c : Int) * 4⟩ 5 0 1 = 0 ∧ plU ⟨0, n, (c : Int) * 4⟩ 5 0 1 = ⟨0, n, ((c : Int) + 1) * 4⟩) := fun c h => by
    have := in_yes (k := 5) (c := (c : Int)) HN.out (by decide) (by decide) (by omega) (by rw [hz]; exact h)
    rwa [hz] at this
  have LN : Hid (∀ c : Nat, (c : Int) * 4 ≤ twoI n → twoI n < ((c : Int) + 1) * 4 → plE ⟨0, n, (c : Int) * 4⟩ 5 0 1 = 81) := fun c h1 h => by
    have := in_no (k := 5) (c := (c : Int)) HN.out (by decide) (by decide) (by omega) (by rw [hz]; exact h1) (by rw [hz]; exact h)
    rwa [hz] at this
  have LF : Hid (∀ c : Nat, (c : Int) * 4 ≤ twoI n → (c : Int) ≤ 256) := fun c h => few (s := 2) HN.out (by decide) (by rw [show twoI 2 = 4 by decide]; exact h)
  have LE : Hid (∀ c : Nat, (c : Int) * 4 ≤ twoI n → twoI n < ((c : Int) + 1) * 4 → (c : Int) = if 2 ≤ n then twoI (n - 2) else 0) := fun c h1 h2 => full_is (s := 2) HN.out (by decide) (by omega) (by rw [show twoI 2 = 4 by decide]; exact h1) (by rw [show twoI 2 = 4 by decide]; exact h2)
  have LP : Hid (1 ≤ twoI n ∧ twoI n ≤ 1048576) := twoI_20 n (by omega) (by omega)
  clear hz
  go_wp2_with fail
  have hat := AtU.new w2 ⟨0, n, 0⟩
  have hb0 := below_new w2 (objU ⟨0, n, 0⟩)
  simp only [objU] at hb0 hat
  unfold AtU objU at hat
  generalize w2.alloc (Obj.cells #[.int .u64 0, .int .i64 n, .int .u64 0] 24) = W3 at *
  have HA : Hid (AtU W3 w2.heap.size ⟨0, n, 0⟩) := hat
  have HB : Hid (Below w2.heap.size w2 W3) := hb0
  clear hat hb0
  generalize hq : w2.heap.size = q at *
  have HQ : Hid (w2.heap.size = q) := hq
  clear hq hn
  go_loopw [10, 11] (fun s10 s11 wr => ∃ c : Nat, s10 = .int .i64 c ∧ s11 = .int .i64 c ∧ (c : Int) * 4 ≤ twoI n ∧ AtU wr q ⟨0, n, (c : Int) * 4⟩ ∧ Below q w2 wr) (fun _ s11 _ => 300 - (intOf s11).toNat)
  case atStart => exact ⟨0, rfl, rfl, by have := LP.out; omega, HA.out, HB.out⟩
  case round =>
    clear HA HB
    obtain ⟨c, rfl, rfl, hc, ha, hb⟩ := hrel
    have hc2 := LF.out c hc
    have hpp := LP.out
    have hnn := HN.out
    have UF : Hid (Un.Fits ⟨0, n, (c : Int) * 4⟩) := ⟨(show (0 : Int) ≤ 0 ∧ (0 : Int) ≤ 18446744073709551615 by decide), (show -9223372036854775808 ≤ n ∧ n ≤ 9223372036854775807 by omega), (show 0 ≤ (c : Int) * 4 ∧ (c : Int) * 4 ≤ 18446744073709551615 by omega)⟩
    have HA : Hid (AtU wr q ⟨0, n, (c : Int) * 4⟩) := ha
    have HB : Hid (Below q w2 wr) := hb
    have KR : Hid (Kp w r wr _ []) := k2.out.below (by rw [HQ.out]; exact hb)
    obtain ⟨d0, d1, d2⟩ := ha.cells
    simp only at d0 d1 d2
    clear ha hb
    by_cases hin : ((c : Int) + 1) * 4 ≤ twoI n
    · obtain ⟨e1, e2⟩ := LY.out c hin
      have E1 : Hid (plE ⟨0, n, (c : Int) * 4⟩ 5 0 1 = 0) := e1
      have E2 : Hid (plU ⟨0, n, (c : Int) * 4⟩ 5 0 1 = ⟨0, n, ((c : Int) + 1) * 4⟩) := e2
      have HI : Hid (((c : Int) + 1) * 4 ≤ twoI n) := hin
      have HC : Hid ((c : Int) ≤ 256) := hc2
      clear e1 e2 hin hc hpp hnn
      go_wp2_with fail
      refine (place_aggis ⟨0, n, (c : Int) * 4⟩ ⟨0, n, ((c : Int) + 1) * 4⟩ 5 0 1 0 _ wr KR.out.tab UF.out (by decide) (by decide) rfl E2.out E1.out).mono ?_
      rintro e w4 ⟨ao4, cap4, rfl, -, -, b4⟩
      have A4 : Hid (AtU (w4.alloc (objU ⟨0, n, ((c : Int) + 1) * 4⟩)) q ⟨0, n, (c : Int) * 4⟩) := (HA.out.below b4).below (below_new _ _)
      have B4 : Hid (Below q w2 (w4.alloc (objU ⟨0, n, ((c : Int) + 1) * 4⟩))) := (HB.out.trans (b4.mono (by have := HB.out.size; rw [HQ.out] at this; exact this))).trans ((below_new w4 _).mono (by have := HB.out.size; have := b4.size; rw [HQ.out] at *; omega))
      clear b4 d0 d1 d2
      obtain ⟨d0, d1, d2⟩ := A4.out.cells
      have df := A4.out.frozen
      simp only [objU] at d0 d1 d2 df A4 B4
      go_wp2
      go_roundw
      case rel => exact ⟨c + 1, by go_num, by go_num, by have := HI.out; omega, by have := A4.out.set3 0 n (((c : Int) + 1) * 4); simpa using this, three_sets B4.out (Nat.le_refl _) _ _ _⟩
      case measure => simp [intOf]; have := HC.out; omega
    · have E1 : Hid (plE ⟨0, n, (c : Int) * 4⟩ 5 0 1 = 81) := LN.out c hc (by omega)
      have HW : Hid ((c : Int) = if 2 ≤ n then twoI (n - 2) else 0) := LE.out c hc (by omega)
      have LT : Hid (n ≤ 10) := hnn.2
      clear hin hc hpp
      obtain ⟨v, hv⟩ : ∃ v, plU ⟨0, n, (c : Int) * 4⟩ 5 0 1 = v := ⟨_, rfl⟩
      have E2 : Hid (plU ⟨0, n, (c : Int) * 4⟩ 5 0 1 = v) := hv
      clear hv
      go_wp2_with fail
      refine (place_aggis ⟨0, n, (c : Int) * 4⟩ v 5 0 1 81 _ wr KR.out.tab UF.out (by decide) (by decide) rfl E2.out E1.out).mono ?_
      rintro e w4 ⟨ao4, cap4, rfl, -, -, b4⟩
      have k4 : Hid (Kp w r (w4.alloc (objU v)) _ _) := (KR.out.below b4).alloc (objU v)
      simp only [objU] at k4
      clear b4 d0 d1 d2
      by_cases hns : 2 ≤ n
      · have hw := HW.out
        rw [if_pos hns] at hw
        have HH : Hid ((c : Int) = twoI (n - 2)) := hw
        clear hw
        go_wp2_with fail
        generalize w4.alloc _ = W5 at *
        refine (two_any (n - 2) W5 (by omega) (by omega)).mono ?_
        rintro e w6 ⟨rfl, rfl⟩
        rw [← HH.out]
        go_wp2_with fail
        refine (fixed_kp k4.out).mono ?_
        rintro e w7 ⟨rfl, h7⟩
        have B : Hid (Below r w w7) := h7.bel
        clear h7
        go_wp2_with fail
        go_ret
        refine ⟨rfl, ?_⟩
        rw [HR.out]
        exact B.out
      · exact absurd (show 2 ≤ n by omega) hns
set_option maxRecDepth 100000 in
set_option maxHeartbeats 4000000 in
theorem kind2 (x y : Int) (w : World) (hT : Tab w) (hj : bits .and .i64 y 3 = 2) :
    Calls Tryd.prog 8 #[.int .i64 x, .int .i64 y] w fun e w' => e = .returned (.bool true) ∧ Below w.heap.size w w' := by
  obtain ⟨z, hz, z0, z1⟩ := n_is x
  have hxy : 0 ≤ bits .and .i64 x 65535 ∧ bits .and .i64 x 65535 ≤ 65535 := by rw [i64_65535]; omega
  have h1 := (Kp.start hT).alloc (.cells #[.int .i64 4, .int .i64 5, .int .i64 3, .int .i64 6] 3)
  clear hT
  go_enter Tryd.func8, Tryd.ntmps8
  go_wp2_with fail
  generalize w.alloc (Obj.cells #[.int .i64 4, .int .i64 5, .int .i64 3, .int .i64 6] 3) = W1 at *
  generalize hr0 : w.heap.size = r at *
  have HR : Hid (w.heap.size = r) := hr0
  clear hr0
  have hn : 4 ≤ 4 + z ∧ 4 + z ≤ 10 := by omega
  generalize 4 + z = n at *
  clear hz z0 z1 hxy hj
  have k1 : Hid (Kp w r W1 _ []) := h1
  clear h1
  refine (size_kp 3 0 k1.out (by decide)).mono ?_
  rintro e w2 ⟨rfl, h2⟩
  rw [show szN 3 0 = 5 by decide, show szE 3 0 = 0 by decide]
  have k2 : Hid (Kp w r w2 _ []) := h2
  clear h2 k1
  have HN : Hid (4 ≤ n ∧ n ≤ 10) := hn
  have hz : twoI (szN 3 0) = 32 := by decide
  have LY : Hid (∀ c : Nat, ((c : Int) + 1) * 32 ≤ twoI n → plE ⟨0, n, (c : Int) * 32⟩ 3 0 1 = 0 ∧ plU ⟨0, n, (c : Int) * 32⟩ 3 0 1 = ⟨0, n, ((c : Int) + 1) * 32⟩) := fun c h => by
    have := in_yes (k := 3) (c := (c : Int)) HN.out (by decide) (by decide) (by omega) (by rw [hz]; exact h)
    rwa [hz] at this
  have LN : Hid (∀ c : Nat, (c : Int) * 32 ≤ twoI n → twoI n < ((c : Int) + 1) * 32 → plE ⟨0, n, (c : Int) * 32⟩ 3 0 1 = 81) := fun c h1 h => by
    have := in_no (k := 3) (c := (c : Int)) HN.out (by decide) (by decide) (by omega) (by rw [hz]; exact h1) (by rw [hz]; exact h)
    rwa [hz] at this
  have LF : Hid (∀ c : Nat, (c : Int) * 32 ≤ twoI n → (c : Int) ≤ 256) := fun c h => few (s := 5) HN.out (by decide) (by rw [show twoI 5 = 32 by decide]; exact h)
  have LE : Hid (∀ c : Nat, (c : Int) * 32 ≤ twoI n → twoI n < ((c : Int) + 1) * 32 → (c : Int) = if 5 ≤ n then twoI (n - 5) else 0) := fun c h1 h2 => full_is (s := 5) HN.out (by decide) (by omega) (by rw [show twoI 5 = 32 by decide]; exact h1) (by rw [show twoI 5 = 32 by decide]; exact h2)
  have LP : Hid (1 ≤ twoI n ∧ twoI n ≤ 1048576) := twoI_20 n (by omega) (by omega)
  clear hz
  go_wp2_with fail
  have hat := AtU.new w2 ⟨0, n, 0⟩
  have hb0 := below_new w2 (objU ⟨0, n, 0⟩)
  simp only [objU] at hb0 hat
  unfold AtU objU at hat
  generalize w2.alloc (Obj.cells #[.int .u64 0, .int .i64 n, .int .u64 0] 24) = W3 at *
  have HA : Hid (AtU W3 w2.heap.size ⟨0, n, 0⟩) := hat
  have HB : Hid (Below w2.heap.size w2 W3) := hb0
  clear hat hb0
  generalize hq : w2.heap.size = q at *
  have HQ : Hid (w2.heap.size = q) := hq
  clear hq hn
  go_loopw [10, 11] (fun s10 s11 wr => ∃ c : Nat, s10 = .int .i64 c ∧ s11 = .int .i64 c ∧ (c : Int) * 32 ≤ twoI n ∧ AtU wr q ⟨0, n, (c : Int) * 32⟩ ∧ Below q w2 wr) (fun _ s11 _ => 300 - (intOf s11).toNat)
  case atStart => exact ⟨0, rfl, rfl, by have := LP.out; omega, HA.out, HB.out⟩
  case round =>
    clear HA HB
    obtain ⟨c, rfl, rfl, hc, ha, hb⟩ := hrel
    have hc2 := LF.out c hc
    have hpp := LP.out
    have hnn := HN.out
    have UF : Hid (Un.Fits ⟨0, n, (c : Int) * 32⟩) := ⟨(show (0 : Int) ≤ 0 ∧ (0 : Int) ≤ 18446744073709551615 by decide), (show -9223372036854775808 ≤ n ∧ n ≤ 9223372036854775807 by omega), (show 0 ≤ (c : Int) * 32 ∧ (c : Int) * 32 ≤ 18446744073709551615 by omega)⟩
    have HA : Hid (AtU wr q ⟨0, n, (c : Int) * 32⟩) := ha
    have HB : Hid (Below q w2 wr) := hb
    have KR : Hid (Kp w r wr _ []) := k2.out.below (by rw [HQ.out]; exact hb)
    obtain ⟨d0, d1, d2⟩ := ha.cells
    simp only at d0 d1 d2
    clear ha hb
    by_cases hin : ((c : Int) + 1) * 32 ≤ twoI n
    · obtain ⟨e1, e2⟩ := LY.out c hin
      have E1 : Hid (plE ⟨0, n, (c : Int) * 32⟩ 3 0 1 = 0) := e1
      have E2 : Hid (plU ⟨0, n, (c : Int) * 32⟩ 3 0 1 = ⟨0, n, ((c : Int) + 1) * 32⟩) := e2
      have HI : Hid (((c : Int) + 1) * 32 ≤ twoI n) := hin
      have HC : Hid ((c : Int) ≤ 256) := hc2
      clear e1 e2 hin hc hpp hnn
      go_wp2_with fail
      refine (place_aggis ⟨0, n, (c : Int) * 32⟩ ⟨0, n, ((c : Int) + 1) * 32⟩ 3 0 1 0 _ wr KR.out.tab UF.out (by decide) (by decide) rfl E2.out E1.out).mono ?_
      rintro e w4 ⟨ao4, cap4, rfl, -, -, b4⟩
      have A4 : Hid (AtU (w4.alloc (objU ⟨0, n, ((c : Int) + 1) * 32⟩)) q ⟨0, n, (c : Int) * 32⟩) := (HA.out.below b4).below (below_new _ _)
      have B4 : Hid (Below q w2 (w4.alloc (objU ⟨0, n, ((c : Int) + 1) * 32⟩))) := (HB.out.trans (b4.mono (by have := HB.out.size; rw [HQ.out] at this; exact this))).trans ((below_new w4 _).mono (by have := HB.out.size; have := b4.size; rw [HQ.out] at *; omega))
      clear b4 d0 d1 d2
      obtain ⟨d0, d1, d2⟩ := A4.out.cells
      have df := A4.out.frozen
      simp only [objU] at d0 d1 d2 df A4 B4
      go_wp2
      go_roundw
      case rel => exact ⟨c + 1, by go_num, by go_num, by have := HI.out; omega, by have := A4.out.set3 0 n (((c : Int) + 1) * 32); simpa using this, three_sets B4.out (Nat.le_refl _) _ _ _⟩
      case measure => simp [intOf]; have := HC.out; omega
    · have E1 : Hid (plE ⟨0, n, (c : Int) * 32⟩ 3 0 1 = 81) := LN.out c hc (by omega)
      have HW : Hid ((c : Int) = if 5 ≤ n then twoI (n - 5) else 0) := LE.out c hc (by omega)
      have LT : Hid (n ≤ 10) := hnn.2
      clear hin hc hpp
      obtain ⟨v, hv⟩ : ∃ v, plU ⟨0, n, (c : Int) * 32⟩ 3 0 1 = v := ⟨_, rfl⟩
      have E2 : Hid (plU ⟨0, n, (c : Int) * 32⟩ 3 0 1 = v) := hv
      clear hv
      go_wp2_with fail
      refine (place_aggis ⟨0, n, (c : Int) * 32⟩ v 3 0 1 81 _ wr KR.out.tab UF.out (by decide) (by decide) rfl E2.out E1.out).mono ?_
      rintro e w4 ⟨ao4, cap4, rfl, -, -, b4⟩
      have k4 : Hid (Kp w r (w4.alloc (objU v)) _ _) := (KR.out.below b4).alloc (objU v)
      simp only [objU] at k4
      clear b4 d0 d1 d2
      by_cases hns : 5 ≤ n
      · have hw := HW.out
        rw [if_pos hns] at hw
        have HH : Hid ((c : Int) = twoI (n - 5)) := hw
        clear hw
        go_wp2_with fail
        generalize w4.alloc _ = W5 at *
        refine (two_any (n - 5) W5 (by omega) (by omega)).mono ?_
        rintro e w6 ⟨rfl, rfl⟩
        rw [← HH.out]
        go_wp2_with fail
        refine (fixed_kp k4.out).mono ?_
        rintro e w7 ⟨rfl, h7⟩
        have B : Hid (Below r w w7) := h7.bel
        clear h7
        go_wp2_with fail
        go_ret
        refine ⟨rfl, ?_⟩
        rw [HR.out]
        exact B.out
      · have hw := HW.out
        rw [if_neg hns] at hw
        obtain rfl : c = 0 := by omega
        go_wp2_with fail
        generalize w4.alloc _ = W5 at *
        refine (fixed_kp k4.out).mono ?_
        rintro e w7 ⟨rfl, h7⟩
        have B : Hid (Below r w w7) := h7.bel
        clear h7
        go_wp2_with fail
        go_ret
        refine ⟨rfl, ?_⟩
        rw [HR.out]
        exact B.out
set_option maxRecDepth 100000 in
set_option maxHeartbeats 4000000 in
theorem kind3 (x y : Int) (w : World) (hT : Tab w) (hj : bits .and .i64 y 3 = 3) :
    Calls Tryd.prog 8 #[.int .i64 x, .int .i64 y] w fun e w' => e = .returned (.bool true) ∧ Below w.heap.size w w' := by
  obtain ⟨z, hz, z0, z1⟩ := n_is x
  have hxy : 0 ≤ bits .and .i64 x 65535 ∧ bits .and .i64 x 65535 ≤ 65535 := by rw [i64_65535]; omega
  have h1 := (Kp.start hT).alloc (.cells #[.int .i64 4, .int .i64 5, .int .i64 3, .int .i64 6] 3)
  clear hT
  go_enter Tryd.func8, Tryd.ntmps8
  go_wp2_with fail
  generalize w.alloc (Obj.cells #[.int .i64 4, .int .i64 5, .int .i64 3, .int .i64 6] 3) = W1 at *
  generalize hr0 : w.heap.size = r at *
  have HR : Hid (w.heap.size = r) := hr0
  clear hr0
  have hn : 4 ≤ 4 + z ∧ 4 + z ≤ 10 := by omega
  generalize 4 + z = n at *
  clear hz z0 z1 hxy hj
  have k1 : Hid (Kp w r W1 _ []) := h1
  clear h1
  refine (size_kp 6 0 k1.out (by decide)).mono ?_
  rintro e w2 ⟨rfl, h2⟩
  rw [show szN 6 0 = 6 by decide, show szE 6 0 = 0 by decide]
  have k2 : Hid (Kp w r w2 _ []) := h2
  clear h2 k1
  have HN : Hid (4 ≤ n ∧ n ≤ 10) := hn
  have hz : twoI (szN 6 0) = 64 := by decide
  have LY : Hid (∀ c : Nat, ((c : Int) + 1) * 64 ≤ twoI n → plE ⟨0, n, (c : Int) * 64⟩ 6 0 1 = 0 ∧ plU ⟨0, n, (c : Int) * 64⟩ 6 0 1 = ⟨0, n, ((c : Int) + 1) * 64⟩) := fun c h => by
    have := in_yes (k := 6) (c := (c : Int)) HN.out (by decide) (by decide) (by omega) (by rw [hz]; exact h)
    rwa [hz] at this
  have LN : Hid (∀ c : Nat, (c : Int) * 64 ≤ twoI n → twoI n < ((c : Int) + 1) * 64 → plE ⟨0, n, (c : Int) * 64⟩ 6 0 1 = 81) := fun c h1 h => by
    have := in_no (k := 6) (c := (c : Int)) HN.out (by decide) (by decide) (by omega) (by rw [hz]; exact h1) (by rw [hz]; exact h)
    rwa [hz] at this
  have LF : Hid (∀ c : Nat, (c : Int) * 64 ≤ twoI n → (c : Int) ≤ 256) := fun c h => few (s := 6) HN.out (by decide) (by rw [show twoI 6 = 64 by decide]; exact h)
  have LE : Hid (∀ c : Nat, (c : Int) * 64 ≤ twoI n → twoI n < ((c : Int) + 1) * 64 → (c : Int) = if 6 ≤ n then twoI (n - 6) else 0) := fun c h1 h2 => full_is (s := 6) HN.out (by decide) (by omega) (by rw [show twoI 6 = 64 by decide]; exact h1) (by rw [show twoI 6 = 64 by decide]; exact h2)
  have LP : Hid (1 ≤ twoI n ∧ twoI n ≤ 1048576) := twoI_20 n (by omega) (by omega)
  clear hz
  go_wp2_with fail
  have hat := AtU.new w2 ⟨0, n, 0⟩
  have hb0 := below_new w2 (objU ⟨0, n, 0⟩)
  simp only [objU] at hb0 hat
  unfold AtU objU at hat
  generalize w2.alloc (Obj.cells #[.int .u64 0, .int .i64 n, .int .u64 0] 24) = W3 at *
  have HA : Hid (AtU W3 w2.heap.size ⟨0, n, 0⟩) := hat
  have HB : Hid (Below w2.heap.size w2 W3) := hb0
  clear hat hb0
  generalize hq : w2.heap.size = q at *
  have HQ : Hid (w2.heap.size = q) := hq
  clear hq hn
  go_loopw [10, 11] (fun s10 s11 wr => ∃ c : Nat, s10 = .int .i64 c ∧ s11 = .int .i64 c ∧ (c : Int) * 64 ≤ twoI n ∧ AtU wr q ⟨0, n, (c : Int) * 64⟩ ∧ Below q w2 wr) (fun _ s11 _ => 300 - (intOf s11).toNat)
  case atStart => exact ⟨0, rfl, rfl, by have := LP.out; omega, HA.out, HB.out⟩
  case round =>
    clear HA HB
    obtain ⟨c, rfl, rfl, hc, ha, hb⟩ := hrel
    have hc2 := LF.out c hc
    have hpp := LP.out
    have hnn := HN.out
    have UF : Hid (Un.Fits ⟨0, n, (c : Int) * 64⟩) := ⟨(show (0 : Int) ≤ 0 ∧ (0 : Int) ≤ 18446744073709551615 by decide), (show -9223372036854775808 ≤ n ∧ n ≤ 9223372036854775807 by omega), (show 0 ≤ (c : Int) * 64 ∧ (c : Int) * 64 ≤ 18446744073709551615 by omega)⟩
    have HA : Hid (AtU wr q ⟨0, n, (c : Int) * 64⟩) := ha
    have HB : Hid (Below q w2 wr) := hb
    have KR : Hid (Kp w r wr _ []) := k2.out.below (by rw [HQ.out]; exact hb)
    obtain ⟨d0, d1, d2⟩ := ha.cells
    simp only at d0 d1 d2
    clear ha hb
    by_cases hin : ((c : Int) + 1) * 64 ≤ twoI n
    · obtain ⟨e1, e2⟩ := LY.out c hin
      have E1 : Hid (plE ⟨0, n, (c : Int) * 64⟩ 6 0 1 = 0) := e1
      have E2 : Hid (plU ⟨0, n, (c : Int) * 64⟩ 6 0 1 = ⟨0, n, ((c : Int) + 1) * 64⟩) := e2
      have HI : Hid (((c : Int) + 1) * 64 ≤ twoI n) := hin
      have HC : Hid ((c : Int) ≤ 256) := hc2
      clear e1 e2 hin hc hpp hnn
      go_wp2_with fail
      refine (place_aggis ⟨0, n, (c : Int) * 64⟩ ⟨0, n, ((c : Int) + 1) * 64⟩ 6 0 1 0 _ wr KR.out.tab UF.out (by decide) (by decide) rfl E2.out E1.out).mono ?_
      rintro e w4 ⟨ao4, cap4, rfl, -, -, b4⟩
      have A4 : Hid (AtU (w4.alloc (objU ⟨0, n, ((c : Int) + 1) * 64⟩)) q ⟨0, n, (c : Int) * 64⟩) := (HA.out.below b4).below (below_new _ _)
      have B4 : Hid (Below q w2 (w4.alloc (objU ⟨0, n, ((c : Int) + 1) * 64⟩))) := (HB.out.trans (b4.mono (by have := HB.out.size; rw [HQ.out] at this; exact this))).trans ((below_new w4 _).mono (by have := HB.out.size; have := b4.size; rw [HQ.out] at *; omega))
      clear b4 d0 d1 d2
      obtain ⟨d0, d1, d2⟩ := A4.out.cells
      have df := A4.out.frozen
      simp only [objU] at d0 d1 d2 df A4 B4
      go_wp2
      go_roundw
      case rel => exact ⟨c + 1, by go_num, by go_num, by have := HI.out; omega, by have := A4.out.set3 0 n (((c : Int) + 1) * 64); simpa using this, three_sets B4.out (Nat.le_refl _) _ _ _⟩
      case measure => simp [intOf]; have := HC.out; omega
    · have E1 : Hid (plE ⟨0, n, (c : Int) * 64⟩ 6 0 1 = 81) := LN.out c hc (by omega)
      have HW : Hid ((c : Int) = if 6 ≤ n then twoI (n - 6) else 0) := LE.out c hc (by omega)
      have LT : Hid (n ≤ 10) := hnn.2
      clear hin hc hpp
      obtain ⟨v, hv⟩ : ∃ v, plU ⟨0, n, (c : Int) * 64⟩ 6 0 1 = v := ⟨_, rfl⟩
      have E2 : Hid (plU ⟨0, n, (c : Int) * 64⟩ 6 0 1 = v) := hv
      clear hv
      go_wp2_with fail
      refine (place_aggis ⟨0, n, (c : Int) * 64⟩ v 6 0 1 81 _ wr KR.out.tab UF.out (by decide) (by decide) rfl E2.out E1.out).mono ?_
      rintro e w4 ⟨ao4, cap4, rfl, -, -, b4⟩
      have k4 : Hid (Kp w r (w4.alloc (objU v)) _ _) := (KR.out.below b4).alloc (objU v)
      simp only [objU] at k4
      clear b4 d0 d1 d2
      by_cases hns : 6 ≤ n
      · have hw := HW.out
        rw [if_pos hns] at hw
        have HH : Hid ((c : Int) = twoI (n - 6)) := hw
        clear hw
        go_wp2_with fail
        generalize w4.alloc _ = W5 at *
        refine (two_any (n - 6) W5 (by omega) (by omega)).mono ?_
        rintro e w6 ⟨rfl, rfl⟩
        rw [← HH.out]
        go_wp2_with fail
        refine (fixed_kp k4.out).mono ?_
        rintro e w7 ⟨rfl, h7⟩
        have B : Hid (Below r w w7) := h7.bel
        clear h7
        go_wp2_with fail
        go_ret
        refine ⟨rfl, ?_⟩
        rw [HR.out]
        exact B.out
      · have hw := HW.out
        rw [if_neg hns] at hw
        obtain rfl : c = 0 := by omega
        go_wp2_with fail
        generalize w4.alloc _ = W5 at *
        refine (fixed_kp k4.out).mono ?_
        rintro e w7 ⟨rfl, h7⟩
        have B : Hid (Below r w w7) := h7.bel
        clear h7
        go_wp2_with fail
        go_ret
        refine ⟨rfl, ?_⟩
        rw [HR.out]
        exact B.out
theorem walk (x y : Int) (w : World) (hT : Tab w) (_hx : -9223372036854775808 ≤ x ∧ x ≤ 9223372036854775807) (_hy : -9223372036854775808 ≤ y ∧ y ≤ 9223372036854775807) :
    Calls Tryd.prog 8 #[.int .i64 x, .int .i64 y] w fun e w' => e = .returned (.bool true) ∧ Below w.heap.size w w' := by
  have h : bits .and .i64 y 3 = y % 4 := i64_mask y 2 (by decide)
  have : y % 4 = 0 ∨ y % 4 = 1 ∨ y % 4 = 2 ∨ y % 4 = 3 := by omega
  rcases this with e | e | e | e
  · exact kind0 x y w hT (h.trans e)
  · exact kind1 x y w hT (h.trans e)
  · exact kind2 x y w hT (h.trans e)
  · exact kind3 x y w hT (h.trans e)
open Go.ChangeShapes Go.WideShapes Go.ChangeAt Go.RowKit Go.Joins

/-! ### From the walk to the statement -/
theorem contract (H : Type) (enc : TypeId × Value → H) (W : World) (base : Nat) (args : Array Value) (ds gs : List (DataW H)) (before : List MemPlace)
    (hval : ∀ (j : Nat) t v, Tryd.f8.params[j]? = some t → args[j]? = some v → Value.okWide Tryd.prog W .any base t v)
    (hW : DataW.Whole enc Tryd.prog Tryd.f8.params.toList Rows.untypedFullSpec.vars false W args.toList ds gs before) (hL : laidMetH Tryd.prog Rows.untypedFullRow.laid W) :
    Calls Tryd.prog 8 args W fun e W' => ∃ v, e = .returned v ∧ Rows.untypedFullSpec.post enc Tryd.prog Tryd.f8 false true false false W args v W' := by
  have hW' := hW
  obtain ⟨p, q, hA0, hV, rfl, hfz, hnd⟩ := hW
  have hA : DataW.TrodAll enc Tryd.prog W 0 (fun _ => true) true Tryd.f8.params.toList args.toList ds p := hA0
  rw [Tryd.params8] at hA hval
  obtain ⟨v0, vs0, d0, ds0, p0, q0, hargs, rfl, rfl, h0, r0⟩ := trodAll_cons hA
  obtain ⟨v1, vs1, d1, ds1, p1, q1, rfl, rfl, rfl, h1, r1⟩ := trodAll_cons r0
  obtain ⟨rfl, rfl, rfl⟩ := trodAll_nil r1
  obtain rfl : args = #[v0, v1] := by cases args; simp_all
  obtain ⟨rfl, rfl⟩ := trodVars_none hV
  have k0 := h0
  have lt0 : ∀ x ∈ p0, x.block < W.heap.size := by obtain ⟨m, hm⟩ := k0; exact DataW.trod_lt m _ _ _ hm
  have k1 := h1
  have lt1 : ∀ x ∈ p1, x.block < W.heap.size := by obtain ⟨m, hm⟩ := k1; exact DataW.trod_lt m _ _ _ hm
  obtain ⟨a0, rfl, _, _, w0⟩ := open_int Tryd.underlying3 (hval 0 3 v0 rfl rfl) h0
  obtain ⟨a1, rfl, _, _, w1⟩ := open_int Tryd.underlying3 (hval 1 3 v1 rfl rfl) h1
  clear hA0
  refine (walk a0 a1 W (table hL) (bounds_i64 w0) (bounds_i64 w1)).mono fun e W' ⟨he, bel⟩ => ?_
  subst he
  exact ⟨_, rfl, _, _, _, [], _, [], hW', trodAll_mk1 (shut_bool Tryd.underlying4 _), (trodAll_cons_mk (Below.trod laidOut (by kernel_rfl) (of_decide_eq_true (by kernel_rfl)) k0 bel lt0) (trodAll_cons_mk (Below.trod laidOut (by kernel_rfl) (of_decide_eq_true (by kernel_rfl)) k1 bel lt1) trodAll_mk0)), rfl, bel.frame _, fun h => by cases h⟩

theorem laid_met (os : Os) : laidMet Tryd.prog Rows.untypedFullRow.laid ((World.doorLaid Tryd.prog 40 os).forCall (fun _ _ => 0) ⟨#[], #[.int .i64 0, .int .i64 0], []⟩).memory :=
  laidMet_of_run' 8 (by kernel_rfl) (by kernel_rfl)
theorem reads (os : Os) {H : Type} (enc : TypeId × Value → H) : ∃ places, DataW.whole enc Tryd.prog ((World.doorLaid Tryd.prog 40 os).forCall (fun _ _ => 0) ⟨#[], #[.int .i64 0, .int .i64 0], []⟩).memory Tryd.f8.params.toList Rows.untypedFullSpec.vars false (#[.int .i64 0, .int .i64 0] : Array Value).toList 8 = some ([.lit (.int .i64 0), .lit (.int .i64 0)], [], places) :=
  ⟨[], by kernel_rfl⟩
set_option maxRecDepth 100000 in
theorem lifted (os : Os) (started : os.Started) (H : Type) (enc : TypeId × Value → H) (F : Stop.Interp) :
    ReturnsInHanded {} Tryd.checked os 8 .any ((OpenSpec.ofChange Rows.untypedFullSpec).preRow enc Tryd.prog Tryd.f8 Rows.untypedFullRow.domain false Rows.untypedFullRow.laid) (((OpenSpec.ofChange Rows.untypedFullSpec).at F).post enc Tryd.prog Tryd.f8 false true false false) := by
  obtain ⟨places, hx⟩ := reads os enc
  refine returnsInHanded_of_row (C := Tryd.checked) (s := OpenSpec.ofChange Rows.untypedFullSpec) own started (by kernel_rfl) Tryd.func8
    (witness_row_at (enc := enc) (C := Tryd.checked) false (World.doorLaid Tryd.prog 40 os) #[.int .i64 0, .int .i64 0] rfl (by kernel_rfl) (by kernel_rfl) (by kernel_rfl)
      (OpenSpec.preRow_of_cond 8 hx (by kernel_rfl) (fun k hk => by cases hk) (by kernel_rfl) (laid_met os))) ?_
  intro W base args ds gs before hval hW _ _ _ hL _ _
  exact contract H enc W base args ds gs before hval hW hL
theorem said : Rows.UntypedFullSaid :=
  OpenClaim.holds_of_cond 8 Tryd.f8 rfl rfl rfl rfl rfl rfl rfl ⟨rfl, rfl, rfl, rfl, rfl⟩ rfl rfl rfl rfl rfl (by kernel_rfl) Tryd.func8 (by kernel_rfl)
    (of_decide_eq_true (by kernel_rfl)) (by unfold Func.isWrapper; first | (rw [if_pos (by decide +kernel)]; kernel_rfl) | (rw [if_neg (by decide +kernel)]; exact ⟨rfl, rfl⟩))
    (fun os started H enc _ F => by rw [OpenClaim.pre_eq_preRow]; exact lifted os started H enc F)
theorem plain (f : FuncId) (fn : Func) (hf : Tryd.pinned.checked.prog.funcNamed "buttress/buttresslaw08.UntypedFull" = some f) (hfn : Tryd.pinned.checked.prog.funcs[f]? = some fn) :
    false = Tryd.pinned.checked.prog.looks [] ∧ ∀ (j : Nat) t, fn.params[j]? = some t → Tryd.pinned.checked.prog.wantsStandIn t = false := by
  obtain rfl : f = 8 := Option.some.inj ((show Tryd.prog.funcNamed "buttress/buttresslaw08.UntypedFull" = some 8 by kernel_rfl).symm.trans hf) |>.symm
  obtain rfl : fn = Tryd.f8 := (Option.some.inj (Tryd.func8.symm.trans hfn)).symm
  refine ⟨by kernel_rfl, fun j t ht => ?_⟩
  rw [Tryd.params8] at ht
  have hm : t ∈ [3, 3] := by simpa using Array.mem_of_getElem? ht
  have hall : ([3, 3].all fun u => !Tryd.prog.wantsStandIn u) = true := by kernel_rfl
  exact (show Tryd.prog.wantsStandIn t = false by simpa using List.all_eq_true.1 hall t hm)
end Go.Proofs.YtkelblkegpmlpaaDoor.untypedFull
namespace Go.Proofs.YtkelblkegpmlpaaDoor
/-- THE CARD. -/
theorem untypedFull_card : Rows.UntypedFullCardSaid :=
  Claim7.holds_tied_plain_at .later [] _ _ _ _ untypedFull.said (fun _ h => by cases h) (by kernel_rfl) (fun _ h => by cases h) untypedFull_row_tie rfl ⟨rfl, rfl⟩ (by kernel_rfl) rfl untypedFull.plain (by kernel_rfl)
#print axioms untypedFull_card
end Go.Proofs.YtkelblkegpmlpaaDoor

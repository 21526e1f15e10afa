/-
  The document's own Same answers true for two lists of the same words; the calls whose answers the document fixes (the law's own function fixed) answer as they should, where the table of sizes lies as the program laid it.
-/
import Derived.Test.YtkelblkegpmlpabDoorUQuiet
namespace Go.Proofs.YtkelblkegpmlpabDoor
open Go.RowKit Go.Deep
open Classical
theorem same_yes (ao bo : Option Addr) (L : List Int) (ca cb : Nat) (w : World) (ha : Told w ao L) (hb : Told w bo L) (hl : L.length ≤ 65536) :
    Calls Tryd.prog 12 #[.slice ao L.length ca, .slice bo L.length cb] w fun e w' => e = .returned (.bool true) ∧ ∃ m, w' = w.drewN m := by
  by_cases h0 : L = []
  · subst h0
    clear ha hb
    go_enter Tryd.func12, Tryd.ntmps12
    go_wp2
    refine wp_loop_rounds 1 ?_
    rw [rounds_succ]
    go_wp2
    go_ret
    exact ⟨rfl, 0, rfl⟩
  · rcases ha with h | ⟨b1, o1, rfl, hs1, hc1⟩
    · exact absurd h h0
    rcases hb with h | ⟨b2, o2, rfl, hs2, hc2⟩
    · exact absurd h h0
    clear h0
    generalize hn : L.length = n at *
    have HN : Hid (L.length = n) := hn
    clear hn
    have H1 : Hid (∀ j, j < n → w.cell? ⟨b1, o1 + j, none⟩ = some (.int .u64 (L.getD j 0))) := hc1
    have H2 : Hid (∀ j, j < n → w.cell? ⟨b2, o2 + j, none⟩ = some (.int .u64 (L.getD j 0))) := hc2
    clear hc1 hc2
    go_enter Tryd.func12, Tryd.ntmps12
    go_wp2
    go_loopw [5] (fun i wr => ∃ k m : Nat, k ≤ n ∧ i = .int .i64 k ∧ wr = w.drewN m) (fun i _ => n - (intOf i).toNat)
    case atStart => exact ⟨0, 0, Nat.zero_le _, rfl, rfl⟩
    case round =>
      obtain ⟨k, m, hk, rfl, rfl⟩ := hrel
      by_cases hkn : k < n
      · have hx := H1.out k hkn
        have hy := H2.out k hkn
        generalize L.getD k 0 = x at *
        have hki : (k : Int) < (n : Int) := by omega
        go_wp2
        go_quiet (fail)
        go_wp2
        go_roundw
        case rel => exact ⟨k + 1, _, by omega, by go_num, rfl⟩
        case measure => simp [intOf]; omega
      · have hkn' : k = n := by omega
        subst hkn'
        go_wp2
        go_ret
        exact ⟨rfl, _, rfl⟩
theorem told_row (w : World) (A : List Int) (o : Obj) (ho : o = .cells (cells64 A).toArray 22) : Told (w.alloc o) (some ⟨w.heap.size, 0, none⟩) A := by
  subst ho
  exact Row.told (show Row _ _ _ from by unfold Row; rw [blk_alloc_new])
theorem place_is (u v : Un) (k b n e : Int) (A : List Int) {w0 : World} {r : Nat} {w : World} {L : List (Nat × Obj)} {M : List (Option Addr × List Int)} (h : Kp w0 r w L M) (hf : u.Fits) (hb : -9223372036854775808 ≤ b ∧ b ≤ 9223372036854775807) (hn : -9223372036854775808 ≤ n ∧ n ≤ 9223372036854775807) (h1 : plL u k b n = A) (h2 : plU u k b n = v) (h3 : plE u k b n = e) :
    Calls Tryd.prog 4 #[encU u, .int .i64 k, .int .i64 b, .int .i64 n] w fun e' w' => ∃ ao cap, e' = .returned (.tuple #[.slice ao A.length cap, encU v, .int .i64 e]) ∧ Kp w0 r w' L ((ao, A) :: M) := by
  have := place_kp u k b n h hf hb hn
  rwa [h1, h2, h3] at this
theorem same_kp (A : List Int) (ao bo : Option Addr) (ca cb : Nat) {w0 : World} {r : Nat} {w : World} {L : List (Nat × Obj)} {M : List (Option Addr × List Int)} (h : Kp w0 r w L M) (ha : (ao, A) ∈ M) (hb : (bo, A) ∈ M) (hl : A.length ≤ 65536) :
    Calls Tryd.prog 12 #[.slice ao A.length ca, .slice bo A.length cb] w fun e w' => e = .returned (.bool true) ∧ Kp w0 r w' L M :=
  (same_yes ao bo A ca cb w (h.tld _ ha) (h.tld _ hb) hl).mono fun _ _ ⟨he, m, hm⟩ => ⟨he, hm ▸ h.drew m⟩
set_option maxHeartbeats 2000000 in
theorem fixed_any (w : World) (hT : Tab w) : Calls Tryd.prog 6 #[] w fun e w' => e = .returned (.bool true) ∧ Below w.heap.size w w' := by
  have k0 : Hid (Kp w w.heap.size w [] []) := Kp.start hT
  generalize hr0 : w.heap.size = r at *
  clear hr0 hT
  go_enter Tryd.func6, Tryd.ntmps6
  go_wp2_with fail
  refine (place_is ⟨0, 6, 0⟩ ⟨0, 6, 8⟩ 4 0 2 0 [0, 4] k0.out ⟨by decide, by decide, by decide⟩ (by decide) (by decide) (by decide +kernel) (by kernel_rfl) (by decide +kernel)).mono ?_
  rintro e w1 ⟨ao1, cap1, rfl, h1⟩
  clear k0
  have g1 := h1.alloc (objU ⟨0, 6, 8⟩)
  have G1 : Hid _ := g1
  clear h1 g1
  simp only [objU] at *
  simp only [encU]
  go_wp2_with fail
  generalize w1.alloc (Obj.cells #[.int .u64 0, .int .i64 6, .int .u64 8] 24) = v1 at *
  generalize w1.heap.size = q1 at *
  have k1 : Hid (Kp w r v1 [(q1, objU ⟨0, 6, 8⟩)] [(ao1, [0, 4])]) := G1
  clear G1
  refine (place_is ⟨0, 6, 8⟩ ⟨0, 6, 64⟩ 3 0 1 0 [32] k1.out ⟨by decide, by decide, by decide⟩ (by decide) (by decide) (by decide +kernel) (by kernel_rfl) (by decide +kernel)).mono ?_
  rintro e w2 ⟨ao2, cap2, rfl, h2⟩
  clear k1
  have g2 := h2.alloc (objU ⟨0, 6, 64⟩)
  have G2 : Hid _ := g2
  clear h2 g2
  simp only [objU] at *
  simp only [encU]
  go_wp2_with fail
  generalize w2.alloc (Obj.cells #[.int .u64 0, .int .i64 6, .int .u64 64] 24) = v2 at *
  generalize w2.heap.size = q2 at *
  have k2 : Hid (Kp w r v2 [(q2, objU ⟨0, 6, 64⟩), (q1, objU ⟨0, 6, 8⟩)] [(ao2, [32]), (ao1, [0, 4])]) := G2
  clear G2
  refine (place_is ⟨0, 6, 64⟩ ⟨0, 0, 0⟩ 5 0 1 81 [] k2.out ⟨by decide, by decide, by decide⟩ (by decide) (by decide) (by decide +kernel) (by kernel_rfl) (by decide +kernel)).mono ?_
  rintro e w3 ⟨ao3, cap3, rfl, h3⟩
  clear k2
  have g3 := h3.alloc (objU ⟨0, 0, 0⟩)
  obtain ⟨c0, c1, c2⟩ := (g3.atU q1 ⟨0, 6, 8⟩ (by simp)).cells
  have G3 : Hid _ := g3
  clear h3 g3
  simp only [objU] at *
  simp only [encU]
  go_wp2_with fail
  generalize w3.alloc (Obj.cells #[.int .u64 0, .int .i64 0, .int .u64 0] 24) = v3 at *
  generalize w3.heap.size = q3 at *
  have k3 : Hid (Kp w r v3 [(q3, objU ⟨0, 0, 0⟩), (q2, objU ⟨0, 6, 64⟩), (q1, objU ⟨0, 6, 8⟩)] [(ao3, []), (ao2, [32]), (ao1, [0, 4])]) := G3
  clear G3 c0 c1 c2
  refine (place_is ⟨0, 6, 8⟩ ⟨0, 0, 0⟩ 9 0 1 80 [] k3.out ⟨by decide, by decide, by decide⟩ (by decide) (by decide) (by decide +kernel) (by kernel_rfl) (by decide +kernel)).mono ?_
  rintro e w4 ⟨ao4, cap4, rfl, h4⟩
  clear k3
  have g4 := h4.alloc (objU ⟨0, 0, 0⟩)
  obtain ⟨c0, c1, c2⟩ := (g4.atU q1 ⟨0, 6, 8⟩ (by simp)).cells
  have G4 : Hid _ := g4
  clear h4 g4
  simp only [objU] at *
  simp only [encU]
  go_wp2_with fail
  generalize w4.alloc (Obj.cells #[.int .u64 0, .int .i64 0, .int .u64 0] 24) = v4 at *
  generalize w4.heap.size = q4 at *
  have k4 : Hid (Kp w r v4 [(q4, objU ⟨0, 0, 0⟩), (q3, objU ⟨0, 0, 0⟩), (q2, objU ⟨0, 6, 64⟩), (q1, objU ⟨0, 6, 8⟩)] [(ao4, []), (ao3, []), (ao2, [32]), (ao1, [0, 4])]) := G4
  clear G4 c0 c1 c2
  refine (place_is ⟨0, 6, 8⟩ ⟨0, 0, 0⟩ 2 9 1 1 [] k4.out ⟨by decide, by decide, by decide⟩ (by decide) (by decide) (by decide +kernel) (by kernel_rfl) (by decide +kernel)).mono ?_
  rintro e w5 ⟨ao5, cap5, rfl, h5⟩
  clear k4
  have g5 := h5.alloc (objU ⟨0, 0, 0⟩)
  have G5 : Hid _ := g5
  clear h5 g5
  simp only [objU] at *
  simp only [encU]
  go_wp2_with fail
  generalize w5.alloc (Obj.cells #[.int .u64 0, .int .i64 0, .int .u64 0] 24) = v5 at *
  generalize w5.heap.size = q5 at *
  have k5 : Hid (Kp w r v5 [(q5, objU ⟨0, 0, 0⟩), (q4, objU ⟨0, 0, 0⟩), (q3, objU ⟨0, 0, 0⟩), (q2, objU ⟨0, 6, 64⟩), (q1, objU ⟨0, 6, 8⟩)] [(ao5, []), (ao4, []), (ao3, []), (ao2, [32]), (ao1, [0, 4])]) := G5
  clear G5
  refine (size_kp 2 3 k5.out (by decide)).mono ?_
  rintro e w6 ⟨rfl, h6⟩
  rw [show szN 2 3 = 5 by decide, show szE 2 3 = 0 by decide]
  have k6 : Hid (Kp w r w6 [(q5, objU ⟨0, 0, 0⟩), (q4, objU ⟨0, 0, 0⟩), (q3, objU ⟨0, 0, 0⟩), (q2, objU ⟨0, 6, 64⟩), (q1, objU ⟨0, 6, 8⟩)] [(ao5, []), (ao4, []), (ao3, []), (ao2, [32]), (ao1, [0, 4])]) := h6
  clear h6 k5
  go_wp2_with fail
  have g7 := (k6.out.below (below_new w6 (.cells #[.int .u64 0, .int .u64 4] 22))).told (told_row w6 [0, 4] _ rfl)
  have G7 : Hid _ := g7
  clear g7 k6
  refine (same_kp [0, 4] _ _ _ _ G7.out (by simp) (by simp) (by decide)).mono ?_
  rintro e w7 ⟨rfl, h7⟩
  clear G7
  have k7 : Hid (Kp w r w7 [(q5, objU ⟨0, 0, 0⟩), (q4, objU ⟨0, 0, 0⟩), (q3, objU ⟨0, 0, 0⟩), (q2, objU ⟨0, 6, 64⟩), (q1, objU ⟨0, 6, 8⟩)] [(some ⟨w6.heap.size, 0, none⟩, [0, 4]), (ao5, []), (ao4, []), (ao3, []), (ao2, [32]), (ao1, [0, 4])]) := h7
  clear h7
  obtain ⟨c0, c1, c2⟩ := (k7.out.atU q1 ⟨0, 6, 8⟩ (by simp)).cells
  have hq := fun W => eq_un W ⟨0, 6, 8⟩ ⟨0, 6, 8⟩
  rw [decide_eq_true rfl] at hq
  simp only at hq c0 c1 c2
  go_wp2_with fail
  have g8 := (k7.out.below (below_new w7 (.cells #[.int .u64 32] 22))).told (told_row w7 [32] _ rfl)
  have G8 : Hid _ := g8
  clear g8 k7 c0 c1 c2 hq
  refine (same_kp [32] _ _ _ _ G8.out (by simp) (by simp) (by decide)).mono ?_
  rintro e w8 ⟨rfl, h8⟩
  clear G8
  have k8 : Hid (Kp w r w8 [(q5, objU ⟨0, 0, 0⟩), (q4, objU ⟨0, 0, 0⟩), (q3, objU ⟨0, 0, 0⟩), (q2, objU ⟨0, 6, 64⟩), (q1, objU ⟨0, 6, 8⟩)] _) := h8
  clear h8
  obtain ⟨c0, c1, c2⟩ := (k8.out.atU q2 ⟨0, 6, 64⟩ (by simp)).cells
  simp only at c0 c1 c2
  go_wp2_with fail
  refine (check_kp ⟨1, 1, 0⟩ k8.out ⟨by decide, by decide, by decide⟩).mono ?_
  rintro e w9 ⟨rfl, h9⟩
  rw [show chkE ⟨1, 1, 0⟩ = 1 by decide +kernel]
  have k9 : Hid (Kp w r w9 [(q5, objU ⟨0, 0, 0⟩), (q4, objU ⟨0, 0, 0⟩), (q3, objU ⟨0, 0, 0⟩), (q2, objU ⟨0, 6, 64⟩), (q1, objU ⟨0, 6, 8⟩)] _) := h9
  clear k8 h9 c0 c1 c2
  obtain ⟨c0, c1, c2⟩ := (k9.out.atU q2 ⟨0, 6, 64⟩ (by simp)).cells
  simp only at c0 c1 c2
  go_wp2_with fail
  refine (reset_kp ⟨0, 6, 64⟩ k9.out).mono ?_
  rintro e w10 ⟨rfl, h10⟩
  clear k9 c0 c1 c2
  have hq := fun W => eq_un W ⟨0, 6, 0⟩ ⟨0, 6, 0⟩
  rw [decide_eq_true rfl] at hq
  simp only at hq
  simp only [encU]
  have B : Hid (Below r w w10) := h10.bel
  clear h10
  go_wp2_with fail
  go_ret
  exact ⟨rfl, B.out⟩
theorem fixed_kp {w0 : World} {r : Nat} {w : World} {L : List (Nat × Obj)} {M : List (Option Addr × List Int)} (h : Kp w0 r w L M) :
    Calls Tryd.prog 6 #[] w fun e w' => e = .returned (.bool true) ∧ Kp w0 r w' L M :=
  (fixed_any w h.tab).mono fun _ _ ⟨he, b⟩ => ⟨he, h.below b⟩
end Go.Proofs.YtkelblkegpmlpabDoor

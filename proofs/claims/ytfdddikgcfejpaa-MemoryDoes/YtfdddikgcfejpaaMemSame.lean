/-
  The document's own Same answers true for two lists of the same words; no condition of ours.
-/
import Derived.Test.YtfdddikgcfejpaaMemFill
namespace Go.Proofs.Ytfdddikgcfejpaa
open Go.RowKit Go.Deep
theorem same_yes (ao bo : Option Addr) (L : List Int) (ca cb : Nat) (w : World) (ha : Told w ao L) (hb : Told w bo L) (hl : L.length ≤ 65536) :
    Calls Try.prog 16 #[.slice ao L.length ca, .slice bo L.length cb] w fun e w' => e = .returned (.bool true) ∧ ∃ m, w' = w.drewN m := by
  by_cases h0 : L = []
  · subst h0
    clear ha hb
    go_enter Try.func16, Try.ntmps16
    go_wp2
    refine wp_loop_rounds 1 ?_
    rw [rounds_succ]
    go_wp2
    go_ret
    exact ⟨rfl, 0, rfl⟩
  · rcases ha with h | ⟨b1, o1, rfl, hs1, hc1⟩
    · exact absurd h h0
    rcases hb with h | ⟨b2, o2, rfl, hs2, hc2⟩
    · exact absurd h h0
    clear h0
    generalize hn : L.length = n at *
    have HN : Hid (L.length = n) := hn
    clear hn
    have H1 : Hid (∀ j, j < n → w.cell? ⟨b1, o1 + j, none⟩ = some (.int .u64 (L.getD j 0))) := hc1
    have H2 : Hid (∀ j, j < n → w.cell? ⟨b2, o2 + j, none⟩ = some (.int .u64 (L.getD j 0))) := hc2
    clear hc1 hc2
    go_enter Try.func16, Try.ntmps16
    go_wp2
    go_loopw [5] (fun i wr => ∃ k m : Nat, k ≤ n ∧ i = .int .i64 k ∧ wr = w.drewN m) (fun i _ => n - (intOf i).toNat)
    case atStart => exact ⟨0, 0, Nat.zero_le _, rfl, rfl⟩
    case round =>
      obtain ⟨k, m, hk, rfl, rfl⟩ := hrel
      by_cases hkn : k < n
      · have hx := H1.out k hkn
        have hy := H2.out k hkn
        generalize L.getD k 0 = x at *
        have hki : (k : Int) < (n : Int) := by omega
        go_wp2
        go_quiet (fail)
        go_wp2
        go_roundw
        case rel => exact ⟨k + 1, _, by omega, by go_num, rfl⟩
        case measure => simp [intOf]; omega
      · have hkn' : k = n := by omega
        subst hkn'
        go_wp2
        go_ret
        exact ⟨rfl, _, rfl⟩
end Go.Proofs.Ytfdddikgcfejpaa

/-
  The law's own function laid: a memory of 32 words with some of what came in laid in it; no condition of ours.
-/
import Derived.Test.YtfdddikgcfejpaaMemFixed
namespace Go.Proofs.Ytfdddikgcfejpaa
open Go.RowKit Go.Deep
theorem laid_any (ao : Option Addr) (L : List Int) (cap : Nat) (w : World) (ha : Told w ao L) (hl : L.length ≤ 9223372036854775807) :
    Calls Try.prog 21 #[.slice ao L.length cap] w fun e w' => e = .returned (.pointer (some ⟨w.heap.size + 1, 0, none⟩)) ∧ (∃ M, M.length = 32 ∧ Mem 55 w' (w.heap.size + 1) w.heap.size M) ∧ Below w.heap.size w w' := by
  have HA : Hid (Told w ao L) := ha
  clear ha
  generalize hn : L.length = n at *
  have HN : Hid (L.length = n) := hn
  clear hn
  go_enter Try.func21, Try.ntmps21
  go_wp2_with fail
  refine (new_yes 32 w (by decide) (by decide)).mono ?_
  rintro e w1 ⟨rfl, m1, b1⟩
  go_wp2
  go_loopw [5] (fun i wr => ∃ k : Nat, k ≤ n ∧ k ≤ 32 ∧ i = .int .i64 k ∧ (∃ M, M.length = 32 ∧ Mem 55 wr (w.heap.size + 1) w.heap.size M) ∧ Below w.heap.size w wr) (fun i _ => 32 - (intOf i).toNat)
  case atStart => exact ⟨0, Nat.zero_le _, Nat.zero_le _, rfl, ⟨_, by simp, m1⟩, b1⟩
  case round =>
    obtain ⟨k, hk, hk2, rfl, ⟨M, hM, mr⟩, br⟩ := hrel
    clear m1 b1
    by_cases hkn : k < n
    · by_cases hk3 : k < 32
      · obtain ⟨b, o, rfl, hb, hx⟩ : ∃ b o, ao = some ⟨b, o, none⟩ ∧ b < w.heap.size ∧ wr.cell? ⟨b, o + k, none⟩ = some (.int .u64 (L.getD k 0)) := by
          rcases HA.out with rfl | ⟨b, o, e, hb, hc⟩
          · have := HN.out; simp at this; omega
          · exact ⟨b, o, e, hb, (br.cell (p := ⟨b, o + k, none⟩) hb).trans (hc k (by have := HN.out; omega))⟩
        generalize L.getD k 0 = x at *
        have hki : (k : Int) < (n : Int) := by omega
        have hki2 : (k : Int) < 32 := by omega
        go_wp2_with fail
        refine (write_yes _ _ M k x wr mr (by omega) (by omega)).mono ?_
        rintro e w2 ⟨rfl, m2, u2⟩
        have b2 := u2.below br br.size (Nat.le_refl _)
        clear mr br u2 hx
        go_wp2
        go_roundw
        case rel => exact ⟨k + 1, by omega, by omega, by go_num, ⟨_, by simpa using hM, m2⟩, b2⟩
        case measure => simp [intOf]; omega
      · have hk4 : k = 32 := by omega
        subst hk4
        have hki : (32 : Int) < (n : Int) := by omega
        go_wp2
        go_ret
        exact ⟨rfl, ⟨M, hM, mr⟩, br⟩
    · have hk4 : k = n := by omega
      subst hk4
      go_wp2
      go_ret
      exact ⟨rfl, ⟨M, hM, mr⟩, br⟩
end Go.Proofs.Ytfdddikgcfejpaa

/-
  What Top of the document's answer returns, for every four words: the greatest number of a bit that is 1, or -1.
-/
import Derived.Test.YtpmlhdmncbpodaaDoorRefBits
namespace Go.Proofs.YtpmlhdmncbpodaaDoor
open Go.RowKit

theorem hasI_nat (b0 b1 b2 b3 : Int) (k : Nat) (h : k < 256) : hasI b0 b1 b2 b3 (k : Int) = hasN b0 b1 b2 b3 k := by
  unfold hasI
  have h1 : (0 : Int) ≤ (k : Int) := by omega
  have h2 : (k : Int) < 256 := by omega
  simp [h1, h2]
theorem topTo_yes (f : Nat → Bool) (k : Nat) (h : f k = true) : topTo f (k + 1) = (k : Int) := if_pos h
theorem topTo_no (f : Nat → Bool) (k : Nat) (h : f k = false) : topTo f (k + 1) = topTo f k := if_neg (by simp [h])
theorem cells_of {w wr : World} {b0 b1 b2 b3 : Int} (h : Below (w.heap.size + 1) (w.alloc (Obj.cells #[Value.int IntKind.u64 b0, Value.int IntKind.u64 b1, Value.int IntKind.u64 b2, Value.int IntKind.u64 b3] 35)) wr) :
    wr.cell? ⟨w.heap.size, 0, none⟩ = some (.int .u64 b0) ∧ wr.cell? ⟨w.heap.size, 1, none⟩ = some (.int .u64 b1) ∧ wr.cell? ⟨w.heap.size, 2, none⟩ = some (.int .u64 b2) ∧ wr.cell? ⟨w.heap.size, 3, none⟩ = some (.int .u64 b3) := by
  have hl : w.heap.size < w.heap.size + 1 := by omega
  refine ⟨?_, ?_, ?_, ?_⟩
  · rw [h.cell (p := ⟨w.heap.size, 0, none⟩) hl]; simp
  · rw [h.cell (p := ⟨w.heap.size, 1, none⟩) hl]; simp
  · rw [h.cell (p := ⟨w.heap.size, 2, none⟩) hl]; simp
  · rw [h.cell (p := ⟨w.heap.size, 3, none⟩) hl]; simp
set_option maxRecDepth 100000 in
set_option maxHeartbeats 1000000 in
theorem topR_any (b0 b1 b2 b3 : Int) (w : World) (w0 : Word b0) (w1 : Word b1) (w2 : Word b2) (w3 : Word b3) :
    Calls Tryd.prog 23 #[.agg #[.int .u64 b0, .int .u64 b1, .int .u64 b2, .int .u64 b3]] w fun e w' => e = .returned (.int .i64 (topI b0 b1 b2 b3)) ∧ Below w.heap.size w w' := by
  have HT : Hid (topI b0 b1 b2 b3 = topTo (hasN b0 b1 b2 b3) 256) := rfl
  go_enter Tryd.func23, Tryd.ntmps23
  go_wp2
  go_loopw [3, 4] (fun t i wr => ∃ k : Nat, k ≤ 256 ∧ i = .int .i64 k ∧ t = .int .i64 (topTo (hasN b0 b1 b2 b3) k) ∧ Below (w.heap.size + 1) (w.alloc (Obj.cells #[Value.int IntKind.u64 b0, Value.int IntKind.u64 b1, Value.int IntKind.u64 b2, Value.int IntKind.u64 b3] 35)) wr) (fun _ i _ => 256 - (intOf i).toNat)
  case atStart => exact ⟨0, Nat.zero_le _, rfl, rfl, Below.refl _ _⟩
  case round =>
    obtain ⟨k, hk, rfl, rfl, hbw⟩ := hrel
    by_cases hlt : k < 256
    · obtain ⟨m0, m1, m2, m3⟩ := cells_of hbw
      have hwr := hbw.size
      have hw0 : w.heap.size < wr.heap.size := by simp at hwr; omega
      clear hwr
      go_wp2_with fail
      refine (hasR_any _ _ _ _ _ _ w0 w1 w2 w3).mono ?_
      rintro e u ⟨rfl, hb⟩
      rw [hasI_nat b0 b1 b2 b3 k hlt]
      have bu := hbw.trans (hb.mono (by omega))
      clear hb hbw
      cases hf : hasN b0 b1 b2 b3 k
      · have HB : Hid (topTo (hasN b0 b1 b2 b3) (k + 1) = topTo (hasN b0 b1 b2 b3) k) := topTo_no _ k hf
        go_wp2_with fail
        go_roundw
        case rel => exact ⟨k + 1, by omega, by go_num, by rw [HB.out], bu⟩
        case measure => simp [intOf]; omega
      · have HB : Hid (topTo (hasN b0 b1 b2 b3) (k + 1) = (k : Int)) := topTo_yes _ k hf
        go_wp2_with fail
        go_roundw
        case rel => exact ⟨k + 1, by omega, by go_num, by rw [HB.out], bu⟩
        case measure => simp [intOf]; omega
    · go_wp2
      go_ret
      have e : k = 256 := by omega
      subst e
      exact ⟨ret_int HT.out.symm, ((Below.refl _ _).alloc (Nat.le_refl _) _).trans (hbw.mono (by omega))⟩
end Go.Proofs.YtpmlhdmncbpodaaDoor

/-
  What Owed of package mailbox answers; no condition.
-/
import Derived.Test.YtpapjdmnhgnpfaaMBPost
namespace Go.Proofs.Ytpapjdmnhgnpfaa
open Go.RowKit Go.Deep Go.Shelf
section
variable {w0 w w' : World} {r p g n : Nat} {V : List Sv} {L : St} {R : List Th}
set_option maxHeartbeats 4000000 in
theorem owed_new (s : Sep w0 r w (bxT n p g V L :: R)) (c : Int) :
    Calls Try.prog 21 #[ptr p, .int .i64 c] w fun e w' => e = .returned (.int .i64 (owedN c L)) ∧ Below w.heap.size w w' := by
  have c0 := s.cellB
  have S1 := hid s
  clear s
  go_enter Try.func21, Try.ntmps21
  go_wp2_with fail
  go_loopw [5, 15] (fun s5 s15 wr => ∃ k : Nat, k ≤ n ∧ s15 = .int .i64 k ∧ s5 = .int .i64 (owedN c (L.take k)) ∧ Below w.heap.size w wr) (fun _ s15 _ => n - (intOf s15).toNat)
  case atStart => exact ⟨0, Nat.zero_le _, rfl, rfl, Below.refl _ _⟩
  case round =>
    clear c0
    obtain ⟨k, hk, rfl, rfl, bel⟩ := hrel
    have htop := S1.out.goodB.top
    by_cases hlt : k < n
    · have hltz : (k : Int) < (n : Int) := by omega
      obtain ⟨ao, cap, hV, -, row⟩ := S1.out.boxAt hlt
      obtain ⟨ao', cap', hV', hcell, -⟩ := (S1.out.below bel).boxAt hlt
      rw [hV] at hV'
      simp only [Option.some.injEq, Sv.mk.injEq] at hV'
      obtain ⟨rfl, -, rfl⟩ := hV'
      have HM := hid (owed_more c (S1.out.goodB.at hlt))
      have h512 := S1.out.goodB.owed c k
      have hfew := S1.out.goodB.few k _ (S1.out.goodB.at hlt)
      have HBel := hid bel
      generalize owedN c (L.take k) = o at *
      obtain ⟨b, hb⟩ : ∃ b, (boxN L k).length = b := ⟨_, rfl⟩
      rw [hb] at hcell hfew row
      have HRow := hid row
      have HB := hid hb
      clear hb bel hV row
      go_wp2_with fail
      go_loopw [5, 21] (fun s5 s21 wr => ∃ j : Nat, j ≤ b ∧ s21 = .int .i64 j ∧ s5 = .int .i64 ((o + ofN c ((boxN L k).take j) : Nat) : Int) ∧ Below w.heap.size w wr) (fun _ s21 _ => b - (intOf s21).toNat)
      case atStart => exact ⟨0, Nat.zero_le _, rfl, by simp [ofN], HBel.out⟩
      case round =>
        clear hcell
        obtain ⟨j, hj, rfl, rfl, bel2⟩ := hrel
        by_cases hjl : j < b
        · have hjz : (j : Int) < (b : Int) := by omega
          have hx := List.getElem?_eq_getElem (l := boxN L k) (i := j) (by have := HB.out; omega)
          generalize (boxN L k)[j]'(by have := HB.out; omega) = x at hx
          obtain ⟨_, _, ev, -, -, hg, -⟩ := HRow.out.slice
          simp only [Value.slice.injEq] at ev
          obtain ⟨rfl, -, rfl⟩ := ev
          obtain ⟨g2, rfl⟩ := hg j (by have := HB.out; omega)
          obtain ⟨x0, x1, x2⟩ := (RowM.at (HRow.out.below bel2) hx).cells
          have HO := hid (of_more c hx)
          have h64 : ofN c ((boxN L k).take j) ≤ 64 := by
            have h1 := of_le c ((boxN L k).take j)
            rw [List.length_take] at h1
            omega
          have HBel2 := hid (bel2.alloc bel2.size (objM x))
          clear hx hg
          generalize ofN c ((boxN L k).take j) = q at *
          by_cases e : x.f = c
          · have e1 : (x.f == c) = true := by simpa using e
            rw [if_pos e1] at HO
            clear e
            go_wp2
            go_roundw
            case rel => exact ⟨j + 1, by omega, by go_num, by rw [HO.out]; go_num, HBel2.out⟩
            case measure => simp [intOf]; omega
          · have e1 : (x.f == c) = false := by simpa using e
            rw [if_neg (by rw [e1]; decide)] at HO
            go_wp2
            go_roundw
            case rel => exact ⟨j + 1, by omega, by go_num, by rw [HO.out]; rfl, HBel2.out⟩
            case measure => simp [intOf]; omega
        · obtain rfl : j = b := by omega
          have hjz : ¬ (j : Int) < (j : Int) := by omega
          rw [List.take_of_length_le (by rw [HB.out]; exact Nat.le_refl _)]
          have HBel2 := hid bel2
          clear bel2
          generalize ofN c (boxN L k) = q at *
          go_wp2
          go_roundw
          case rel => exact ⟨k + 1, by omega, by go_num, by rw [HM.out], HBel2.out⟩
          case measure => simp [intOf]; omega
    · obtain rfl : k = n := by omega
      have hltz : ¬ (k : Int) < (k : Int) := by omega
      rw [List.take_of_length_le (by rw [S1.out.goodB.len]; exact Nat.le_refl _)]
      have HBel := hid bel
      clear bel
      obtain ⟨o, ho⟩ : ∃ o, owedN c L = o := ⟨_, rfl⟩
      rw [ho]
      have HO := hid ho
      clear ho
      go_wp2
      go_ret
      exact ⟨by rw [HO.out]; rfl, HBel.out⟩
theorem owed_sep (s : Sep w0 r w (bxT n p g V L :: R)) (c : Int) :
    Calls Try.prog 21 #[ptr p, .int .i64 c] w fun e w' => e = .returned (.int .i64 (owedN c L)) ∧ Sep w0 r w' (bxT n p g V L :: R) :=
  (owed_new s c).mono fun _ _ ⟨he, b⟩ => ⟨he, s.below b⟩
end
end Go.Proofs.Ytpapjdmnhgnpfaa

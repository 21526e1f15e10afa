/-
  What Is of the document's own nodes answers; no condition of ours.
-/
import Derived.Test.YtkpoppgibempbaaNRow
namespace Go.Proofs.Ytkpoppgibempbaa
open Go.RowKit Go.Deep Go.MapKept Go.Maps
set_option linter.unusedSectionVars false
variable [dCp : DecidableEq Cp] [dLim : ∀ k, Decidable (Lim k)] [dBad : ∀ k, Decidable (Bad k)] [dFit : ∀ g z, Decidable (Fit g z)] [dFine : ∀ c, Decidable (Fine c)] [dMint : ∀ c v, Decidable (MintR c v)] [dWho : ∀ x y, Decidable (Whose x y)] [dSl : DecidableEq Sl] [dLt : ∀ a b, Decidable (ltS a b)] [iSl : Inhabited Sl] [iCp : Inhabited Cp]

set_option maxHeartbeats 1000000 in
set_option maxRecDepth 100000 in
theorem ris_any (p : Nat) (F : Nat → Prop) (S : St) (s : Sl) (w : World) (h : Rds w p F S) :
    Calls Try.prog 39 #[.pointer (some ⟨p, 0, none⟩), encS s] w fun e w' => e = .returned (.bool (atS S s).isSome) ∧ Below w.heap.size w w' := by
  obtain ⟨v, H, h⟩ := h
  have K : Hid (∀ n, Below w.heap.size w ((w.alloc (objS s)).drewN n)) := fun n => by
    have b := below_new w (objS s)
    exact ⟨b.os, b.tape, b.output, b.size, b.block⟩
  have h2 := h.below (below_new w (objS s))
  obtain ⟨s0, s1⟩ := (AtS.new w s).cells
  obtain ⟨ao, cap, rfl, c0, _, hj⟩ := h2.slice
  have OK : Hid (Okay S) := h.ok
  clear h h2
  obtain ⟨sn, si⟩ := s
  simp only at s0 s1
  by_cases hn0 : sn < 0
  · have hE : Hid ((atS S ⟨sn, si⟩).isSome = false) := by
      unfold atS
      rw [if_neg (by simp only; omega)]
      rfl
    clear hj
    generalize S.length = N at *
    simp only [encS, objS] at *
    have d0 : decide (0 ≤ sn) = false := by simp; omega
    clear hn0
    go_enter Try.func39, Try.ntmps39
    go_wp2
    generalize w.alloc (.cells #[.int .i64 sn, .int .i64 si] 30) = w2 at *
    generalize hr : w.heap.size = r at *
    have HR : Hid (w.heap.size = r) := hr
    clear hr
    go_quiet (fail)
    go_wp2
    go_ret
    exact ⟨by rw [hE.out]; rfl, by rw [HR.out]; exact K.out _⟩
  obtain ⟨n, rfl⟩ := Int.eq_ofNat_of_zero_le (show 0 ≤ sn by omega)
  clear hn0
  have d0 : decide (0 ≤ (n : Int)) = true := by simp
  by_cases hn1 : n < S.length
  · obtain ⟨g, bo, rfl, c1, _, _, _⟩ := hj n hn1
    clear hj
    have hnl : (n : Int) < (S.length : Int) := by omega
    have d1 : decide ((n : Int) < (S.length : Int)) = true := by simp [hn1]
    by_cases hi0 : si < 0
    · have hE : Hid ((atS S ⟨(n : Int), si⟩).isSome = false) := by
        unfold atS
        rw [if_neg (by simp only; omega)]
        rfl
      generalize S.length = N at *
      generalize (S.getD n []).length = m at *
      simp only [encS, objS] at *
      have d2 : decide (0 ≤ si) = false := by simp; omega
      clear hi0 hn1
      go_enter Try.func39, Try.ntmps39
      go_wp2
      generalize w.alloc (.cells #[.int .i64 (n : Int), .int .i64 si] 30) = w2 at *
      generalize hr : w.heap.size = r at *
      have HR : Hid (w.heap.size = r) := hr
      clear hr
      go_quiet (fail)
      go_wp2
      go_ret
      exact ⟨by rw [hE.out]; rfl, by rw [HR.out]; exact K.out _⟩
    obtain ⟨i, rfl⟩ := Int.eq_ofNat_of_zero_le (show 0 ≤ si by omega)
    clear hi0
    have d2 : decide (0 ≤ (i : Int)) = true := by simp
    by_cases hi1 : i < (S.getD n []).length
    · have hE : Hid ((atS S ⟨(n : Int), (i : Int)⟩).isSome = true) := by
        unfold atS
        rw [if_pos (by simp only; omega)]
        simp only [Int.toNat_natCast]
        rw [List.getElem?_eq_getElem hi1]
        rfl
      have HD : Hid (decide (i < (S.getD n []).length) = true) := (by simp only [decide_eq_true_eq]; exact hi1)
      generalize S.length = N at *
      generalize (S.getD n []).length = m at *
      simp only [encS, objS] at *
      clear hi1 hn1
      go_enter Try.func39, Try.ntmps39
      go_wp2
      generalize w.alloc (.cells #[.int .i64 (n : Int), .int .i64 (i : Int)] 30) = w2 at *
      generalize hr : w.heap.size = r at *
      have HR : Hid (w.heap.size = r) := hr
      clear hr
      go_quiet (fail)
      go_wp2
      go_ret
      exact ⟨by rw [hE.out]; exact congrArg (fun b => Ending.returned (.bool b)) HD.out, by rw [HR.out]; exact K.out _⟩
    · have hE : Hid ((atS S ⟨(n : Int), (i : Int)⟩).isSome = false) := by
        unfold atS
        rw [if_pos (by simp only; omega)]
        simp only [Int.toNat_natCast]
        rw [List.getElem?_eq_none (by omega)]
        rfl
      have HD : Hid (decide (i < (S.getD n []).length) = false) := (by simp only [decide_eq_false_iff_not]; exact hi1)
      generalize S.length = N at *
      generalize (S.getD n []).length = m at *
      simp only [encS, objS] at *
      clear hi1 hn1
      go_enter Try.func39, Try.ntmps39
      go_wp2
      generalize w.alloc (.cells #[.int .i64 (n : Int), .int .i64 (i : Int)] 30) = w2 at *
      generalize hr : w.heap.size = r at *
      have HR : Hid (w.heap.size = r) := hr
      clear hr
      go_quiet (fail)
      go_wp2
      go_ret
      exact ⟨by rw [hE.out]; exact congrArg (fun b => Ending.returned (.bool b)) HD.out, by rw [HR.out]; exact K.out _⟩
  · have hE : Hid ((atS S ⟨(n : Int), si⟩).isSome = false) := by
      unfold atS
      split
      · simp only [Int.toNat_natCast]
        rw [List.getD_eq_getElem?_getD, List.getElem?_eq_none (l := S) (by omega)]
        rfl
      · rfl
    clear hj
    have d1 : decide (n < S.length) = false := by simp only [decide_eq_false_iff_not]; exact hn1
    have d2 : (S.length : Int) ≤ (n : Int) := by omega
    generalize S.length = N at *
    simp only [encS, objS] at *
    clear hn1
    go_enter Try.func39, Try.ntmps39
    go_wp2
    generalize w.alloc (.cells #[.int .i64 (n : Int), .int .i64 si] 30) = w2 at *
    generalize hr : w.heap.size = r at *
    have HR : Hid (w.heap.size = r) := hr
    clear hr
    go_quiet (fail)
    go_wp2
    go_ret
    exact ⟨by rw [hE.out]; rfl, by rw [HR.out]; exact K.out _⟩
end Go.Proofs.Ytkpoppgibempbaa

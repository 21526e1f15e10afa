/-
  What Send and All of the document's own boxes answer, and leave, among things that lie apart; no condition but that few messages are there.
-/
import Derived.Test.YtpapjdmnhgnpfaaMBRef
namespace Go.Proofs.Ytpapjdmnhgnpfaa
open Go.RowKit Go.Deep Go.Shelf
def rsendE (n : Nat) (D : Dl) (f t : Int) : Int := if (hasB n f && hasB n t) = true then (if f = t then 170 else if 64 ≤ (boxD D t).length then 2 else 0) else 1
def rsendD (n : Nat) (D : Dl) (f t k a : Int) : Dl := if rsendE n D f t = 0 then D ++ [⟨t, ⟨f, k, a⟩⟩] else D
section
variable {w0 w w' : World} {r k n : Nat} {D : Dl} {R : List Th} {u : Value}
theorem Sep.newDrop {Q : List Th} (h : Sep w0 r w R) (k : Sep w w.heap.size w' Q) : Sep w0 r w' R := h.below k.low
set_option maxHeartbeats 4000000 in
set_option maxRecDepth 100000 in
theorem rsend_sep (s : Sep w0 r w (blk k (objR n u) :: lstT u D :: R)) (hl : D.length ≤ 1000) (f t a b : Int) :
    Calls Try.prog 12 #[ptr k, .int .i64 f, .int .i64 t, .int .i64 a, .int .i64 b] w fun e w' => e = .returned (.int .i64 (rsendE n D f t)) ∧ ∃ u', Sep w0 r w' (blk k (objR n u') :: lstT u' (rsendD n D f t a b) :: R) := by
  have HF := hid (ris_any s f)
  have HT := hid (ris_any s t)
  have HB := hid (rbox_new s hl t)
  have HE : Hid (rsendE n D f t = if (hasB n f && hasB n t) = true then (if f = t then 170 else if 64 ≤ (boxD D t).length then 2 else 0) else 1) := rfl
  have HD : Hid (rsendD n D f t a b = if rsendE n D f t = 0 then D ++ [⟨t, ⟨f, a, b⟩⟩] else D) := rfl
  cases h1 : hasB n f with
  | false =>
    rw [h1] at HF HE
    have HX : Hid (rsendE n D f t = 1 ∧ rsendD n D f t a b = D) := ⟨HE.out, by rw [HD.out, HE.out]; rfl⟩
    have S1 := hid s
    clear s h1 HT HB HE HD
    go_enter Try.func12, Try.ntmps12
    go_wp2_with (go_at_call 26; refine Calls.mono HF.out ?_; rintro e w1 ⟨rfl, hw⟩; subst hw)
    go_ret
    rw [HX.out.1, HX.out.2]
    exact ⟨rfl, _, S1.out⟩
  | true =>
    rw [h1] at HF HE
    cases h2 : hasB n t with
    | false =>
      rw [h2] at HT HE
      have HX : Hid (rsendE n D f t = 1 ∧ rsendD n D f t a b = D) := ⟨HE.out, by rw [HD.out, HE.out]; rfl⟩
      have S1 := hid s
      clear s h1 h2 HB HE HD
      go_enter Try.func12, Try.ntmps12
      go_wp2_with (go_at_call 26; first | (with_reducible refine Calls.mono HF.out ?_; rintro e w1 ⟨rfl, hw⟩; subst hw) | (with_reducible refine Calls.mono HT.out ?_; rintro e w1 ⟨rfl, hw⟩; subst hw))
      go_ret
      rw [HX.out.1, HX.out.2]
      exact ⟨rfl, _, S1.out⟩
    | true =>
      rw [h2] at HT HE
      by_cases e : f = t
      · have HX : Hid (rsendE n D f t = 170 ∧ rsendD n D f t a b = D) := by
          have : rsendE n D f t = 170 := by rw [HE.out]; simp [e]
          exact ⟨this, by rw [HD.out, this]; rfl⟩
        have S1 := hid s
        have e1 : (f == t) = true := by simpa using e
        clear s h1 h2 HB HE HD e
        go_enter Try.func12, Try.ntmps12
        go_wp2_with (go_at_call 26; first | (with_reducible refine Calls.mono HF.out ?_; rintro e w1 ⟨rfl, hw⟩; subst hw) | (with_reducible refine Calls.mono HT.out ?_; rintro e w1 ⟨rfl, hw⟩; subst hw))
        go_ret
        rw [HX.out.1, HX.out.2]
        exact ⟨rfl, _, S1.out⟩
      · have e1 : (f == t) = false := by simpa using e
        obtain ⟨z, hz⟩ : ∃ z, (boxD D t).length = z := ⟨_, rfl⟩
        have HBz : Hid (Calls Try.prog 20 #[ptr k, .int .i64 t] w fun e w' => ∃ ao cap, e = .returned (.slice ao z cap) ∧ Below w.heap.size w w') := HB.out.mono fun e w' ⟨v, he, k⟩ => by
          obtain ⟨ao, cap, rfl⟩ := k.listIs (E := elM) (v := v) (A := boxD D t) (by simp)
          rw [hz] at he
          exact ⟨ao, cap, he, k.low⟩
        by_cases hf : 64 ≤ z
        · have HX : Hid (rsendE n D f t = 2 ∧ rsendD n D f t a b = D) := by
            have : rsendE n D f t = 2 := by rw [HE.out, hz]; simp [e, hf]
            exact ⟨this, by rw [HD.out, this]; rfl⟩
          have S1 := hid s
          have hfz : (z : Int) ≥ 64 := by omega
          clear s h1 h2 HB HE HD e hz hf
          go_enter Try.func12, Try.ntmps12
          go_wp2_with (first
            | (go_at_call 26; first | (with_reducible refine Calls.mono HF.out ?_; rintro e w1 ⟨rfl, hw⟩; subst hw) | (with_reducible refine Calls.mono HT.out ?_; rintro e w1 ⟨rfl, hw⟩; subst hw))
            | (go_at_call 20; refine Calls.mono HBz.out ?_; rintro e w2 ⟨a2, k2, rfl, b2⟩; have S2 := hid (S1.out.below b2); clear b2 S1))
          go_ret
          rw [HX.out.1, HX.out.2]
          exact ⟨rfl, _, S2.out⟩
        · have HX : Hid (rsendE n D f t = 0 ∧ rsendD n D f t a b = D ++ [⟨t, ⟨f, a, b⟩⟩]) := by
            have : rsendE n D f t = 0 := by rw [HE.out, hz]; simp [e, hf]
            exact ⟨this, by rw [HD.out, this]; rfl⟩
          have S1 := hid s
          have hfz : ¬ ((z : Int) ≥ 64) := by omega
          obtain ⟨ao, cap, rfl⟩ := s.listIs (E := elT) (v := u) (A := D) (by simp)
          have HL := hid hl
          clear s h1 h2 HB HE HD e hz hf hl
          go_enter Try.func12, Try.ntmps12
          go_wp2_with (first
            | (go_at_call 26; first | (with_reducible refine Calls.mono HF.out ?_; rintro e w1 ⟨rfl, hw⟩; subst hw) | (with_reducible refine Calls.mono HT.out ?_; rintro e w1 ⟨rfl, hw⟩; subst hw))
            | fail)
          refine Calls.mono HBz.out ?_
          rintro e w2 ⟨a2, k2, rfl, b2⟩
          have s2 := S1.out.below b2
          obtain ⟨-, c1, -⟩ := s2.cellsR
          obtain ⟨v4, w4, r4, s4⟩ := s2.swap.more okT 52 ⟨t, ⟨f, a, b⟩⟩ (C := #[.int .i64 t, .int .i64 f, .int .i64 a, .int .i64 b]) rfl (by have := HL.out; omega)
          obtain ⟨D2, hD2⟩ : ∃ D2 : Dl, D ++ [⟨t, ⟨f, a, b⟩⟩] = D2 := ⟨_, rfl⟩
          rw [hD2] at s4 HX
          obtain ⟨a4, k4, rfl⟩ := s4.listIs (E := elT) (v := v4) (A := D2) (by simp)
          obtain ⟨-, c4, fz⟩ := s4.swap.cellsR
          have S5 := hid (s4.swap.putR (v' := .slice a4 D2.length k4))
          clear hD2
          simp only [elT] at r4
          have R4 := hid r4
          clear s2 s4 r4 b2 S1
          generalize D2.length = m4 at *
          generalize D.length = m2 at *
          go_wp2_with (at_builtin; refine wpList_append_run rfl _ _ _ _ rfl _ _ _ _ rfl rfl R4.out ?_)
          go_ret
          rw [HX.out.1, HX.out.2]
          exact ⟨rfl, _, S5.out⟩
end
end Go.Proofs.Ytpapjdmnhgnpfaa

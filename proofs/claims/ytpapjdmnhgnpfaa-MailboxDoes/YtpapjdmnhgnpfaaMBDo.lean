/-
  The document's calls answer as the program's do, and their boxes stay the same ones; a list of messages that is written over; no condition.
-/
import Derived.Test.YtpapjdmnhgnpfaaMBRAll
import Derived.Test.YtpapjdmnhgnpfaaMBRTake
import Derived.Test.YtpapjdmnhgnpfaaMBSay
import Derived.Test.YtpapjdmnhgnpfaaGQuiet
namespace Go.Proofs.Ytpapjdmnhgnpfaa
open Go.RowKit Go.Deep Go.Shelf
theorem rsend_rel {n : Nat} {L : St} {D : Dl} (h : Rel n L D) (g : Good n L) (f t k a : Int) : rsendE n D f t = sendE n L f t ∧ Rel n (sendS n L f t k a) (rsendD n D f t k a) := by
  have hb := h.boxL g t
  have hE : rsendE n D f t = sendE n L f t := by
    unfold rsendE sendE postE
    by_cases h1 : (hasB n f && hasB n t) = true
    · rw [if_pos h1, if_pos h1]
      obtain ⟨h3, h4⟩ := Bool.and_eq_true_iff.1 h1
      obtain ⟨h5, h6⟩ := has_iff.1 h4
      obtain ⟨i, rfl⟩ : ∃ i : Nat, t = (i : Int) := ⟨t.toNat, by omega⟩
      rw [boxL_nat] at hb
      rw [Int.toNat_natCast, ← hb]
      by_cases h2 : f = (i : Int)
      · rw [if_pos h2, if_pos h2]
      · rw [if_neg h2, if_neg h2]
        simp [fullB]
    · rw [if_neg h1, if_neg h1]
  refine ⟨hE, ?_⟩
  have := h.send g f t k a
  unfold rsendD
  rw [hE]
  exact this
theorem rall_rel {n : Nat} {L : St} {D : Dl} (h : Rel n L D) (g : Good n L) (f k a : Int) : rallE n D f = allE n L f ∧ Rel n (allS n L f k a) (rallD n D f k a) := by
  have hf : fullD D (othersN n f) = fullB L (othersN n f) := by
    have key : ∀ T : List Nat, (∀ c ∈ T, c < n) → fullD D T = fullB L T := fun T => by
      induction T with
      | nil => intro _; rfl
      | cons c T ih =>
        intro hT
        have h1 := ih fun x hx => hT x (by simp [hx])
        unfold fullD fullB at *
        rw [List.any_cons, List.any_cons, h1, h.box c (hT c (by simp))]
    exact key _ fun c hc => (others_mem.1 hc).1
  have hE : rallE n D f = allE n L f := by
    unfold rallE allE postE
    rw [hf]
  refine ⟨hE, ?_⟩
  have := h.all g f k a
  unfold rallD
  rw [hE]
  exact this
theorem rtake_rel {n : Nat} {L : St} {D : Dl} (h : Rel n L D) (g : Good n L) (c : Int) : rtM D c = takeM L c ∧ rtB D c = takeB L c ∧ Rel n (takeS L c) (takeD D c) := by
  have hb := h.boxL g c
  refine ⟨?_, ?_, h.take g c⟩
  · unfold rtM takeM
    rw [hb]
    by_cases hk : firstK D c < D.length
    · obtain ⟨_, a2, _⟩ := boxD_first (List.getElem?_eq_getElem hk)
      rw [List.getElem?_eq_getElem hk, a2]
      rfl
    · rw [List.getElem?_eq_none (by omega), boxD_none (by omega)]
      rfl
  · unfold rtB takeB
    rw [hb]
    by_cases hk : firstK D c < D.length
    · obtain ⟨_, a2, _⟩ := boxD_first (List.getElem?_eq_getElem hk)
      rw [a2]
      simpa using hk
    · rw [boxD_none (by omega)]
      simpa using hk
/-- A list of n messages that is written over. -/
def anyM (v : Value) (n : Nat) : Th where
  F := fun x => v.ownBlock = some x
  H := fun w => ∃ A : Bx, A.length = n ∧ RowM w v A
  lt := fun _ ⟨_, _, h⟩ _ hx => h.lt hx
  keep := fun _ _ ⟨A, e, h⟩ k => ⟨A, e, h.keep k⟩
section
variable {w0 w : World} {r : Nat} {R : List Th}
theorem Sep.anyM {v : Value} {A : Bx} (h : Sep w0 r w (lstM v A :: R)) : Sep w0 r w (Go.Proofs.Ytpapjdmnhgnpfaa.anyM v A.length :: R) :=
  h.turn (t' := Go.Proofs.Ytpapjdmnhgnpfaa.anyM v A.length) ⟨A, rfl, h.head⟩ (Turn.refl _ _) fun _ hx => .inl hx
theorem Sep.overM {ao : Option Addr} {n cap : Nat} (h : Sep w0 r w (Go.Proofs.Ytpapjdmnhgnpfaa.anyM (.slice ao n cap) n :: R)) {j : Nat} (hj : j < n) : ∃ g, ao = some ⟨g, 0, none⟩ ∧ (∃ y, w.cell? ⟨g, j * 3 + 1, none⟩ = some (.int .i64 y)) ∧ w.frozen? ⟨g, j * 3 + 1, none⟩ = false ∧ ∀ x, Sep w0 r (w.setCell ⟨g, j * 3 + 1, none⟩ (.int .i64 x)) (Go.Proofs.Ytpapjdmnhgnpfaa.anyM (.slice ao n cap) n :: R) := by
  obtain ⟨A, hA, row⟩ := h.head
  obtain ⟨ao', cap', ev, _, _, hg, _⟩ := row.slice
  cases ev
  obtain ⟨g, rfl⟩ := hg j (by omega)
  have hj2 : j < A.length := by omega
  have hx := List.getElem?_eq_getElem hj2
  generalize A[j] = y at hx
  refine ⟨g, rfl, ⟨y.k, Row.cell okM row hx (j := 1) rfl⟩, Row.frozen row _, fun x => h.turn (t' := Go.Proofs.Ytpapjdmnhgnpfaa.anyM _ _) ⟨A.set j ⟨y.f, x, y.a⟩, by rw [List.length_set], ?_⟩ (Turn.setCell _ _ _ _ rfl) fun _ hx => .inl hx⟩
  exact Row.set okM row hx (j := 1) (c := .int .i64 x) (y := ⟨y.f, x, y.a⟩) (by decide) rfl
end
end Go.Proofs.Ytpapjdmnhgnpfaa

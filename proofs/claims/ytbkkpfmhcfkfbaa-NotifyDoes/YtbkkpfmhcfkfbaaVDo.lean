/-
  The document's calls beside the program's, over one state; things in another order; no condition but that few wait.
-/
import Derived.Test.YtbkkpfmhcfkfbaaVRDo
import Derived.Test.YtbkkpfmhcfkfbaaVLaw
namespace Go.Proofs.Ytbkkpfmhcfkfbaa
open Go.RowKit Go.Deep Go.Shelf
section
variable {w0 w : World} {r : Nat} {R : List Th} {a b c d e f : Th}
theorem Sep.last1 (h : Sep w0 r w (a :: R)) : Sep w0 r w (R ++ [a]) := h.perm (List.perm_append_comm (l₁ := [a]) (l₂ := R))
theorem Sep.front1 (h : Sep w0 r w (R ++ [a])) : Sep w0 r w (a :: R) := h.perm (List.perm_append_comm (l₁ := R) (l₂ := [a]))
end
theorem rel_0 : Rel [] ns0 := ⟨rfl, rfl⟩
theorem b_sig_nil {B : List Int} {S : Ns} (h : Rel B S) (hl : S.l = []) (g : Int) : Rel (B ++ [g]) (sigS S g) := by
  obtain ⟨b, w, l⟩ := S
  obtain rfl : l = [] := hl
  exact ⟨by rw [orL_app, h.w]; rfl, by simp [sigS]⟩
theorem b_sig_cons {B : List Int} {S : Ns} {x : Int} {T : List Int} (h : Rel B S) (hl : S.l = x :: T) (g : Int) : Rel B (sigS S g) ∧ (sigS S g).l = T := by
  obtain ⟨b, w, l⟩ := S
  obtain rfl : l = x :: T := hl
  exact ⟨⟨h.w, h.b⟩, rfl⟩
theorem b_wait {B : List Int} {S : Ns} (h : Rel B S) (n : Int) (z : Bool) : rwW B S.l n = waitW S n ∧ rwQ B S.l n = waitB S n ∧ rwE S.l n = waitE S n ∧ rwL B S.l n z = (waitS S n z).l ∧ Rel (rwB B S.l n) (waitS S n z) := by
  have ht : S.l.contains n = thB S n := rfl
  have hb := h.b
  have hw := h.w
  unfold rwW rwQ rwE rwL rwB waitW waitB waitE waitS
  rw [ht]
  cases h1 : thB S n
  · cases h2 : S.b
    · rw [h2] at hb
      have h0 : ¬ 0 < B.length := of_decide_eq_false hb
      have h00 : B = [] := List.length_eq_zero_iff.1 (by omega)
      subst h00
      cases z
      · refine ⟨by simp, by simp, by simp, by simp, ⟨by simpa using hw, by simp [h2]⟩⟩
      · refine ⟨by simp, by simp, by simp, by simp, ⟨by simpa using hw, by simp⟩⟩
    · rw [h2] at hb
      have h0 : 0 < B.length := of_decide_eq_true hb
      refine ⟨by simp [h0, hw], by simp [h0], by simp, by simp [h0], ⟨by simp [orL], by simp⟩⟩
  · exact ⟨by simp, by simp, by simp, by simp, by simpa using h⟩
section
variable {w0 w : World} {r k : Nat} {a b : Value} {B : List Int} {S : Ns} {R : List Th}
theorem rsignal_is (s : Sep w0 r w (blk k (objR a b) :: lstU a B :: lstI b S.l :: R)) (h : Rel B S) (g : Int) (hB : B.length ≤ 1000) (hl : S.l.length ≤ 1000) {n x : Int} {q : Bool} {T : Ns} (hn : sigN S = n) (hx : sigW S g = x) (hq : sigB S = q) (hT : sigS S g = T) :
    Calls Try.prog 11 #[ptr k, .int .u64 g] w fun e w' => e = .returned (.tuple #[.int .i64 n, .int .u64 x, .bool q]) ∧ ∃ a' b' B', Rel B' T ∧ B'.length ≤ B.length + 1 ∧ Sep w0 r w' (blk k (objR a' b') :: lstU a' B' :: lstI b' T.l :: R) := by
  subst hn hx hq hT
  obtain ⟨β, y, l⟩ := S
  cases l with
  | nil => exact (rsignal_nil s g hB).mono fun e w' ⟨he, a', s'⟩ => ⟨he, a', b, _, b_sig_nil h rfl g, by simp, s'⟩
  | cons x T => exact (rsignal_cons s g hl).mono fun e w' ⟨he, b', s'⟩ => ⟨he, a, b', B, (b_sig_cons h rfl g).1, by omega, s'⟩
theorem rwait_is (s : Sep w0 r w (blk k (objR a b) :: lstU a B :: lstI b S.l :: R)) (h : Rel B S) (n : Int) (z : Bool) (hB : B.length ≤ 1000) (hl : S.l.length ≤ 1000) {x e0 : Int} {q : Bool} {T : Ns} (hx : waitW S n = x) (hq : waitB S n = q) (he : waitE S n = e0) (hT : waitS S n z = T) :
    Calls Try.prog 13 #[ptr k, .int .i64 n, .bool z] w fun e w' => e = .returned (.tuple #[.int .u64 x, .bool q, .int .i64 e0]) ∧ ∃ a' b' B', Rel B' T ∧ B'.length ≤ B.length + 1 ∧ Sep w0 r w' (blk k (objR a' b') :: lstU a' B' :: lstI b' T.l :: R) := by
  subst hx hq he hT
  obtain ⟨b1, b2, b3, b4, b5⟩ := b_wait h n z
  have := rwait_sep s n z hB hl
  rw [b1, b2, b3, b4] at this
  exact this.mono fun e w' ⟨he, a', b', s'⟩ => ⟨he, a', b', _, b5, by unfold rwB; split <;> simp, s'⟩
theorem rcancel_is (s : Sep w0 r w (blk k (objR a b) :: lstU a B :: lstI b S.l :: R)) (h : Rel B S) (n : Int) (hl : S.l.length ≤ 1000) {q : Bool} {T : Ns} (hq : thB S n = q) (hT : canS S n = T) :
    Calls Try.prog 15 #[ptr k, .int .i64 n] w fun e w' => e = .returned (.bool q) ∧ ∃ a' b' B', Rel B' T ∧ B'.length ≤ B.length + 1 ∧ Sep w0 r w' (blk k (objR a' b') :: lstU a' B' :: lstI b' T.l :: R) := by
  subst hq hT
  have := rcancel_sep s n hl
  rw [out_less] at this
  exact this.mono fun e w' ⟨he, b', s'⟩ => ⟨he, a, b', B, ⟨h.w, h.b⟩, by omega, s'⟩
theorem rword_is (s : Sep w0 r w (blk k (objR a b) :: lstU a B :: R)) (h : Rel B S) (hB : B.length ≤ 1000) {x : Int} {q : Bool} (hx : S.w = x) (hq : S.b = q) :
    Calls Try.prog 18 #[ptr k] w fun e w' => e = .returned (.tuple #[.int .u64 x, .bool q]) ∧ Sep w0 r w' (blk k (objR a b) :: lstU a B :: R) := by
  subst hx hq
  have := rword_any s hB
  rw [h.w, h.b] at this
  exact this.mono fun e w' ⟨he, b⟩ => ⟨he, s.below b⟩
end
end Go.Proofs.Ytbkkpfmhcfkfbaa

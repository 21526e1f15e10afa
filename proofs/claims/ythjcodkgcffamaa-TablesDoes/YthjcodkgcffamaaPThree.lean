/-
  A space of three tables: how it comes, what it holds, what it is when one is dropped and put in again; no condition of ours.
-/
import Derived.Test.YthjcodkgcffamaaPTab
namespace Go.Proofs.Ythjcodkgcffamaa
def thr : Nat → Sp
  | 0 => sp0
  | k + 1 => tabS (thr k) (k : Int) (10 + (k : Int))
def thrT : Sp := ⟨upd (upd (upd (fun _ => none) 0 (some 10)) 1 (some 11)) 2 (some 12), fun _ => none⟩
theorem thr_next {k : Nat} (hk : k < 3) : tabE (thr k) (k : Int) (10 + (k : Int)) = 0 ∧ tabS (thr k) (k : Int) (10 + (k : Int)) = thr (k + 1) := by
  have : k = 0 ∨ k = 1 ∨ k = 2 := by omega
  rcases this with rfl | rfl | rfl
  all_goals exact ⟨by kernel_rfl, rfl⟩
theorem thr_is : thr 3 = thrT := by kernel_rfl
theorem thr_at {j : Nat} (hj : j < 3) : thrT.t (j : Int) = some (10 + (j : Int)) := by
  have : j = 0 ∨ j = 1 ∨ j = 2 := by omega
  rcases this with rfl | rfl | rfl
  all_goals rfl
theorem thr_of {i m : Int} (h : thrT.t i = some m) : 0 ≤ i ∧ i < 3 ∧ m = 10 + i := by
  unfold thrT upd at h
  simp only at h
  split at h
  · cases h; omega
  · split at h
    · cases h; omega
    · split at h
      · cases h; omega
      · cases h
theorem map_t (S : Sp) (n : Int) (p : Pg) : (mapS S n p).t = S.t := by
  unfold mapS
  split <;> rfl
theorem three_drop {T : Sp} (ht : T.t = thrT.t) {n : Nat} (hn : n < 3) :
    drpE T n = 0 ∧ drpL T n = (allP T.f).filter (fun x => x.1 / 64 == (n : Int)) ∧ drpS T n = ⟨upd T.t n none, outP T.f n⟩ ∧
    tabE ⟨upd T.t n none, outP T.f n⟩ n (10 + (n : Int)) = 0 ∧ tabS ⟨upd T.t n none, outP T.f n⟩ n (10 + (n : Int)) = ⟨upd (upd T.t n none) n (some (10 + (n : Int))), outP T.f n⟩ ∧
    hasN ⟨upd (upd T.t n none) n (some (10 + (n : Int))), outP T.f n⟩ n = 10 + (n : Int) ∧ hasB ⟨upd (upd T.t n none) n (some (10 + (n : Int))), outP T.f n⟩ n = true ∧
    allP (outP T.f n) = (allP T.f).filter fun x => !(x.1 / 64 == (n : Int)) := by
  have e1 : drpE T n = 0 := by
    unfold drpE
    rw [if_neg (by omega), ht, thr_at hn]
    rfl
  have e2 : tabE ⟨upd T.t n none, outP T.f n⟩ n (10 + (n : Int)) = 0 := by
    unfold tabE
    rw [if_neg (by omega), if_neg]
    rintro (h | h)
    · simp [upd] at h
    · obtain ⟨k, _, hk⟩ := anyT_true.1 h
      simp only [upd] at hk
      split at hk
      · cases hk
      · rw [ht] at hk
        have := thr_of hk
        omega
  refine ⟨e1, ?_, ?_, e2, ?_, by simp [hasN, upd], by simp [hasB, upd], drp_rest _⟩
  · unfold drpL
    rw [if_pos e1, Int.toNat_natCast]
    exact drp_own n (by omega)
  · unfold drpS
    rw [if_pos e1]
  · unfold tabS
    rw [if_pos e2]
open Go.RowKit Go.Deep Go.Shelf
theorem Sep.made2 {w0 w : World} {r : Nat} {t : Th} {R : List Th} (h : Sep w0 r w (t :: R)) : Sep w0 r ((w.alloc (.cells #[] 53)).alloc (.cells #[] 53)) (t :: lstL (.slice (some ⟨w.heap.size, 0, none⟩) 0 0) [] :: lstL (.slice (some ⟨w.heap.size + 1, 0, none⟩) 0 0) [] :: R) := by
  have h1 := (Sep.made (E := elL) (Sep.made (E := elL) h)).third.swap
  have e9 : (w.alloc (.cells #[] elL.e)).heap.size = w.heap.size + 1 := by simp
  rw [e9] at h1
  exact h1.perm (List.Perm.cons _ (List.Perm.refl _))
theorem Sep.rot2 {w0 w : World} {r : Nat} {a b c d : Th} {R : List Th} (h : Sep w0 r w (a :: b :: c :: d :: R)) : Sep w0 r w (c :: d :: a :: b :: R) :=
  h.perm (List.Perm.append_right R (List.perm_append_comm (l₁ := [a, b]) (l₂ := [c, d])))
end Go.Proofs.Ythjcodkgcffamaa

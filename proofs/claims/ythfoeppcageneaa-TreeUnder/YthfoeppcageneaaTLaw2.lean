/-
  A place out of a list by a remainder; what stands apart, with one more told beside it; no condition of ours.
-/
import Derived.Test.YthfoeppcageneaaTLaw
import Derived.Test.YthfoeppcageneaaTPure
namespace Go.Proofs.Ythfoeppcageneaa
set_option linter.unusedSectionVars false
variable [DecidableEq Sl]
open Go.RowKit Go.Deep Go.Shelf
theorem rem_nat (k : Nat) (d : Nat) (hd : 0 < d) : ∃ n : Nat, n < d ∧ (k : Int) % (d : Int) = (n : Int) := by
  have h1 : 0 ≤ (k : Int) % (d : Int) := Int.emod_nonneg _ (by omega)
  have h2 : (k : Int) % (d : Int) < (d : Int) := Int.emod_lt_of_pos _ (by omega)
  exact ⟨((k : Int) % (d : Int)).toNat, by omega, by omega⟩
theorem under_le (S : St) (s : Sl) : (underS S s).length ≤ S.length := by
  unfold underS
  split
  · rw [all_len]
    unfold underN
    rw [List.length_take, List.length_drop]
    omega
  · simp
theorem eq_yes (s : Sl) (W : World) : (Op.equalIn 10000 31 (.agg #[.int .i64 s.n, .int .i64 s.i]) (.agg #[.int .i64 s.n, .int .i64 s.i])).run Try.prog W = .ok true W := by
  have h := eq_slots W s s
  simpa using h
theorem same_self (A : List Sl) : sameB A A = true := by simp [sameB]
theorem Sep.boxed {w0 : World} {r : Nat} {w : World} {t : Th} {R : List Th} (h : Sep w0 r w (t :: R)) (o : Obj) : Sep w0 r (w.alloc o) (t :: blk w.heap.size o :: R) := (h.box o).swap
section
variable {w0 : World} {r : Nat} {w : World} {p : Nat} {v : Value} {S : St} {R : List Th}
theorem under_is (s : Sl) (U : List Sl) (h : Sep w0 r w (trT p v S :: R)) (hl : S.length ≤ 1000) (hU : underS S s = U) :
    Calls Try.prog 15 #[.pointer (some ⟨p, 0, none⟩), .agg #[.int .i64 s.n, .int .i64 s.i]] w fun e w' => ∃ ao cap, e = .returned (.slice ao U.length cap) ∧ Sep w0 r w' (trT p v S :: lstS (.slice ao U.length cap) U :: R) := by
  subst hU
  exact under_sep s h hl
theorem all_is (A : List Sl) (h : Sep w0 r w (trT p v S :: R)) (hl : S.length ≤ 1000) (hA : allS S = A) :
    Calls Try.prog 14 #[.pointer (some ⟨p, 0, none⟩)] w fun e w' => ∃ ao cap, e = .returned (.slice ao A.length cap) ∧ Sep w0 r w' (trT p v S :: lstS (.slice ao A.length cap) A :: R) := by
  subst hA
  exact all_sep h hl
theorem parent_is (s t : Sl) (b : Bool) (h : Sep w0 r w (trT p v S :: R)) (hl : S.length ≤ 1000) (ht : parS S s = t) (hb : parB S s = b) :
    Calls Try.prog 16 #[.pointer (some ⟨p, 0, none⟩), .agg #[.int .i64 s.n, .int .i64 s.i]] w fun e w' => e = .returned (.tuple #[.agg #[.int .i64 t.n, .int .i64 t.i], .bool b]) ∧ Sep w0 r w' (trT p v S :: R) := by
  subst ht hb
  exact parent_sep s h hl
theorem add_is (a s : Sl) (E : Int) (T : St) (h : Sep w0 r w (trT p v S :: R)) (hl : S.length ≤ 1000) (hE : addE S a s = E) (hT : addS S a s = T) :
    Calls Try.prog 24 #[.pointer (some ⟨p, 0, none⟩), .agg #[.int .i64 a.n, .int .i64 a.i], .agg #[.int .i64 s.n, .int .i64 s.i]] w fun e w' => e = .returned (.int .i64 E) ∧ ∃ v', Sep w0 r w' (trT p v' T :: R) := by
  subst hE hT
  exact add_sep a s h hl
theorem take_is (s : Sl) (E : Int) (T : St) (h : Sep w0 r w (trT p v S :: R)) (hl : S.length ≤ 1000) (hE : takeE S s = E) (hT : takeS S s = T) :
    Calls Try.prog 11 #[.pointer (some ⟨p, 0, none⟩), .agg #[.int .i64 s.n, .int .i64 s.i]] w fun e w' => e = .returned (.int .i64 E) ∧ ∃ v', Sep w0 r w' (trT p v' T :: R) := by
  subst hE hT
  exact take_sep s h hl
theorem move_is (a s : Sl) (E : Int) (T : St) (h : Sep w0 r w (trT p v S :: R)) (hl : S.length ≤ 1000) (hE : moveE S a s = E) (hT : moveS S a s = T) :
    Calls Try.prog 23 #[.pointer (some ⟨p, 0, none⟩), .agg #[.int .i64 a.n, .int .i64 a.i], .agg #[.int .i64 s.n, .int .i64 s.i]] w fun e w' => e = .returned (.int .i64 E) ∧ ∃ v', Sep w0 r w' (trT p v' T :: R) := by
  subst hE hT
  exact move_sep a s h hl
theorem among_is {ao : Option Addr} {cap : Nat} {A : List Sl} (s : Sl) (b : Bool) (h : Sep w0 r w R) (hm : lstS (.slice ao A.length cap) A ∈ R) (hl : A.length ≤ 1000) (hb : amongB A s = b) :
    Calls Try.prog 22 #[.slice ao A.length cap, .agg #[.int .i64 s.n, .int .i64 s.i]] w fun e w' => e = .returned (.bool b) ∧ Sep w0 r w' R := by
  subst hb
  exact among_sep s h hm rfl hl
theorem same_is {ao bo : Option Addr} {cap cap' : Nat} {A : List Sl} (h : Sep w0 r w R) (hm : lstS (.slice ao A.length cap) A ∈ R) (hm' : lstS (.slice bo A.length cap') A ∈ R) (hl : A.length ≤ 1000) :
    Calls Try.prog 18 #[.slice ao A.length cap, .slice bo A.length cap'] w fun e w' => e = .returned (.bool true) ∧ Sep w0 r w' R := by
  have := same_sep (A := A) (B := A) h hm hm' rfl rfl hl
  rw [same_self] at this
  exact this
end
end Go.Proofs.Ythfoeppcageneaa

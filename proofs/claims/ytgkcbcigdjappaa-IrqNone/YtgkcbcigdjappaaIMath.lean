/-
  Plain facts on lines, without the program: each is unbound, open, told, or raised meanwhile, with a notification and a badge; what each call answers, and makes of them; no condition.
-/
import Derived.WalkKit
namespace Go.Proofs.Ytgkcbcigdjappaa

def U64 (x : Int) : Prop := 0 ≤ x ∧ x ≤ 18446744073709551615
/-- What a line is: unbound, open, told, or raised meanwhile. -/
abbrev Is := Option (Option Bool)
def num : Is → Int
  | none => 0
  | some none => 1
  | some (some false) => 2
  | some (some true) => 3
/-- A line: what it is, its notification, its badge. -/
structure Ln where
  s : Is
  a : Int
  g : Int
def ln0 : Ln := ⟨none, 0, 0⟩
def atI (S : List Ln) (n : Int) : Option Ln := if 0 ≤ n then S[n.toNat]? else none
def putI (S : List Ln) (n : Int) (x : Ln) : List Ln := S.set n.toNat x
def raiseX (x : Ln) : Ln := match x.s with
  | none => x
  | some none => ⟨(some (some false)), x.a, x.g⟩
  | some (some false) => ⟨(some (some true)), x.a, x.g⟩
  | some (some true) => x
def ackX (x : Ln) : Ln := match x.s with
  | none => x
  | some none => x
  | some (some false) => ⟨(some none), x.a, x.g⟩
  | some (some true) => ⟨(some (some false)), x.a, x.g⟩
def isO (x : Ln) : Bool := match x.s with
  | some none => true
  | _ => false
def isM (x : Ln) : Bool := match x.s with
  | some (some true) => true
  | _ => false
def isU (x : Ln) : Bool := match x.s with
  | none => true
  | _ => false
/-! ### Bind, Free -/
def bindE (S : List Ln) (n a : Int) : Int := match atI S n with
  | none => 130
  | some x => if a < 0 then 1 else if isU x = true then 0 else 131
def bindS (S : List Ln) (n a g : Int) : List Ln := match atI S n with
  | none => S
  | some x => if a < 0 then S else if isU x = true then putI S n ⟨(some none), a, g⟩ else S
def freeE (S : List Ln) (n : Int) : Int := match atI S n with
  | none => 130
  | some x => if isU x = true then 131 else 0
def freeS (S : List Ln) (n : Int) : List Ln := match atI S n with
  | none => S
  | some x => if isU x = true then S else putI S n ln0
/-! ### Raise, Ack: told by a line, or not -/
def telE (S : List Ln) (n : Int) : Int := match atI S n with
  | none => 130
  | some _ => 0
def telB (f : Ln → Bool) (S : List Ln) (n : Int) : Bool := match atI S n with
  | none => false
  | some x => f x
def telA (f : Ln → Bool) (S : List Ln) (n : Int) : Int := match atI S n with
  | none => 0
  | some x => if f x = true then x.a else 0
def telG (f : Ln → Bool) (S : List Ln) (n : Int) : Int := match atI S n with
  | none => 0
  | some x => if f x = true then x.g else 0
def telS (h : Ln → Ln) (S : List Ln) (n : Int) : List Ln := match atI S n with
  | none => S
  | some x => putI S n (h x)
/-! ### Facts -/
theorem put_len (S : List Ln) (n : Int) (x : Ln) : (putI S n x).length = S.length := by simp [putI]
theorem bind_len (S : List Ln) (n a g : Int) : (bindS S n a g).length = S.length := by
  unfold bindS
  split
  · rfl
  · split
    · rfl
    · split
      · exact put_len _ _ _
      · rfl
theorem free_len (S : List Ln) (n : Int) : (freeS S n).length = S.length := by
  unfold freeS
  split
  · rfl
  · split
    · rfl
    · exact put_len _ _ _
theorem tel_len (h : Ln → Ln) (S : List Ln) (n : Int) : (telS h S n).length = S.length := by
  unfold telS
  split
  · rfl
  · exact put_len _ _ _
theorem atI_some {S : List Ln} {n : Int} {x : Ln} (h : atI S n = some x) : 0 ≤ n ∧ n < S.length ∧ S[n.toNat]? = some x := by
  unfold atI at h
  split at h
  · rename_i h0
    have := (List.getElem?_eq_some_iff.1 h).1
    exact ⟨h0, by omega, h⟩
  · cases h
theorem atI_none {S : List Ln} {n : Int} (h : atI S n = none) : n < 0 ∨ (0 ≤ n ∧ (S.length : Int) ≤ n) := by
  unfold atI at h
  split at h
  · rename_i h0
    have := List.getElem?_eq_none_iff.1 h
    exact .inr ⟨h0, by omega⟩
  · rename_i h0
    exact .inl (by omega)
theorem atI_nat (S : List Ln) (k : Nat) : atI S (k : Int) = S[k]? := by simp [atI]
theorem atI_out {S : List Ln} {n : Int} (h : n < 0 ∨ (S.length : Int) ≤ n) : atI S n = none := by
  unfold atI
  split
  · rw [List.getElem?_eq_none_iff]
    omega
  · rfl
theorem atI_put {S : List Ln} {n m : Int} {x : Ln} (h : m ≠ n) (hn : 0 ≤ n) (hm : 0 ≤ m) : atI (putI S n x) m = atI S m := by
  unfold atI putI
  rw [if_pos hm, if_pos hm, List.getElem?_set_ne]
  omega
/-- What is done to a line makes no difference to another one. -/
theorem bind_other (S : List Ln) {n m : Int} (a g : Int) (h : m ≠ n) (hm : 0 ≤ m) : atI (bindS S n a g) m = atI S m := by
  unfold bindS
  cases e : atI S n with
  | none => rfl
  | some x =>
    simp only
    split
    · rfl
    · split
      · exact atI_put h (atI_some e).1 hm
      · rfl
theorem free_other (S : List Ln) {n m : Int} (h : m ≠ n) (hm : 0 ≤ m) : atI (freeS S n) m = atI S m := by
  unfold freeS
  cases e : atI S n with
  | none => rfl
  | some x =>
    simp only
    split
    · rfl
    · exact atI_put h (atI_some e).1 hm
theorem tel_other (f : Ln → Ln) (S : List Ln) {n m : Int} (h : m ≠ n) (hm : 0 ≤ m) : atI (telS f S n) m = atI S m := by
  unfold telS
  cases e : atI S n with
  | none => rfl
  | some x => exact atI_put h (atI_some e).1 hm
end Go.Proofs.Ytgkcbcigdjappaa

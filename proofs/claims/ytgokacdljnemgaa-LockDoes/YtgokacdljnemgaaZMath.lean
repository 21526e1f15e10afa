/-
  The line of cores that want the lock, and what the calls of package lock make of it; the chain of those ahead; no condition.
-/
import Derived.Test.YtgokacdljnemgaaRows
namespace Go.Proofs.Ytgokacdljnemgaa
abbrev St := List Int
/-- Cores of n, each once. -/
structure Good (n : Nat) (L : St) : Prop where
  pos : 1 ≤ n
  top : n ≤ 8
  all : ∀ x ∈ L, 0 ≤ x ∧ x < (n : Int)
  one : L.Nodup
theorem good_nil {n : Nat} (h1 : 1 ≤ n) (h2 : n ≤ 8) : Good n [] := ⟨h1, h2, fun x hx => by simp at hx, List.nodup_nil⟩
theorem erase_len (a : Int) : ∀ L : St, L.Nodup → L.length ≤ (L.filter fun x => !(x == a)).length + 1
  | [], _ => by simp
  | x :: L, h => by
    obtain ⟨h1, h2⟩ := List.nodup_cons.1 h
    by_cases e : x = a
    · have : (L.filter fun x => !(x == a)) = L := by
        rw [List.filter_eq_self]
        intro y hy
        have : ¬ y = a := fun e2 => h1 (by rw [e, ← e2]; exact hy)
        simp [this]
      rw [List.filter_cons, if_neg (by simp [e]), this]
      simp
    · have := erase_len a L h2
      rw [List.filter_cons, if_pos (by simp [e])]
      simp only [List.length_cons]
      omega
theorem nodup_len : ∀ (n : Nat) (L : St), (∀ x ∈ L, 0 ≤ x ∧ x < (n : Int)) → L.Nodup → L.length ≤ n
  | 0, L, h, _ => by
    cases L with
    | nil => simp
    | cons x L =>
      have := h x (by simp)
      omega
  | n + 1, L, h, hn => by
    have h1 := nodup_len n (L.filter fun x => !(x == (n : Int))) (fun x hx => by
      obtain ⟨h2, h3⟩ := List.mem_filter.1 hx
      have := h x h2
      have : ¬ x = (n : Int) := by simpa using h3
      omega) (List.Pairwise.filter _ hn)
    have h2 := erase_len (n : Int) L hn
    omega
theorem Good.len {n : Nat} {L : St} (h : Good n L) : L.length ≤ n := nodup_len n L h.all h.one
theorem Good.few {n : Nat} {L : St} (h : Good n L) : L.length ≤ 8 := Nat.le_trans h.len h.top
theorem Good.tail {n : Nat} {x : Int} {L : St} (h : Good n (x :: L)) : Good n L := ⟨h.pos, h.top, fun y hy => h.all y (List.mem_cons_of_mem _ hy), (List.nodup_cons.1 h.one).2⟩
def hasB (n : Nat) (c : Int) : Bool := decide (0 ≤ c) && decide (c < (n : Int))
def inB (L : St) (c : Int) : Bool := L.contains c
def firstI (L : St) : Int := L.headD (-1)
def enterE (n : Nat) (L : St) (c : Int) : Int := if hasB n c = true then (if inB L c = true then 160 else 0) else 1
def enterS (n : Nat) (L : St) (c : Int) : St := if hasB n c = true then (if inB L c = true then L else L ++ [c]) else L
def probeE (n : Nat) (L : St) (c : Int) : Int := if hasB n c = true then (if inB L c = true then 0 else 161) else 1
def probeB (n : Nat) (L : St) (c : Int) : Bool := hasB n c && (firstI L == c)
def leaveE (n : Nat) (L : St) (c : Int) : Int := if hasB n c = true then (if firstI L == c then 0 else 161) else 1
def leaveS (n : Nat) (L : St) (c : Int) : St := if hasB n c = true then (if firstI L == c then L.tail else L) else L
def holdN (L : St) : Int := L.headD 0
def holdB (L : St) : Bool := !L.isEmpty
def aheadI (L : St) (c : Int) : Int := if L.findIdx (fun x => x == c) < L.length then ((L.findIdx (fun x => x == c) : Nat) : Int) else -1
theorem has_iff {n : Nat} {c : Int} : hasB n c = true ↔ 0 ≤ c ∧ c < (n : Int) := by simp [hasB]
theorem in_iff {L : St} {c : Int} : inB L c = true ↔ c ∈ L := by simp [inB]
theorem Good.enter {n : Nat} {L : St} (h : Good n L) {c : Int} (h1 : hasB n c = true) (h2 : inB L c = false) : Good n (L ++ [c]) := by
  refine ⟨h.pos, h.top, fun x hx => ?_, ?_⟩
  · rcases List.mem_append.1 hx with hx | hx
    · exact h.all x hx
    · rw [List.mem_singleton] at hx
      subst hx
      exact has_iff.1 h1
  · refine List.nodup_append.2 ⟨h.one, by simp, fun a ha b hb e => ?_⟩
    rw [List.mem_singleton] at hb
    subst hb
    subst e
    rw [in_iff.2 ha] at h2
    cases h2
/-! ### The chain -/
/-- From t on, by who is ahead of whom, stand the cores M. -/
def Chain (a : Int → Int) : Int → St → Prop
  | t, [] => t = -1
  | t, x :: M => t = x ∧ Chain a (a x) M
def findI (q : Int → Bool) (M : St) : Int := (M.find? q).getD (-1)
def askN (q : Int → Bool) (M : St) : Nat := min (M.findIdx q + 1) M.length
def upd (a : Int → Int) (x v : Int) : Int → Int := fun y => if y = x then v else a y
theorem Chain.upd {a : Int → Int} {x v : Int} : ∀ {M : St} {t : Int}, Chain a t M → x ∉ M → Chain (upd a x v) t M
  | [], _, h, _ => h
  | y :: M, _, ⟨h1, h2⟩, hn => by
    have hy : y ≠ x := fun e => hn (by rw [e]; exact List.mem_cons_self)
    refine ⟨h1, ?_⟩
    have : Go.Proofs.Ytgokacdljnemgaa.upd a x v y = a y := if_neg hy
    rw [this]
    exact Chain.upd h2 fun h => hn (List.mem_cons_of_mem _ h)
theorem Chain.last {a : Int → Int} {y c : Int} : ∀ {M : St} {t : Int}, Chain a t (M ++ [y, c]) → (M ++ [y, c]).Nodup → Chain (Go.Proofs.Ytgokacdljnemgaa.upd a y (-1)) t (M ++ [y])
  | [], _, ⟨h1, _⟩, _ => ⟨h1, if_pos rfl⟩
  | x :: M, _, ⟨h1, h2⟩, hn => by
    obtain ⟨n1, n2⟩ := List.nodup_cons.1 hn
    have hx : x ≠ y := fun e => n1 (by rw [e]; simp)
    refine ⟨h1, ?_⟩
    have : Go.Proofs.Ytgokacdljnemgaa.upd a y (-1) x = a x := if_neg hx
    rw [this]
    exact Chain.last h2 n2
theorem find_cons_no {q : Int → Bool} {x : Int} {M : St} (h : q x = false) : findI q (x :: M) = findI q M := by
  unfold findI
  rw [List.find?_cons_of_neg (by simp [h])]
theorem find_cons_yes {q : Int → Bool} {x : Int} {M : St} (h : q x = true) : findI q (x :: M) = x := by
  unfold findI
  rw [List.find?_cons_of_pos h]
  rfl
theorem first_app {A : St} {x : Int} (h : A ≠ []) : firstI (A ++ [x]) = firstI A := by
  cases A with
  | nil => exact absurd rfl h
  | cons y A => rfl
/-- Who has nobody ahead is the first one of the line. -/
theorem chain_first {a : Int → Int} : ∀ {M : St} {t : Int}, Chain a t M → (∀ x ∈ M, 0 ≤ x) → findI (fun x => a x == -1) M = firstI M.reverse
  | [], _, _, _ => rfl
  | [x], _, ⟨_, h2⟩, _ => by
    have : a x = -1 := h2
    exact find_cons_yes (by simp [this])
  | x :: y :: M, _, ⟨_, h2⟩, hp => by
    have hy : a x = y := h2.1
    have hy0 := hp y (by simp)
    rw [find_cons_no (by simp [hy]; omega), chain_first h2 fun z hz => hp z (List.mem_cons_of_mem _ hz), List.reverse_cons (a := x), first_app (by simp)]
/-- Who has the first one right ahead is the second one of the line. -/
theorem chain_next {a : Int → Int} {c : Int} : ∀ {M : St} {t : Int}, Chain a t (M ++ [c]) → (M ++ [c]).Nodup → (∀ x ∈ M ++ [c], 0 ≤ x) → findI (fun x => a x == c) (M ++ [c]) = firstI M.reverse
  | [], _, ⟨_, h2⟩, _, hp => by
    have h3 : a c = -1 := h2
    have := hp c (by simp)
    show findI (fun x => a x == c) [c] = -1
    rw [find_cons_no (by simp [h3]; omega)]
    rfl
  | [x], _, ⟨_, h2⟩, _, _ => by
    have : a x = c := h2.1
    exact find_cons_yes (by simp [this])
  | x :: y :: M, _, ⟨_, h2⟩, hn, hp => by
    have hy : a x = y := h2.1
    obtain ⟨n1, n2⟩ := List.nodup_cons.1 hn
    have hyc : y ≠ c := fun e => by
      have := (List.nodup_cons.1 n2).1
      apply this
      rw [e]
      simp
    have e1 : findI (fun z => a z == c) (x :: y :: M ++ [c]) = findI (fun z => a z == c) (y :: M ++ [c]) := find_cons_no (by simp [hy, hyc])
    rw [e1, chain_next h2 n2 fun z hz => hp z (List.mem_cons_of_mem _ hz), List.reverse_cons (a := x), first_app (by simp)]
theorem find_in {M : St} (hp : ∀ x ∈ M, 0 ≤ x) (c : Int) : (findI (fun x => x == c) M != -1) = M.contains c := by
  induction M with
  | nil => rfl
  | cons x M ih =>
    by_cases h : x = c
    · rw [find_cons_yes (by simp [h])]
      have := hp x (by simp)
      simp [h]
      omega
    · rw [find_cons_no (by simp [h]), ih fun z hz => hp z (List.mem_cons_of_mem _ hz)]
      have : ¬ c = x := fun e => h e.symm
      simp [this]
end Go.Proofs.Ytgokacdljnemgaa

/-
  What the laws of this layer share: a tree laid by a script beside what the law holds itself; no condition of ours.
-/
import Derived.Test.YthfoeppcageneaaTFrame
import Derived.Test.YthfoeppcageneaaTFixed
namespace Go.Proofs.Ythfoeppcageneaa
set_option linter.unusedSectionVars false
variable [DecidableEq Sl]
open Go.RowKit Go.Deep Go.Shelf
theorem Sep.rebase {w W1 w2 : World} {r : Nat} {R R' : List Th} (k : Sep w r W1 R') (h : Sep W1 W1.heap.size w2 R) : Sep w r w2 (R ++ R') := by
  refine ⟨Below.then k.low h.low k.size, Nat.le_trans k.size h.size, fun t ht => ?_, List.pairwise_append.2 ⟨h.apart, k.apart, fun a ha b hb x hx hx' => ?_⟩⟩
  · rcases List.mem_append.1 ht with ht | ht
    · exact ⟨(h.each t ht).1, fun x hx => Nat.le_trans k.size ((h.each t ht).2 x hx)⟩
    · exact ⟨t.below (k.each t ht).1 h.low, (k.each t ht).2⟩
  · have h1 := (h.each a ha).2 x hx
    have h2 := b.lt W1 (k.each b hb).1 x hx'
    omega
theorem laid_sep {w W1 : World} {r : Nat} {R : List Th} (ao : Option Addr) (X : List Oc) (cap : Nat) (k : Sep w r W1 R) (hX : Script w ao X) (hr : w.heap.size = r) :
    Calls Try.prog 21 #[.slice ao X.length cap] W1 fun e w' => ∃ p v S, e = .returned (.pointer (some ⟨p, 0, none⟩)) ∧ S.length ≤ 40 ∧ Good S ∧ Sep w r w' (trT p v S :: R) := by
  refine (laid_any ao X cap W1 (fun i x hx => ?_)).mono fun e w' ⟨p, v, S, he, h1, h2, h3⟩ => ⟨p, v, S, he, h1, h2, k.rebase h3⟩
  obtain ⟨b, o, e, hb, hc⟩ := hX i x hx
  exact ⟨b, o, e, Nat.lt_of_lt_of_le hb k.low.size, fun j hj => (k.low.cell (p := ⟨b, o + i * 5 + j, none⟩) (by simp only; omega)).trans (hc j hj)⟩
section
variable {w0 : World} {r : Nat} {w : World} {R : List Th}
theorem fixed_sep (h : Sep w0 r w R) : Calls Try.prog 20 #[] w fun e w' => e = .returned (.bool true) ∧ Sep w0 r w' R :=
  (fixed_any w).mono fun _ _ ⟨he, b⟩ => ⟨he, h.below b⟩
theorem among_sep {ao : Option Addr} {n cap : Nat} {A : List Sl} (s : Sl) (h : Sep w0 r w R) (hm : lstS (.slice ao n cap) A ∈ R) (hn : A.length = n) (hl : n ≤ 1000) :
    Calls Try.prog 22 #[.slice ao n cap, encS s] w fun e w' => e = .returned (.bool (amongB A s)) ∧ Sep w0 r w' R := by
  subst hn
  exact (among_any ao cap A s w (RowS.see (h.each _ hm).1) hl).mono fun _ _ ⟨he, b⟩ => ⟨he, h.below b⟩
theorem same_sep {ao bo : Option Addr} {n m cap cap' : Nat} {A B : List Sl} (h : Sep w0 r w R) (hm : lstS (.slice ao n cap) A ∈ R) (hm' : lstS (.slice bo m cap') B ∈ R) (hn : A.length = n) (hn' : B.length = m) (hl : n ≤ 1000) :
    Calls Try.prog 18 #[.slice ao n cap, .slice bo m cap'] w fun e w' => e = .returned (.bool (sameB A B)) ∧ Sep w0 r w' R := by
  subst hn hn'
  exact (same_any ao bo cap cap' A B w (RowS.see (h.each _ hm).1) (RowS.see (h.each _ hm').1) hl).mono fun _ _ ⟨he, b⟩ => ⟨he, h.below b⟩
theorem Sep.slotAt {q : Nat} {s : Sl} (h : Sep w0 r w R) (hm : blk q (objS s) ∈ R) : w.cell? ⟨q, 0, none⟩ = some (.int .i64 s.n) ∧ w.cell? ⟨q, 1, none⟩ = some (.int .i64 s.i) := AtS.cells (h.each _ hm).1
theorem Sep.listAt {ao : Option Addr} {n cap : Nat} {A : List Sl} (h : Sep w0 r w R) (hm : lstS (.slice ao n cap) A ∈ R) {k : Nat} {s : Sl} (hk : A[k]? = some s) : ∃ b, ao = some ⟨b, 0, none⟩ ∧ w.cell? ⟨b, k * 2, none⟩ = some (.int .i64 s.n) ∧ w.cell? ⟨b, k * 2 + 1, none⟩ = some (.int .i64 s.i) := by
  obtain ⟨b, e, _, h0, h1⟩ := RowS.see (h.each _ hm).1 k s hk
  exact ⟨b, e, h0, h1⟩
end
theorem all_len (S : St) : (allS S).length = S.length := by unfold allS; simp
theorem all_get {S : St} {k : Nat} (h : k < S.length) : (allS S)[k]? = some (slt S k) := by
  unfold allS
  rw [List.getElem?_map, atE_some h]
  rfl
end Go.Proofs.Ythfoeppcageneaa

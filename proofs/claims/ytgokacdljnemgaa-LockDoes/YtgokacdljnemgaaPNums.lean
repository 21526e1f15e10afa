/-
  What Nums of the document's answer says of two rows of ints: whether they are the same; a list that is written over; no condition but that they are short.
-/
import Derived.Test.YtgokacdljnemgaaGInts
namespace Go.Proofs.Ytgokacdljnemgaa
open Go.RowKit Go.Deep Go.Shelf
/-- The ints A lie where the slice leads to. -/
def SeeI (w : World) (ao : Option Addr) (A : List Int) : Prop := ∀ i x, A[i]? = some x → ∃ b o, ao = some ⟨b, o, none⟩ ∧ b < w.heap.size ∧ w.cell? ⟨b, o + i, none⟩ = some (.int .i64 x)
theorem SeeI.below {w w' : World} {ao : Option Addr} {A : List Int} (h : SeeI w ao A) (k : Below w.heap.size w w') : SeeI w' ao A := fun i x hx => by
  obtain ⟨b, o, e, hb, hc⟩ := h i x hx
  exact ⟨b, o, e, Nat.lt_of_lt_of_le hb k.size, (k.cell (p := ⟨b, o + i, none⟩) hb).trans hc⟩
theorem RowI.see {w : World} {ao : Option Addr} {n cap : Nat} {A : List Int} (h : RowI w (.slice ao n cap) A) : SeeI w ao A := fun i x hx => by
  obtain ⟨ao', cap', e, _, _, hg, _⟩ := Row.slice h
  cases e
  obtain ⟨g, rfl⟩ := hg i (List.getElem?_eq_some_iff.1 hx).1
  exact ⟨g, 0, rfl, Row.lt h rfl, by rw [Nat.zero_add]; exact RowI.cell h hx⟩
/-- The same, behind the first one. -/
theorem RowI.seeTail {w : World} {g n cap : Nat} {x : Int} {A : List Int} (h : RowI w (.slice (some ⟨g, 0, none⟩) n cap) (x :: A)) : SeeI w (some ⟨g, 1, none⟩) A := fun i y hy => by
  refine ⟨g, 1, rfl, Row.lt h rfl, ?_⟩
  rw [Nat.add_comm]
  exact RowI.cell h (i := i + 1) (by simpa using hy)
theorem see_nil (w : World) (ao : Option Addr) : SeeI w ao [] := fun i x hx => by simp at hx
set_option maxHeartbeats 1000000 in
theorem nums_see (ao bo : Option Addr) (ca cb : Nat) (A B : List Int) (w : World) (ha : SeeI w ao A) (hb : SeeI w bo B) (hl : A.length ≤ 5000) :
    Calls Try.prog 21 #[.slice ao A.length ca, .slice bo B.length cb] w fun e w' => e = .returned (.bool (decide (A = B))) ∧ Below w.heap.size w w' := by
  by_cases hlen : A.length = B.length
  · have HA := hid ha
    have HB := hid hb
    have HE : Hid (∀ k, k ≤ A.length → (∀ j, j < k → A[j]? = B[j]?) → k = A.length → A = B) := fun k _ h e => by
      apply List.ext_getElem?
      intro j
      by_cases hj : j < k
      · exact h j hj
      · rw [List.getElem?_eq_none (by omega), List.getElem?_eq_none (by omega)]
    clear ha hb
    have HLB := hid hlen
    have hn' : B.length = A.length := hlen.symm
    rw [hn']
    clear hlen hn'
    generalize hn : A.length = n at *
    go_enter Try.func21, Try.ntmps21
    go_wp2
    go_loopw [5] (fun i wr => ∃ k : Nat, k ≤ n ∧ i = .int .i64 k ∧ Below w.heap.size w wr ∧ Hid (∀ j, j < k → A[j]? = B[j]?)) (fun i _ => n - (intOf i).toNat)
    case atStart => exact ⟨0, Nat.zero_le _, rfl, Below.refl _ _, fun j hj => by omega⟩
    case round =>
      obtain ⟨k, hk, rfl, bel, HJ⟩ := hrel
      by_cases hlt : k < n
      · have hA : k < A.length := by omega
        have hB : k < B.length := by have := HLB.out; omega
        obtain ⟨g, o, rfl, -, c1⟩ := (HA.out.below bel) k _ (List.getElem?_eq_getElem hA)
        obtain ⟨g', o', rfl, -, c2⟩ := (HB.out.below bel) k _ (List.getElem?_eq_getElem hB)
        have HEQ : Hid (A[k]? = some A[k] ∧ B[k]? = some B[k]) := ⟨List.getElem?_eq_getElem hA, List.getElem?_eq_getElem hB⟩
        generalize A[k] = x at *
        generalize B[k] = y at *
        have hltz : (k : Int) < (n : Int) := by omega
        have HBel := hid bel
        clear bel
        by_cases hxy : x = y
        · subst hxy
          go_wp2_with fail
          go_quiet (fail)
          go_wp2
          go_round
          case rel => exact ⟨k + 1, by omega, by go_num, below_drewN HBel.out _, fun j hj => by
            by_cases e : j = k
            · rw [e, HEQ.out.1, HEQ.out.2]
            · exact HJ.out j (by omega)⟩
          case measure => simp [intOf]; omega
        · have hne : (x == y) = false := by simpa using hxy
          have hne2 : (x != y) = true := by simpa using hxy
          have HN : Hid (decide (A = B) = false) := by
            show decide (A = B) = false
            rw [decide_eq_false_iff_not]
            intro e
            have := HEQ.out
            rw [e] at this
            exact hxy (Option.some.inj (this.1.symm.trans this.2))
          go_wp2_with fail
          go_quiet (fail)
          go_wp2
          go_ret
          exact ⟨ret_one (congrArg Value.bool HN.out.symm), below_drewN HBel.out _⟩
      · obtain rfl : k = n := by omega
        have HBel := hid bel
        have HN : Hid (decide (A = B) = true) := by
          show decide (A = B) = true
          rw [decide_eq_true_eq]
          exact HE.out k (Nat.le_refl _) HJ.out rfl
        clear bel
        go_wp2
        go_ret
        exact ⟨ret_one (congrArg Value.bool HN.out.symm), HBel.out⟩
  · have hne : decide (A = B) = false := by
      rw [decide_eq_false_iff_not]
      intro e
      exact hlen (by rw [e])
    rw [hne]
    have hne1 : ¬ ((A.length : Int) = (B.length : Int)) := by omega
    clear ha hb hne
    generalize A.length = n at *
    generalize B.length = m at *
    go_enter Try.func21, Try.ntmps21
    go_wp2
    go_ret
    exact ⟨rfl, Below.refl _ _⟩
theorem nums_any (u v : Value) (A B : List Int) (w : World) (ha : RowI w u A) (hb : RowI w v B) (hl : A.length ≤ 5000) :
    Calls Try.prog 21 #[u, v] w fun e w' => e = .returned (.bool (decide (A = B))) ∧ Below w.heap.size w w' := by
  obtain ⟨ao, ca, rfl, _⟩ := Row.slice ha
  obtain ⟨bo, cb, rfl, _⟩ := Row.slice hb
  exact nums_see ao bo ca cb A B w (RowI.see ha) (RowI.see hb) hl
theorem nums_is {w0 w : World} {r : Nat} {R : List Th} {u v : Value} {A B : List Int} (h : Sep w0 r w R) (hu : lstI u A ∈ R) (hv : lstI v B ∈ R) (hl : A.length ≤ 5000) (e : A = B) :
    Calls Try.prog 21 #[u, v] w fun e w' => e = .returned (.bool true) ∧ Sep w0 r w' R := by
  subst e
  have := nums_any u v A A w (h.each _ hu).1 (h.each _ hv).1 hl
  rw [decide_eq_true rfl] at this
  exact this.mono fun _ _ ⟨he, b⟩ => ⟨he, h.below b⟩
theorem nums_sep {w0 w : World} {r : Nat} {R : List Th} {u v : Value} {A B : List Int} (h : Sep w0 r w R) (hu : lstI u A ∈ R) (hv : lstI v B ∈ R) (hl : A.length ≤ 5000) :
    Calls Try.prog 21 #[u, v] w fun e w' => e = .returned (.bool (decide (A = B))) ∧ Sep w0 r w' R :=
  (nums_any u v A B w (h.each _ hu).1 (h.each _ hv).1 hl).mono fun _ _ ⟨he, b⟩ => ⟨he, h.below b⟩
/-- A list of n ints that is written over. -/
def anyI (v : Value) (n : Nat) : Th where
  F := fun x => v.ownBlock = some x
  H := fun w => ∃ A : List Int, A.length = n ∧ RowI w v A
  lt := fun _ ⟨_, _, h⟩ _ hx => h.lt hx
  keep := fun _ _ ⟨A, e, h⟩ k => ⟨A, e, h.keep k⟩
section
variable {w0 w : World} {r : Nat} {R : List Th}
theorem Sep.any {v : Value} {A : List Int} (h : Sep w0 r w (lstI v A :: R)) : Sep w0 r w (anyI v A.length :: R) :=
  h.turn (t' := anyI v A.length) ⟨A, rfl, h.head⟩ (Turn.refl _ _) fun _ hx => .inl hx
theorem Sep.over {ao : Option Addr} {n cap : Nat} (h : Sep w0 r w (anyI (.slice ao n cap) n :: R)) {j : Nat} (hj : j < n) : ∃ g, ao = some ⟨g, 0, none⟩ ∧ (∃ y, w.cell? ⟨g, j, none⟩ = some (.int .i64 y)) ∧ w.frozen? ⟨g, j, none⟩ = false ∧ ∀ x, Sep w0 r (w.setCell ⟨g, j, none⟩ (.int .i64 x)) (anyI (.slice ao n cap) n :: R) := by
  obtain ⟨A, hA, row⟩ := h.head
  obtain ⟨ao', cap', ev, _, _, hg, _⟩ := row.slice
  cases ev
  obtain ⟨g, rfl⟩ := hg j (by omega)
  have hj2 : j < A.length := by omega
  have hx := List.getElem?_eq_getElem hj2
  refine ⟨g, rfl, ⟨A[j], RowI.cell row hx⟩, Row.frozen row j, fun x => h.turn (t' := anyI _ _) ⟨A.set j x, by rw [List.length_set], ?_⟩ (Turn.setCell _ _ _ _ rfl) fun _ hx => .inl hx⟩
  have := Row.set okI row hx (j := 0) (c := .int .i64 x) (y := x) (by decide) rfl
  rw [show elI.k = 1 from rfl, Nat.mul_one, Nat.add_zero] at this
  exact this
end
end Go.Proofs.Ytgokacdljnemgaa

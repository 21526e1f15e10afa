/-
  What Nums of the document's answer says of two rows of ints: whether they are the same; no condition but that they are short.
-/
import Derived.Test.YtnjmjhmngjodcaaDoorQMore
import Derived.Test.YtnjmjhmngjodcaaDoorQLists
namespace Go.Proofs.YtnjmjhmngjodcaaDoor
open Go.RowKit Go.Deep Go.Shelf

set_option maxHeartbeats 1000000 in
theorem nums_any (u v : Value) (A B : List Int) (w : World) (ha : RowI w u A) (hb : RowI w v B) (hl : A.length ≤ 1000) :
    Calls Tryd.prog 22 #[u, v] w fun e w' => e = .returned (.bool (decide (A = B))) ∧ Below w.heap.size w w' := by
  obtain ⟨ao, ca, rfl, _, _, ga, _⟩ := ha.slice
  obtain ⟨bo, cb, rfl, _, _, gb, _⟩ := hb.slice
  by_cases hlen : A.length = B.length
  · have HA := hid ha
    have HB := hid hb
    have HGA := hid ga
    have HGB := hid gb
    have HE : Hid (∀ k, k ≤ A.length → (∀ j, j < k → A[j]? = B[j]?) → k = A.length → A = B) := fun k _ h e => by
      apply List.ext_getElem?
      intro j
      by_cases hj : j < k
      · exact h j hj
      · rw [List.getElem?_eq_none (by omega), List.getElem?_eq_none (by omega)]
    clear ha hb ga gb
    have HLB := hid hlen
    rw [← hlen] at HGB HB
    have hn' : B.length = A.length := hlen.symm
    rw [hn']
    clear hlen hn'
    generalize hn : A.length = n at *
    go_enter Tryd.func22, Tryd.ntmps22
    go_wp2
    go_loopw [5] (fun i wr => ∃ k : Nat, k ≤ n ∧ i = .int .i64 k ∧ Below w.heap.size w wr ∧ Hid (∀ j, j < k → A[j]? = B[j]?)) (fun i _ => n - (intOf i).toNat)
    case atStart => exact ⟨0, Nat.zero_le _, rfl, Below.refl _ _, fun j hj => by omega⟩
    case round =>
      obtain ⟨k, hk, rfl, bel, HJ⟩ := hrel
      by_cases hlt : k < n
      · obtain ⟨g, rfl⟩ := HGA.out k hlt
        obtain ⟨g', rfl⟩ := HGB.out k hlt
        have hA : k < A.length := by omega
        have hB : k < B.length := by have := HLB.out; omega
        have c1 := (HA.out.below bel).cell (List.getElem?_eq_getElem hA)
        have c2 := (HB.out.below bel).cell (List.getElem?_eq_getElem hB)
        have HEQ : Hid (A[k]? = some A[k] ∧ B[k]? = some B[k]) := ⟨List.getElem?_eq_getElem hA, List.getElem?_eq_getElem hB⟩
        generalize A[k] = x at *
        generalize B[k] = y at *
        have hltz : (k : Int) < (n : Int) := by omega
        have HBel := hid bel
        clear bel
        by_cases hxy : x = y
        · subst hxy
          go_wp2_with fail
          go_quiet (fail)
          go_wp2
          go_round
          case rel => exact ⟨k + 1, by omega, by go_num, below_drewN HBel.out _, fun j hj => by
            by_cases e : j = k
            · rw [e, HEQ.out.1, HEQ.out.2]
            · exact HJ.out j (by omega)⟩
          case measure => simp [intOf]; omega
        · have hne : (x == y) = false := by simpa using hxy
          have hne2 : (x != y) = true := by simpa using hxy
          have HN : Hid (decide (A = B) = false) := by
            show decide (A = B) = false
            rw [decide_eq_false_iff_not]
            intro e
            have := HEQ.out
            rw [e] at this
            exact hxy (Option.some.inj (this.1.symm.trans this.2))
          go_wp2_with fail
          go_quiet (fail)
          go_wp2
          go_ret
          exact ⟨ret_one (congrArg Value.bool HN.out.symm), below_drewN HBel.out _⟩
      · obtain rfl : k = n := by omega
        have HBel := hid bel
        have HN : Hid (decide (A = B) = true) := by
          show decide (A = B) = true
          rw [decide_eq_true_eq]
          exact HE.out k (Nat.le_refl _) HJ.out rfl
        clear bel
        go_wp2
        go_ret
        exact ⟨ret_one (congrArg Value.bool HN.out.symm), HBel.out⟩
  · have hne : decide (A = B) = false := by
      rw [decide_eq_false_iff_not]
      intro e
      exact hlen (by rw [e])
    rw [hne]
    have hne1 : ¬ ((A.length : Int) = (B.length : Int)) := by omega
    clear ha hb ga gb hne
    generalize A.length = n at *
    generalize B.length = m at *
    go_enter Tryd.func22, Tryd.ntmps22
    go_wp2
    go_ret
    exact ⟨rfl, Below.refl _ _⟩
theorem nums_grw {w0 w : World} {r : Nat} {R : List Th} {u v : Value} {A B : List Int} {p : Grw w} (h : Sep w0 r w R) (hu : lstI u A ∈ R) (hv : lstI v B ∈ R) (hl : A.length ≤ 1000) (e : A = B) :
    Calls Tryd.prog 22 #[u, v] p.val fun e w'' => e = .returned (.bool true) ∧ ∃ p' : Grw w, w'' = p'.val := by
  subst e
  have := nums_any u v A A p.val ((h.grw p).each _ hu).1 ((h.grw p).each _ hv).1 hl
  rw [decide_eq_true rfl] at this
  exact grw_of this
theorem nums_is {w0 w : World} {r : Nat} {R : List Th} {u v : Value} {A B : List Int} (h : Sep w0 r w R) (hu : lstI u A ∈ R) (hv : lstI v B ∈ R) (hl : A.length ≤ 1000) (e : A = B) :
    Calls Tryd.prog 22 #[u, v] w fun e w' => e = .returned (.bool true) ∧ Sep w0 r w' R := by
  subst e
  have := nums_any u v A A w (h.each _ hu).1 (h.each _ hv).1 hl
  rw [decide_eq_true rfl] at this
  exact this.mono fun _ _ ⟨he, b⟩ => ⟨he, h.below b⟩
end Go.Proofs.YtnjmjhmngjodcaaDoor

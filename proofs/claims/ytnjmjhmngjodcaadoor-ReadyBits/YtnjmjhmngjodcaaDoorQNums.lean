/-
  What Nums of the document's answer says of two rows of ints: whether they are the same; no condition but that they are short.
-/
import Derived.Test.YtnjmjhmngjodcaaDoorQMore
namespace Go.Proofs.YtnjmjhmngjodcaaDoor
open Go.RowKit Go.Deep Go.Shelf

set_option maxHeartbeats 1000000 in
theorem nums_any (u v : Value) (A B : List Int) (w : World) (ha : RowI w u A) (hb : RowI w v B) (hl : A.length ≤ 1000) :
    Calls Tryd.prog 22 #[u, v] w fun e w' => e = .returned (.bool (decide (A = B))) ∧ Below w.heap.size w w' := by
  obtain ⟨ao, ca, rfl, _, _, ga, _⟩ := ha.slice
  obtain ⟨bo, cb, rfl, _, _, gb, _⟩ := hb.slice
  by_cases hlen : A.length = B.length
  · have HA := hid ha
    have HB := hid hb
    have HGA := hid ga
    have HGB := hid gb
    have HE : Hid (∀ k, k ≤ A.length → (∀ j, j < k → A[j]? = B[j]?) → k = A.length → A = B) := fun k _ h e => by
      apply List.ext_getElem?
      intro j
      by_cases hj : j < k
      · exact h j hj
      · rw [List.getElem?_eq_none (by omega), List.getElem?_eq_none (by omega)]
    clear ha hb ga gb
    have HLB := hid hlen
    rw [← hlen] at HGB HB
    have hn' : B.length = A.length := hlen.symm
    rw [hn']
    clear hlen hn'
    generalize hn : A.length = n at *
    go_enter Tryd.func22, Tryd.ntmps22
    go_wp2
    go_loopw [5] (fun i wr => ∃ k : Nat, k ≤ n ∧ i = .int .i64 k ∧ Below w.heap.size w wr ∧ Hid (∀ j, j < k → A[j]? = B[j]?)) (fun i _ => n - (intOf i).toNat)
    case atStart => exact ⟨0, Nat.zero_le _, rfl, Below.refl _ _, fun j hj => by omega⟩
    case round =>
      obtain ⟨k, hk, rfl, bel, HJ⟩ := hrel
      by_cases hlt : k < n
      · obtain ⟨g, rfl⟩ := HGA.out k hlt
        obtain ⟨g', rfl⟩ := HGB.out k hlt
        have hA : k < A.length := by omega
        have hB : k < B.length := by have := HLB.out; omega
        have c1 := (HA.out.below bel).cell (List.getElem?_eq_getElem hA)
        have c2 := (HB.out.below bel).cell (List.getElem?_eq_getElem hB)
        have HEQ : Hid (A[k]? = some A[k] ∧ B[k]? = some B[k]) := ⟨List.getElem?_eq_getElem hA, List.getElem?_eq_getElem hB⟩
        generalize A[k] = x at *
        generalize B[k] = y at *
        have hltz : (k : Int) < (n : Int) := by omega
        have HBel := hid bel
        clear bel
        by_cases hxy : x = y
        · subst hxy
          go_wp2_with fail
          go_quiet (fail)
          go_wp2
          go_round
          case rel => exact ⟨k + 1, by omega, by go_num, below_drewN HBel.out _, fun j hj => by
            by_cases e : j = k
            · rw [e, HEQ.out.1, HEQ.out.2]
            · exact HJ.out j (by omega)⟩
          case measure => simp [intOf]; omega
        · have hne : (x == y) = false := by simpa using hxy
          have hne2 : (x != y) = true := by simpa using hxy
          have HN : Hid (decide (A = B) = false) := by
            show decide (A = B) = false
            rw [decide_eq_false_iff_not]
            intro e
            have := HEQ.out
            rw [e] at this
            exact hxy (Option.some.inj (this.1.symm.trans this.2))
          go_wp2_with fail
          go_quiet (fail)
          go_wp2
          go_ret
          exact ⟨ret_one (congrArg Value.bool HN.out.symm), below_drewN HBel.out _⟩
      · obtain rfl : k = n := by omega
        have HBel := hid bel
        have HN : Hid (decide (A = B) = true) := by
          show decide (A = B) = true
          rw [decide_eq_true_eq]
          exact HE.out k (Nat.le_refl _) HJ.out rfl
        clear bel
        go_wp2
        go_ret
        exact ⟨ret_one (congrArg Value.bool HN.out.symm), HBel.out⟩
  · have hne : decide (A = B) = false := by
      rw [decide_eq_false_iff_not]
      intro e
      exact hlen (by rw [e])
    rw [hne]
    have hne1 : ¬ ((A.length : Int) = (B.length : Int)) := by omega
    clear ha hb ga gb hne
    generalize A.length = n at *
    generalize B.length = m at *
    go_enter Tryd.func22, Tryd.ntmps22
    go_wp2
    go_ret
    exact ⟨rfl, Below.refl _ _⟩
theorem nums_grw {w0 w : World} {r : Nat} {R : List Th} {u v : Value} {A B : List Int} {p : Grw w} (h : Sep w0 r w R) (hu : lstI u A ∈ R) (hv : lstI v B ∈ R) (hl : A.length ≤ 1000) (e : A = B) :
    Calls Tryd.prog 22 #[u, v] p.val fun e w'' => e = .returned (.bool true) ∧ ∃ p' : Grw w, w'' = p'.val := by
  subst e
  have := nums_any u v A A p.val ((h.grw p).each _ hu).1 ((h.grw p).each _ hv).1 hl
  rw [decide_eq_true rfl] at this
  exact grw_of this
theorem nums_is {w0 w : World} {r : Nat} {R : List Th} {u v : Value} {A B : List Int} (h : Sep w0 r w R) (hu : lstI u A ∈ R) (hv : lstI v B ∈ R) (hl : A.length ≤ 1000) (e : A = B) :
    Calls Tryd.prog 22 #[u, v] w fun e w' => e = .returned (.bool true) ∧ Sep w0 r w' R := by
  subst e
  have := nums_any u v A A w (h.each _ hu).1 (h.each _ hv).1 hl
  rw [decide_eq_true rfl] at this
  exact this.mono fun _ _ ⟨he, b⟩ => ⟨he, h.below b⟩
/-! ### Lists that a law makes -/
section
variable {w0 w : World} {r : Nat} {R : List Th}
theorem Sep.madeI (h : Sep w0 r w R) : Sep w0 r (w.alloc (.cells #[] 3)) (lstI (.slice (some ⟨w.heap.size, 0, none⟩) 0 0) [] :: R) :=
  h.new (t := lstI (.slice (some ⟨w.heap.size, 0, none⟩) 0 0) []) (own_low (World.ownsRow_made w #[] 0 (Nat.le_refl _) (by unfold maxLen; omega) rfl)) (below_new _ _) fun x hx => by
    have : some w.heap.size = some x := hx
    cases this
    exact Nat.le_refl _
theorem Sep.more {u : Value} {A : List Int} (h : Sep w0 r w (lstI u A :: R)) (n : Int) (hl : A.length ≤ 1000000) :
    ∃ v' w', (Builtin.append_ #[38, 38] 38 #[u, .slice (some ⟨w.heap.size, 0, none⟩) 1 1]).run Tryd.prog (w.alloc (.cells #[.int .i64 n] 3)) = .ok v' w' ∧ Sep w0 r w' (lstI v' (A ++ [n]) :: R) := by
  have h1 := h.below (below_new w (objI n))
  obtain ⟨v', w', r1, r2, r3, r4⟩ := append_one (w.alloc (objI n)) 38 u A n w.heap.size h1.head (by have := blk_alloc_new w (objI n); simp only [World.cell?]; rw [this]; rfl) hl
  refine ⟨v', w', r1, h1.turn (t := lstI u A) (t' := lstI v' (A ++ [n])) r2 (Turn.grown r3 fun k hk => .inl hk) fun x hx => ?_⟩
  rcases r4 with e | e
  · exact .inl (e.symm.trans hx)
  · have : some (w.alloc (objI n)).heap.size = some x := e.symm.trans hx
    cases this
    exact .inr (Nat.le_refl _)
theorem Sep.onto {u v : Value} {A B : List Int} (h : Sep w0 r w (lstI u A :: R)) (hm : lstI v B ∈ R) (hl : A.length + B.length ≤ 1000000) :
    ∃ v' w', (Builtin.append_ #[38, 38] 38 #[u, v]).run Tryd.prog w = .ok v' w' ∧ Sep w0 r w' (lstI v' (A ++ B) :: R) := by
  obtain ⟨v', w', r1, r2, r3, r4, _⟩ := append_row w 38 u v A B h.head (h.each _ (List.mem_cons_of_mem _ hm)).1 hl
  refine ⟨v', w', r1, h.turn (t := lstI u A) (t' := lstI v' (A ++ B)) r2 (Turn.grown r3 fun k hk => .inl hk) fun x hx => ?_⟩
  rcases r4 with e | e
  · exact .inl (e.symm.trans hx)
  · have : some w.heap.size = some x := e.symm.trans hx
    cases this
    exact .inr (Nat.le_refl _)
theorem Sep.listAt {ao : Option Addr} {n cap : Nat} {A : List Int} (h : Sep w0 r w R) (hm : lstI (.slice ao n cap) A ∈ R) {k : Nat} {x : Int} (hk : A[k]? = some x) : ∃ g, ao = some ⟨g, 0, none⟩ ∧ w.cell? ⟨g, k, none⟩ = some (.int .i64 x) := by
  have row : RowI w (.slice ao n cap) A := (h.each _ hm).1
  obtain ⟨ao', cap', e, _, _, hg, _⟩ := row.slice
  cases e
  obtain ⟨g, rfl⟩ := hg k (List.getElem?_eq_some_iff.1 hk).1
  exact ⟨g, rfl, row.cell hk⟩
theorem Sep.listIs {v : Value} {A : List Int} (h : Sep w0 r w R) (hm : lstI v A ∈ R) : ∃ ao cap, v = .slice ao A.length cap := by
  obtain ⟨ao, cap, e, _⟩ := RowI.slice (h.each _ hm).1
  exact ⟨ao, cap, e⟩
end
end Go.Proofs.YtnjmjhmngjodcaaDoor

/-
  Lists of ints that a law makes or reads, among things that lie apart; what Nums of the document's answer says of two; no condition but that they are short.
-/
import Derived.Test.YtchamgecalfmpaaDoorHSep
namespace Go.Proofs.YtchamgecalfmpaaDoor
open Go.RowKit Go.Deep Go.Shelf

/-! ### Lists that a law makes -/
section
variable {w0 w : World} {r : Nat} {R : List Th}
theorem Sep.madeI (h : Sep w0 r w R) : Sep w0 r (w.alloc (.cells #[] 3)) (lstI (.slice (some ⟨w.heap.size, 0, none⟩) 0 0) [] :: R) :=
  h.new (t := lstI (.slice (some ⟨w.heap.size, 0, none⟩) 0 0) []) (own_low (World.ownsRow_made w #[] 0 (Nat.le_refl _) (by unfold maxLen; omega) rfl)) (below_new _ _) fun x hx => by
    have : some w.heap.size = some x := hx
    cases this
    exact Nat.le_refl _
theorem Sep.more {u : Value} {A : List Int} (h : Sep w0 r w (lstI u A :: R)) (n : Int) (hl : A.length ≤ 1000000) :
    ∃ v' w', (Builtin.append_ #[50, 50] 50 #[u, .slice (some ⟨w.heap.size, 0, none⟩) 1 1]).run Tryd.prog (w.alloc (.cells #[.int .i64 n] 3)) = .ok v' w' ∧ Sep w0 r w' (lstI v' (A ++ [n]) :: R) := by
  have h1 := h.below (below_new w (objI n))
  obtain ⟨v', w', r1, r2, r3, r4⟩ := append_one (w.alloc (objI n)) 50 u A n w.heap.size h1.head (by have := blk_alloc_new w (objI n); simp only [World.cell?]; rw [this]; rfl) hl
  refine ⟨v', w', r1, h1.turn (t := lstI u A) (t' := lstI v' (A ++ [n])) r2 (Turn.grown r3 fun k hk => .inl hk) fun x hx => ?_⟩
  rcases r4 with e | e
  · exact .inl (e.symm.trans hx)
  · have : some (w.alloc (objI n)).heap.size = some x := e.symm.trans hx
    cases this
    exact .inr (Nat.le_refl _)
theorem Sep.onto {u v : Value} {A B : List Int} (h : Sep w0 r w (lstI u A :: R)) (hm : lstI v B ∈ R) (hl : A.length + B.length ≤ 1000000) :
    ∃ v' w', (Builtin.append_ #[50, 50] 50 #[u, v]).run Tryd.prog w = .ok v' w' ∧ Sep w0 r w' (lstI v' (A ++ B) :: R) := by
  obtain ⟨v', w', r1, r2, r3, r4, _⟩ := append_row w 50 u v A B h.head (h.each _ (List.mem_cons_of_mem _ hm)).1 hl
  refine ⟨v', w', r1, h.turn (t := lstI u A) (t' := lstI v' (A ++ B)) r2 (Turn.grown r3 fun k hk => .inl hk) fun x hx => ?_⟩
  rcases r4 with e | e
  · exact .inl (e.symm.trans hx)
  · have : some w.heap.size = some x := e.symm.trans hx
    cases this
    exact .inr (Nat.le_refl _)
theorem Sep.listAt {ao : Option Addr} {n cap : Nat} {A : List Int} (h : Sep w0 r w R) (hm : lstI (.slice ao n cap) A ∈ R) {k : Nat} {x : Int} (hk : A[k]? = some x) : ∃ g, ao = some ⟨g, 0, none⟩ ∧ w.cell? ⟨g, k, none⟩ = some (.int .i64 x) := by
  have row : RowI w (.slice ao n cap) A := (h.each _ hm).1
  obtain ⟨ao', cap', e, _, _, hg, _⟩ := row.slice
  cases e
  obtain ⟨g, rfl⟩ := hg k (List.getElem?_eq_some_iff.1 hk).1
  exact ⟨g, rfl, row.cell hk⟩
theorem Sep.listIs {v : Value} {A : List Int} (h : Sep w0 r w R) (hm : lstI v A ∈ R) : ∃ ao cap, v = .slice ao A.length cap := by
  obtain ⟨ao, cap, e, _⟩ := RowI.slice (h.each _ hm).1
  exact ⟨ao, cap, e⟩
end
set_option maxHeartbeats 1000000 in
theorem nums_any (u v : Value) (A B : List Int) (w : World) (ha : RowI w u A) (hb : RowI w v B) (hl : A.length ≤ 1000) :
    Calls Tryd.prog 20 #[u, v] w fun e w' => e = .returned (.bool (decide (A = B))) ∧ Below w.heap.size w w' := by
  obtain ⟨ao, ca, rfl, _, _, ga, _⟩ := ha.slice
  obtain ⟨bo, cb, rfl, _, _, gb, _⟩ := hb.slice
  by_cases hlen : A.length = B.length
  · have HA := hid ha
    have HB := hid hb
    have HGA := hid ga
    have HGB := hid gb
    have HE : Hid (∀ k, k ≤ A.length → (∀ j, j < k → A[j]? = B[j]?) → k = A.length → A = B) := fun k _ h e => by
      apply List.ext_getElem?
      intro j
      by_cases hj : j < k
      · exact h j hj
      · rw [List.getElem?_eq_none (by omega), List.getElem?_eq_none (by omega)]
    clear ha hb ga gb
    have HLB := hid hlen
    rw [← hlen] at HGB HB
    have hn' : B.length = A.length := hlen.symm
    rw [hn']
    clear hlen hn'
    generalize hn : A.length = n at *
    go_enter Tryd.func20, Tryd.ntmps20
    go_wp2
    go_loopw [5] (fun i wr => ∃ k : Nat, k ≤ n ∧ i = .int .i64 k ∧ Below w.heap.size w wr ∧ Hid (∀ j, j < k → A[j]? = B[j]?)) (fun i _ => n - (intOf i).toNat)
    case atStart => exact ⟨0, Nat.zero_le _, rfl, Below.refl _ _, fun j hj => by omega⟩
    case round =>
      obtain ⟨k, hk, rfl, bel, HJ⟩ := hrel
      by_cases hlt : k < n
      · obtain ⟨g, rfl⟩ := HGA.out k hlt
        obtain ⟨g', rfl⟩ := HGB.out k hlt
        have hA : k < A.length := by omega
        have hB : k < B.length := by have := HLB.out; omega
        have c1 := (HA.out.below bel).cell (List.getElem?_eq_getElem hA)
        have c2 := (HB.out.below bel).cell (List.getElem?_eq_getElem hB)
        have HEQ : Hid (A[k]? = some A[k] ∧ B[k]? = some B[k]) := ⟨List.getElem?_eq_getElem hA, List.getElem?_eq_getElem hB⟩
        generalize A[k] = x at *
        generalize B[k] = y at *
        have hltz : (k : Int) < (n : Int) := by omega
        have HBel := hid bel
        clear bel
        by_cases hxy : x = y
        · subst hxy
          go_wp2_with fail
          go_quiet (fail)
          go_wp2
          go_round
          case rel => exact ⟨k + 1, by omega, by go_num, below_drewN HBel.out _, fun j hj => by
            by_cases e : j = k
            · rw [e, HEQ.out.1, HEQ.out.2]
            · exact HJ.out j (by omega)⟩
          case measure => simp [intOf]; omega
        · have hne : (x == y) = false := by simpa using hxy
          have hne2 : (x != y) = true := by simpa using hxy
          have HN : Hid (decide (A = B) = false) := by
            show decide (A = B) = false
            rw [decide_eq_false_iff_not]
            intro e
            have := HEQ.out
            rw [e] at this
            exact hxy (Option.some.inj (this.1.symm.trans this.2))
          go_wp2_with fail
          go_quiet (fail)
          go_wp2
          go_ret
          exact ⟨ret_one (congrArg Value.bool HN.out.symm), below_drewN HBel.out _⟩
      · obtain rfl : k = n := by omega
        have HBel := hid bel
        have HN : Hid (decide (A = B) = true) := by
          show decide (A = B) = true
          rw [decide_eq_true_eq]
          exact HE.out k (Nat.le_refl _) HJ.out rfl
        clear bel
        go_wp2
        go_ret
        exact ⟨ret_one (congrArg Value.bool HN.out.symm), HBel.out⟩
  · have hne : decide (A = B) = false := by
      rw [decide_eq_false_iff_not]
      intro e
      exact hlen (by rw [e])
    rw [hne]
    have hne1 : ¬ ((A.length : Int) = (B.length : Int)) := by omega
    clear ha hb ga gb hne
    generalize A.length = n at *
    generalize B.length = m at *
    go_enter Tryd.func20, Tryd.ntmps20
    go_wp2
    go_ret
    exact ⟨rfl, Below.refl _ _⟩
theorem nums_is {w0 w : World} {r : Nat} {R : List Th} {u v : Value} {A B : List Int} (h : Sep w0 r w R) (hu : lstI u A ∈ R) (hv : lstI v B ∈ R) (hl : A.length ≤ 1000) (e : A = B) :
    Calls Tryd.prog 20 #[u, v] w fun e w' => e = .returned (.bool true) ∧ Sep w0 r w' R := by
  subst e
  have := nums_any u v A A w (h.each _ hu).1 (h.each _ hv).1 hl
  rw [decide_eq_true rfl] at this
  exact this.mono fun _ _ ⟨he, b⟩ => ⟨he, h.below b⟩
theorem Sep.two {w0 w : World} {r : Nat} {R : List Th} (h : Sep w0 r w R) (xs : List Int) (hl : xs.length ≤ 1000) (C : Array Value) (hC : C.toList = flatK cI xs) : Sep w0 r (w.alloc (.cells C 3)) (lstI (.slice (some ⟨w.heap.size, 0, none⟩) xs.length xs.length) xs :: R) := by
  refine h.new (t := lstI (.slice (some ⟨w.heap.size, 0, none⟩) xs.length xs.length) xs) ?_ (below_new _ _) fun x hx => by
    have : some w.heap.size = some x := hx
    cases this
    exact Nat.le_refl _
  have hl2 := flatK_len cI_len xs
  refine ⟨hl2, .inr ⟨w.heap.size, xs.length, C, rfl, Nat.zero_le _, blk_alloc_new _ _, Nat.le_refl _, by unfold maxLen; omega, ?_, ?_⟩⟩
  · rw [← Array.length_toList, hC, hl2]
  · rw [hC, ← hl2, List.take_length]
theorem put12_at {w : World} {q : Nat} {y : Td} (h : w.heap[q]? = some (objT y)) (x : Td) : (put12 w q 0 x).heap[q]? = some (objT x) := by
  unfold put12
  unfold objT at *
  simp only [Nat.zero_add]
  rw [setBlock (setBlock (setBlock (setBlock (setBlock (setBlock (setBlock (setBlock (setBlock (setBlock (setBlock (setBlock h _) _) _) _) _) _) _) _) _) _) _) _]
  simp
/-- A thread's struct in a variable of its own. -/
theorem Sep.boxT {w0 w : World} {r : Nat} {R : List Th} (h : Sep w0 r w R) (x : Td) : Sep w0 r (put12 (w.alloc (objT td0)) w.heap.size 0 x) (blk w.heap.size (objT x) :: R) :=
  (h.box (objT td0)).turn (t' := blk w.heap.size (objT x)) (put12_at (blk_alloc_new _ _) x) (turn_put12 _ _ _ _ _ rfl) fun _ hx => .inl hx
theorem Sep.atT {w0 w : World} {r : Nat} {R : List Th} {q : Nat} {x : Td} (h : Sep w0 r w R) (hm : blk q (objT x) ∈ R) : At12 w q 0 x := at12_of (h.each _ hm).1
section
variable {w0 w : World} {r : Nat} {R : List Th} {p : Nat} {F : Nat → Prop} {h : Hs}
theorem get_agg (s : Sep w0 r w (tT p F h :: R)) (i : Int) {x : Td} {e0 : Int} (hx : getT h i = x) (he : getE h i = e0) : Calls Tryd.prog 16 #[ptr p, .int .i64 i] w fun e w' => e = .returned (.tuple #[.agg #[.int .i64 x.st, .int .i64 x.p, .int .i64 x.c, .int .i64 x.l, .int .u64 (rg x 0), .int .u64 (rg x 1), .int .u64 (rg x 2), .int .u64 (rg x 3), .int .u64 (rg x 4), .int .u64 (rg x 5), .int .u64 (rg x 6), .int .u64 (rg x 7)], .int .i64 e0]) ∧ Sep w0 r w' (tT p F h :: R) := by
  subst hx
  subst he
  exact get_sep s i
theorem pick_is (s : Sep w0 r w (tT p F h :: R)) (ht : ∀ u, Below r w0 u → Tab u) (c : Int) {n : Int} {b : Bool} {h' : Hs} (hh : pickH h c = h') (hn : runsN h' c = n) (hb : runsB h' c = b) : Calls Tryd.prog 14 #[ptr p, .int .i64 c] w fun e w' => e = .returned (.tuple #[.int .i64 n, .bool b]) ∧ ∃ F', Sep w0 r w' (tT p F' h' :: R) := by
  subst hh
  subst hn
  subst hb
  exact pick_sep s ht c
theorem runs_is' (s : Sep w0 r w (tT p F h :: R)) (c : Int) {n : Int} {b : Bool} (hn : runsN h c = n) (hb : runsB h c = b) : Calls Tryd.prog 18 #[ptr p, .int .i64 c] w fun e w' => e = .returned (.tuple #[.int .i64 n, .bool b]) ∧ Sep w0 r w' (tT p F h :: R) := by
  subst hn
  subst hb
  exact runs_sep s c
theorem resume_is (s : Sep w0 r w (tT p F h :: R)) (i : Int) {e0 : Int} {h' : Hs} (hh : resumeH h i = h') (he : resumeE h i = e0) : Calls Tryd.prog 25 #[ptr p, .int .i64 i] w fun e w' => e = .returned (.int .i64 e0) ∧ ∃ F', Sep w0 r w' (tT p F' h' :: R) := by
  subst hh
  subst he
  exact resume_sep s i
theorem block_is (s : Sep w0 r w (tT p F h :: R)) (i : Int) {e0 : Int} {h' : Hs} (hh : blockH h i = h') (he : blockE h i = e0) : Calls Tryd.prog 27 #[ptr p, .int .i64 i] w fun e w' => e = .returned (.int .i64 e0) ∧ ∃ F', Sep w0 r w' (tT p F' h' :: R) := by
  subst hh
  subst he
  exact block_sep s i
theorem suspend_is (s : Sep w0 r w (tT p F h :: R)) (i : Int) {e0 : Int} {h' : Hs} (hh : suspendH h i = h') (he : suspendE h i = e0) : Calls Tryd.prog 12 #[ptr p, .int .i64 i] w fun e w' => e = .returned (.int .i64 e0) ∧ ∃ F', Sep w0 r w' (tT p F' h' :: R) := by
  subst hh
  subst he
  exact suspend_sep s i
theorem make_is (s : Sep w0 r w (tT p F h :: R)) (pr c : Int) {n e0 : Int} {h' : Hs} (hh : makeH h pr c = h') (hn : makeN h pr c = n) (he : makeE h pr c = e0) : Calls Tryd.prog 13 #[ptr p, .int .i64 pr, .int .i64 c] w fun e w' => e = .returned (.tuple #[.int .i64 n, .int .i64 e0]) ∧ ∃ F', Sep w0 r w' (tT p F' h' :: R) := by
  subst hh
  subst hn
  subst he
  exact make_sep s pr c
theorem core_is (s : Sep w0 r w (tT p F h :: R)) (i c : Int) {e0 : Int} {h' : Hs} (hh : coreH h i c = h') (he : coreE h i c = e0) : Calls Tryd.prog 29 #[ptr p, .int .i64 i, .int .i64 c] w fun e w' => e = .returned (.int .i64 e0) ∧ ∃ F', Sep w0 r w' (tT p F' h' :: R) := by
  subst hh
  subst he
  exact core_sep s i c
theorem lines_is (s : Sep w0 r w (tT p F h :: R)) (c pr : Int) {L : List Int} (hh : lineH h c pr = L) : Calls Tryd.prog 21 #[ptr p, .int .i64 c, .int .i64 pr] w fun e w' => ∃ ao cap, e = .returned (.slice ao L.length cap) ∧ Sep w0 r w' (tT p F h :: lstI (.slice ao L.length cap) L :: R) := by
  subst hh
  refine (lines_sep s c pr).mono ?_
  rintro e w' ⟨x, rfl, s'⟩
  obtain ⟨ao, cap, ev⟩ := s'.listIs (v := x) (A := lineH h c pr) (by simp)
  subst ev
  exact ⟨ao, cap, rfl, s'⟩
end
end Go.Proofs.YtchamgecalfmpaaDoor

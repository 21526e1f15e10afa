/-
  What Copy of package ready, and of package threads, answers: others in the same state, in new blocks; no condition but that they are small, and right.
-/
import Derived.Test.YtchamgecalfmpaaDoorHNew

namespace Go.Proofs.YtchamgecalfmpaaDoor
open Go.RowKit Go.Deep Go.Shelf Go.MapKept Go.Maps

/-- The lines that have come with the numbers A; the numbers that have come. -/
def MA (S : St) (A : List (Int × Int)) (p : Nat) : List Int := if A.any (fun y => y.2 == (p : Int)) = true then lineN S p else []
def fA (S : St) (A : List (Int × Int)) (n : Int) : Option Int := if A.any (fun y => y.1 == n) = true then whF S n else none
theorem MA_add (S : St) (A : List (Int × Int)) (n : Int) (P i : Nat) : MA S (A ++ [(n, (P : Int))]) i = if i = P then lineN S P else MA S A i := by
  unfold MA
  by_cases e : i = P
  · subst e
    simp
  · have e2 : ¬ ((P : Int) = (i : Int)) := by omega
    have e3 : ((P : Int) == (i : Int)) = false := by rw [beq_eq_false_iff_ne]; exact e2
    rw [if_neg e, List.any_append]
    simp only [List.any_cons, List.any_nil, e3, Bool.or_false]
theorem MA_had {S : St} {A : List (Int × Int)} {n : Int} {P : Nat} (h : A.any (fun y => y.2 == (P : Int)) = true) (i : Nat) : MA S (A ++ [(n, (P : Int))]) i = MA S A i := by
  rw [MA_add]
  by_cases e : i = P
  · rw [if_pos e, e]
    simp [MA, h]
  · rw [if_neg e]
theorem MA_new (S : St) (A : List (Int × Int)) (n : Int) (P i : Nat) : MA S (A ++ [(n, (P : Int))]) i = updN (MA S A) P (lineN S P) i := by
  rw [MA_add]
  rfl
theorem fA_add {S : St} {A : List (Int × Int)} {n v : Int} (h : whF S n = some v) (m : Int) : fA S (A ++ [(n, v)]) m = updF (fA S A) n v m := by
  unfold fA updF
  by_cases e : m = n
  · subst e
    simp [h]
  · have e2 : ¬ (n = m) := fun x => e x.symm
    have e3 : (n == m) = false := by rw [beq_eq_false_iff_ne]; exact e2
    rw [if_neg e, List.any_append]
    simp only [List.any_cons, List.any_nil, e3, Bool.or_false]
theorem fA_nil (S : St) (n : Int) : fA S [] n = none := rfl
theorem all_come {S : St} (g : Good S) {A : List (Int × Int)} (h : ∀ p : Int × Int, p ∈ A ↔ whF S p.1 = some p.2) : (∀ p, lineN S p = MA S A p) ∧ ∀ n, whF S n = fA S A n := by
  refine ⟨fun p => ?_, fun n => ?_⟩
  · unfold MA
    cases e : A.any (fun y => y.2 == (p : Int)) with
    | true => simp
    | false =>
      rw [if_neg (by simp)]
      cases e2 : lineN S p with
      | nil => rfl
      | cons a L =>
        obtain ⟨x, hx, h1, h2⟩ := line_mem.1 (show a ∈ lineN S p by rw [e2]; simp)
        have := (h (x.n, (x.p : Int))).2 (whF_of g hx)
        have h3 := List.any_eq_false.1 e _ this
        simp [h1] at h3
  · unfold fA
    cases e : A.any (fun y => y.1 == n) with
    | true => simp
    | false =>
      rw [if_neg (by simp)]
      cases e2 : whF S n with
      | none => rfl
      | some v =>
        have h3 := List.any_eq_false.1 e _ ((h (n, v)).2 e2)
        simp at h3
/-- Behind some rounds: the numbers A have come. -/
structure Cy (S : St) (q b : Nat) (vs : Nat → Value) (w : World) (r c : Nat) (A : List (Int × Int)) (cnt : Nat) (vs2 : Nat → Value) (wr : World) : Prop where
  rg : Ranges wr b c (whF S) A cnt
  cp : QuP (r + 1) r vs2 (MA S A) (fA S A) wr
  nil : ∀ p : Nat, p < 256 → A.any (fun y => y.2 == (p : Int)) = false → vs2 p = .slice none 0 0
  own : ∀ x, fpQ (r + 1) r vs2 x → r ≤ x ∧ x ≠ c
  bel : Below r w wr
  le : r ≤ wr.heap.size
  was : QuP q b vs (lineN S) (whF S) wr
  cr : r ≤ c
section
variable {S : St} {q b r c cnt cnt' : Nat} {vs vs2 : Nat → Value} {w wr w3 : World} {A : List (Int × Int)} {n : Int} {P : Nat}
theorem map_lt (h0 : QuP q b vs (lineN S) (whF S) w) (hr : w.heap.size = r) : b < r := by
  have := h0.map.lt
  omega
/-- The iterator goes on, and the number is put into the map. -/
theorem Cy.next (h : Cy S q b vs w r c A cnt vs2 wr) (h0 : QuP q b vs (lineN S) (whF S) w) (hr : w.heap.size = r) (hrg : Ranges w3 b c (whF S) (A ++ [(n, (P : Int))]) cnt') (g3 : wr.grownBy w3 (some c)) (hn : I64 n) :
    ∃ w4, (Instr.mapUpdate 83 (.map (some r)) (.int .i64 n) (.int .i64 P)).run Tryd.prog w3 = .ok () w4 ∧ w3.cell? ⟨r + 1, 256, none⟩ = some (.map (some r)) ∧ Ranges w4 b c (whF S) (A ++ [(n, (P : Int))]) cnt' ∧ QuP (r + 1) r vs2 (MA S A) (fA S (A ++ [(n, (P : Int))])) w4 ∧ Below r w w4 ∧ r ≤ w4.heap.size ∧ QuP q b vs (lineN S) (whF S) w4 := by
  have hbr := map_lt h0 hr
  have hw := hrg.mem (n, (P : Int)) (by simp)
  have c3 : QuP (r + 1) r vs2 (MA S A) (fA S A) w3 := h.cp.keep fun x hx => g3.block x (h.cp.fp_lt x hx) fun e => (h.own x hx).2 (Option.some.inj e)
  have b3 : Below r w w3 := h.bel.grown g3 h.le fun k hk => by cases hk; exact h.cr
  obtain ⟨w4, hst, m4, g4, s4⟩ := c3.map.store hn (P : Int)
  obtain ⟨c4, t4⟩ := c3.mapped m4 g4
  have b4 : Below r w w4 := b3.grown g4 (Nat.le_trans h.le g3.size) fun k hk => by cases hk; exact Nat.le_refl _
  refine ⟨w4, hst, c3.cellM, hrg.of_block (g4.block _ hrg.lt.1 fun e => ?_) (g4.block _ hrg.lt.2 fun e => ?_), c4.congr (fun _ _ => rfl) (fA_add hw), b4, by rw [s4]; exact Nat.le_trans h.le g3.size, h0.below (hr ▸ b4)⟩
  · cases e
    omega
  · cases e
    exact (h.own r (.inr (.inl rfl))).2 rfl
/-- The line is told, and hung into the copy. -/
theorem Cy.hung {w4 w5 : World} {v : Value} (h : Cy S q b vs w r c A cnt vs2 wr) (h0 : QuP q b vs (lineN S) (whF S) w) (hr : w.heap.size = r) (rg4 : Ranges w4 b c (whF S) (A ++ [(n, (P : Int))]) cnt') (cp4 : QuP (r + 1) r vs2 (MA S A) (fA S (A ++ [(n, (P : Int))])) w4) (b4 : Below r w w4) (l4 : r ≤ w4.heap.size)
    (hp : P < 256) (ev : vs2 P = .slice none 0 0) (row : RowI w5 v (lineN S P)) (b5 : Below w4.heap.size w4 w5) (n5 : ∀ k, v.ownBlock = some k → w4.heap.size ≤ k) :
    ∃ vs3, Cy S q b vs w r c (A ++ [(n, (P : Int))]) cnt' vs3 (w5.setCell ⟨r + 1, P, none⟩ v) := by
  have g5 : w4.grownBy w5 (vs2 P).ownBlock := ⟨b5.os, b5.tape, b5.output, b5.size, fun k hk _ => b5.block k hk⟩
  have hv : (vs2 P).ownBlock = none := by rw [ev]; rfl
  obtain ⟨y1, y2, y3⟩ := cp4.hang hp row g5 (by
    cases e : v.ownBlock with
    | none => exact .inl hv.symm
    | some g => exact .inr ⟨g, rfl, n5 g e⟩)
  have hbr := map_lt h0 hr
  have bel : Below r w (w5.setCell ⟨r + 1, P, none⟩ v) := y2.below b4 (fun x hx => (h.own x hx).1) l4
  have hc4 := rg4.lt.2
  refine ⟨_, ⟨rg4.of_block (y2.block b rg4.lt.1 fun hf => ?_) (y2.block c hc4 fun hf => (h.own c hf).2 rfl), y1.congr (fun i _ => MA_new S A n P i) (fun _ => rfl), fun p hp2 e => ?_, fun x hx => ?_, bel, Nat.le_trans l4 y2.size, h0.below (hr ▸ bel), h.cr⟩⟩
  · have := (h.own b hf).1
    omega
  · rw [List.any_append, Bool.or_eq_false_iff] at e
    have e2 : p ≠ P := fun e3 => by
      have := e.2
      simp [e3] at this
    rw [updN_ne _ _ e2]
    exact h.nil p hp2 e.1
  · rcases y3 x hx with h1 | h1
    · exact h.own x h1
    · omega
end
set_option maxHeartbeats 4000000 in
set_option maxRecDepth 100000 in
theorem copy_any (q : Nat) (F : Nat → Prop) (S : St) (w : World) (h : QuH q F S w) (hl : S.length ≤ 1000) :
    Calls Tryd.prog 32 #[.pointer (some ⟨q, 0, none⟩)] w fun e w' => ∃ q2 F2, e = .returned (.pointer (some ⟨q2, 0, none⟩)) ∧ QuH q2 F2 S w' ∧ Below w.heap.size w w' ∧ ∀ x, F2 x → w.heap.size ≤ x := by
  obtain ⟨b, vs, h, good, hF⟩ := h
  have HQ : Hid (QuP q b vs (lineN S) (whF S) w) := h
  have HG : Hid (Good S) := good
  have q22 : ∀ (w : World) (a : Option Addr) (n c n' c' : Nat), (binOp .eql 50 (.slice a n c) (.slice none n' c')).run Tryd.prog w = .ok (.bool a.isNone) w := fun w a n c n' c' => Lib.run_eql_slice_nil w _ _ a n c n' c' Tryd.underlying50
  clear h hF good
  go_enter Tryd.func32, Tryd.ntmps32
  go_wp2_with fail
  refine Calls.mono (new_p w) ?_
  rintro e w1 ⟨rfl, h1, b1⟩
  have h0 := HQ.out.below b1
  have hc := h0.cellM
  have hm := h0.map
  have H1 := hid (And.intro h1 b1)
  clear h1 b1 h0
  generalize hr : w.heap.size = r at *
  have HR : Hid (w.heap.size = r) := hr
  clear hr
  go_wp2_with (first | (at_range; refine wpList_range rfl _ rfl rfl hm ?_; intro w2 cnt0 hrg0 hg0 hs0) | go_in)
  go_frame
  generalize hcc : w1.heap.size = c at *
  go_loopw [4, 5] (fun _ _ wr => ∃ A cnt vs2, Cy S q b vs w r c A cnt vs2 wr) (fun _ _ wr => wr.rangeLeft b c)
  case atStart =>
    obtain ⟨h1, b1⟩ := H1.out
    have hr := HR.out
    have hq := h1.lt
    have b2 : Below r w w2 := b1.grown hg0 (by omega) fun j hj => by cases hj
    refine ⟨[], _, _, ⟨hrg0, (h1.below ⟨hg0.os, hg0.tape, hg0.output, hg0.size, fun k hk => hg0.block k hk (by simp)⟩).congr (fun _ _ => rfl) (fun _ => rfl), fun _ _ _ => rfl, ?_, b2, by omega, HQ.out.below (hr ▸ b2), by omega⟩⟩
    rintro x (rfl | rfl | ⟨p, _, hx⟩)
    · omega
    · omega
    · simp [Value.ownBlock] at hx
  case round =>
    obtain ⟨A, cnt, vs2, cy⟩ := hrel
    have hrg := cy.rg
    go_wp2_with (first | (at_next; refine wpList_next rfl _ rfl rfl hrg ?_ ?_) | go_in)
    · intro hc0
      subst hc0
      have HC := hid cy
      clear hrg cy
      go_wp2_with fail
      go_ret
      have cy := HC.out
      obtain ⟨e1, e2⟩ := all_come HG.out cy.rg.all
      exact ⟨r + 1, fpQ (r + 1) r vs2, rfl, ⟨r, vs2, cy.cp.congr (fun p _ => e1 p) e2, HG.out, fun _ => Iff.rfl⟩, by rw [HR.out]; exact cy.bel, fun x hx => by rw [HR.out]; exact (cy.own x hx).1⟩
    · intro n v w3 cnt3 hrg3 hlt g3 s3 hen
      obtain ⟨x, hx, rfl, rfl⟩ := whF_some (hrg3.mem (n, v) (by simp))
      have hp := (HG.out.fit x hx).1
      obtain ⟨w4, hst, hcm, rg4, cp4, b4, l4, was4⟩ := cy.next HQ.out HR.out hrg3 g3 (HG.out.fit x hx).2
      have HM : Hid (w4.rangeLeft b c < wr.rangeLeft b c) := by
        show w4.rangeLeft b c < wr.rangeLeft b c
        rw [rg4.left, hrg.left]
        exact hlt
      have hcv := cp4.cell hp
      have hpz : (x.p : Int) < 256 := by omega
      cases ha : A.any (fun y => y.2 == (x.p : Int)) with
      | true =>
        obtain ⟨ao, cap, ev, _, _, _, hno⟩ := (cp4.rows x.p hp).slice
        have hne : ao.isNone = false := by
          cases ao with
          | some _ => rfl
          | none =>
            have := hno rfl
            simp only [MA, ha, if_true] at this
            have h3 : x.n ∈ lineN S x.p := line_mem.2 ⟨x, hx, rfl, rfl⟩
            rw [this] at h3
            simp at h3
        rw [ev] at hcv
        have HK : Hid (∃ A cnt vs2, Cy S q b vs w r c A cnt vs2 w4) := ⟨_, _, vs2, ⟨rg4, cp4.congr (fun p _ => MA_had ha p) (fun _ => rfl), fun p hp2 e => cy.nil p hp2 (by rw [List.any_append] at e; simpa using (Bool.or_eq_false_iff.1 e).1), cy.own, b4, l4, was4, cy.cr⟩⟩
        generalize (MA S A x.p).length = ln at *
        clear cy hrg hrg3 hlt g3 s3 rg4 cp4 b4 l4 was4 ev hno hx
        go_wp2
        exact ⟨HK.out, HM.out⟩
      | false =>
        have ev := cy.nil x.p hp ha
        rw [ev] at hcv
        have HC := hid cy
        have H4 := hid (And.intro rg4 (And.intro cp4 (And.intro b4 (And.intro l4 was4))))
        have HX : Hid (x ∈ S) := hx
        have HT := hid (fun u (hu : QuP q b vs (lineN S) (whF S) u) => told_any q b vs _ _ x.p u hu hp (Nat.le_trans (line_len S x.p) hl))
        have HL : Hid (wr.rangeLeft b c = cnt ∧ cnt3 < cnt) := ⟨hrg.left, hlt⟩
        have HV : Hid (vs2 x.p = .slice none 0 0) := ev
        clear cy hrg hrg3 hlt g3 s3 rg4 cp4 b4 l4 was4 ev hx HM
        go_wp2_with fail
        go_region_with (go_at_call 60; refine Calls.mono (HT.out _ (QuP.drew H4.out.2.2.2.2)) ?_; rintro e w5 ⟨v, rfl, r1, r2, r3, _⟩; have b5 : Below w4.heap.size w4 w5 := ⟨r2.os, r2.tape, r2.output, r2.size, r2.block⟩; have hq5 := b5.block (r + 1) H4.out.2.1.lt; have c5 : w5.cell? ⟨r + 1, x.p, none⟩ = some (.slice none 0 0) := (by rw [cell_block hq5]; exact hcv); have f5 : w5.frozen? ⟨r + 1, x.p, none⟩ = false := (by rw [frozen_block hq5]; exact H4.out.2.1.frozen _); have HK := hid (HC.out.hung HQ.out HR.out H4.out.1 H4.out.2.1 H4.out.2.2.1 H4.out.2.2.2.1 hp HV.out r1 b5 r3); obtain ⟨ao, cap, ev, _⟩ := r1.slice; subst ev; clear r1 r2 r3 b5 hq5)
        all_goals go_wp2
        all_goals
          obtain ⟨vs3, hk⟩ := HK.out
          exact ⟨⟨_, _, _, hk⟩, by rw [hk.rg.left, HL.out.1]; exact HL.out.2⟩
end Go.Proofs.YtchamgecalfmpaaDoor

namespace Go.Proofs.YtchamgecalfmpaaDoor
open Go.RowKit Go.Deep Go.Shelf

theorem cloneT_any (v : Value) (L : List Td) (w : World) (h : (lstT v L).H w) (hl : L.length ≤ 1000) :
    Calls Tryd.prog 31 #[v] w fun e w' => ∃ ao cap, e = .returned (.slice ao L.length cap) ∧ (lstT (.slice ao L.length cap) L).H w' ∧ (∀ k, (Value.slice ao L.length cap).ownBlock = some k → w.heap.size ≤ k) ∧ Below w.heap.size w w' := by
  have q22 : ∀ (w : World) (a : Option Addr) (n c n' c' : Nat), (binOp .eql 40 (.slice a n c) (.slice none n' c')).run Tryd.prog w = .ok (.bool a.isNone) w := fun w a n c n' c' => Lib.run_eql_slice_nil w _ _ a n c n' c' Tryd.underlying40
  have h' : w.ownsRow 0 46 12 v L.length (flatK cT L) := h
  obtain ⟨h0, ⟨rfl, hn0⟩ | ⟨g, cap, cur, rfl, hb, hg, h1, h2, h3, h4⟩⟩ := h'
  · have HK : Hid ((lstT (.slice none 0 0) L).H w ∧ L.length = 0) := ⟨h, hn0⟩
    clear h h0 hn0
    go_enter Tryd.func31, Tryd.ntmps31
    go_wp2
    go_ret
    refine ⟨none, 0, by rw [HK.out.2]; rfl, by rw [HK.out.2]; exact HK.out.1, fun k hk => by simp [Value.ownBlock] at hk, Below.refl _ _⟩
  · obtain ⟨i, hi, hz⟩ := Option.map_eq_some_iff.1 infoT
    simp only [Prod.mk.injEq] at hz
    have hgl : g < w.heap.size := (Array.getElem?_eq_some_iff.1 hg).1
    have hb1 := below_new w (.cells #[] 46)
    obtain ⟨v', w', r1, r2, r3, _, r5⟩ := run_append_own_at (P := Tryd.prog) (w.alloc (.cells #[] 46)) w.heap.size 40 40 46 i _ 12 96 Tryd.underlying40 hi hz.1 hz.2.1 hz.2.2 rfl (by decide) (.slice (some ⟨w.heap.size, 0, none⟩) 0 0) 0 [] (World.ownsRow_made w #[] 0 (Nat.le_refl _) (by unfold maxLen; omega) rfl) ⟨g, 0, none⟩ L.length cap (flatK cT L) (flatK_len cT_len L)
      (fun j u hj => by
        have := World.ownsRow.cells h (g := g) rfl j u hj
        rw [add_none] at this ⊢
        rw [hb1.cell (p := ⟨g, 0 + j, none⟩) hgl]
        exact this) (flatK_one cT_one _) (by unfold maxLen; omega) (by omega) (by simp)
    have HK : Hid ((lstT v' L).H w' ∧ (∀ k, v'.ownBlock = some k → w.heap.size ≤ k) ∧ Below w.heap.size w w') := by
      refine ⟨?_, fun k hk => (World.ownsRow.lt r2 k hk).1, hb1.grown r3 (by simp) fun k hk => by cases hk; exact Nat.le_refl _⟩
      have := own_low r2
      rw [Nat.zero_add, List.nil_append] at this
      exact this
    have hRun := hid r1
    obtain ⟨ao', cap', ev, _⟩ := own_slice (own_low r2)
    rw [Nat.zero_add] at ev
    subst ev
    clear r1 r2 r3 r5 h hi hz hg h0 h1 h2 h3 h4 hb1 hgl hb
    generalize hn : L.length = n at *
    go_enter Tryd.func31, Tryd.ntmps31
    go_wp2_with (at_builtin; refine wpList_append_run rfl _ _ _ _ rfl _ _ _ _ rfl rfl hRun.out ?_)
    go_ret
    exact ⟨_, _, rfl, HK.out⟩
theorem take_succ {Q : List St} {k : Nat} (hk : k < Q.length) : Q.take (k + 1) = Q.take k ++ [Q.getD k []] := by
  rw [List.take_succ_eq_append_getElem hk, List.getD_eq_getElem?_getD, List.getElem?_eq_getElem hk]
  rfl
theorem copy_q (q : Nat) (F : Nat → Prop) (S : St) (w : World) (h : (qkP.th q F S).H w) (hl : S.length ≤ 1000) : Calls Tryd.prog 32 #[ptr q] w fun e w' => ∃ q2 F2, e = .returned (ptr q2) ∧ (qkP.th q2 F2 S).H w' ∧ Below w.heap.size w w' ∧ ∀ x, (qkP.th q2 F2 S).F x → w.heap.size ≤ x := by
  refine Calls.mono (copy_any q F S w h hl) ?_
  rintro e w' ⟨q2, F2, rfl, h1, b, n⟩
  exact ⟨q2, F2, rfl, h1, b, n⟩
section
variable {w0 w : World} {F : Nat → Prop} {p : Nat} {v u : Value} {qs : List Nat} {h : Hs}
set_option maxHeartbeats 16000000 in
theorem copyT_any (t : At qkP w0 F p v u qs h w) (iv : Inv h) :
    Calls Tryd.prog 11 #[ptr p] w fun e w' => ∃ p2 F2, e = .returned (ptr p2) ∧ ThH qkP p2 F2 h w' ∧ Below w.heap.size w w' ∧ ∀ x, F2 x → w.heap.size ≤ x := by
  obtain ⟨gq, capq, rfl⟩ := t.pslice iv.lo
  have IV := hid iv
  have T0 := hid t
  have c0 := t.cell0
  have c1 := t.cell1
  clear t iv
  go_enter Tryd.func11, Tryd.ntmps11
  go_wp2_with fail
  refine Calls.mono (cloneT_any v h.L w T0.out.row (by have := IV.out.few; omega)) ?_
  rintro e w1 ⟨ao, cap, rfl, r1, n1, b1⟩
  have A0 := hid (at_fresh (K := qkP) w (w1 := w1) b1 r1 n1 (fun _ _ => False))
  have hty : qkP.ty = 63 := rfl
  rw [hty] at A0
  have c1' := (T0.out.below (Below.then b1 (below_new w1 (.cells #[.slice ao h.L.length cap, .slice none 0 0] 63)) b1.size)).cell1
  clear hty c0 c1 r1 n1 b1
  generalize hnL : h.L.length = nL at *
  generalize hnQ : h.Q.length = nQ at *
  go_wp2_with fail
  generalize hp2 : w1.heap.size = p2 at *
  go_loopw [5, 18] (fun _ s18 wr => ∃ (k : Nat) (ao2 : Option Addr) (cap2 : Nat) (qs2 : List Nat), k ≤ nQ ∧ s18 = .int .i64 k ∧ At qkP w none' p2 (.slice ao nL cap) (.slice ao2 k cap2) qs2 ⟨h.L, h.Q.take k⟩ wr) (fun _ s18 _ => nQ - (intOf s18).toNat)
  case atStart => exact ⟨0, none, 0, [], Nat.zero_le _, rfl, A0.out⟩
  case round =>
    clear A0 c1'
    obtain ⟨k, ao2, cap2, qs2, hk, rfl, t2⟩ := hrel
    have T := hid t2
    by_cases hlt : k < nQ
    · have hltz : (k : Int) < (nQ : Int) := by omega
      have hkQ : k < h.Q.length := by omega
      have tw := T0.out.below (turn_below t2.turn)
      have cq := tw.cellP hkQ
      have c1 := t2.cell1
      have TD := hid t2.drew
      obtain ⟨a, hq, hqu⟩ := tw.drew.qu hkQ
      have HQ := hid (copy_q _ a _ wr.drew hq (Nat.le_trans (IV.out.small hkQ) (by omega)))
      have HL : Hid (k ≤ 8) := by show k ≤ 8; have := IV.out.hi; omega
      have hq8 : nQ ≤ 8 := by have := IV.out.hi; omega
      have HTk : Hid (h.Q.take (k + 1) = h.Q.take k ++ [que h k]) := take_succ hkQ
      have HTl : Hid ((h.Q.take k).length = k) := by show (h.Q.take k).length = k; rw [List.length_take]; omega
      clear t2 T tw hq hqu
      generalize que h k = Sk at *
      generalize qs.getD k 0 = q at *
      go_wp2_with fail
      go_region_law (first
        | (refine step_append_run rfl (.tmp 26) (.tmp 29) 61 61 rfl (.slice ao2 k cap2) (.slice (some ⟨w2.heap.size, 0, none⟩) 1 1) _ _ (by simp [Act.eval]) (by simp [Act.eval]) R1.out ?_)
        | (go_simp; go_at_call 32; refine Calls.mono HQ.out ?_; rintro e w2 ⟨q2, F2, rfl, q2h, b2, n2⟩; obtain ⟨u', w3, r1, ⟨ao', cap', rfl⟩, c1', f1', t3⟩ := TD.out.queueMore 61 uP infoP q2h b2 n2 (by have := HTl.out; have := HL.out; simp only; omega); have R1 := hid r1; have T3 := hid t3; have c1b := (TD.out.below b2).cell1; have c1c := cell_al c1b (.cells #[ptr q2] 64); clear r1 t3 q2h b2 n2))
      all_goals
        go_wp2
        go_round
        case rel => exact ⟨k + 1, _, _, _, by omega, by go_num, by have := T3.out; simp only [HTl.out] at this; rw [HTk.out]; exact this⟩
        case measure => simp [intOf]; omega
    · obtain rfl : k = nQ := by omega
      clear t2
      go_wp2
      go_ret
      have t3 := T.out
      rw [← hnQ, List.take_length] at t3
      obtain ⟨F2, f1, f2, f3⟩ := t3.all_new
      exact ⟨_, F2, rfl, f1, f2, f3⟩
end
end Go.Proofs.YtchamgecalfmpaaDoor

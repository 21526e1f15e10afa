/-
  What Copy of package tables answers: another space in the same state, in blocks of its own; no condition.
-/
import Derived.Test.YthjcodkgcffamaaPClone
import Derived.Test.YthjcodkgcffamaaPTell
namespace Go.Proofs.Ythjcodkgcffamaa
open Go.RowKit Go.Deep Go.Shelf
def nums64 (S : Sp) : List Value := (List.range 64).map fun i => .int .i64 (hasN S (i : Nat))
set_option maxRecDepth 100000 in
theorem built_is (g : Nat → Value) : List.foldl (fun cs x => cs.setIfInBounds (64 + x.snd) x.fst) Try.zeroCells63 ((List.range 64).map g).zipIdx = ((List.range 64).map (fun _ => Value.map none) ++ (List.range 64).map g).toArray := by kernel_rfl
section
variable {w0 w : World} {r p : Nat} {m : Nat → Option Nat} {S : Sp} {R : List Th}
theorem load_nums (h : SpP p m S w) : (loadVar 61 ⟨p, 64, none⟩).run Try.prog w = .ok (.agg (nums64 S).toArray) w := by
  have hl : (nums64 S).length = 64 := by simp [nums64]
  have h1 := run_loadCells_list (P := Try.prog) w ⟨p, 64, none⟩ (nums64 S) (fun j v hj => by
    have hj64 : j < 64 := by have := (List.getElem?_eq_some_iff.1 hj).1; omega
    rw [add_none]
    unfold nums64 at hj
    rw [List.getElem?_map, List.getElem?_range hj64] at hj
    cases hj
    exact h.cellN hj64)
  rw [hl] at h1
  simp only [loadVar, Sem.run_bind, Try.isAgg61, Try.sizeOf61, Result.andThen_ok, if_true, h1, Sem.run_pure]
theorem wpList_load_run {ops : Array Oper} {rest : List Oper} {o : Oper} {a : Act} {Q : Exit → Act → World → Prop} (hgd : o.guard = none) (t : TypeId) (x : Operand) (ho : o.op = .load t x) (ad : Addr) (v : Value) (hx : a.eval x = .pointer (some ad)) (hrun : (loadVar t ad).run Try.prog w = .ok v w) (h : wpList Try.prog ops Q rest (a.put o.dst v) w) : wpList Try.prog ops Q (o :: rest) a w := by
  refine wpList_plain hgd fun K' hK' => ?_
  have hrun' : (Instr.loadAt t (.pointer (some ad))).run Try.prog w = .ok v w := by
    simp only [Instr.loadAt, Instr.sureAddr, Sem.run_bind, Sem.run_pure, Result.andThen_ok, hrun]
  unfold Oper.wp
  simp [execOp, ho, hx, hrun', Result.andThen]
  exact hK' _ _ h
/-- Behind some rounds: the first k maps are copied. -/
structure Cy (w : World) (q : Nat) (S : Sp) (k : Nat) (m' : Nat → Option Nat) (wr : World) : Prop where
  low : Below w.heap.size w wr
  qle : w.heap.size ≤ q
  head : ∃ C : Array Value, wr.heap[q]? = some (.cells C 63 (0, 0)) ∧ C.size = 128 ∧ ∀ i : Nat, i < 64 → C[i]? = some (.map (m' i)) ∧ C[64 + i]? = some (.int .i64 (hasN S i))
  done : ∀ i, i < k → (m' i).isSome = hasB S i ∧ MapAt wr (m' i) (atPl S.f i)
  rest : ∀ i, k ≤ i → m' i = none
  one : ∀ i j x, i < 64 → j < 64 → m' i = some x → m' j = some x → i = j
  own : ∀ i x, m' i = some x → w.heap.size ≤ x ∧ x ≠ q ∧ x < wr.heap.size
theorem Cy.cell {q k : Nat} {m' : Nat → Option Nat} {wr : World} (h : Cy w q S k m' wr) {i : Nat} (hi : i < 64) : wr.cell? ⟨q, i, none⟩ = some (.map (m' i)) ∧ wr.frozen? ⟨q, i, none⟩ = false ∧ q < wr.heap.size := by
  obtain ⟨C, hC, h0, h1⟩ := h.head
  exact ⟨by simp [World.cell?, hC, (h1 i hi).1], by simp [World.frozen?, hC], (Array.getElem?_eq_some_iff.1 hC).1⟩
theorem Cy.step {q k : Nat} {m' : Nat → Option Nat} {wr w3 : World} (h : Cy w q S k m' wr) (hk : k < 64) {mo : Option Nat} (b : Below wr.heap.size wr w3) (hm : MapAt w3 mo (atPl S.f k)) (his : mo.isSome = hasB S k) (hn : ∀ x, mo = some x → wr.heap.size ≤ x) : Cy w q S (k + 1) (updN m' k mo) (w3.setCell ⟨q, k, none⟩ (.map mo)) := by
  obtain ⟨C, hC, h0, h1⟩ := h.head
  have hq : q < wr.heap.size := (Array.getElem?_eq_some_iff.1 hC).1
  have hle := h.low.size
  have hmo : ∀ x, mo = some x → x < w3.heap.size := fun x hx => by rw [hx] at hm; exact hm.lt
  have keep : ∀ x, x ≠ q → (w3.setCell ⟨q, k, none⟩ (.map mo)).heap[x]? = w3.heap[x]? := fun x hx => blk_setCell_other _ _ _ _ hx
  refine ⟨?_, h.qle, ⟨_, setBlock ((b.block q hq).trans hC) _, by simpa using h0, fun i hi => ?_⟩, fun i hi => ?_, fun i hi => ?_, fun i j x hi hj hx hy => ?_, fun i x hx => ?_⟩
  · have h2 := Below.then h.low b hle
    exact ⟨h2.os, h2.tape, h2.output, by rw [nblk_setCell]; exact h2.size, fun x hx => (keep x (by have := h.qle; omega)).trans (h2.block x hx)⟩
  · have a1 : k < C.size := by omega
    by_cases e : i = k
    · subst e
      rw [updN_at]
      exact ⟨by simp [a1], by simp [(h1 i hi).2]⟩
    · rw [updN_ne _ _ e]
      have e2 : ¬ k = i := fun x => e x.symm
      have e3 : ¬ k = 64 + i := by omega
      exact ⟨by simp [e2, (h1 i hi).1], by simp [e3, (h1 i hi).2]⟩
  · by_cases e : i = k
    · subst e
      rw [updN_at]
      refine ⟨his, hm.keep fun x hx => keep x ?_⟩
      have := hn x hx
      omega
    · rw [updN_ne _ _ e]
      obtain ⟨d1, d2⟩ := h.done i (by omega)
      refine ⟨d1, (d2.below b).keep fun x hx => keep x (h.own i x hx).2.1⟩
  · rw [updN_ne _ _ (by omega)]
    exact h.rest i (by omega)
  · by_cases e : i = k
    · by_cases e2 : j = k
      · rw [e, e2]
      · rw [e, updN_at] at hx
        rw [updN_ne _ _ e2] at hy
        have := hn x hx
        have := (h.own j x hy).2.2
        omega
    · rw [updN_ne _ _ e] at hx
      by_cases e2 : j = k
      · rw [e2, updN_at] at hy
        have := hn x hy
        have := (h.own i x hx).2.2
        omega
      · rw [updN_ne _ _ e2] at hy
        exact h.one i j x hi hj hx hy
  · rw [nblk_setCell]
    by_cases e : i = k
    · rw [e, updN_at] at hx
      have h3 := hn x hx
      exact ⟨by omega, by omega, hmo x hx⟩
    · rw [updN_ne _ _ e] at hx
      obtain ⟨o1, o2, o3⟩ := h.own i x hx
      exact ⟨o1, o2, Nat.lt_of_lt_of_le o3 b.size⟩
theorem Cy.end {q : Nat} {m' : Nat → Option Nat} {wr : World} (h : Cy w q S 64 m' wr) (g : Good S) : Sep w w.heap.size wr [spT q m' S] := by
  have hsp : SpP q m' S wr := ⟨h.head, fun i hi => (h.done i hi).1, fun i hi => (h.done i hi).2, h.one, fun i hi e => (h.own i q e).2.1 rfl, g⟩
  refine ⟨h.low, h.low.size, fun t ht => ?_, List.pairwise_singleton _ _⟩
  rw [List.mem_singleton] at ht
  subst ht
  refine ⟨hsp, ?_⟩
  rintro x (rfl | ⟨i, hi, hx⟩)
  · exact h.qle
  · exact (h.own i x hx).1
theorem cy_start (w : World) (S : Sp) : Cy w w.heap.size S 0 (fun _ => none) (w.alloc (.cells ((List.range 64).map (fun _ => Value.map none) ++ nums64 S).toArray 63)) := by
  refine ⟨below_new _ _, Nat.le_refl _, ⟨_, blk_alloc_new _ _, by simp [nums64], fun i hi => ⟨?_, ?_⟩⟩, fun i hi => absurd hi (by omega), fun _ _ => rfl, fun _ _ _ _ _ h => (by cases h), fun _ _ h => (by cases h)⟩
  · rw [List.getElem?_toArray, List.getElem?_append_left (by simpa using hi), List.getElem?_map, List.getElem?_range hi]
    rfl
  · rw [List.getElem?_toArray, List.getElem?_append_right (by simp), List.length_map, List.length_range, Nat.add_sub_cancel_left]
    unfold nums64
    rw [List.getElem?_map, List.getElem?_range hi]
    rfl
set_option maxRecDepth 100000 in
set_option maxHeartbeats 4000000 in
theorem copy_any (h : SpP p m S w) : Calls Try.prog 20 #[ptr p] w fun e w' => ∃ q m', e = .returned (ptr q) ∧ Sep w w.heap.size w' [spT q m' S] := by
  have hld := load_nums h
  have HBd := hid (built_is fun i => .int .i64 (hasN S (i : Nat)))
  have HS := hid h
  have HLd := hid hld
  have HY := hid (cy_start w S)
  clear h hld
  unfold nums64 at *
  generalize hcs : (List.range 64).map (fun i => Value.int .i64 (hasN S (i : Nat))) = cs at *
  generalize hct : ((List.range 64).map (fun _ => Value.map none) ++ cs).toArray = ct at *
  have hcs9 : cs.toArray.size = 64 := by rw [← hcs]; simp
  clear hcs hct
  go_enter Try.func20, Try.ntmps20
  go_wp2_with (refine wpList_load_run rfl 61 (.tmp 7) rfl ⟨p, 64, none⟩ (.agg cs.toArray) rfl HLd.out ?_)
  generalize w.heap.size = q at *
  go_loopw [11] (fun s11 wr => ∃ (k : Nat) (m' : Nat → Option Nat), k ≤ 64 ∧ s11 = .int .i64 k ∧ Cy w q S k m' wr) (fun s11 _ => 64 - (intOf s11).toNat)
  case atStart => exact ⟨0, _, Nat.zero_le _, rfl, by rw [HBd.out]; exact HY.out⟩
  case round =>
    clear HY HLd
    obtain ⟨k, m', hk, rfl, cy⟩ := hrel
    by_cases hlt : k < 64
    · have hltz : (k : Int) < 64 := by omega
      have h2 := HS.out.below cy.low
      have c0 := h2.cell hlt
      obtain ⟨c1, f1, hq1⟩ := cy.cell hlt
      have HC := hid (fun u (b : Below wr.heap.size wr u) => clone_call (m k) (atPl S.f k) u ((h2.maps k hlt).below b))
      have HI := hid (h2.is k hlt)
      have HCy := hid cy
      clear h2 cy
      go_wp2_with fail
      go_region_with (go_at_call 39; refine Calls.mono (HC.out _ ((Below.refl _ _).drew)) ?_; rintro e w3 ⟨mo, rfl, hm3, hno, hnew, b3⟩; have b3' : Below wr.heap.size wr w3 := (⟨b3.os, b3.tape, b3.output, b3.size, b3.block⟩); have c2 : w3.cell? ⟨q, k, none⟩ = some (.map (m' k)) := (b3'.cell (p := ⟨q, k, none⟩) hq1).trans c1; have f2 : w3.frozen? ⟨q, k, none⟩ = false := (b3'.frozen (p := ⟨q, k, none⟩) hq1).trans f1; have HN := hid (HCy.out.step hlt b3' hm3 (by rw [← HI.out]; cases hx : m k with | none => rw [hno.2 hx] | some z => cases hy : mo with | none => rw [hno.1 hy] at hx; cases hx | some y => rfl) hnew); clear b3 b3' hm3 hno hnew)
      all_goals go_wp2
      all_goals go_roundw
      case rel => exact ⟨k + 1, _, by omega, by go_num, HN.out⟩
      case measure => simp [intOf]; omega
    · have hltz : ¬ (k : Int) < 64 := by omega
      obtain rfl : k = 64 := by omega
      have HE := hid (cy.end (SpP.good HS.out))
      clear cy
      go_wp2
      go_ret
      exact ⟨_, rfl, _, HE.out⟩
theorem copy_sep (s : Sep w0 r w (spT p m S :: R)) : Calls Try.prog 20 #[ptr p] w fun e w' => ∃ q m', e = .returned (ptr q) ∧ Sep w0 r w' (spT q m' S :: spT p m S :: R) := by
  refine Calls.mono (copy_any s.head) ?_
  rintro e w' ⟨q, m', rfl, k⟩
  exact ⟨q, m', rfl, s.join k⟩
end
end Go.Proofs.Ythjcodkgcffamaa

/-
  Parse by its contract; no condition of ours.
-/
import Derived.Test.YtkbbjpnkfmegnaaSIter
import Derived.Shelf.Abstract
namespace Go.Proofs.Ytkbbjpnkfmegnaa
open Go.RowKit Go.Deep Go.Shelf
attribute [local go_sem] Oper.semAt_some
theorem OwnI.lower {B B' : Nat} {w : World} {v : Value} {L : List It} (h : OwnI B w v L) (hB : B' ≤ B) : OwnI B' w v L := by
  obtain ⟨h1, ⟨rfl, h0⟩ | ⟨g, cap, cur, rfl, hg, hh, hr⟩⟩ := h
  · exact ⟨h1, .inl ⟨rfl, h0⟩⟩
  · exact ⟨h1, .inr ⟨g, cap, cur, rfl, by omega, hh, hr⟩⟩
/-- Behind an append and the store of its result into a variable's box q: all other blocks are as they were. -/
theorem after_store {A w' : World} {o : Obj} {v v' : Value} {q : Nat} (hg : (A.alloc o).grownBy w' v.ownBlock) : A.heap.size ≤ (w'.setCell ⟨q, 0, none⟩ v').heap.size ∧
    (∀ r, r < A.heap.size → r ≠ q → some r ≠ v.ownBlock → (w'.setCell ⟨q, 0, none⟩ v').heap[r]? = A.heap[r]?) ∧ (∀ r, r ≠ q → (w'.setCell ⟨q, 0, none⟩ v').heap[r]? = w'.heap[r]?) := by
  refine ⟨?_, fun r hr hq ho => ?_, fun r hq => blk_setCell_other _ _ _ _ hq⟩
  · have := hg.size
    simp at this
    simp [World.setCell]
    omega
  · rw [blk_setCell_other _ _ _ _ hq, hg.block r (by simp; omega) ho, blk_alloc_lt _ _ _ hr]
theorem parse_any (l : List Int) (c : Int) (hb : Bytes8 l) (hl : l.length ≤ 1000000) (w : World) :
    Calls Try.prog 11 #[.string (strOfNums l), .int .i64 c] w fun e w' => ∃ v, e = .returned v ∧ OwnI w.heap.size w' v (pick c (items l)) ∧ Below w.heap.size w w' := by
  refine (callsIn_wide (n := 0)).1 ?_
  have hpl : (pick c (items l)).length ≤ 1000000 := by have := pick_len c (items l); have := items_len l; omega
  have hG := right_gives 22 (w.heap.size + 1) (w.heap.size + 2) (w.heap.size + 3) c 0 (items l) _ (enters_of Try.func22 (by kernel_rfl) rfl) (held_gives (w.heap.size + 1) l hb hl)
  have hs := strOfNums_size l
  generalize strOfNums l = s at *
  generalize pick c (items l) = xs at *
  refine callsIn_of_wp_marks Try.func11 rfl trivial ?_ rfl
  simp only [Try.ntmps11, List.size_toArray, List.length_cons, List.length_nil, Nat.reduceAdd, Nat.reduceSub, Array.replicate_succ, Array.replicate_zero, List.push_toArray, List.append_toArray, List.nil_append, List.cons_append]
  gi_wp2_with (first | (refine ⟨trivial, rfl, ?_⟩; gi_at_call 18; refine (callsIn_wide.2 (held_any _ _)).mono ?_; rintro e w' ⟨rfl, rfl⟩) | (refine ⟨trivial, rfl, ?_⟩; gi_at_call 17; refine (callsIn_wide.2 (right_fn _ _ _ _)).mono ?_; rintro e w' ⟨rfl, rfl⟩))
  generalize hW2 : (((w.alloc (Obj.cells #[Value.slice none 0 0] 24)).alloc (Obj.cells #[Value.string s] 9)).alloc (Obj.cells #[Value.func (Fn.func 22) #[] #[Value.pointer (some ⟨w.heap.size + 1, 0, none⟩)]] 34)).alloc (Obj.cells #[Value.int IntKind.i64 c] 3) = W2 at *
  have x0 : Boxed W2 w.heap.size 24 (.slice none 0 0) := by rw [← hW2]; exact (((Boxed.new w _ _).alloc _).alloc _).alloc _
  have x1 : Boxed W2 (w.heap.size + 1) 9 (.string s) := by rw [← hW2]; have := Boxed.new (w.alloc (Obj.cells #[Value.slice none 0 0] 24)) 9 (.string s); rw [World.size_alloc] at this; exact (this.alloc _).alloc _
  have x2 : Boxed W2 (w.heap.size + 2) 34 (.func (.func 22) #[] #[.pointer (some ⟨w.heap.size + 1, 0, none⟩)]) := by rw [← hW2]; have := Boxed.new ((w.alloc (Obj.cells #[Value.slice none 0 0] 24)).alloc (Obj.cells #[Value.string s] 9)) 34 (.func (.func 22) #[] #[.pointer (some ⟨w.heap.size + 1, 0, none⟩)]); rw [World.size_alloc, World.size_alloc] at this; exact this.alloc _
  have x3 : Boxed W2 (w.heap.size + 3) 3 (.int .i64 c) := by rw [← hW2]; have := Boxed.new (((w.alloc (Obj.cells #[Value.slice none 0 0] 24)).alloc (Obj.cells #[Value.string s] 9)).alloc (Obj.cells #[Value.func (Fn.func 22) #[] #[Value.pointer (some ⟨w.heap.size + 1, 0, none⟩)]] 34)) 3 (.int .i64 c); rw [World.size_alloc, World.size_alloc, World.size_alloc] at this; exact this
  have bW : Below w.heap.size w W2 := by rw [← hW2]; exact ((((Below.refl _ w).alloc (Nat.le_refl _) _).alloc (by simp) _).alloc (by simp; omega) _).alloc (by simp; omega) _
  have hs2 : W2.heap.size = w.heap.size + 4 := by rw [← hW2]; simp
  clear hW2
  generalize hr : w.heap.size = r at *
  have keep : ∀ {A B : World} {t : TypeId} {v : Value} {b : Nat}, b < W2.heap.size → Turns W2.heap.size (W2.heap.size + (0 + 3 + 2)) A B → Boxed A b t v → Boxed B b t v := fun hb' t h => (t.block _ h.lt (by omega)).trans h
  refine range_gives (gf := 21) (lb := #[.pointer (some ⟨r + 2, 0, none⟩), .pointer (some ⟨r + 3, 0, none⟩)]) rfl (enters_of Try.func21 (by kernel_rfl) rfl) hG rfl
    (fun pre A => (∃ v, Boxed A r 24 v ∧ OwnI (W2.heap.size + 5) A v pre) ∧ Boxed A (r + 1) 9 (.string s) ∧ Boxed A (r + 2) 34 (.func (.func 22) #[] #[.pointer (some ⟨r + 1, 0, none⟩)]) ∧ Boxed A (r + 3) 3 (.int .i64 c) ∧ Below r w A)
    (fun pre A B h t => by
      obtain ⟨⟨v, hv, ho⟩, h1, h2, h3, h4⟩ := h
      exact ⟨⟨v, keep (by omega) t hv, ho.of_block fun k hk => t.block k (ho.block k hk).2 (by have := (ho.block k hk).1; omega)⟩, keep (by omega) t h1, keep (by omega) t h2, keep (by omega) t h3,
        ⟨t.os.trans h4.os, t.tape.trans h4.tape, t.output.trans h4.output, Nat.le_trans h4.size t.size, fun k hk => (t.block k (Nat.lt_of_lt_of_le hk (hr ▸ h4.size)) (by omega)).trans (h4.block k hk)⟩⟩)
    (fun pre A h => ⟨h.2.1.cell, h.2.2.1.cell, h.2.2.2.1.cell⟩) ⟨⟨_, x0, ownI_nil _ _⟩, x1, x2, x3, bW⟩
    (fun x a' A => ∃ qx, W2.heap.size + (0 + 3 + 2) ≤ qx ∧ AtI A qx x ∧ a' = { tmps := #[.string s, .int .i64 c, undef, undef, .slice none 0 0, .pointer (some ⟨r, 0, none⟩), .pointer (some ⟨qx, 0, none⟩), .string s, .func (.func 22) #[] #[.pointer (some ⟨r + 1, 0, none⟩)], .int .i64 c, .func (.func 21) #[] #[.pointer (some ⟨r + 2, 0, none⟩), .pointer (some ⟨r + 3, 0, none⟩)], encI x, undef, undef, undef, undef, undef], defers := [] })
    (fun x a' A B h t => by obtain ⟨qx, h1, h2, h3⟩ := h; exact ⟨qx, h1, (t.block _ h2.lt (by omega)).trans h2, h3⟩) ?assign ?body ?done
  case assign =>
    rintro l' pre x rest A K hx hsz ⟨⟨v, hv, ho⟩, h1, h2, h3, h4⟩ hK
    have hK' := hK { tmps := #[.string s, .int .i64 c, undef, undef, .slice none 0 0, .pointer (some ⟨r, 0, none⟩), .pointer (some ⟨A.heap.size, 0, none⟩), .string s, .func (.func 22) #[] #[.pointer (some ⟨r + 1, 0, none⟩)], .int .i64 c, .func (.func 21) #[] #[.pointer (some ⟨r + 2, 0, none⟩), .pointer (some ⟨r + 3, 0, none⟩)], encI x, undef, undef, undef, undef, undef], defers := [] } (A.alloc (objI x))
      (Still.of_below (below_new _ _) hsz) ⟨⟨v, hv.alloc _, ho.below (below_new _ _)⟩, h1.alloc _, h2.alloc _, h3.alloc _, h4.alloc (by omega) _⟩ ⟨A.heap.size, hsz, AtI.new _ _, rfl⟩
    clear hK
    simp only [encI, objI, fourI] at hK' ⊢
    gi_wp2
    exact hK'
  case body =>
    rintro l' pre x rest a' A hx hsz ⟨⟨v, hv, ho⟩, h1, h2, h3, h4⟩ ⟨qx, hqx, hAt, rfl⟩
    obtain ⟨c0, c1, c2, c3⟩ := hAt.cells
    have hvc := hv.cell
    have hlen : pre.length + 1 ≤ 1000000 := by have : xs.length = pre.length + (rest.length + 1) := by rw [hx]; simp
                                               omega
    have hT : ToldI (A.alloc (objI x)) (some ⟨A.heap.size, 0, none⟩) [x] := .inr ⟨_, 0, rfl, by simp, fun j y hj => by
      cases j with
      | zero => simp at hj; subst hj; simpa using (AtI.new A x).cells
      | succ j => simp at hj⟩
    obtain ⟨v', w', hrun, ho', hg⟩ := append_items (W2.heap.size + 5) (A.alloc (objI x)) 24 v pre [x] (some ⟨A.heap.size, 0, none⟩) 1 (ho.below (below_new _ _)) hT (fun h => by cases h) (by simpa using hlen) (by simp; omega)
    have HRun : Hid _ := hrun
    clear hrun hT
    obtain ⟨ao', cap', rfl⟩ := ho'.slice
    have hob : ∀ k, v.ownBlock = some k → W2.heap.size + 5 ≤ k := fun k hk => (ho.block k hk).1
    have hv1 : Boxed w' r 24 v := (hv.alloc (objI x)).kept hg (fun e => by have := hob _ e.symm; omega)
    have hv1c := hv1.cell
    have hv1f := hv1.frozen
    obtain ⟨z1, z2, z3⟩ := after_store (q := r) (v' := .slice ao' (pre ++ [x]).length cap') hg
    have ho2 : OwnI (W2.heap.size + 5) (w'.setCell ⟨r, 0, none⟩ (.slice ao' (pre ++ [x]).length cap')) (.slice ao' (pre ++ [x]).length cap') (pre ++ [x]) := ho'.of_block fun k hk => z3 k (by have := (ho'.block k hk).1; omega)
    have hv2 := hv1.set (.slice ao' (pre ++ [x]).length cap')
    have kk : ∀ b, b < A.heap.size → b ≠ r → b < W2.heap.size + 5 → (w'.setCell ⟨r, 0, none⟩ (.slice ao' (pre ++ [x]).length cap')).heap[b]? = A.heap[b]? := fun b hb1 hb2 hb3 => z2 b hb1 hb2 (fun e => by have := hob _ e.symm; omega)
    have fin : Still W2.heap.size (W2.heap.size + (0 + 3 + 2)) A (w'.setCell ⟨r, 0, none⟩ (.slice ao' (pre ++ [x]).length cap')) ∧ ((∃ v, Boxed (w'.setCell ⟨r, 0, none⟩ (.slice ao' (pre ++ [x]).length cap')) r 24 v ∧ OwnI (W2.heap.size + 5) (w'.setCell ⟨r, 0, none⟩ (.slice ao' (pre ++ [x]).length cap')) v (pre ++ [x])) ∧ Boxed (w'.setCell ⟨r, 0, none⟩ (.slice ao' (pre ++ [x]).length cap')) (r + 1) 9 (.string s) ∧ Boxed (w'.setCell ⟨r, 0, none⟩ (.slice ao' (pre ++ [x]).length cap')) (r + 2) 34 (.func (.func 22) #[] #[.pointer (some ⟨r + 1, 0, none⟩)]) ∧ Boxed (w'.setCell ⟨r, 0, none⟩ (.slice ao' (pre ++ [x]).length cap')) (r + 3) 3 (.int .i64 c) ∧ Below r w (w'.setCell ⟨r, 0, none⟩ (.slice ao' (pre ++ [x]).length cap'))) := by
      refine ⟨⟨z1, fun b hb1 hb2 => kk b (by omega) (by omega) (by omega)⟩, ⟨_, hv2, ho2⟩, (kk _ (by omega) (by omega) (by omega)).trans h1, (kk _ (by omega) (by omega) (by omega)).trans h2, (kk _ (by omega) (by omega) (by omega)).trans h3, ?_⟩
      exact ⟨hg.os.trans h4.os, hg.tape.trans h4.tape, hg.output.trans h4.output, Nat.le_trans h4.size z1, fun k hk => (kk k (Nat.lt_of_lt_of_le hk (hr ▸ h4.size)) (by omega) (by omega)).trans (h4.block k hk)⟩
    clear kk z1 z2 z3 hv2 ho2 hob hv1 ho' hg ho hv h1 h2 h3 h4 hAt
    simp only [encI, objI, fourI] at HRun ⊢
    gi_wp2_with (gi_at_builtin; refine wpListIn_append_run rfl (.tmp 12) (.tmp 14) 24 rfl _ _ _ _ rfl rfl HRun.out ?_)
    simp only [List.length_append, List.length_cons, List.length_nil, Nat.zero_add] at fin
    exact fin
  case done =>
    rintro A ⟨⟨v, hv, ho⟩, h1, h2, h3, h4⟩ hK
    have hc := hv.cell
    gi_wp2
    refine ⟨by simp, .inl ⟨_, _, rfl, run_takeDeferred hK, ?_⟩⟩
    refine ⟨_, results_tmp rfl _ _ _, v, rfl, (ho.of_block fun k hk => World.putObj_heap_other (by have := (ho.block k hk).1; omega)).lower (by omega), ?_⟩
    have := h4.size
    rw [hr]
    exact h4.trans ((Below.refl _ _).grown (grownBy_putObj' A W2.heap.size (.deferred none)) (by omega) (fun k e => by cases e; omega))
end Go.Proofs.Ytkbbjpnkfmegnaa

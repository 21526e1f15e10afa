/-
  A row more in the document's own nodes; no condition of ours.
-/
import Derived.Test.YtkpoppgibempbaaNRSize
namespace Go.Proofs.Ytkpoppgibempbaa
open Go.RowKit Go.Deep Go.MapKept Go.Maps
set_option linter.unusedSectionVars false
variable [dCp : DecidableEq Cp] [dLim : ∀ k, Decidable (Lim k)] [dBad : ∀ k, Decidable (Bad k)] [dFit : ∀ g z, Decidable (Fit g z)] [dFine : ∀ c, Decidable (Fine c)] [dMint : ∀ c v, Decidable (MintR c v)] [dWho : ∀ x y, Decidable (Whose x y)] [dSl : DecidableEq Sl] [dLt : ∀ a b, Decidable (ltS a b)] [iSl : Inhabited Sl] [iCp : Inhabited Cp]

/-- append as a step of a region that draws its order, where its run is known. -/
theorem step_append_run {w : World} {ops : Array Oper} {o : Oper} {a : Act} {K : Act → World → Prop} {Q : Exit → Act → World → Prop} {E : Prop} (hgd : o.guard = none) (s x : Operand) (t : TypeId)
    (ho : o.op = .call { callee := .builtin .append, args := #[s, x], argTypes := #[t, t] }) (v y v' : Value) (w' : World) (hs : a.eval s = v) (hx : a.eval x = y)
    (hrun : (Builtin.append_ #[t, t] o.type #[v, y]).run Try.prog w = .ok v' w') (h : K (a.put o.dst v') w') : if Region.wanted o (yielded ops a.tmps) = true then Oper.wp Try.prog o a w K Q else E := by
  have hw : Region.wanted o (yielded ops a.tmps) = true := by simp [Region.wanted, hgd]
  rw [if_pos hw]
  unfold Oper.wp
  simp [execOp, ho, resolve, invoke, builtin, hs, hx, hrun, Result.andThen]
  exact h
theorem infoL : (Try.prog.info? 66).map (fun i => (i.zero, i.size, i.bytes)) = some (some (.slice none 0 0), 1, 24) := by kernel_rfl
theorem infoCap : (Try.prog.info? 33).map (fun i => (i.zero, i.size, i.bytes)) = some (some (.agg #[.int .i64 0, .int .i64 0, .int .i64 0, .int .u64 0, .int .u64 0, .int .i64 0]), 6, 48) := by kernel_rfl
def zeroes : Array Value := #[.int .i64 0, .int .i64 0, .int .i64 0, .int .u64 0, .int .u64 0, .int .i64 0]
def objRow (m : Nat) : Obj := .cells (madeCells zeroes (m * 6)) 33
theorem make_caps (m : Nat) (hm : m ≤ 256) (W : World) : (Instr.makeSlice 66 (.int .i64 (m : Int)) (.int .i64 (m : Int))).run Try.prog W = .ok (.slice (some ⟨W.heap.size, 0, none⟩) m m) (W.alloc (objRow m)) := by
  obtain ⟨i, hi, hz⟩ := Option.map_eq_some_iff.1 infoCap
  simp only [Prod.mk.injEq] at hz
  have h := run_make (P := Try.prog) W 66 33 i _ Try.underlying66 hi hz.1 .i64 .i64 (m : Int) (m : Int) (by omega) (Int.le_refl _) (by rw [hz.2.2]; omega) (by omega)
  rw [hz.2.1] at h
  simpa [objRow, zeroes, Value.cells] using h
theorem made_row (m : Nat) {W : World} {b : Nat} (h : W.heap[b]? = some (objRow m)) : RowC W b (List.replicate m no) := by
  refine ⟨_, h, by simp [size_madeCells], fun i c hc => ?_⟩
  obtain ⟨hi, e⟩ := List.getElem?_eq_some_iff.1 hc
  simp only [List.length_replicate] at hi
  simp only [List.getElem_replicate] at e
  subst e
  have key : ∀ f, f < 6 → (madeCells zeroes (m * 6))[i * 6 + f]? = some (zeroes[f]!) := fun f hf => by
    have h1 : i * 6 + f < m * 6 := by omega
    have h2 : (i * 6 + f) % 6 = f := by omega
    have h3 : zeroes.size = 6 := rfl
    simp [madeCells, h1, h2, h3]
  exact ⟨key 0 (by omega), key 1 (by omega), key 2 (by omega), key 3 (by omega), key 4 (by omega), key 5 (by omega)⟩
/-- One row more. -/
theorem append_hdr (w : World) (ty : TypeId) (v : Value) (n : Nat) (xs : List Value) (x : Value) (h1 : x.oneCell' = true) (hown : w.ownsRow 0 66 1 v n xs) (hl : n ≤ 1000000) :
    ∃ v' w', (Builtin.append_ #[26, 26] ty #[v, .slice (some ⟨w.heap.size, 0, none⟩) 1 1]).run Try.prog (w.alloc (.cells #[x] 66)) = .ok v' w' ∧ w'.ownsRow 0 66 1 v' (n + 1) (xs ++ [x]) ∧ w.grownBy w' v.ownBlock ∧ (v'.ownBlock = v.ownBlock ∨ v'.ownBlock = some (w.heap.size + 1)) := by
  obtain ⟨i, hi, hz⟩ := Option.map_eq_some_iff.1 infoL
  simp only [Prod.mk.injEq] at hz
  obtain ⟨v', w', r1, r2, r3, _, r5⟩ := run_append_own_at (P := Try.prog) (w.alloc (.cells #[x] 66)) 0 26 ty 66 i _ 1 24 Try.underlying26 hi hz.1 hz.2.1 hz.2.2 rfl (by decide) v n xs (World.ownsRow.alloc hown _) ⟨w.heap.size, 0, none⟩ 1 1 [x] rfl
    (cell_one_new _ _ _) (by simpa using h1) (by unfold maxLen; omega) (by omega) (by omega)
  exact ⟨v', w', r1, r2, (World.grownBy_alloc w _ _).trans r3, by simpa using r5⟩
def RLeavesF (w : World) (p : Nat) (F : Nat → Prop) (S : St) (w' : World) : Prop := ∃ F', Rds w' p F' S ∧ Turn F w w' ∧ Out F F' w
theorem RLeaves.wide {w w' : World} {p : Nat} {F : Nat → Prop} {S : St} (h : RLeaves w p F S w') : RLeavesF w p F S w' := ⟨F, h.1, h.2, Out.refl F w⟩
/-- A row is appended. -/
theorem RN.app {w w1 w5 : World} {p : Nat} {v v' : Value} {H : List Value} {F : Nat → Prop} {S : St} {l : List Cp} (h : RN w p v H F S) (hl : l ≠ []) (ok : Okay (S ++ [l])) {q : Nat} (hq : w.heap.size = q) (h1 : Below w.heap.size w w1) (hq1 : q < w1.heap.size) (hr : RowC w1 q l)
    (own5 : w5.ownsRow 0 66 1 v' (S.length + 1) (H ++ [.slice (some ⟨q, 0, none⟩) l.length l.length])) (g5 : w1.grownBy w5 v.ownBlock) (loc : v'.ownBlock = v.ownBlock ∨ v'.ownBlock = some (w1.heap.size + 1)) : RLeavesF w p F (S ++ [l]) (w5.setCell ⟨p, 0, none⟩ v') := by
  have hlH : H.length = S.length := by have := h.row.1; omega
  have hvq : v.ownBlock ≠ some q := fun e => by have := h.lt q (h.fv q e).1; omega
  have hpv : v.ownBlock ≠ some p := fun e => (h.fv p e).2 rfl
  have hpl := h.lt _ h.fp
  have hp1 : w1.heap[p]? = w.heap[p]? := h1.block _ hpl
  have hp5 : w5.heap[p]? = some (.cells #[v] 28 (0, 0)) := ((g5.block _ (by have := h1.size; omega) fun e => hpv e.symm).trans hp1).trans h.head
  have b5 : ∀ k, k < w1.heap.size → k ≠ p → v.ownBlock ≠ some k → (w5.setCell ⟨p, 0, none⟩ v').heap[k]? = w1.heap[k]? := fun k hk hkp hkv => (blk_setCell_other _ _ _ _ hkp).trans (g5.block _ hk fun e => hkv e.symm)
  have vne : ∀ k, v'.ownBlock = some k → k ≠ p ∧ k ≠ q := fun k hk => by
    rcases loc with e | e
    · rw [e] at hk
      exact ⟨(h.fv k hk).2, fun e => hvq (e ▸ hk)⟩
    · rw [e] at hk
      cases hk
      exact ⟨by have := h1.size; omega, by omega⟩
  refine ⟨fun x => F x ∨ x = q ∨ v'.ownBlock = some x, ⟨v', H ++ [.slice (some ⟨q, 0, none⟩) l.length l.length], ?_⟩, ?_, ?_⟩
  · exact {
      head := by
        have := blk_setCell_same (o := 0) (v := v') hp5
        simpa using this
      row := by
        rw [List.length_append]
        exact own_of_block own5 fun g hg => blk_setCell_other _ _ _ _ (vne g hg).1
      each := fun j x hj => by
        rw [List.getElem?_append] at hj
        rw [List.getElem?_append, hlH]
        by_cases e : j < S.length
        · rw [if_pos e] at hj ⊢
          refine (h.each j x hj).imp id fun ⟨b, g1, g2, g3, g4, g6, g7⟩ => ?_
          have hbl := h.lt b g4
          refine ⟨b, g1, g2, (g3.of_block (h1.block _ hbl)).of_block (b5 b (by have := h1.size; omega) g6 g7), .inl g4, g6, fun e2 => ?_⟩
          rcases loc with e3 | e3
          · exact g7 (e3 ▸ e2)
          · rw [e3] at e2
            cases e2
            have := h1.size
            omega
        · rw [if_neg e] at hj ⊢
          have : j - S.length = 0 := by
            have := (List.getElem?_eq_some_iff.1 hj).1
            simp at this
            omega
          rw [this] at hj ⊢
          cases hj
          exact .inr ⟨q, hl, rfl, hr.of_block (b5 q hq1 (by omega) hvq), .inr (.inl rfl), by omega, fun e2 => (vne q e2).2 rfl⟩
      apart := fun a b c m m' h1' h2' => by
        have old : ∀ x, x < S.length → ∀ m, H[x]? = some (.slice (some ⟨c, 0, none⟩) m m) → c < q := fun x hx m e => by
          have hlx : S[x]? = some (S.getD x []) := by rw [List.getD_eq_getElem?_getD, List.getElem?_eq_getElem hx]; rfl
          rcases h.each x _ hlx with ⟨_, e2⟩ | ⟨b', _, e2, _, g4, _⟩
          · rw [e] at e2; cases e2
          · rw [e] at e2
            cases e2
            have := h.lt c g4
            omega
        have new : ∀ x m, ¬ x < S.length → (H ++ [Value.slice (some ⟨q, 0, none⟩) l.length l.length])[x]? = some (.slice (some ⟨c, 0, none⟩) m m) → x = S.length ∧ c = q := fun x m hx e => by
          rw [List.getElem?_append, hlH, if_neg hx] at e
          have : x - S.length = 0 := by
            have := (List.getElem?_eq_some_iff.1 e).1
            simp at this
            omega
          rw [this] at e
          cases e
          exact ⟨by omega, rfl⟩
        by_cases ea : a < S.length
        · by_cases eb : b < S.length
          · rw [List.getElem?_append, hlH, if_pos ea] at h1'
            rw [List.getElem?_append, hlH, if_pos eb] at h2'
            exact h.apart a b c m m' h1' h2'
          · rw [List.getElem?_append, hlH, if_pos ea] at h1'
            have := old a ea m h1'
            have := (new b m' eb h2').2
            omega
        · by_cases eb : b < S.length
          · rw [List.getElem?_append, hlH, if_pos eb] at h2'
            have := old b eb m' h2'
            have := (new a m ea h1').2
            omega
          · rw [(new a m ea h1').1, (new b m' eb h2').1]
      fp := .inl h.fp
      fv := fun k hk => ⟨.inr (.inr hk), (vne k hk).1⟩
      lt := fun x hx => by
        rw [nblk_setCell]
        rcases hx with hx | hx | hx
        · exact Nat.lt_of_lt_of_le (h.lt x hx) (Nat.le_trans h1.size g5.size)
        · exact Nat.lt_of_lt_of_le (by omega) g5.size
        · exact (World.ownsRow.lt own5 x hx).2
      ok := ok }
  · have t1 : Turn F w w5 := (Turn.of h1 F).trans (Turn.grown (F := F) g5 fun k hk => .inl (h.fv k hk).1) fun x hx => .inl hx
    exact t1.trans (Turn.setCell F w5 ⟨p, 0, none⟩ v' h.fp) fun x hx => .inl hx
  · intro x hx
    rcases hx with hx | hx | hx
    · exact .inl hx
    · exact .inr (by omega)
    · rcases loc with e | e
      · exact .inl (h.fv x (e ▸ hx)).1
      · rw [e] at hx
        cases hx
        exact .inr (by have := h1.size; omega)
end Go.Proofs.Ytkpoppgibempbaa

/-
  How the document's own nodes lie in the world: rows of capabilities, a row of these rows; no condition of ours.
-/
import Derived.Test.YtkpoppgibempbaaNMake
namespace Go.Proofs.Ytkpoppgibempbaa
open Go.RowKit Go.Deep Go.MapKept Go.Maps
set_option linter.unusedSectionVars false
variable [dCp : DecidableEq Cp] [dLim : ∀ k, Decidable (Lim k)] [dBad : ∀ k, Decidable (Bad k)] [dFit : ∀ g z, Decidable (Fit g z)] [dFine : ∀ c, Decidable (Fine c)] [dMint : ∀ c v, Decidable (MintR c v)] [dWho : ∀ x y, Decidable (Whose x y)] [dSl : DecidableEq Sl] [dLt : ∀ a b, Decidable (ltS a b)] [iSl : Inhabited Sl] [iCp : Inhabited Cp]

/-! ### A row of capabilities -/
def Six (cur : Array Value) (o : Nat) (c : Cp) : Prop := cur[o]? = some (.int .i64 c.k) ∧ cur[o + 1]? = some (.int .i64 c.o) ∧ cur[o + 2]? = some (.int .i64 c.r) ∧ cur[o + 3]? = some (.int .u64 c.b) ∧ cur[o + 4]? = some (.int .u64 c.g) ∧ cur[o + 5]? = some (.int .i64 c.z)
def RowC (w : World) (b : Nat) (l : List Cp) : Prop := ∃ cur, w.heap[b]? = some (.cells cur 33 (0, 0)) ∧ cur.size = l.length * 6 ∧ ∀ (i : Nat) (c : Cp), l[i]? = some c → Six cur (i * 6) c
theorem RowC.of_block {w w' : World} {b : Nat} {l : List Cp} (h : RowC w b l) (e : w'.heap[b]? = w.heap[b]?) : RowC w' b l := by
  obtain ⟨cur, h1, h2⟩ := h
  exact ⟨cur, e.trans h1, h2⟩
/-- A capability is written into a row. -/
def put6 (w : World) (b o : Nat) (c : Cp) : World := (((((w.setCell ⟨b, o, none⟩ (.int .i64 c.k)).setCell ⟨b, o + 1, none⟩ (.int .i64 c.o)).setCell ⟨b, o + 2, none⟩ (.int .i64 c.r)).setCell ⟨b, o + 3, none⟩ (.int .u64 c.b)).setCell ⟨b, o + 4, none⟩ (.int .u64 c.g)).setCell ⟨b, o + 5, none⟩ (.int .i64 c.z)
theorem blk_setCell_same {w : World} {b o : Nat} {v : Value} {cur : Array Value} {e : TypeId} {f : Nat × Nat} (h : w.heap[b]? = some (.cells cur e f)) : (w.setCell ⟨b, o, none⟩ v).heap[b]? = some (.cells (cur.setIfInBounds o v) e f) := by
  simp only [World.setCell, Array.getElem?_modify, h, Option.map_some]
  simp
theorem put6_same {w : World} {b : Nat} {cur : Array Value} {e : TypeId} {f : Nat × Nat} (h : w.heap[b]? = some (.cells cur e f)) (o : Nat) (c : Cp) :
    (put6 w b o c).heap[b]? = some (.cells ((((((cur.setIfInBounds o (.int .i64 c.k)).setIfInBounds (o + 1) (.int .i64 c.o)).setIfInBounds (o + 2) (.int .i64 c.r)).setIfInBounds (o + 3) (.int .u64 c.b)).setIfInBounds (o + 4) (.int .u64 c.g)).setIfInBounds (o + 5) (.int .i64 c.z)) e f) :=
  blk_setCell_same (blk_setCell_same (blk_setCell_same (blk_setCell_same (blk_setCell_same (blk_setCell_same h)))))
theorem put6_other (w : World) (b o : Nat) (c : Cp) (k : Nat) (hk : k ≠ b) : (put6 w b o c).heap[k]? = w.heap[k]? := by
  unfold put6
  rw [blk_setCell_other _ _ _ _ hk, blk_setCell_other _ _ _ _ hk, blk_setCell_other _ _ _ _ hk, blk_setCell_other _ _ _ _ hk, blk_setCell_other _ _ _ _ hk, blk_setCell_other _ _ _ _ hk]
theorem turn_put6 (F : Nat → Prop) (w : World) (b o : Nat) (c : Cp) (h : F b) : Turn F w (put6 w b o c) := by
  have s : ∀ (W : World) (a : Nat) (v : Value), Turn F w W → Turn F w (W.setCell ⟨b, a, none⟩ v) := fun W a v t => t.trans (Turn.setCell F W ⟨b, a, none⟩ v h) fun x hx => .inl hx
  exact s _ _ _ (s _ _ _ (s _ _ _ (s _ _ _ (s _ _ _ (s _ _ _ (Turn.refl F w))))))
theorem RowC.put {w : World} {b : Nat} {l : List Cp} (h : RowC w b l) {i : Nat} (hi : i < l.length) (c : Cp) : RowC (put6 w b (i * 6) c) b (l.set i c) := by
  obtain ⟨cur, h1, h2, h3⟩ := h
  refine ⟨_, put6_same h1 _ c, by simp [h2], fun j d hj => ?_⟩
  have hb : i * 6 + 5 < cur.size := by omega
  rw [List.getElem?_set] at hj
  by_cases e : i = j
  · subst e
    rw [if_pos rfl, if_pos hi] at hj
    cases hj
    unfold Six
    refine ⟨?_, ?_, ?_, ?_, ?_, ?_⟩ <;> simp [Array.getElem?_setIfInBounds] <;> omega
  · rw [if_neg e] at hj
    obtain ⟨z0, z1, z2, z3, z4, z5⟩ := h3 j d hj
    have hne : ∀ a f, a < 6 → f < 6 → i * 6 + a ≠ j * 6 + f := fun a f ha hf => by omega
    have hq : ∀ (C : Array Value) (a f : Nat) (v : Value), a < 6 → f < 6 → (C.setIfInBounds (i * 6 + a) v)[j * 6 + f]? = C[j * 6 + f]? := fun C a f v ha hf => by
      rw [Array.getElem?_setIfInBounds, if_neg (hne a f ha hf)]
    have key : ∀ f, f < 6 → ∀ x0 x1 x2 x3 x4 x5 : Value, ((((((cur.setIfInBounds (i * 6 + 0) x0).setIfInBounds (i * 6 + 1) x1).setIfInBounds (i * 6 + 2) x2).setIfInBounds (i * 6 + 3) x3).setIfInBounds (i * 6 + 4) x4).setIfInBounds (i * 6 + 5) x5)[j * 6 + f]? = cur[j * 6 + f]? := fun f hf x0 x1 x2 x3 x4 x5 => by
      rw [hq _ 5 f _ (by omega) hf, hq _ 4 f _ (by omega) hf, hq _ 3 f _ (by omega) hf, hq _ 2 f _ (by omega) hf, hq _ 1 f _ (by omega) hf, hq _ 0 f _ (by omega) hf]
    exact ⟨(key 0 (by omega) _ _ _ _ _ _).trans z0, (key 1 (by omega) _ _ _ _ _ _).trans z1, (key 2 (by omega) _ _ _ _ _ _).trans z2, (key 3 (by omega) _ _ _ _ _ _).trans z3, (key 4 (by omega) _ _ _ _ _ _).trans z4, (key 5 (by omega) _ _ _ _ _ _).trans z5⟩

/-! ### The rows -/
structure RN (w : World) (p : Nat) (v : Value) (H : List Value) (F : Nat → Prop) (S : St) : Prop where
  head : w.heap[p]? = some (.cells #[v] 28 (0, 0))
  row : w.ownsRow 0 66 1 v S.length H
  each : ∀ (j : Nat) (l : List Cp), S[j]? = some l → (l = [] ∧ H[j]? = some (.slice none 0 0)) ∨ ∃ b, l ≠ [] ∧ H[j]? = some (.slice (some ⟨b, 0, none⟩) l.length l.length) ∧ RowC w b l ∧ F b ∧ b ≠ p ∧ v.ownBlock ≠ some b
  apart : ∀ (i j b m m' : Nat), H[i]? = some (.slice (some ⟨b, 0, none⟩) m m) → H[j]? = some (.slice (some ⟨b, 0, none⟩) m' m') → i = j
  fp : F p
  fv : ∀ k, v.ownBlock = some k → F k ∧ k ≠ p
  lt : ∀ x, F x → x < w.heap.size
  ok : Okay S
def Rds (w : World) (p : Nat) (F : Nat → Prop) (S : St) : Prop := ∃ v H, RN w p v H F S
section
variable {w w' : World} {p : Nat} {v : Value} {H : List Value} {F G : Nat → Prop} {S : St}
theorem RN.turn (h : RN w p v H F S) (t : Turn G w w') (a : Apart F G) : RN w' p v H F S where
  head := (t.block _ (h.lt _ h.fp) (a _ h.fp)).trans h.head
  row := own_of_block h.row fun g hg => t.block _ (h.lt _ (h.fv g hg).1) (a _ (h.fv g hg).1)
  each := fun j l hj => (h.each j l hj).imp id fun ⟨b, h1, h2, h3, h4, h5⟩ => ⟨b, h1, h2, h3.of_block (t.block _ (h.lt _ h4) (a _ h4)), h4, h5⟩
  apart := h.apart
  fp := h.fp
  fv := h.fv
  lt := fun x hx => Nat.lt_of_lt_of_le (h.lt x hx) t.size
  ok := h.ok
theorem RN.below (h : RN w p v H F S) (t : Below w.heap.size w w') : RN w' p v H F S := h.turn (Turn.of t fun _ => False) fun _ _ h => h
theorem Rds.turn (h : Rds w p F S) (t : Turn G w w') (a : Apart F G) : Rds w' p F S := by
  obtain ⟨v, H, h⟩ := h
  exact ⟨v, H, h.turn t a⟩
theorem Rds.below (h : Rds w p F S) (t : Below w.heap.size w w') : Rds w' p F S := h.turn (Turn.of t fun _ => False) fun _ _ h => h
theorem Rds.ok (h : Rds w p F S) : Okay S := by obtain ⟨_, _, h⟩ := h; exact h.ok
theorem Rds.lt (h : Rds w p F S) : ∀ x, F x → x < w.heap.size := by obtain ⟨_, _, h⟩ := h; exact h.lt
/-- The outer slice; where a node lies. -/
theorem RN.slice (h : RN w p v H F S) : ∃ ao cap, v = .slice ao S.length cap ∧ w.cell? ⟨p, 0, none⟩ = some (.slice ao S.length cap) ∧ w.frozen? ⟨p, 0, none⟩ = false ∧ ∀ j, j < S.length → ∃ g bo, ao = some ⟨g, 0, none⟩ ∧ w.cell? ⟨g, j, none⟩ = some (.slice bo (S.getD j []).length (S.getD j []).length) ∧ w.frozen? ⟨g, j, none⟩ = false ∧ H[j]? = some (.slice bo (S.getD j []).length (S.getD j []).length) ∧ ∀ (i : Nat) (c : Cp), (S.getD j [])[i]? = some c → ∃ b, bo = some ⟨b, 0, none⟩ ∧ RowC w b (S.getD j []) := by
  have hc : w.cell? ⟨p, 0, none⟩ = some v := by simp [World.cell?, h.head]
  have hf : w.frozen? ⟨p, 0, none⟩ = false := by simp [World.frozen?, h.head]
  rcases h.row.2 with ⟨rfl, h0⟩ | ⟨g, cap, cur, rfl, hb, hg, h1, h2, h3, h4⟩
  · exact ⟨none, 0, by rw [h0], by rw [h0]; exact hc, hf, fun j hj => by omega⟩
  · refine ⟨some ⟨g, 0, none⟩, cap, rfl, hc, hf, fun j hj => ?_⟩
    have hl : S[j]? = some (S.getD j []) := by rw [List.getD_eq_getElem?_getD, List.getElem?_eq_getElem hj]; rfl
    have hcell : ∀ y, H[j]? = some y → w.cell? ⟨g, j, none⟩ = some y := fun y e => by
      rw [← h4, List.getElem?_take, if_pos (by omega)] at e
      simpa [World.cell?, hg] using e
    have hfr : w.frozen? ⟨g, j, none⟩ = false := by simp [World.frozen?, hg]
    rcases h.each j _ hl with ⟨e, hh⟩ | ⟨b, hne, hh, hr, _⟩
    · refine ⟨g, none, rfl, ?_, hfr, ?_, fun i c hi => ?_⟩
      · rw [e]; exact hcell _ hh
      · rw [e]; exact hh
      · rw [e] at hi; simp at hi
    · exact ⟨g, some ⟨b, 0, none⟩, rfl, hcell _ hh, hfr, hh, fun i c hi => ⟨b, rfl, hr⟩⟩
end
/-- The way to a slot that is there. -/
structure Path (w : World) (p g N cap n b m i : Nat) (c : Cp) : Prop where
  c0 : w.cell? ⟨p, 0, none⟩ = some (.slice (some ⟨g, 0, none⟩) N cap)
  c1 : w.cell? ⟨g, n, none⟩ = some (.slice (some ⟨b, 0, none⟩) m m)
  z0 : w.cell? ⟨b, i * 6, none⟩ = some (.int .i64 c.k)
  z1 : w.cell? ⟨b, i * 6 + 1, none⟩ = some (.int .i64 c.o)
  z2 : w.cell? ⟨b, i * 6 + 2, none⟩ = some (.int .i64 c.r)
  z3 : w.cell? ⟨b, i * 6 + 3, none⟩ = some (.int .u64 c.b)
  z4 : w.cell? ⟨b, i * 6 + 4, none⟩ = some (.int .u64 c.g)
  z5 : w.cell? ⟨b, i * 6 + 5, none⟩ = some (.int .i64 c.z)
  fr : ∀ j, w.frozen? ⟨b, j, none⟩ = false
section
variable {w w' : World} {p : Nat} {v : Value} {H : List Value} {F G : Nat → Prop} {S : St}
theorem RowC.cells {b : Nat} {l : List Cp} (h : RowC w b l) {i : Nat} {c : Cp} (hi : l[i]? = some c) : w.cell? ⟨b, i * 6, none⟩ = some (.int .i64 c.k) ∧ w.cell? ⟨b, i * 6 + 1, none⟩ = some (.int .i64 c.o) ∧ w.cell? ⟨b, i * 6 + 2, none⟩ = some (.int .i64 c.r) ∧ w.cell? ⟨b, i * 6 + 3, none⟩ = some (.int .u64 c.b) ∧ w.cell? ⟨b, i * 6 + 4, none⟩ = some (.int .u64 c.g) ∧ w.cell? ⟨b, i * 6 + 5, none⟩ = some (.int .i64 c.z) := by
  obtain ⟨cur, h1, _, h3⟩ := h
  obtain ⟨z0, z1, z2, z3, z4, z5⟩ := h3 i c hi
  refine ⟨?_, ?_, ?_, ?_, ?_, ?_⟩ <;> simp [World.cell?, h1, z0, z1, z2, z3, z4, z5]
theorem RowC.frozen {b : Nat} {l : List Cp} (h : RowC w b l) (j : Nat) : w.frozen? ⟨b, j, none⟩ = false := by
  obtain ⟨cur, h1, _⟩ := h
  simp [World.frozen?, h1]
theorem RN.path (h : RN w p v H F S) {n i : Nat} {c : Cp} (hs : atS S ⟨(n : Int), (i : Int)⟩ = some c) : ∃ g cap b m, Path w p g S.length cap n b m i c ∧ n < S.length ∧ i < m ∧ m ≤ 256 ∧ H[n]? = some (.slice (some ⟨b, 0, none⟩) m m) ∧ S.getD n [] ∈ S ∧ m = (S.getD n []).length := by
  obtain ⟨_, _, h3, h4, h5, h6⟩ := atS_mem hs
  simp only [Int.toNat_natCast] at h3 h4 h5 h6
  obtain ⟨ao, cap, rfl, hc, hf, hj⟩ := h.slice
  obtain ⟨g, bo, rfl, c1, _, hh, hb⟩ := hj n h3
  obtain ⟨b, rfl, hr⟩ := hb i c h5
  obtain ⟨z0, z1, z2, z3, z4, z5⟩ := hr.cells h5
  exact ⟨g, cap, b, _, ⟨hc, c1, z0, z1, z2, z3, z4, z5, hr.frozen⟩, h3, h6, row_256 h.ok h4, hh, h4, rfl⟩
theorem Sl.nat {S : St} {s : Sl} {c : Cp} (h : atS S s = some c) : ∃ n i : Nat, s = ⟨(n : Int), (i : Int)⟩ := by
  obtain ⟨h1, h2, _⟩ := atS_mem h
  obtain ⟨n, i⟩ := s
  exact ⟨n.toNat, i.toNat, by simp only [Sl.mk.injEq] at *; omega⟩
/-- A capability is written into a slot that is there. -/
theorem RN.set (h : RN w p v H F S) {n i : Nat} {d : Cp} (hs : atS S ⟨(n : Int), (i : Int)⟩ = some d) {b m : Nat} (hh : H[n]? = some (.slice (some ⟨b, 0, none⟩) m m)) {c : Cp} (hc : c.Fits) (h0 : c.k = 0 → c = no) : RN (put6 w b (i * 6) c) p v H F (setS S ⟨(n : Int), (i : Int)⟩ c) ∧ Turn F w (put6 w b (i * 6) c) := by
  obtain ⟨_, _, h3, h4, h5, h6⟩ := atS_mem hs
  simp only [Int.toNat_natCast] at h3 h4 h5 h6
  have hl : S[n]? = some (S.getD n []) := by rw [List.getD_eq_getElem?_getD, List.getElem?_eq_getElem h3]; rfl
  have hb : RowC w b (S.getD n []) ∧ F b ∧ b ≠ p ∧ v.ownBlock ≠ some b ∧ m = (S.getD n []).length := by
    rcases h.each n _ hl with ⟨e, _⟩ | ⟨b', hne, hh', hr, hF, hp, hv⟩
    · rw [e] at h5; simp at h5
    · rw [hh] at hh'
      cases hh'
      exact ⟨hr, hF, hp, hv, rfl⟩
  obtain ⟨hr, hF, hp, hv, hm⟩ := hb
  refine ⟨?_, turn_put6 F w b _ c hF⟩
  exact {
    head := (put6_other _ _ _ _ _ (Ne.symm hp)).trans h.head
    row := by
      rw [setS_len]
      exact own_of_block h.row fun g hg => put6_other _ _ _ _ _ fun e => hv (by rw [hg, e])
    each := fun j l hj => by
      unfold setS at hj
      simp only [Int.toNat_natCast] at hj
      rw [List.getElem?_set] at hj
      by_cases e : n = j
      · subst e
        rw [if_pos rfl, if_pos h3] at hj
        cases hj
        refine .inr ⟨b, fun e => ?_, ?_, hr.put h6 c, hF, hp, hv⟩
        · have := congrArg List.length e
          rw [List.length_set, List.length_nil] at this
          omega
        · rw [List.length_set, ← hm]; exact hh
      · rw [if_neg e] at hj
        rcases h.each j l hj with hz | ⟨b', h1, h2, h3', h4', h5'⟩
        · exact .inl hz
        · refine .inr ⟨b', h1, h2, h3'.of_block (put6_other _ _ _ _ _ fun eb => e ?_), h4', h5'⟩
          subst eb
          exact h.apart n j b' m _ hh h2
    apart := h.apart
    fp := h.fp
    fv := h.fv
    lt := fun x hx => by
      have := h.lt x hx
      simpa [put6, nblk_setCell] using this
    ok := h.ok.set hs hc h0 }
end
end Go.Proofs.Ytkpoppgibempbaa

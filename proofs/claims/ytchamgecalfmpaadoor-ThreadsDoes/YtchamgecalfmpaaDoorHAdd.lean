/-
  A thread more, or a queue more, among threads in memory: what append makes of their rows; no condition but that rows are short.
-/
import Derived.Test.YtchamgecalfmpaaDoorHPure
namespace Go.Proofs.YtchamgecalfmpaaDoor
open Go.RowKit Go.Deep Go.Shelf

theorem append_T (w : World) (v : Value) (L : List Td) (x : Td) (h : (lstT v L).H w) (hl : L.length ≤ 1000000) :
    ∃ v' w', (Builtin.append_ #[40, 40] 40 #[v, .slice (some ⟨w.heap.size, 0, none⟩) 1 1]).run Tryd.prog (w.alloc (objT x)) = .ok v' w' ∧ (lstT v' (L ++ [x])).H w' ∧ w.grownBy w' v.ownBlock ∧ (∀ g, v'.ownBlock = some g → v.ownBlock = some g ∨ w.heap.size ≤ g) := by
  have h1 : (w.alloc (objT x)).ownsRow 0 46 12 v L.length (flatK cT L) := World.ownsRow.alloc h _
  obtain ⟨i, hi, hz⟩ := Option.map_eq_some_iff.1 infoT
  simp only [Prod.mk.injEq] at hz
  obtain ⟨v', w', r1, r2, r3, _, r5⟩ := run_append_own_at (P := Tryd.prog) (w := w.alloc (objT x)) 0 40 40 46 i _ 12 96 Tryd.underlying40 hi hz.1 hz.2.1 hz.2.2 rfl (by decide) v L.length (flatK cT L) h1 ⟨w.heap.size, 0, none⟩ 1 1 (cT x) rfl
    (fun j c hj => by
      rw [add_none, Nat.zero_add]
      have := blk_alloc_new w (objT x)
      simp only [World.cell?]
      rw [this]
      simpa [cT, objT] using hj) (cT_one x) (by unfold maxLen; omega) (by omega) (by omega)
  refine ⟨v', w', r1, ?_, (World.grownBy_alloc w _ _).trans r3, fun g hg => ?_⟩
  rotate_left
  · rcases r5 with e | e
    · exact .inl (e.symm.trans hg)
    · have : some (w.alloc (objT x)).heap.size = some g := e.symm.trans hg
      cases this
      exact .inr (by simp)
  show w'.ownsRow 0 46 12 v' (L ++ [x]).length (flatK cT (L ++ [x]))
  rw [List.length_append, flatK_app, flatK_cons]
  simpa [flatK] using r2
theorem append_P (sl pt : TypeId) (hu : Tryd.prog.underlying sl = some (.slice pt)) (hinfo : (Tryd.prog.info? pt).map (fun i => (i.zero, i.size, i.bytes)) = some (some (.pointer none), 1, 8)) (w : World) (v : Value) (L : List Nat) (q : Nat) (h : (lstP pt v L).H w) (hl : L.length ≤ 1000000) :
    ∃ v' w', (Builtin.append_ #[sl, sl] sl #[v, .slice (some ⟨w.heap.size, 0, none⟩) 1 1]).run Tryd.prog (w.alloc (.cells #[.pointer (some ⟨q, 0, none⟩)] pt)) = .ok v' w' ∧ (lstP pt v' (L ++ [q])).H w' ∧ w.grownBy w' v.ownBlock ∧ (∀ g, v'.ownBlock = some g → v.ownBlock = some g ∨ w.heap.size ≤ g) := by
  have h1 : (w.alloc (.cells #[.pointer (some ⟨q, 0, none⟩)] pt)).ownsRow 0 pt 1 v L.length (flatK cP L) := World.ownsRow.alloc h _
  obtain ⟨i, hi, hz⟩ := Option.map_eq_some_iff.1 hinfo
  simp only [Prod.mk.injEq] at hz
  obtain ⟨v', w', r1, r2, r3, _, r5⟩ := run_append_own_at (P := Tryd.prog) (w := w.alloc (.cells #[.pointer (some ⟨q, 0, none⟩)] pt)) 0 sl sl pt i _ 1 8 hu hi hz.1 hz.2.1 hz.2.2 rfl (by decide) v L.length (flatK cP L) h1 ⟨w.heap.size, 0, none⟩ 1 1 (cP q) rfl
    (fun j c hj => by
      rw [add_none, Nat.zero_add]
      have := blk_alloc_new w (.cells #[.pointer (some ⟨q, 0, none⟩)] pt)
      simp only [World.cell?]
      rw [this]
      simpa [cP] using hj) (cP_one q) (by unfold maxLen; omega) (by omega) (by omega)
  refine ⟨v', w', r1, ?_, (World.grownBy_alloc w _ _).trans r3, fun g hg => ?_⟩
  rotate_left
  · rcases r5 with e | e
    · exact .inl (e.symm.trans hg)
    · have : some (w.alloc (.cells #[.pointer (some ⟨q, 0, none⟩)] pt)).heap.size = some g := e.symm.trans hg
      cases this
      exact .inr (by simp)
  show w'.ownsRow 0 pt 1 v' (L ++ [q]).length (flatK cP (L ++ [q]))
  rw [List.length_append, flatK_app, flatK_cons]
  simpa [flatK] using r2
section
variable {K : QK} {w0 w : World} {F : Nat → Prop} {p : Nat} {v u : Value} {qs : List Nat} {h : Hs}
theorem setBlock {w : World} {p j : Nat} {C : Array Value} {ty : TypeId} (h : w.heap[p]? = some (.cells C ty (0, 0))) (c : Value) : (w.setCell ⟨p, j, none⟩ c).heap[p]? = some (.cells (C.set! j c) ty (0, 0)) := by
  simp only [World.setCell, Array.getElem?_modify, h, Option.map_some]
  simp
theorem Fam.add {R R' : Nat → Th} {n : Nat} {w : World} (f : Fam R n w) {t : Th} (ht : t.H w) (ha : ∀ x, t.F x → ¬ fpF R n x) (e : R' n = t) (e' : ∀ j, j < n → R' j = R j) : Fam R' (n + 1) w := by
  subst e
  refine ⟨fun i hi => ?_, fun i j hi hj hij x hx hy => ?_⟩
  · by_cases h : i = n
    · rw [h]
      exact ht
    · rw [e' i (by omega)]
      exact f.each i (by omega)
  · by_cases h1 : i = n <;> by_cases h2 : j = n
    · omega
    · rw [h1] at hx
      rw [e' j (by omega)] at hy
      exact ha x hx ⟨j, by omega, hy⟩
    · rw [h2] at hy
      rw [e' i (by omega)] at hx
      exact ha x hy ⟨i, by omega, hx⟩
    · rw [e' i (by omega)] at hx
      rw [e' j (by omega)] at hy
      exact f.apart i j (by omega) (by omega) hij x hx hy
theorem getD_app {α : Type} {l : List α} {x d : α} {n c : Nat} (hn : l.length = n) (hc : c ≠ n) : (l ++ [x]).getD c d = l.getD c d := by
  rw [List.getD_eq_getElem?_getD, List.getD_eq_getElem?_getD]
  by_cases h : c < l.length
  · rw [List.getElem?_append_left h]
  · rw [List.getElem?_eq_none (by simp; omega), List.getElem?_eq_none (by omega)]
/-- A thread more. -/
theorem At.more (t : At K w0 F p v u qs h w) (x : Td) (hl : h.L.length ≤ 1000) :
    ∃ v' w', (Builtin.append_ #[40, 40] 40 #[v, .slice (some ⟨w.heap.size, 0, none⟩) 1 1]).run Tryd.prog (w.alloc (objT x)) = .ok v' w' ∧ (∃ ao cap, v' = .slice ao (h.L.length + 1) cap) ∧ w'.cell? ⟨p, 0, none⟩ = some v ∧ w'.frozen? ⟨p, 0, none⟩ = false ∧ At K w0 F p v' u qs ⟨h.L ++ [x], h.Q⟩ (w'.setCell ⟨p, 0, none⟩ v') := by
  obtain ⟨a, t1, o⟩ := t.ex
  have row : (lstT v h.L).H w := t1.fam.each 1 (by omega)
  obtain ⟨v', w', r1, r2, r3, r4⟩ := append_T w v h.L x row (by omega)
  obtain ⟨f1, f2, f3⟩ := t1.fam.turn (i := 1) (R' := fun k => if k = 1 then lstT v' (h.L ++ [x]) else memb K p v u qs a h k) (t := lstT v' (h.L ++ [x])) (by omega) rfl (fun j hj => if_neg hj) r2 (Turn.grown r3 fun k hk => .inl hk) fun g hg => r4 g hg
  have hb : w'.heap[p]? = some (.cells #[v, u] K.ty (0, 0)) := f1.each 0 (by omega)
  obtain ⟨g1, g2, g3⟩ := f1.turn (i := 0) (R' := memb K p v' u qs a ⟨h.L ++ [x], h.Q⟩) (t := blk p (.cells #[v', u] K.ty (0, 0))) (w' := w'.setCell ⟨p, 0, none⟩ v') (by omega) rfl (fun j hj => by
    match j, hj with
    | 1, _ => rfl
    | 2, _ => rfl
    | c + 3, _ => rfl) (setBlock hb v') (Turn.setCell _ _ _ _ rfl) fun y hy => .inl hy
  obtain ⟨ao, cap, ev, _⟩ := own_slice r2
  refine ⟨v', w', r1, ⟨ao, cap, by rw [ev, List.length_append]; rfl⟩, by simp [World.cell?, hb], by simp [World.frozen?, hb], ⟨a, ⟨g1, t1.len⟩, fun y hy => ?_⟩, ?_⟩
  · rcases g3 y hy with h1 | h1
    · rcases f3 y h1 with h2 | h2
      · exact o y h2
      · exact .inr (Nat.le_trans t.turn.size h2)
    · exact .inr (Nat.le_trans (Nat.le_trans t.turn.size f2.size) h1)
  · refine (t.turn.trans f2 fun y hy => o y hy).trans g2 fun y hy => ?_
    rcases f3 y hy with h2 | h2
    · exact o y h2
    · exact .inr (Nat.le_trans t.turn.size h2)
/-- A queue more, a new one. -/
theorem At.queueMore (sl : TypeId) (hu : Tryd.prog.underlying sl = some (.slice K.pt)) (hinfo : (Tryd.prog.info? K.pt).map (fun i => (i.zero, i.size, i.bytes)) = some (some (.pointer none), 1, 8)) (t : At K w0 F p v u qs h w) {w1 : World} {q : Nat} {α : K.α} {S : St} (hq : (K.th q α S).H w1) (b : Below w.heap.size w w1) (n : ∀ x, (K.th q α S).F x → w.heap.size ≤ x) (hl : h.Q.length ≤ 1000) :
    ∃ u' w', (Builtin.append_ #[sl, sl] sl #[u, .slice (some ⟨w1.heap.size, 0, none⟩) 1 1]).run Tryd.prog (w1.alloc (.cells #[.pointer (some ⟨q, 0, none⟩)] K.pt)) = .ok u' w' ∧ (∃ ao cap, u' = .slice ao (h.Q.length + 1) cap) ∧ w'.cell? ⟨p, 1, none⟩ = some u ∧ w'.frozen? ⟨p, 1, none⟩ = false ∧ At K w0 F p v u' (qs ++ [q]) ⟨h.L, h.Q ++ [S]⟩ (w'.setCell ⟨p, 1, none⟩ u') := by
  obtain ⟨a, t0, o⟩ := t.ex
  have hlen := t0.len
  have f0 := t0.fam.below b
  -- the new one beside the others
  have fa : Fam (fun k => if k = 3 + h.Q.length then K.th q α S else memb K p v u qs a h k) (3 + h.Q.length + 1) w1 := f0.add hq (fun x hx hy => by
    have h1 := n x hx
    have h2 := t0.fam.lt x hy
    omega) (if_pos rfl) fun j hj => if_neg (by omega)
  have row : (lstP K.pt u qs).H w1 := f0.each 2 (by omega)
  obtain ⟨u', w', r1, r2, r3, r4⟩ := append_P sl K.pt hu hinfo w1 u qs q row (by omega)
  have hR2 : (if (2 : Nat) = 3 + h.Q.length then K.th q α S else memb K p v u qs a h 2) = lstP K.pt u qs := if_neg (by omega)
  obtain ⟨f1, f2, f3⟩ := fa.turn (i := 2) (R' := fun k => if k = 2 then lstP K.pt u' (qs ++ [q]) else if k = 3 + h.Q.length then K.th q α S else memb K p v u qs a h k) (t := lstP K.pt u' (qs ++ [q])) (by omega) rfl (fun j hj => if_neg hj) r2 (by rw [hR2]; exact Turn.grown r3 fun k hk => .inl hk) (by rw [hR2]; exact fun g hg => r4 g hg)
  have hb : w'.heap[p]? = some (.cells #[v, u] K.ty (0, 0)) := by
    have := f1.each 0 (by omega)
    rw [if_neg (by omega), if_neg (by omega)] at this
    exact this
  have hR0 : (if (0 : Nat) = 2 then lstP K.pt u' (qs ++ [q]) else if (0 : Nat) = 3 + h.Q.length then K.th q α S else memb K p v u qs a h 0) = blk p (.cells #[v, u] K.ty (0, 0)) := by
    rw [if_neg (by omega), if_neg (by omega)]
    rfl
  have hm : ∀ c, memb K p v u' (qs ++ [q]) (updN a h.Q.length α) ⟨h.L, h.Q ++ [S]⟩ (c + 3) = if c + 3 = 3 + h.Q.length then K.th q α S else memb K p v u qs a h (c + 3) := fun c => by
    show K.th ((qs ++ [q]).getD c 0) (updN a h.Q.length α c) ((h.Q ++ [S]).getD c []) = _
    by_cases e : c = h.Q.length
    · have e1 : (qs ++ [q]).getD c 0 = q := by
        rw [e, ← hlen, List.getD_eq_getElem?_getD, List.getElem?_append_right (Nat.le_refl _), Nat.sub_self]
        rfl
      have e2 : (h.Q ++ [S]).getD c [] = S := by
        rw [e, List.getD_eq_getElem?_getD, List.getElem?_append_right (Nat.le_refl _), Nat.sub_self]
        rfl
      rw [if_pos (by omega), e1, e2, e, updN_at]
    · rw [if_neg (by omega), updN_ne _ _ e, getD_app hlen e, getD_app rfl e]
      rfl
  obtain ⟨g1, g2, g3⟩ := f1.turn (i := 0) (R' := memb K p v u' (qs ++ [q]) (updN a h.Q.length α) ⟨h.L, h.Q ++ [S]⟩) (t := blk p (.cells #[v, u'] K.ty (0, 0))) (w' := w'.setCell ⟨p, 1, none⟩ u') (by omega) rfl (fun j hj => by
    match j, hj with
    | 1, _ => rw [if_neg (by omega), if_neg (by omega)]; rfl
    | 2, _ => rw [if_pos rfl]; rfl
    | c + 3, _ => rw [if_neg (by omega)]; exact hm c) (setBlock hb u') (by rw [hR0]; exact Turn.setCell _ _ _ _ rfl) (by rw [hR0]; exact fun y hy => .inl hy)
  have hfa : ∀ y, fpF (fun k => if k = 3 + h.Q.length then K.th q α S else memb K p v u qs a h k) (3 + h.Q.length + 1) y → F y ∨ w0.heap.size ≤ y := by
    rintro y ⟨j, hj, hy⟩
    by_cases e : j = 3 + h.Q.length
    · simp only [e, if_true] at hy
      exact .inr (Nat.le_trans t.turn.size (n y hy))
    · simp only [e, if_false] at hy
      exact o y ⟨j, by omega, hy⟩
  have hl1 : (h.Q ++ [S]).length = h.Q.length + 1 := by simp
  have hsz : w0.heap.size ≤ w1.heap.size := Nat.le_trans t.turn.size b.size
  obtain ⟨ao, cap, ev, _⟩ := own_slice r2
  refine ⟨u', w', r1, ⟨ao, cap, by rw [ev, List.length_append, hlen]; rfl⟩, by simp [World.cell?, hb], by simp [World.frozen?, hb], ⟨updN a h.Q.length α, ⟨by rw [hl1]; exact g1, by rw [hl1, List.length_append, hlen]; rfl⟩, fun y hy => ?_⟩, ?_⟩
  · unfold fpT at hy
    rw [hl1] at hy
    rcases g3 y hy with h1 | h1
    · rcases f3 y h1 with h2 | h2
      · exact hfa y h2
      · exact .inr (Nat.le_trans hsz h2)
    · exact .inr (Nat.le_trans (Nat.le_trans hsz f2.size) h1)
  · refine ((t.turn.thenBelow b).trans f2 fun y hy => hfa y hy).trans g2 fun y hy => ?_
    rcases f3 y hy with h2 | h2
    · exact hfa y h2
    · exact .inr (Nat.le_trans hsz h2)
end
end Go.Proofs.YtchamgecalfmpaaDoor

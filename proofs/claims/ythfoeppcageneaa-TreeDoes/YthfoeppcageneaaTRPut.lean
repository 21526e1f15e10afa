/-
  What put of the document's own tree leaves: one more, at a place; no condition but that the tree is small.
-/
import Derived.Test.YthfoeppcageneaaTRef
namespace Go.Proofs.Ythfoeppcageneaa
set_option linter.unusedSectionVars false
variable [DecidableEq Sl]
open Go.RowKit Go.Deep Go.Shelf

def objI (d : Int) : Obj := .cells #[.int .i64 d] 3
theorem infoI : (Try.prog.info? 3).map (fun i => (i.zero, i.size, i.bytes)) = some (some (.int .i64 0), 1, 8) := by kernel_rfl
theorem append_int (B : Nat) (w : World) (ty : TypeId) (v : Value) (D : List Int) (x : Int) (hown : OwnI B w v D) (hl : D.length ≤ 1000000) (hB : B ≤ w.heap.size) :
    ∃ v' w', (Builtin.append_ #[27, 27] ty #[v, .slice (some ⟨w.heap.size, 0, none⟩) 1 1]).run Try.prog (w.alloc (objI x)) = .ok v' w' ∧ OwnI B w' v' (D ++ [x]) ∧ w.grownBy w' v.ownBlock := by
  obtain ⟨i, hi, hz⟩ := Option.map_eq_some_iff.1 infoI
  simp only [Prod.mk.injEq] at hz
  have h1 : (w.alloc (objI x)).ownsRow B 3 1 v D.length (flatK cI D) := World.ownsRow.alloc hown _
  obtain ⟨v', w', r1, r2, r3, _, r5⟩ := run_append_own_at (P := Try.prog) (w.alloc (objI x)) B 27 ty 3 i _ 1 8 Try.underlying27 hi hz.1 hz.2.1 hz.2.2 rfl (by decide) v D.length (flatK cI D) h1 ⟨w.heap.size, 0, none⟩ 1 1 (cI x) rfl
    (fun j u hju => by
      rw [add_none]
      have e := blk_alloc_new w (objI x)
      unfold objI at e ⊢
      simp only [World.cell?, e, Nat.zero_add]
      simpa [cI] using hju) (cI_one x) (by unfold maxLen; omega) (by omega) (by simp; omega)
  refine ⟨v', w', r1, ?_, (World.grownBy_alloc w _ _).trans r3⟩
  unfold OwnI
  rw [List.length_append, flatK_app, flatK_cons]
  simpa [flatK] using r2
theorem types_ne : (31 : Nat) ≠ 3 := by decide
theorem own_apart {B B' : Nat} {w : World} {a b : Value} {A : List Sl} {D : List Int} (h : OwnS B w a A) (k : OwnI B' w b D) {g : Nat} (ha : a.ownBlock = some g) : b.ownBlock ≠ some g := fun hb => by
  obtain ⟨_, ⟨rfl, _⟩ | ⟨g1, cap, cur, rfl, _, hg, _⟩⟩ := h
  · simp [Value.ownBlock] at ha
  · obtain ⟨_, ⟨rfl, _⟩ | ⟨g2, cap', cur', rfl, _, hg', _⟩⟩ := k
    · simp [Value.ownBlock] at hb
    · have e1 : g1 = g := by simpa [Value.ownBlock] using ha
      have e2 : g2 = g := by simpa [Value.ownBlock] using hb
      subst e1
      subst e2
      rw [hg] at hg'
      have e3 := Option.some.inj hg'
      injection e3 with _ e4 _
      exact types_ne e4
theorem OwnI.slice {B : Nat} {w : World} {v : Value} {D : List Int} (h : OwnI B w v D) : ∃ ao cap, v = .slice ao D.length cap := by
  rcases h.2 with ⟨rfl, hn⟩ | ⟨g, cap, cur, rfl, _⟩
  · exact ⟨none, 0, by rw [hn]⟩
  · exact ⟨_, _, rfl⟩
/-- A slot and a depth more. -/
theorem push (B : Nat) (w1 w : World) (ao bo : Option Addr) (ca cb : Nat) (L : List Sl) (D : List Int) (x : Sl) (y : Int) (hL : OwnS B w (.slice ao L.length ca) L) (hD : OwnI B w (.slice bo D.length cb) D) (hb : Below B w1 w) (hB : B ≤ w.heap.size) (hl : L.length ≤ 2000) (hd : D.length ≤ 2000) :
    ∃ ao' ca' w' bo' cb' w'', (Builtin.append_ #[26, 26] 26 #[.slice ao L.length ca, .slice (some ⟨w.heap.size, 0, none⟩) 1 1]).run Try.prog (w.alloc (.cells #[.int .i64 x.n, .int .i64 x.i] 31)) = .ok (.slice ao' (L ++ [x]).length ca') w' ∧
      (Builtin.append_ #[27, 27] 27 #[.slice bo D.length cb, .slice (some ⟨w'.heap.size, 0, none⟩) 1 1]).run Try.prog (w'.alloc (.cells #[.int .i64 y] 3)) = .ok (.slice bo' (D ++ [y]).length cb') w'' ∧
      OwnS B w'' (.slice ao' (L ++ [x]).length ca') (L ++ [x]) ∧ OwnI B w'' (.slice bo' (D ++ [y]).length cb') (D ++ [y]) ∧ Below B w1 w' ∧ Below B w1 w'' ∧ B ≤ w''.heap.size := by
  obtain ⟨v', w', r1, r2, r3, r4⟩ := append_slot B w 26 _ L x hL (by omega) hB
  obtain ⟨ao', ca', rfl⟩ := r2.slice
  have b' : Below B w1 w' := hb.grown r3 hB fun k hk => (World.ownsRow.lt hL k hk).1
  have hD' : OwnI B w' (.slice bo D.length cb) D := own_of_block hD fun g hg => r3.block g (World.ownsRow.lt hD g hg).2 fun e => own_apart hL hD e.symm hg
  have hB' : B ≤ w'.heap.size := Nat.le_trans hB r3.size
  obtain ⟨u', w'', s1, s2, s3⟩ := append_int B w' 27 _ D y hD' (by omega) hB'
  obtain ⟨bo', cb', rfl⟩ := s2.slice
  have b'' : Below B w1 w'' := b'.grown s3 hB' fun k hk => (World.ownsRow.lt hD' k hk).1
  exact ⟨ao', ca', w', bo', cb', w'', r1, s1, own_of_block r2 fun g hg => s3.block g (World.ownsRow.lt r2 g hg).2 fun e => own_apart r2 hD' hg e.symm, s2, b', b'', Nat.le_trans hB' s3.size⟩
/-- What a call leaves: the document's tree T; all other old blocks are as they were. -/
def GoesT (w : World) (p : Nat) (a b : Value) (T : St) (w' : World) : Prop := ∃ a' b', RtH p a' b' T w' ∧ Turn (fpR p a b) w w' ∧ Out (fpR p a b) (fpR p a' b') w
theorem GoesT.same {w w' : World} {p : Nat} {a b : Value} {S : St} (h : RtH p a b S w) (u : Below w.heap.size w w') : GoesT w p a b S w' := ⟨a, b, h.below u, Turn.of u _, Out.refl _ _⟩
theorem GoesT.from {w0 w w' : World} {p : Nat} {a b : Value} {S : St} (u : Below w0.heap.size w0 w) (h : GoesT w p a b S w') : GoesT w0 p a b S w' := by
  obtain ⟨a', b', h1, h2, h3⟩ := h
  exact ⟨a', b', h1, (Turn.of u _).trans h2 fun x hx => .inl hx, fun x hx => (h3 x hx).imp id fun e => Nat.le_trans u.size e⟩
/-- New lists are hung into the struct. -/
theorem RtH.hang {p : Nat} {a b a' b' : Value} {S T : St} {w w5 : World} (h : RtH p a b S w) (hb : Below w.heap.size w w5) (rs : OwnS w.heap.size w5 a' (allS T)) (rd : OwnI w.heap.size w5 b' (deps T)) (good : Good T) : GoesT w p a b T ((w5.setCell ⟨p, 0, none⟩ a').setCell ⟨p, 1, none⟩ b') := by
  have hp := h.lt
  have h5 : w5.heap[p]? = some (.cells #[a, b] 29 (0, 0)) := (hb.block p hp).trans h.head
  have na : ∀ g, a'.ownBlock = some g → w.heap.size ≤ g := fun g hg => (World.ownsRow.lt rs g hg).1
  have nb : ∀ g, b'.ownBlock = some g → w.heap.size ≤ g := fun g hg => (World.ownsRow.lt rd g hg).1
  have ko : ∀ g, g ≠ p → ((w5.setCell ⟨p, 0, none⟩ a').setCell ⟨p, 1, none⟩ b').heap[g]? = w5.heap[g]? := fun g hg => (blk_setCell_other _ _ _ _ hg).trans (blk_setCell_other _ _ _ _ hg)
  refine ⟨a', b', ⟨?_, own_low (own_of_block rs fun g hg => ko g (by have := na g hg; omega)), own_low (own_of_block rd fun g hg => ko g (by have := nb g hg; omega)), good⟩, ?_, fun x hx => ?_⟩
  · simp [World.setCell, Array.getElem?_modify, h5]
  · have t1 : Turn (fpR p a b) w w5 := Turn.of hb _
    have t2 := t1.trans (Turn.setCell (fpR p a b) w5 ⟨p, 0, none⟩ a' (.inl rfl)) fun x hx => .inl hx
    exact t2.trans (Turn.setCell (fpR p a b) _ ⟨p, 1, none⟩ b' (.inl rfl)) fun x hx => .inl hx
  · rcases hx with rfl | hx | hx
    · exact .inl (.inl rfl)
    · exact .inr (na x hx)
    · exact .inr (nb x hx)
theorem all_take1 {T : St} {n : Nat} (h : n < T.length) : allS (T.take (n + 1)) = allS (T.take n) ++ [slt T n] := by
  unfold allS
  rw [List.take_add_one, atE_some h, List.map_append]
  rfl
theorem deps_take1 {T : St} {n : Nat} (h : n < T.length) : deps (T.take (n + 1)) = deps (T.take n) ++ [dep T n] := by
  unfold deps
  rw [List.take_add_one, atE_some h, List.map_append]
  rfl
/-- Both lists hold the first n of T. -/
structure Part (B : Nat) (w1 : World) (T : St) (n : Nat) (l d : Value) (w : World) : Prop where
  s : OwnS B w l (allS (T.take n))
  d : OwnI B w d (deps (T.take n))
  low : Below B w1 w
  size : B ≤ w.heap.size
theorem Part.push {B : Nat} {w1 w : World} {T : St} {n : Nat} {l d : Value} (h : Part B w1 T n l d w) (hn : n < T.length) (hT : T.length ≤ 1001) :
    ∃ (ao bo : Option Addr) (m ca cb : Nat) (ao' bo' : Option Addr) (m' ca' cb' : Nat) (w' w'' : World), l = .slice ao m ca ∧ d = .slice bo m cb ∧
      (Builtin.append_ #[26, 26] 26 #[.slice ao m ca, .slice (some ⟨w.heap.size, 0, none⟩) 1 1]).run Try.prog (w.alloc (.cells #[.int .i64 (slt T n).n, .int .i64 (slt T n).i] 31)) = .ok (.slice ao' m' ca') w' ∧
      (Builtin.append_ #[27, 27] 27 #[.slice bo m cb, .slice (some ⟨w'.heap.size, 0, none⟩) 1 1]).run Try.prog (w'.alloc (.cells #[.int .i64 (dep T n)] 3)) = .ok (.slice bo' m' cb') w'' ∧
      Below B w1 w' ∧ Part B w1 T (n + 1) (.slice ao' m' ca') (.slice bo' m' cb') w'' := by
  obtain ⟨ao, ca, rfl⟩ := h.s.slice
  obtain ⟨bo, cb, rfl⟩ := h.d.slice
  have l1 : (allS (T.take n)).length = n := by rw [alls_len, List.length_take]; omega
  have l2 : (deps (T.take n)).length = n := by rw [deps_len, List.length_take]; omega
  obtain ⟨ao', ca', w', bo', cb', w'', r1, r2, r3, r4, r5, r6, r7⟩ := Proofs.Ythfoeppcageneaa.push B w1 w ao bo ca cb _ _ (slt T n) (dep T n) h.s h.d h.low h.size (by omega) (by omega)
  rw [← all_take1 hn] at r1 r3
  rw [← deps_take1 hn] at r2 r4
  have m1 : (allS (T.take (n + 1))).length = n + 1 := by rw [alls_len, List.length_take]; omega
  have m2 : (deps (T.take (n + 1))).length = n + 1 := by rw [deps_len, List.length_take]; omega
  rw [l1, m1] at r1
  rw [l2, m2] at r2
  rw [m1] at r3
  rw [m2] at r4
  exact ⟨ao, bo, n, ca, cb, ao', bo', n + 1, ca', cb', w', w'', by rw [l1], by rw [l2], r1, r2, r5, ⟨r3, r4, r6, r7⟩⟩
end Go.Proofs.Ythfoeppcageneaa

/-
  What a function of the statements' own holds while it calls package slots: nodes, blocks of its own, lists that were told; each call's contract in these words; no condition of ours.
-/
import Derived.Test.YtkpoppgibempbaaNSwap
import Derived.Test.YtkpoppgibempbaaNDrop
namespace Go.Proofs.Ytkpoppgibempbaa
open Go.RowKit Go.Deep Go.MapKept Go.Maps
set_option linter.unusedSectionVars false
variable [dCp : DecidableEq Cp] [dLim : ∀ k, Decidable (Lim k)] [dBad : ∀ k, Decidable (Bad k)] [dFit : ∀ g z, Decidable (Fit g z)] [dFine : ∀ c, Decidable (Fine c)] [dMint : ∀ c v, Decidable (MintR c v)] [dWho : ∀ x y, Decidable (Whose x y)] [dSl : DecidableEq Sl] [dLt : ∀ a b, Decidable (ltS a b)] [iSl : Inhabited Sl] [iCp : Inhabited Cp]

/-- From block r on all is the call's own: the nodes S at p, in the blocks F; the blocks L; the lists M. -/
structure Has (w0 : World) (r : Nat) (w : World) (p : Nat) (F : Nat → Prop) (S : St) (L : List (Nat × Obj)) (M : List (Value × List (Sl × Cp))) : Prop where
  nds : Nds w p F S
  low : Below r w0 w
  own : ∀ x, F x → r ≤ x
  size : r ≤ w.heap.size
  blk : ∀ b ∈ L, w.heap[b.1]? = some b.2 ∧ ¬ F b.1
  row : ∀ b ∈ M, OwnH r w b.1 b.2 ∧ ∀ k, b.1.ownBlock = some k → ¬ F k
section
variable {w0 : World} {r : Nat} {w w' : World} {p : Nat} {F : Nat → Prop} {S T : St} {L : List (Nat × Obj)} {M : List (Value × List (Sl × Cp))}
theorem Has.turn (h : Has w0 r w p F S L M) {F' : Nat → Prop} (n : Nds w' p F' T) (t : Turn F w w') (o : Out F F' w) : Has w0 r w' p F' T L M where
  nds := n
  low := t.below h.low h.own h.size
  own := fun x hx => (o x hx).elim (h.own x) fun hx => Nat.le_trans h.size hx
  size := Nat.le_trans h.size t.size
  blk := fun b hb => by
    obtain ⟨h1, h2⟩ := h.blk b hb
    have hl : b.1 < w.heap.size := (Array.getElem?_eq_some_iff.1 h1).1
    exact ⟨(t.block _ hl h2).trans h1, fun hx => (o _ hx).elim h2 fun hx => by omega⟩
  row := fun b hb => by
    obtain ⟨h1, h2⟩ := h.row b hb
    exact ⟨own_of_block h1 fun g hg => t.block _ (World.ownsRow.lt h1 g hg).2 (h2 g hg), fun k hk hx => (o _ hx).elim (h2 k hk) fun hx => by have := (World.ownsRow.lt h1 k hk).2; omega⟩
theorem Has.leaves (h : Has w0 r w p F S L M) (l : Leaves w p F T w') : Has w0 r w' p F T L M := h.turn l.1 l.2 (Out.refl _ _)
theorem Has.wide (h : Has w0 r w p F S L M) (l : LeavesF w p F T w') : ∃ F', Has w0 r w' p F' T L M := by
  obtain ⟨F', n, t, o⟩ := l
  exact ⟨F', h.turn n t o⟩
theorem Has.below (h : Has w0 r w p F S L M) (b : Below w.heap.size w w') : Has w0 r w' p F S L M := h.leaves (Leaves.same h.nds b)
theorem Has.drew (h : Has w0 r w p F S L M) : Has w0 r w.drew p F S L M := h.below ((Below.refl _ _).drew)
theorem Has.alloc (h : Has w0 r w p F S L M) (o : Obj) : Has w0 r (w.alloc o) p F S ((w.heap.size, o) :: L) M := by
  have k := h.below (below_new w o)
  refine { k with blk := fun b hb => ?_ }
  rcases List.mem_cons.1 hb with rfl | hb
  · exact ⟨blk_alloc_new _ _, fun hx => by have := h.nds.lt _ hx; simp at this⟩
  · exact k.blk b hb
theorem Has.fewer (h : Has w0 r w p F S L M) {L' : List (Nat × Obj)} {M' : List (Value × List (Sl × Cp))} (hL : ∀ b ∈ L', b ∈ L) (hM : ∀ b ∈ M', b ∈ M) : Has w0 r w p F S L' M' :=
  { h with blk := fun b hb => h.blk b (hL b hb), row := fun b hb => h.row b (hM b hb) }
theorem Has.atS (h : Has w0 r w p F S L M) {q : Nat} {s : Sl} (hb : (q, objS s) ∈ L) : AtS w q s := (h.blk _ hb).1
theorem Has.atC (h : Has w0 r w p F S L M) {q : Nat} {c : Cp} (hb : (q, objC c) ∈ L) : AtC w q c := (h.blk _ hb).1
/-- One of the blocks is written. -/
theorem Has.started {q : Nat} (n : Nds w p F []) (b : Below w0.heap.size w0 w) (o : ∀ x, F x → w0.heap.size ≤ x) (hq : w0.heap.size = q) : Has w0 q w p F [] [] [] := by
  subst hq
  exact ⟨n, b, o, b.size, fun b hb => (by cases hb), fun b hb => (by cases hb)⟩

/-! ### The calls -/
theorem make_has (bits : Int) (n e : Int) (T : St) (h : Has w0 r w p F S L M) (hn : makeN S bits = n) (he : makeE S bits = e) (hT : makeS S bits = T) :
    Calls Try.prog 11 #[.pointer (some ⟨p, 0, none⟩), .int .i64 bits] w fun x w' => x = .returned (.tuple #[.int .i64 n, .int .i64 e]) ∧ ∃ F', Has w0 r w' p F' T L M := by
  subst hn he hT
  refine (make_any p F S bits w h.nds).mono ?_
  rintro x w' ⟨rfl, l⟩
  exact ⟨rfl, h.wide l⟩
theorem put_has (s : Sl) (c : Cp) (e : Int) (T : St) (h : Has w0 r w p F S L M) (hs : s.Fits) (hc : c.Fits) (he : putE S s c = e) (hT : putS S s c = T) :
    Calls Try.prog 12 #[.pointer (some ⟨p, 0, none⟩), encS s, encC c] w fun x w' => x = .returned (.int .i64 e) ∧ Has w0 r w' p F T L M := by
  subst he hT
  refine (put_any p F S s c w h.nds hs hc).mono ?_
  rintro x w' ⟨rfl, l⟩
  exact ⟨rfl, h.leaves l⟩
theorem take_has (s : Sl) (c : Cp) (e : Int) (T : St) (h : Has w0 r w p F S L M) (hs : s.Fits) (hc : takeC S s = c) (he : takeE S s = e) (hT : takeS S s = T) :
    Calls Try.prog 14 #[.pointer (some ⟨p, 0, none⟩), encS s] w fun x w' => x = .returned (.tuple #[encC c, .int .i64 e]) ∧ Has w0 r w' p F T L M := by
  subst hc he hT
  refine (take_any p F S s w h.nds hs).mono ?_
  rintro x w' ⟨rfl, l⟩
  exact ⟨rfl, h.leaves l⟩
theorem move_has (s t : Sl) (e : Int) (T : St) (h : Has w0 r w p F S L M) (hs : s.Fits) (ht : t.Fits) (he : moveE S s t = e) (hT : moveS S s t = T) :
    Calls Try.prog 25 #[.pointer (some ⟨p, 0, none⟩), encS s, encS t] w fun x w' => x = .returned (.int .i64 e) ∧ Has w0 r w' p F T L M := by
  subst he hT
  refine (move_any p F S s t w h.nds hs ht).mono ?_
  rintro x w' ⟨rfl, l⟩
  exact ⟨rfl, h.leaves l⟩
theorem swap_has (s t : Sl) (e : Int) (T : St) (h : Has w0 r w p F S L M) (hs : s.Fits) (ht : t.Fits) (he : swapE S s t = e) (hT : swapS S s t = T) :
    Calls Try.prog 26 #[.pointer (some ⟨p, 0, none⟩), encS s, encS t] w fun x w' => x = .returned (.int .i64 e) ∧ Has w0 r w' p F T L M := by
  subst he hT
  refine (swap_any p F S s t w h.nds hs ht).mono ?_
  rintro x w' ⟨rfl, l⟩
  exact ⟨rfl, h.leaves l⟩
theorem drop_has (n : Int) (e : Int) (T : St) (h : Has w0 r w p F S L M) (he : dropE S n = e) (hT : dropS S n = T) :
    Calls Try.prog 24 #[.pointer (some ⟨p, 0, none⟩), .int .i64 n] w fun x w' => x = .returned (.int .i64 e) ∧ Has w0 r w' p F T L M := by
  subst he hT
  refine (drop_any p F S n w h.nds).mono ?_
  rintro x w' ⟨rfl, l⟩
  exact ⟨rfl, h.leaves l⟩
theorem get_has (s : Sl) (c : Cp) (e : Int) (h : Has w0 r w p F S L M) (hs : s.Fits) (hc : getC S s = c) (he : getE S s = e) :
    Calls Try.prog 16 #[.pointer (some ⟨p, 0, none⟩), encS s] w fun x w' => x = .returned (.tuple #[encC c, .int .i64 e]) ∧ Has w0 r w' p F S L M := by
  subst hc he
  refine (get_any p F S s w h.nds hs).mono ?_
  rintro x w' ⟨rfl, b⟩
  exact ⟨rfl, h.below b⟩
theorem size_has (n : Int) (z : Int) (b : Bool) (h : Has w0 r w p F S L M) (hz : sizeN S n = z) (hb : sizeB S n = b) :
    Calls Try.prog 18 #[.pointer (some ⟨p, 0, none⟩), .int .i64 n] w fun x w' => x = .returned (.tuple #[.int .i64 z, .bool b]) ∧ Has w0 r w' p F S L M := by
  subst hz hb
  refine (size_any p F S n w h.nds).mono ?_
  rintro x w' ⟨rfl, rfl⟩
  exact ⟨rfl, h⟩
theorem held_has (h : Has w0 r w p F S L M) :
    Calls Try.prog 20 #[.pointer (some ⟨p, 0, none⟩)] w fun x w' => ∃ ao cap, x = .returned (.slice ao (held S).length cap) ∧ Has w0 r w' p F S L ((.slice ao (held S).length cap, held S) :: M) := by
  refine (held_any p F S w h.nds).mono ?_
  rintro x w' ⟨v, rfl, o, b⟩
  have k := h.below b
  have key : Has w0 r w' p F S L ((v, held S) :: M) := by
    refine { k with row := fun m hm => ?_ }
    rcases List.mem_cons.1 hm with rfl | hm
    · refine ⟨⟨o.1, ?_⟩, fun q hq hx => ?_⟩
      · rcases o.2 with hn | ⟨g, cap, cur, rfl, hg, rest⟩
        · exact .inl hn
        · exact .inr ⟨g, cap, cur, rfl, Nat.le_trans h.size hg, rest⟩
      · have := (World.ownsRow.lt o q hq).1
        have := h.nds.lt _ hx
        omega
    · exact k.row m hm
  rcases o.2 with ⟨rfl, hn⟩ | ⟨g, cap, cur, rfl, _⟩
  · rw [hn]
    exact ⟨none, 0, rfl, key⟩
  · exact ⟨_, _, rfl, key⟩
end
end Go.Proofs.Ytkpoppgibempbaa

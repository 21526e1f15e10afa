/-
  The program's nodes and the document's side by side, with blocks of one's own; what Make and Put do to both; no condition of ours.
-/
import Derived.Test.YtafjgoelofobmabNRMake
import Derived.Test.YtafjgoelofobmabNRPut
namespace Go.Proofs.Ytafjgoelofobmab
open Go.RowKit Go.Deep Go.MapKept Go.Maps
set_option linter.unusedSectionVars false
variable [dCp : DecidableEq Cp] [dLim : ∀ k, Decidable (Lim k)] [dBad : ∀ k, Decidable (Bad k)] [dFit : ∀ g z, Decidable (Fit g z)] [dFine : ∀ c, Decidable (Fine c)] [dMint : ∀ c v, Decidable (MintR c v)] [dWho : ∀ x y, Decidable (Whose x y)] [dSl : DecidableEq Sl] [dLt : ∀ a b, Decidable (ltS a b)]

/-- From block r on all is the call's own: the program's nodes S at p, the document's nodes T at p2, the blocks L: apart from each other. -/
structure Bk (w0 : World) (r : Nat) (w : World) (p : Nat) (F : Nat → Prop) (p2 : Nat) (F2 : Nat → Prop) (S T : St) (L : List (Nat × Obj)) : Prop where
  nds : Nds w p F S
  rds : Rds w p2 F2 T
  low : Below r w0 w
  own : ∀ x, F x → r ≤ x
  own2 : ∀ x, F2 x → r ≤ x
  size : r ≤ w.heap.size
  ap : ∀ x, F x → ¬ F2 x
  blk : ∀ b ∈ L, w.heap[b.1]? = some b.2 ∧ ¬ F b.1 ∧ ¬ F2 b.1
section
variable {w0 : World} {r : Nat} {w w' : World} {p : Nat} {F : Nat → Prop} {p2 : Nat} {F2 : Nat → Prop} {S S' T T' : St} {L L' : List (Nat × Obj)}
theorem Bk.leavesF (h : Bk w0 r w p F p2 F2 S T L) (l : LeavesF w p F S' w') : ∃ F', Bk w0 r w' p F' p2 F2 S' T L := by
  obtain ⟨F', n, t, o⟩ := l
  refine ⟨F', n, h.rds.turn t (fun x h2 h1 => h.ap x h1 h2), t.below h.low h.own h.size, fun x hx => (o x hx).elim (h.own x) fun hx => Nat.le_trans h.size hx, h.own2, Nat.le_trans h.size t.size, fun x hx h2 => ?_, fun b hb => ?_⟩
  · rcases o x hx with hx | hx
    · exact h.ap x hx h2
    · have := h.rds.lt x h2
      omega
  · obtain ⟨h1, h2, h3⟩ := h.blk b hb
    have hl : b.1 < w.heap.size := (Array.getElem?_eq_some_iff.1 h1).1
    exact ⟨(t.block _ hl h2).trans h1, fun hx => (o _ hx).elim h2 fun hx => by omega, h3⟩
theorem Bk.leaves (h : Bk w0 r w p F p2 F2 S T L) (l : Leaves w p F S' w') : Bk w0 r w' p F p2 F2 S' T L :=
  ⟨l.1, h.rds.turn l.2 (fun x h2 h1 => h.ap x h1 h2), l.2.below h.low h.own h.size, h.own, h.own2, Nat.le_trans h.size l.2.size, h.ap, fun b hb => by
    obtain ⟨h1, h2, h3⟩ := h.blk b hb
    exact ⟨(l.2.block _ (Array.getElem?_eq_some_iff.1 h1).1 h2).trans h1, h2, h3⟩⟩
theorem Bk.below (h : Bk w0 r w p F p2 F2 S T L) (b : Below w.heap.size w w') : Bk w0 r w' p F p2 F2 S T L := by
  have k := h.leaves (Leaves.same h.nds b)
  exact { k with rds := h.rds.below b }
theorem Bk.rleavesF (h : Bk w0 r w p F p2 F2 S T L) (l : RLeavesF w p2 F2 T' w') : ∃ F2', Bk w0 r w' p F p2 F2' S T' L := by
  obtain ⟨F2', n, t, o⟩ := l
  refine ⟨F2', h.nds.turn t h.ap, n, t.below h.low h.own2 h.size, h.own, fun x hx => (o x hx).elim (h.own2 x) fun hx => Nat.le_trans h.size hx, Nat.le_trans h.size t.size, fun x hx h2 => ?_, fun b hb => ?_⟩
  · rcases o x h2 with h2 | h2
    · exact h.ap x hx h2
    · have := h.nds.lt x hx
      omega
  · obtain ⟨h1, h2, h3⟩ := h.blk b hb
    have hl : b.1 < w.heap.size := (Array.getElem?_eq_some_iff.1 h1).1
    exact ⟨(t.block _ hl h3).trans h1, h2, fun hx => (o _ hx).elim h3 fun hx => by omega⟩
theorem Bk.rleaves (h : Bk w0 r w p F p2 F2 S T L) (l : RLeaves w p2 F2 T' w') : Bk w0 r w' p F p2 F2 S T' L :=
  ⟨h.nds.turn l.2 h.ap, l.1, l.2.below h.low h.own2 h.size, h.own, h.own2, Nat.le_trans h.size l.2.size, h.ap, fun b hb => by
    obtain ⟨h1, h2, h3⟩ := h.blk b hb
    exact ⟨(l.2.block _ (Array.getElem?_eq_some_iff.1 h1).1 h3).trans h1, h2, h3⟩⟩
theorem Bk.alloc (h : Bk w0 r w p F p2 F2 S T L) (o : Obj) : Bk w0 r (w.alloc o) p F p2 F2 S T ((w.heap.size, o) :: L) := by
  have k := h.below (below_new w o)
  refine { k with blk := fun b hb => ?_ }
  rcases List.mem_cons.1 hb with rfl | hb
  · exact ⟨blk_alloc_new _ _, fun hx => by have := h.nds.lt _ hx; simp at this, fun hx => by have := h.rds.lt _ hx; simp at this⟩
  · exact k.blk b hb
theorem Bk.fewer (h : Bk w0 r w p F p2 F2 S T L) (hL : ∀ b ∈ L', b ∈ L) : Bk w0 r w p F p2 F2 S T L' := { h with blk := fun b hb => h.blk b (hL b hb) }
theorem Bk.drew (h : Bk w0 r w p F p2 F2 S T L) : Bk w0 r w.drew p F p2 F2 S T L := h.below ((Below.refl _ _).drew)
theorem Bk.drewN (h : Bk w0 r w p F p2 F2 S T L) (n : Nat) : Bk w0 r (w.drewN n) p F p2 F2 S T L := h.below ⟨rfl, rfl, rfl, Nat.le_refl _, fun _ _ => rfl⟩
theorem Bk.ok (h : Bk w0 r w p F p2 F2 S T L) : Okay S := h.nds.ok
theorem Bk.atS (h : Bk w0 r w p F p2 F2 S T L) {q : Nat} {s : Sl} (hb : (q, objS s) ∈ L) : AtS w q s := (h.blk _ hb).1
theorem Bk.atC (h : Bk w0 r w p F p2 F2 S T L) {q : Nat} {c : Cp} (hb : (q, objC c) ∈ L) : AtC w q c := (h.blk _ hb).1
/-- What was laid ahead, and the blocks of a callee, from its own frame's view into the caller's. -/
theorem Bk.rebase {wb : World} (h : Bk wb wb.heap.size w p F p2 F2 S T []) (b : Below r w0 wb) (hr : r ≤ wb.heap.size) (hL : ∀ x ∈ L, wb.heap[x.1]? = some x.2) : Bk w0 r w p F p2 F2 S T L where
  nds := h.nds
  rds := h.rds
  low := Below.then b h.low hr
  own := fun x hx => Nat.le_trans hr (h.own x hx)
  own2 := fun x hx => Nat.le_trans hr (h.own2 x hx)
  size := Nat.le_trans hr h.size
  ap := h.ap
  blk := fun x hx => by
    have hlt : x.1 < wb.heap.size := (Array.getElem?_eq_some_iff.1 (hL x hx)).1
    exact ⟨(h.low.block _ hlt).trans (hL x hx), fun hf => by have := h.own _ hf; omega, fun hf => by have := h.own2 _ hf; omega⟩

/-! ### Calls -/
theorem make_bk (bits : Int) (U : St) (h : Bk w0 r w p F p2 F2 S T L) (hU : makeS S bits = U) :
    Calls Try.prog 9 #[.pointer (some ⟨p, 0, none⟩), .int .i64 bits] w fun x w' => (∃ v, x = .returned v) ∧ ∃ F', Bk w0 r w' p F' p2 F2 U T L := by
  subst hU
  refine (make_any p F S bits w h.nds).mono ?_
  rintro x w' ⟨rfl, l⟩
  exact ⟨⟨_, rfl⟩, h.leavesF l⟩
theorem rmake_bk (bits : Int) (U : St) (h : Bk w0 r w p F p2 F2 S T L) (hU : makeS T bits = U) :
    Calls Try.prog 10 #[.pointer (some ⟨p2, 0, none⟩), .int .i64 bits] w fun x w' => (∃ v, x = .returned v) ∧ ∃ F2', Bk w0 r w' p F p2 F2' S U L := by
  subst hU
  refine (rmake_any p2 F2 T bits w h.rds).mono ?_
  rintro x w' ⟨rfl, l⟩
  exact ⟨⟨_, rfl⟩, h.rleavesF l⟩
theorem put_bk (s : Sl) (c : Cp) (U : St) (h : Bk w0 r w p F p2 F2 S T L) (hs : s.Fits) (hc : c.Fits) (hU : putS S s c = U) :
    Calls Try.prog 11 #[.pointer (some ⟨p, 0, none⟩), encS s, encC c] w fun x w' => (∃ v, x = .returned v) ∧ Bk w0 r w' p F p2 F2 U T L := by
  subst hU
  refine (put_any p F S s c w h.nds hs hc).mono ?_
  rintro x w' ⟨rfl, l⟩
  exact ⟨⟨_, rfl⟩, h.leaves l⟩
theorem rput_bk (s : Sl) (c : Cp) (U : St) (h : Bk w0 r w p F p2 F2 S T L) (hc : c.Fits) (hU : putS T s c = U) :
    Calls Try.prog 12 #[.pointer (some ⟨p2, 0, none⟩), encS s, encC c] w fun x w' => (∃ v, x = .returned v) ∧ Bk w0 r w' p F p2 F2 S U L := by
  subst hU
  refine (rput_any p2 F2 T s c w h.rds hc).mono ?_
  rintro x w' ⟨rfl, l⟩
  exact ⟨⟨_, rfl⟩, h.rleaves l⟩
/-- Where both begin. -/
theorem bk_start {w w1 : World} {q : Nat} {F : Nat → Prop} (nn : Nds w1 q F []) (oo : ∀ x, F x → w.heap.size ≤ x) (bb : Below w.heap.size w w1) : Bk w w.heap.size (w1.alloc (.cells #[.slice none 0 0] 48)) q F w1.heap.size (fun x => x = w1.heap.size) [] [] [] := by
  have b2 := below_new w1 (.cells #[.slice none 0 0] 48)
  refine ⟨nn.below b2, ⟨.slice none 0 0, [], ?_⟩, Below.then bb b2 bb.size, oo, fun x hx => by subst hx; exact bb.size, Nat.le_trans bb.size b2.size, fun x hx e => by have := nn.lt x hx; omega, fun b hb => by cases hb⟩
  exact {
    head := blk_alloc_new _ _
    row := World.ownsRow_nil _ _ _ _
    each := fun j l hj => by simp at hj
    apart := fun i j b m m' h => by simp at h
    fp := rfl
    fv := fun k hk => by simp [Value.ownBlock] at hk
    lt := fun x hx => by subst hx; simp
    ok := okay_nil }
end
end Go.Proofs.Ytafjgoelofobmab

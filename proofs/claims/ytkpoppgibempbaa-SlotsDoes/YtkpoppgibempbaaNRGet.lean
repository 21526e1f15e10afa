/-
  What a function of the document's own nodes holds; what Get answers; no condition of ours.
-/
import Derived.Test.YtkpoppgibempbaaNRIs
import Derived.Test.YtkpoppgibempbaaNRCheck
namespace Go.Proofs.Ytkpoppgibempbaa
open Go.RowKit Go.Deep Go.MapKept Go.Maps
set_option linter.unusedSectionVars false
variable [dCp : DecidableEq Cp] [dLim : ∀ k, Decidable (Lim k)] [dBad : ∀ k, Decidable (Bad k)] [dFit : ∀ g z, Decidable (Fit g z)] [dFine : ∀ c, Decidable (Fine c)] [dMint : ∀ c v, Decidable (MintR c v)] [dWho : ∀ x y, Decidable (Whose x y)] [dSl : DecidableEq Sl] [dLt : ∀ a b, Decidable (ltS a b)] [iSl : Inhabited Sl] [iCp : Inhabited Cp]

/-- Whatever is left: the nodes S, in the same blocks. -/
def RLeaves (w : World) (p : Nat) (F : Nat → Prop) (S : St) (w' : World) : Prop := Rds w' p F S ∧ Turn F w w'
/-- Inside a function of the document's nodes: the nodes, and the blocks of its own. -/
structure RB (w0 W : World) (p : Nat) (F : Nat → Prop) (S : St) (L : List (Nat × Obj)) : Prop where
  rds : Rds W p F S
  turn : Turn F w0 W
  lt : ∀ x, F x → x < w0.heap.size
  blk : ∀ b ∈ L, W.heap[b.1]? = some b.2 ∧ w0.heap.size ≤ b.1
section
variable {w0 W W' : World} {p : Nat} {F : Nat → Prop} {S T : St} {L : List (Nat × Obj)}
theorem RB.start {w : World} (h : Rds w p F S) : RB w w p F S [] := ⟨h, Turn.refl F w, h.lt, fun b hb => by cases hb⟩
theorem RB.leaves (h : RB w0 W p F S L) : RLeaves w0 p F S W := ⟨h.rds, h.turn⟩
theorem RB.below (h : RB w0 W p F S L) (b : Below W.heap.size W W') : RB w0 W' p F S L :=
  ⟨h.rds.below b, h.turn.trans (Turn.of b F) fun _ hx => .inl hx, h.lt, fun x hx => by
    obtain ⟨h1, h2⟩ := h.blk x hx
    exact ⟨(b.block _ (Array.getElem?_eq_some_iff.1 h1).1).trans h1, h2⟩⟩
theorem RB.alloc (h : RB w0 W p F S L) (o : Obj) : RB w0 (W.alloc o) p F S ((W.heap.size, o) :: L) := by
  have k := h.below (below_new W o)
  refine { k with blk := fun b hb => ?_ }
  rcases List.mem_cons.1 hb with rfl | hb
  · exact ⟨blk_alloc_new _ _, h.turn.size⟩
  · exact k.blk b hb
theorem RB.drew (h : RB w0 W p F S L) : RB w0 W.drew p F S L := h.below ((Below.refl _ _).drew)
theorem RB.drewN (h : RB w0 W p F S L) (n : Nat) : RB w0 (W.drewN n) p F S L := h.below ⟨rfl, rfl, rfl, Nat.le_refl _, fun _ _ => rfl⟩
theorem RB.atS (h : RB w0 W p F S L) {q : Nat} {s : Sl} (hb : (q, objS s) ∈ L) : W.cell? ⟨q, 0, none⟩ = some (.int .i64 s.n) ∧ W.cell? ⟨q, 1, none⟩ = some (.int .i64 s.i) := (show AtS W q s from (h.blk _ hb).1).cells
theorem RB.atC (h : RB w0 W p F S L) {q : Nat} {c : Cp} (hb : (q, objC c) ∈ L) : W.cell? ⟨q, 0, none⟩ = some (.int .i64 c.k) ∧ W.cell? ⟨q, 1, none⟩ = some (.int .i64 c.o) ∧ W.cell? ⟨q, 2, none⟩ = some (.int .i64 c.r) ∧ W.cell? ⟨q, 3, none⟩ = some (.int .u64 c.b) ∧ W.cell? ⟨q, 4, none⟩ = some (.int .u64 c.g) ∧ W.cell? ⟨q, 5, none⟩ = some (.int .i64 c.z) := (show AtC W q c from (h.blk _ hb).1).cells
theorem RB.fr (h : RB w0 W p F S L) {q : Nat} {c : Cp} (hb : (q, objC c) ∈ L) (j : Nat) : W.frozen? ⟨q, j, none⟩ = false := (show AtC W q c from (h.blk _ hb).1).frozen j
/-- A box of one's own is written. -/
theorem RB.box (h : RB w0 W p F S L) {q : Nat} {d : Cp} (hb : (q, objC d) ∈ L) (c : Cp) {L' : List (Nat × Obj)} (hL : ∀ b ∈ L', b = (q, objC c) ∨ (b ∈ L ∧ b.1 ≠ q)) : RB w0 (put6 W q 0 c) p F S L' := by
  obtain ⟨h1, h2⟩ := h.blk _ hb
  have hq : ¬ F q := fun hf => by have := h.lt q hf; omega
  have t : Turn (fun x => x = q) W (put6 W q 0 c) := turn_put6 _ W q 0 c rfl
  refine ⟨h.rds.turn t fun x hx e => hq (e ▸ hx), h.turn.trans t fun x hx => .inr (by omega), h.lt, fun b hb' => ?_⟩
  rcases hL b hb' with rfl | ⟨hb1, hb2⟩
  · refine ⟨?_, h2⟩
    have e := put6_same (by unfold objC at h1; exact h1) 0 c
    refine e.trans ?_
    unfold objC
    simp
  · obtain ⟨k1, k2⟩ := h.blk b hb1
    exact ⟨(put6_other _ _ _ _ _ hb2).trans k1, k2⟩
/-- A slot of the nodes' is written. -/
theorem RB.set (h : RB w0 W p F S L) {n i : Nat} {d : Cp} (hs : Proofs.Ytkpoppgibempbaa.atS S ⟨(n : Int), (i : Int)⟩ = some d) {g cap b m : Nat} {v : Value} {H : List Value} (hr : RN W p v H F S) (_hp : Path W p g S.length cap n b m i d) (hh : H[n]? = some (.slice (some ⟨b, 0, none⟩) m m)) {c : Cp} (hc : c.Fits) (h0 : c.k = 0 → c = no) : RB w0 (put6 W b (i * 6) c) p F (setS S ⟨(n : Int), (i : Int)⟩ c) L := by
  obtain ⟨k, t⟩ := hr.set hs hh hc h0
  refine ⟨⟨v, H, k⟩, h.turn.trans t fun _ hx => .inl hx, h.lt, fun x hx => ?_⟩
  obtain ⟨k1, k2⟩ := h.blk x hx
  exact ⟨(t.block _ (Array.getElem?_eq_some_iff.1 k1).1 fun hf => by have := h.lt _ hf; omega).trans k1, k2⟩
end
theorem ris_rb {w0 W : World} {p : Nat} {F : Nat → Prop} {S : St} {L : List (Nat × Obj)} (s : Sl) (b : Bool) (h : RB w0 W p F S L) (hb : (atS S s).isSome = b) :
    Calls Try.prog 39 #[.pointer (some ⟨p, 0, none⟩), encS s] W fun e w' => e = .returned (.bool b) ∧ RB w0 w' p F S L := by
  subst hb
  refine (ris_any p F S s W h.rds).mono ?_
  rintro e w' ⟨rfl, k⟩
  exact ⟨rfl, h.below k⟩
set_option maxHeartbeats 1000000 in
set_option maxRecDepth 100000 in
theorem rget_any (p : Nat) (F : Nat → Prop) (S : St) (s : Sl) (w : World) (h : Rds w p F S) :
    Calls Try.prog 17 #[.pointer (some ⟨p, 0, none⟩), encS s] w fun e w' => e = .returned (.tuple #[encC (getC S s), .int .i64 (getE S s)]) ∧ RLeaves w p F S w' := by
  have h2 := ((RB.start h).alloc (objS s)).alloc (objC no)
  rw [World.size_alloc] at h2
  obtain ⟨s0, s1⟩ := h2.atS (q := w.heap.size) (s := s) (by simp)
  have H2 : Hid _ := h2
  clear h h2
  cases hat : atS S s with
  | none =>
    have HG : Hid (getC S s = no ∧ getE S s = 50) := ⟨by unfold getC; rw [hat]; rfl, by unfold getE; rw [hat]; rfl⟩
    have HB : Hid ((atS S s).isSome = false) := by rw [hat]; rfl
    clear hat
    simp only [encS, objS, objC, no] at s0 s1 H2 ⊢
    go_enter Try.func17, Try.ntmps17
    go_wp2_with fail
    refine (ris_rb s false H2.out HB.out).mono ?_
    rintro e w3 ⟨rfl, h3⟩
    clear s0 s1 H2
    have f := h3.fr (q := w.heap.size + 1) (c := no) (by simp [objC, no])
    obtain ⟨z0, z1, z2, z3, z4, z5⟩ := h3.atC (q := w.heap.size + 1) (c := no) (by simp [objC, no])
    have K : Hid (RLeaves w p F S _) := (h3.box (q := w.heap.size + 1) (d := no) (by simp [objC, no]) no (L' := []) (fun b hb => by cases hb)).leaves
    clear h3
    simp only [no] at z0 z1 z2 z3 z4 z5
    go_wp2
    refine bodyPost_ret (v := .tuple #[encC no, .int .i64 50]) ?_ rfl ⟨by rw [HG.out.1, HG.out.2], K.out⟩
    simp [results, Try.f17, go_sem, encC, no, z0, z1, z2, z3, z4, z5]
  | some c =>
    have HG : Hid (getC S s = c ∧ getE S s = 0) := ⟨by unfold getC; rw [hat]; rfl, by unfold getE; rw [hat]; rfl⟩
    have HB : Hid ((atS S s).isSome = true) := by rw [hat]; rfl
    obtain ⟨n, i, rfl⟩ := Sl.nat hat
    have HA : Hid (atS S ⟨(n : Int), (i : Int)⟩ = some c) := hat
    clear hat
    simp only [encS, objS, objC, no] at s0 s1 H2 ⊢
    go_enter Try.func17, Try.ntmps17
    go_wp2_with fail
    refine (ris_rb ⟨(n : Int), (i : Int)⟩ true H2.out HB.out).mono ?_
    rintro e w3 ⟨rfl, h3⟩
    clear s0 s1 H2
    have zf := h3.fr (q := w.heap.size + 1) (c := no) (by simp [objC, no])
    obtain ⟨z0, z1, z2, z3, z4, z5⟩ := h3.atC (q := w.heap.size + 1) (c := no) (by simp [objC, no])
    obtain ⟨s0, s1⟩ := h3.atS (q := w.heap.size) (s := ⟨(n : Int), (i : Int)⟩) (by simp [objS])
    obtain ⟨v, H, h4⟩ := h3.rds
    obtain ⟨g, cap, b, m, ⟨c0, c1, y0, y1, y2, y3, y4, y5, -⟩, hn, hi, hm, -⟩ := h4.path HA.out
    have K : Hid (RLeaves w p F S _) := (h3.box (q := w.heap.size + 1) (d := no) (by simp [objC, no]) c (L' := []) (fun b hb => by cases hb)).drew.leaves
    have hn' : (n : Int) < (S.length : Int) := by omega
    have hi' : (i : Int) < (m : Int) := by omega
    clear h3 h4 hn hi
    simp only [no] at z0 z1 z2 z3 z4 z5
    generalize S.length = N at *
    generalize w.heap.size = r at *
    go_wp2
    go_region
    go_wp2
    refine bodyPost_ret (v := .tuple #[encC c, .int .i64 0]) ?_ rfl ⟨by rw [HG.out.1, HG.out.2], K.out⟩
    simp [results, Try.f17, go_sem, encC, z0, z1, z2, z3, z4, z5]
end Go.Proofs.Ytkpoppgibempbaa

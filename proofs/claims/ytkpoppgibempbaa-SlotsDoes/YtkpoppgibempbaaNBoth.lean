/-
  The program's nodes and the document's side by side; each call's contract in these words; no condition of ours.
-/
import Derived.Test.YtkpoppgibempbaaNHas
import Derived.Test.YtkpoppgibempbaaNRApp
import Derived.Test.YtkpoppgibempbaaNRMove
import Derived.Test.YtkpoppgibempbaaNRSwap
import Derived.Test.YtkpoppgibempbaaNRDrop
import Derived.Test.YtkpoppgibempbaaNRHeld
namespace Go.Proofs.Ytkpoppgibempbaa
open Go.RowKit Go.Deep Go.MapKept Go.Maps
set_option linter.unusedSectionVars false
variable [dCp : DecidableEq Cp] [dLim : ∀ k, Decidable (Lim k)] [dBad : ∀ k, Decidable (Bad k)] [dFit : ∀ g z, Decidable (Fit g z)] [dFine : ∀ c, Decidable (Fine c)] [dMint : ∀ c v, Decidable (MintR c v)] [dWho : ∀ x y, Decidable (Whose x y)] [dSl : DecidableEq Sl] [dLt : ∀ a b, Decidable (ltS a b)] [iSl : Inhabited Sl] [iCp : Inhabited Cp]

/-- The program's nodes S at p, the document's nodes T at p2, apart from each other and from the blocks L and the lists M. -/
structure Bo (w0 : World) (r : Nat) (w : World) (p : Nat) (F : Nat → Prop) (p2 : Nat) (F2 : Nat → Prop) (S T : St) (L : List (Nat × Obj)) (M : List (Value × List (Sl × Cp))) : Prop where
  has : Has w0 r w p F S L M
  rds : Rds w p2 F2 T
  own2 : ∀ x, F2 x → r ≤ x
  ap : ∀ x, F x → ¬ F2 x
  apL : ∀ b ∈ L, ¬ F2 b.1
  apM : ∀ b ∈ M, ∀ k, b.1.ownBlock = some k → ¬ F2 k
section
variable {w0 : World} {r : Nat} {w w' : World} {p : Nat} {F : Nat → Prop} {p2 : Nat} {F2 : Nat → Prop} {S S' T T' : St} {L : List (Nat × Obj)} {M : List (Value × List (Sl × Cp))}
theorem Bo.leavesF (h : Bo w0 r w p F p2 F2 S T L M) (l : LeavesF w p F S' w') : ∃ F', Bo w0 r w' p F' p2 F2 S' T L M := by
  obtain ⟨F', n, t, o⟩ := l
  refine ⟨F', h.has.turn n t o, h.rds.turn t (fun x h2 h1 => h.ap x h1 h2), h.own2, fun x hx h2 => ?_, h.apL, h.apM⟩
  rcases o x hx with hx | hx
  · exact h.ap x hx h2
  · have := h.rds.lt x h2
    omega
theorem Bo.leaves (h : Bo w0 r w p F p2 F2 S T L M) (l : Leaves w p F S' w') : Bo w0 r w' p F p2 F2 S' T L M :=
  ⟨h.has.leaves l, h.rds.turn l.2 (fun x h2 h1 => h.ap x h1 h2), h.own2, h.ap, h.apL, h.apM⟩
theorem Bo.below (h : Bo w0 r w p F p2 F2 S T L M) (b : Below w.heap.size w w') : Bo w0 r w' p F p2 F2 S T L M :=
  ⟨h.has.below b, h.rds.below b, h.own2, h.ap, h.apL, h.apM⟩
theorem Bo.rleavesF (h : Bo w0 r w p F p2 F2 S T L M) (l : RLeavesF w p2 F2 T' w') : ∃ F2', Bo w0 r w' p F p2 F2' S T' L M := by
  obtain ⟨F2', n, t, o⟩ := l
  have new : ∀ x, F2' x → F2 x ∨ w.heap.size ≤ x := o
  refine ⟨F2', ?_, n, fun x hx => (new x hx).elim (h.own2 x) fun hx => Nat.le_trans h.has.size hx, fun x hx h2 => ?_, fun b hb h2 => ?_, fun b hb k hk h2 => ?_⟩
  · exact {
      nds := h.has.nds.turn t h.ap
      low := t.below h.has.low h.own2 h.has.size
      own := h.has.own
      size := Nat.le_trans h.has.size t.size
      blk := fun b hb => by
        obtain ⟨h1, h2⟩ := h.has.blk b hb
        exact ⟨(t.block _ (Array.getElem?_eq_some_iff.1 h1).1 (h.apL b hb)).trans h1, h2⟩
      row := fun b hb => by
        obtain ⟨h1, h2⟩ := h.has.row b hb
        exact ⟨own_of_block h1 fun g hg => t.block _ (World.ownsRow.lt h1 g hg).2 (h.apM b hb g hg), h2⟩ }
  · rcases new x h2 with h2 | h2
    · exact h.ap x hx h2
    · have := h.has.nds.lt x hx
      omega
  · rcases new _ h2 with h2 | h2
    · exact h.apL b hb h2
    · have := (Array.getElem?_eq_some_iff.1 (h.has.blk b hb).1).1
      omega
  · rcases new _ h2 with h2 | h2
    · exact h.apM b hb k hk h2
    · have := (World.ownsRow.lt (h.has.row b hb).1 k hk).2
      omega
theorem Bo.rleaves (h : Bo w0 r w p F p2 F2 S T L M) (l : RLeaves w p2 F2 T' w') : Bo w0 r w' p F p2 F2 S T' L M := by
  have t := l.2
  refine ⟨?_, l.1, h.own2, h.ap, h.apL, h.apM⟩
  exact {
    nds := h.has.nds.turn t h.ap
    low := t.below h.has.low h.own2 h.has.size
    own := h.has.own
    size := Nat.le_trans h.has.size t.size
    blk := fun b hb => by
      obtain ⟨h1, h2⟩ := h.has.blk b hb
      exact ⟨(t.block _ (Array.getElem?_eq_some_iff.1 h1).1 (h.apL b hb)).trans h1, h2⟩
    row := fun b hb => by
      obtain ⟨h1, h2⟩ := h.has.row b hb
      exact ⟨own_of_block h1 fun g hg => t.block _ (World.ownsRow.lt h1 g hg).2 (h.apM b hb g hg), h2⟩ }
theorem Bo.alloc (h : Bo w0 r w p F p2 F2 S T L M) (o : Obj) : Bo w0 r (w.alloc o) p F p2 F2 S T ((w.heap.size, o) :: L) M := by
  have k := h.below (below_new w o)
  refine { k with has := h.has.alloc o, apL := fun b hb => ?_ }
  rcases List.mem_cons.1 hb with rfl | hb
  · intro hx
    have := h.rds.lt _ hx
    simp at this
  · exact h.apL b hb
theorem Bo.fewer (h : Bo w0 r w p F p2 F2 S T L M) {L' : List (Nat × Obj)} {M' : List (Value × List (Sl × Cp))} (hL : ∀ b ∈ L', b ∈ L) (hM : ∀ b ∈ M', b ∈ M) : Bo w0 r w p F p2 F2 S T L' M' :=
  { h with has := h.has.fewer hL hM, apL := fun b hb => h.apL b (hL b hb), apM := fun b hb => h.apM b (hM b hb) }

/-! ### The program's calls -/
theorem make_bo (bits n e : Int) (U : St) (h : Bo w0 r w p F p2 F2 S T L M) (hn : makeN S bits = n) (he : makeE S bits = e) (hU : makeS S bits = U) :
    Calls Try.prog 11 #[.pointer (some ⟨p, 0, none⟩), .int .i64 bits] w fun x w' => x = .returned (.tuple #[.int .i64 n, .int .i64 e]) ∧ ∃ F', Bo w0 r w' p F' p2 F2 U T L M := by
  subst hn he hU
  refine (make_any p F S bits w h.has.nds).mono ?_
  rintro x w' ⟨rfl, l⟩
  exact ⟨rfl, h.leavesF l⟩
theorem drop_bo (n e : Int) (U : St) (h : Bo w0 r w p F p2 F2 S T L M) (he : dropE S n = e) (hU : dropS S n = U) :
    Calls Try.prog 24 #[.pointer (some ⟨p, 0, none⟩), .int .i64 n] w fun x w' => x = .returned (.int .i64 e) ∧ Bo w0 r w' p F p2 F2 U T L M := by
  subst he hU
  refine (drop_any p F S n w h.has.nds).mono ?_
  rintro x w' ⟨rfl, l⟩
  exact ⟨rfl, h.leaves l⟩
theorem put_bo (s : Sl) (c : Cp) (e : Int) (U : St) (h : Bo w0 r w p F p2 F2 S T L M) (hs : s.Fits) (hc : c.Fits) (he : putE S s c = e) (hU : putS S s c = U) :
    Calls Try.prog 12 #[.pointer (some ⟨p, 0, none⟩), encS s, encC c] w fun x w' => x = .returned (.int .i64 e) ∧ Bo w0 r w' p F p2 F2 U T L M := by
  subst he hU
  refine (put_any p F S s c w h.has.nds hs hc).mono ?_
  rintro x w' ⟨rfl, l⟩
  exact ⟨rfl, h.leaves l⟩
theorem take_bo (s : Sl) (c : Cp) (e : Int) (U : St) (h : Bo w0 r w p F p2 F2 S T L M) (hs : s.Fits) (hc : takeC S s = c) (he : takeE S s = e) (hU : takeS S s = U) :
    Calls Try.prog 14 #[.pointer (some ⟨p, 0, none⟩), encS s] w fun x w' => x = .returned (.tuple #[encC c, .int .i64 e]) ∧ Bo w0 r w' p F p2 F2 U T L M := by
  subst hc he hU
  refine (take_any p F S s w h.has.nds hs).mono ?_
  rintro x w' ⟨rfl, l⟩
  exact ⟨rfl, h.leaves l⟩
theorem move_bo (s t : Sl) (e : Int) (U : St) (h : Bo w0 r w p F p2 F2 S T L M) (hs : s.Fits) (ht : t.Fits) (he : moveE S s t = e) (hU : moveS S s t = U) :
    Calls Try.prog 25 #[.pointer (some ⟨p, 0, none⟩), encS s, encS t] w fun x w' => x = .returned (.int .i64 e) ∧ Bo w0 r w' p F p2 F2 U T L M := by
  subst he hU
  refine (move_any p F S s t w h.has.nds hs ht).mono ?_
  rintro x w' ⟨rfl, l⟩
  exact ⟨rfl, h.leaves l⟩
theorem swap_bo (s t : Sl) (e : Int) (U : St) (h : Bo w0 r w p F p2 F2 S T L M) (hs : s.Fits) (ht : t.Fits) (he : swapE S s t = e) (hU : swapS S s t = U) :
    Calls Try.prog 26 #[.pointer (some ⟨p, 0, none⟩), encS s, encS t] w fun x w' => x = .returned (.int .i64 e) ∧ Bo w0 r w' p F p2 F2 U T L M := by
  subst he hU
  refine (swap_any p F S s t w h.has.nds hs ht).mono ?_
  rintro x w' ⟨rfl, l⟩
  exact ⟨rfl, h.leaves l⟩
theorem get_bo (s : Sl) (c : Cp) (e : Int) (h : Bo w0 r w p F p2 F2 S T L M) (hs : s.Fits) (hc : getC S s = c) (he : getE S s = e) :
    Calls Try.prog 16 #[.pointer (some ⟨p, 0, none⟩), encS s] w fun x w' => x = .returned (.tuple #[encC c, .int .i64 e]) ∧ Bo w0 r w' p F p2 F2 S T L M := by
  subst hc he
  refine (get_any p F S s w h.has.nds hs).mono ?_
  rintro x w' ⟨rfl, b⟩
  exact ⟨rfl, h.below b⟩
theorem size_bo (n z : Int) (b : Bool) (h : Bo w0 r w p F p2 F2 S T L M) (hz : sizeN S n = z) (hb : sizeB S n = b) :
    Calls Try.prog 18 #[.pointer (some ⟨p, 0, none⟩), .int .i64 n] w fun x w' => x = .returned (.tuple #[.int .i64 z, .bool b]) ∧ Bo w0 r w' p F p2 F2 S T L M := by
  subst hz hb
  refine (size_any p F S n w h.has.nds).mono ?_
  rintro x w' ⟨rfl, rfl⟩
  exact ⟨rfl, h⟩

/-! ### The document's calls -/
theorem rdrop_bo (n e : Int) (U : St) (h : Bo w0 r w p F p2 F2 S T L M) (he : dropE T n = e) (hU : dropS T n = U) :
    Calls Try.prog 34 #[.pointer (some ⟨p2, 0, none⟩), .int .i64 n] w fun x w' => x = .returned (.int .i64 e) ∧ Bo w0 r w' p F p2 F2 S U L M := by
  subst he hU
  refine (rdrop_any p2 F2 T n w h.rds).mono ?_
  rintro x w' ⟨rfl, l⟩
  exact ⟨rfl, h.rleaves l⟩
theorem rput_bo (s : Sl) (c : Cp) (e : Int) (U : St) (h : Bo w0 r w p F p2 F2 S T L M) (hc : c.Fits) (he : putE T s c = e) (hU : putS T s c = U) :
    Calls Try.prog 35 #[.pointer (some ⟨p2, 0, none⟩), encS s, encC c] w fun x w' => x = .returned (.int .i64 e) ∧ Bo w0 r w' p F p2 F2 S U L M := by
  subst he hU
  refine (rput_any p2 F2 T s c w h.rds hc).mono ?_
  rintro x w' ⟨rfl, l⟩
  exact ⟨rfl, h.rleaves l⟩
theorem rtake_bo (s : Sl) (c : Cp) (e : Int) (U : St) (h : Bo w0 r w p F p2 F2 S T L M) (hc : takeC T s = c) (he : takeE T s = e) (hU : takeS T s = U) :
    Calls Try.prog 36 #[.pointer (some ⟨p2, 0, none⟩), encS s] w fun x w' => x = .returned (.tuple #[encC c, .int .i64 e]) ∧ Bo w0 r w' p F p2 F2 S U L M := by
  subst hc he hU
  refine (rtake_any p2 F2 T s w h.rds).mono ?_
  rintro x w' ⟨rfl, l⟩
  exact ⟨rfl, h.rleaves l⟩
theorem rmove_bo (s t : Sl) (e : Int) (U : St) (h : Bo w0 r w p F p2 F2 S T L M) (he : moveE T s t = e) (hU : moveS T s t = U) :
    Calls Try.prog 37 #[.pointer (some ⟨p2, 0, none⟩), encS s, encS t] w fun x w' => x = .returned (.int .i64 e) ∧ Bo w0 r w' p F p2 F2 S U L M := by
  subst he hU
  refine (rmove_any p2 F2 T s t w h.rds).mono ?_
  rintro x w' ⟨rfl, l⟩
  exact ⟨rfl, h.rleaves l⟩
theorem rswap_bo (s t : Sl) (e : Int) (U : St) (h : Bo w0 r w p F p2 F2 S T L M) (he : swapE T s t = e) (hU : swapS T s t = U) :
    Calls Try.prog 38 #[.pointer (some ⟨p2, 0, none⟩), encS s, encS t] w fun x w' => x = .returned (.int .i64 e) ∧ Bo w0 r w' p F p2 F2 S U L M := by
  subst he hU
  refine (rswap_any p2 F2 T s t w h.rds).mono ?_
  rintro x w' ⟨rfl, l⟩
  exact ⟨rfl, h.rleaves l⟩
theorem rget_bo (s : Sl) (c : Cp) (e : Int) (h : Bo w0 r w p F p2 F2 S T L M) (hc : getC T s = c) (he : getE T s = e) :
    Calls Try.prog 17 #[.pointer (some ⟨p2, 0, none⟩), encS s] w fun x w' => x = .returned (.tuple #[encC c, .int .i64 e]) ∧ Bo w0 r w' p F p2 F2 S T L M := by
  subst hc he
  refine (rget_any p2 F2 T s w h.rds).mono ?_
  rintro x w' ⟨rfl, l⟩
  exact ⟨rfl, h.rleaves l⟩
theorem rsize_bo (n z : Int) (b : Bool) (h : Bo w0 r w p F p2 F2 S T L M) (hz : sizeN T n = z) (hb : sizeB T n = b) :
    Calls Try.prog 19 #[.pointer (some ⟨p2, 0, none⟩), .int .i64 n] w fun x w' => x = .returned (.tuple #[.int .i64 z, .bool b]) ∧ Bo w0 r w' p F p2 F2 S T L M := by
  subst hz hb
  refine (rsize_any p2 F2 T n w h.rds).mono ?_
  rintro x w' ⟨rfl, l⟩
  exact ⟨rfl, h.rleaves l.leaves⟩

/-! ### What is held -/
theorem Bo.told {v : Value} {A : List (Sl × Cp)} (h : Bo w0 r w p F p2 F2 S T L M) (o : OwnH w.heap.size w' v A) (b : Below w.heap.size w w') : Bo w0 r w' p F p2 F2 S T L ((v, A) :: M) := by
  have k := h.below b
  have hw : ∀ k, v.ownBlock = some k → w.heap.size ≤ k := fun k hk => (World.ownsRow.lt o k hk).1
  refine { k with has := { k.has with row := fun m hm => ?_ }, apM := fun m hm q hq h2 => ?_ }
  · rcases List.mem_cons.1 hm with rfl | hm
    · refine ⟨⟨o.1, ?_⟩, fun q hq hx => ?_⟩
      · rcases o.2 with hn | ⟨g, cap, cur, rfl, hg, rest⟩
        · exact .inl hn
        · exact .inr ⟨g, cap, cur, rfl, Nat.le_trans h.has.size hg, rest⟩
      · have := hw q hq
        have := h.has.nds.lt _ hx
        omega
    · exact k.has.row m hm
  · rcases List.mem_cons.1 hm with rfl | hm
    · have := hw q hq
      have := h.rds.lt _ h2
      omega
    · exact h.apM m hm q hq h2
theorem own_slice {B : Nat} {w : World} {v : Value} {A : List (Sl × Cp)} (o : OwnH B w v A) : ∃ ao cap, v = .slice ao A.length cap := by
  rcases o.2 with ⟨rfl, hn⟩ | ⟨g, cap, cur, rfl, _⟩
  · exact ⟨none, 0, by rw [hn]⟩
  · exact ⟨_, _, rfl⟩
theorem held_bo (A : List (Sl × Cp)) (hA : held S = A) (h : Bo w0 r w p F p2 F2 S T L M) :
    Calls Try.prog 20 #[.pointer (some ⟨p, 0, none⟩)] w fun x w' => ∃ ao cap, x = .returned (.slice ao A.length cap) ∧ Bo w0 r w' p F p2 F2 S T L ((.slice ao A.length cap, A) :: M) := by
  subst hA
  refine (held_any p F S w h.has.nds).mono ?_
  rintro x w' ⟨v, rfl, o, b⟩
  obtain ⟨ao, cap, rfl⟩ := own_slice o
  exact ⟨ao, cap, rfl, h.told o b⟩
theorem rheld_bo (A : List (Sl × Cp)) (hA : held T = A) (h : Bo w0 r w p F p2 F2 S T L M) :
    Calls Try.prog 22 #[.pointer (some ⟨p2, 0, none⟩)] w fun x w' => ∃ ao cap, x = .returned (.slice ao A.length cap) ∧ Bo w0 r w' p F p2 F2 S T L ((.slice ao A.length cap, A) :: M) := by
  subst hA
  refine (rheld_any p2 F2 T w h.rds).mono ?_
  rintro x w' ⟨v, rfl, o, b⟩
  obtain ⟨ao, cap, rfl⟩ := own_slice o
  exact ⟨ao, cap, rfl, h.told o b⟩
end
end Go.Proofs.Ytkpoppgibempbaa

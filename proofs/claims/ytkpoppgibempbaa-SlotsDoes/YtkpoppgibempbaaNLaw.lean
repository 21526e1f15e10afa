/-
  What the laws of this layer share: two nodes of four slots, filled by a script; masks; what is held where every slot is as it was; no condition of ours.
-/
import Derived.Test.YtkpoppgibempbaaNFrame
namespace Go.Proofs.Ytkpoppgibempbaa
open Go.RowKit Go.Deep Go.MapKept Go.Maps
set_option linter.unusedSectionVars false
variable [dCp : DecidableEq Cp] [dLim : ∀ k, Decidable (Lim k)] [dBad : ∀ k, Decidable (Bad k)] [dFit : ∀ g z, Decidable (Fit g z)] [dFine : ∀ c, Decidable (Fine c)] [dMint : ∀ c v, Decidable (MintR c v)] [dWho : ∀ x y, Decidable (Whose x y)] [dSl : DecidableEq Sl] [dLt : ∀ a b, Decidable (ltS a b)] [iSl : Inhabited Sl] [iCp : Inhabited Cp]

/-! ### Masks -/
theorem vec_toInt (x : Int) : ∃ v : BitVec 64, ∀ y, bits .and .i64 x y = IntKind.i64.wrap ((v &&& BitVec.ofInt 64 y).toNat : Int) := ⟨BitVec.ofInt 64 x, fun _ => rfl⟩
theorem mask_nat (x : Int) (m : Nat) (hm : m ≤ 20) : ∃ a : Nat, a < 2 ^ m ∧ bits BinOp.and IntKind.i64 x ((2 ^ m - 1 : Nat) : Int) = (a : Int) := by
  obtain ⟨v, hv⟩ := vec_toInt x
  have hp : 2 ^ m ≤ 2 ^ 20 := Nat.pow_le_pow_right (by omega) hm
  have h1 : 1 ≤ 2 ^ m := Nat.two_pow_pos m
  have e : (BitVec.ofInt 64 ((2 ^ m - 1 : Nat) : Int)).toNat = 2 ^ m - 1 := by
    rw [BitVec.toNat_ofInt]
    omega
  have hb : v.toNat &&& (2 ^ m - 1) < 2 ^ m := by
    rw [Nat.and_two_pow_sub_one_eq_mod]
    exact Nat.mod_lt _ h1
  refine ⟨v.toNat &&& (2 ^ m - 1), hb, ?_⟩
  rw [hv, BitVec.toNat_and, e, IntKind.wrap_i64]
  omega
theorem mask1 (x : Int) : ∃ a : Nat, a ≤ 1 ∧ bits BinOp.and IntKind.i64 x 1 = (a : Int) := by
  obtain ⟨a, h, e⟩ := mask_nat x 1 (by omega)
  exact ⟨a, by omega, e⟩
theorem mask3 (x : Int) : ∃ a : Nat, a ≤ 3 ∧ bits BinOp.and IntKind.i64 x 3 = (a : Int) := by
  obtain ⟨a, h, e⟩ := mask_nat x 2 (by omega)
  exact ⟨a, by omega, e⟩
theorem mask7 (x : Int) : ∃ a : Nat, a ≤ 7 ∧ bits BinOp.and IntKind.i64 x 7 = (a : Int) := by
  obtain ⟨a, h, e⟩ := mask_nat x 3 (by omega)
  exact ⟨a, by omega, e⟩
theorem mask16 (x : Int) : ∃ a : Nat, a ≤ 65535 ∧ bits BinOp.and IntKind.i64 x 65535 = (a : Int) := by
  obtain ⟨a, h, e⟩ := mask_nat x 16 (by omega)
  exact ⟨a, by omega, e⟩

/-! ### Two nodes of four slots -/
structure Two4 (S : St) : Prop where
  ok : Okay S
  len : S.length = 2
  row : ∀ j, j < 2 → (S.getD j []).length = 4
def two0 : St := [List.replicate 4 no, List.replicate 4 no]
theorem okay_two0 : Okay two0 := by
  refine ⟨by decide, fun l hl => ?_, fun l hl c hc => ?_⟩
  · have : l = List.replicate 4 no := by simpa [two0] using hl
    subst this
    exact .inr ⟨2, by omega, by omega, rfl⟩
  · have : l = List.replicate 4 no := by simpa [two0] using hl
    subst this
    obtain ⟨_, rfl⟩ := List.mem_replicate.1 hc
    exact ⟨no_fits, fun _ => rfl⟩
theorem two4_0 : Two4 two0 := ⟨okay_two0, rfl, fun j hj => by
  have : j = 0 ∨ j = 1 := by omega
  rcases this with rfl | rfl <;> rfl⟩
theorem Two4.set {S : St} (h : Two4 S) {s : Sl} {d : Cp} (hs : atS S s = some d) {c : Cp} (hc : c.Fits) (h0 : c.k = 0 → c = no) : Two4 (setS S s c) := by
  refine ⟨h.ok.set hs hc h0, by rw [setS_len]; exact h.len, fun j hj => ?_⟩
  unfold setS
  rw [getD_set]
  split
  · rename_i hh
    rw [List.length_set, ← hh.1]
    exact h.row j hj
  · exact h.row j hj
theorem Two4.put {S : St} (h : Two4 S) (s : Sl) {c : Cp} (hc : c.Fits) : Two4 (putS S s c) := by
  unfold putS
  split
  · rename_i he
    unfold putE at he
    split at he
    · cases he
    · rename_i d hd
      split at he
      · split at he
        · cases he
        · rename_i hk
          exact h.set hd hc fun e => absurd e hk
      · cases he
  · exact h
theorem Two4.at {S : St} (h : Two4 S) (n i : Nat) (hn : n ≤ 1) (hi : i ≤ 3) : ∃ c, atS S ⟨(n : Int), (i : Int)⟩ = some c := by
  have hl := h.row n (by omega)
  unfold atS
  have : (0 : Int) ≤ (n : Int) ∧ (0 : Int) ≤ (i : Int) := by omega
  simp only [this, and_self, if_true, Int.toNat_natCast]
  exact ⟨_, List.getElem?_eq_getElem (by omega)⟩
theorem fits_nat {n i : Nat} (hn : n ≤ 1000000) (hi : i ≤ 1000000) : (⟨(n : Int), (i : Int)⟩ : Sl).Fits := fits_lit (by omega) (by omega)

/-! ### What is held hangs on the slots alone -/
theorem held_congr {S T : St} (h : ∀ s, holdS S s = holdS T s) : held S = held T :=
  sorted_eq _ _ (held_sorted S) (held_sorted T) fun p => by rw [mem_held S p.1 p.2, mem_held T p.1 p.2, h]
theorem held_at {S T : St} (h : ∀ s, atS S s = atS T s) : held S = held T := held_congr fun s => by unfold holdS; rw [h s]
theorem getC_at {S : St} {s : Sl} {c : Cp} (h : atS S s = some c) : getC S s = c := by unfold getC; rw [h]; rfl
theorem at_swap {S : St} {s t : Sl} {c d : Cp} (hs : atS S s = some c) (ht : atS S t = some d) (u : Sl) : atS (swapS S s t) u = if u = t then some c else if u = s then some d else atS S u := by
  have e : swapE S s t = 0 := by unfold swapE; rw [hs, ht]; rfl
  have h2 : ∃ x, atS (setS S s d) t = some x := by
    rw [atS_set hs]
    split
    · exact ⟨_, rfl⟩
    · exact ⟨_, ht⟩
  obtain ⟨x, hx⟩ := h2
  unfold swapS
  rw [if_pos e, getC_at hs, getC_at ht, atS_set hx, atS_set hs]
theorem swap_e {S : St} {s t : Sl} {c d : Cp} (hs : atS S s = some c) (ht : atS S t = some d) : swapE S s t = 0 := by unfold swapE; rw [hs, ht]; rfl
theorem at_swap_back {S : St} {s t : Sl} {c d : Cp} (hs : atS S s = some c) (ht : atS S t = some d) (u : Sl) : atS (swapS (swapS S s t) t s) u = atS S u := by
  have h1 : atS (swapS S s t) t = some c := by rw [at_swap hs ht]; simp
  by_cases e : s = t
  · subst e
    obtain rfl : c = d := by rw [hs] at ht; exact Option.some.inj ht
    rw [at_swap h1 h1, at_swap hs hs]
    by_cases hu : u = s
    · simp [hu, hs]
    · simp [hu]
  · have h2 : atS (swapS S s t) s = some d := by rw [at_swap hs ht]; simp [e]
    rw [at_swap h1 h2, at_swap hs ht]
    by_cases hu : u = s
    · simp [hu, hs]
    · by_cases hv : u = t
      · simp [hv, ht]
        intro h; exact absurd h (Ne.symm e)
      · simp [hu, hv]
theorem swap_three {S : St} {x y : Sl} {c d : Cp} (hx : atS S x = some c) (hy : atS S y = some d) :
    ∃ S1 S2 S3, swapE S x y = 0 ∧ swapS S x y = S1 ∧ swapE S1 y x = 0 ∧ swapS S1 y x = S2 ∧ swapE S2 x x = 0 ∧ swapS S2 x x = S3 ∧ held S3 = held S := by
  have h1x : ∃ u, atS (swapS S x y) x = some u := by
    rw [at_swap hx hy]
    by_cases e : x = y
    · exact ⟨_, if_pos e⟩
    · exact ⟨_, (if_neg e).trans (if_pos rfl)⟩
  obtain ⟨u, hu⟩ := h1x
  have h1y : atS (swapS S x y) y = some c := (at_swap hx hy y).trans (if_pos rfl)
  have hb := at_swap_back hx hy
  have h2 : atS (swapS (swapS S x y) y x) x = some c := (hb x).trans hx
  refine ⟨_, _, _, swap_e hx hy, rfl, swap_e h1y hu, rfl, swap_e h2 h2, rfl, held_at fun v => ?_⟩
  rw [at_swap h2 h2, hb]
  by_cases e : v = x
  · rw [if_pos e, e, hx]
  · rw [if_neg e, if_neg e]

/-! ### The frame of a law -/
/-- What was boxed ahead stays. -/
theorem Has.rebase {w wb w' : World} {p : Nat} {F : Nat → Prop} {S : St} {r : Nat} (h : Has wb wb.heap.size w' p F S [] []) (b : Below r w wb) (hr : r ≤ wb.heap.size) (L : List (Nat × Obj)) (hL : ∀ x ∈ L, wb.heap[x.1]? = some x.2) : Has w r w' p F S L [] where
  nds := h.nds
  low := Below.then b h.low hr
  own := fun x hx => Nat.le_trans hr (h.own x hx)
  size := Nat.le_trans hr h.size
  blk := fun x hx => by
    have hlt : x.1 < wb.heap.size := (Array.getElem?_eq_some_iff.1 (hL x hx)).1
    exact ⟨(h.low.block _ hlt).trans (hL x hx), fun hf => by have := h.own _ hf; omega⟩
  row := fun x hx => by cases hx
/-- The eight numbers that a call of the script hands to Put. -/
theorem script_put {w W : World} {ao : Option Addr} {X : List Oc} {i : Nat} {x : Oc} {b o : Nat} (h : Script w ao X) (hx : X[i]? = some x) (ha : ao = some ⟨b, o, none⟩) (u : Below w.heap.size w W) :
    W.cell? ⟨b, o + i * 12 + 2, none⟩ = some (.int .i64 x.a.n) ∧ W.cell? ⟨b, o + i * 12 + 2 + 1, none⟩ = some (.int .i64 x.a.i) ∧ W.cell? ⟨b, o + i * 12 + 6, none⟩ = some (.int .i64 x.c.k) ∧ W.cell? ⟨b, o + i * 12 + 6 + 1, none⟩ = some (.int .i64 x.c.o) ∧ W.cell? ⟨b, o + i * 12 + 6 + 2, none⟩ = some (.int .i64 x.c.r) ∧ W.cell? ⟨b, o + i * 12 + 6 + 3, none⟩ = some (.int .u64 x.c.b) ∧ W.cell? ⟨b, o + i * 12 + 6 + 4, none⟩ = some (.int .u64 x.c.g) ∧ W.cell? ⟨b, o + i * 12 + 6 + 5, none⟩ = some (.int .i64 x.c.z) := by
  obtain ⟨_, b', o', e, hb, hc⟩ := h i x hx
  rw [ha] at e
  cases e
  have k : ∀ j, j < 12 → W.cell? ⟨b, o + i * 12 + j, none⟩ = some ((encO x)[j]!) := fun j hj => (u.cell (p := ⟨b, o + i * 12 + j, none⟩) hb).trans (hc j hj)
  exact ⟨k 2 (by omega), k 3 (by omega), k 6 (by omega), k 7 (by omega), k 8 (by omega), k 9 (by omega), k 10 (by omega), k 11 (by omega)⟩
theorem held_is {w0 : World} {r : Nat} {w : World} {p : Nat} {F : Nat → Prop} {S : St} {L : List (Nat × Obj)} {M : List (Value × List (Sl × Cp))} (A : List (Sl × Cp)) (hA : held S = A) (h : Has w0 r w p F S L M) :
    Calls Try.prog 20 #[.pointer (some ⟨p, 0, none⟩)] w fun x w' => ∃ ao cap, x = .returned (.slice ao A.length cap) ∧ Has w0 r w' p F S L ((.slice ao A.length cap, A) :: M) := by
  subst hA
  exact held_has h
theorem same_has {w0 : World} {r : Nat} {w : World} {p : Nat} {F : Nat → Prop} {S : St} {L : List (Nat × Obj)} {M : List (Value × List (Sl × Cp))} {A : List (Sl × Cp)} {ao ao' : Option Addr} {cap cap' : Nat} (h : Has w0 r w p F S L M) (h1 : (.slice ao A.length cap, A) ∈ M) (h2 : (.slice ao' A.length cap', A) ∈ M) (hl : A.length ≤ 1000000) :
    Calls Try.prog 21 #[.slice ao A.length cap, .slice ao' A.length cap'] w fun x w' => x = .returned (.bool true) ∧ Has w0 r w' p F S L M := by
  refine (same_true r r ao ao' cap cap' A w (h.row _ h1).1 (h.row _ h2).1 hl).mono ?_
  rintro e w' ⟨rfl, b⟩
  exact ⟨rfl, h.below b⟩
theorem fixed_has {w0 : World} {r : Nat} {w : World} {p : Nat} {F : Nat → Prop} {S : St} {L : List (Nat × Obj)} {M : List (Value × List (Sl × Cp))} (h : Has w0 r w p F S L M) :
    Calls Try.prog 23 #[] w fun x w' => x = .returned (.bool true) ∧ Has w0 r w' p F S L M := by
  refine (fixed_any w).mono ?_
  rintro e w' ⟨rfl, b⟩
  exact ⟨rfl, h.below b⟩
/-- The numbers of two slots in blocks of one's own. -/
theorem Has.four {w0 : World} {r : Nat} {w : World} {p : Nat} {F : Nat → Prop} {S : St} {L : List (Nat × Obj)} {M : List (Value × List (Sl × Cp))} (h : Has w0 r w p F S L M) {q q' : Nat} {s t : Sl} (h1 : (q, objS s) ∈ L) (h2 : (q', objS t) ∈ L) :
    w.cell? ⟨q, 0, none⟩ = some (.int .i64 s.n) ∧ w.cell? ⟨q, 1, none⟩ = some (.int .i64 s.i) ∧ w.cell? ⟨q', 0, none⟩ = some (.int .i64 t.n) ∧ w.cell? ⟨q', 1, none⟩ = some (.int .i64 t.i) :=
  ⟨(h.atS h1).cells.1, (h.atS h1).cells.2, (h.atS h2).cells.1, (h.atS h2).cells.2⟩
/-- What two masked slots were made of. -/
theorem mk_one {w W : World} {r p : Nat} {F : Nat → Prop} {S : St} {L : List (Nat × Obj)} (h : Has w r W p F S L []) (x y : Sl) : Has w r ((W.alloc (objS x)).alloc (objS y)).drew p F S [(W.heap.size, objS x), (W.heap.size + 1, objS y)] [] := by
  have := ((h.alloc (objS x)).alloc (objS y)).drew
  rw [World.size_alloc] at this
  exact this.fewer (fun b hb => by simp at hb ⊢; rcases hb with rfl | rfl <;> simp) fun b hb => hb
theorem mk_other {w W : World} {r p : Nat} {F : Nat → Prop} {S : St} {L : List (Nat × Obj)} (h : Has w r W p F S L []) (x y : Sl) : Has w r ((W.alloc (objS y)).alloc (objS x)).drew p F S [(W.heap.size + 1, objS x), (W.heap.size, objS y)] [] := by
  have := ((h.alloc (objS y)).alloc (objS x)).drew
  rw [World.size_alloc] at this
  exact this.fewer (fun b hb => by simp at hb ⊢; rcases hb with rfl | rfl <;> simp) fun b hb => hb
theorem s_drew {W : World} {q q' : Nat} {s t : Sl} (h : W.cell? ⟨q, 0, none⟩ = some (.int .i64 s.n) ∧ W.cell? ⟨q, 1, none⟩ = some (.int .i64 s.i) ∧ W.cell? ⟨q', 0, none⟩ = some (.int .i64 t.n) ∧ W.cell? ⟨q', 1, none⟩ = some (.int .i64 t.i)) : W.drew.cell? ⟨q, 0, none⟩ = some (.int .i64 s.n) ∧ W.drew.cell? ⟨q, 1, none⟩ = some (.int .i64 s.i) ∧ W.drew.cell? ⟨q', 0, none⟩ = some (.int .i64 t.n) ∧ W.drew.cell? ⟨q', 1, none⟩ = some (.int .i64 t.i) := h
theorem s_alloc {W : World} {q q' : Nat} {s t : Sl} (h : W.cell? ⟨q, 0, none⟩ = some (.int .i64 s.n) ∧ W.cell? ⟨q, 1, none⟩ = some (.int .i64 s.i) ∧ W.cell? ⟨q', 0, none⟩ = some (.int .i64 t.n) ∧ W.cell? ⟨q', 1, none⟩ = some (.int .i64 t.i)) (o : Obj) : (W.alloc o).cell? ⟨q, 0, none⟩ = some (.int .i64 s.n) ∧ (W.alloc o).cell? ⟨q, 1, none⟩ = some (.int .i64 s.i) ∧ (W.alloc o).cell? ⟨q', 0, none⟩ = some (.int .i64 t.n) ∧ (W.alloc o).cell? ⟨q', 1, none⟩ = some (.int .i64 t.i) :=
  ⟨cell_al h.1 o, cell_al h.2.1 o, cell_al h.2.2.1 o, cell_al h.2.2.2 o⟩
end Go.Proofs.Ytkpoppgibempbaa

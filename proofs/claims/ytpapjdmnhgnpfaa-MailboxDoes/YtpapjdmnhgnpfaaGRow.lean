/-
  How things lie in the world, each in blocks of its own, and what stays while calls turn one of them; rows of elements of some cells each, and what append makes of them; no condition of ours but that rows are short.
-/
import Derived.Test.YtpapjdmnhgnpfaaRows
import Derived.WalkKit
import Derived.WalkLawsBesides
import Derived.Deep.QuietTactic
import Derived.BigQuiet
import Derived.Laws.StructEq
import Derived.Below
import Derived.Deep.OwnRows
import Derived.Deep.RegionWith
import Derived.Deep.RegionHeld3
import Derived.Maps.AppendAt
import Derived.Laws.CopyOwn
import Derived.Lib.SliceRun
import Derived.Laws.AppendOwnNone
import Derived.Shelf.RegionOpenPlain
import Derived.Deep.RegionLaw
import Derived.Shelf.Abstract
import Derived.Lib.Walk
namespace Go.Proofs.Ytpapjdmnhgnpfaa
open Go.RowKit Go.Deep Go.Shelf
def I64 (x : Int) : Prop := -9223372036854775808 ≤ x ∧ x ≤ 9223372036854775807
theorem hid {p : Prop} (h : p) : Hid p := h
theorem ret_one {a b : Value} (h : a = b) : Ending.returned a = .returned b := by rw [h]
theorem ret_int {k : IntKind} {a b : Int} (h : a = b) : Ending.returned (.int k a) = .returned (.int k b) := by rw [h]
abbrev ptr (q : Nat) : Value := .pointer (some ⟨q, 0, none⟩)

/-! ### What stays -/
/-- Old blocks outside F, and the streams, are as they were. -/
structure Turn (F : Nat → Prop) (w w' : World) : Prop where
  os : w'.os = w.os
  tape : w'.tape = w.tape
  output : w'.output = w.output
  size : w.heap.size ≤ w'.heap.size
  block : ∀ k, k < w.heap.size → ¬ F k → w'.heap[k]? = w.heap[k]?
theorem Turn.refl (F : Nat → Prop) (w : World) : Turn F w w := ⟨rfl, rfl, rfl, Nat.le_refl _, fun _ _ _ => rfl⟩
theorem Turn.trans {F G : Nat → Prop} {a b c : World} (h : Turn F a b) (k : Turn G b c) (s : ∀ x, G x → F x ∨ a.heap.size ≤ x) : Turn F a c :=
  ⟨k.os.trans h.os, k.tape.trans h.tape, k.output.trans h.output, Nat.le_trans h.size k.size, fun i hi hF =>
    (k.block i (Nat.lt_of_lt_of_le hi h.size) fun hG => (s i hG).elim hF fun h1 => absurd hi (by omega)).trans (h.block i hi hF)⟩
theorem Turn.of {w w' : World} (h : Below w.heap.size w w') (F : Nat → Prop) : Turn F w w' := ⟨h.os, h.tape, h.output, h.size, fun k hk _ => h.block k hk⟩
theorem Turn.grown {w w' : World} {F : Nat → Prop} {r : Option Nat} (h : w.grownBy w' r) (hF : ∀ k, r = some k → F k ∨ w.heap.size ≤ k) : Turn F w w' :=
  ⟨h.os, h.tape, h.output, h.size, fun k hk hn => h.block k hk fun e => (hF k e.symm).elim hn fun h1 => absurd hk (by omega)⟩
theorem Turn.setCell (F : Nat → Prop) (w : World) (a : Addr) (v : Value) (h : F a.block) : Turn F w (w.setCell a v) :=
  ⟨rfl, rfl, rfl, by rw [nblk_setCell]; exact Nat.le_refl _, fun k _ hk => blk_setCell_other _ _ _ _ fun e => hk (e ▸ h)⟩
theorem Turn.setRow (F : Nat → Prop) (w : World) (g : Nat) (c : Array Value) (h : F g) : Turn F w (w.setRow g c) :=
  ⟨rfl, rfl, rfl, by rw [setRow_size]; exact Nat.le_refl _, fun k _ hk => setRow_other _ _ _ _ fun e => hk (e ▸ h)⟩
theorem Turn.drew {F : Nat → Prop} {w w' : World} (h : Turn F w w') : Turn F w w'.drew := ⟨h.os, h.tape, h.output, h.size, h.block⟩
theorem Turn.below {B : Nat} {F : Nat → Prop} {w0 w w' : World} (h : Turn F w w') (hb : Below B w0 w) (hF : ∀ x, F x → B ≤ x) (hB : B ≤ w.heap.size) : Below B w0 w' :=
  ⟨h.os.trans hb.os, h.tape.trans hb.tape, h.output.trans hb.output, Nat.le_trans hb.size h.size, fun k hk => (h.block k (by omega) fun hf => by have := hF k hf; omega).trans (hb.block k hk)⟩
/-- What is new, or was there. -/
def Out (F F' : Nat → Prop) (w : World) : Prop := ∀ x, F' x → F x ∨ w.heap.size ≤ x
theorem Out.refl (F : Nat → Prop) (w : World) : Out F F w := fun _ h => .inl h
theorem below_new (w : World) (o : Obj) : Below w.heap.size w (w.alloc o) := (Below.refl _ _).alloc (Nat.le_refl _) _
theorem Below.then {B : Nat} {a b c : World} (h : Below B a b) (k : Below b.heap.size b c) (hB : B ≤ b.heap.size) : Below B a c := h.trans (k.mono hB)
theorem below_drewN {B : Nat} {a w : World} (h : Below B a w) (n : Nat) : Below B a (w.drewN n) := ⟨h.os, h.tape, h.output, h.size, h.block⟩
theorem own_of_block {w w' : World} {B : Nat} {e : TypeId} {k : Nat} {v : Value} {n : Nat} {xs : List Value} (h : w.ownsRow B e k v n xs) (q : ∀ g, v.ownBlock = some g → w'.heap[g]? = w.heap[g]?) : w'.ownsRow B e k v n xs := by
  refine ⟨h.1, ?_⟩
  rcases h.2 with hn | ⟨g, cap, cur, rfl, hb, hg, r⟩
  · exact .inl hn
  · exact .inr ⟨g, cap, cur, rfl, hb, (q g rfl).trans hg, r⟩
theorem own_low {w : World} {B : Nat} {e : TypeId} {k : Nat} {v : Value} {n : Nat} {xs : List Value} (h : w.ownsRow B e k v n xs) : w.ownsRow 0 e k v n xs := by
  refine ⟨h.1, ?_⟩
  rcases h.2 with hn | ⟨g, cap, cur, rfl, _, r⟩
  · exact .inl hn
  · exact .inr ⟨g, cap, cur, rfl, Nat.zero_le _, r⟩
theorem add_none (b o j : Nat) : (⟨b, o, none⟩ : Addr).add j = ⟨b, o + j, none⟩ := by unfold Addr.add; split <;> simp_all
theorem cell_al {w : World} {a : Addr} {v : Value} (h : w.cell? a = some v) (o : Obj) : (w.alloc o).cell? a = some v := Lib.cell?_alloc_some _ h

/-! ### Things, each in blocks of its own -/
structure Th where
  F : Nat → Prop
  H : World → Prop
  lt : ∀ w, H w → ∀ x, F x → x < w.heap.size
  keep : ∀ w w', H w → (∀ x, F x → w'.heap[x]? = w.heap[x]?) → H w'
theorem Th.turn (t : Th) {G : Nat → Prop} {w w' : World} (h : t.H w) (u : Turn G w w') (a : ∀ x, t.F x → ¬ G x) : t.H w' := t.keep w w' h fun x hx => u.block x (t.lt w h x hx) (a x hx)
theorem Th.below (t : Th) {w w' : World} (h : t.H w) (u : Below w.heap.size w w') : t.H w' := t.keep w w' h fun x hx => u.block x (t.lt w h x hx)
/-- From block r on all is the call's own: the things R, none in another one's blocks. -/
structure Sep (w0 : World) (r : Nat) (w : World) (R : List Th) : Prop where
  low : Below r w0 w
  size : r ≤ w.heap.size
  each : ∀ t ∈ R, t.H w ∧ ∀ x, t.F x → r ≤ x
  apart : R.Pairwise (fun a b => ∀ x, a.F x → ¬ b.F x)
section
variable {w0 : World} {r : Nat} {w w' : World} {t t' u : Th} {R R' : List Th}
theorem Sep.turn (h : Sep w0 r w (t :: R)) (ht : t'.H w') (k : Turn t.F w w') (o : Out t.F t'.F w) : Sep w0 r w' (t' :: R) := by
  obtain ⟨hl, hs, he, ha⟩ := h
  obtain ⟨a1, a2⟩ := List.pairwise_cons.1 ha
  have h0 := he t (by simp)
  refine ⟨k.below hl h0.2 hs, Nat.le_trans hs k.size, fun x hx => ?_, List.pairwise_cons.2 ⟨fun b hb x hx hb' => ?_, a2⟩⟩
  · rcases List.mem_cons.1 hx with rfl | hx
    · exact ⟨ht, fun y hy => (o y hy).elim (h0.2 y) fun h1 => Nat.le_trans hs h1⟩
    · have h1 := he x (List.mem_cons_of_mem _ hx)
      exact ⟨x.turn h1.1 k fun y hy hy' => a1 x hx y hy' hy, h1.2⟩
  · rcases o x hx with h1 | h1
    · exact a1 b hb x h1 hb'
    · have := b.lt w (he b (List.mem_cons_of_mem _ hb)).1 x hb'
      omega
theorem Sep.below (h : Sep w0 r w R) (k : Below w.heap.size w w') : Sep w0 r w' R :=
  ⟨Below.then h.low k h.size, Nat.le_trans h.size k.size, fun x hx => ⟨x.below (h.each x hx).1 k, (h.each x hx).2⟩, h.apart⟩
theorem Sep.new (h : Sep w0 r w R) (ht : t.H w') (k : Below w.heap.size w w') (o : ∀ x, t.F x → w.heap.size ≤ x) : Sep w0 r w' (t :: R) := by
  have h1 := h.below k
  refine ⟨h1.low, h1.size, fun x hx => ?_, List.pairwise_cons.2 ⟨fun b hb x hx hb' => ?_, h.apart⟩⟩
  · rcases List.mem_cons.1 hx with rfl | hx
    · exact ⟨ht, fun y hy => Nat.le_trans h.size (o y hy)⟩
    · exact h1.each x hx
  · have := b.lt w (h.each b hb).1 x hb'
    have := o x hx
    omega
theorem Sep.perm (h : Sep w0 r w R) (p : R.Perm R') : Sep w0 r w R' :=
  ⟨h.low, h.size, fun x hx => h.each x (p.mem_iff.2 hx), (p.pairwise_iff fun k x h1 h2 => k x h2 h1).1 h.apart⟩
theorem Sep.swap (h : Sep w0 r w (t :: u :: R)) : Sep w0 r w (u :: t :: R) := h.perm (List.Perm.swap _ _ _)
theorem Sep.third {s : Th} (h : Sep w0 r w (s :: t :: u :: R)) : Sep w0 r w (t :: u :: s :: R) := h.swap.perm (.cons _ (.swap _ _ _))
theorem Sep.drop (h : Sep w0 r w (t :: R)) : Sep w0 r w R := ⟨h.low, h.size, fun x hx => h.each x (List.mem_cons_of_mem _ hx), (List.pairwise_cons.1 h.apart).2⟩
theorem Sep.drop2 (h : Sep w0 r w (t :: u :: R)) : Sep w0 r w (t :: R) := h.swap.drop
theorem Sep.head (h : Sep w0 r w (t :: R)) : t.H w := (h.each t (by simp)).1
theorem Sep.told (h : Sep w0 r w (t :: R)) (hu : u.H w') (k : Below w.heap.size w w') (o : ∀ x, u.F x → w.heap.size ≤ x) : Sep w0 r w' (t :: u :: R) := (h.new hu k o).swap
theorem Sep.drew (h : Sep w0 r w R) : Sep w0 r w.drew R := h.below ((Below.refl _ _).drew)
theorem Sep.drewN (h : Sep w0 r w R) (n : Nat) : Sep w0 r (w.drewN n) R := h.below (below_drewN (Below.refl _ _) n)
end
theorem sep_nil (w : World) : Sep w w.heap.size w [] := ⟨Below.refl _ _, Nat.le_refl _, fun x hx => by simp at hx, List.Pairwise.nil⟩
/-- A block. -/
def blk (q : Nat) (o : Obj) : Th where
  F := fun x => x = q
  H := fun w => w.heap[q]? = some o
  lt := fun w h x hx => by subst hx; exact (Array.getElem?_eq_some_iff.1 h).1
  keep := fun w w' h k => (k q rfl).trans h
theorem Sep.box {w0 : World} {r : Nat} {w : World} {R : List Th} (h : Sep w0 r w R) (o : Obj) : Sep w0 r (w.alloc o) (blk w.heap.size o :: R) :=
  h.new (blk_alloc_new w o) (below_new w o) fun x hx => by rw [hx]; exact Nat.le_refl _

/-! ### Rows of elements of k cells each -/
section
variable {α : Type} {k : Nat} (enc : α → List Value)
def flatK (S : List α) : List Value := S.flatMap enc
variable {enc}
theorem flatK_len (hk : ∀ x, (enc x).length = k) : ∀ S : List α, (flatK enc S).length = S.length * k
  | [] => by simp [flatK]
  | x :: S => by
    have := flatK_len hk S
    unfold flatK at *
    rw [List.flatMap_cons, List.length_append, hk, this, List.length_cons, Nat.add_mul, Nat.one_mul, Nat.add_comm]
theorem flatK_app (S T : List α) : flatK enc (S ++ T) = flatK enc S ++ flatK enc T := by simp [flatK]
theorem flatK_cons (x : α) (T : List α) : flatK enc (x :: T) = enc x ++ flatK enc T := by simp [flatK]
theorem flatK_take (hk : ∀ x, (enc x).length = k) (S : List α) (n : Nat) : flatK enc (S.take n) = (flatK enc S).take (n * k) := by
  by_cases h : n ≤ S.length
  · have e : flatK enc S = flatK enc (S.take n) ++ flatK enc (S.drop n) := by rw [← flatK_app, List.take_append_drop]
    have hl := flatK_len hk (S.take n)
    rw [List.length_take, Nat.min_eq_left h] at hl
    rw [e, ← hl, List.take_left]
  · have hl := flatK_len hk S
    rw [List.take_of_length_le (by omega), List.take_of_length_le]
    rw [hl]
    exact Nat.mul_le_mul_right _ (by omega)
theorem flatK_drop (hk : ∀ x, (enc x).length = k) (S : List α) (n : Nat) : flatK enc (S.drop n) = (flatK enc S).drop (n * k) := by
  by_cases h : n ≤ S.length
  · have e : flatK enc S = flatK enc (S.take n) ++ flatK enc (S.drop n) := by rw [← flatK_app, List.take_append_drop]
    have hl := flatK_len hk (S.take n)
    rw [List.length_take, Nat.min_eq_left h] at hl
    rw [e, ← hl, List.drop_left]
  · have hl := flatK_len hk S
    rw [List.drop_of_length_le (by omega), List.drop_of_length_le]
    · rfl
    · rw [hl]
      exact Nat.mul_le_mul_right _ (by omega)
theorem flatK_get (hk : ∀ x, (enc x).length = k) {S : List α} {i : Nat} {x : α} (h : S[i]? = some x) {j : Nat} (hj : j < k) : (flatK enc S)[i * k + j]? = (enc x)[j]? := by
  have e := flatK_drop hk S i
  have hi := (List.getElem?_eq_some_iff.1 h).1
  have hx : S.drop i = x :: S.drop (i + 1) := by
    rw [List.drop_eq_getElem_cons hi]
    congr 1
    exact (List.getElem?_eq_some_iff.1 h).2
  rw [hx, flatK_cons] at e
  have := congrArg (fun l => l[j]?) e
  simp only [List.getElem?_drop] at this
  rw [← this, List.getElem?_append_left (by rw [hk]; exact hj)]
theorem flatK_one (h1 : ∀ x, ∀ v ∈ enc x, v.oneCell' = true) (S : List α) : ∀ v ∈ flatK enc S, v.oneCell' = true := by
  intro v hv
  obtain ⟨x, _, hx⟩ := List.mem_flatMap.1 hv
  exact h1 x v hx
theorem flatK_set (hk : ∀ x, (enc x).length = k) {S : List α} {i : Nat} (hi : i < S.length) (x : α) : flatK enc (S.set i x) = (flatK enc S).take (i * k) ++ enc x ++ (flatK enc S).drop ((i + 1) * k) := by
  rw [List.set_eq_take_append_cons_drop, if_pos hi, flatK_app, flatK_cons, flatK_take hk, flatK_drop hk, List.append_assoc]
end

theorem flat_set {α : Type} {enc : α → List Value} {k : Nat} (hk : ∀ x, (enc x).length = k) : ∀ (L : List α) (i j : Nat) (x y : α) (v : Value), L[i]? = some x → j < k → enc y = (enc x).set j v → (flatK enc L).set (i * k + j) v = flatK enc (L.set i y)
  | [], i, j, x, y, v, h, _, _ => by simp at h
  | z :: L, 0, j, x, y, v, h, hj, e => by
    obtain rfl : z = x := by simpa using h
    rw [Nat.zero_mul, Nat.zero_add, flatK_cons, List.set_append_left _ _ (by rw [hk]; exact hj), List.set_cons_zero, flatK_cons, e]
  | z :: L, i + 1, j, x, y, v, h, hj, e => by
    have h' : L[i]? = some x := by simpa using h
    have := flat_set hk L i j x y v h' hj e
    rw [flatK_cons, List.set_append_right _ _ (by rw [hk, Nat.add_mul]; omega), List.set_cons_succ, flatK_cons, hk, ← this]
    congr 2
    rw [Nat.add_mul]
    omega
theorem own_set {w : World} {e : TypeId} {k g n cap : Nat} {xs : List Value} (h : w.ownsRow 0 e k (.slice (some ⟨g, 0, none⟩) n cap) n xs) {m : Nat} (v : Value) : (w.setCell ⟨g, m, none⟩ v).ownsRow 0 e k (.slice (some ⟨g, 0, none⟩) n cap) n (xs.set m v) := by
  obtain ⟨h0, ⟨e1, _⟩ | ⟨g', cap', cur, e1, _, hg, h1, h2, h3, h4⟩⟩ := h
  · cases e1
  · cases e1
    refine ⟨by rw [List.length_set]; exact h0, .inr ⟨g, cap, cur.set! m v, rfl, Nat.zero_le _, ?_, h1, h2, by simpa using h3, ?_⟩⟩
    · simp only [World.setCell, Array.getElem?_modify, hg, Option.map_some]
      simp
    · rw [← h4]
      simp [List.take_set]
theorem own_frozen {w : World} {e : TypeId} {k g n cap : Nat} {xs : List Value} (h : w.ownsRow 0 e k (.slice (some ⟨g, 0, none⟩) n cap) n xs) (j : Nat) : w.frozen? ⟨g, j, none⟩ = false := by
  rcases h.2 with ⟨e1, _⟩ | ⟨g', cap', cur, e1, _, hg, _⟩
  · cases e1
  · cases e1
    simp [World.frozen?, hg]
theorem own_slice {w : World} {e : TypeId} {k n : Nat} {v : Value} {xs : List Value} (h : w.ownsRow 0 e k v n xs) : ∃ ao cap, v = .slice ao n cap ∧ ∀ i, i < n → ∃ g, ao = some ⟨g, 0, none⟩ := by
  rcases h.2 with ⟨rfl, h0⟩ | ⟨g, cap, cur, rfl, _⟩
  · exact ⟨none, 0, by rw [h0], fun i hi => by omega⟩
  · exact ⟨some ⟨g, 0, none⟩, cap, rfl, fun _ _ => ⟨g, rfl⟩⟩
/-! ### Rows as things -/
/-- A kind of element: its type, its slice's, its cells, its bytes. -/
structure El (α : Type) where
  e : TypeId
  sl : TypeId
  k : Nat
  by' : Nat
  enc : α → List Value
structure El.Ok {α : Type} (E : El α) : Prop where
  hu : Try.prog.underlying E.sl = some (.slice E.e)
  info : ∃ i z, Try.prog.info? E.e = some i ∧ i.zero = some z ∧ i.size = E.k ∧ i.bytes = E.by' ∧ z.cells.size = E.k
  pos : 0 < E.k
  small : E.by' ≤ 1000
  len : ∀ x, (E.enc x).length = E.k
  one : ∀ x, ∀ v ∈ E.enc x, v.oneCell' = true
theorem info_of {t : TypeId} {z : Value} {k b : Nat} (h : (Try.prog.info? t).map (fun i => (i.zero, i.size, i.bytes)) = some (some z, k, b)) (hz : z.cells.size = k) : ∃ i z, Try.prog.info? t = some i ∧ i.zero = some z ∧ i.size = k ∧ i.bytes = b ∧ z.cells.size = k := by
  obtain ⟨i, hi, e⟩ := Option.map_eq_some_iff.1 h
  simp only [Prod.mk.injEq] at e
  exact ⟨i, z, hi, e.1, e.2.1, e.2.2, hz⟩
section
variable {α : Type} {E : El α} {w w' : World} {v : Value} {L : List α}
/-- A slice value that owns the row of L. -/
def Row (E : El α) (w : World) (v : Value) (L : List α) : Prop := w.ownsRow 0 E.e E.k v L.length (flatK E.enc L)
theorem Row.slice (h : Row E w v L) : ∃ ao cap, v = .slice ao L.length cap ∧ L.length ≤ cap ∧ cap ≤ 9223372036854775807 ∧ (∀ i, i < L.length → ∃ g, ao = some ⟨g, 0, none⟩) ∧ (ao = none → L = []) := by
  rcases h.2 with ⟨rfl, h0⟩ | ⟨g, cap, cur, rfl, _, _, h1, h2, _⟩
  · exact ⟨none, 0, by rw [h0], by omega, by omega, fun i hi => by omega, fun _ => List.length_eq_zero_iff.1 h0⟩
  · exact ⟨some ⟨g, 0, none⟩, cap, rfl, h1, by unfold maxLen at h2; omega, fun _ _ => ⟨g, rfl⟩, fun e => by cases e⟩
theorem Row.cell (ok : El.Ok E) {g cap n : Nat} (h : Row E w (.slice (some ⟨g, 0, none⟩) n cap) L) {i : Nat} {x : α} (hi : L[i]? = some x) {j : Nat} {c : Value} (hj : (E.enc x)[j]? = some c) : w.cell? ⟨g, i * E.k + j, none⟩ = some c := by
  have hjk : j < E.k := by rw [← ok.len x]; exact (List.getElem?_eq_some_iff.1 hj).1
  have e1 := World.ownsRow.cells h (g := g) rfl (i * E.k + j) c (by rw [flatK_get ok.len hi hjk]; exact hj)
  rw [add_none, Nat.zero_add] at e1
  exact e1
theorem Row.frozen {g cap n : Nat} (h : Row E w (.slice (some ⟨g, 0, none⟩) n cap) L) (j : Nat) : w.frozen? ⟨g, j, none⟩ = false := by
  rcases h.2 with ⟨e, _⟩ | ⟨g', cap', cur, e, _, hg, _⟩
  · cases e
  · cases e
    simp [World.frozen?, hg]
theorem Row.lt (h : Row E w v L) {x : Nat} (hx : v.ownBlock = some x) : x < w.heap.size := (World.ownsRow.lt h x hx).2
theorem Row.keep (h : Row E w v L) (k : ∀ x, v.ownBlock = some x → w'.heap[x]? = w.heap[x]?) : Row E w' v L := own_of_block h k
theorem Row.below (h : Row E w v L) (k : Below w.heap.size w w') : Row E w' v L := h.keep fun x hx => k.block x (h.lt hx)
theorem row_nil (w : World) : Row E w (.slice none 0 0) ([] : List α) := ⟨by simp [flatK], .inl ⟨rfl, rfl⟩⟩
theorem Row.set (ok : El.Ok E) {g cap n : Nat} (h : Row E w (.slice (some ⟨g, 0, none⟩) n cap) L) {i j : Nat} {x y : α} {c : Value} (hi : L[i]? = some x) (hj : j < E.k) (e : E.enc y = (E.enc x).set j c) : Row E (w.setCell ⟨g, i * E.k + j, none⟩ c) (.slice (some ⟨g, 0, none⟩) n cap) (L.set i y) := by
  obtain ⟨ao, cap', ev, _⟩ := own_slice h
  cases ev
  unfold Row at *
  rw [List.length_set, ← flat_set ok.len L i j x y c hi hj e]
  exact own_set h c
/-- One more, out of a block that holds it. -/
theorem append_one (ok : El.Ok E) (ty : TypeId) (x : α) (q : Nat) (hown : Row E w v L) (hq : ∀ j c, (E.enc x)[j]? = some c → w.cell? ⟨q, j, none⟩ = some c) (hl : L.length ≤ 1000000) :
    ∃ v' w', (Builtin.append_ #[E.sl, E.sl] ty #[v, .slice (some ⟨q, 0, none⟩) 1 1]).run Try.prog w = .ok v' w' ∧ Row E w' v' (L ++ [x]) ∧ w.grownBy w' v.ownBlock ∧ (v'.ownBlock = v.ownBlock ∨ v'.ownBlock = some w.heap.size) := by
  obtain ⟨i, z, hi, z1, z2, z3, z4⟩ := ok.info
  have hs := ok.small
  obtain ⟨v', w', r1, r2, r3, _, r5⟩ := run_append_own_at (P := Try.prog) (w := w) 0 E.sl ty E.e i z E.k E.by' ok.hu hi z1 z2 z3 z4 ok.pos v L.length (flatK E.enc L) hown ⟨q, 0, none⟩ 1 1 (E.enc x) (by rw [ok.len, Nat.one_mul])
    (fun j u hj => by rw [add_none, Nat.zero_add]; exact hq j u hj) (ok.one x) (by unfold maxLen; omega) (Nat.le_trans (Nat.mul_le_mul (show L.length + 1 ≤ 1000001 by omega) hs) (by decide)) (Nat.zero_le _)
  refine ⟨v', w', r1, ?_, r3, r5⟩
  unfold Row
  rw [List.length_append, flatK_app, flatK_cons]
  simpa [flatK] using r2
/-- A row onto another one. -/
theorem append_row (ok : El.Ok E) (ty : TypeId) (u : Value) (A : List α) (hown : Row E w v L) (hu : Row E w u A) (hl : L.length + A.length ≤ 1000000) :
    ∃ v' w', (Builtin.append_ #[E.sl, E.sl] ty #[v, u]).run Try.prog w = .ok v' w' ∧ Row E w' v' (L ++ A) ∧ w.grownBy w' v.ownBlock ∧ (v'.ownBlock = v.ownBlock ∨ v'.ownBlock = some w.heap.size) ∧ (v' = .slice none 0 0 → A = []) := by
  obtain ⟨i, z, hi, z1, z2, z3, z4⟩ := ok.info
  have hs := ok.small
  rcases hu.2 with ⟨rfl, h0⟩ | ⟨g, cap, cur, rfl, _⟩
  · obtain rfl : A = [] := List.length_eq_zero_iff.1 h0
    exact ⟨v, w, run_append_owned_none (P := Try.prog) (w := w) 0 E.sl ty E.e i E.k ok.hu hi v _ _ hown, by rw [List.append_nil]; exact hown, ⟨rfl, rfl, rfl, Nat.le_refl _, fun _ _ _ => rfl⟩, .inl rfl, fun _ => rfl⟩
  · obtain ⟨v', w', r1, r2, r3, r4, r5⟩ := run_append_own_at (P := Try.prog) (w := w) 0 E.sl ty E.e i z E.k E.by' ok.hu hi z1 z2 z3 z4 ok.pos v L.length (flatK E.enc L) hown ⟨g, 0, none⟩ A.length cap (flatK E.enc A) (flatK_len ok.len A)
      (fun j u hj => World.ownsRow.cells hu (g := g) rfl j u hj) (flatK_one ok.one _) (by unfold maxLen; omega) (Nat.le_trans (Nat.mul_le_mul hl hs) (by decide)) (Nat.zero_le _)
    refine ⟨v', w', r1, ?_, r3, r5, fun e => List.length_eq_zero_iff.1 (r4.1 e).2⟩
    unfold Row
    rw [List.length_append, flatK_app]
    exact r2
end
/-- A row as a thing. -/
def lst {α : Type} (E : El α) (v : Value) (L : List α) : Th where
  F := fun x => v.ownBlock = some x
  H := fun w => Row E w v L
  lt := fun _ h _ hx => h.lt hx
  keep := fun _ _ h k => h.keep k
section
variable {α : Type} {E : El α} {w0 w w' : World} {r : Nat} {R : List Th}
theorem Sep.nil (h : Sep w0 r w R) : Sep w0 r w (lst E (.slice none 0 0) [] :: R) :=
  h.new (t := lst E (.slice none 0 0) []) (row_nil w) (Below.refl _ _) fun x hx => by cases hx
theorem Sep.made (h : Sep w0 r w R) : Sep w0 r (w.alloc (.cells #[] E.e)) (lst E (.slice (some ⟨w.heap.size, 0, none⟩) 0 0) [] :: R) :=
  h.new (t := lst E (.slice (some ⟨w.heap.size, 0, none⟩) 0 0) []) (own_low (World.ownsRow_made w #[] 0 (Nat.le_refl _) (by unfold maxLen; omega) (by simp))) (below_new _ _) fun x hx => by
    have : some w.heap.size = some x := hx
    cases this
    exact Nat.le_refl _
theorem Sep.more (ok : El.Ok E) {u : Value} {A : List α} (h : Sep w0 r w (lst E u A :: R)) (ty : TypeId) (x : α) {C : Array Value} (hC : C.toList = E.enc x) (hl : A.length ≤ 1000000) :
    ∃ v' w', (Builtin.append_ #[E.sl, E.sl] ty #[u, .slice (some ⟨w.heap.size, 0, none⟩) 1 1]).run Try.prog (w.alloc (.cells C E.e)) = .ok v' w' ∧ Sep w0 r w' (lst E v' (A ++ [x]) :: R) := by
  have h1 := h.below (below_new w (.cells C E.e))
  obtain ⟨v', w', r1, r2, r3, r4⟩ := append_one ok ty x w.heap.size h1.head (fun j c hj => by
    have := blk_alloc_new w (.cells C E.e)
    simp only [World.cell?]
    rw [this]
    rw [← hC] at hj
    simpa using hj) hl
  refine ⟨v', w', r1, h1.turn (t := lst E u A) (t' := lst E v' (A ++ [x])) r2 (Turn.grown r3 fun k hk => .inl hk) fun x hx => ?_⟩
  rcases r4 with e | e
  · exact .inl (e.symm.trans hx)
  · have : some (w.alloc (.cells C E.e)).heap.size = some x := e.symm.trans hx
    cases this
    exact .inr (Nat.le_refl _)
theorem Sep.onto (ok : El.Ok E) {u v : Value} {A B : List α} (h : Sep w0 r w (lst E u A :: R)) (hm : Row E w v B) (ty : TypeId) (hl : A.length + B.length ≤ 1000000) :
    ∃ v' w', (Builtin.append_ #[E.sl, E.sl] ty #[u, v]).run Try.prog w = .ok v' w' ∧ Sep w0 r w' (lst E v' (A ++ B) :: R) := by
  obtain ⟨v', w', r1, r2, r3, r4, _⟩ := append_row ok ty v B h.head hm hl
  refine ⟨v', w', r1, h.turn (t := lst E u A) (t' := lst E v' (A ++ B)) r2 (Turn.grown r3 fun k hk => .inl hk) fun x hx => ?_⟩
  rcases r4 with e | e
  · exact .inl (e.symm.trans hx)
  · have : some w.heap.size = some x := e.symm.trans hx
    cases this
    exact .inr (Nat.le_refl _)
/-- A list written out in a block of its own. -/
theorem Sep.lit (ok : El.Ok E) (h : Sep w0 r w R) (xs : List α) (hl : xs.length ≤ 1000) (C : Array Value) (hC : C.toList = flatK E.enc xs) : Sep w0 r (w.alloc (.cells C E.e)) (lst E (.slice (some ⟨w.heap.size, 0, none⟩) xs.length xs.length) xs :: R) := by
  refine h.new (t := lst E (.slice (some ⟨w.heap.size, 0, none⟩) xs.length xs.length) xs) ?_ (below_new _ _) fun x hx => by
    have : some w.heap.size = some x := hx
    cases this
    exact Nat.le_refl _
  have hl2 := flatK_len ok.len xs
  refine ⟨hl2, .inr ⟨w.heap.size, xs.length, C, rfl, Nat.zero_le _, blk_alloc_new _ _, Nat.le_refl _, by unfold maxLen; omega, ?_, ?_⟩⟩
  · rw [← Array.length_toList, hC, hl2]
  · rw [hC, ← hl2, List.take_length]
theorem Sep.listAt (ok : El.Ok E) {ao : Option Addr} {n cap : Nat} {A : List α} (h : Sep w0 r w R) (hm : lst E (.slice ao n cap) A ∈ R) {k : Nat} {x : α} (hk : A[k]? = some x) : ∃ g, ao = some ⟨g, 0, none⟩ ∧ ∀ j c, (E.enc x)[j]? = some c → w.cell? ⟨g, k * E.k + j, none⟩ = some c := by
  have row : Row E w (.slice ao n cap) A := (h.each _ hm).1
  obtain ⟨ao', cap', e, _, _, hg, _⟩ := row.slice
  cases e
  obtain ⟨g, rfl⟩ := hg k (List.getElem?_eq_some_iff.1 hk).1
  exact ⟨g, rfl, fun j c hj => row.cell ok hk hj⟩
theorem Sep.listIs {v : Value} {A : List α} (h : Sep w0 r w R) (hm : lst E v A ∈ R) : ∃ ao cap, v = .slice ao A.length cap := by
  obtain ⟨ao, cap, e, _⟩ := Row.slice (h.each _ hm).1
  exact ⟨ao, cap, e⟩
/-- Things that a call has made, beside those that were there. -/
theorem Sep.join {Q : List Th} (h : Sep w0 r w R) (k : Sep w w.heap.size w' Q) : Sep w0 r w' (Q ++ R) := by
  have h1 := h.below k.low
  refine ⟨h1.low, h1.size, fun t ht => ?_, List.pairwise_append.2 ⟨k.apart, h.apart, fun a ha b hb x hx hy => ?_⟩⟩
  · rcases List.mem_append.1 ht with ht | ht
    · exact ⟨(k.each t ht).1, fun x hx => Nat.le_trans h.size ((k.each t ht).2 x hx)⟩
    · exact h1.each t ht
  · have := (k.each a ha).2 x hx
    have := b.lt w (h.each b hb).1 x hy
    omega
theorem Turn.mono {F G : Nat → Prop} {w w' : World} (h : Turn F w w') (k : ∀ x, F x → G x) : Turn G w w' := ⟨h.os, h.tape, h.output, h.size, fun i hi hn => h.block i hi fun hf => hn (k i hf)⟩
theorem setBlock {w : World} {p j : Nat} {C : Array Value} {ty : TypeId} (h : w.heap[p]? = some (.cells C ty (0, 0))) (c : Value) : (w.setCell ⟨p, j, none⟩ c).heap[p]? = some (.cells (C.set! j c) ty (0, 0)) := by
  simp only [World.setCell, Array.getElem?_modify, h, Option.map_some]
  simp
theorem Sep.fourth {a b c d : Th} (h : Sep w0 r w (a :: b :: c :: d :: R)) : Sep w0 r w (d :: a :: b :: c :: R) :=
  h.perm (((List.Perm.cons a (List.Perm.cons b (List.Perm.swap d c R))).trans (List.Perm.cons a (List.Perm.swap d b (c :: R)))).trans (List.Perm.swap d a (b :: c :: R)))
end

/-! ### Steps, variables -/
theorem wpList_append_run {w : World} {ops : Array Oper} {rest : List Oper} {o : Oper} {a : Act} {Q : Exit → Act → World → Prop} (hgd : o.guard = none) (s x : Operand) (t t' : TypeId)
    (ho : o.op = .call { callee := .builtin .append, args := #[s, x], argTypes := #[t, t'] }) (v y v' : Value) (w' : World) (hs : a.eval s = v) (hx : a.eval x = y)
    (hrun : (Builtin.append_ #[t, t'] o.type #[v, y]).run Try.prog w = .ok v' w') (h : wpList Try.prog ops Q rest (a.put o.dst v') w') : wpList Try.prog ops Q (o :: rest) a w :=
  wpList_plain hgd fun _ hK => by
    unfold Oper.wp execOp
    simp only [ho, resolve, invoke, builtin, Sem.run_bind, Sem.run_pure, Result.andThen_ok, List.map_toArray, List.map_cons, List.map_nil, hs, hx, hrun]
    exact hK _ _ h
theorem step_append_run {w : World} {ops : Array Oper} {o : Oper} {a : Act} {K : Act → World → Prop} {Q : Exit → Act → World → Prop} {E : Prop} (hgd : o.guard = none) (s x : Operand) (t t' : TypeId)
    (ho : o.op = .call { callee := .builtin .append, args := #[s, x], argTypes := #[t, t'] }) (v y v' : Value) (w' : World) (hs : a.eval s = v) (hx : a.eval x = y)
    (hrun : (Builtin.append_ #[t, t'] o.type #[v, y]).run Try.prog w = .ok v' w') (h : K (a.put o.dst v') w') : if Region.wanted o (yielded ops a.tmps) = true then Oper.wp Try.prog o a w K Q else E := by
  have hw : Region.wanted o (yielded ops a.tmps) = true := by simp [Region.wanted, hgd]
  rw [if_pos hw]
  unfold Oper.wp
  simp [execOp, ho, resolve, invoke, builtin, hs, hx, hrun, Result.andThen]
  exact h
def Var (w : World) (q : Nat) (v : Value) : Prop := q < w.heap.size ∧ w.cell? ⟨q, 0, none⟩ = some v
theorem Var.below {w w' : World} {q : Nat} {v : Value} (h : Var w q v) (b : Below w.heap.size w w') : Var w' q v := ⟨Nat.lt_of_lt_of_le h.1 b.size, (b.cell (p := ⟨q, 0, none⟩) h.1).trans h.2⟩
theorem Var.new (w : World) (v : Value) (t : TypeId) : Var (w.alloc (.cells #[v] t)) w.heap.size v := ⟨by simp, by have := blk_alloc_new w (.cells #[v] t); simp only [World.cell?]; rw [this]; rfl⟩
end Go.Proofs.Ytpapjdmnhgnpfaa

/-
  How things lie in the world, each in blocks of its own, and what stays while calls turn one of them; a row of elements of some cells each; a row of ints; no condition of ours.
-/
import Derived.Test.YtchamgecalfmpaaDoorRows
import Derived.Test.YtchamgecalfmpaaDoorWBits
import Derived.Test.YtchamgecalfmpaaDoorQMath
import Derived.WalkKit
import Derived.WalkLawsBesides
import Derived.Deep.QuietTactic
import Derived.BigQuiet
import Derived.Laws.StructEq
import Derived.Below
import Derived.Deep.OwnRows
import Derived.Deep.RegionWith
import Derived.Deep.RegionHeld3
import Derived.Maps.AppendAt
import Derived.Laws.CopyOwn
import Derived.Lib.SliceRun
namespace Go.Proofs.YtchamgecalfmpaaDoor
open Go.RowKit Go.Deep

/-! ### What stays -/
/-- Old blocks outside F, and the streams, are as they were. -/
structure Turn (F : Nat → Prop) (w w' : World) : Prop where
  os : w'.os = w.os
  tape : w'.tape = w.tape
  output : w'.output = w.output
  size : w.heap.size ≤ w'.heap.size
  block : ∀ k, k < w.heap.size → ¬ F k → w'.heap[k]? = w.heap[k]?
theorem Turn.refl (F : Nat → Prop) (w : World) : Turn F w w := ⟨rfl, rfl, rfl, Nat.le_refl _, fun _ _ _ => rfl⟩
theorem Turn.trans {F G : Nat → Prop} {a b c : World} (h : Turn F a b) (k : Turn G b c) (s : ∀ x, G x → F x ∨ a.heap.size ≤ x) : Turn F a c :=
  ⟨k.os.trans h.os, k.tape.trans h.tape, k.output.trans h.output, Nat.le_trans h.size k.size, fun i hi hF =>
    (k.block i (Nat.lt_of_lt_of_le hi h.size) fun hG => (s i hG).elim hF fun h1 => absurd hi (by omega)).trans (h.block i hi hF)⟩
theorem Turn.of {w w' : World} (h : Below w.heap.size w w') (F : Nat → Prop) : Turn F w w' := ⟨h.os, h.tape, h.output, h.size, fun k hk _ => h.block k hk⟩
theorem Turn.grown {w w' : World} {F : Nat → Prop} {r : Option Nat} (h : w.grownBy w' r) (hF : ∀ k, r = some k → F k ∨ w.heap.size ≤ k) : Turn F w w' :=
  ⟨h.os, h.tape, h.output, h.size, fun k hk hn => h.block k hk fun e => (hF k e.symm).elim hn fun h1 => absurd hk (by omega)⟩
theorem Turn.setCell (F : Nat → Prop) (w : World) (a : Addr) (v : Value) (h : F a.block) : Turn F w (w.setCell a v) :=
  ⟨rfl, rfl, rfl, by rw [nblk_setCell]; exact Nat.le_refl _, fun k _ hk => blk_setCell_other _ _ _ _ fun e => hk (e ▸ h)⟩
theorem Turn.setRow (F : Nat → Prop) (w : World) (g : Nat) (c : Array Value) (h : F g) : Turn F w (w.setRow g c) :=
  ⟨rfl, rfl, rfl, by rw [setRow_size]; exact Nat.le_refl _, fun k _ hk => setRow_other _ _ _ _ fun e => hk (e ▸ h)⟩
theorem Turn.drew {F : Nat → Prop} {w w' : World} (h : Turn F w w') : Turn F w w'.drew := ⟨h.os, h.tape, h.output, h.size, h.block⟩
theorem Turn.below {B : Nat} {F : Nat → Prop} {w0 w w' : World} (h : Turn F w w') (hb : Below B w0 w) (hF : ∀ x, F x → B ≤ x) (hB : B ≤ w.heap.size) : Below B w0 w' :=
  ⟨h.os.trans hb.os, h.tape.trans hb.tape, h.output.trans hb.output, Nat.le_trans hb.size h.size, fun k hk => (h.block k (by omega) fun hf => by have := hF k hf; omega).trans (hb.block k hk)⟩
/-- What is new, or was there. -/
def Out (F F' : Nat → Prop) (w : World) : Prop := ∀ x, F' x → F x ∨ w.heap.size ≤ x
theorem Out.refl (F : Nat → Prop) (w : World) : Out F F w := fun _ h => .inl h
theorem below_new (w : World) (o : Obj) : Below w.heap.size w (w.alloc o) := (Below.refl _ _).alloc (Nat.le_refl _) _
theorem Below.then {B : Nat} {a b c : World} (h : Below B a b) (k : Below b.heap.size b c) (hB : B ≤ b.heap.size) : Below B a c := h.trans (k.mono hB)
theorem below_drewN {B : Nat} {a w : World} (h : Below B a w) (n : Nat) : Below B a (w.drewN n) := ⟨h.os, h.tape, h.output, h.size, h.block⟩
theorem own_of_block {w w' : World} {B : Nat} {e : TypeId} {k : Nat} {v : Value} {n : Nat} {xs : List Value} (h : w.ownsRow B e k v n xs) (q : ∀ g, v.ownBlock = some g → w'.heap[g]? = w.heap[g]?) : w'.ownsRow B e k v n xs := by
  refine ⟨h.1, ?_⟩
  rcases h.2 with hn | ⟨g, cap, cur, rfl, hb, hg, r⟩
  · exact .inl hn
  · exact .inr ⟨g, cap, cur, rfl, hb, (q g rfl).trans hg, r⟩
theorem own_low {w : World} {B : Nat} {e : TypeId} {k : Nat} {v : Value} {n : Nat} {xs : List Value} (h : w.ownsRow B e k v n xs) : w.ownsRow 0 e k v n xs := by
  refine ⟨h.1, ?_⟩
  rcases h.2 with hn | ⟨g, cap, cur, rfl, _, r⟩
  · exact .inl hn
  · exact .inr ⟨g, cap, cur, rfl, Nat.zero_le _, r⟩
theorem add_none (b o j : Nat) : (⟨b, o, none⟩ : Addr).add j = ⟨b, o + j, none⟩ := by unfold Addr.add; split <;> simp_all
theorem cell_al {w : World} {a : Addr} {v : Value} (h : w.cell? a = some v) (o : Obj) : (w.alloc o).cell? a = some v := Lib.cell?_alloc_some _ h

/-! ### Things, each in blocks of its own -/
structure Th where
  F : Nat → Prop
  H : World → Prop
  lt : ∀ w, H w → ∀ x, F x → x < w.heap.size
  keep : ∀ w w', H w → (∀ x, F x → w'.heap[x]? = w.heap[x]?) → H w'
theorem Th.turn (t : Th) {G : Nat → Prop} {w w' : World} (h : t.H w) (u : Turn G w w') (a : ∀ x, t.F x → ¬ G x) : t.H w' := t.keep w w' h fun x hx => u.block x (t.lt w h x hx) (a x hx)
theorem Th.below (t : Th) {w w' : World} (h : t.H w) (u : Below w.heap.size w w') : t.H w' := t.keep w w' h fun x hx => u.block x (t.lt w h x hx)
/-- From block r on all is the call's own: the things R, none in another one's blocks. -/
structure Sep (w0 : World) (r : Nat) (w : World) (R : List Th) : Prop where
  low : Below r w0 w
  size : r ≤ w.heap.size
  each : ∀ t ∈ R, t.H w ∧ ∀ x, t.F x → r ≤ x
  apart : R.Pairwise (fun a b => ∀ x, a.F x → ¬ b.F x)
section
variable {w0 : World} {r : Nat} {w w' : World} {t t' u : Th} {R R' : List Th}
theorem Sep.turn (h : Sep w0 r w (t :: R)) (ht : t'.H w') (k : Turn t.F w w') (o : Out t.F t'.F w) : Sep w0 r w' (t' :: R) := by
  obtain ⟨hl, hs, he, ha⟩ := h
  obtain ⟨a1, a2⟩ := List.pairwise_cons.1 ha
  have h0 := he t (by simp)
  refine ⟨k.below hl h0.2 hs, Nat.le_trans hs k.size, fun x hx => ?_, List.pairwise_cons.2 ⟨fun b hb x hx hb' => ?_, a2⟩⟩
  · rcases List.mem_cons.1 hx with rfl | hx
    · exact ⟨ht, fun y hy => (o y hy).elim (h0.2 y) fun h1 => Nat.le_trans hs h1⟩
    · have h1 := he x (List.mem_cons_of_mem _ hx)
      exact ⟨x.turn h1.1 k fun y hy hy' => a1 x hx y hy' hy, h1.2⟩
  · rcases o x hx with h1 | h1
    · exact a1 b hb x h1 hb'
    · have := b.lt w (he b (List.mem_cons_of_mem _ hb)).1 x hb'
      omega
theorem Sep.below (h : Sep w0 r w R) (k : Below w.heap.size w w') : Sep w0 r w' R :=
  ⟨Below.then h.low k h.size, Nat.le_trans h.size k.size, fun x hx => ⟨x.below (h.each x hx).1 k, (h.each x hx).2⟩, h.apart⟩
theorem Sep.new (h : Sep w0 r w R) (ht : t.H w') (k : Below w.heap.size w w') (o : ∀ x, t.F x → w.heap.size ≤ x) : Sep w0 r w' (t :: R) := by
  have h1 := h.below k
  refine ⟨h1.low, h1.size, fun x hx => ?_, List.pairwise_cons.2 ⟨fun b hb x hx hb' => ?_, h.apart⟩⟩
  · rcases List.mem_cons.1 hx with rfl | hx
    · exact ⟨ht, fun y hy => Nat.le_trans h.size (o y hy)⟩
    · exact h1.each x hx
  · have := b.lt w (h.each b hb).1 x hb'
    have := o x hx
    omega
theorem Sep.perm (h : Sep w0 r w R) (p : R.Perm R') : Sep w0 r w R' :=
  ⟨h.low, h.size, fun x hx => h.each x (p.mem_iff.2 hx), (p.pairwise_iff fun k x h1 h2 => k x h2 h1).1 h.apart⟩
theorem Sep.swap (h : Sep w0 r w (t :: u :: R)) : Sep w0 r w (u :: t :: R) := h.perm (List.Perm.swap _ _ _)
theorem Sep.third {s : Th} (h : Sep w0 r w (s :: t :: u :: R)) : Sep w0 r w (t :: u :: s :: R) := h.swap.perm (.cons _ (.swap _ _ _))
theorem Sep.drop (h : Sep w0 r w (t :: R)) : Sep w0 r w R := ⟨h.low, h.size, fun x hx => h.each x (List.mem_cons_of_mem _ hx), (List.pairwise_cons.1 h.apart).2⟩
theorem Sep.drop2 (h : Sep w0 r w (t :: u :: R)) : Sep w0 r w (t :: R) := h.swap.drop
theorem Sep.head (h : Sep w0 r w (t :: R)) : t.H w := (h.each t (by simp)).1
theorem Sep.told (h : Sep w0 r w (t :: R)) (hu : u.H w') (k : Below w.heap.size w w') (o : ∀ x, u.F x → w.heap.size ≤ x) : Sep w0 r w' (t :: u :: R) := (h.new hu k o).swap
theorem Sep.drew (h : Sep w0 r w R) : Sep w0 r w.drew R := h.below ((Below.refl _ _).drew)
theorem Sep.drewN (h : Sep w0 r w R) (n : Nat) : Sep w0 r (w.drewN n) R := h.below (below_drewN (Below.refl _ _) n)
end
theorem sep_nil (w : World) : Sep w w.heap.size w [] := ⟨Below.refl _ _, Nat.le_refl _, fun x hx => by simp at hx, List.Pairwise.nil⟩
/-- A block. -/
def blk (q : Nat) (o : Obj) : Th where
  F := fun x => x = q
  H := fun w => w.heap[q]? = some o
  lt := fun w h x hx => by subst hx; exact (Array.getElem?_eq_some_iff.1 h).1
  keep := fun w w' h k => (k q rfl).trans h
theorem Sep.box {w0 : World} {r : Nat} {w : World} {R : List Th} (h : Sep w0 r w R) (o : Obj) : Sep w0 r (w.alloc o) (blk w.heap.size o :: R) :=
  h.new (blk_alloc_new w o) (below_new w o) fun x hx => by rw [hx]; exact Nat.le_refl _

/-! ### Rows of elements of k cells each -/
section
variable {α : Type} {k : Nat} (enc : α → List Value)
def flatK (S : List α) : List Value := S.flatMap enc
variable {enc}
theorem flatK_len (hk : ∀ x, (enc x).length = k) : ∀ S : List α, (flatK enc S).length = S.length * k
  | [] => by simp [flatK]
  | x :: S => by
    have := flatK_len hk S
    unfold flatK at *
    rw [List.flatMap_cons, List.length_append, hk, this, List.length_cons, Nat.add_mul, Nat.one_mul, Nat.add_comm]
theorem flatK_app (S T : List α) : flatK enc (S ++ T) = flatK enc S ++ flatK enc T := by simp [flatK]
theorem flatK_cons (x : α) (T : List α) : flatK enc (x :: T) = enc x ++ flatK enc T := by simp [flatK]
theorem flatK_take (hk : ∀ x, (enc x).length = k) (S : List α) (n : Nat) : flatK enc (S.take n) = (flatK enc S).take (n * k) := by
  by_cases h : n ≤ S.length
  · have e : flatK enc S = flatK enc (S.take n) ++ flatK enc (S.drop n) := by rw [← flatK_app, List.take_append_drop]
    have hl := flatK_len hk (S.take n)
    rw [List.length_take, Nat.min_eq_left h] at hl
    rw [e, ← hl, List.take_left]
  · have hl := flatK_len hk S
    rw [List.take_of_length_le (by omega), List.take_of_length_le]
    rw [hl]
    exact Nat.mul_le_mul_right _ (by omega)
theorem flatK_drop (hk : ∀ x, (enc x).length = k) (S : List α) (n : Nat) : flatK enc (S.drop n) = (flatK enc S).drop (n * k) := by
  by_cases h : n ≤ S.length
  · have e : flatK enc S = flatK enc (S.take n) ++ flatK enc (S.drop n) := by rw [← flatK_app, List.take_append_drop]
    have hl := flatK_len hk (S.take n)
    rw [List.length_take, Nat.min_eq_left h] at hl
    rw [e, ← hl, List.drop_left]
  · have hl := flatK_len hk S
    rw [List.drop_of_length_le (by omega), List.drop_of_length_le]
    · rfl
    · rw [hl]
      exact Nat.mul_le_mul_right _ (by omega)
theorem flatK_get (hk : ∀ x, (enc x).length = k) {S : List α} {i : Nat} {x : α} (h : S[i]? = some x) {j : Nat} (hj : j < k) : (flatK enc S)[i * k + j]? = (enc x)[j]? := by
  have e := flatK_drop hk S i
  have hi := (List.getElem?_eq_some_iff.1 h).1
  have hx : S.drop i = x :: S.drop (i + 1) := by
    rw [List.drop_eq_getElem_cons hi]
    congr 1
    exact (List.getElem?_eq_some_iff.1 h).2
  rw [hx, flatK_cons] at e
  have := congrArg (fun l => l[j]?) e
  simp only [List.getElem?_drop] at this
  rw [← this, List.getElem?_append_left (by rw [hk]; exact hj)]
theorem flatK_one (h1 : ∀ x, ∀ v ∈ enc x, v.oneCell' = true) (S : List α) : ∀ v ∈ flatK enc S, v.oneCell' = true := by
  intro v hv
  obtain ⟨x, _, hx⟩ := List.mem_flatMap.1 hv
  exact h1 x v hx
theorem flatK_set (hk : ∀ x, (enc x).length = k) {S : List α} {i : Nat} (hi : i < S.length) (x : α) : flatK enc (S.set i x) = (flatK enc S).take (i * k) ++ enc x ++ (flatK enc S).drop ((i + 1) * k) := by
  rw [List.set_eq_take_append_cons_drop, if_pos hi, flatK_app, flatK_cons, flatK_take hk, flatK_drop hk, List.append_assoc]
end

/-! ### A row of ints -/
def cI (n : Int) : List Value := [.int .i64 n]
theorem cI_len (n : Int) : (cI n).length = 1 := rfl
theorem cI_one (n : Int) : ∀ v ∈ cI n, v.oneCell' = true := by simp [cI, Value.oneCell']
theorem flatI (L : List Int) : flatK cI L = L.map fun n => .int .i64 n := by
  unfold flatK cI
  induction L with
  | nil => rfl
  | cons a L ih => simp [ih]
/-- A slice value that owns the row of the ints L. -/
def RowI (w : World) (v : Value) (L : List Int) : Prop := w.ownsRow 0 3 1 v L.length (flatK cI L)
section
variable {w w' : World} {v : Value} {L : List Int}
theorem RowI.slice (h : RowI w v L) : ∃ ao cap, v = .slice ao L.length cap ∧ L.length ≤ cap ∧ cap ≤ 9223372036854775807 ∧ (∀ i, i < L.length → ∃ g, ao = some ⟨g, 0, none⟩) ∧ (ao = none → L = []) := by
  rcases h.2 with ⟨rfl, h0⟩ | ⟨g, cap, cur, rfl, _, _, h1, h2, _⟩
  · exact ⟨none, 0, by rw [h0], by omega, by omega, fun i hi => by omega, fun _ => List.length_eq_zero_iff.1 h0⟩
  · exact ⟨some ⟨g, 0, none⟩, cap, rfl, h1, by unfold maxLen at h2; omega, fun _ _ => ⟨g, rfl⟩, fun e => by cases e⟩
theorem RowI.cell {g cap n : Nat} (h : RowI w (.slice (some ⟨g, 0, none⟩) n cap) L) {i : Nat} {x : Int} (hi : L[i]? = some x) : w.cell? ⟨g, i, none⟩ = some (.int .i64 x) := by
  have hc := World.ownsRow.cells h (g := g) rfl
  have e0 := hc i (.int .i64 x) (by rw [flatI, List.getElem?_map, hi]; rfl)
  rw [add_none, Nat.zero_add] at e0
  exact e0
theorem RowI.frozen {g cap n : Nat} (h : RowI w (.slice (some ⟨g, 0, none⟩) n cap) L) (j : Nat) : w.frozen? ⟨g, j, none⟩ = false := by
  rcases h.2 with ⟨e, _⟩ | ⟨g', cap', cur, e, _, hg, _⟩
  · cases e
  · cases e
    simp [World.frozen?, hg]
theorem RowI.lt (h : RowI w v L) {x : Nat} (hx : v.ownBlock = some x) : x < w.heap.size := (World.ownsRow.lt h x hx).2
theorem RowI.keep (h : RowI w v L) (k : ∀ x, v.ownBlock = some x → w'.heap[x]? = w.heap[x]?) : RowI w' v L := own_of_block h k
theorem RowI.below (h : RowI w v L) (k : Below w.heap.size w w') : RowI w' v L := h.keep fun x hx => k.block x (h.lt hx)
theorem rowI_nil (w : World) : RowI w (.slice none 0 0) [] := ⟨rfl, .inl ⟨rfl, rfl⟩⟩
end
/-- A list of ints that is told, or made. -/
def lstI (v : Value) (L : List Int) : Th where
  F := fun x => v.ownBlock = some x
  H := fun w => RowI w v L
  lt := fun _ h _ hx => h.lt hx
  keep := fun _ _ h k => h.keep k
end Go.Proofs.YtchamgecalfmpaaDoor

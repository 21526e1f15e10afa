/-
  How things lie in the world, each in blocks of its own, and what stays while calls turn one of them; a row of elements of some cells each; a tree's row; no condition of ours.
-/
import Derived.Test.YthfoeppcageneaaRows
import Derived.Test.YthfoeppcageneaaTMore
import Derived.WalkKit
import Derived.WalkLawsBesides
import Derived.Deep.QuietTactic
import Derived.BigQuiet
import Derived.Laws.StructEq
import Derived.Below
import Derived.Deep.OwnRows
import Derived.Deep.RegionWith
import Derived.Deep.RegionHeld3
import Derived.Maps.AppendAt
import Derived.Laws.CopyOwn
import Derived.Lib.SliceRun
namespace Go.Proofs.Ythfoeppcageneaa
set_option linter.unusedSectionVars false
variable [DecidableEq Sl]
open Go.RowKit Go.Deep

/-! ### What stays -/
/-- Old blocks outside F, and the streams, are as they were. -/
structure Turn (F : Nat → Prop) (w w' : World) : Prop where
  os : w'.os = w.os
  tape : w'.tape = w.tape
  output : w'.output = w.output
  size : w.heap.size ≤ w'.heap.size
  block : ∀ k, k < w.heap.size → ¬ F k → w'.heap[k]? = w.heap[k]?
theorem Turn.refl (F : Nat → Prop) (w : World) : Turn F w w := ⟨rfl, rfl, rfl, Nat.le_refl _, fun _ _ _ => rfl⟩
theorem Turn.trans {F G : Nat → Prop} {a b c : World} (h : Turn F a b) (k : Turn G b c) (s : ∀ x, G x → F x ∨ a.heap.size ≤ x) : Turn F a c :=
  ⟨k.os.trans h.os, k.tape.trans h.tape, k.output.trans h.output, Nat.le_trans h.size k.size, fun i hi hF =>
    (k.block i (Nat.lt_of_lt_of_le hi h.size) fun hG => (s i hG).elim hF fun h1 => absurd hi (by omega)).trans (h.block i hi hF)⟩
theorem Turn.of {w w' : World} (h : Below w.heap.size w w') (F : Nat → Prop) : Turn F w w' := ⟨h.os, h.tape, h.output, h.size, fun k hk _ => h.block k hk⟩
theorem Turn.grown {w w' : World} {F : Nat → Prop} {r : Option Nat} (h : w.grownBy w' r) (hF : ∀ k, r = some k → F k ∨ w.heap.size ≤ k) : Turn F w w' :=
  ⟨h.os, h.tape, h.output, h.size, fun k hk hn => h.block k hk fun e => (hF k e.symm).elim hn fun h1 => absurd hk (by omega)⟩
theorem Turn.setCell (F : Nat → Prop) (w : World) (a : Addr) (v : Value) (h : F a.block) : Turn F w (w.setCell a v) :=
  ⟨rfl, rfl, rfl, by rw [nblk_setCell]; exact Nat.le_refl _, fun k _ hk => blk_setCell_other _ _ _ _ fun e => hk (e ▸ h)⟩
theorem Turn.setRow (F : Nat → Prop) (w : World) (g : Nat) (c : Array Value) (h : F g) : Turn F w (w.setRow g c) :=
  ⟨rfl, rfl, rfl, by rw [setRow_size]; exact Nat.le_refl _, fun k _ hk => setRow_other _ _ _ _ fun e => hk (e ▸ h)⟩
theorem Turn.drew {F : Nat → Prop} {w w' : World} (h : Turn F w w') : Turn F w w'.drew := ⟨h.os, h.tape, h.output, h.size, h.block⟩
theorem Turn.below {B : Nat} {F : Nat → Prop} {w0 w w' : World} (h : Turn F w w') (hb : Below B w0 w) (hF : ∀ x, F x → B ≤ x) (hB : B ≤ w.heap.size) : Below B w0 w' :=
  ⟨h.os.trans hb.os, h.tape.trans hb.tape, h.output.trans hb.output, Nat.le_trans hb.size h.size, fun k hk => (h.block k (by omega) fun hf => by have := hF k hf; omega).trans (hb.block k hk)⟩
/-- What is new, or was there. -/
def Out (F F' : Nat → Prop) (w : World) : Prop := ∀ x, F' x → F x ∨ w.heap.size ≤ x
theorem Out.refl (F : Nat → Prop) (w : World) : Out F F w := fun _ h => .inl h
theorem below_new (w : World) (o : Obj) : Below w.heap.size w (w.alloc o) := (Below.refl _ _).alloc (Nat.le_refl _) _
theorem Below.then {B : Nat} {a b c : World} (h : Below B a b) (k : Below b.heap.size b c) (hB : B ≤ b.heap.size) : Below B a c := h.trans (k.mono hB)
theorem below_drewN {B : Nat} {a w : World} (h : Below B a w) (n : Nat) : Below B a (w.drewN n) := ⟨h.os, h.tape, h.output, h.size, h.block⟩
theorem own_of_block {w w' : World} {B : Nat} {e : TypeId} {k : Nat} {v : Value} {n : Nat} {xs : List Value} (h : w.ownsRow B e k v n xs) (q : ∀ g, v.ownBlock = some g → w'.heap[g]? = w.heap[g]?) : w'.ownsRow B e k v n xs := by
  refine ⟨h.1, ?_⟩
  rcases h.2 with hn | ⟨g, cap, cur, rfl, hb, hg, r⟩
  · exact .inl hn
  · exact .inr ⟨g, cap, cur, rfl, hb, (q g rfl).trans hg, r⟩
theorem own_low {w : World} {B : Nat} {e : TypeId} {k : Nat} {v : Value} {n : Nat} {xs : List Value} (h : w.ownsRow B e k v n xs) : w.ownsRow 0 e k v n xs := by
  refine ⟨h.1, ?_⟩
  rcases h.2 with hn | ⟨g, cap, cur, rfl, _, r⟩
  · exact .inl hn
  · exact .inr ⟨g, cap, cur, rfl, Nat.zero_le _, r⟩
theorem add_none (b o j : Nat) : (⟨b, o, none⟩ : Addr).add j = ⟨b, o + j, none⟩ := by unfold Addr.add; split <;> simp_all
theorem cell_al {w : World} {a : Addr} {v : Value} (h : w.cell? a = some v) (o : Obj) : (w.alloc o).cell? a = some v := Lib.cell?_alloc_some _ h

/-! ### Things, each in blocks of its own -/
structure Th where
  F : Nat → Prop
  H : World → Prop
  lt : ∀ w, H w → ∀ x, F x → x < w.heap.size
  keep : ∀ w w', H w → (∀ x, F x → w'.heap[x]? = w.heap[x]?) → H w'
theorem Th.turn (t : Th) {G : Nat → Prop} {w w' : World} (h : t.H w) (u : Turn G w w') (a : ∀ x, t.F x → ¬ G x) : t.H w' := t.keep w w' h fun x hx => u.block x (t.lt w h x hx) (a x hx)
theorem Th.below (t : Th) {w w' : World} (h : t.H w) (u : Below w.heap.size w w') : t.H w' := t.keep w w' h fun x hx => u.block x (t.lt w h x hx)
/-- From block r on all is the call's own: the things R, none in another one's blocks. -/
structure Sep (w0 : World) (r : Nat) (w : World) (R : List Th) : Prop where
  low : Below r w0 w
  size : r ≤ w.heap.size
  each : ∀ t ∈ R, t.H w ∧ ∀ x, t.F x → r ≤ x
  apart : R.Pairwise (fun a b => ∀ x, a.F x → ¬ b.F x)
section
variable {w0 : World} {r : Nat} {w w' : World} {t t' u : Th} {R R' : List Th}
theorem Sep.turn (h : Sep w0 r w (t :: R)) (ht : t'.H w') (k : Turn t.F w w') (o : Out t.F t'.F w) : Sep w0 r w' (t' :: R) := by
  obtain ⟨hl, hs, he, ha⟩ := h
  obtain ⟨a1, a2⟩ := List.pairwise_cons.1 ha
  have h0 := he t (by simp)
  refine ⟨k.below hl h0.2 hs, Nat.le_trans hs k.size, fun x hx => ?_, List.pairwise_cons.2 ⟨fun b hb x hx hb' => ?_, a2⟩⟩
  · rcases List.mem_cons.1 hx with rfl | hx
    · exact ⟨ht, fun y hy => (o y hy).elim (h0.2 y) fun h1 => Nat.le_trans hs h1⟩
    · have h1 := he x (List.mem_cons_of_mem _ hx)
      exact ⟨x.turn h1.1 k fun y hy hy' => a1 x hx y hy' hy, h1.2⟩
  · rcases o x hx with h1 | h1
    · exact a1 b hb x h1 hb'
    · have := b.lt w (he b (List.mem_cons_of_mem _ hb)).1 x hb'
      omega
theorem Sep.below (h : Sep w0 r w R) (k : Below w.heap.size w w') : Sep w0 r w' R :=
  ⟨Below.then h.low k h.size, Nat.le_trans h.size k.size, fun x hx => ⟨x.below (h.each x hx).1 k, (h.each x hx).2⟩, h.apart⟩
theorem Sep.new (h : Sep w0 r w R) (ht : t.H w') (k : Below w.heap.size w w') (o : ∀ x, t.F x → w.heap.size ≤ x) : Sep w0 r w' (t :: R) := by
  have h1 := h.below k
  refine ⟨h1.low, h1.size, fun x hx => ?_, List.pairwise_cons.2 ⟨fun b hb x hx hb' => ?_, h.apart⟩⟩
  · rcases List.mem_cons.1 hx with rfl | hx
    · exact ⟨ht, fun y hy => Nat.le_trans h.size (o y hy)⟩
    · exact h1.each x hx
  · have := b.lt w (h.each b hb).1 x hb'
    have := o x hx
    omega
theorem Sep.perm (h : Sep w0 r w R) (p : R.Perm R') : Sep w0 r w R' :=
  ⟨h.low, h.size, fun x hx => h.each x (p.mem_iff.2 hx), (p.pairwise_iff fun k x h1 h2 => k x h2 h1).1 h.apart⟩
theorem Sep.swap (h : Sep w0 r w (t :: u :: R)) : Sep w0 r w (u :: t :: R) := h.perm (List.Perm.swap _ _ _)
theorem Sep.third {s : Th} (h : Sep w0 r w (s :: t :: u :: R)) : Sep w0 r w (t :: u :: s :: R) := h.swap.perm (.cons _ (.swap _ _ _))
theorem Sep.drop (h : Sep w0 r w (t :: R)) : Sep w0 r w R := ⟨h.low, h.size, fun x hx => h.each x (List.mem_cons_of_mem _ hx), (List.pairwise_cons.1 h.apart).2⟩
theorem Sep.drop2 (h : Sep w0 r w (t :: u :: R)) : Sep w0 r w (t :: R) := h.swap.drop
theorem Sep.head (h : Sep w0 r w (t :: R)) : t.H w := (h.each t (by simp)).1
theorem Sep.told (h : Sep w0 r w (t :: R)) (hu : u.H w') (k : Below w.heap.size w w') (o : ∀ x, u.F x → w.heap.size ≤ x) : Sep w0 r w' (t :: u :: R) := (h.new hu k o).swap
theorem Sep.drew (h : Sep w0 r w R) : Sep w0 r w.drew R := h.below ((Below.refl _ _).drew)
theorem Sep.drewN (h : Sep w0 r w R) (n : Nat) : Sep w0 r (w.drewN n) R := h.below (below_drewN (Below.refl _ _) n)
end
theorem sep_nil (w : World) : Sep w w.heap.size w [] := ⟨Below.refl _ _, Nat.le_refl _, fun x hx => by simp at hx, List.Pairwise.nil⟩
/-- A block. -/
def blk (q : Nat) (o : Obj) : Th where
  F := fun x => x = q
  H := fun w => w.heap[q]? = some o
  lt := fun w h x hx => by subst hx; exact (Array.getElem?_eq_some_iff.1 h).1
  keep := fun w w' h k => (k q rfl).trans h
theorem Sep.box {w0 : World} {r : Nat} {w : World} {R : List Th} (h : Sep w0 r w R) (o : Obj) : Sep w0 r (w.alloc o) (blk w.heap.size o :: R) :=
  h.new (blk_alloc_new w o) (below_new w o) fun x hx => by rw [hx]; exact Nat.le_refl _

/-! ### Rows of elements of k cells each -/
section
variable {α : Type} {k : Nat} (enc : α → List Value)
def flatK (S : List α) : List Value := S.flatMap enc
variable {enc}
theorem flatK_len (hk : ∀ x, (enc x).length = k) : ∀ S : List α, (flatK enc S).length = S.length * k
  | [] => by simp [flatK]
  | x :: S => by
    have := flatK_len hk S
    unfold flatK at *
    rw [List.flatMap_cons, List.length_append, hk, this, List.length_cons, Nat.add_mul, Nat.one_mul, Nat.add_comm]
theorem flatK_app (S T : List α) : flatK enc (S ++ T) = flatK enc S ++ flatK enc T := by simp [flatK]
theorem flatK_cons (x : α) (T : List α) : flatK enc (x :: T) = enc x ++ flatK enc T := by simp [flatK]
theorem flatK_take (hk : ∀ x, (enc x).length = k) (S : List α) (n : Nat) : flatK enc (S.take n) = (flatK enc S).take (n * k) := by
  by_cases h : n ≤ S.length
  · have e : flatK enc S = flatK enc (S.take n) ++ flatK enc (S.drop n) := by rw [← flatK_app, List.take_append_drop]
    have hl := flatK_len hk (S.take n)
    rw [List.length_take, Nat.min_eq_left h] at hl
    rw [e, ← hl, List.take_left]
  · have hl := flatK_len hk S
    rw [List.take_of_length_le (by omega), List.take_of_length_le]
    rw [hl]
    exact Nat.mul_le_mul_right _ (by omega)
theorem flatK_drop (hk : ∀ x, (enc x).length = k) (S : List α) (n : Nat) : flatK enc (S.drop n) = (flatK enc S).drop (n * k) := by
  by_cases h : n ≤ S.length
  · have e : flatK enc S = flatK enc (S.take n) ++ flatK enc (S.drop n) := by rw [← flatK_app, List.take_append_drop]
    have hl := flatK_len hk (S.take n)
    rw [List.length_take, Nat.min_eq_left h] at hl
    rw [e, ← hl, List.drop_left]
  · have hl := flatK_len hk S
    rw [List.drop_of_length_le (by omega), List.drop_of_length_le]
    · rfl
    · rw [hl]
      exact Nat.mul_le_mul_right _ (by omega)
theorem flatK_get (hk : ∀ x, (enc x).length = k) {S : List α} {i : Nat} {x : α} (h : S[i]? = some x) {j : Nat} (hj : j < k) : (flatK enc S)[i * k + j]? = (enc x)[j]? := by
  have e := flatK_drop hk S i
  have hi := (List.getElem?_eq_some_iff.1 h).1
  have hx : S.drop i = x :: S.drop (i + 1) := by
    rw [List.drop_eq_getElem_cons hi]
    congr 1
    exact (List.getElem?_eq_some_iff.1 h).2
  rw [hx, flatK_cons] at e
  have := congrArg (fun l => l[j]?) e
  simp only [List.getElem?_drop] at this
  rw [← this, List.getElem?_append_left (by rw [hk]; exact hj)]
theorem flatK_one (h1 : ∀ x, ∀ v ∈ enc x, v.oneCell' = true) (S : List α) : ∀ v ∈ flatK enc S, v.oneCell' = true := by
  intro v hv
  obtain ⟨x, _, hx⟩ := List.mem_flatMap.1 hv
  exact h1 x v hx
theorem flatK_set (hk : ∀ x, (enc x).length = k) {S : List α} {i : Nat} (hi : i < S.length) (x : α) : flatK enc (S.set i x) = (flatK enc S).take (i * k) ++ enc x ++ (flatK enc S).drop ((i + 1) * k) := by
  rw [List.set_eq_take_append_cons_drop, if_pos hi, flatK_app, flatK_cons, flatK_take hk, flatK_drop hk, List.append_assoc]
end

/-! ### A tree's row -/
def encS (s : Sl) : Value := .agg #[.int .i64 s.n, .int .i64 s.i]
def cS (s : Sl) : List Value := [.int .i64 s.n, .int .i64 s.i]
def objS (s : Sl) : Obj := .cells #[.int .i64 s.n, .int .i64 s.i] 31
def cE (e : En) : List Value := [.int .i64 e.s.n, .int .i64 e.s.i, .int .i64 e.d]
def objE (e : En) : Obj := .cells #[.int .i64 e.s.n, .int .i64 e.s.i, .int .i64 e.d] 53
theorem cS_len (s : Sl) : (cS s).length = 2 := rfl
theorem cE_len (s : En) : (cE s).length = 3 := rfl
theorem cS_one (s : Sl) : ∀ v ∈ cS s, v.oneCell' = true := by simp [cS, Value.oneCell']
theorem cE_one (s : En) : ∀ v ∈ cE s, v.oneCell' = true := by simp [cE, Value.oneCell']
/-- A slice value that owns the row of the entries S. -/
def RowE (w : World) (v : Value) (S : St) : Prop := w.ownsRow 0 53 3 v S.length (flatK cE S)
/-- A slice value that owns the row of the slots A. -/
def RowS (w : World) (v : Value) (A : List Sl) : Prop := w.ownsRow 0 31 2 v A.length (flatK cS A)
theorem RowE.slice {w : World} {v : Value} {S : St} (h : RowE w v S) : ∃ ao cap, v = .slice ao S.length cap ∧ S.length ≤ cap ∧ cap ≤ 9223372036854775807 ∧ (∀ i, i < S.length → ∃ g, ao = some ⟨g, 0, none⟩) := by
  rcases h.2 with ⟨rfl, h0⟩ | ⟨g, cap, cur, rfl, _, _, h1, h2, _⟩
  · exact ⟨none, 0, by rw [h0], by omega, by omega, fun i hi => by omega⟩
  · exact ⟨some ⟨g, 0, none⟩, cap, rfl, h1, by unfold maxLen at h2; omega, fun _ _ => ⟨g, rfl⟩⟩
theorem RowE.cells {w : World} {g cap n : Nat} {S : St} (h : RowE w (.slice (some ⟨g, 0, none⟩) n cap) S) {i : Nat} (hi : i < S.length) : w.cell? ⟨g, i * 3, none⟩ = some (.int .i64 (slt S i).n) ∧ w.cell? ⟨g, i * 3 + 1, none⟩ = some (.int .i64 (slt S i).i) ∧ w.cell? ⟨g, i * 3 + 2, none⟩ = some (.int .i64 (dep S i)) := by
  have hc := World.ownsRow.cells h (g := g) rfl
  have e := fun j hj => flatK_get cE_len (atE_some hi) (j := j) hj
  have e0 := hc (i * 3 + 0) _ (e 0 (by omega))
  have e1 := hc (i * 3 + 1) _ (e 1 (by omega))
  have e2 := hc (i * 3 + 2) _ (e 2 (by omega))
  rw [add_none] at e0 e1 e2
  simp only [Nat.zero_add, Nat.add_zero] at e0 e1 e2
  exact ⟨e0, e1, e2⟩
theorem RowE.frozen {w : World} {g cap n : Nat} {S : St} (h : RowE w (.slice (some ⟨g, 0, none⟩) n cap) S) (j : Nat) : w.frozen? ⟨g, j, none⟩ = false := by
  rcases h.2 with ⟨e, _⟩ | ⟨g', cap', cur, e, _, hg, _⟩
  · cases e
  · cases e
    simp [World.frozen?, hg]
theorem RowE.lt {w : World} {v : Value} {S : St} (h : RowE w v S) {x : Nat} (hx : v.ownBlock = some x) : x < w.heap.size := (World.ownsRow.lt h x hx).2
theorem RowS.slice {w : World} {v : Value} {A : List Sl} (h : RowS w v A) : ∃ ao cap, v = .slice ao A.length cap ∧ (∀ i, i < A.length → ∃ g, ao = some ⟨g, 0, none⟩) := by
  rcases h.2 with ⟨rfl, h0⟩ | ⟨g, cap, cur, rfl, _⟩
  · exact ⟨none, 0, by rw [h0], fun i hi => by omega⟩
  · exact ⟨some ⟨g, 0, none⟩, cap, rfl, fun _ _ => ⟨g, rfl⟩⟩
theorem RowS.cells {w : World} {g cap n : Nat} {A : List Sl} (h : RowS w (.slice (some ⟨g, 0, none⟩) n cap) A) {i : Nat} {s : Sl} (hi : A[i]? = some s) : w.cell? ⟨g, i * 2, none⟩ = some (.int .i64 s.n) ∧ w.cell? ⟨g, i * 2 + 1, none⟩ = some (.int .i64 s.i) := by
  have hc := World.ownsRow.cells h (g := g) rfl
  have e := fun j hj => flatK_get cS_len hi (j := j) hj
  have e0 := hc (i * 2 + 0) _ (e 0 (by omega))
  have e1 := hc (i * 2 + 1) _ (e 1 (by omega))
  rw [add_none] at e0 e1
  simp only [Nat.zero_add, Nat.add_zero] at e0 e1
  exact ⟨e0, e1⟩
/-- A list of slots that is told. -/
def lstS (v : Value) (A : List Sl) : Th where
  F := fun x => v.ownBlock = some x
  H := fun w => RowS w v A
  lt := fun _ h x hx => (World.ownsRow.lt h x hx).2
  keep := fun _ _ h k => own_of_block h fun g hg => k g hg
/-- A struct at block p that leads to the row v of the entries S. -/
structure TrH (p : Nat) (v : Value) (S : St) (w : World) : Prop where
  head : w.heap[p]? = some (.cells #[v] 50 (0, 0))
  row : RowE w v S
  ne : v.ownBlock ≠ some p
  good : Good S
def fpT (p : Nat) (v : Value) : Nat → Prop := fun x => x = p ∨ v.ownBlock = some x
def trT (p : Nat) (v : Value) (S : St) : Th where
  F := fpT p v
  H := TrH p v S
  lt := fun _ h x hx => hx.elim (fun e => by rw [e]; exact (Array.getElem?_eq_some_iff.1 h.head).1) fun e => h.row.lt e
  keep := fun _ _ h k => ⟨(k p (.inl rfl)).trans h.head, own_of_block h.row fun g hg => k g (.inr hg), h.ne, h.good⟩
theorem TrH.cell {p : Nat} {v : Value} {S : St} {w : World} (h : TrH p v S w) : w.cell? ⟨p, 0, none⟩ = some v := by simp [World.cell?, h.head]
theorem TrH.frozen {p : Nat} {v : Value} {S : St} {w : World} (h : TrH p v S w) (j : Nat) : w.frozen? ⟨p, j, none⟩ = false := by simp [World.frozen?, h.head]
theorem TrH.below {p : Nat} {v : Value} {S : St} {w w' : World} (h : TrH p v S w) (b : Below w.heap.size w w') : TrH p v S w' := (trT p v S).below h b
theorem TrH.lt {p : Nat} {v : Value} {S : St} {w : World} (h : TrH p v S w) : p < w.heap.size := (Array.getElem?_eq_some_iff.1 h.head).1
/-- What a call leaves: the tree T, in the same blocks or new ones; all other old ones are as they were. -/
def Goes (w : World) (p : Nat) (v : Value) (T : St) (w' : World) : Prop := ∃ v', TrH p v' T w' ∧ Turn (fpT p v) w w' ∧ Out (fpT p v) (fpT p v') w
theorem Goes.same {w w' : World} {p : Nat} {v : Value} {S : St} (h : TrH p v S w) (b : Below w.heap.size w w') : Goes w p v S w' := ⟨v, h.below b, Turn.of b _, Out.refl _ _⟩
theorem Goes.from {w0 w w' : World} {p : Nat} {v : Value} {S : St} (b : Below w0.heap.size w0 w) (h : Goes w p v S w') : Goes w0 p v S w' := by
  obtain ⟨v', h1, h2, h3⟩ := h
  exact ⟨v', h1, (Turn.of b _).trans h2 fun x hx => .inl hx, fun x hx => (h3 x hx).imp id fun e => Nat.le_trans b.size e⟩
theorem Sep.goes {w0 : World} {r : Nat} {w w' : World} {p : Nat} {v : Value} {S T : St} {R : List Th} (h : Sep w0 r w (trT p v S :: R)) (g : Goes w p v T w') : ∃ v', Sep w0 r w' (trT p v' T :: R) := by
  obtain ⟨v', h1, h2, h3⟩ := g
  exact ⟨v', h.turn (t' := trT p v' T) h1 h2 h3⟩
/-- Block q is the slot s. -/
def AtS (w : World) (q : Nat) (s : Sl) : Prop := w.heap[q]? = some (objS s)
theorem AtS.lt {w : World} {q : Nat} {s : Sl} (h : AtS w q s) : q < w.heap.size := (Array.getElem?_eq_some_iff.1 h).1
theorem AtS.new (w : World) (s : Sl) : AtS (w.alloc (objS s)) w.heap.size s := blk_alloc_new _ _
theorem AtS.below {w w' : World} {q : Nat} {s : Sl} (h : AtS w q s) (u : Below w.heap.size w w') : AtS w' q s := (u.block _ h.lt).trans h
theorem AtS.cells {w : World} {q : Nat} {s : Sl} (h : AtS w q s) : w.cell? ⟨q, 0, none⟩ = some (.int .i64 s.n) ∧ w.cell? ⟨q, 1, none⟩ = some (.int .i64 s.i) := by
  unfold AtS objS at h
  constructor <;> simp [World.cell?, h]
theorem two_new (w : World) (o o' : Obj) : Below w.heap.size w ((w.alloc o).alloc o') := Below.then (below_new w o) (below_new _ o') (by simp)
theorem box2 (w : World) (o o' : Obj) : ((w.alloc o).alloc o').heap[w.heap.size]? = some o ∧ ((w.alloc o).alloc o').heap[w.heap.size + 1]? = some o' ∧ ((w.alloc o).alloc o').heap.size = w.heap.size + 2 ∧ Below w.heap.size w ((w.alloc o).alloc o') := by
  refine ⟨?_, ?_, by simp, two_new w o o'⟩
  · rw [blk_alloc_lt _ _ _ (by simp)]
    exact blk_alloc_new _ _
  · have := blk_alloc_new (w.alloc o) o'
    simpa using this
theorem ret_bool {a b : Bool} (h : a = b) : Ending.returned (.bool a) = .returned (.bool b) := by rw [h]
theorem laidOut : laidOutB Try.prog = true := by kernel_rfl
end Go.Proofs.Ythfoeppcageneaa

/-
  What the words of a memory look like in the world: a row of words, a struct that leads to it, a list that is told, and what stays while calls write to one row alone; no condition of ours.
-/
import Derived.Test.YtkelblkegpmlpaaDoorRows
import Derived.WalkKit
import Derived.Laws.CopyOwn
import Derived.Laws.AppendOwnNone
import Derived.Lib.SliceRun
import Derived.Deep.OwnRows
import Derived.Deep.QuietTactic
import Derived.BigQuiet
import Derived.Deep.RegionWith
namespace Go.Proofs.YtkelblkegpmlpaaDoor
open Go.RowKit Go.Deep

/-- Words as cells. -/
def cells64 (L : List Int) : List Value := L.map (Value.int .u64)
theorem cells64_len (L : List Int) : (cells64 L).length = L.length := by simp [cells64]
theorem cells64_one (L : List Int) : ∀ v ∈ cells64 L, v.oneCell' = true := by
  intro v hv
  obtain ⟨x, _, rfl⟩ := List.mem_map.1 hv
  rfl
theorem cells64_get (L : List Int) (j : Nat) (h : j < L.length) : (cells64 L)[j]? = some (.int .u64 (L.getD j 0)) := by
  simp [cells64, h]
theorem cells64_splice (L cs : List Int) (o : Nat) : splice (cells64 L) o (cells64 cs) = cells64 (splice L o cs) := by
  simp [splice, cells64, List.map_take, List.map_drop]
theorem cells64_rep (n : Nat) (v : Int) : List.replicate n (Value.int .u64 v) = cells64 (List.replicate n v) := by simp [cells64]

/-- Block c is a row of the words L. -/
def Row (w : World) (c : Nat) (L : List Int) : Prop := w.heap[c]? = some (.cells (cells64 L).toArray 22 (0, 0))
theorem Row.cell {w : World} {c : Nat} {L : List Int} (h : Row w c L) {j : Nat} (hj : j < L.length) : w.cell? ⟨c, j, none⟩ = some (.int .u64 (L.getD j 0)) := by
  unfold Row at h
  simp only [World.cell?, h]
  simpa using cells64_get L j hj
theorem Row.frozen {w : World} {c : Nat} {L : List Int} (h : Row w c L) (j : Nat) : w.frozen? ⟨c, j, none⟩ = false := by
  unfold Row at h
  simp [World.frozen?, h]
theorem Row.lt {w : World} {c : Nat} {L : List Int} (h : Row w c L) : c < w.heap.size := (Array.getElem?_eq_some_iff.1 h).1
theorem Row.of_block {w w' : World} {c : Nat} {L : List Int} (h : Row w c L) (e : w'.heap[c]? = w.heap[c]?) : Row w' c L := e.trans h
theorem Row.alloc {w : World} {c : Nat} {L : List Int} (h : Row w c L) (o : Obj) : Row (w.alloc o) c L := h.of_block (blk_alloc_lt _ _ _ h.lt)
theorem Row.set {w : World} {c : Nat} {L : List Int} (h : Row w c L) (i : Nat) (v : Int) : Row (w.setCell ⟨c, i, none⟩ (.int .u64 v)) c (L.set i v) := by
  unfold Row at h ⊢
  simp only [World.setCell, Array.getElem?_modify, h, Option.map_some]
  simp [cells64, List.map_set]
theorem Row.setOther {w : World} {c : Nat} {L : List Int} (h : Row w c L) {a : Addr} (ha : c ≠ a.block) (v : Value) : Row (w.setCell a v) c L := h.of_block (blk_setCell_other _ _ _ _ ha)
theorem Row.made (w : World) (n : Nat) : Row (w.alloc (.cells (madeCells #[.int .u64 0] n) 22)) w.heap.size (List.replicate n 0) := by
  unfold Row
  rw [blk_alloc_new]
  congr 2
  apply Array.ext'
  apply List.ext_getElem
  · simp [size_madeCells, cells64]
  · intro i h1 h2
    simp [madeCells, cells64, Nat.mod_one]

/-- A memory: a struct of type t at block b, whose words L lie in block c. -/
structure Mem (t : TypeId) (w : World) (b c : Nat) (L : List Int) : Prop where
  head : w.heap[b]? = some (.cells #[.slice (some ⟨c, 0, none⟩) L.length L.length] t (0, 0))
  row : Row w c L
  ne : b ≠ c
theorem Mem.cell {t : TypeId} {w : World} {b c : Nat} {L : List Int} (h : Mem t w b c L) : w.cell? ⟨b, 0, none⟩ = some (.slice (some ⟨c, 0, none⟩) L.length L.length) := by
  simp [World.cell?, h.head]
theorem Mem.lt {t : TypeId} {w : World} {b c : Nat} {L : List Int} (h : Mem t w b c L) : b < w.heap.size := (Array.getElem?_eq_some_iff.1 h.head).1

/-- Old blocks but c, and the streams, are as they were. -/
structure Upto (c : Nat) (w w' : World) : Prop where
  os : w'.os = w.os
  tape : w'.tape = w.tape
  output : w'.output = w.output
  size : w.heap.size ≤ w'.heap.size
  block : ∀ k, k < w.heap.size → k ≠ c → w'.heap[k]? = w.heap[k]?
theorem Upto.refl (c : Nat) (w : World) : Upto c w w := ⟨rfl, rfl, rfl, Nat.le_refl _, fun _ _ _ => rfl⟩
theorem Upto.trans {c : Nat} {a b d : World} (h : Upto c a b) (k : Upto c b d) : Upto c a d :=
  ⟨k.os.trans h.os, k.tape.trans h.tape, k.output.trans h.output, Nat.le_trans h.size k.size, fun i hi hc => (k.block i (Nat.lt_of_lt_of_le hi h.size) hc).trans (h.block i hi hc)⟩
theorem Upto.of {w w' : World} (h : Below w.heap.size w w') (c : Nat) : Upto c w w' := ⟨h.os, h.tape, h.output, h.size, fun k hk _ => h.block k hk⟩
theorem Upto.drew {c : Nat} {w w' : World} (h : Upto c w w') : Upto c w w'.drew := ⟨h.os, h.tape, h.output, h.size, h.block⟩
theorem Upto.setCell {c : Nat} {w w' : World} (h : Upto c w w') (i : Nat) (v : Value) : Upto c w (w'.setCell ⟨c, i, none⟩ v) :=
  h.trans ⟨rfl, rfl, rfl, by rw [nblk_setCell]; exact Nat.le_refl _, fun k _ hc => blk_setCell_other _ _ _ _ hc⟩
/-- What a law keeps: below B all is as it was. -/
theorem Upto.below {B c : Nat} {w0 w w' : World} (h : Upto c w w') (hb : Below B w0 w) (hB : B ≤ w.heap.size) (hc : B ≤ c) : Below B w0 w' :=
  ⟨h.os.trans hb.os, h.tape.trans hb.tape, h.output.trans hb.output, Nat.le_trans hb.size h.size, fun k hk => (h.block k (by omega) (by omega)).trans (hb.block k hk)⟩
theorem Row.upto {w w' : World} {c c' : Nat} {L : List Int} (h : Row w c' L) (u : Upto c w w') (hc : c' ≠ c) : Row w' c' L := h.of_block (u.block _ h.lt hc)
theorem Mem.upto {t : TypeId} {w w' : World} {b c c' : Nat} {L : List Int} (h : Mem t w b c' L) (u : Upto c w w') (hb : b ≠ c) (hc : c' ≠ c) : Mem t w' b c' L :=
  ⟨(u.block _ h.lt hb).trans h.head, h.row.upto u hc, h.ne⟩
theorem Row.below {w w' : World} {c' : Nat} {L : List Int} (h : Row w c' L) (u : Below w.heap.size w w') : Row w' c' L := h.of_block (u.block _ h.lt)
theorem Mem.below {t : TypeId} {w w' : World} {b c' : Nat} {L : List Int} (h : Mem t w b c' L) (u : Below w.heap.size w w') : Mem t w' b c' L :=
  ⟨(u.block _ h.lt).trans h.head, h.row.below u, h.ne⟩
theorem Mem.set {t : TypeId} {w : World} {b c : Nat} {L : List Int} (h : Mem t w b c L) (i : Nat) (v : Int) : Mem t (w.setCell ⟨c, i, none⟩ (.int .u64 v)) b c (L.set i v) :=
  ⟨by rw [blk_setCell_other _ _ _ _ h.ne]; simpa using h.head, h.row.set i v, h.ne⟩
/-- A world whose row alone has turned. -/
theorem Mem.turn {t : TypeId} {w w' : World} {b c : Nat} {L L' : List Int} (h : Mem t w b c L) (u : Upto c w w') (r : Row w' c L') (e : L'.length = L.length) : Mem t w' b c L' :=
  ⟨by rw [u.block _ h.lt h.ne, e]; exact h.head, r, h.ne⟩

/-- A list that is told: its words L lie where it leads to. -/
def Told (w : World) (ao : Option Addr) (L : List Int) : Prop := L = [] ∨ ∃ b o, ao = some ⟨b, o, none⟩ ∧ b < w.heap.size ∧ ∀ j, j < L.length → w.cell? ⟨b, o + j, none⟩ = some (.int .u64 (L.getD j 0))
theorem Row.told {w : World} {c : Nat} {L : List Int} (h : Row w c L) : Told w (some ⟨c, 0, none⟩) L := .inr ⟨c, 0, rfl, h.lt, fun j hj => by simpa using h.cell hj⟩
theorem Told.below {w w' : World} {ao : Option Addr} {L : List Int} (h : Told w ao L) (u : Below w.heap.size w w') : Told w' ao L := by
  rcases h with h | ⟨b, o, e, hb, hc⟩
  · exact .inl h
  · exact .inr ⟨b, o, e, Nat.lt_of_lt_of_le hb u.size, fun j hj => (u.cell (p := ⟨b, o + j, none⟩) hb).trans (hc j hj)⟩

/-- The words of L from place 'at' on, n of them. -/
def wordsL (L : List Int) (a n : Nat) : List Int := (L.drop a).take n
theorem wordsL_len (L : List Int) (a n : Nat) (h : a + n ≤ L.length) : (wordsL L a n).length = n := by simp [wordsL]; omega
theorem wordsL_get (L : List Int) (a n j : Nat) (_h : a + n ≤ L.length) (hj : j < n) : (wordsL L a n).getD j 0 = L.getD (a + j) 0 := by
  simp [wordsL, List.getElem?_drop, hj]
/-- n words from place a on are v. -/
def fillL (L : List Int) (a n : Nat) (v : Int) : List Int := splice L a (List.replicate n v)
/-- n words from place t on are those from place f on. -/
def moveL (L : List Int) (t f n : Nat) : List Int := splice L t (wordsL L f n)
theorem fillL_len (L : List Int) (a n : Nat) (v : Int) (h : a + n ≤ L.length) : (fillL L a n v).length = L.length := length_splice _ _ _ (by simpa using h)
theorem moveL_len (L : List Int) (t f n : Nat) (h : t + n ≤ L.length) (hf : f + n ≤ L.length) : (moveL L t f n).length = L.length := length_splice _ _ _ (by rw [wordsL_len L f n hf]; exact h)
theorem splice_get (L cs : List Int) (o j : Nat) (h : o + cs.length ≤ L.length) : (splice L o cs).getD j 0 = if o ≤ j ∧ j < o + cs.length then cs.getD (j - o) 0 else L.getD j 0 := by
  simp only [splice, List.getD_eq_getElem?_getD]
  congr 1
  rw [List.getElem?_append, List.getElem?_append, List.length_take]
  have e : min o L.length = o := by omega
  rw [e]
  split
  · rw [if_neg (by omega), List.getElem?_take, if_pos (by omega)]
  · split
    · rw [if_pos (by omega)]
    · rw [if_neg (by omega), List.getElem?_drop]
      have e2 : o + cs.length + (j - o - cs.length) = j := by omega
      rw [e2]
theorem fillL_get (L : List Int) (a n j : Nat) (v : Int) (h : a + n ≤ L.length) : (fillL L a n v).getD j 0 = if a ≤ j ∧ j < a + n then v else L.getD j 0 := by
  rw [fillL, splice_get _ _ _ _ (by simpa using h)]
  simp only [List.length_replicate]
  split
  · rename_i hh
    have : j - a < n := by omega
    simp [this]
  · rfl
theorem moveL_get (L : List Int) (t f n j : Nat) (h : t + n ≤ L.length) (hf : f + n ≤ L.length) : (moveL L t f n).getD j 0 = if t ≤ j ∧ j < t + n then L.getD (f + (j - t)) 0 else L.getD j 0 := by
  have e := wordsL_len L f n hf
  rw [moveL, splice_get _ _ _ _ (by rw [e]; exact h), e]
  split
  · rename_i hh
    exact wordsL_get L f n _ hf (by omega)
  · rfl
theorem list_ext {A B : List Int} (e : A.length = B.length) (h : ∀ j, j < A.length → A.getD j 0 = B.getD j 0) : A = B := by
  apply List.ext_getElem e
  intro i h1 h2
  have := h i h1
  simpa [h1, h2] using this
end Go.Proofs.YtkelblkegpmlpaaDoor

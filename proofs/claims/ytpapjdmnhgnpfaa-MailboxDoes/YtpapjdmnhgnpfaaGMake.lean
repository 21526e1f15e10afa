/-
  What make lays: a row of elements of some cells each, all zero; no condition of ours but that it is short.
-/
import Derived.Test.YtpapjdmnhgnpfaaGRow
namespace Go.Proofs.Ytpapjdmnhgnpfaa
open Go.RowKit Go.Deep Go.Shelf
section
variable {α : Type} {E : El α} {w0 w : World} {r : Nat} {R : List Th}
theorem run_make_el (ok : El.Ok E) {z0 : Value} (hz : ∃ i, Try.prog.info? E.e = some i ∧ i.zero = some z0 ∧ i.size = E.k ∧ i.bytes = E.by') (n : Nat) (hn : n ≤ 1000) (W : World) :
    (Instr.makeSlice E.sl (.int .i64 (n : Int)) (.int .i64 (n : Int))).run Try.prog W = .ok (.slice (some ⟨W.heap.size, 0, none⟩) n n) (W.alloc (.cells (madeCells z0.cells (n * E.k)) E.e)) := by
  obtain ⟨i, hi, h1, h2, h3⟩ := hz
  have hs := ok.small
  have hb : E.by' * n ≤ 1000 * 1000 := Nat.mul_le_mul hs hn
  have hb' : (E.by' : Int) * (n : Int) ≤ 281474976710656 := by
    have h : ((E.by' * n : Nat) : Int) ≤ 1000000 := by omega
    rw [Int.natCast_mul] at h
    omega
  have h := run_make (P := Try.prog) W E.sl E.e i _ ok.hu hi h1 .i64 .i64 (n : Int) (n : Int) (by omega) (Int.le_refl _) (by rw [h3]; exact hb') (by omega)
  rw [h2] at h
  simpa using h
theorem made_flat (ok : El.Ok E) {zs : Array Value} {z : α} (hz : zs.toList = E.enc z) (n : Nat) : (madeCells zs (n * E.k)).toList = flatK E.enc (List.replicate n z) := by
  have hs : zs.size = E.k := by rw [← Array.length_toList, hz, ok.len]
  have hl : (flatK E.enc (List.replicate n z)).length = n * E.k := by rw [flatK_len ok.len, List.length_replicate]
  have hp := ok.pos
  apply List.ext_getElem?
  intro m
  by_cases hm : m < n * E.k
  · have hq : m / E.k < n := (Nat.div_lt_iff_lt_mul hp).2 hm
    have hr : m % E.k < E.k := Nat.mod_lt _ hp
    have e : m = m / E.k * E.k + m % E.k := by have := Nat.div_add_mod m E.k; rw [Nat.mul_comm] at this; omega
    have key := flatK_get ok.len (S := List.replicate n z) (i := m / E.k) (x := z) (by simp [hq]) hr
    rw [← e] at key
    rw [key, ← hz]
    have hr' : m % zs.size < zs.size := by rw [hs]; exact hr
    simp [madeCells, hm, hs, hr]
  · rw [List.getElem?_eq_none (by simpa [size_madeCells] using hm), List.getElem?_eq_none (by omega)]
theorem Sep.madeN (ok : El.Ok E) {zs : Array Value} {z : α} (hz : zs.toList = E.enc z) (h : Sep w0 r w R) (n : Nat) (hn : n ≤ 1000) : Sep w0 r (w.alloc (.cells (madeCells zs (n * E.k)) E.e)) (lst E (.slice (some ⟨w.heap.size, 0, none⟩) n n) (List.replicate n z) :: R) := by
  have := Sep.lit ok h (List.replicate n z) (by simpa using hn) _ (made_flat ok hz n)
  simpa using this
end
end Go.Proofs.Ytpapjdmnhgnpfaa

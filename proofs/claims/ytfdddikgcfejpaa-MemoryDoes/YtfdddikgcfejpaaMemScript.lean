/-
  A script of calls that came in, opened; one call of it on a memory and on the document's own answer; no condition of ours.
-/
import Derived.Test.YtfdddikgcfejpaaMemTwoW
namespace Go.Proofs.Ytfdddikgcfejpaa
open Go.ChangeShapes Go.WideShapes Go.ChangeAt Go.RowKit Go.Joins Go.Deep
/-- n calls of a script lie where the slice leads to. -/
def Script (w : World) (ao : Option Addr) (n : Nat) : Prop := n = 0 ∨ ∃ b o, ao = some ⟨b, o, none⟩ ∧ b < w.heap.size ∧ ∀ i, i < n → ∃ k a f m y : Int,
  w.cell? ⟨b, o + i * 5, none⟩ = some (.int .i64 k) ∧ w.cell? ⟨b, o + i * 5 + 1, none⟩ = some (.int .i64 a) ∧ w.cell? ⟨b, o + i * 5 + 2, none⟩ = some (.int .i64 f) ∧ w.cell? ⟨b, o + i * 5 + 3, none⟩ = some (.int .i64 m) ∧ w.cell? ⟨b, o + i * 5 + 4, none⟩ = some (.int .u64 y) ∧
  I64 k ∧ I64 a ∧ I64 f ∧ I64 m
section
variable {H : Type} {enc : TypeId × Value → H} {W : World} {r : Reach} {b0 : Nat} {held : Bool} {v : Value} {d : DataW H} {p : List MemPlace}
theorem open_ops (hv : Value.okWide Try.prog W r b0 22 v) (h : DataW.Trod enc Try.prog W 0 (fun _ => true) held 22 v d p) :
    ∃ (ao : Option Addr) (n cap : Nat), v = .slice ao n cap ∧ Script W ao n ∧ n ≤ 9223372036854775807 := by
  obtain ⟨a0, len0, cap0, rfl⟩ := okWide_slice Try.underlying22 hv
  obtain ⟨fuel, hf⟩ := h
  have c5 : Try.prog.cellsOf 32 = 5 := by kernel_rfl
  rcases open_slice Try.underlying22 hf with ⟨hcs, _⟩ | ⟨x, len, cap, m, n, D, Pl, hcs, _, hl, hm, hmm, _, hx⟩
  · simp [Value.cells] at hcs
    obtain ⟨rfl, rfl, rfl⟩ := hcs
    exact ⟨none, 0, 0, rfl, .inl rfl, by omega⟩
  · simp [Value.cells] at hcs
    obtain ⟨rfl, rfl, rfl⟩ := hcs
    refine ⟨some x, len0, cap0, rfl, ?_, by unfold maxLen at hm; omega⟩
    by_cases h0 : len0 = 0
    · exact .inl h0
    simp only [if_true] at hmm
    obtain ⟨b, off, spot⟩ := x
    have each : ∀ i, i < len0 → ∃ k a f m y : Int, W.cell? ((⟨b, off, spot⟩ : Addr).add (i * 5)) = some (.int .i64 k) ∧ W.cell? ((⟨b, off, spot⟩ : Addr).add (i * 5 + 1)) = some (.int .i64 a) ∧ W.cell? ((⟨b, off, spot⟩ : Addr).add (i * 5 + 2)) = some (.int .i64 f) ∧
        W.cell? ((⟨b, off, spot⟩ : Addr).add (i * 5 + 3)) = some (.int .i64 m) ∧ W.cell? ((⟨b, off, spot⟩ : Addr).add (i * 5 + 4)) = some (.int .u64 y) ∧ I64 k ∧ I64 a ∧ I64 f ∧ I64 m := by
      intro i hi
      obtain ⟨cs', h1, h2⟩ := hx i (by omega)
      rw [c5] at h1
      obtain ⟨_, hlen, hcell⟩ := World.cells?_some h1
      obtain ⟨k, a, f, m, y, rfl, q⟩ := op_cells h2
      have e0 := hcell 0 (by omega)
      have e1 := hcell 1 (by omega)
      have e2 := hcell 2 (by omega)
      have e3 := hcell 3 (by omega)
      have e4 := hcell 4 (by omega)
      rw [add_add] at e0 e1 e2 e3 e4
      exact ⟨k, a, f, m, y, by simpa using e0, by simpa using e1, by simpa using e2, by simpa using e3, by simpa using e4, q⟩
    obtain ⟨_, _, _, _, _, z0, _⟩ := each 0 (by omega)
    have hspot : spot = none := by simpa [Addr.add] using World.cell?_spot z0
    subst hspot
    have ea : ∀ j, (⟨b, off, none⟩ : Addr).add j = ⟨b, off + j, none⟩ := fun j => by unfold Addr.add; split <;> simp_all
    rw [ea] at z0
    refine .inr ⟨b, off, rfl, World.block_lt_of_cell? W _ z0, fun i hi => ?_⟩
    obtain ⟨k, a, f, m, y, e0, e1, e2, e3, e4, q⟩ := each i hi
    rw [ea] at e0 e1 e2 e3 e4
    exact ⟨k, a, f, m, y, e0, by simpa [Nat.add_assoc] using e1, by simpa [Nat.add_assoc] using e2, by simpa [Nat.add_assoc] using e3, by simpa [Nat.add_assoc] using e4, q⟩
end
theorem same_any (B b c b' c' : Nat) (L : List Int) (k a f n y : Int) (w : World) (h : Two B w b c b' c' L) (ha : I64 a) (hf : I64 f) :
    Calls Try.prog 13 #[.pointer (some ⟨b, 0, none⟩), .pointer (some ⟨b', 0, none⟩), .agg #[.int .i64 k, .int .i64 a, .int .i64 f, .int .i64 n, .int .u64 y]] w fun e w' => e = .returned (.bool true) ∧ Left2 B w w' b c b' c' L := by
  by_cases h0 : k = 0
  · subst h0; exact same_read B b c b' c' L a f n y w h ha.2
  by_cases h1 : k = 1
  · subst h1; exact same_write B b c b' c' L a f n y w h ha.2
  by_cases h2 : k = 2
  · subst h2; exact same_words B b c b' c' L a f n y w h ha.2
  by_cases h3 : k = 3
  · subst h3; exact same_fill B b c b' c' L a f n y w h ha.2
  by_cases h4 : k = 4
  · subst h4; exact same_move B b c b' c' L a f n y w h ha.2 hf.2
  exact same_rest B b c b' c' L k a f n y w h (by simpa using h0) (by simpa using h1) (by simpa using h2) (by simpa using h3) (by simpa using h4)
end Go.Proofs.Ytfdddikgcfejpaa

/-
  Rows of ints; no condition of ours.
-/
import Derived.Test.YtpapjdmnhgnpfaaGRow
namespace Go.Proofs.Ytpapjdmnhgnpfaa
open Go.RowKit Go.Deep Go.Shelf
/-! ### Ints -/
def cI (n : Int) : List Value := [.int .i64 n]
def elI : El Int := ⟨3, 48, 1, 8, cI⟩
theorem infoI : (Try.prog.info? 3).map (fun i => (i.zero, i.size, i.bytes)) = some (some (.int .i64 0), 1, 8) := by kernel_rfl
theorem okI : El.Ok elI := ⟨Try.underlying48, info_of infoI rfl, by decide, by decide, fun _ => rfl, by simp [elI, cI, Value.oneCell']⟩
abbrev lstI (v : Value) (L : List Int) : Th := lst elI v L
abbrev RowI (w : World) (v : Value) (L : List Int) : Prop := Row elI w v L
theorem RowI.cell {w : World} {g cap n : Nat} {L : List Int} (h : RowI w (.slice (some ⟨g, 0, none⟩) n cap) L) {i : Nat} {x : Int} (hi : L[i]? = some x) : w.cell? ⟨g, i, none⟩ = some (.int .i64 x) := by
  have := Row.cell okI h hi (j := 0) (c := .int .i64 x) rfl
  simpa [elI] using this
end Go.Proofs.Ytpapjdmnhgnpfaa

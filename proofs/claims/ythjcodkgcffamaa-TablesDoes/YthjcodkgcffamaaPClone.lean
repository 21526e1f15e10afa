/-
  A map that is copied: the library's maps.Clone at the numbers of this program; no condition of ours.
-/
import Derived.Test.YthjcodkgcffamaaPSort
namespace Go.Proofs.Ythjcodkgcffamaa
open Go.RowKit Go.Deep Go.MapKept Go.Maps Go.Shelf
def clone_ren : Go.Shelf.Ren := ⟨fun | 5 => 39 | 7 => 43 | n => n, fun | 23 => 59 | 25 => 3 | 3 => 31 | 4 => 4 | 20 => 20 | n => n, fun | n => n⟩
theorem clone_lays : Go.Proofs.SlLaysW.n5 Try.prog clone_ren := {
  mixed := by kernel_rfl
  f5 := ⟨Try.f39.name, by decide, Try.func39.trans (congrArg some (by kernel_rfl))⟩
  f7 := Try.func43.trans (congrArg some (by kernel_rfl))
  t4 := Try.underlying4
  a4 := Try.isAgg4
  z4 := Try.sizeOf4
  v4 := Try.zeroValue4
  t20 := Try.underlying20
  a20 := Try.isAgg20
  z20 := Try.sizeOf20
  v20 := Try.zeroValue20
  t23 := Try.underlying59
  a23 := Try.isAgg59
  z23 := Try.sizeOf59
  v23 := Try.zeroValue59 }
/-- A map that is copied. -/
theorem clone_call (m : Option Nat) (f : Int → Option Pg) (w : World) (h : MapAt w m f) :
    Calls Try.prog 39 #[.map m] w fun e w' => ∃ m', e = .returned (.map m') ∧ MapAt w' m' f ∧ (m' = none ↔ m = none) ∧ (∀ k, m' = some k → w.heap.size ≤ k) ∧ Below w.heap.size w w' := by
  rcases h with ⟨rfl, hn⟩ | ⟨b, rfl, es, clock, hb, r⟩
  · refine (AnyW.maps_Clone_nil clone_lays w).mono ?_
    rintro e w' ⟨rfl, rfl⟩
    exact ⟨none, rfl, .inl ⟨rfl, hn⟩, Iff.rfl, fun k hk => (by cases hk), Below.refl _ _⟩
  · refine (AnyW.maps_Clone clone_lays b es clock w hb).mono ?_
    rintro e w' ⟨rfl, rfl⟩
    refine ⟨_, rfl, .inr ⟨_, rfl, es, clock, blk_alloc_new _ _, r⟩, by simp, fun k hk => ?_, below_new _ _⟩
    cases hk
    exact Nat.le_refl _
end Go.Proofs.Ythjcodkgcffamaa

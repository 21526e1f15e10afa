/-
  What row of package untyped answers: so many places, one behind the other, in a list of its own; the conditions: no more than 64, and none beyond a word.
-/
import Derived.Test.YtkelblkegpmlpaaDoorUCheck
namespace Go.Proofs.YtkelblkegpmlpaaDoor
open Go.RowKit Go.Deep

theorem Told.setOther {w : World} {ao : Option Addr} {L : List Int} (h : Told w ao L) {p : Addr} (hp : ∀ x, ao = some x → x.block ≠ p.block) (v : Value) : Told (w.setCell p v) ao L := by
  rcases h with h | ⟨b, o, e, hb, hc⟩
  · exact .inl h
  · refine .inr ⟨b, o, e, by rw [nblk_setCell]; exact hb, fun j hj => ?_⟩
    have := blk_setCell_other w p v b (hp _ e)
    have k := hc j hj
    simp only [World.cell?] at k ⊢
    rw [this]
    exact k
theorem told_one (w : World) (x : Int) : Told (w.alloc (.cells #[.int .u64 x] 22)) (some ⟨w.heap.size, 0, none⟩) [x] := by
  refine .inr ⟨w.heap.size, 0, rfl, by simp, fun j hj => ?_⟩
  obtain rfl : j = 0 := by simpa using hj
  have := blk_alloc_new w (.cells #[.int .u64 x] 22)
  simp only [World.cell?, this]
  rfl
theorem append_one (B : Nat) (w0 w : World) (ty : TypeId) (v : Value) (A : List Int) (x : Int) (hown : Own B w v A) (hb : Below B w0 w) (hl : A.length ≤ 1000) (hB : B ≤ w.heap.size) :
    ∃ v' w', (Builtin.append_ #[27, 27] ty #[v, .slice (some ⟨w.heap.size, 0, none⟩) 1 1]).run Tryd.prog (w.alloc (.cells #[.int .u64 x] 22)) = .ok v' w' ∧ Own B w' v' (A ++ [x]) ∧ Below B w0 w' := by
  have o1 : Own B (w.alloc (.cells #[.int .u64 x] 22)) v A := World.ownsRow.alloc hown _
  obtain ⟨v', w', r1, r2, r3⟩ := append_words B _ ty v A [x] ⟨w.heap.size, 0, none⟩ 1 o1 (told_one w x) (by simp; omega) (by simp; omega)
  exact ⟨v', w', r1, r2, Below.grown (hb.alloc hB _) r3 (by simp; omega) fun k hk => (World.ownsRow.lt o1 k hk).1⟩
set_option maxHeartbeats 1000000 in
theorem row_any (a s : Int) (n : Nat) (w : World) (a0 : 0 ≤ a) (s0 : 0 ≤ s) (hn : n ≤ 64) (he : a + (n : Int) * s ≤ 9223372036854775807) :
    Calls Tryd.prog 21 #[.int .u64 a, .int .u64 s, .int .i64 n] w fun e w' => ∃ ao cap, e = .returned (.slice ao n cap) ∧ Told w' ao (runL a s n) ∧ (∀ x, ao = some x → w.heap.size ≤ x.block) ∧ Below w.heap.size w w' := by
  go_enter Tryd.func21, Tryd.ntmps21
  go_wp2
  go_loopw [0, 7, 9] (fun x l i wr => ∃ k : Nat, k ≤ n ∧ i = .int .i64 k ∧ x = .int .u64 (a + (k : Int) * s) ∧ Own w.heap.size wr l (runL a s k) ∧ Below w.heap.size w wr) (fun _ _ i _ => n - (intOf i).toNat)
  case atStart => exact ⟨0, Nat.zero_le _, rfl, by simp, ⟨rfl, .inl ⟨rfl, rfl⟩⟩, Below.refl _ _⟩
  case round =>
    obtain ⟨k, hk, rfl, rfl, ho, hb⟩ := hrel
    by_cases hlt : k < n
    · have e1 : a + ((k + 1 : Nat) : Int) * s = a + (k : Int) * s + s := by
        have : ((k + 1 : Nat) : Int) = (k : Int) + 1 := by omega
        rw [this, Int.add_mul]
        omega
      have m1 : ((k + 1 : Nat) : Int) * s ≤ (n : Int) * s := Int.mul_le_mul_of_nonneg_right (by omega) s0
      have m0 : 0 ≤ (k : Int) * s := Int.mul_nonneg (by omega) s0
      obtain ⟨v', w', hrun, ho', hb'⟩ := append_one w.heap.size w _ 27 _ (runL a s k) (a + (k : Int) * s) ho hb (by rw [runL_len]; omega) hb.size
      rw [← runL_succ] at ho'
      have HRun : Hid _ := hrun
      have HD : Hid (a + ((k + 1 : Nat) : Int) * s = a + (k : Int) * s + s ∧ Own w.heap.size w' v' (runL a s (k + 1)) ∧ Below w.heap.size w w') := ⟨e1, ho', hb'⟩
      have hx : a + (k : Int) * s + s ≤ 9223372036854775807 := by omega
      have hx0 : 0 ≤ a + (k : Int) * s := by omega
      generalize a + (k : Int) * s = x at *
      clear hrun ho' hb' m1 m0 ho hb e1 he
      go_wp2_with (at_builtin; refine wpList_append_words rfl (.tmp 11) (.tmp 13) rfl _ _ v' w' rfl rfl (by exact HRun.out) ?_)
      go_roundw
      case rel => exact ⟨k + 1, by omega, by go_num, by rw [HD.out.1], HD.out.2⟩
      case measure => simp [intOf]; omega
    · obtain rfl : k = n := by omega
      obtain ⟨ao, cap, rfl, ht, hx⟩ := ho.told
      rw [runL_len]
      go_wp2
      go_ret
      exact ⟨ao, cap, rfl, ht, hx, hb⟩
end Go.Proofs.YtkelblkegpmlpaaDoor

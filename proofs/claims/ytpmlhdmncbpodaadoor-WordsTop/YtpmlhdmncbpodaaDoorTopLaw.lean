/-
  The statement WordsTop: for every four words and every number the law returns true and what was handed in reads as it did; the table of widths lies as the program's text lays it, and the card ties that to the text.
-/
import Derived.Test.YtpmlhdmncbpodaaDoorKeep
import Derived.Test.YtpmlhdmncbpodaaDoorMore
import Derived.Test.YtpmlhdmncbpodaaDoorTopMath
import Derived.Test.YtpmlhdmncbpodaaDoorFrame
import Derived.Deep.RegionHeld3
namespace Go.Proofs.YtpmlhdmncbpodaaDoor.wordsTop
open Go.RowKit

/-- What the law's calls answer. -/
structure Calls9 (b0 b1 b2 b3 c0 c1 c2 c3 d0 d1 d2 d3 t k m s : Int) (fb fc fd : Int → Bool) : Prop where
  topB : ∀ w, Tab w → Calls Tryd.prog 22 #[.agg #[.int .u64 b0, .int .u64 b1, .int .u64 b2, .int .u64 b3]] w fun e w' => e = .returned (.int .i64 t) ∧ Below w.heap.size w w'
  topC : ∀ w, Tab w → Calls Tryd.prog 22 #[.agg #[.int .u64 c0, .int .u64 c1, .int .u64 c2, .int .u64 c3]] w fun e w' => e = .returned (.int .i64 m) ∧ Below w.heap.size w w'
  topD : ∀ w, Tab w → Calls Tryd.prog 22 #[.agg #[.int .u64 d0, .int .u64 d1, .int .u64 d2, .int .u64 d3]] w fun e w' => e = .returned (.int .i64 s) ∧ Below w.heap.size w w'
  hasB : ∀ i w, Calls Tryd.prog 20 #[.agg #[.int .u64 b0, .int .u64 b1, .int .u64 b2, .int .u64 b3], .int .i64 i] w fun e w' => e = .returned (.bool (fb i)) ∧ Below w.heap.size w w'
  hasC : ∀ i w, Calls Tryd.prog 20 #[.agg #[.int .u64 c0, .int .u64 c1, .int .u64 c2, .int .u64 c3], .int .i64 i] w fun e w' => e = .returned (.bool (fc i)) ∧ Below w.heap.size w w'
  hasD : ∀ i w, Calls Tryd.prog 20 #[.agg #[.int .u64 d0, .int .u64 d1, .int .u64 d2, .int .u64 d3], .int .i64 i] w fun e w' => e = .returned (.bool (fd i)) ∧ Below w.heap.size w w'
  setC : ∀ w, Calls Tryd.prog 18 #[.agg #[.int .u64 b0, .int .u64 b1, .int .u64 b2, .int .u64 b3], .int .i64 k, .bool true] w fun e w' => e = .returned (.tuple #[.agg #[.int .u64 c0, .int .u64 c1, .int .u64 c2, .int .u64 c3], .int .i64 0]) ∧ Below w.heap.size w w'
  setD : ∀ w, Calls Tryd.prog 18 #[.agg #[.int .u64 b0, .int .u64 b1, .int .u64 b2, .int .u64 b3], .int .i64 k, .bool false] w fun e w' => e = .returned (.tuple #[.agg #[.int .u64 d0, .int .u64 d1, .int .u64 d2, .int .u64 d3], .int .i64 0]) ∧ Below w.heap.size w w'
  at_t : 0 ≤ t → fb t = true
  above : ∀ i, t < i → i < 256 → fb i = false
  at_c : fc k = true
  at_d : fd k = false
  rest_c : ∀ i, 0 ≤ i → i < 256 → i ≠ k → fc i = fb i
  rest_d : ∀ i, 0 ≤ i → i < 256 → i ≠ k → fd i = fb i
set_option maxRecDepth 100000 in
set_option maxHeartbeats 4000000 in
theorem walk_none (b0 b1 b2 b3 c0 c1 c2 c3 d0 d1 d2 d3 n  k s : Int) (fb fc fd : Int → Bool) (w : World) (ht : Tab w) (hk : bits BinOp.and IntKind.i64 n 255 = k) (k0 : 0 ≤ k) (k1 : k ≤ 255) 
    (H : Calls9 b0 b1 b2 b3 c0 c1 c2 c3 d0 d1 d2 d3 (-1) k k s fb fc fd) :
    Calls Tryd.prog 7 #[.agg #[.int .u64 b0, .int .u64 b1, .int .u64 b2, .int .u64 b3], .int .i64 n] w fun e w' => e = .returned (.bool true) ∧ Below w.heap.size w w' := by
  go_enter Tryd.func7, Tryd.ntmps7
  go_wp2_with fail
  have kw : Ok w (w.alloc (Obj.cells #[Value.int IntKind.u64 b0, Value.int IntKind.u64 b1, Value.int IntKind.u64 b2, Value.int IntKind.u64 b3] 35)) := ⟨ht.below (below_new _ _), below_new _ _⟩
  obtain ⟨x0, x1, x2, x3⟩ := cells_new w (.int .u64 b0) (.int .u64 b1) (.int .u64 b2) (.int .u64 b3) 35
  refine (H.topB _ kw.tab).mono ?_
  rintro e u ⟨rfl, hb⟩
  replace kw := kw.keep hb
  replace x0 := keepCell hb x0
  replace x1 := keepCell hb x1
  replace x2 := keepCell hb x2
  replace x3 := keepCell hb x3
  clear hb ht
  go_wp2_with fail
  go_loopw [6] (fun i wr => ∃ j : Int, 0 ≤ j ∧ j ≤ 256 ∧ i = .int .i64 j ∧ Ok w wr ∧ wr.cell? ⟨w.heap.size, 0, none⟩ = some (.int .u64 b0) ∧ wr.cell? ⟨w.heap.size, 1, none⟩ = some (.int .u64 b1) ∧ wr.cell? ⟨w.heap.size, 2, none⟩ = some (.int .u64 b2) ∧ wr.cell? ⟨w.heap.size, 3, none⟩ = some (.int .u64 b3)) (fun i _ => (256 - intOf i).toNat)
  case atStart => exact ⟨0, by omega, by omega, rfl, kw, x0, x1, x2, x3⟩
  case round =>
    clear x0 x1 x2 x3 kw
    obtain ⟨j, j0, j1, rfl, kw, y0, y1, y2, y3⟩ := hrel
    by_cases hlt : j < 256
    · have hf : Hid (fb j = false) := H.above j (by omega) hlt
      go_wp2_with fail
      refine (H.hasB _ _).mono ?_
      rintro e v ⟨rfl, hb⟩
      rw [hf.out]
      replace kw := kw.keep hb
      replace y0 := keepCell hb y0
      replace y1 := keepCell hb y1
      replace y2 := keepCell hb y2
      replace y3 := keepCell hb y3
      clear hb
      go_wp2_with fail
      go_roundw
      case rel => exact ⟨j + 1, by omega, by omega, rfl, kw, y0, y1, y2, y3⟩
      case measure => simp [intOf]; omega
    · have j2 : 256 ≤ j := by omega
      clear hlt
      go_wp2_with fail
      refine (H.setC _).mono ?_
      rintro e u2 ⟨rfl, hb⟩
      replace kw := kw.keep hb
      replace y0 := keepCell hb y0
      replace y1 := keepCell hb y1
      replace y2 := keepCell hb y2
      replace y3 := keepCell hb y3
      clear hb
      have z2 : w.heap.size < u2.heap.size := World.block_lt_of_cell? u2 _ y0
      go_wp2_with fail
      have n2 := below_new u2 (Obj.cells #[Value.int IntKind.u64 c0, Value.int IntKind.u64 c1, Value.int IntKind.u64 c2, Value.int IntKind.u64 c3] 35)
      obtain ⟨g0, g1, g2, g3⟩ := cells_new u2 (.int .u64 c0) (.int .u64 c1) (.int .u64 c2) (.int .u64 c3) 35
      replace kw := kw.keep n2
      replace y0 := keepCell n2 y0
      replace y1 := keepCell n2 y1
      replace y2 := keepCell n2 y2
      replace y3 := keepCell n2 y3
      clear n2
      refine (H.setD _).mono ?_
      rintro e u3 ⟨rfl, hb⟩
      replace kw := kw.keep hb
      replace y0 := keepCell hb y0
      replace y1 := keepCell hb y1
      replace y2 := keepCell hb y2
      replace y3 := keepCell hb y3
      replace g0 := keepCell hb g0
      replace g1 := keepCell hb g1
      replace g2 := keepCell hb g2
      replace g3 := keepCell hb g3
      clear hb
      have z3 : u2.heap.size < u3.heap.size := World.block_lt_of_cell? u3 _ g0
      go_wp2_with fail
      have n3 := below_new u3 (Obj.cells #[Value.int IntKind.u64 d0, Value.int IntKind.u64 d1, Value.int IntKind.u64 d2, Value.int IntKind.u64 d3] 35)
      obtain ⟨o0, o1, o2, o3⟩ := cells_new u3 (.int .u64 d0) (.int .u64 d1) (.int .u64 d2) (.int .u64 d3) 35
      replace kw := kw.keep n3
      replace y0 := keepCell n3 y0
      replace y1 := keepCell n3 y1
      replace y2 := keepCell n3 y2
      replace y3 := keepCell n3 y3
      replace g0 := keepCell n3 g0
      replace g1 := keepCell n3 g1
      replace g2 := keepCell n3 g2
      replace g3 := keepCell n3 g3
      clear n3
      refine (H.hasC _ _).mono ?_
      rintro e v1 ⟨rfl, hb⟩
      rw [H.at_c]
      replace kw := kw.keep hb
      replace y0 := keepCell hb y0
      replace y1 := keepCell hb y1
      replace y2 := keepCell hb y2
      replace y3 := keepCell hb y3
      replace g0 := keepCell hb g0
      replace g1 := keepCell hb g1
      replace g2 := keepCell hb g2
      replace g3 := keepCell hb g3
      replace o0 := keepCell hb o0
      replace o1 := keepCell hb o1
      replace o2 := keepCell hb o2
      replace o3 := keepCell hb o3
      clear hb
      go_wp2_with fail
      refine (H.hasD _ _).mono ?_
      rintro e v2 ⟨rfl, hb⟩
      rw [H.at_d]
      replace kw := kw.keep hb
      replace y0 := keepCell hb y0
      replace y1 := keepCell hb y1
      replace y2 := keepCell hb y2
      replace y3 := keepCell hb y3
      replace g0 := keepCell hb g0
      replace g1 := keepCell hb g1
      replace g2 := keepCell hb g2
      replace g3 := keepCell hb g3
      replace o0 := keepCell hb o0
      replace o1 := keepCell hb o1
      replace o2 := keepCell hb o2
      replace o3 := keepCell hb o3
      clear hb
      go_wp2_with fail
      refine (H.topC _ kw.tab).mono ?_
      rintro e v3 ⟨rfl, hb⟩
      replace kw := kw.keep hb
      replace y0 := keepCell hb y0
      replace y1 := keepCell hb y1
      replace y2 := keepCell hb y2
      replace y3 := keepCell hb y3
      replace g0 := keepCell hb g0
      replace g1 := keepCell hb g1
      replace g2 := keepCell hb g2
      replace g3 := keepCell hb g3
      replace o0 := keepCell hb o0
      replace o1 := keepCell hb o1
      replace o2 := keepCell hb o2
      replace o3 := keepCell hb o3
      clear hb
      go_wp2_with fail
      clear z2 z3 j2 j0 j1
      go_loopw [12] (fun l wr => ∃ i : Int, 0 ≤ i ∧ i ≤ 256 ∧ l = .int .i64 i ∧ Ok w wr ∧ wr.cell? ⟨w.heap.size, 0, none⟩ = some (.int .u64 b0) ∧ wr.cell? ⟨w.heap.size, 1, none⟩ = some (.int .u64 b1) ∧ wr.cell? ⟨w.heap.size, 2, none⟩ = some (.int .u64 b2) ∧ wr.cell? ⟨w.heap.size, 3, none⟩ = some (.int .u64 b3) ∧ wr.cell? ⟨u2.heap.size, 0, none⟩ = some (.int .u64 c0) ∧ wr.cell? ⟨u2.heap.size, 1, none⟩ = some (.int .u64 c1) ∧ wr.cell? ⟨u2.heap.size, 2, none⟩ = some (.int .u64 c2) ∧ wr.cell? ⟨u2.heap.size, 3, none⟩ = some (.int .u64 c3) ∧ wr.cell? ⟨u3.heap.size, 0, none⟩ = some (.int .u64 d0) ∧ wr.cell? ⟨u3.heap.size, 1, none⟩ = some (.int .u64 d1) ∧ wr.cell? ⟨u3.heap.size, 2, none⟩ = some (.int .u64 d2) ∧ wr.cell? ⟨u3.heap.size, 3, none⟩ = some (.int .u64 d3)) (fun l _ => (256 - intOf l).toNat)
      case atStart => exact ⟨0, by omega, by omega, rfl, kw, y0, y1, y2, y3, g0, g1, g2, g3, o0, o1, o2, o3⟩
      case round =>
        clear kw y0 y1 y2 y3 g0 g1 g2 g3 o0 o1 o2 o3
        obtain ⟨i, i0, i1, rfl, kw, y0, y1, y2, y3, g0, g1, g2, g3, o0, o1, o2, o3⟩ := hrel
        by_cases hlt : i < 256
        · by_cases e : i = k
          · have e1 : (i != k) = false := by simp [e]
            have E : Hid (i = k) := e
            clear e
            go_wp2_with fail
            go_quiet (fail)
            go_wp2_with fail
            go_roundw
            case rel =>
              have bq : Below _ _ _ := below_drewN (Below.refl wr.heap.size wr) nq
              exact ⟨i + 1, by omega, by omega, rfl, kw.keep bq, keepCell bq y0, keepCell bq y1, keepCell bq y2, keepCell bq y3, keepCell bq g0, keepCell bq g1, keepCell bq g2, keepCell bq g3, keepCell bq o0, keepCell bq o1, keepCell bq o2, keepCell bq o3⟩
            case measure => simp [intOf]; omega
          · have e1 : (i != k) = true := by simp [e]
            obtain ⟨z, hz⟩ : ∃ z, z = fb i := ⟨_, rfl⟩
            have hB : Hid (∀ w, Calls Tryd.prog 20 #[.agg #[.int .u64 b0, .int .u64 b1, .int .u64 b2, .int .u64 b3], .int .i64 i] w fun e w' => e = .returned (.bool z) ∧ Below w.heap.size w w') := by rw [hz]; exact H.hasB i
            have hC : Hid (∀ w, Calls Tryd.prog 20 #[.agg #[.int .u64 c0, .int .u64 c1, .int .u64 c2, .int .u64 c3], .int .i64 i] w fun e w' => e = .returned (.bool z) ∧ Below w.heap.size w w') := by rw [hz, ← H.rest_c i i0 hlt e]; exact H.hasC i
            have hD : Hid (∀ w, Calls Tryd.prog 20 #[.agg #[.int .u64 d0, .int .u64 d1, .int .u64 d2, .int .u64 d3], .int .i64 i] w fun e w' => e = .returned (.bool z) ∧ Below w.heap.size w w') := by rw [hz, ← H.rest_d i i0 hlt e]; exact H.hasD i
            clear hz e
            go_wp2_with fail
            go_region_held3 (fun v => Ok w v ∧ v.cell? ⟨w.heap.size, 0, none⟩ = some (.int .u64 b0) ∧ v.cell? ⟨w.heap.size, 1, none⟩ = some (.int .u64 b1) ∧ v.cell? ⟨w.heap.size, 2, none⟩ = some (.int .u64 b2) ∧ v.cell? ⟨w.heap.size, 3, none⟩ = some (.int .u64 b3) ∧ v.cell? ⟨u2.heap.size, 0, none⟩ = some (.int .u64 c0) ∧ v.cell? ⟨u2.heap.size, 1, none⟩ = some (.int .u64 c1) ∧ v.cell? ⟨u2.heap.size, 2, none⟩ = some (.int .u64 c2) ∧ v.cell? ⟨u2.heap.size, 3, none⟩ = some (.int .u64 c3) ∧ v.cell? ⟨u3.heap.size, 0, none⟩ = some (.int .u64 d0) ∧ v.cell? ⟨u3.heap.size, 1, none⟩ = some (.int .u64 d1) ∧ v.cell? ⟨u3.heap.size, 2, none⟩ = some (.int .u64 d2) ∧ v.cell? ⟨u3.heap.size, 3, none⟩ = some (.int .u64 d3)) (first | (go_split_ands; refine ⟨Ok.keep (by assumption) (by assumption), ?_, ?_, ?_, ?_, ?_, ?_, ?_, ?_, ?_, ?_, ?_, ?_⟩ <;> exact keepCell (by assumption) (by assumption)) | (refine ⟨Ok.drew (by assumption), ?_, ?_, ?_, ?_, ?_, ?_, ?_, ?_, ?_, ?_, ?_, ?_⟩ <;> assumption)) (first | (go_at_call_of 20 (Value.agg #[Value.int IntKind.u64 c0, Value.int IntKind.u64 c1, Value.int IntKind.u64 c2, Value.int IntKind.u64 c3]); go_split_ands; refine (hC.out _).mono ?_; rintro e v ⟨rfl, hb⟩) | (go_at_call_of 20 (Value.agg #[Value.int IntKind.u64 d0, Value.int IntKind.u64 d1, Value.int IntKind.u64 d2, Value.int IntKind.u64 d3]); go_split_ands; refine (hD.out _).mono ?_; rintro e v ⟨rfl, hb⟩) | (go_at_call_of 20 (Value.agg #[Value.int IntKind.u64 b0, Value.int IntKind.u64 b1, Value.int IntKind.u64 b2, Value.int IntKind.u64 b3]); go_split_ands; refine (hB.out _).mono ?_; rintro e v ⟨rfl, hb⟩))
            go_wp2_with fail
            go_roundw
            case rel => go_split_ands; exact ⟨i + 1, by omega, by omega, rfl, by assumption, by assumption, by assumption, by assumption, by assumption, by assumption, by assumption, by assumption, by assumption, by assumption, by assumption, by assumption, by assumption⟩
            case measure => simp [intOf]; omega
        · have i2 : 256 ≤ i := by omega
          clear hlt
          go_wp2_with fail
          refine (fixed_any _ kw.tab).mono ?_
          rintro e v5 ⟨rfl, hb⟩
          replace kw := kw.keep hb
          clear hb
          go_wp2_with fail
          go_ret
          exact ⟨rfl, kw.bel⟩
set_option maxRecDepth 100000 in
set_option maxHeartbeats 4000000 in
theorem walk_same (b0 b1 b2 b3 c0 c1 c2 c3 d0 d1 d2 d3 n  k s : Int) (fb fc fd : Int → Bool) (w : World) (ht : Tab w) (hk : bits BinOp.and IntKind.i64 n 255 = k) (k0 : 0 ≤ k) (k1 : k ≤ 255) (sk : s < k)
    (H : Calls9 b0 b1 b2 b3 c0 c1 c2 c3 d0 d1 d2 d3 k k k s fb fc fd) :
    Calls Tryd.prog 7 #[.agg #[.int .u64 b0, .int .u64 b1, .int .u64 b2, .int .u64 b3], .int .i64 n] w fun e w' => e = .returned (.bool true) ∧ Below w.heap.size w w' := by
  go_enter Tryd.func7, Tryd.ntmps7
  go_wp2_with fail
  have kw : Ok w (w.alloc (Obj.cells #[Value.int IntKind.u64 b0, Value.int IntKind.u64 b1, Value.int IntKind.u64 b2, Value.int IntKind.u64 b3] 35)) := ⟨ht.below (below_new _ _), below_new _ _⟩
  obtain ⟨x0, x1, x2, x3⟩ := cells_new w (.int .u64 b0) (.int .u64 b1) (.int .u64 b2) (.int .u64 b3) 35
  refine (H.topB _ kw.tab).mono ?_
  rintro e u ⟨rfl, hb⟩
  replace kw := kw.keep hb
  replace x0 := keepCell hb x0
  replace x1 := keepCell hb x1
  replace x2 := keepCell hb x2
  replace x3 := keepCell hb x3
  clear hb ht
  go_wp2_with fail
  refine (H.hasB _ _).mono ?_
  rintro e u0 ⟨rfl, hb⟩
  rw [H.at_t (by omega)]
  replace kw := kw.keep hb
  replace x0 := keepCell hb x0
  replace x1 := keepCell hb x1
  replace x2 := keepCell hb x2
  replace x3 := keepCell hb x3
  clear hb
  go_wp2_with fail
  go_loopw [6] (fun i wr => ∃ j : Int, k + 1 ≤ j ∧ j ≤ 256 ∧ i = .int .i64 j ∧ Ok w wr ∧ wr.cell? ⟨w.heap.size, 0, none⟩ = some (.int .u64 b0) ∧ wr.cell? ⟨w.heap.size, 1, none⟩ = some (.int .u64 b1) ∧ wr.cell? ⟨w.heap.size, 2, none⟩ = some (.int .u64 b2) ∧ wr.cell? ⟨w.heap.size, 3, none⟩ = some (.int .u64 b3)) (fun i _ => (256 - intOf i).toNat)
  case atStart => exact ⟨k + 1, by omega, by omega, rfl, kw, x0, x1, x2, x3⟩
  case round =>
    clear x0 x1 x2 x3 kw
    obtain ⟨j, j0, j1, rfl, kw, y0, y1, y2, y3⟩ := hrel
    by_cases hlt : j < 256
    · have hf : Hid (fb j = false) := H.above j (by omega) hlt
      go_wp2_with fail
      refine (H.hasB _ _).mono ?_
      rintro e v ⟨rfl, hb⟩
      rw [hf.out]
      replace kw := kw.keep hb
      replace y0 := keepCell hb y0
      replace y1 := keepCell hb y1
      replace y2 := keepCell hb y2
      replace y3 := keepCell hb y3
      clear hb
      go_wp2_with fail
      go_roundw
      case rel => exact ⟨j + 1, by omega, by omega, rfl, kw, y0, y1, y2, y3⟩
      case measure => simp [intOf]; omega
    · have j2 : 256 ≤ j := by omega
      clear hlt
      go_wp2_with fail
      refine (H.setC _).mono ?_
      rintro e u2 ⟨rfl, hb⟩
      replace kw := kw.keep hb
      replace y0 := keepCell hb y0
      replace y1 := keepCell hb y1
      replace y2 := keepCell hb y2
      replace y3 := keepCell hb y3
      clear hb
      have z2 : w.heap.size < u2.heap.size := World.block_lt_of_cell? u2 _ y0
      go_wp2_with fail
      have n2 := below_new u2 (Obj.cells #[Value.int IntKind.u64 c0, Value.int IntKind.u64 c1, Value.int IntKind.u64 c2, Value.int IntKind.u64 c3] 35)
      obtain ⟨g0, g1, g2, g3⟩ := cells_new u2 (.int .u64 c0) (.int .u64 c1) (.int .u64 c2) (.int .u64 c3) 35
      replace kw := kw.keep n2
      replace y0 := keepCell n2 y0
      replace y1 := keepCell n2 y1
      replace y2 := keepCell n2 y2
      replace y3 := keepCell n2 y3
      clear n2
      refine (H.setD _).mono ?_
      rintro e u3 ⟨rfl, hb⟩
      replace kw := kw.keep hb
      replace y0 := keepCell hb y0
      replace y1 := keepCell hb y1
      replace y2 := keepCell hb y2
      replace y3 := keepCell hb y3
      replace g0 := keepCell hb g0
      replace g1 := keepCell hb g1
      replace g2 := keepCell hb g2
      replace g3 := keepCell hb g3
      clear hb
      have z3 : u2.heap.size < u3.heap.size := World.block_lt_of_cell? u3 _ g0
      go_wp2_with fail
      have n3 := below_new u3 (Obj.cells #[Value.int IntKind.u64 d0, Value.int IntKind.u64 d1, Value.int IntKind.u64 d2, Value.int IntKind.u64 d3] 35)
      obtain ⟨o0, o1, o2, o3⟩ := cells_new u3 (.int .u64 d0) (.int .u64 d1) (.int .u64 d2) (.int .u64 d3) 35
      replace kw := kw.keep n3
      replace y0 := keepCell n3 y0
      replace y1 := keepCell n3 y1
      replace y2 := keepCell n3 y2
      replace y3 := keepCell n3 y3
      replace g0 := keepCell n3 g0
      replace g1 := keepCell n3 g1
      replace g2 := keepCell n3 g2
      replace g3 := keepCell n3 g3
      clear n3
      refine (H.hasC _ _).mono ?_
      rintro e v1 ⟨rfl, hb⟩
      rw [H.at_c]
      replace kw := kw.keep hb
      replace y0 := keepCell hb y0
      replace y1 := keepCell hb y1
      replace y2 := keepCell hb y2
      replace y3 := keepCell hb y3
      replace g0 := keepCell hb g0
      replace g1 := keepCell hb g1
      replace g2 := keepCell hb g2
      replace g3 := keepCell hb g3
      replace o0 := keepCell hb o0
      replace o1 := keepCell hb o1
      replace o2 := keepCell hb o2
      replace o3 := keepCell hb o3
      clear hb
      go_wp2_with fail
      refine (H.hasD _ _).mono ?_
      rintro e v2 ⟨rfl, hb⟩
      rw [H.at_d]
      replace kw := kw.keep hb
      replace y0 := keepCell hb y0
      replace y1 := keepCell hb y1
      replace y2 := keepCell hb y2
      replace y3 := keepCell hb y3
      replace g0 := keepCell hb g0
      replace g1 := keepCell hb g1
      replace g2 := keepCell hb g2
      replace g3 := keepCell hb g3
      replace o0 := keepCell hb o0
      replace o1 := keepCell hb o1
      replace o2 := keepCell hb o2
      replace o3 := keepCell hb o3
      clear hb
      go_wp2_with fail
      refine (H.topC _ kw.tab).mono ?_
      rintro e v3 ⟨rfl, hb⟩
      replace kw := kw.keep hb
      replace y0 := keepCell hb y0
      replace y1 := keepCell hb y1
      replace y2 := keepCell hb y2
      replace y3 := keepCell hb y3
      replace g0 := keepCell hb g0
      replace g1 := keepCell hb g1
      replace g2 := keepCell hb g2
      replace g3 := keepCell hb g3
      replace o0 := keepCell hb o0
      replace o1 := keepCell hb o1
      replace o2 := keepCell hb o2
      replace o3 := keepCell hb o3
      clear hb
      go_wp2_with fail
      refine (H.topD _ kw.tab).mono ?_
      rintro e v4 ⟨rfl, hb⟩
      replace kw := kw.keep hb
      replace y0 := keepCell hb y0
      replace y1 := keepCell hb y1
      replace y2 := keepCell hb y2
      replace y3 := keepCell hb y3
      replace g0 := keepCell hb g0
      replace g1 := keepCell hb g1
      replace g2 := keepCell hb g2
      replace g3 := keepCell hb g3
      replace o0 := keepCell hb o0
      replace o1 := keepCell hb o1
      replace o2 := keepCell hb o2
      replace o3 := keepCell hb o3
      clear hb
      go_wp2_with fail
      clear z2 z3 j2 j0 j1
      go_loopw [12] (fun l wr => ∃ i : Int, 0 ≤ i ∧ i ≤ 256 ∧ l = .int .i64 i ∧ Ok w wr ∧ wr.cell? ⟨w.heap.size, 0, none⟩ = some (.int .u64 b0) ∧ wr.cell? ⟨w.heap.size, 1, none⟩ = some (.int .u64 b1) ∧ wr.cell? ⟨w.heap.size, 2, none⟩ = some (.int .u64 b2) ∧ wr.cell? ⟨w.heap.size, 3, none⟩ = some (.int .u64 b3) ∧ wr.cell? ⟨u2.heap.size, 0, none⟩ = some (.int .u64 c0) ∧ wr.cell? ⟨u2.heap.size, 1, none⟩ = some (.int .u64 c1) ∧ wr.cell? ⟨u2.heap.size, 2, none⟩ = some (.int .u64 c2) ∧ wr.cell? ⟨u2.heap.size, 3, none⟩ = some (.int .u64 c3) ∧ wr.cell? ⟨u3.heap.size, 0, none⟩ = some (.int .u64 d0) ∧ wr.cell? ⟨u3.heap.size, 1, none⟩ = some (.int .u64 d1) ∧ wr.cell? ⟨u3.heap.size, 2, none⟩ = some (.int .u64 d2) ∧ wr.cell? ⟨u3.heap.size, 3, none⟩ = some (.int .u64 d3)) (fun l _ => (256 - intOf l).toNat)
      case atStart => exact ⟨0, by omega, by omega, rfl, kw, y0, y1, y2, y3, g0, g1, g2, g3, o0, o1, o2, o3⟩
      case round =>
        clear kw y0 y1 y2 y3 g0 g1 g2 g3 o0 o1 o2 o3
        obtain ⟨i, i0, i1, rfl, kw, y0, y1, y2, y3, g0, g1, g2, g3, o0, o1, o2, o3⟩ := hrel
        by_cases hlt : i < 256
        · by_cases e : i = k
          · have e1 : (i != k) = false := by simp [e]
            have E : Hid (i = k) := e
            clear e
            go_wp2_with fail
            go_quiet (fail)
            go_wp2_with fail
            go_roundw
            case rel =>
              have bq : Below _ _ _ := below_drewN (Below.refl wr.heap.size wr) nq
              exact ⟨i + 1, by omega, by omega, rfl, kw.keep bq, keepCell bq y0, keepCell bq y1, keepCell bq y2, keepCell bq y3, keepCell bq g0, keepCell bq g1, keepCell bq g2, keepCell bq g3, keepCell bq o0, keepCell bq o1, keepCell bq o2, keepCell bq o3⟩
            case measure => simp [intOf]; omega
          · have e1 : (i != k) = true := by simp [e]
            obtain ⟨z, hz⟩ : ∃ z, z = fb i := ⟨_, rfl⟩
            have hB : Hid (∀ w, Calls Tryd.prog 20 #[.agg #[.int .u64 b0, .int .u64 b1, .int .u64 b2, .int .u64 b3], .int .i64 i] w fun e w' => e = .returned (.bool z) ∧ Below w.heap.size w w') := by rw [hz]; exact H.hasB i
            have hC : Hid (∀ w, Calls Tryd.prog 20 #[.agg #[.int .u64 c0, .int .u64 c1, .int .u64 c2, .int .u64 c3], .int .i64 i] w fun e w' => e = .returned (.bool z) ∧ Below w.heap.size w w') := by rw [hz, ← H.rest_c i i0 hlt e]; exact H.hasC i
            have hD : Hid (∀ w, Calls Tryd.prog 20 #[.agg #[.int .u64 d0, .int .u64 d1, .int .u64 d2, .int .u64 d3], .int .i64 i] w fun e w' => e = .returned (.bool z) ∧ Below w.heap.size w w') := by rw [hz, ← H.rest_d i i0 hlt e]; exact H.hasD i
            clear hz e
            go_wp2_with fail
            go_region_held3 (fun v => Ok w v ∧ v.cell? ⟨w.heap.size, 0, none⟩ = some (.int .u64 b0) ∧ v.cell? ⟨w.heap.size, 1, none⟩ = some (.int .u64 b1) ∧ v.cell? ⟨w.heap.size, 2, none⟩ = some (.int .u64 b2) ∧ v.cell? ⟨w.heap.size, 3, none⟩ = some (.int .u64 b3) ∧ v.cell? ⟨u2.heap.size, 0, none⟩ = some (.int .u64 c0) ∧ v.cell? ⟨u2.heap.size, 1, none⟩ = some (.int .u64 c1) ∧ v.cell? ⟨u2.heap.size, 2, none⟩ = some (.int .u64 c2) ∧ v.cell? ⟨u2.heap.size, 3, none⟩ = some (.int .u64 c3) ∧ v.cell? ⟨u3.heap.size, 0, none⟩ = some (.int .u64 d0) ∧ v.cell? ⟨u3.heap.size, 1, none⟩ = some (.int .u64 d1) ∧ v.cell? ⟨u3.heap.size, 2, none⟩ = some (.int .u64 d2) ∧ v.cell? ⟨u3.heap.size, 3, none⟩ = some (.int .u64 d3)) (first | (go_split_ands; refine ⟨Ok.keep (by assumption) (by assumption), ?_, ?_, ?_, ?_, ?_, ?_, ?_, ?_, ?_, ?_, ?_, ?_⟩ <;> exact keepCell (by assumption) (by assumption)) | (refine ⟨Ok.drew (by assumption), ?_, ?_, ?_, ?_, ?_, ?_, ?_, ?_, ?_, ?_, ?_, ?_⟩ <;> assumption)) (first | (go_at_call_of 20 (Value.agg #[Value.int IntKind.u64 c0, Value.int IntKind.u64 c1, Value.int IntKind.u64 c2, Value.int IntKind.u64 c3]); go_split_ands; refine (hC.out _).mono ?_; rintro e v ⟨rfl, hb⟩) | (go_at_call_of 20 (Value.agg #[Value.int IntKind.u64 d0, Value.int IntKind.u64 d1, Value.int IntKind.u64 d2, Value.int IntKind.u64 d3]); go_split_ands; refine (hD.out _).mono ?_; rintro e v ⟨rfl, hb⟩) | (go_at_call_of 20 (Value.agg #[Value.int IntKind.u64 b0, Value.int IntKind.u64 b1, Value.int IntKind.u64 b2, Value.int IntKind.u64 b3]); go_split_ands; refine (hB.out _).mono ?_; rintro e v ⟨rfl, hb⟩))
            go_wp2_with fail
            go_roundw
            case rel => go_split_ands; exact ⟨i + 1, by omega, by omega, rfl, by assumption, by assumption, by assumption, by assumption, by assumption, by assumption, by assumption, by assumption, by assumption, by assumption, by assumption, by assumption, by assumption⟩
            case measure => simp [intOf]; omega
        · have i2 : 256 ≤ i := by omega
          clear hlt
          go_wp2_with fail
          refine (fixed_any _ kw.tab).mono ?_
          rintro e v5 ⟨rfl, hb⟩
          replace kw := kw.keep hb
          clear hb
          go_wp2_with fail
          go_ret
          exact ⟨rfl, kw.bel⟩
set_option maxRecDepth 100000 in
set_option maxHeartbeats 4000000 in
theorem walk_less (b0 b1 b2 b3 c0 c1 c2 c3 d0 d1 d2 d3 n t k s : Int) (fb fc fd : Int → Bool) (w : World) (ht : Tab w) (hk : bits BinOp.and IntKind.i64 n 255 = k) (k0 : 0 ≤ k) (k1 : k ≤ 255) (t0 : 0 ≤ t) (tk : t < k)
    (H : Calls9 b0 b1 b2 b3 c0 c1 c2 c3 d0 d1 d2 d3 t k k s fb fc fd) :
    Calls Tryd.prog 7 #[.agg #[.int .u64 b0, .int .u64 b1, .int .u64 b2, .int .u64 b3], .int .i64 n] w fun e w' => e = .returned (.bool true) ∧ Below w.heap.size w w' := by
  go_enter Tryd.func7, Tryd.ntmps7
  go_wp2_with fail
  have kw : Ok w (w.alloc (Obj.cells #[Value.int IntKind.u64 b0, Value.int IntKind.u64 b1, Value.int IntKind.u64 b2, Value.int IntKind.u64 b3] 35)) := ⟨ht.below (below_new _ _), below_new _ _⟩
  obtain ⟨x0, x1, x2, x3⟩ := cells_new w (.int .u64 b0) (.int .u64 b1) (.int .u64 b2) (.int .u64 b3) 35
  refine (H.topB _ kw.tab).mono ?_
  rintro e u ⟨rfl, hb⟩
  replace kw := kw.keep hb
  replace x0 := keepCell hb x0
  replace x1 := keepCell hb x1
  replace x2 := keepCell hb x2
  replace x3 := keepCell hb x3
  clear hb ht
  go_wp2_with fail
  refine (H.hasB _ _).mono ?_
  rintro e u0 ⟨rfl, hb⟩
  rw [H.at_t (by omega)]
  replace kw := kw.keep hb
  replace x0 := keepCell hb x0
  replace x1 := keepCell hb x1
  replace x2 := keepCell hb x2
  replace x3 := keepCell hb x3
  clear hb
  go_wp2_with fail
  go_loopw [6] (fun i wr => ∃ j : Int, t + 1 ≤ j ∧ j ≤ 256 ∧ i = .int .i64 j ∧ Ok w wr ∧ wr.cell? ⟨w.heap.size, 0, none⟩ = some (.int .u64 b0) ∧ wr.cell? ⟨w.heap.size, 1, none⟩ = some (.int .u64 b1) ∧ wr.cell? ⟨w.heap.size, 2, none⟩ = some (.int .u64 b2) ∧ wr.cell? ⟨w.heap.size, 3, none⟩ = some (.int .u64 b3)) (fun i _ => (256 - intOf i).toNat)
  case atStart => exact ⟨t + 1, by omega, by omega, rfl, kw, x0, x1, x2, x3⟩
  case round =>
    clear x0 x1 x2 x3 kw
    obtain ⟨j, j0, j1, rfl, kw, y0, y1, y2, y3⟩ := hrel
    by_cases hlt : j < 256
    · have hf : Hid (fb j = false) := H.above j (by omega) hlt
      go_wp2_with fail
      refine (H.hasB _ _).mono ?_
      rintro e v ⟨rfl, hb⟩
      rw [hf.out]
      replace kw := kw.keep hb
      replace y0 := keepCell hb y0
      replace y1 := keepCell hb y1
      replace y2 := keepCell hb y2
      replace y3 := keepCell hb y3
      clear hb
      go_wp2_with fail
      go_roundw
      case rel => exact ⟨j + 1, by omega, by omega, rfl, kw, y0, y1, y2, y3⟩
      case measure => simp [intOf]; omega
    · have j2 : 256 ≤ j := by omega
      clear hlt
      go_wp2_with fail
      refine (H.setC _).mono ?_
      rintro e u2 ⟨rfl, hb⟩
      replace kw := kw.keep hb
      replace y0 := keepCell hb y0
      replace y1 := keepCell hb y1
      replace y2 := keepCell hb y2
      replace y3 := keepCell hb y3
      clear hb
      have z2 : w.heap.size < u2.heap.size := World.block_lt_of_cell? u2 _ y0
      go_wp2_with fail
      have n2 := below_new u2 (Obj.cells #[Value.int IntKind.u64 c0, Value.int IntKind.u64 c1, Value.int IntKind.u64 c2, Value.int IntKind.u64 c3] 35)
      obtain ⟨g0, g1, g2, g3⟩ := cells_new u2 (.int .u64 c0) (.int .u64 c1) (.int .u64 c2) (.int .u64 c3) 35
      replace kw := kw.keep n2
      replace y0 := keepCell n2 y0
      replace y1 := keepCell n2 y1
      replace y2 := keepCell n2 y2
      replace y3 := keepCell n2 y3
      clear n2
      refine (H.setD _).mono ?_
      rintro e u3 ⟨rfl, hb⟩
      replace kw := kw.keep hb
      replace y0 := keepCell hb y0
      replace y1 := keepCell hb y1
      replace y2 := keepCell hb y2
      replace y3 := keepCell hb y3
      replace g0 := keepCell hb g0
      replace g1 := keepCell hb g1
      replace g2 := keepCell hb g2
      replace g3 := keepCell hb g3
      clear hb
      have z3 : u2.heap.size < u3.heap.size := World.block_lt_of_cell? u3 _ g0
      go_wp2_with fail
      have n3 := below_new u3 (Obj.cells #[Value.int IntKind.u64 d0, Value.int IntKind.u64 d1, Value.int IntKind.u64 d2, Value.int IntKind.u64 d3] 35)
      obtain ⟨o0, o1, o2, o3⟩ := cells_new u3 (.int .u64 d0) (.int .u64 d1) (.int .u64 d2) (.int .u64 d3) 35
      replace kw := kw.keep n3
      replace y0 := keepCell n3 y0
      replace y1 := keepCell n3 y1
      replace y2 := keepCell n3 y2
      replace y3 := keepCell n3 y3
      replace g0 := keepCell n3 g0
      replace g1 := keepCell n3 g1
      replace g2 := keepCell n3 g2
      replace g3 := keepCell n3 g3
      clear n3
      refine (H.hasC _ _).mono ?_
      rintro e v1 ⟨rfl, hb⟩
      rw [H.at_c]
      replace kw := kw.keep hb
      replace y0 := keepCell hb y0
      replace y1 := keepCell hb y1
      replace y2 := keepCell hb y2
      replace y3 := keepCell hb y3
      replace g0 := keepCell hb g0
      replace g1 := keepCell hb g1
      replace g2 := keepCell hb g2
      replace g3 := keepCell hb g3
      replace o0 := keepCell hb o0
      replace o1 := keepCell hb o1
      replace o2 := keepCell hb o2
      replace o3 := keepCell hb o3
      clear hb
      go_wp2_with fail
      refine (H.hasD _ _).mono ?_
      rintro e v2 ⟨rfl, hb⟩
      rw [H.at_d]
      replace kw := kw.keep hb
      replace y0 := keepCell hb y0
      replace y1 := keepCell hb y1
      replace y2 := keepCell hb y2
      replace y3 := keepCell hb y3
      replace g0 := keepCell hb g0
      replace g1 := keepCell hb g1
      replace g2 := keepCell hb g2
      replace g3 := keepCell hb g3
      replace o0 := keepCell hb o0
      replace o1 := keepCell hb o1
      replace o2 := keepCell hb o2
      replace o3 := keepCell hb o3
      clear hb
      go_wp2_with fail
      refine (H.topC _ kw.tab).mono ?_
      rintro e v3 ⟨rfl, hb⟩
      replace kw := kw.keep hb
      replace y0 := keepCell hb y0
      replace y1 := keepCell hb y1
      replace y2 := keepCell hb y2
      replace y3 := keepCell hb y3
      replace g0 := keepCell hb g0
      replace g1 := keepCell hb g1
      replace g2 := keepCell hb g2
      replace g3 := keepCell hb g3
      replace o0 := keepCell hb o0
      replace o1 := keepCell hb o1
      replace o2 := keepCell hb o2
      replace o3 := keepCell hb o3
      clear hb
      go_wp2_with fail
      clear z2 z3 j2 j0 j1
      go_loopw [12] (fun l wr => ∃ i : Int, 0 ≤ i ∧ i ≤ 256 ∧ l = .int .i64 i ∧ Ok w wr ∧ wr.cell? ⟨w.heap.size, 0, none⟩ = some (.int .u64 b0) ∧ wr.cell? ⟨w.heap.size, 1, none⟩ = some (.int .u64 b1) ∧ wr.cell? ⟨w.heap.size, 2, none⟩ = some (.int .u64 b2) ∧ wr.cell? ⟨w.heap.size, 3, none⟩ = some (.int .u64 b3) ∧ wr.cell? ⟨u2.heap.size, 0, none⟩ = some (.int .u64 c0) ∧ wr.cell? ⟨u2.heap.size, 1, none⟩ = some (.int .u64 c1) ∧ wr.cell? ⟨u2.heap.size, 2, none⟩ = some (.int .u64 c2) ∧ wr.cell? ⟨u2.heap.size, 3, none⟩ = some (.int .u64 c3) ∧ wr.cell? ⟨u3.heap.size, 0, none⟩ = some (.int .u64 d0) ∧ wr.cell? ⟨u3.heap.size, 1, none⟩ = some (.int .u64 d1) ∧ wr.cell? ⟨u3.heap.size, 2, none⟩ = some (.int .u64 d2) ∧ wr.cell? ⟨u3.heap.size, 3, none⟩ = some (.int .u64 d3)) (fun l _ => (256 - intOf l).toNat)
      case atStart => exact ⟨0, by omega, by omega, rfl, kw, y0, y1, y2, y3, g0, g1, g2, g3, o0, o1, o2, o3⟩
      case round =>
        clear kw y0 y1 y2 y3 g0 g1 g2 g3 o0 o1 o2 o3
        obtain ⟨i, i0, i1, rfl, kw, y0, y1, y2, y3, g0, g1, g2, g3, o0, o1, o2, o3⟩ := hrel
        by_cases hlt : i < 256
        · by_cases e : i = k
          · have e1 : (i != k) = false := by simp [e]
            have E : Hid (i = k) := e
            clear e
            go_wp2_with fail
            go_quiet (fail)
            go_wp2_with fail
            go_roundw
            case rel =>
              have bq : Below _ _ _ := below_drewN (Below.refl wr.heap.size wr) nq
              exact ⟨i + 1, by omega, by omega, rfl, kw.keep bq, keepCell bq y0, keepCell bq y1, keepCell bq y2, keepCell bq y3, keepCell bq g0, keepCell bq g1, keepCell bq g2, keepCell bq g3, keepCell bq o0, keepCell bq o1, keepCell bq o2, keepCell bq o3⟩
            case measure => simp [intOf]; omega
          · have e1 : (i != k) = true := by simp [e]
            obtain ⟨z, hz⟩ : ∃ z, z = fb i := ⟨_, rfl⟩
            have hB : Hid (∀ w, Calls Tryd.prog 20 #[.agg #[.int .u64 b0, .int .u64 b1, .int .u64 b2, .int .u64 b3], .int .i64 i] w fun e w' => e = .returned (.bool z) ∧ Below w.heap.size w w') := by rw [hz]; exact H.hasB i
            have hC : Hid (∀ w, Calls Tryd.prog 20 #[.agg #[.int .u64 c0, .int .u64 c1, .int .u64 c2, .int .u64 c3], .int .i64 i] w fun e w' => e = .returned (.bool z) ∧ Below w.heap.size w w') := by rw [hz, ← H.rest_c i i0 hlt e]; exact H.hasC i
            have hD : Hid (∀ w, Calls Tryd.prog 20 #[.agg #[.int .u64 d0, .int .u64 d1, .int .u64 d2, .int .u64 d3], .int .i64 i] w fun e w' => e = .returned (.bool z) ∧ Below w.heap.size w w') := by rw [hz, ← H.rest_d i i0 hlt e]; exact H.hasD i
            clear hz e
            go_wp2_with fail
            go_region_held3 (fun v => Ok w v ∧ v.cell? ⟨w.heap.size, 0, none⟩ = some (.int .u64 b0) ∧ v.cell? ⟨w.heap.size, 1, none⟩ = some (.int .u64 b1) ∧ v.cell? ⟨w.heap.size, 2, none⟩ = some (.int .u64 b2) ∧ v.cell? ⟨w.heap.size, 3, none⟩ = some (.int .u64 b3) ∧ v.cell? ⟨u2.heap.size, 0, none⟩ = some (.int .u64 c0) ∧ v.cell? ⟨u2.heap.size, 1, none⟩ = some (.int .u64 c1) ∧ v.cell? ⟨u2.heap.size, 2, none⟩ = some (.int .u64 c2) ∧ v.cell? ⟨u2.heap.size, 3, none⟩ = some (.int .u64 c3) ∧ v.cell? ⟨u3.heap.size, 0, none⟩ = some (.int .u64 d0) ∧ v.cell? ⟨u3.heap.size, 1, none⟩ = some (.int .u64 d1) ∧ v.cell? ⟨u3.heap.size, 2, none⟩ = some (.int .u64 d2) ∧ v.cell? ⟨u3.heap.size, 3, none⟩ = some (.int .u64 d3)) (first | (go_split_ands; refine ⟨Ok.keep (by assumption) (by assumption), ?_, ?_, ?_, ?_, ?_, ?_, ?_, ?_, ?_, ?_, ?_, ?_⟩ <;> exact keepCell (by assumption) (by assumption)) | (refine ⟨Ok.drew (by assumption), ?_, ?_, ?_, ?_, ?_, ?_, ?_, ?_, ?_, ?_, ?_, ?_⟩ <;> assumption)) (first | (go_at_call_of 20 (Value.agg #[Value.int IntKind.u64 c0, Value.int IntKind.u64 c1, Value.int IntKind.u64 c2, Value.int IntKind.u64 c3]); go_split_ands; refine (hC.out _).mono ?_; rintro e v ⟨rfl, hb⟩) | (go_at_call_of 20 (Value.agg #[Value.int IntKind.u64 d0, Value.int IntKind.u64 d1, Value.int IntKind.u64 d2, Value.int IntKind.u64 d3]); go_split_ands; refine (hD.out _).mono ?_; rintro e v ⟨rfl, hb⟩) | (go_at_call_of 20 (Value.agg #[Value.int IntKind.u64 b0, Value.int IntKind.u64 b1, Value.int IntKind.u64 b2, Value.int IntKind.u64 b3]); go_split_ands; refine (hB.out _).mono ?_; rintro e v ⟨rfl, hb⟩))
            go_wp2_with fail
            go_roundw
            case rel => go_split_ands; exact ⟨i + 1, by omega, by omega, rfl, by assumption, by assumption, by assumption, by assumption, by assumption, by assumption, by assumption, by assumption, by assumption, by assumption, by assumption, by assumption, by assumption⟩
            case measure => simp [intOf]; omega
        · have i2 : 256 ≤ i := by omega
          clear hlt
          go_wp2_with fail
          refine (fixed_any _ kw.tab).mono ?_
          rintro e v5 ⟨rfl, hb⟩
          replace kw := kw.keep hb
          clear hb
          go_wp2_with fail
          go_ret
          exact ⟨rfl, kw.bel⟩
set_option maxRecDepth 100000 in
set_option maxHeartbeats 4000000 in
theorem walk_more (b0 b1 b2 b3 c0 c1 c2 c3 d0 d1 d2 d3 n t k s : Int) (fb fc fd : Int → Bool) (w : World) (ht : Tab w) (hk : bits BinOp.and IntKind.i64 n 255 = k) (k0 : 0 ≤ k) (k1 : k ≤ 255) (t0 : 0 ≤ t) (t1 : t ≤ 255) (tk : k < t)
    (H : Calls9 b0 b1 b2 b3 c0 c1 c2 c3 d0 d1 d2 d3 t k t s fb fc fd) :
    Calls Tryd.prog 7 #[.agg #[.int .u64 b0, .int .u64 b1, .int .u64 b2, .int .u64 b3], .int .i64 n] w fun e w' => e = .returned (.bool true) ∧ Below w.heap.size w w' := by
  go_enter Tryd.func7, Tryd.ntmps7
  go_wp2_with fail
  have kw : Ok w (w.alloc (Obj.cells #[Value.int IntKind.u64 b0, Value.int IntKind.u64 b1, Value.int IntKind.u64 b2, Value.int IntKind.u64 b3] 35)) := ⟨ht.below (below_new _ _), below_new _ _⟩
  obtain ⟨x0, x1, x2, x3⟩ := cells_new w (.int .u64 b0) (.int .u64 b1) (.int .u64 b2) (.int .u64 b3) 35
  refine (H.topB _ kw.tab).mono ?_
  rintro e u ⟨rfl, hb⟩
  replace kw := kw.keep hb
  replace x0 := keepCell hb x0
  replace x1 := keepCell hb x1
  replace x2 := keepCell hb x2
  replace x3 := keepCell hb x3
  clear hb ht
  go_wp2_with fail
  refine (H.hasB _ _).mono ?_
  rintro e u0 ⟨rfl, hb⟩
  rw [H.at_t (by omega)]
  replace kw := kw.keep hb
  replace x0 := keepCell hb x0
  replace x1 := keepCell hb x1
  replace x2 := keepCell hb x2
  replace x3 := keepCell hb x3
  clear hb
  go_wp2_with fail
  go_loopw [6] (fun i wr => ∃ j : Int, t + 1 ≤ j ∧ j ≤ 256 ∧ i = .int .i64 j ∧ Ok w wr ∧ wr.cell? ⟨w.heap.size, 0, none⟩ = some (.int .u64 b0) ∧ wr.cell? ⟨w.heap.size, 1, none⟩ = some (.int .u64 b1) ∧ wr.cell? ⟨w.heap.size, 2, none⟩ = some (.int .u64 b2) ∧ wr.cell? ⟨w.heap.size, 3, none⟩ = some (.int .u64 b3)) (fun i _ => (256 - intOf i).toNat)
  case atStart => exact ⟨t + 1, by omega, by omega, rfl, kw, x0, x1, x2, x3⟩
  case round =>
    clear x0 x1 x2 x3 kw
    obtain ⟨j, j0, j1, rfl, kw, y0, y1, y2, y3⟩ := hrel
    by_cases hlt : j < 256
    · have hf : Hid (fb j = false) := H.above j (by omega) hlt
      go_wp2_with fail
      refine (H.hasB _ _).mono ?_
      rintro e v ⟨rfl, hb⟩
      rw [hf.out]
      replace kw := kw.keep hb
      replace y0 := keepCell hb y0
      replace y1 := keepCell hb y1
      replace y2 := keepCell hb y2
      replace y3 := keepCell hb y3
      clear hb
      go_wp2_with fail
      go_roundw
      case rel => exact ⟨j + 1, by omega, by omega, rfl, kw, y0, y1, y2, y3⟩
      case measure => simp [intOf]; omega
    · have j2 : 256 ≤ j := by omega
      clear hlt
      go_wp2_with fail
      refine (H.setC _).mono ?_
      rintro e u2 ⟨rfl, hb⟩
      replace kw := kw.keep hb
      replace y0 := keepCell hb y0
      replace y1 := keepCell hb y1
      replace y2 := keepCell hb y2
      replace y3 := keepCell hb y3
      clear hb
      have z2 : w.heap.size < u2.heap.size := World.block_lt_of_cell? u2 _ y0
      go_wp2_with fail
      have n2 := below_new u2 (Obj.cells #[Value.int IntKind.u64 c0, Value.int IntKind.u64 c1, Value.int IntKind.u64 c2, Value.int IntKind.u64 c3] 35)
      obtain ⟨g0, g1, g2, g3⟩ := cells_new u2 (.int .u64 c0) (.int .u64 c1) (.int .u64 c2) (.int .u64 c3) 35
      replace kw := kw.keep n2
      replace y0 := keepCell n2 y0
      replace y1 := keepCell n2 y1
      replace y2 := keepCell n2 y2
      replace y3 := keepCell n2 y3
      clear n2
      refine (H.setD _).mono ?_
      rintro e u3 ⟨rfl, hb⟩
      replace kw := kw.keep hb
      replace y0 := keepCell hb y0
      replace y1 := keepCell hb y1
      replace y2 := keepCell hb y2
      replace y3 := keepCell hb y3
      replace g0 := keepCell hb g0
      replace g1 := keepCell hb g1
      replace g2 := keepCell hb g2
      replace g3 := keepCell hb g3
      clear hb
      have z3 : u2.heap.size < u3.heap.size := World.block_lt_of_cell? u3 _ g0
      go_wp2_with fail
      have n3 := below_new u3 (Obj.cells #[Value.int IntKind.u64 d0, Value.int IntKind.u64 d1, Value.int IntKind.u64 d2, Value.int IntKind.u64 d3] 35)
      obtain ⟨o0, o1, o2, o3⟩ := cells_new u3 (.int .u64 d0) (.int .u64 d1) (.int .u64 d2) (.int .u64 d3) 35
      replace kw := kw.keep n3
      replace y0 := keepCell n3 y0
      replace y1 := keepCell n3 y1
      replace y2 := keepCell n3 y2
      replace y3 := keepCell n3 y3
      replace g0 := keepCell n3 g0
      replace g1 := keepCell n3 g1
      replace g2 := keepCell n3 g2
      replace g3 := keepCell n3 g3
      clear n3
      refine (H.hasC _ _).mono ?_
      rintro e v1 ⟨rfl, hb⟩
      rw [H.at_c]
      replace kw := kw.keep hb
      replace y0 := keepCell hb y0
      replace y1 := keepCell hb y1
      replace y2 := keepCell hb y2
      replace y3 := keepCell hb y3
      replace g0 := keepCell hb g0
      replace g1 := keepCell hb g1
      replace g2 := keepCell hb g2
      replace g3 := keepCell hb g3
      replace o0 := keepCell hb o0
      replace o1 := keepCell hb o1
      replace o2 := keepCell hb o2
      replace o3 := keepCell hb o3
      clear hb
      go_wp2_with fail
      refine (H.hasD _ _).mono ?_
      rintro e v2 ⟨rfl, hb⟩
      rw [H.at_d]
      replace kw := kw.keep hb
      replace y0 := keepCell hb y0
      replace y1 := keepCell hb y1
      replace y2 := keepCell hb y2
      replace y3 := keepCell hb y3
      replace g0 := keepCell hb g0
      replace g1 := keepCell hb g1
      replace g2 := keepCell hb g2
      replace g3 := keepCell hb g3
      replace o0 := keepCell hb o0
      replace o1 := keepCell hb o1
      replace o2 := keepCell hb o2
      replace o3 := keepCell hb o3
      clear hb
      go_wp2_with fail
      refine (H.topC _ kw.tab).mono ?_
      rintro e v3 ⟨rfl, hb⟩
      replace kw := kw.keep hb
      replace y0 := keepCell hb y0
      replace y1 := keepCell hb y1
      replace y2 := keepCell hb y2
      replace y3 := keepCell hb y3
      replace g0 := keepCell hb g0
      replace g1 := keepCell hb g1
      replace g2 := keepCell hb g2
      replace g3 := keepCell hb g3
      replace o0 := keepCell hb o0
      replace o1 := keepCell hb o1
      replace o2 := keepCell hb o2
      replace o3 := keepCell hb o3
      clear hb
      go_wp2_with fail
      clear z2 z3 j2 j0 j1
      go_loopw [12] (fun l wr => ∃ i : Int, 0 ≤ i ∧ i ≤ 256 ∧ l = .int .i64 i ∧ Ok w wr ∧ wr.cell? ⟨w.heap.size, 0, none⟩ = some (.int .u64 b0) ∧ wr.cell? ⟨w.heap.size, 1, none⟩ = some (.int .u64 b1) ∧ wr.cell? ⟨w.heap.size, 2, none⟩ = some (.int .u64 b2) ∧ wr.cell? ⟨w.heap.size, 3, none⟩ = some (.int .u64 b3) ∧ wr.cell? ⟨u2.heap.size, 0, none⟩ = some (.int .u64 c0) ∧ wr.cell? ⟨u2.heap.size, 1, none⟩ = some (.int .u64 c1) ∧ wr.cell? ⟨u2.heap.size, 2, none⟩ = some (.int .u64 c2) ∧ wr.cell? ⟨u2.heap.size, 3, none⟩ = some (.int .u64 c3) ∧ wr.cell? ⟨u3.heap.size, 0, none⟩ = some (.int .u64 d0) ∧ wr.cell? ⟨u3.heap.size, 1, none⟩ = some (.int .u64 d1) ∧ wr.cell? ⟨u3.heap.size, 2, none⟩ = some (.int .u64 d2) ∧ wr.cell? ⟨u3.heap.size, 3, none⟩ = some (.int .u64 d3)) (fun l _ => (256 - intOf l).toNat)
      case atStart => exact ⟨0, by omega, by omega, rfl, kw, y0, y1, y2, y3, g0, g1, g2, g3, o0, o1, o2, o3⟩
      case round =>
        clear kw y0 y1 y2 y3 g0 g1 g2 g3 o0 o1 o2 o3
        obtain ⟨i, i0, i1, rfl, kw, y0, y1, y2, y3, g0, g1, g2, g3, o0, o1, o2, o3⟩ := hrel
        by_cases hlt : i < 256
        · by_cases e : i = k
          · have e1 : (i != k) = false := by simp [e]
            have E : Hid (i = k) := e
            clear e
            go_wp2_with fail
            go_quiet (fail)
            go_wp2_with fail
            go_roundw
            case rel =>
              have bq : Below _ _ _ := below_drewN (Below.refl wr.heap.size wr) nq
              exact ⟨i + 1, by omega, by omega, rfl, kw.keep bq, keepCell bq y0, keepCell bq y1, keepCell bq y2, keepCell bq y3, keepCell bq g0, keepCell bq g1, keepCell bq g2, keepCell bq g3, keepCell bq o0, keepCell bq o1, keepCell bq o2, keepCell bq o3⟩
            case measure => simp [intOf]; omega
          · have e1 : (i != k) = true := by simp [e]
            obtain ⟨z, hz⟩ : ∃ z, z = fb i := ⟨_, rfl⟩
            have hB : Hid (∀ w, Calls Tryd.prog 20 #[.agg #[.int .u64 b0, .int .u64 b1, .int .u64 b2, .int .u64 b3], .int .i64 i] w fun e w' => e = .returned (.bool z) ∧ Below w.heap.size w w') := by rw [hz]; exact H.hasB i
            have hC : Hid (∀ w, Calls Tryd.prog 20 #[.agg #[.int .u64 c0, .int .u64 c1, .int .u64 c2, .int .u64 c3], .int .i64 i] w fun e w' => e = .returned (.bool z) ∧ Below w.heap.size w w') := by rw [hz, ← H.rest_c i i0 hlt e]; exact H.hasC i
            have hD : Hid (∀ w, Calls Tryd.prog 20 #[.agg #[.int .u64 d0, .int .u64 d1, .int .u64 d2, .int .u64 d3], .int .i64 i] w fun e w' => e = .returned (.bool z) ∧ Below w.heap.size w w') := by rw [hz, ← H.rest_d i i0 hlt e]; exact H.hasD i
            clear hz e
            go_wp2_with fail
            go_region_held3 (fun v => Ok w v ∧ v.cell? ⟨w.heap.size, 0, none⟩ = some (.int .u64 b0) ∧ v.cell? ⟨w.heap.size, 1, none⟩ = some (.int .u64 b1) ∧ v.cell? ⟨w.heap.size, 2, none⟩ = some (.int .u64 b2) ∧ v.cell? ⟨w.heap.size, 3, none⟩ = some (.int .u64 b3) ∧ v.cell? ⟨u2.heap.size, 0, none⟩ = some (.int .u64 c0) ∧ v.cell? ⟨u2.heap.size, 1, none⟩ = some (.int .u64 c1) ∧ v.cell? ⟨u2.heap.size, 2, none⟩ = some (.int .u64 c2) ∧ v.cell? ⟨u2.heap.size, 3, none⟩ = some (.int .u64 c3) ∧ v.cell? ⟨u3.heap.size, 0, none⟩ = some (.int .u64 d0) ∧ v.cell? ⟨u3.heap.size, 1, none⟩ = some (.int .u64 d1) ∧ v.cell? ⟨u3.heap.size, 2, none⟩ = some (.int .u64 d2) ∧ v.cell? ⟨u3.heap.size, 3, none⟩ = some (.int .u64 d3)) (first | (go_split_ands; refine ⟨Ok.keep (by assumption) (by assumption), ?_, ?_, ?_, ?_, ?_, ?_, ?_, ?_, ?_, ?_, ?_, ?_⟩ <;> exact keepCell (by assumption) (by assumption)) | (refine ⟨Ok.drew (by assumption), ?_, ?_, ?_, ?_, ?_, ?_, ?_, ?_, ?_, ?_, ?_, ?_⟩ <;> assumption)) (first | (go_at_call_of 20 (Value.agg #[Value.int IntKind.u64 c0, Value.int IntKind.u64 c1, Value.int IntKind.u64 c2, Value.int IntKind.u64 c3]); go_split_ands; refine (hC.out _).mono ?_; rintro e v ⟨rfl, hb⟩) | (go_at_call_of 20 (Value.agg #[Value.int IntKind.u64 d0, Value.int IntKind.u64 d1, Value.int IntKind.u64 d2, Value.int IntKind.u64 d3]); go_split_ands; refine (hD.out _).mono ?_; rintro e v ⟨rfl, hb⟩) | (go_at_call_of 20 (Value.agg #[Value.int IntKind.u64 b0, Value.int IntKind.u64 b1, Value.int IntKind.u64 b2, Value.int IntKind.u64 b3]); go_split_ands; refine (hB.out _).mono ?_; rintro e v ⟨rfl, hb⟩))
            go_wp2_with fail
            go_roundw
            case rel => go_split_ands; exact ⟨i + 1, by omega, by omega, rfl, by assumption, by assumption, by assumption, by assumption, by assumption, by assumption, by assumption, by assumption, by assumption, by assumption, by assumption, by assumption, by assumption⟩
            case measure => simp [intOf]; omega
        · have i2 : 256 ≤ i := by omega
          clear hlt
          go_wp2_with fail
          refine (fixed_any _ kw.tab).mono ?_
          rintro e v5 ⟨rfl, hb⟩
          replace kw := kw.keep hb
          clear hb
          go_wp2_with fail
          go_ret
          exact ⟨rfl, kw.bel⟩
theorem calls9 (b0 b1 b2 b3 k : Int) (w0 : Word b0) (w1 : Word b1) (w2 : Word b2) (w3 : Word b3) (k0 : 0 ≤ k) (k1 : k ≤ 255) :
    Calls9 b0 b1 b2 b3 (setI true b0 k 0) (setI true b1 k 1) (setI true b2 k 2) (setI true b3 k 3) (setI false b0 k 0) (setI false b1 k 1) (setI false b2 k 2) (setI false b3 k 3) (topI b0 b1 b2 b3) k (max (topI b0 b1 b2 b3) k) (topI (setI false b0 k 0) (setI false b1 k 1) (setI false b2 k 2) (setI false b3 k 3)) (hasI b0 b1 b2 b3) (hasI (setI true b0 k 0) (setI true b1 k 1) (setI true b2 k 2) (setI true b3 k 3)) (hasI (setI false b0 k 0) (setI false b1 k 1) (setI false b2 k 2) (setI false b3 k 3)) := by
  obtain ⟨f1, f2, f3, f4⟩ := topI_facts b0 b1 b2 b3
  have c0 := set_word true b0 k 0 w0
  have c1 := set_word true b1 k 1 w1
  have c2 := set_word true b2 k 2 w2
  have c3 := set_word true b3 k 3 w3
  have d0 := set_word false b0 k 0 w0
  have d1 := set_word false b1 k 1 w1
  have d2 := set_word false b2 k 2 w2
  have d3 := set_word false b3 k 3 w3
  have hs := fun z i (i0 : 0 ≤ i) (i1 : i < 256) => has_set z b0 b1 b2 b3 k i w0 w1 w2 w3 k0 (by omega) i0 i1
  refine ⟨fun w ht => top_any b0 b1 b2 b3 w ht w0 w1 w2 w3, fun w ht => ?_, fun w ht => top_any _ _ _ _ w ht d0 d1 d2 d3, fun i w => has_any b0 b1 b2 b3 i w w0 w1 w2 w3, fun i w => has_any _ _ _ _ i w c0 c1 c2 c3, fun i w => has_any _ _ _ _ i w d0 d1 d2 d3,
    fun w => set_any true b0 b1 b2 b3 k w w0 w1 w2 w3 k0 (by omega), fun w => set_any false b0 b1 b2 b3 k w w0 w1 w2 w3 k0 (by omega), f3, f4, ?_, ?_, fun i i0 i1 ne => ?_, fun i i0 i1 ne => ?_⟩
  · rw [← top_set b0 b1 b2 b3 k w0 w1 w2 w3 k0 (by omega)]
    exact top_any _ _ _ _ w ht c0 c1 c2 c3
  · rw [hs true k k0 (by omega), if_pos rfl]
  · rw [hs false k k0 (by omega), if_pos rfl]
  · rw [hs true i i0 i1, if_neg ne]
  · rw [hs false i i0 i1, if_neg ne]
theorem walk (b0 b1 b2 b3 n : Int) (w : World) (ht : Tab w) (w0 : Word b0) (w1 : Word b1) (w2 : Word b2) (w3 : Word b3) (_n0 : -9223372036854775808 ≤ n ∧ n ≤ 9223372036854775807) :
    Calls Tryd.prog 7 #[.agg #[.int .u64 b0, .int .u64 b1, .int .u64 b2, .int .u64 b3], .int .i64 n] w fun e w' => e = .returned (.bool true) ∧ Below w.heap.size w w' := by
  have k0 : 0 ≤ n % 256 := Int.emod_nonneg _ (by omega)
  have k1 : n % 256 ≤ 255 := by have := Int.emod_lt_of_pos n (b := 256) (by omega); omega
  have ek := i64_255 n
  generalize n % 256 = k at *
  have H := calls9 b0 b1 b2 b3 k w0 w1 w2 w3 k0 k1
  obtain ⟨f1, f2, f3, f4⟩ := topI_facts b0 b1 b2 b3
  have hl := top_clr b0 b1 b2 b3 k w0 w1 w2 w3 k0 (by omega)
  generalize topI b0 b1 b2 b3 = t at *
  by_cases a : t = -1
  · subst a
    rw [show max (-1) k = k by omega] at H
    exact walk_none b0 b1 b2 b3 _ _ _ _ _ _ _ _ n k _ _ _ _ w ht ek k0 k1 H
  · by_cases b : t = k
    · subst b
      rw [show max t t = t by omega] at H
      exact walk_same b0 b1 b2 b3 _ _ _ _ _ _ _ _ n t _ _ _ _ w ht ek k0 k1 (hl rfl) H
    · by_cases c : t < k
      · rw [show max t k = k by omega] at H
        exact walk_less b0 b1 b2 b3 _ _ _ _ _ _ _ _ n t k _ _ _ _ w ht ek k0 k1 (by omega) c H
      · rw [show max t k = t by omega] at H
        exact walk_more b0 b1 b2 b3 _ _ _ _ _ _ _ _ n t k _ _ _ _ w ht ek k0 k1 (by omega) f2 (by omega) H
open Go.ChangeShapes Go.WideShapes Go.ChangeAt Go.RowKit Go.Joins

/-! ### From the walk to the statement -/
theorem contract (H : Type) (enc : TypeId × Value → H) (W : World) (base : Nat) (args : Array Value) (ds gs : List (DataW H)) (before : List MemPlace)
    (hval : ∀ (j : Nat) t v, Tryd.f7.params[j]? = some t → args[j]? = some v → Value.okWide Tryd.prog W .any base t v)
    (hW : DataW.Whole enc Tryd.prog Tryd.f7.params.toList Rows.wordsTopSpec.vars false W args.toList ds gs before) (hL : laidMetH Tryd.prog Rows.wordsTopRow.laid W) :
    Calls Tryd.prog 7 args W fun e W' => ∃ v, e = .returned v ∧ Rows.wordsTopSpec.post enc Tryd.prog Tryd.f7 false true false false W args v W' := by
  have hW' := hW
  obtain ⟨p, q, hA0, hV, rfl, hfz, hnd⟩ := hW
  have hA : DataW.TrodAll enc Tryd.prog W 0 (fun _ => true) true Tryd.f7.params.toList args.toList ds p := hA0
  rw [Tryd.params7] at hA hval
  obtain ⟨v0, vs0, d0, ds0, p0, q0, hargs, rfl, rfl, h0, r0⟩ := trodAll_cons hA
  obtain ⟨v1, vs1, d1, ds1, p1, q1, rfl, rfl, rfl, h1, r1⟩ := trodAll_cons r0
  obtain ⟨rfl, rfl, rfl⟩ := trodAll_nil r1
  obtain rfl : args = #[v0, v1] := by cases args; simp_all
  obtain ⟨rfl, rfl⟩ := trodVars_none hV
  have k0 := h0
  have lt0 : ∀ x ∈ p0, x.block < W.heap.size := by obtain ⟨m, hm⟩ := k0; exact DataW.trod_lt m _ _ _ hm
  have k1 := h1
  have lt1 : ∀ x ∈ p1, x.block < W.heap.size := by obtain ⟨m, hm⟩ := k1; exact DataW.trod_lt m _ _ _ hm
  obtain ⟨a0p, a0q, a0r, a0s, rfl, w0p, w0q, w0r, w0s⟩ := open_bits (hval 0 35 v0 rfl rfl) h0
  obtain ⟨a1, rfl, _, _, w1⟩ := open_int Tryd.underlying3 (hval 1 3 v1 rfl rfl) h1
  clear hA0
  refine (walk a0p a0q a0r a0s a1 W (table hL) w0p w0q w0r w0s (bounds_i64 w1)).mono fun e W' ⟨he, bel⟩ => ?_
  subst he
  exact ⟨_, rfl, _, _, _, [], _, [], hW', trodAll_mk1 (shut_bool Tryd.underlying4 _), (trodAll_cons_mk (Below.trod laidOut (by kernel_rfl) (of_decide_eq_true (by kernel_rfl)) k0 bel lt0) (trodAll_cons_mk (Below.trod laidOut (by kernel_rfl) (of_decide_eq_true (by kernel_rfl)) k1 bel lt1) trodAll_mk0)), rfl, bel.frame _, fun h => by cases h⟩

theorem laid_met (os : Os) : laidMet Tryd.prog Rows.wordsTopRow.laid ((World.doorLaid Tryd.prog 40 os).forCall (fun _ _ => 0) ⟨#[], #[.agg #[.int .u64 0, .int .u64 0, .int .u64 0, .int .u64 0], .int .i64 0], []⟩).memory :=
  laidMet_of_run' 8 (by kernel_rfl) (by kernel_rfl)
theorem reads (os : Os) {H : Type} (enc : TypeId × Value → H) : ∃ places, DataW.whole enc Tryd.prog ((World.doorLaid Tryd.prog 40 os).forCall (fun _ _ => 0) ⟨#[], #[.agg #[.int .u64 0, .int .u64 0, .int .u64 0, .int .u64 0], .int .i64 0], []⟩).memory Tryd.f7.params.toList Rows.wordsTopSpec.vars false (#[.agg #[.int .u64 0, .int .u64 0, .int .u64 0, .int .u64 0], .int .i64 0] : Array Value).toList 8 = some ([.agg [.lit (.int .u64 0), .lit (.int .u64 0), .lit (.int .u64 0), .lit (.int .u64 0)], .lit (.int .i64 0)], [], places) :=
  ⟨[], by kernel_rfl⟩
set_option maxRecDepth 100000 in
theorem lifted (os : Os) (started : os.Started) (H : Type) (enc : TypeId × Value → H) (F : Stop.Interp) :
    ReturnsInHanded {} Tryd.checked os 7 .any ((OpenSpec.ofChange Rows.wordsTopSpec).preRow enc Tryd.prog Tryd.f7 Rows.wordsTopRow.domain false Rows.wordsTopRow.laid) (((OpenSpec.ofChange Rows.wordsTopSpec).at F).post enc Tryd.prog Tryd.f7 false true false false) := by
  obtain ⟨places, hx⟩ := reads os enc
  refine returnsInHanded_of_row (C := Tryd.checked) (s := OpenSpec.ofChange Rows.wordsTopSpec) own started (by kernel_rfl) Tryd.func7
    (witness_row_at (enc := enc) (C := Tryd.checked) false (World.doorLaid Tryd.prog 40 os) #[.agg #[.int .u64 0, .int .u64 0, .int .u64 0, .int .u64 0], .int .i64 0] rfl (by kernel_rfl) (by kernel_rfl) (by kernel_rfl)
      (OpenSpec.preRow_of_cond 8 hx (by kernel_rfl) (fun k hk => by cases hk) (by kernel_rfl) (laid_met os))) ?_
  intro W base args ds gs before hval hW _ _ _ hL _ _
  exact contract H enc W base args ds gs before hval hW hL
theorem said : Rows.WordsTopSaid :=
  OpenClaim.holds_of_cond 7 Tryd.f7 rfl rfl rfl rfl rfl rfl rfl ⟨rfl, rfl, rfl, rfl, rfl⟩ rfl rfl rfl rfl rfl (by kernel_rfl) Tryd.func7 (by kernel_rfl)
    (of_decide_eq_true (by kernel_rfl)) (by unfold Func.isWrapper; first | (rw [if_pos (by decide +kernel)]; kernel_rfl) | (rw [if_neg (by decide +kernel)]; exact ⟨rfl, rfl⟩))
    (fun os started H enc _ F => by rw [OpenClaim.pre_eq_preRow]; exact lifted os started H enc F)
theorem plain (f : FuncId) (fn : Func) (hf : Tryd.pinned.checked.prog.funcNamed "buttress/buttresslaw01.WordsTop" = some f) (hfn : Tryd.pinned.checked.prog.funcs[f]? = some fn) :
    false = Tryd.pinned.checked.prog.looks [] ∧ ∀ (j : Nat) t, fn.params[j]? = some t → Tryd.pinned.checked.prog.wantsStandIn t = false := by
  obtain rfl : f = 7 := Option.some.inj ((show Tryd.prog.funcNamed "buttress/buttresslaw01.WordsTop" = some 7 by kernel_rfl).symm.trans hf) |>.symm
  obtain rfl : fn = Tryd.f7 := (Option.some.inj (Tryd.func7.symm.trans hfn)).symm
  refine ⟨by kernel_rfl, fun j t ht => ?_⟩
  rw [Tryd.params7] at ht
  have hm : t ∈ [35, 3] := by simpa using Array.mem_of_getElem? ht
  have hall : ([35, 3].all fun u => !Tryd.prog.wantsStandIn u) = true := by kernel_rfl
  exact (show Tryd.prog.wantsStandIn t = false by simpa using List.all_eq_true.1 hall t hm)
end Go.Proofs.YtpmlhdmncbpodaaDoor.wordsTop
namespace Go.Proofs.YtpmlhdmncbpodaaDoor
/-- THE CARD. -/
theorem wordsTop_card : Rows.WordsTopCardSaid :=
  Claim7.holds_tied_plain_at .later [] _ _ _ _ wordsTop.said (fun _ h => by cases h) (by kernel_rfl) (fun _ h => by cases h) wordsTop_row_tie rfl ⟨rfl, rfl⟩ (by kernel_rfl) rfl wordsTop.plain (by kernel_rfl)
#print axioms wordsTop_card
end Go.Proofs.YtpmlhdmncbpodaaDoor

/-
  The calls whose answers the document fixes (the law's own function fixed) answer as they should, where the table of widths lies as the program laid it.
-/
import Derived.Test.YtpmlhdmncbpodaaDoorWhole
namespace Go.Proofs.YtpmlhdmncbpodaaDoor
open Go.RowKit

theorem word_of (n : Int) (h0 : 0 ≤ n) (h1 : n ≤ 18446744073709551615) : Word n := ⟨h0, h1⟩
theorem bcell {W w1 : World} (hb : Below W.heap.size W w1) : (∀ b o, b < W.heap.size → w1.cell? ⟨b, o, none⟩ = W.cell? ⟨b, o, none⟩) ∧ (∀ b o, b < W.heap.size → w1.frozen? ⟨b, o, none⟩ = W.frozen? ⟨b, o, none⟩) :=
  ⟨fun b o h => hb.cell (p := ⟨b, o, none⟩) h, fun b o h => hb.frozen (p := ⟨b, o, none⟩) h⟩

theorem fx_mask (w : World) : Calls Tryd.prog 14 #[.int .i64 3] w fun e w' => e = .returned (.tuple #[.int .u64 7, .int .i64 0]) ∧ w' = w := by
  have := mask_yes 3 w (by decide) (by decide)
  rwa [show onesI 3 = 7 by decide +kernel] at this
theorem fx_field (w : World) : Calls Tryd.prog 9 #[.int .u64 4660, .int .i64 4, .int .i64 8] w fun e w' => e = .returned (.tuple #[.int .u64 35, .int .i64 0]) ∧ w' = w := by
  have := field_yes 4660 4 8 w (by decide) (by decide) (by decide) (by decide) (by decide)
  rwa [show fieldI 4660 4 8 = 35 by decide +kernel] at this
theorem fx_with (w : World) : Calls Tryd.prog 11 #[.int .u64 4660, .int .i64 4, .int .i64 8, .int .u64 255] w fun e w' => e = .returned (.tuple #[.int .u64 8180, .int .i64 0]) ∧ w' = w := by
  have := with_yes 4660 4 8 255 w (by decide) (by decide) (by decide) (by decide) (by decide) (by decide) (by decide +kernel)
  rwa [show withI 4660 4 8 255 = 8180 by decide +kernel] at this
theorem fx_up (w : World) : Calls Tryd.prog 16 #[.int .u64 5, .int .i64 3] w fun e w' => e = .returned (.tuple #[.int .u64 8, .int .i64 0]) ∧ w' = w := by
  have := up_yes 5 3 w (by decide) (by decide) (by decide) (by decide +kernel)
  rwa [show upI 5 3 = 8 by decide +kernel] at this
theorem fx_with2 (w : World) : Calls Tryd.prog 11 #[.int .u64 0, .int .i64 0, .int .i64 2, .int .u64 4] w fun e w' => e = .returned (.tuple #[.int .u64 0, .int .i64 2]) ∧ w' = w :=
  with_big 0 0 2 4 w (by decide) (by decide) (by decide) (by decide +kernel)
theorem fx_up2 (w : World) : Calls Tryd.prog 16 #[.int .u64 9223372036854775809, .int .i64 63] w fun e w' => e = .returned (.tuple #[.int .u64 0, .int .i64 2]) ∧ w' = w :=
  up_big 9223372036854775809 63 w (by decide) (by decide) (by decide +kernel)
theorem fx_set (w : World) : Calls Tryd.prog 18 #[.agg #[.int .u64 0, .int .u64 0, .int .u64 0, .int .u64 0], .int .i64 200, .bool true] w fun e w' => e = .returned (.tuple #[.agg #[.int .u64 0, .int .u64 0, .int .u64 0, .int .u64 256], .int .i64 0]) ∧ Below w.heap.size w w' := by
  have := set_any true 0 0 0 0 200 w (word_of _ (by decide) (by decide)) (word_of _ (by decide) (by decide)) (word_of _ (by decide) (by decide)) (word_of _ (by decide) (by decide)) (by decide) (by decide)
  rwa [show setI true 0 200 0 = 0 by decide +kernel, show setI true 0 200 1 = 0 by decide +kernel, show setI true 0 200 2 = 0 by decide +kernel, show setI true 0 200 3 = 256 by decide +kernel] at this
theorem fx_set2 (w : World) : Calls Tryd.prog 18 #[.agg #[.int .u64 0, .int .u64 0, .int .u64 0, .int .u64 256], .int .i64 3, .bool true] w fun e w' => e = .returned (.tuple #[.agg #[.int .u64 8, .int .u64 0, .int .u64 0, .int .u64 256], .int .i64 0]) ∧ Below w.heap.size w w' := by
  have := set_any true 0 0 0 256 3 w (word_of _ (by decide) (by decide)) (word_of _ (by decide) (by decide)) (word_of _ (by decide) (by decide)) (word_of _ (by decide) (by decide)) (by decide) (by decide)
  rwa [show setI true 0 3 0 = 8 by decide +kernel, show setI true 0 3 1 = 0 by decide +kernel, show setI true 0 3 2 = 0 by decide +kernel, show setI true 256 3 3 = 256 by decide +kernel] at this
theorem fx_top (w : World) (ht : Tab w) : Calls Tryd.prog 22 #[.agg #[.int .u64 8, .int .u64 0, .int .u64 0, .int .u64 256]] w fun e w' => e = .returned (.int .i64 200) ∧ Below w.heap.size w w' := by
  have := top_any 8 0 0 256 w ht (word_of _ (by decide) (by decide)) (word_of _ (by decide) (by decide)) (word_of _ (by decide) (by decide)) (word_of _ (by decide) (by decide))
  rwa [show topI 8 0 0 256 = 200 by decide +kernel] at this
theorem fx_has (w : World) : Calls Tryd.prog 20 #[.agg #[.int .u64 8, .int .u64 0, .int .u64 0, .int .u64 256], .int .i64 3] w fun e w' => e = .returned (.bool true) ∧ Below w.heap.size w w' := by
  have := has_any 8 0 0 256 3 w (word_of _ (by decide) (by decide)) (word_of _ (by decide) (by decide)) (word_of _ (by decide) (by decide)) (word_of _ (by decide) (by decide))
  rwa [show hasI 8 0 0 256 3 = true by decide +kernel] at this
theorem fx_has2 (w : World) : Calls Tryd.prog 20 #[.agg #[.int .u64 8, .int .u64 0, .int .u64 0, .int .u64 256], .int .i64 4] w fun e w' => e = .returned (.bool false) ∧ Below w.heap.size w w' := by
  have := has_any 8 0 0 256 4 w (word_of _ (by decide) (by decide)) (word_of _ (by decide) (by decide)) (word_of _ (by decide) (by decide)) (word_of _ (by decide) (by decide))
  rwa [show hasI 8 0 0 256 4 = false by decide +kernel] at this

set_option maxHeartbeats 1000000 in
theorem fixed_any (w : World) (ht : Tab w) :
    Calls Tryd.prog 13 #[] w fun e w' => e = .returned (.bool true) ∧ Below w.heap.size w w' := by
  go_enter Tryd.func13, Tryd.ntmps13
  go_wp2_with fail
  refine (fx_mask _).mono ?_
  rintro e w' ⟨rfl, rfl⟩
  go_wp2_with fail
  refine (fx_field _).mono ?_
  rintro e w' ⟨rfl, rfl⟩
  go_wp2_with fail
  refine (fx_with _).mono ?_
  rintro e w' ⟨rfl, rfl⟩
  go_wp2_with fail
  refine (fx_up _).mono ?_
  rintro e w' ⟨rfl, rfl⟩
  go_wp2_with fail
  refine (fx_with2 _).mono ?_
  rintro e w' ⟨rfl, rfl⟩
  go_wp2_with fail
  refine (fx_up2 _).mono ?_
  rintro e w' ⟨rfl, rfl⟩
  go_wp2_with fail
  refine (fx_set _).mono ?_
  rintro e w1 ⟨rfl, hb1⟩
  go_wp2_with fail
  refine (fx_set2 _).mono ?_
  rintro e w2 ⟨rfl, hb2⟩
  have hs := hb1.size
  have b2 : Below w'.heap.size w' w2 := (hb1.alloc hs _).trans (hb2.mono (by simp; omega))
  obtain ⟨hc, hf⟩ := bcell hb2
  have hz : w1.heap.size < w2.heap.size := by have := hb2.size; simp at this; omega
  clear hb1 hb2
  go_wp2_with fail
  have b3 := (((b2.setCell (p := ⟨w1.heap.size, 0, none⟩) hs (.int .u64 8)).setCell (p := ⟨w1.heap.size, 1, none⟩) hs (.int .u64 0)).setCell (p := ⟨w1.heap.size, 2, none⟩) hs (.int .u64 0)).setCell (p := ⟨w1.heap.size, 3, none⟩) hs (.int .u64 256)
  refine (fx_top _ (ht.below b3)).mono ?_
  rintro e w3 ⟨rfl, hb3⟩
  have b4 := b3.trans (hb3.mono b3.size)
  obtain ⟨hc3, hf3⟩ := bcell hb3
  have hz3 : w1.heap.size < w3.heap.size := by have := hb3.size; simp at this; omega
  clear hb3 b3
  go_wp2_with fail
  refine (fx_has _).mono ?_
  rintro e w4 ⟨rfl, hb4⟩
  have b5 := b4.trans (hb4.mono b4.size)
  obtain ⟨hc4, hf4⟩ := bcell hb4
  have hz4 : w1.heap.size < w4.heap.size := by have := hb4.size; omega
  clear hb4 b4
  go_wp2_with fail
  refine (fx_has2 _).mono ?_
  rintro e w5 ⟨rfl, hb5⟩
  have b6 := b5.trans (hb5.mono b5.size)
  clear hb5 b5 hc hf hc3 hf3 hc4 hf4
  go_wp2_with fail
  refine (top_none _).mono ?_
  rintro e w6 ⟨rfl, hb6⟩
  have b7 := b6.trans (hb6.mono b6.size)
  clear hb6 b6
  go_wp2_with fail
  go_ret
  exact ⟨rfl, b7⟩
end Go.Proofs.YtpmlhdmncbpodaaDoor

/-
  The calls whose answers the document fixes are answered so; no condition.
-/
import Derived.Test.YtekjoeebomcmeaaYSep
import Derived.Test.YtekjoeebomcmeaaGInts
namespace Go.Proofs.Ytekjoeebomcmeaa
open Go.RowKit Go.Deep Go.Shelf
def atS : Nat → St
  | 0 => []
  | 1 => [⟨7, 1, 1, 1⟩]
  | 2 => [⟨7, 1, 1, 1⟩, ⟨7, 2, 2, 1⟩]
  | 3 => [⟨7, 2, 2, 1⟩, ⟨7, 1, 1, 1⟩]
  | _ => [⟨7, 1, 1, 1⟩, ⟨7, 3, 3, 1⟩]
theorem at_next : ∀ (k : Nat) (x : Int), [(1 : Int), 2, 1, 3][k]? = some x → fillS 2 (atS k) ⟨7, x, x, 1⟩ = atS (k + 1)
  | 0, x, h => by cases h; kernel_rfl
  | 1, x, h => by cases h; kernel_rfl
  | 2, x, h => by cases h; kernel_rfl
  | 3, x, h => by cases h; kernel_rfl
  | k + 4, x, h => by simp at h
set_option maxHeartbeats 8000000 in
set_option maxRecDepth 100000 in
theorem fixed_any (w : World) : Calls Try.prog 24 #[] w fun e w' => e = .returned (.bool true) ∧ Below w.heap.size w w' := by
  go_enter Try.func24, Try.ntmps24
  go_wp2_with fail
  refine Calls.mono (new_sep (n := 2) (sep_nil w) (by omega) (by omega)) ?_
  rintro e w1 ⟨p, rfl, s1⟩
  have S1 := hid (s1.lit okI [1, 2, 1, 3] (by decide) #[.int .i64 1, .int .i64 2, .int .i64 1, .int .i64 3] rfl).swap
  simp only [List.length_cons, List.length_nil, Nat.zero_add, Nat.reduceAdd, elI] at S1
  clear s1
  generalize hr : w.heap.size = r at *
  have HR := hid hr
  clear hr
  go_wp2_with fail
  generalize w1.heap.size = q at *
  generalize w1.alloc (Obj.cells #[Value.int IntKind.i64 1, Value.int IntKind.i64 2, Value.int IntKind.i64 1, Value.int IntKind.i64 3] 3) = w2 at *
  have S2 : Hid (Sep w r w2 [tbT kP 2 p (.slice none 0 0) (atS 0), lstI (.slice (some ⟨q, 0, none⟩) 4 4) [1, 2, 1, 3]]) := S1
  clear S1
  go_loopw [4] (fun s4 wr => ∃ k : Nat, k ≤ 4 ∧ s4 = .int .i64 k ∧ ∃ v, Sep w r wr [tbT kP 2 p v (atS k), lstI (.slice (some ⟨q, 0, none⟩) 4 4) [1, 2, 1, 3]]) (fun s4 _ => 4 - (intOf s4).toNat)
  case atStart => exact ⟨0, Nat.zero_le _, rfl, _, S2.out⟩
  case round =>
    clear S2
    obtain ⟨k, hk, rfl, v, s1⟩ := hrel
    by_cases hlt : k < 4
    · have hx := List.getElem?_eq_getElem (l := [(1 : Int), 2, 1, 3]) (i := k) hlt
      generalize [(1 : Int), 2, 1, 3][k] = x at hx
      have c0 : wr.cell? ⟨q, k, none⟩ = some (.int .i64 x) := RowI.cell (n := 4) (cap := 4) (s1.each (lstI (.slice (some ⟨q, 0, none⟩) 4 4) [1, 2, 1, 3]) (by simp)).1 hx
      have hf := fill_is s1.drew ⟨7, x, x, 1⟩ (at_next k x hx)
      simp only [encL] at hf
      have HF := hid hf
      have hltz : (k : Int) < 4 := by omega
      clear hf hx s1
      go_wp2_with fail
      go_region_with (go_at_call 11; refine Calls.mono HF.out ?_; rintro e w3 ⟨rfl, v3, s3⟩; have S3 := hid s3; clear s3 HF)
      all_goals
        go_wp2
        go_round
        case rel => exact ⟨k + 1, by omega, by go_num, _, S3.out⟩
        case measure => simp [intOf]; omega
    · obtain rfl : k = 4 := by omega
      have S1 : Hid (Sep w r wr [tbT kP 2 p v [⟨7, 1, 1, 1⟩, ⟨7, 3, 3, 1⟩], lstI (.slice (some ⟨q, 0, none⟩) 4 4) [1, 2, 1, 3]]) := s1
      clear s1 hlt hk
      go_wp2_with fail
      refine Calls.mono (look_is (f := 1) (t := 1) (q := true) S1.out 7 1 (by kernel_rfl) (by kernel_rfl) (by kernel_rfl)) ?_
      rintro e w3 ⟨rfl, s3⟩
      have S3 := hid (s3.box (objP 1 1)).swap
      clear s3 S1
      generalize hz : w3.heap.size = z3 at *
      go_wp2_with fail
      refine Calls.mono (look_is (f := 0) (t := 0) (q := false) S3.out 7 2 (by kernel_rfl) (by kernel_rfl) (by kernel_rfl)) ?_
      rintro e w4 ⟨rfl, s4⟩
      have S4 := hid (s4.box (objP 0 0)).swap
      clear s4 S3 hz
      go_wp2_with fail
      refine Calls.mono (new_no 0 (by omega)) ?_
      rintro e w5 ⟨rfl, hw⟩
      subst hw
      obtain ⟨g0, g1⟩ := cellsG (f := 1) (r := 1) (S4.out.each (blk z3 (objP 1 1)) (by simp)).1
      have he := fun W => eq_page W 1 1 1 1
      rw [pgB_self] at he
      simp only [objP] at *
      generalize w4.alloc (.cells #[.int .i64 0, .int .i64 0] 31) = w5 at *
      generalize w4.heap.size = z4 at *
      go_wp2_with (first
        | (go_at_call 22; refine Calls.mono (lines_is (k := 2) S4.out rfl) ?_; rintro e w6 ⟨a6, k6, rfl, s6⟩; have S6 := hid s6.drop2; clear s6 S4)
        | (go_at_call 17; refine Calls.mono (frame_is (k := 1) (T := [⟨7, 1, 1, 1⟩]) S6.out 3 (by kernel_rfl) (by kernel_rfl)) ?_; rintro e w7 ⟨rfl, v7, s7⟩; have S7 := hid s7; clear s7 S6)
        | (go_at_call 15; refine Calls.mono (space_is (k := 0) (T := [⟨7, 1, 1, 1⟩]) S7.out 8 (by kernel_rfl) (by kernel_rfl)) ?_; rintro e w8 ⟨rfl, v8, s8⟩; have S8 := hid s8; clear s8 S7)
        | (go_at_call 13; refine Calls.mono (drop_is (q := true) (T := []) S8.out 7 1 (by kernel_rfl) (by kernel_rfl)) ?_; rintro e w9 ⟨rfl, v9, s9⟩; have S9 := hid s9; clear s9 S8)
        | (go_at_call 13; refine Calls.mono (drop_is (q := false) (T := []) S9.out 7 1 (by kernel_rfl) (by kernel_rfl)) ?_; rintro e w10 ⟨rfl, v10, s10⟩; have S10 := hid s10; clear s10 S9))
      go_ret
      exact ⟨rfl, by rw [HR.out]; exact S10.out.low⟩
end Go.Proofs.Ytekjoeebomcmeaa

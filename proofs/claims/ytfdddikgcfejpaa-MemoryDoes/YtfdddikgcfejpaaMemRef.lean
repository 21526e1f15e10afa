/-
  The calls of the document's own answer for layer 2, each by its contract; no condition of ours.
-/
import Derived.Test.YtfdddikgcfejpaaMemAppend
namespace Go.Proofs.Ytfdddikgcfejpaa
open Go.RowKit Go.Deep
theorem rnew_yes (n : Nat) (w : World) (h1 : 1 ≤ n) (h2 : n ≤ 65536) :
    Calls Try.prog 10 #[.int .i64 n] w fun e w' => e = .returned (.tuple #[.pointer (some ⟨w.heap.size + 1, 0, none⟩), .int .i64 0]) ∧ Mem 42 w' (w.heap.size + 1) w.heap.size (List.replicate n 0) ∧ Below w.heap.size w w' := by
  have hmk := run_make_row' (P := Try.prog) 36 30 (.int .u64 0) 8 Try.underlying36 info64 rfl .i64 .i64 n (by omega) (by omega)
  have R := mem_new w n 42
  go_enter Try.func10, Try.ntmps10
  go_wp2
  go_ret2
  exact ⟨rfl, R⟩
theorem rthere_yes (b c : Nat) (L : List Int) (a n : Nat) (w : World) (hm : Mem 42 w b c L) (hl : L.length ≤ 65536) (h : a + n ≤ L.length) :
    Calls Try.prog 30 #[.pointer (some ⟨b, 0, none⟩), .int .i64 a, .int .i64 n] w fun e w' => e = .returned (.bool true) ∧ w' = w := by
  have hc := hm.cell
  generalize L.length = len at *
  have h1 : (a : Int) ≤ (len : Int) := by omega
  have h2 : (n : Int) ≤ (len : Int) := by omega
  have h3 : (a : Int) + (n : Int) ≤ (len : Int) := by omega
  go_enter Try.func30, Try.ntmps30
  go_wp2
  all_goals go_ret
  all_goals exact ⟨rfl, rfl⟩
theorem rthere_no (b c : Nat) (L : List Int) (a n : Int) (w : World) (hm : Mem 42 w b c L) (hl : L.length ≤ 65536) (h : thereB L.length a n = false) :
    Calls Try.prog 30 #[.pointer (some ⟨b, 0, none⟩), .int .i64 a, .int .i64 n] w fun e w' => e = .returned (.bool false) ∧ w' = w := by
  have hc := hm.cell
  generalize L.length = len at *
  have h' : ¬ (0 ≤ a ∧ 0 ≤ n ∧ a + n ≤ (len : Int)) := by simpa [thereB] using h
  have H : Hid (¬ (0 ≤ a ∧ 0 ≤ n ∧ a + n ≤ (len : Int))) := h'
  clear h h'
  by_cases h1 : a < 0
  · go_enter Try.func30, Try.ntmps30
    go_wp2
    all_goals go_ret
    all_goals exact ⟨rfl, rfl⟩
  by_cases h2 : n < 0
  · have h1' : 0 ≤ a := by omega
    go_enter Try.func30, Try.ntmps30
    go_wp2
    all_goals go_ret
    all_goals exact ⟨rfl, rfl⟩
  have h1' : 0 ≤ a := by omega
  have h2' : 0 ≤ n := by omega
  by_cases h3 : (len : Int) < a
  · go_enter Try.func30, Try.ntmps30
    go_wp2
    all_goals go_ret
    all_goals exact ⟨rfl, rfl⟩
  have h3' : a ≤ (len : Int) := by omega
  by_cases h4 : (len : Int) < n
  · go_enter Try.func30, Try.ntmps30
    go_wp2
    all_goals go_ret
    all_goals exact ⟨rfl, rfl⟩
  have h4' : n ≤ (len : Int) := by omega
  have h5 : (len : Int) < a + n := by have := H.out; omega
  have h6 : decide (a + n ≤ (len : Int)) = false := by simp; omega
  clear h1 h2 h3 h4
  go_enter Try.func30, Try.ntmps30
  go_wp2
  all_goals go_ret
  all_goals exact ⟨by simp_all, rfl⟩
theorem rread_yes (b c : Nat) (L : List Int) (a : Nat) (w : World) (hm : Mem 42 w b c L) (h : a < L.length) :
    Calls Try.prog 25 #[.pointer (some ⟨b, 0, none⟩), .int .i64 a] w fun e w' => e = .returned (.tuple #[.int .u64 (L.getD a 0), .int .i64 0]) ∧ w' = w := by
  have hc := hm.cell
  have hx := hm.row.cell h
  generalize L.getD a 0 = x at *
  have hi : (a : Int) < (L.length : Int) := by omega
  go_enter Try.func25, Try.ntmps25
  go_wp2
  go_ret2
  exact ⟨rfl, rfl⟩
theorem rread_no (b c : Nat) (L : List Int) (a : Int) (w : World) (hm : Mem 42 w b c L) (h : thereB L.length a 1 = false) :
    Calls Try.prog 25 #[.pointer (some ⟨b, 0, none⟩), .int .i64 a] w fun e w' => e = .returned (.tuple #[.int .u64 0, .int .i64 20]) ∧ w' = w := by
  have hc := hm.cell
  have h' : ¬ (0 ≤ a ∧ 0 ≤ (1 : Int) ∧ a + 1 ≤ (L.length : Int)) := by simpa [thereB] using h
  clear h
  by_cases h1 : a < 0
  · clear h'
    go_enter Try.func25, Try.ntmps25
    go_wp2
    go_ret2
    exact ⟨rfl, rfl⟩
  · have h2 : 0 ≤ a := by omega
    have h3 : (L.length : Int) ≤ a := by omega
    clear h' h1
    go_enter Try.func25, Try.ntmps25
    go_wp2
    go_ret2
    exact ⟨rfl, rfl⟩
theorem rwrite_yes (b c : Nat) (L : List Int) (a : Nat) (v : Int) (w : World) (hm : Mem 42 w b c L) (h : a < L.length) :
    Calls Try.prog 26 #[.pointer (some ⟨b, 0, none⟩), .int .i64 a, .int .u64 v] w fun e w' => e = .returned (.int .i64 0) ∧ Mem 42 w' b c (L.set a v) ∧ Upto c w w' := by
  have hc := hm.cell
  have hx := hm.row.cell h
  have hf := hm.row.frozen a
  generalize L.getD a 0 = x at *
  have hi : (a : Int) < (L.length : Int) := by omega
  go_enter Try.func26, Try.ntmps26
  go_wp2
  go_ret
  exact ⟨rfl, hm.set a v, (Upto.refl _ _).setCell a _⟩
theorem rwrite_no (b c : Nat) (L : List Int) (a v : Int) (w : World) (hm : Mem 42 w b c L) (h : thereB L.length a 1 = false) :
    Calls Try.prog 26 #[.pointer (some ⟨b, 0, none⟩), .int .i64 a, .int .u64 v] w fun e w' => e = .returned (.int .i64 20) ∧ w' = w := by
  have hc := hm.cell
  have h' : ¬ (0 ≤ a ∧ 0 ≤ (1 : Int) ∧ a + 1 ≤ (L.length : Int)) := by simpa [thereB] using h
  clear h
  by_cases h1 : a < 0
  · clear h'
    go_enter Try.func26, Try.ntmps26
    go_wp2
    go_ret
    exact ⟨rfl, rfl⟩
  · have h2 : 0 ≤ a := by omega
    have h3 : (L.length : Int) ≤ a := by omega
    clear h' h1
    go_enter Try.func26, Try.ntmps26
    go_wp2
    go_ret
    exact ⟨rfl, rfl⟩
theorem rfill_no (b c : Nat) (L : List Int) (a n v : Int) (w : World) (hm : Mem 42 w b c L) (hl : L.length ≤ 65536) (ht : thereB L.length a n = false) :
    Calls Try.prog 28 #[.pointer (some ⟨b, 0, none⟩), .int .i64 a, .int .i64 n, .int .u64 v] w fun e w' => e = .returned (.int .i64 20) ∧ w' = w := by
  go_enter Try.func28, Try.ntmps28
  go_wp2_with fail
  refine (rthere_no b c L a n w hm hl ht).mono ?_
  rintro e w' ⟨rfl, rfl⟩
  go_wp2
  go_ret
  exact ⟨rfl, rfl⟩
theorem rfill_yes (b c : Nat) (L : List Int) (a n : Nat) (v : Int) (w : World) (hm : Mem 42 w b c L) (hl : L.length ≤ 65536) (h : a + n ≤ L.length) :
    Calls Try.prog 28 #[.pointer (some ⟨b, 0, none⟩), .int .i64 a, .int .i64 n, .int .u64 v] w fun e w' => e = .returned (.int .i64 0) ∧ Mem 42 w' b c (fillL L a n v) ∧ Upto c w w' := by
  have ht := rthere_yes b c L a n w hm hl h
  go_enter Try.func28, Try.ntmps28
  go_wp2_with fail
  refine ht.mono ?_
  rintro e w' ⟨rfl, rfl⟩
  clear ht
  go_wp2
  go_loopw [9] (fun i wr => ∃ k : Nat, k ≤ n ∧ i = .int .i64 ((a : Int) + (k : Int)) ∧ Mem 42 wr b c (fillL L a k v) ∧ Upto c w' wr) (fun i _ => a + n - (intOf i).toNat)
  case atStart => exact ⟨0, Nat.zero_le _, by simp, by rw [fillL_zero]; exact hm, Upto.refl _ _⟩
  case round =>
    obtain ⟨k, hk, rfl, mr, ur⟩ := hrel
    have e1 := fillL_len L a k v (by omega)
    by_cases hkn : k < n
    · have hc := mr.cell
      have hx := mr.row.cell (j := a + k) (by omega)
      have hf := mr.row.frozen (a + k)
      have m2 := mr.set (a + k) v
      rw [fillL_step L a k v (by omega)] at m2
      have u2 := ur.setCell (a + k) (.int .u64 v)
      rw [e1] at hc
      generalize (fillL L a k v).getD (a + k) 0 = x at *
      generalize L.length = len at *
      have g1 : (a : Int) + (k : Int) < (a : Int) + (n : Int) := by omega
      have g2 : (a : Int) + (k : Int) < (len : Int) := by omega
      have g3 : ((a : Int) + (k : Int)).toNat = a + k := by omega
      clear mr ur hm
      go_wp2
      go_roundw
      case rel => exact ⟨k + 1, by omega, by go_num, m2, u2⟩
      case measure => simp [intOf]; omega
    · have hkn' : k = n := by omega
      subst hkn'
      go_wp2
      go_ret
      exact ⟨rfl, mr, ur⟩
end Go.Proofs.Ytfdddikgcfejpaa

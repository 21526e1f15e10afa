/-
  Read, Write, Words, Copy, Move and Fill of package memory, each by its contract; no condition of ours.
-/
import Derived.Test.YtfdddikgcfejpaaMemOps
namespace Go.Proofs.Ytfdddikgcfejpaa
open Go.RowKit Go.Deep
theorem thereB_yes {len a n : Int} (h0 : 0 ≤ a) (h1 : 0 ≤ n) (h2 : a + n ≤ len) : thereB len a n = true := by simp [thereB, h0, h1, h2]
theorem thereB_of {len a n : Int} (h : thereB len a n = true) : 0 ≤ a ∧ 0 ≤ n ∧ a + n ≤ len := by simpa [thereB] using h

theorem read_yes (b c : Nat) (L : List Int) (a : Nat) (w : World) (hm : Mem 55 w b c L) (hl : L.length ≤ 65536) (h : a < L.length) :
    Calls Try.prog 19 #[.pointer (some ⟨b, 0, none⟩), .int .i64 a] w fun e w' => e = .returned (.tuple #[.int .u64 (L.getD a 0), .int .i64 0]) ∧ w' = w := by
  have ht := thereB_yes (len := L.length) (a := a) (n := 1) (by omega) (by omega) (by omega)
  have hc := hm.cell
  have hx := hm.row.cell h
  generalize L.getD a 0 = x at *
  have hi : (a : Int) < (L.length : Int) := by omega
  go_enter Try.func19, Try.ntmps19
  go_wp2_with fail
  refine (there_any b c L a 1 w hm hl (by omega)).mono ?_
  rintro e w' ⟨rfl, rfl⟩
  rw [ht]
  go_wp2
  go_ret2
  exact ⟨rfl, rfl⟩
theorem read_no (b c : Nat) (L : List Int) (a : Int) (w : World) (hm : Mem 55 w b c L) (hl : L.length ≤ 65536) (ha : a ≤ 9223372036854775807) (ht : thereB L.length a 1 = false) :
    Calls Try.prog 19 #[.pointer (some ⟨b, 0, none⟩), .int .i64 a] w fun e w' => e = .returned (.tuple #[.int .u64 0, .int .i64 20]) ∧ w' = w := by
  go_enter Try.func19, Try.ntmps19
  go_wp2_with fail
  refine (there_any b c L a 1 w hm hl ha).mono ?_
  rintro e w' ⟨rfl, rfl⟩
  rw [ht]
  go_wp2
  go_ret2
  exact ⟨rfl, rfl⟩
theorem write_yes (b c : Nat) (L : List Int) (a : Nat) (v : Int) (w : World) (hm : Mem 55 w b c L) (hl : L.length ≤ 65536) (h : a < L.length) :
    Calls Try.prog 18 #[.pointer (some ⟨b, 0, none⟩), .int .i64 a, .int .u64 v] w fun e w' => e = .returned (.int .i64 0) ∧ Mem 55 w' b c (L.set a v) ∧ Upto c w w' := by
  have ht := thereB_yes (len := L.length) (a := a) (n := 1) (by omega) (by omega) (by omega)
  have hc := hm.cell
  have hx := hm.row.cell h
  have hf := hm.row.frozen a
  generalize L.getD a 0 = x at *
  have hi : (a : Int) < (L.length : Int) := by omega
  go_enter Try.func18, Try.ntmps18
  go_wp2_with fail
  refine (there_any b c L a 1 w hm hl (by omega)).mono ?_
  rintro e w' ⟨rfl, rfl⟩
  rw [ht]
  go_wp2
  go_ret
  exact ⟨rfl, hm.set a v, (Upto.refl _ _).setCell a _⟩
theorem write_no (b c : Nat) (L : List Int) (a v : Int) (w : World) (hm : Mem 55 w b c L) (hl : L.length ≤ 65536) (ha : a ≤ 9223372036854775807) (ht : thereB L.length a 1 = false) :
    Calls Try.prog 18 #[.pointer (some ⟨b, 0, none⟩), .int .i64 a, .int .u64 v] w fun e w' => e = .returned (.int .i64 20) ∧ w' = w := by
  go_enter Try.func18, Try.ntmps18
  go_wp2_with fail
  refine (there_any b c L a 1 w hm hl ha).mono ?_
  rintro e w' ⟨rfl, rfl⟩
  rw [ht]
  go_wp2
  go_ret
  exact ⟨rfl, rfl⟩
theorem words_yes (b c : Nat) (L : List Int) (a n : Nat) (w : World) (hm : Mem 55 w b c L) (hl : L.length ≤ 65536) (h : a + n ≤ L.length) :
    Calls Try.prog 14 #[.pointer (some ⟨b, 0, none⟩), .int .i64 a, .int .i64 n] w fun e w' => e = .returned (.tuple #[.slice (some ⟨w.heap.size, 0, none⟩) n n, .int .i64 0]) ∧ Row w' w.heap.size (wordsL L a n) ∧ Below w.heap.size w w' := by
  have ht := thereB_yes (len := L.length) (a := a) (n := n) (by omega) (by omega) (by omega)
  have e1 := wordsL_len L a n h
  have tp := told_part hm.row a n h
  go_enter Try.func14, Try.ntmps14
  go_wp2_with fail
  refine (there_any b c L a n w hm hl (by omega)).mono ?_
  rintro e w' ⟨rfl, rfl⟩
  rw [ht]
  go_wp2_with fail
  refine (part_any b c L a n w' hm hl h).mono ?_
  rintro e w'' ⟨rfl, rfl⟩
  go_wp2_with fail
  have ow := own_any (partAt c a n) (wordsL L a n) n w'' tp (by omega)
  rw [e1] at ow
  refine ow.mono ?_
  rintro e w3 ⟨rfl, r3, b3⟩
  clear ow tp
  go_wp2
  go_ret2
  exact ⟨rfl, r3, b3⟩
theorem words_no (b c : Nat) (L : List Int) (a n : Int) (w : World) (hm : Mem 55 w b c L) (hl : L.length ≤ 65536) (ha : a ≤ 9223372036854775807) (ht : thereB L.length a n = false) :
    Calls Try.prog 14 #[.pointer (some ⟨b, 0, none⟩), .int .i64 a, .int .i64 n] w fun e w' => e = .returned (.tuple #[.slice none 0 0, .int .i64 20]) ∧ w' = w := by
  go_enter Try.func14, Try.ntmps14
  go_wp2_with fail
  refine (there_any b c L a n w hm hl ha).mono ?_
  rintro e w' ⟨rfl, rfl⟩
  rw [ht]
  go_wp2
  go_ret2
  exact ⟨rfl, rfl⟩
theorem copy_any (b c : Nat) (L : List Int) (w : World) (hm : Mem 55 w b c L) (hl : L.length ≤ 65536) :
    Calls Try.prog 11 #[.pointer (some ⟨b, 0, none⟩)] w fun e w' => ∃ b', e = .returned (.pointer (some ⟨b', 0, none⟩)) ∧ Mem 55 w' b' w.heap.size L ∧ w.heap.size < b' ∧ Below w.heap.size w w' := by
  have hc := hm.cell
  go_enter Try.func11, Try.ntmps11
  go_wp2_with fail
  refine (own_any (some ⟨c, 0, none⟩) L L.length w hm.row.told hl).mono ?_
  rintro e w1 ⟨rfl, r1, b1⟩
  have hs := r1.lt
  have hmm : Mem 55 (w1.alloc (.cells #[.slice (some ⟨w.heap.size, 0, none⟩) L.length L.length] 55)) w1.heap.size w.heap.size L := ⟨blk_alloc_new _ _, r1.alloc _, by omega⟩
  have hb := b1.alloc b1.size (.cells #[.slice (some ⟨w.heap.size, 0, none⟩) L.length L.length] 55)
  clear r1 b1
  go_wp2
  go_ret
  exact ⟨_, rfl, hmm, hs, hb⟩
theorem move_yes (b c : Nat) (L : List Int) (t f n : Nat) (w : World) (hm : Mem 55 w b c L) (hl : L.length ≤ 65536) (h : t + n ≤ L.length) (hf : f + n ≤ L.length) :
    Calls Try.prog 20 #[.pointer (some ⟨b, 0, none⟩), .int .i64 t, .int .i64 f, .int .i64 n] w fun e w' => e = .returned (.int .i64 0) ∧ Mem 55 w' b c (moveL L t f n) ∧ Upto c w w' := by
  have ht := thereB_yes (len := L.length) (a := t) (n := n) (by omega) (by omega) (by omega)
  have hg := thereB_yes (len := L.length) (a := f) (n := n) (by omega) (by omega) (by omega)
  have e1 := wordsL_len L f n hf
  obtain ⟨w2, hcp, r2, u2⟩ := copy_words w 3 c t n n n (partAt c t n) (partAt c f n) L (wordsL L f n) hm.row (fun h0 => by
    have : n ≠ 0 := by rintro rfl; simp [wordsL] at h0
    simp [partAt, this]) (told_part hm.row f n hf) e1 h
  have m2 : Mem 55 w2 b c (moveL L t f n) := hm.turn u2 r2 (moveL_len L t f n h hf)
  clear r2 e1
  go_enter Try.func20, Try.ntmps20
  go_wp2_with fail
  refine (there_any b c L t n w hm hl (by omega)).mono ?_
  rintro e w' ⟨rfl, rfl⟩
  rw [ht]
  go_wp2_with fail
  refine (there_any b c L f n _ hm hl (by omega)).mono ?_
  rintro e w' ⟨rfl, rfl⟩
  rw [hg]
  go_wp2_with fail
  refine (part_any b c L t n _ hm hl h).mono ?_
  rintro e w' ⟨rfl, rfl⟩
  go_wp2_with fail
  refine (part_any b c L f n _ hm hl hf).mono ?_
  rintro e w' ⟨rfl, rfl⟩
  go_wp2
  go_ret
  exact ⟨rfl, m2, u2⟩
theorem move_no (b c : Nat) (L : List Int) (t f n : Int) (w : World) (hm : Mem 55 w b c L) (hl : L.length ≤ 65536) (hta : t ≤ 9223372036854775807) (hfa : f ≤ 9223372036854775807) (h : thereB L.length t n = false ∨ thereB L.length f n = false) :
    Calls Try.prog 20 #[.pointer (some ⟨b, 0, none⟩), .int .i64 t, .int .i64 f, .int .i64 n] w fun e w' => e = .returned (.int .i64 20) ∧ w' = w := by
  by_cases h1 : thereB L.length t n = false
  · go_enter Try.func20, Try.ntmps20
    go_wp2_with fail
    refine (there_any b c L t n w hm hl hta).mono ?_
    rintro e w' ⟨rfl, rfl⟩
    rw [h1]
    go_wp2
    go_ret
    exact ⟨rfl, rfl⟩
  · have h2 : thereB L.length f n = false := by simpa [h1] using h
    have h3 : thereB L.length t n = true := by simpa using h1
    clear h h1
    go_enter Try.func20, Try.ntmps20
    go_wp2_with fail
    refine (there_any b c L t n w hm hl hta).mono ?_
    rintro e w' ⟨rfl, rfl⟩
    rw [h3]
    go_wp2_with fail
    refine (there_any b c L f n _ hm hl hfa).mono ?_
    rintro e w' ⟨rfl, rfl⟩
    rw [h2]
    go_wp2
    go_ret
    exact ⟨rfl, rfl⟩
end Go.Proofs.Ytfdddikgcfejpaa

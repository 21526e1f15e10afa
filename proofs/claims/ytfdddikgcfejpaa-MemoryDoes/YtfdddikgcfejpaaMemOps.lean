/-
  The calls of package memory, each by its contract: what it answers, and what it leaves; no condition of ours.
-/
import Derived.Test.YtfdddikgcfejpaaMemBase
namespace Go.Proofs.Ytfdddikgcfejpaa
open Go.RowKit Go.Deep
theorem info64 : (Try.prog.info? 30).map (fun i => (i.zero, i.size, i.bytes)) = some (some (.int .u64 0), 1, 8) := by kernel_rfl
theorem size64 : (Try.prog.info? 30).map (·.size) = some 1 := by kernel_rfl
/-- Are n words from place a on among len? -/
def thereB (len a n : Int) : Bool := decide (0 ≤ a ∧ 0 ≤ n ∧ a + n ≤ len)

theorem mem_new (w : World) (n : Nat) (t : TypeId) :
    Mem t ((w.alloc (.cells (madeCells #[.int .u64 0] n) 30)).alloc (.cells #[.slice (some ⟨w.heap.size, 0, none⟩) n n] t)) (w.heap.size + 1) w.heap.size (List.replicate n 0) ∧
    Below w.heap.size w ((w.alloc (.cells (madeCells #[.int .u64 0] n) 30)).alloc (.cells #[.slice (some ⟨w.heap.size, 0, none⟩) n n] t)) := by
  refine ⟨⟨?_, (Row.made w n).alloc _, by omega⟩, ((Below.refl _ _).alloc (Nat.le_refl _) _).alloc (by simp) _⟩
  have e := blk_alloc_new (w.alloc (.cells (madeCells #[.int .u64 0] n) 30)) (.cells #[.slice (some ⟨w.heap.size, 0, none⟩) n n] t)
  rw [nblk_alloc] at e
  simpa using e
theorem new_yes (n : Nat) (w : World) (h1 : 1 ≤ n) (h2 : n ≤ 65536) :
    Calls Try.prog 9 #[.int .i64 n] w fun e w' => e = .returned (.tuple #[.pointer (some ⟨w.heap.size + 1, 0, none⟩), .int .i64 0]) ∧ Mem 55 w' (w.heap.size + 1) w.heap.size (List.replicate n 0) ∧ Below w.heap.size w w' := by
  have hmk := run_make_row' (P := Try.prog) 36 30 (.int .u64 0) 8 Try.underlying36 info64 rfl .i64 .i64 n (by omega) (by omega)
  have R := mem_new w n 55
  go_enter Try.func9, Try.ntmps9
  go_wp2
  go_ret2
  exact ⟨rfl, R⟩
theorem new_no (n : Int) (w : World) (h : n < 1 ∨ 65536 < n) :
    Calls Try.prog 9 #[.int .i64 n] w fun e w' => e = .returned (.tuple #[.pointer none, .int .i64 1]) ∧ w' = w := by
  rcases h with h | h
  · go_enter Try.func9, Try.ntmps9
    go_wp2
    go_ret2
    exact ⟨rfl, rfl⟩
  · have h1 : (1 : Int) ≤ n := by omega
    go_enter Try.func9, Try.ntmps9
    go_wp2
    go_ret2
    exact ⟨rfl, rfl⟩
theorem there_any (b c : Nat) (L : List Int) (a n : Int) (w : World) (hm : Mem 55 w b c L) (hl : L.length ≤ 65536) (ha : a ≤ 9223372036854775807) :
    Calls Try.prog 23 #[.pointer (some ⟨b, 0, none⟩), .int .i64 a, .int .i64 n] w fun e w' => e = .returned (.bool (thereB L.length a n)) ∧ w' = w := by
  have hc := hm.cell
  generalize L.length = len at *
  go_enter Try.func23, Try.ntmps23
  go_wp2
  all_goals go_ret
  all_goals (refine ⟨congrArg (fun x => Ending.returned (Value.bool x)) (?_ : _ = thereB (len : Int) a n), rfl⟩; simp only [thereB]; rw [Bool.eq_iff_iff]; simp; try omega)
theorem size_any (b c : Nat) (L : List Int) (w : World) (hm : Mem 55 w b c L) :
    Calls Try.prog 15 #[.pointer (some ⟨b, 0, none⟩)] w fun e w' => e = .returned (.int .i64 L.length) ∧ w' = w := by
  have hc := hm.cell
  go_enter Try.func15, Try.ntmps15
  go_wp2
  go_ret
  exact ⟨rfl, rfl⟩
/-- Where a part of the row at c begins. -/
def partAt (c a n : Nat) : Option Addr := if n = 0 then some ⟨c, 0, none⟩ else some ⟨c, a, none⟩
theorem part_any (b c : Nat) (L : List Int) (a n : Nat) (w : World) (hm : Mem 55 w b c L) (hl : L.length ≤ 65536) (h : a + n ≤ L.length) :
    Calls Try.prog 24 #[.pointer (some ⟨b, 0, none⟩), .int .i64 a, .int .i64 n] w fun e w' => e = .returned (.slice (partAt c a n) n n) ∧ w' = w := by
  have hc := hm.cell
  generalize L.length = len at *
  by_cases hn : n = 0
  · subst hn
    go_enter Try.func24, Try.ntmps24
    go_wp2
    go_ret
    exact ⟨rfl, rfl⟩
  · have ht : ¬ a + n = a := by omega
    have hs : a + n - a = n := by omega
    have hp : partAt c a n = some ⟨c, a, none⟩ := by simp [partAt, hn]
    go_enter Try.func24, Try.ntmps24
    go_wp2
    go_ret
    refine ⟨?_, rfl⟩
    show Ending.returned (Value.slice (some ⟨c, a, none⟩) (a + n - a) (a + n - a)) = _
    rw [hs, hp]
theorem told_part {w : World} {c : Nat} {L : List Int} (h : Row w c L) (a n : Nat) (ha : a + n ≤ L.length) : Told w (partAt c a n) (wordsL L a n) := by
  by_cases hn : n = 0
  · subst hn
    exact .inl (by simp [wordsL])
  · refine .inr ⟨c, a, by simp [partAt, hn], h.lt, fun j hj => ?_⟩
    rw [wordsL_len L a n ha] at hj
    rw [wordsL_get L a n j ha hj]
    exact h.cell (by omega)
theorem upto_setRow (w : World) (g : Nat) (cs : Array Value) : Upto g w (w.setRow g cs) :=
  ⟨rfl, rfl, rfl, by simp [World.setRow], fun k _ hk => setRow_other w g k cs hk⟩
/-- copy, where the words that go over, and the row that they go to, are known. -/
theorem copy_words (w : World) (ty : TypeId) (g o dcap cap n : Nat) (dp sp : Option Addr) (L cs : List Int) (hr : Row w g L) (hdp : cs ≠ [] → dp = some ⟨g, o, none⟩) (ht : Told w sp cs) (hn : cs.length = n) (hfit : o + n ≤ L.length) :
    ∃ w2, (Builtin.copy_ #[36, 36] ty #[.slice dp n dcap, .slice sp n cap]).run Try.prog w = .ok (goInt n) w2 ∧ Row w2 g (splice L o cs) ∧ Upto g w w2 := by
  subst hn
  rcases ht with rfl | ⟨b, q, rfl, hb, hc⟩
  · refine ⟨w, ?_, by simpa [splice] using hr, Upto.refl _ _⟩
    exact run_copy_none (P := Try.prog) w 36 36 ty 30 dp sp _ _ _ _ Try.underlying36 size64 (by simp)
  · by_cases h0 : cs = []
    · subst h0
      refine ⟨w, ?_, by simpa [splice] using hr, Upto.refl _ _⟩
      exact run_copy_none (P := Try.prog) w 36 36 ty 30 dp _ _ _ _ _ Try.underlying36 size64 (by simp)
    · obtain rfl := hdp h0
      have e := run_copy_row (P := Try.prog) w 36 36 ty 30 g o cs.length dcap ⟨b, q, none⟩ cs.length cap (cells64 L).toArray 30 (cells64 cs) Try.underlying36 size64 hr (by simp [cells64])
        (fun j v hjv => by
          have hj : j < cs.length := by have := (List.getElem?_eq_some_iff.1 hjv).1; rwa [cells64_len] at this
          rw [cells64_get cs j hj] at hjv
          rw [show (⟨b, q, none⟩ : Addr).add j = ⟨b, q + j, none⟩ by unfold Addr.add; split <;> simp_all, hc j hj]
          exact hjv) (by simpa [cells64] using hfit) (cells64_one cs)
      rw [cells64_len] at e
      refine ⟨_, e, ?_, upto_setRow _ _ _⟩
      unfold Row
      rw [← cells64_splice]
      have := setRow_heap w g (cells64 L).toArray ((cells64 L).toArray.toList.take o ++ cells64 cs ++ (cells64 L).toArray.toList.drop (o + cs.length)).toArray 30 (0, 0) hr
      rw [this]
      simp [splice, cells64_len]
theorem own_any (ao : Option Addr) (L : List Int) (cap : Nat) (w : World) (hv : Told w ao L) (hl : L.length ≤ 65536) :
    Calls Try.prog 22 #[.slice ao L.length cap] w fun e w' => e = .returned (.slice (some ⟨w.heap.size, 0, none⟩) L.length L.length) ∧ Row w' w.heap.size L ∧ Below w.heap.size w w' := by
  have hmk := run_make_row' (P := Try.prog) 36 30 (.int .u64 0) 8 Try.underlying36 info64 rfl .i64 .i64 L.length (by omega) (by omega)
  have hb : Below w.heap.size w (w.alloc (.cells (madeCells #[.int .u64 0] L.length) 30)) := (Below.refl _ _).alloc (Nat.le_refl _) _
  obtain ⟨w2, hcp, r2, u2⟩ := copy_words (w.alloc (.cells (madeCells #[.int .u64 0] L.length) 30)) 3 w.heap.size 0 L.length cap L.length (some ⟨w.heap.size, 0, none⟩) ao _ L (Row.made w L.length) (fun _ => rfl) (hv.below hb) rfl (by simp)
  have r3 : Row w2 w.heap.size L := by simpa [splice] using r2
  have b3 := u2.below hb (by simp) (Nat.le_refl _)
  clear r2 u2 hb hv
  go_enter Try.func22, Try.ntmps22
  go_wp2
  go_ret
  exact ⟨rfl, r3, b3⟩
end Go.Proofs.Ytfdddikgcfejpaa

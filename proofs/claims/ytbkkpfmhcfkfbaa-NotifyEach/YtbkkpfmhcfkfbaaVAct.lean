/-
  What Signal and Wait of package notify answer, and leave; no condition but that few wait, and that a badge is a word.
-/
import Derived.Test.YtbkkpfmhcfkfbaaVMeth
namespace Go.Proofs.Ytbkkpfmhcfkfbaa
open Go.RowKit Go.Deep Go.Shelf

section
variable {w0 w : World} {r p : Nat} {v : Value} {S : Ns} {R : List Th}
set_option maxHeartbeats 1000000 in
theorem signal_sep (s : Sep w0 r w (ntT p v S :: R)) (g : Int) (hg : U64 g) (hl : S.l.length ≤ 1000) :
    Calls Try.prog 10 #[ptr p, .int .u64 g] w fun e w' => e = .returned (.tuple #[.int .i64 (sigN S), .int .u64 (sigW S g), .bool (sigB S)]) ∧ ∃ v', Sep w0 r w' (ntT p v' (sigS S g) :: R) := by
  obtain ⟨c0, c1, c2⟩ := s.cellsP
  obtain ⟨b, x, L⟩ := S
  cases L with
  | nil =>
    have f0 := s.frozenP 0
    have f1 := s.frozenP 1
    obtain ⟨ao, cap, rfl, -⟩ := s.sliceP
    have S1 := hid (s.flag (T := sigS ⟨b, x, []⟩ g) (good_sig s.good hg) rfl)
    simp only [sigN, sigW, sigB, sigS, orI, List.length_nil] at *
    clear s
    go_enter Try.func10, Try.ntmps10
    go_wp2
    go_ret3
    exact ⟨rfl, _, S1.out⟩
  | cons n T =>
    have HC := hid (cancel_sep s n hl)
    have HO : Hid (canS ⟨b, x, n :: T⟩ n = ⟨b, x, T⟩) := by
      show canS _ _ = _
      simp only [canS, out_first s.good.one]
    obtain ⟨ao, cap, rfl, hgr⟩ := s.sliceP
    obtain ⟨gb, rfl⟩ := hgr 0 (by simp)
    have c3 := RowI.cell (NtH.row s.head) (i := 0) (x := n) rfl
    have hn0 : (0 : Int) < ((n :: T).length : Int) := by simp
    have hn1 : 0 < (n :: T).length := by simp
    simp only [sigN, sigW, sigB, sigS] at *
    clear s hgr
    generalize (n :: T).length = m at *
    go_enter Try.func10, Try.ntmps10
    go_wp2_with fail
    refine Calls.mono HC.out ?_
    rintro e w1 ⟨rfl, v1, s1⟩
    rw [HO.out] at s1
    have S1 := hid s1
    clear s1 HC c0 c1 c2 c3
    go_wp2
    go_ret3
    exact ⟨rfl, _, S1.out⟩
set_option maxHeartbeats 2000000 in
theorem wait_sep (s : Sep w0 r w (ntT p v S :: R)) (n : Int) (z : Bool) (hl : S.l.length ≤ 1000) :
    Calls Try.prog 12 #[ptr p, .int .i64 n, .bool z] w fun e w' => e = .returned (.tuple #[.int .u64 (waitW S n), .bool (waitB S n), .int .i64 (waitE S n)]) ∧ ∃ v', Sep w0 r w' (ntT p v' (waitS S n z) :: R) := by
  obtain ⟨c0, c1, c2⟩ := s.cellsP
  have HC := hid (contains_any v S.l n w (NtH.row s.head) hl)
  have hth : S.l.contains n = thB S n := rfl
  rw [hth] at HC
  cases ht : thB S n with
  | true =>
    obtain ⟨ao, cap, rfl, -⟩ := s.sliceP
    have S1 := hid s
    simp only [waitW, waitB, waitE, waitS, ht, if_true]
    rw [ht] at HC
    clear s ht hth
    generalize S.l.length = m at *
    go_enter Try.func12, Try.ntmps12
    go_wp2_with (go_at_call 22; refine Calls.mono HC.out ?_; rintro e w' ⟨rfl, rfl⟩)
    go_ret3
    exact ⟨rfl, _, S1.out⟩
  | false =>
    rw [ht] at HC
    have HG := hid (good_wait s.good n z)
    cases hb : S.b with
    | true =>
      have f0 := s.frozenP 0
      have f1 := s.frozenP 1
      obtain ⟨ao, cap, rfl, -⟩ := s.sliceP
      simp only [waitW, waitB, waitE, waitS, ht, hb, if_true] at HG ⊢
      have S1 := hid (s.flag HG.out rfl)
      rw [hb] at c0
      simp only [Bool.false_eq_true, if_false] at S1 ⊢
      clear s ht hth hb HG
      generalize S.l.length = m at *
      go_enter Try.func12, Try.ntmps12
      go_wp2_with (go_at_call 22; refine Calls.mono HC.out ?_; rintro e w' ⟨rfl, rfl⟩)
      go_ret3
      exact ⟨rfl, _, S1.out⟩
    | false =>
      rw [hb] at c0
      cases z with
      | false =>
        obtain ⟨ao, cap, rfl, -⟩ := s.sliceP
        have S1 := hid s
        simp only [waitW, waitB, waitE, waitS, ht, hb, Bool.false_eq_true, if_false]
        clear s ht hth hb HG
        generalize S.l.length = m at *
        go_enter Try.func12, Try.ntmps12
        go_wp2_with (go_at_call 22; refine Calls.mono HC.out ?_; rintro e w' ⟨rfl, rfl⟩)
        go_ret3
        exact ⟨rfl, _, S1.out⟩
      | true =>
        have f2 := s.frozenP 2
        have b1 := below_new w (.cells #[.int .i64 n] 3)
        have s1 := s.below b1
        obtain ⟨v3, w3, r3, row3, g3, o3⟩ := append_one okI 27 n w.heap.size (NtH.row s1.head) (fun j c hj => by
          have := blk_alloc_new w (.cells #[.int .i64 n] 3)
          simp only [World.cell?]
          rw [this]
          simpa [elI, cI] using hj) (by omega)
        simp only [waitW, waitB, waitE, waitS, ht, hb, Bool.false_eq_true, if_false, if_true] at HG ⊢
        rw [← hb] at HG ⊢
        have S3 := hid (s1.regrow g3 row3 (o3.imp id fun e x hx => by rw [e] at hx; cases hx; exact Nat.le_refl _) HG.out rfl rfl)
        rw [hb] at S3 ⊢
        obtain ⟨ao, cap, rfl, -⟩ := s.sliceP
        obtain ⟨a3, k3, rfl, -⟩ := Row.slice row3
        have f3 : w3.frozen? ⟨p, 2, none⟩ = false := by
          have h1 : NtH p _ S _ := s1.head
          have hp := (Array.getElem?_eq_some_iff.1 h1.head).1
          have := (g3.block p hp fun e => h1.ne e.symm).trans h1.head
          unfold objN at this
          simp [World.frozen?, this]
        have c3 : w3.cell? ⟨p, 2, none⟩ = some (.slice ao S.l.length cap) := by
          have h1 : NtH p _ S _ := s1.head
          have hp := (Array.getElem?_eq_some_iff.1 h1.head).1
          have := (g3.block p hp fun e => h1.ne e.symm).trans h1.head
          unfold objN at this
          simp [World.cell?, this]
        simp only [elI] at r3
        have R3 := hid r3
        clear s s1 r3 row3 g3 o3 b1 ht hth hb HG
        generalize (S.l ++ [n]).length = m3 at *
        generalize S.l.length = m at *
        go_enter Try.func12, Try.ntmps12
        go_wp2_with (first
          | (at_builtin; refine wpList_append_run rfl _ _ _ _ rfl _ _ _ _ rfl rfl R3.out ?_)
          | (go_at_call 22; refine Calls.mono HC.out ?_; rintro e w' ⟨rfl, rfl⟩))
        go_ret3
        exact ⟨rfl, _, S3.out⟩
end
end Go.Proofs.Ytbkkpfmhcfkfbaa

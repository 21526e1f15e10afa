/-
  What New, Signal, Wait, Cancel, Word, Waits and Copy of package notify answer, and leave; no condition but that few wait, and that a badge is a word.
-/
import Derived.Test.YtbkkpfmhcfkfbaaVDel
namespace Go.Proofs.Ytbkkpfmhcfkfbaa
open Go.RowKit Go.Deep Go.Shelf

section
variable {w0 w : World} {r p : Nat} {v : Value} {S : Ns} {R : List Th}
theorem new_sep (s : Sep w0 r w R) : Calls Try.prog 9 #[] w fun e w' => ∃ p v, e = .returned (ptr p) ∧ Sep w0 r w' (ntT p v ns0 :: R) := by
  have S1 := hid (Sep.nt (S := ns0) (s.nil (E := elI)) good_0)
  clear s
  unfold objN at S1
  simp only [ns0] at S1
  go_enter Try.func9, Try.ntmps9
  go_wp2
  go_ret
  exact ⟨_, _, rfl, S1.out⟩
theorem word_any (p : Nat) (v : Value) (S : Ns) (w : World) (h : NtH p v S w) :
    Calls Try.prog 17 #[ptr p] w fun e w' => e = .returned (.tuple #[.int .u64 S.w, .bool S.b]) ∧ Below w.heap.size w w' := by
  obtain ⟨c0, c1, -⟩ := h.cells
  clear h
  go_enter Try.func17, Try.ntmps17
  go_wp2_with fail
  go_quiet (fail)
  go_wp2
  go_ret2
  exact ⟨rfl, below_drewN (Below.refl _ _) _⟩
theorem waits_sep (s : Sep w0 r w (ntT p v S :: R)) (hl : S.l.length ≤ 1000) :
    Calls Try.prog 19 #[ptr p] w fun e w' => ∃ ao cap, e = .returned (.slice ao S.l.length cap) ∧ Sep w0 r w' (ntT p v S :: lstI (.slice ao S.l.length cap) S.l :: R) := by
  obtain ⟨-, -, c2⟩ := s.cellsP
  have HC := hid (clone_any v S.l w (NtH.row s.head) hl)
  obtain ⟨ao, cap, rfl, -⟩ := s.sliceP
  have S1 := hid s
  clear s
  generalize hN : S.l.length = n at *
  go_enter Try.func19, Try.ntmps19
  go_wp2_with fail
  refine Calls.mono HC.out ?_
  rintro e w1 ⟨v1, rfl, s1⟩
  obtain ⟨a1, c1, rfl⟩ := s1.listIs (E := elI) (v := v1) (A := S.l) (by simp)
  have S2 := hid (S1.out.join s1).swap
  clear s1 S1 HC
  rw [hN] at *
  clear c2
  go_wp2
  go_ret
  exact ⟨_, _, rfl, S2.out⟩
set_option maxHeartbeats 1000000 in
theorem cancel_sep (s : Sep w0 r w (ntT p v S :: R)) (n : Int) (hl : S.l.length ≤ 1000) :
    Calls Try.prog 14 #[ptr p, .int .i64 n] w fun e w' => e = .returned (.bool (thB S n)) ∧ ∃ v', Sep w0 r w' (ntT p v' (canS S n) :: R) := by
  have hmf : ∀ (fn : Fn) (first cap : Array Value) (w : World), (Instr.makeFunc fn first cap).run Try.prog w = .ok (.func fn first cap) w := fun _ _ _ _ => rfl
  have b1 := below_new w (.cells #[.int .i64 n] 3)
  have s1 := s.below b1
  have HV := hid (Var.new w (.int .i64 n) 3)
  obtain ⟨-, -, c2⟩ := s1.cellsP
  have hd := out_less S.l n
  have hne : v.ownBlock ≠ some w.heap.size := fun e => by
    have := Row.lt (NtH.row s.head) e
    omega
  have HC := hid (deleteF_any (.func (.func 24) #[] #[ptr w.heap.size]) (· == n) v S.l _ ⟨_, _, rfl, enters_of Try.func24 (by kernel_rfl) rfl, fun W x k => is_any w.heap.size n x W ⟨Nat.lt_of_lt_of_le HV.out.1 k.size, by
    have := k.block w.heap.size HV.out.1 hne
    have h2 := HV.out.2
    simp only [World.cell?] at *
    rw [this]
    exact h2⟩⟩ (NtH.row s1.head) hl)
  have S1 := hid s1
  have HE : Hid ((S.l.filter fun x => !(x == n)) = outL S.l n) := rfl
  have hth : thB S n = S.l.contains n := rfl
  obtain ⟨ao, cap, rfl, -⟩ := s1.sliceP
  rw [hth]
  clear s s1 hne HV b1 hth
  generalize S.l.contains n = β at *
  generalize hN : S.l.length = m at *
  clear hN
  go_enter Try.func14, Try.ntmps14
  go_wp2_with fail
  refine Calls.mono HC.out ?_
  rintro e w2 ⟨v2, rfl, row2, g2, o2⟩
  rw [HE.out] at row2
  obtain ⟨a2, k2, rfl, -⟩ := Row.slice row2
  have f2 : w2.frozen? ⟨p, 2, none⟩ = false := by
    have h1 : NtH p _ S _ := S1.out.head
    have hp := (Array.getElem?_eq_some_iff.1 h1.head).1
    have := (g2.block p hp fun e => h1.ne e.symm).trans h1.head
    unfold objN at this
    simp [World.frozen?, this]
  have c3 : w2.cell? ⟨p, 2, none⟩ = some (.slice ao m cap) := by
    have h1 : NtH p _ S _ := S1.out.head
    have hp := (Array.getElem?_eq_some_iff.1 h1.head).1
    have := (g2.block p hp fun e => h1.ne e.symm).trans h1.head
    unfold objN at this
    simp [World.cell?, this]
  have S2 := hid (S1.out.regrow (T := canS S n) g2 row2 (.inl o2) (good_can S1.out.good n) rfl rfl)
  clear row2 g2 o2 S1 HC c2
  generalize (outL S.l n).length = m2 at *
  go_wp2
  go_ret
  exact ⟨rfl, _, S2.out⟩
set_option maxHeartbeats 2000000 in
theorem copy_sep (s : Sep w0 r w (ntT p v S :: R)) (hl : S.l.length ≤ 1000) :
    Calls Try.prog 16 #[ptr p] w fun e w' => ∃ p' v', e = .returned (ptr p') ∧ Sep w0 r w' (ntT p' v' S :: ntT p v S :: R) := by
  obtain ⟨c0, c1, c2⟩ := s.cellsP
  have HC := hid (clone_any v S.l w.drew (NtH.row s.drew.head) hl)
  obtain ⟨ao, cap, rfl, -⟩ := s.sliceP
  have S1 := hid s.drew
  clear s
  generalize hN : S.l.length = n at *
  go_enter Try.func16, Try.ntmps16
  go_wp2_with fail
  go_region_with (go_at_call 25; refine Calls.mono HC.out ?_; rintro e w1 ⟨v1, rfl, s1⟩; obtain ⟨a1, k1, rfl⟩ := s1.listIs (E := elI) (v := v1) (A := S.l) (by simp); rw [hN] at *; have s2 := S1.out.join s1; obtain ⟨d0, d1, d2⟩ := Sep.cellsP s2.swap; have S2 := hid (Sep.nt s2 S1.out.good); clear s1 s2 c0 c1 c2)
  all_goals
    unfold objN at S2
    go_wp2
    go_ret
    exact ⟨_, _, rfl, S2.out⟩
end
end Go.Proofs.Ytbkkpfmhcfkfbaa

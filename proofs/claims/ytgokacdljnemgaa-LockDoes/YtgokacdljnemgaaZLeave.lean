/-
  What Leave of package lock answers, and leaves, among things that lie apart; no condition.
-/
import Derived.Test.YtgokacdljnemgaaZCalls
namespace Go.Proofs.Ytgokacdljnemgaa
open Go.RowKit Go.Deep Go.Shelf
section
variable {w0 w w' : World} {r p n : Nat} {L : St} {R : List Th}
theorem boxV {q : Nat} {v : Value} {ty : TypeId} (h : Sep w0 r w R) (hm : blk q (.cells #[v] ty) ∈ R) : Var w q v := by
  have h1 : w.heap[q]? = some (.cells #[v] ty) := (h.each _ hm).1
  exact ⟨(Array.getElem?_eq_some_iff.1 h1).1, by simp [World.cell?, h1]⟩
abbrev bxP (q p : Nat) : Th := blk q (.cells #[ptr p] 23)
abbrev bxI (q : Nat) (c : Int) : Th := blk q (.cells #[.int .i64 c] 3)
theorem next_any {q1 q2 : Nat} {c : Int} {T : St} (s : Sep w0 r w (lkT n p (c :: T) :: bxI q2 c :: bxP q1 p :: R)) :
    Calls Try.prog 28 #[ptr p, .func (.func 29) #[] #[ptr q1, ptr q2]] w fun e w' => e = .returned (.int .i64 (firstI T)) ∧ Below w.heap.size w w' := by
  obtain ⟨C, t, a, hC, lk⟩ := s.lk
  have v1 := boxV (q := q1) (v := ptr p) (ty := 23) s (by simp)
  have v2 := boxV (q := q2) (v := .int .i64 c) (ty := 3) s (by simp)
  have hf := find_read (q := fun x => a x == c) (g := 29) (lb := #[ptr q1, ptr q2]) (fun _ _ => by kernel_rfl) hC lk fun k W hk hW => leave1_any (v1.below hW) (v2.below hW) (heap_below hC hW) lk hk
  have e1 : (c :: T).reverse = T.reverse ++ [c] := by simp
  have h1 := lk.chain
  rw [e1] at h1
  have he := chain_next h1 (by rw [← e1]; exact nodup_rev lk.good.one) fun x hx => (lk.good.all x (by rw [← e1] at hx; exact List.mem_reverse.1 hx)).1
  rw [List.reverse_reverse, ← e1] at he
  rw [he] at hf
  exact hf
set_option maxHeartbeats 8000000 in
set_option maxRecDepth 100000 in
theorem leave_sep (s : Sep w0 r w (lkT n p L :: R)) (c : Int) :
    Calls Try.prog 15 #[ptr p, .int .i64 c] w fun e w' => e = .returned (.int .i64 (leaveE n L c)) ∧ Sep w0 r w' (lkT n p (leaveS n L c) :: R) := by
  have s1 := (s.box (.cells #[ptr p] 23)).box (.cells #[.int .i64 c] 3)
  have e9 : (w.alloc (.cells #[ptr p] 23)).heap.size = w.heap.size + 1 := by simp
  rw [e9] at s1
  have s2 : Sep w0 r ((w.alloc (.cells #[ptr p] 23)).alloc (.cells #[.int .i64 c] 3)) (lkT n p L :: bxI (w.heap.size + 1) c :: bxP w.heap.size p :: R) := s1.third.third
  have c1 := (boxV (q := w.heap.size) (v := ptr p) (ty := 23) s2 (by simp)).2
  have c2 := (boxV (q := w.heap.size + 1) (v := .int .i64 c) (ty := 3) s2 (by simp)).2
  have HP := hid (probe_sep s2 c)
  clear s s1 s2 e9
  unfold leaveE leaveS
  by_cases h1 : hasB n c = true
  · simp only [h1, if_true]
    by_cases h2 : (firstI L == c) = true
    · obtain ⟨T, rfl⟩ := first_is_in (by simpa using h2) (has_iff.1 h1).1
      have e1 : probeB n (c :: T) c = true := by unfold probeB; rw [h1, h2]; rfl
      have e2 : probeE n (c :: T) c = 0 := by unfold probeE; rw [if_pos h1, if_pos (in_iff.2 (by simp))]
      rw [e1, e2] at HP
      simp only [h2, if_true, List.tail_cons]
      clear h1 h2 e1 e2
      go_enter Try.func15, Try.ntmps15
      go_wp2_with fail
      refine Calls.mono HP.out ?_
      rintro e w2 ⟨rfl, s2⟩
      generalize w.heap.size + 1 = q2 at *
      generalize w.heap.size = q1 at *
      clear c1 c2
      have c1 := (boxV (q := q1) (v := ptr p) (ty := 23) s2 (by simp)).2
      have HN := hid (next_any s2)
      have S2 := hid s2
      clear s2 HP
      go_wp2_with fail
      refine Calls.mono HN.out ?_
      rintro e w3 ⟨rfl, b3⟩
      have s3 := S2.out.below b3
      obtain ⟨C, t, a, hC, lk⟩ := s3.lk
      clear c1 HN S2
      have c1 := (boxV (q := q1) (v := ptr p) (ty := 23) s3 (by simp)).2
      have fz := fun j => frozenK hC j
      rcases T with _ | ⟨y, T⟩
      · have k1 := cellK hC lk.c1
        have S4 := hid (s3.putK hC lk.alone).drop2.drop2
        have e1 : firstI [] = -1 := rfl
        rw [e1]
        clear s3 hC lk b3 e1
        go_wp2
        go_ret
        exact ⟨rfl, S4.out⟩
      · have hy := lk.good.all y (by simp)
        have htop := lk.good.top
        obtain ⟨k, rfl⟩ : ∃ k : Nat, y = (k : Int) := ⟨y.toNat, by omega⟩
        have hk8 : k < 8 := by omega
        have hkz : (k : Int) < 8 := by omega
        have k1 := cellK hC (lk.ca k hk8)
        have S4 := hid (s3.putK hC lk.leave).drop2.drop2
        have e1 : firstI ((k : Int) :: T) = (k : Int) := rfl
        have hne : ((k : Int) == (-1 : Int)) = false := beq_eq_false_iff_ne.2 (by omega)
        rw [e1]
        clear s3 hC lk b3 e1 hy htop
        go_wp2
        go_ret
        exact ⟨rfl, S4.out⟩
    · have h3 : (firstI L == c) = false := by simpa using h2
      have e1 : probeB n L c = false := by unfold probeB; rw [h3, Bool.and_false]
      simp only [h3, if_false, Bool.false_eq_true]
      rw [e1] at HP
      by_cases h4 : inB L c = true
      · have e2 : probeE n L c = 0 := by unfold probeE; rw [if_pos h1, if_pos h4]
        rw [e2] at HP
        clear h1 h2 h3 h4 e1 e2
        go_enter Try.func15, Try.ntmps15
        go_wp2_with (go_at_call 13; refine Calls.mono HP.out ?_; rintro e w2 ⟨rfl, s2⟩)
        go_ret
        exact ⟨rfl, s2.drop2.drop2⟩
      · have e2 : probeE n L c = 161 := by unfold probeE; rw [if_pos h1, if_neg h4]
        rw [e2] at HP
        clear h1 h2 h3 h4 e1 e2
        go_enter Try.func15, Try.ntmps15
        go_wp2_with (go_at_call 13; refine Calls.mono HP.out ?_; rintro e w2 ⟨rfl, s2⟩)
        go_ret
        exact ⟨rfl, s2.drop2.drop2⟩
  · have h3 : hasB n c = false := by simpa using h1
    have e1 : probeB n L c = false := by unfold probeB; rw [h3, Bool.false_and]
    have e2 : probeE n L c = 1 := by unfold probeE; rw [if_neg h1]
    simp only [h3, if_false, Bool.false_eq_true]
    rw [e1, e2] at HP
    clear h1 h3 e1 e2
    go_enter Try.func15, Try.ntmps15
    go_wp2_with (go_at_call 13; refine Calls.mono HP.out ?_; rintro e w2 ⟨rfl, s2⟩)
    go_ret
    exact ⟨rfl, s2.drop2.drop2⟩
end
end Go.Proofs.Ytgokacdljnemgaa

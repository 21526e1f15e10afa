/-
  What Line and Ahead of package lock answer, among things that lie apart; the library's Reverse and Index at a row of ints; no condition but that rows are short.
-/
import Derived.Test.YtgokacdljnemgaaZLeave
namespace Go.Proofs.Ytgokacdljnemgaa
open Go.RowKit Go.Deep Go.Shelf
/-- Turned about at both ends, i of them. -/
structure RevTo (A B : St) (i : Nat) : Prop where
  len : B.length = A.length
  le : i ≤ A.length
  get : ∀ k, k < A.length → B[k]? = if k < i ∨ A.length - i ≤ k then A[A.length - 1 - k]? else A[k]?
theorem RevTo.start (A : St) : RevTo A A 0 := ⟨rfl, Nat.zero_le _, fun k hk => by rw [if_neg (by omega)]⟩
theorem RevTo.step {A B : St} {i : Nat} {x y : Int} (h : RevTo A B i) (hi : i + 1 < A.length - i) (hx : B[i]? = some x) (hy : B[A.length - 1 - i]? = some y) : RevTo A ((B.set i y).set (A.length - 1 - i) x) (i + 1) := by
  have hl := h.len
  refine ⟨by rw [List.length_set, List.length_set, hl], by omega, fun k hk => ?_⟩
  have gx := h.get i (by omega)
  have gy := h.get (A.length - 1 - i) (by omega)
  rw [if_neg (by omega)] at gx gy
  rw [List.getElem?_set]
  by_cases e1 : A.length - 1 - i = k
  · rw [if_pos e1, if_pos (by rw [List.length_set]; omega), if_pos (by omega), ← hx, gx]
    congr 1
    omega
  · rw [if_neg e1, List.getElem?_set]
    by_cases e2 : i = k
    · rw [if_pos e2, if_pos (by omega), if_pos (by omega), ← hy, gy]
      congr 1
      omega
    · rw [if_neg e2, h.get k hk]
      by_cases e3 : k < i ∨ A.length - i ≤ k
      · rw [if_pos e3, if_pos (by omega)]
      · rw [if_neg e3, if_neg (by omega)]
theorem RevTo.end {A B : St} {i : Nat} (h : RevTo A B i) (hi : A.length ≤ 2 * i + 1) : B = A.reverse := by
  apply List.ext_getElem?
  intro k
  by_cases hk : k < A.length
  · rw [h.get k hk, List.getElem?_reverse hk]
    by_cases e : k < i ∨ A.length - i ≤ k
    · rw [if_pos e]
    · rw [if_neg e]
      congr 1
      omega
  · rw [List.getElem?_eq_none (by rw [h.len]; omega), List.getElem?_eq_none (by rw [List.length_reverse]; omega)]
theorem RowI.set {w : World} {g n cap i : Nat} {A : St} (row : RowI w (.slice (some ⟨g, 0, none⟩) n cap) A) (hi : i < A.length) (x : Int) : RowI (w.setCell ⟨g, i, none⟩ (.int .i64 x)) (.slice (some ⟨g, 0, none⟩) n cap) (A.set i x) := by
  have := Row.set okI row (List.getElem?_eq_getElem hi) (j := 0) (c := .int .i64 x) (y := x) (by decide) rfl
  rw [show elI.k = 1 from rfl, Nat.mul_one, Nat.add_zero] at this
  exact this
section
variable {w0 w w' : World} {r p n : Nat} {L A : St} {R : List Th} {v : Value}
theorem Sep.setI {g m cap i : Nat} (h : Sep w0 r w (lstI (.slice (some ⟨g, 0, none⟩) m cap) A :: R)) (hi : i < A.length) (x : Int) : Sep w0 r (w.setCell ⟨g, i, none⟩ (.int .i64 x)) (lstI (.slice (some ⟨g, 0, none⟩) m cap) (A.set i x) :: R) :=
  h.turn (t' := lstI (.slice (some ⟨g, 0, none⟩) m cap) (A.set i x)) (RowI.set h.head hi x) (Turn.setCell _ _ _ _ rfl) fun _ hx => .inl hx
set_option maxHeartbeats 4000000 in
theorem reverse_sep (s : Sep w0 r w (lstI v A :: R)) (hl : A.length ≤ 1000) :
    Calls Try.prog 31 #[v] w fun e w' => e = .returned (.tuple #[]) ∧ Sep w0 r w' (lstI v A.reverse :: R) := by
  obtain ⟨ao, cap, rfl, _, _, hg, _⟩ := Row.slice s.head
  obtain ⟨m, hm⟩ : ∃ m, A.length = m := ⟨_, rfl⟩
  have hwm : IntKind.i64.wrap ((m : Int) - 1) = (m : Int) - 1 := by
    unfold IntKind.wrap
    simp [IntKind.bits, IntKind.signed]
    omega
  rw [hm] at s hg hl ⊢
  have HM := hid hm
  have S1 := hid s
  have HG := hid hg
  clear s hg hm
  go_enter Try.func31, Try.ntmps31
  go_wp2_with fail
  go_loopw [2, 3] (fun s2 s3 wr => ∃ (i : Nat) (B : St), s2 = .int .i64 i ∧ s3 = .int .i64 ((m : Int) - 1 - i) ∧ RevTo A B i ∧ Sep w0 r wr (lstI (.slice ao m cap) B :: R)) (fun s2 _ _ => m - (intOf s2).toNat)
  case atStart => exact ⟨0, A, rfl, by simp, RevTo.start A, S1.out⟩
  case round =>
    clear S1
    obtain ⟨i, B, rfl, rfl, hB, s1⟩ := hrel
    have hi := hB.le
    rw [HM.out] at hi
    by_cases hlt : i + 1 < m - i
    · have hBl : B.length = m := hB.len.trans HM.out
      obtain ⟨g, rfl⟩ := HG.out 0 (by omega)
      have e1 := List.getElem?_eq_getElem (l := B) (i := i) (by omega)
      have e2 := List.getElem?_eq_getElem (l := B) (i := m - 1 - i) (by omega)
      generalize B[i]'(by omega) = x at e1
      generalize B[m - 1 - i]'(by omega) = y at e2
      have row : RowI wr (.slice (some ⟨g, 0, none⟩) m cap) B := s1.head
      have c1 := RowI.cell row e1
      have c2 := RowI.cell row e2
      have HR : Hid (RevTo A ((B.set i y).set (m - 1 - i) x) (i + 1)) := by
        have := hB.step (by rw [HM.out]; exact hlt) e1 (by rw [HM.out]; exact e2)
        rw [HM.out] at this
        exact this
      have hf := fun j => Row.frozen row j
      have S2 := hid ((s1.drew.setI (i := i) (by omega) y).setI (i := m - 1 - i) (by rw [List.length_set]; omega) x)
      obtain ⟨j, hj⟩ : ∃ j, m - 1 - i = j := ⟨_, rfl⟩
      have hjz : (m : Int) - 1 - (i : Int) = (j : Int) := by omega
      rw [hj] at c2 S2 HR
      rw [hjz]
      have hij : (i : Int) < (j : Int) := by omega
      have him : (i : Int) < (m : Int) := by omega
      have hjm : (j : Int) < (m : Int) := by omega
      have hne : ¬ i = j := by omega
      have hw1 : IntKind.i64.wrap ((j : Int) - 1) = (j : Int) - 1 := by
        unfold IntKind.wrap
        simp [IntKind.bits, IntKind.signed]
        omega
      have HJ : Hid ((j : Int) - 1 = (m : Int) - 1 - ((i + 1 : Nat) : Int) ∧ i + 1 ≤ m) := by exact (by omega : (j : Int) - 1 = (m : Int) - 1 - ((i + 1 : Nat) : Int) ∧ i + 1 ≤ m)
      clear s1 row hB e1 e2 hj hjz hBl
      go_wp2_with fail
      go_region_law (fail)
      all_goals
        go_wp2
        go_round
        case rel => exact ⟨i + 1, _, by go_num, by rw [← HJ.out.1], HR.out, S2.out⟩
        case measure => simp [intOf]; omega
    · have hd : ¬ ((i : Int) < (m : Int) - 1 - (i : Int)) := by omega
      have hE := hB.end (by rw [HM.out]; omega)
      rw [hE] at s1
      have S2 := hid s1
      clear s1 hB hE
      go_wp2
      exact bodyPost_end (v := .tuple #[]) (by simp [results, Try.results31, go_sem]) rfl ⟨rfl, S2.out⟩
set_option maxHeartbeats 2000000 in
theorem index_any (A : St) (c : Int) (w : World) (ha : RowI w v A) (hl : A.length ≤ 1000) :
    Calls Try.prog 32 #[v, .int .i64 c] w fun e w' => e = .returned (.int .i64 (aheadI A c)) ∧ Below w.heap.size w w' := by
  obtain ⟨ao, cap, rfl, _, _, hg, _⟩ := Row.slice ha
  have HA := hid ha
  have HG := hid hg
  clear ha hg
  generalize hN : A.length = N at *
  have HN := hid hN
  clear hN
  go_enter Try.func32, Try.ntmps32
  go_wp2
  go_loopw [5, 8] (fun _ s8 wr => ∃ kk : Nat, kk ≤ N ∧ s8 = .int .i64 kk ∧ wr = w ∧ Hid (∀ j y, j < kk → A[j]? = some y → (y == c) = false)) (fun _ s8 _ => N - (intOf s8).toNat)
  case atStart => exact ⟨0, Nat.zero_le _, rfl, rfl, fun j y hj => absurd hj (Nat.not_lt_zero _)⟩
  case round =>
    obtain ⟨kk, hkk, rfl, rfl, HB⟩ := hrel
    by_cases hlt : kk < N
    · have hltz : (kk : Int) < (N : Int) := by omega
      obtain ⟨b, rfl⟩ := HG.out kk hlt
      have hk1 : kk < A.length := by have := HN.out; omega
      have HX := hid (List.getElem?_eq_getElem hk1)
      have c0 := RowI.cell HA.out HX.out
      generalize A[kk] = y at *
      clear hk1
      cases hq : (y == c) with
      | true =>
        have HR : Hid (aheadI A c = (kk : Int)) := by
          obtain ⟨hl2, e⟩ := List.getElem?_eq_some_iff.1 HX.out
          have : A.findIdx (fun x => x == c) = kk := by
            rw [List.findIdx_eq hl2]
            exact ⟨by rw [e]; exact hq, fun j hj => HB.out j _ hj (List.getElem?_eq_getElem (by omega))⟩
          show aheadI A c = _
          unfold aheadI
          rw [this, if_pos hl2]
        have hq2 : (c == y) = true := by
          have : y = c := by simpa using hq
          simp [this]
        clear hq
        go_wp2
        go_ret
        exact ⟨ret_int HR.out.symm, Below.refl _ _⟩
      | false =>
        have hq2 : (c == y) = false := by
          have : ¬ y = c := by simpa using hq
          have : ¬ c = y := fun e => this e.symm
          simpa using this
        have HQ := hid hq
        clear hq
        go_wp2
        go_roundw
        case rel =>
          refine ⟨kk + 1, by omega, by go_num, trivial, fun j z hj hz => ?_⟩
          by_cases e : j = kk
          · subst e
            rw [HX.out] at hz
            cases hz
            exact HQ.out
          · exact HB.out j z (by omega) hz
        case measure => simp [intOf]; omega
    · have hltz : ¬ (kk : Int) < (N : Int) := by omega
      have HR : Hid (aheadI A c = -1) := by
        show aheadI A c = -1
        unfold aheadI
        rw [if_neg]
        rw [List.findIdx_lt_length]
        rintro ⟨x, hx, hn⟩
        obtain ⟨j, hj, e⟩ := List.mem_iff_getElem.1 hx
        have := HB.out j x (by have := HN.out; omega) (by rw [List.getElem?_eq_getElem hj, e])
        rw [hn] at this
        cases this
      clear hlt hkk HB
      go_wp2
      go_ret
      exact ⟨ret_int HR.out.symm, Below.refl _ _⟩
end
end Go.Proofs.Ytgokacdljnemgaa

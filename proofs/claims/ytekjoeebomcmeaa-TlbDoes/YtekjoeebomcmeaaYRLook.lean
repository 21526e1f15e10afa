/-
  What the document's own Look answers, among things that lie apart; no condition.
-/
import Derived.Test.YtekjoeebomcmeaaYRef
namespace Go.Proofs.Ytekjoeebomcmeaa
open Go.RowKit Go.Deep Go.Shelf
section
variable {w0 w w' : World} {r p n : Nat} {v : Value} {S : St} {R : List Th}
set_option maxHeartbeats 4000000 in
set_option maxRecDepth 100000 in
theorem rlook_sep (s : Sep w0 r w (tbT kR n p v S :: R)) (a b : Int) :
    Calls Try.prog 21 #[ptr p, .int .i64 a, .int .i64 b] w fun e w' => e = .returned (.tuple #[.agg #[.int .i64 (lookF S a b), .int .i64 (lookR S a b)], .bool (lookB S a b)]) ∧ Sep w0 r w' (tbT kR n p v S :: R) := by
  have hl256 : S.length ≤ 256 := by have := s.good.le; have := s.good.top; omega
  obtain ⟨ao, cap, rfl, hg⟩ := s.sliceP
  have S1 := hid (s.box (objP 0 0))
  clear s
  obtain ⟨sn, hsn⟩ : ∃ sn, S.length = sn := ⟨_, rfl⟩
  rw [hsn] at S1 hl256 hg
  have HSN := hid hsn
  have HGv := hid hg
  clear hsn hg
  go_enter Try.func21, Try.ntmps21
  go_wp2_with fail
  generalize w.heap.size = z at *
  go_loopw [8] (fun s8 wr => ∃ j : Nat, j ≤ sn ∧ s8 = .int .i64 j ∧ Sep w0 r wr (blk z (objP 0 0) :: tbT kR n p (.slice ao sn cap) S :: R) ∧ Hid (∀ i y, i < j → S[i]? = some y → isK a b y = false)) (fun s8 _ => sn - (intOf s8).toNat)
  case atStart => exact ⟨0, Nat.zero_le _, rfl, S1.out, fun i y hi => absurd hi (Nat.not_lt_zero _)⟩
  case round =>
    clear S1
    obtain ⟨j, hj, rfl, s1, HB⟩ := hrel
    have c0 := s1.drop.cellR
    obtain ⟨z0, z1⟩ := cellsG s1.head
    have zf := fun j => frozenG s1.head j
    by_cases hlt : j < sn
    · have hy := List.getElem?_eq_getElem (l := S) (i := j) (by rw [HSN.out]; exact hlt)
      generalize S[j]'(by rw [HSN.out]; exact hlt) = y at hy
      obtain ⟨g, rfl⟩ := HGv.out j hlt
      obtain ⟨y0, y1, y2, y3⟩ := (RowL.at (Sep.rowP s1.drop) hy).cells
      have S1 := hid s1
      have HY := hid hy
      clear hy s1
      have hltz : (j : Int) < (sn : Int) := by omega
      by_cases hs : y.s = a
      · have qs : (y.s == a) = true := by simpa using hs
        by_cases hp : y.p = b
        · have qp : (y.p == b) = true := by simpa using hp
          have HR := hid (look_some (look_first HY.out (show isK a b y = true by simp [isK, isS, isP, hs, hp]) HB.out))
          have HF := hid (S1.out.putG (f' := y.f) (r'' := y.r)).drop
          clear hs hp S1
          go_wp2
          refine bodyPost_ret (v := .tuple #[.agg #[.int .i64 y.f, .int .i64 y.r], .bool true]) ?_ rfl ⟨by rw [HR.out.1, HR.out.2.1, HR.out.2.2], by rw [HSN.out]; exact HF.out⟩
          simp [results, Try.f21, go_sem, z0, z1]
        · have qp : (y.p == b) = false := by simpa using hp
          have HK : Hid (isK a b y = false) := by show _ = _; simp [isK, isP, hp]
          clear hs hp
          go_wp2
          go_roundw
          case rel =>
            refine ⟨j + 1, by omega, by go_num, S1.out, fun i x hi hx => ?_⟩
            by_cases e : i = j
            · subst e
              rw [HY.out] at hx
              cases hx
              exact HK.out
            · exact HB.out i x (by omega) hx
          case measure => simp [intOf]; omega
      · have qs : (y.s == a) = false := by simpa using hs
        have HK : Hid (isK a b y = false) := by show _ = _; simp [isK, isS, hs]
        clear hs
        go_wp2
        go_roundw
        case rel =>
          refine ⟨j + 1, by omega, by go_num, S1.out, fun i x hi hx => ?_⟩
          by_cases e : i = j
          · subst e
            rw [HY.out] at hx
            cases hx
            exact HK.out
          · exact HB.out i x (by omega) hx
        case measure => simp [intOf]; omega
    · have hltz : ¬ ((j : Int) < (sn : Int)) := by omega
      have HR := hid (look_none (S := S) (s := a) (p := b) (by
        rw [List.any_eq_false]
        intro x hx hk
        obtain ⟨i, hi, e⟩ := List.mem_iff_getElem.1 hx
        have := HB.out i x (by have := HSN.out; omega) (by rw [List.getElem?_eq_getElem hi, e])
        rw [this] at hk
        cases hk))
      have HF := hid (s1.putG (f' := 0) (r'' := 0)).drop
      clear s1 hlt
      go_wp2
      refine bodyPost_ret (v := .tuple #[.agg #[.int .i64 0, .int .i64 0], .bool false]) ?_ rfl ⟨by rw [HR.out.1, HR.out.2.1, HR.out.2.2], by rw [HSN.out]; exact HF.out⟩
      simp [results, Try.f21, go_sem, z0, z1]
end
end Go.Proofs.Ytekjoeebomcmeaa

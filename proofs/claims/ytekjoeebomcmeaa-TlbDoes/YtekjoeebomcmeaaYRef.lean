/-
  What the document's own calls of layer 15 answer, and leave, among things that lie apart; no condition.
-/
import Derived.Test.YtekjoeebomcmeaaYSep
namespace Go.Proofs.Ytekjoeebomcmeaa
open Go.RowKit Go.Deep Go.Shelf
def kR : Kd := ⟨46, 0, fun n v => #[v, .int .i64 (n : Int)]⟩
theorem okR : kR.Ok := ⟨fun _ _ _ => rfl, fun _ _ => rfl, fun _ _ => rfl⟩
theorem take_next (q : Lr → Bool) {S : St} {j : Nat} {y : Lr} (h : S[j]? = some y) : lessS q (S.take (j + 1)) = if q y = true then lessS q (S.take j) else lessS q (S.take j) ++ [y] := by
  unfold lessS
  rw [List.take_add_one, h, List.filter_append]
  cases hq : q y <;> simp [hq]
theorem take_short (q : Lr → Bool) {S : St} (j : Nat) (h : S.length ≤ 256) : (lessS q (S.take j)).length ≤ 256 := by
  have h1 := less_le q (S.take j)
  rw [List.length_take] at h1
  omega
theorem less_lt (q : Lr → Bool) (S : St) : decide ((lessS q S).length < S.length) = S.any q := by
  cases h : S.any q
  · rw [less_none h]
    simp
  · simpa using less_any h
section
variable {w0 w w' : World} {r p n : Nat} {v : Value} {S : St} {R : List Th}
theorem Sep.cellR (h : Sep w0 r w (tbT kR n p v S :: R)) : w.cell? ⟨p, 0, none⟩ = some v := TbH.cell okR h.head
theorem Sep.roomR (h : Sep w0 r w (tbT kR n p v S :: R)) : w.cell? ⟨p, 1, none⟩ = some (.int .i64 (n : Int)) := TbH.room okR h.head
theorem rnew_sep (s : Sep w0 r w R) (hn1 : 1 ≤ n) (hn2 : n ≤ 256) :
    Calls Try.prog 10 #[.int .i64 (n : Int)] w fun e w' => ∃ p, e = .returned (.tuple #[ptr p, .int .i64 0]) ∧ Sep w0 r w' (tbT kR n p (.slice none 0 0) [] :: R) := by
  have S1 := hid ((s.nil (E := elL)).tb kR (good_nil hn1 hn2))
  have h1 : decide ((n : Int) < 1) = false := by simp; omega
  have h2 : decide ((256 : Int) < (n : Int)) = false := by simp; omega
  have h3 : ¬ ((n : Int) < 1) := by omega
  have h4 : ¬ ((256 : Int) < (n : Int)) := by omega
  clear s hn1 hn2
  simp only [kR] at S1
  go_enter Try.func10, Try.ntmps10
  go_wp2
  go_ret2
  exact ⟨_, rfl, S1.out⟩
set_option maxHeartbeats 4000000 in
set_option maxRecDepth 100000 in
theorem rspace_sep (s : Sep w0 r w (tbT kR n p v S :: R)) (a : Int) :
    Calls Try.prog 16 #[ptr p, .int .i64 a] w fun e w' => e = .returned (.int .i64 ((lessN (isS a) S : Nat) : Int)) ∧ ∃ v', Sep w0 r w' (tbT kR n p v' (lessS (isS a) S) :: R) := by
  have HG := hid s.good
  have hl256 : S.length ≤ 256 := by have := s.good.le; have := s.good.top; omega
  obtain ⟨ao, cap, rfl, hg⟩ := s.sliceP
  have s1 := Sep.made (E := elL) s
  simp only [elL] at s1
  have S1 : Hid (Sep w0 r (w.alloc (.cells #[] 33)) (lstL (.slice (some ⟨w.heap.size, 0, none⟩) 0 0) (lessS (isS a) (S.take 0)) :: tbT kR n p (.slice ao S.length cap) S :: R)) := by
    have h1 : lessS (isS a) (S.take 0) = [] := by rw [List.take_zero]; rfl
    rw [h1]
    exact s1
  clear s s1
  obtain ⟨sn, hsn⟩ : ∃ sn, S.length = sn := ⟨_, rfl⟩
  rw [hsn] at S1 hl256 hg
  have HSN := hid hsn
  have HGv := hid hg
  clear hsn hg
  go_enter Try.func16, Try.ntmps16
  go_wp2_with fail
  generalize w.heap.size = z at *
  go_loopw [5, 6] (fun sl si wr => ∃ j : Nat, j ≤ sn ∧ si = .int .i64 j ∧ Sep w0 r wr (lstL sl (lessS (isS a) (S.take j)) :: tbT kR n p (.slice ao sn cap) S :: R)) (fun _ si _ => sn - (intOf si).toNat)
  case atStart => exact ⟨0, Nat.zero_le _, rfl, S1.out⟩
  case round =>
    clear S1
    obtain ⟨j, hj, rfl, s1⟩ := hrel
    obtain ⟨a7, c7, e7⟩ := s1.listIs (E := elL) (v := u5) (A := lessS (isS a) (S.take j)) (by simp)
    have HLn : Hid ((lessS (isS a) (S.take j)).length ≤ 256) := take_short _ j (by rw [HSN.out]; exact hl256)
    have c0 := s1.drop.cellR
    by_cases hlt : j < sn
    · have hy := List.getElem?_eq_getElem (l := S) (i := j) (by rw [HSN.out]; exact hlt)
      generalize S[j]'(by rw [HSN.out]; exact hlt) = y at hy
      have HNA := hid (take_next (isS a) hy)
      obtain ⟨g, rfl⟩ := HGv.out j hlt
      obtain ⟨y0, y1, y2, y3⟩ := (RowL.at (Sep.rowP s1.drop) hy).cells
      obtain ⟨A, hA⟩ : ∃ A, lessS (isS a) (S.take j) = A := ⟨_, rfl⟩
      rw [hA] at HNA e7 s1 HLn
      subst e7
      have S1 := hid s1
      clear hA hy s1
      have hltz : (j : Int) < (sn : Int) := by omega
      by_cases hs : y.s = a
      · have qhs : (y.s == a) = true := by simpa using hs
        have qhs2 : (y.s != a) = false := by simpa using hs
        have HA2 : Hid (lessS (isS a) (S.take (j + 1)) = A) := by rw [HNA.out, if_pos (by simp [isS, hs])]; rfl
        clear hs
        go_wp2
        go_roundw
        case rel => exact ⟨j + 1, by omega, by go_num, by rw [HA2.out]; exact S1.out⟩
        case measure => simp [intOf]; omega
      · have qhs : (y.s == a) = false := by simpa using hs
        have qhs2 : (y.s != a) = true := by simpa using hs
        have HA2 : Hid (lessS (isS a) (S.take (j + 1)) = A ++ [y]) := by rw [HNA.out, if_neg (by simp [isS, hs])]; rfl
        clear hs
        obtain ⟨v6, w6, r6, s6⟩ := S1.out.more okL 42 y (C := #[.int .i64 y.s, .int .i64 y.p, .int .i64 y.f, .int .i64 y.r]) rfl (by have := HLn.out; omega)
        simp only [elL] at r6
        have R6 := hid r6
        have S6 := hid s6
        clear r6 s6 S1
        go_wp2_with (at_builtin; refine wpList_append_run rfl _ _ _ _ rfl _ _ _ _ rfl rfl R6.out ?_; clear R6)
        go_roundw
        case rel => exact ⟨j + 1, by omega, by go_num, by rw [HA2.out]; exact S6.out⟩
        case measure => simp [intOf]; omega
    · have hA : lessS (isS a) (S.take j) = lessS (isS a) S := by
        have : j = S.length := by rw [HSN.out]; omega
        rw [this, List.take_length]
      rw [hA] at s1 e7 HLn
      clear hA
      obtain ⟨A, hA⟩ : ∃ A, lessS (isS a) S = A := ⟨_, rfl⟩
      obtain ⟨an, han⟩ : ∃ an, A.length = an := ⟨_, rfl⟩
      have hal : an ≤ sn := by rw [← han, ← hA, ← HSN.out]; exact less_le _ _
      have hwk : IntKind.i64.wrap ((sn : Int) - (an : Int)) = ((lessN (isS a) S : Nat) : Int) := by
        have e1 : lessN (isS a) S = sn - an := by unfold lessN; rw [hA, HSN.out, han]
        rw [e1]
        unfold IntKind.wrap
        simp [IntKind.bits, IntKind.signed]
        omega
      obtain ⟨kn, hkn⟩ : ∃ kn, lessN (isS a) S = kn := ⟨_, rfl⟩
      rw [hkn] at hwk
      have HK : Hid (Value.int .i64 (kn : Int) = .int .i64 ((lessN (isS a) S : Nat) : Int)) := by rw [hkn]; rfl
      clear hkn
      have HQ : Hid (lessS (isS a) S = A) := hA
      rw [hA] at s1 e7
      rw [han] at e7
      subst e7
      have hltz : ¬ ((j : Int) < (sn : Int)) := by omega
      have HG2 : Hid (Good n A) := by rw [← hA]; exact HG.out.less _
      have S2 := hid (s1.hang okR HG2.out)
      have fz := s1.drop.frozenP 0
      simp only [kR] at S2
      clear s1 hA han
      go_wp2
      go_ret
      exact ⟨ret_one HK.out, _, by rw [HQ.out]; exact S2.out⟩
set_option maxHeartbeats 4000000 in
set_option maxRecDepth 100000 in
theorem rframe_sep (s : Sep w0 r w (tbT kR n p v S :: R)) (a : Int) :
    Calls Try.prog 18 #[ptr p, .int .i64 a] w fun e w' => e = .returned (.int .i64 ((lessN (isF a) S : Nat) : Int)) ∧ ∃ v', Sep w0 r w' (tbT kR n p v' (lessS (isF a) S) :: R) := by
  have HG := hid s.good
  have hl256 : S.length ≤ 256 := by have := s.good.le; have := s.good.top; omega
  obtain ⟨ao, cap, rfl, hg⟩ := s.sliceP
  have s1 := Sep.made (E := elL) s
  simp only [elL] at s1
  have S1 : Hid (Sep w0 r (w.alloc (.cells #[] 33)) (lstL (.slice (some ⟨w.heap.size, 0, none⟩) 0 0) (lessS (isF a) (S.take 0)) :: tbT kR n p (.slice ao S.length cap) S :: R)) := by
    have h1 : lessS (isF a) (S.take 0) = [] := by rw [List.take_zero]; rfl
    rw [h1]
    exact s1
  clear s s1
  obtain ⟨sn, hsn⟩ : ∃ sn, S.length = sn := ⟨_, rfl⟩
  rw [hsn] at S1 hl256 hg
  have HSN := hid hsn
  have HGv := hid hg
  clear hsn hg
  go_enter Try.func18, Try.ntmps18
  go_wp2_with fail
  generalize w.heap.size = z at *
  go_loopw [5, 6] (fun sl si wr => ∃ j : Nat, j ≤ sn ∧ si = .int .i64 j ∧ Sep w0 r wr (lstL sl (lessS (isF a) (S.take j)) :: tbT kR n p (.slice ao sn cap) S :: R)) (fun _ si _ => sn - (intOf si).toNat)
  case atStart => exact ⟨0, Nat.zero_le _, rfl, S1.out⟩
  case round =>
    clear S1
    obtain ⟨j, hj, rfl, s1⟩ := hrel
    obtain ⟨a7, c7, e7⟩ := s1.listIs (E := elL) (v := u5) (A := lessS (isF a) (S.take j)) (by simp)
    have HLn : Hid ((lessS (isF a) (S.take j)).length ≤ 256) := take_short _ j (by rw [HSN.out]; exact hl256)
    have c0 := s1.drop.cellR
    by_cases hlt : j < sn
    · have hy := List.getElem?_eq_getElem (l := S) (i := j) (by rw [HSN.out]; exact hlt)
      generalize S[j]'(by rw [HSN.out]; exact hlt) = y at hy
      have HNA := hid (take_next (isF a) hy)
      obtain ⟨g, rfl⟩ := HGv.out j hlt
      obtain ⟨y0, y1, y2, y3⟩ := (RowL.at (Sep.rowP s1.drop) hy).cells
      obtain ⟨A, hA⟩ : ∃ A, lessS (isF a) (S.take j) = A := ⟨_, rfl⟩
      rw [hA] at HNA e7 s1 HLn
      subst e7
      have S1 := hid s1
      clear hA hy s1
      have hltz : (j : Int) < (sn : Int) := by omega
      by_cases hf : y.f = a
      · have qhf : (y.f == a) = true := by simpa using hf
        have qhf2 : (y.f != a) = false := by simpa using hf
        have HA2 : Hid (lessS (isF a) (S.take (j + 1)) = A) := by rw [HNA.out, if_pos (by simp [isF, hf])]; rfl
        clear hf
        go_wp2
        go_roundw
        case rel => exact ⟨j + 1, by omega, by go_num, by rw [HA2.out]; exact S1.out⟩
        case measure => simp [intOf]; omega
      · have qhf : (y.f == a) = false := by simpa using hf
        have qhf2 : (y.f != a) = true := by simpa using hf
        have HA2 : Hid (lessS (isF a) (S.take (j + 1)) = A ++ [y]) := by rw [HNA.out, if_neg (by simp [isF, hf])]; rfl
        clear hf
        obtain ⟨v6, w6, r6, s6⟩ := S1.out.more okL 42 y (C := #[.int .i64 y.s, .int .i64 y.p, .int .i64 y.f, .int .i64 y.r]) rfl (by have := HLn.out; omega)
        simp only [elL] at r6
        have R6 := hid r6
        have S6 := hid s6
        clear r6 s6 S1
        go_wp2_with (at_builtin; refine wpList_append_run rfl _ _ _ _ rfl _ _ _ _ rfl rfl R6.out ?_; clear R6)
        go_roundw
        case rel => exact ⟨j + 1, by omega, by go_num, by rw [HA2.out]; exact S6.out⟩
        case measure => simp [intOf]; omega
    · have hA : lessS (isF a) (S.take j) = lessS (isF a) S := by
        have : j = S.length := by rw [HSN.out]; omega
        rw [this, List.take_length]
      rw [hA] at s1 e7 HLn
      clear hA
      obtain ⟨A, hA⟩ : ∃ A, lessS (isF a) S = A := ⟨_, rfl⟩
      obtain ⟨an, han⟩ : ∃ an, A.length = an := ⟨_, rfl⟩
      have hal : an ≤ sn := by rw [← han, ← hA, ← HSN.out]; exact less_le _ _
      have hwk : IntKind.i64.wrap ((sn : Int) - (an : Int)) = ((lessN (isF a) S : Nat) : Int) := by
        have e1 : lessN (isF a) S = sn - an := by unfold lessN; rw [hA, HSN.out, han]
        rw [e1]
        unfold IntKind.wrap
        simp [IntKind.bits, IntKind.signed]
        omega
      obtain ⟨kn, hkn⟩ : ∃ kn, lessN (isF a) S = kn := ⟨_, rfl⟩
      rw [hkn] at hwk
      have HK : Hid (Value.int .i64 (kn : Int) = .int .i64 ((lessN (isF a) S : Nat) : Int)) := by rw [hkn]; rfl
      clear hkn
      have HQ : Hid (lessS (isF a) S = A) := hA
      rw [hA] at s1 e7
      rw [han] at e7
      subst e7
      have hltz : ¬ ((j : Int) < (sn : Int)) := by omega
      have HG2 : Hid (Good n A) := by rw [← hA]; exact HG.out.less _
      have S2 := hid (s1.hang okR HG2.out)
      have fz := s1.drop.frozenP 0
      simp only [kR] at S2
      clear s1 hA han
      go_wp2
      go_ret
      exact ⟨ret_one HK.out, _, by rw [HQ.out]; exact S2.out⟩
set_option maxHeartbeats 4000000 in
set_option maxRecDepth 100000 in
theorem rdrop_sep (s : Sep w0 r w (tbT kR n p v S :: R)) (a b : Int) :
    Calls Try.prog 14 #[ptr p, .int .i64 a, .int .i64 b] w fun e w' => e = .returned (.bool (S.any (isK a b))) ∧ ∃ v', Sep w0 r w' (tbT kR n p v' (lessS (isK a b) S) :: R) := by
  have HG := hid s.good
  have hl256 : S.length ≤ 256 := by have := s.good.le; have := s.good.top; omega
  obtain ⟨ao, cap, rfl, hg⟩ := s.sliceP
  have s1 := Sep.made (E := elL) s
  simp only [elL] at s1
  have S1 : Hid (Sep w0 r (w.alloc (.cells #[] 33)) (lstL (.slice (some ⟨w.heap.size, 0, none⟩) 0 0) (lessS (isK a b) (S.take 0)) :: tbT kR n p (.slice ao S.length cap) S :: R)) := by
    have h1 : lessS (isK a b) (S.take 0) = [] := by rw [List.take_zero]; rfl
    rw [h1]
    exact s1
  clear s s1
  obtain ⟨sn, hsn⟩ : ∃ sn, S.length = sn := ⟨_, rfl⟩
  rw [hsn] at S1 hl256 hg
  have HSN := hid hsn
  have HGv := hid hg
  clear hsn hg
  go_enter Try.func14, Try.ntmps14
  go_wp2_with fail
  generalize w.heap.size = z at *
  go_loopw [7, 8] (fun sl si wr => ∃ j : Nat, j ≤ sn ∧ si = .int .i64 j ∧ Sep w0 r wr (lstL sl (lessS (isK a b) (S.take j)) :: tbT kR n p (.slice ao sn cap) S :: R)) (fun _ si _ => sn - (intOf si).toNat)
  case atStart => exact ⟨0, Nat.zero_le _, rfl, S1.out⟩
  case round =>
    clear S1
    obtain ⟨j, hj, rfl, s1⟩ := hrel
    obtain ⟨a7, c7, e7⟩ := s1.listIs (E := elL) (v := u7) (A := lessS (isK a b) (S.take j)) (by simp)
    have HLn : Hid ((lessS (isK a b) (S.take j)).length ≤ 256) := take_short _ j (by rw [HSN.out]; exact hl256)
    have c0 := s1.drop.cellR
    by_cases hlt : j < sn
    · have hy := List.getElem?_eq_getElem (l := S) (i := j) (by rw [HSN.out]; exact hlt)
      generalize S[j]'(by rw [HSN.out]; exact hlt) = y at hy
      have HNA := hid (take_next (isK a b) hy)
      obtain ⟨g, rfl⟩ := HGv.out j hlt
      obtain ⟨y0, y1, y2, y3⟩ := (RowL.at (Sep.rowP s1.drop) hy).cells
      obtain ⟨A, hA⟩ : ∃ A, lessS (isK a b) (S.take j) = A := ⟨_, rfl⟩
      rw [hA] at HNA e7 s1 HLn
      subst e7
      have S1 := hid s1
      clear hA hy s1
      have hltz : (j : Int) < (sn : Int) := by omega
      by_cases hs : y.s = a
      · have qhs : (y.s == a) = true := by simpa using hs
        have qhs2 : (y.s != a) = false := by simpa using hs
        by_cases hp : y.p = b
        · have qhp : (y.p == b) = true := by simpa using hp
          have qhp2 : (y.p != b) = false := by simpa using hp
          have HA2 : Hid (lessS (isK a b) (S.take (j + 1)) = A) := by rw [HNA.out, if_pos (by simp [isK, isS, isP, hs, hp])]; rfl
          clear hs hp
          go_wp2
          go_roundw
          case rel => exact ⟨j + 1, by omega, by go_num, by rw [HA2.out]; exact S1.out⟩
          case measure => simp [intOf]; omega
        · have qhp : (y.p == b) = false := by simpa using hp
          have qhp2 : (y.p != b) = true := by simpa using hp
          have HA2 : Hid (lessS (isK a b) (S.take (j + 1)) = A ++ [y]) := by rw [HNA.out, if_neg (by simp [isK, isS, isP, hs, hp])]; rfl
          clear hs hp
          obtain ⟨v6, w6, r6, s6⟩ := S1.out.more okL 42 y (C := #[.int .i64 y.s, .int .i64 y.p, .int .i64 y.f, .int .i64 y.r]) rfl (by have := HLn.out; omega)
          simp only [elL] at r6
          have R6 := hid r6
          have S6 := hid s6
          clear r6 s6 S1
          go_wp2_with (at_builtin; refine wpList_append_run rfl _ _ _ _ rfl _ _ _ _ rfl rfl R6.out ?_; clear R6)
          go_roundw
          case rel => exact ⟨j + 1, by omega, by go_num, by rw [HA2.out]; exact S6.out⟩
          case measure => simp [intOf]; omega
      · have qhs : (y.s == a) = false := by simpa using hs
        have qhs2 : (y.s != a) = true := by simpa using hs
        have HA2 : Hid (lessS (isK a b) (S.take (j + 1)) = A ++ [y]) := by rw [HNA.out, if_neg (by simp [isK, isS, hs])]; rfl
        clear hs
        obtain ⟨v6, w6, r6, s6⟩ := S1.out.more okL 42 y (C := #[.int .i64 y.s, .int .i64 y.p, .int .i64 y.f, .int .i64 y.r]) rfl (by have := HLn.out; omega)
        simp only [elL] at r6
        have R6 := hid r6
        have S6 := hid s6
        clear r6 s6 S1
        go_wp2_with (at_builtin; refine wpList_append_run rfl _ _ _ _ rfl _ _ _ _ rfl rfl R6.out ?_; clear R6)
        go_roundw
        case rel => exact ⟨j + 1, by omega, by go_num, by rw [HA2.out]; exact S6.out⟩
        case measure => simp [intOf]; omega
    · have hA : lessS (isK a b) (S.take j) = lessS (isK a b) S := by
        have : j = S.length := by rw [HSN.out]; omega
        rw [this, List.take_length]
      rw [hA] at s1 e7 HLn
      clear hA
      obtain ⟨A, hA⟩ : ∃ A, lessS (isK a b) S = A := ⟨_, rfl⟩
      obtain ⟨an, han⟩ : ∃ an, A.length = an := ⟨_, rfl⟩
      have hal : an ≤ sn := by rw [← han, ← hA, ← HSN.out]; exact less_le _ _
      have hlt2 : decide ((an : Int) < (sn : Int)) = S.any (isK a b) := by
        rw [← less_lt, hA, HSN.out, han]
        simp
      have hlt3 : decide (an < sn) = S.any (isK a b) := by
        rw [← less_lt, hA, HSN.out, han]
      obtain ⟨β, hβ⟩ : ∃ β, S.any (isK a b) = β := ⟨_, rfl⟩
      rw [hβ] at hlt2 hlt3
      have HK : Hid (Value.bool β = .bool (S.any (isK a b))) := by rw [hβ]; rfl
      clear hβ
      have HQ : Hid (lessS (isK a b) S = A) := hA
      rw [hA] at s1 e7
      rw [han] at e7
      subst e7
      have hltz : ¬ ((j : Int) < (sn : Int)) := by omega
      have HG2 : Hid (Good n A) := by rw [← hA]; exact HG.out.less _
      have S2 := hid (s1.hang okR HG2.out)
      have fz := s1.drop.frozenP 0
      simp only [kR] at S2
      clear s1 hA han
      go_wp2
      go_ret
      exact ⟨ret_one HK.out, _, by rw [HQ.out]; exact S2.out⟩
end
end Go.Proofs.Ytekjoeebomcmeaa

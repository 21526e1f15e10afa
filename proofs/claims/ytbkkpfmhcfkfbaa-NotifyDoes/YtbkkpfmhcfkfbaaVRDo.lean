/-
  What Signal, Wait and Cancel of the document's own notification answer, and leave; no condition but that few wait.
-/
import Derived.Test.YtbkkpfmhcfkfbaaVRef
namespace Go.Proofs.Ytbkkpfmhcfkfbaa
open Go.RowKit Go.Deep Go.Shelf
def rwE (L : List Int) (n : Int) : Int := if L.contains n = true then 120 else 0
def rwW (B L : List Int) (n : Int) : Int := if L.contains n = true then 0 else if 0 < B.length then orL B else 0
def rwQ (B L : List Int) (n : Int) : Bool := if L.contains n = true then false else decide (0 < B.length)
def rwB (B L : List Int) (n : Int) : List Int := if L.contains n = true then B else []
def rwL (B L : List Int) (n : Int) (z : Bool) : List Int := if L.contains n = true then L else if 0 < B.length then L else if z = true then L ++ [n] else L
theorem rw_yes {L : List Int} {n : Int} (B : List Int) (z : Bool) (ht : L.contains n = true) : rwW B L n = 0 ∧ rwQ B L n = false ∧ rwE L n = 120 ∧ rwB B L n = B ∧ rwL B L n z = L := by
  unfold rwW rwQ rwE rwB rwL
  simp only [ht]
  simp
theorem rw_nil {L : List Int} {n : Int} (z : Bool) (ht : L.contains n = false) : rwW [] L n = 0 ∧ rwQ [] L n = false ∧ rwE L n = 0 ∧ rwB [] L n = [] ∧ rwL [] L n z = if z = true then L ++ [n] else L := by
  unfold rwW rwQ rwE rwB rwL
  simp only [ht]
  simp
theorem rw_cons {L : List Int} {n : Int} (y : Int) (B : List Int) (z : Bool) (ht : L.contains n = false) : rwW (y :: B) L n = orL (y :: B) ∧ rwQ (y :: B) L n = true ∧ rwE L n = 0 ∧ rwB (y :: B) L n = [] ∧ rwL (y :: B) L n z = L := by
  unfold rwW rwQ rwE rwB rwL
  simp only [ht]
  simp
section
variable {w0 w : World} {r k : Nat} {a b : Value} {B L : List Int} {R : List Th}
set_option maxHeartbeats 2000000 in
theorem rsignal_nil (s : Sep w0 r w (blk k (objR a b) :: lstU a B :: lstI b [] :: R)) (g : Int) (hB : B.length ≤ 1000) :
    Calls Try.prog 11 #[ptr k, .int .u64 g] w fun e w' => e = .returned (.tuple #[.int .i64 0, .int .u64 0, .bool false]) ∧ ∃ a', Sep w0 r w' (blk k (objR a' b) :: lstU a' (B ++ [g]) :: lstI b [] :: R) := by
  obtain ⟨aa, ca, rfl⟩ := s.listIs (E := elU) (v := a) (A := B) (by simp)
  obtain ⟨ab, cb, rfl⟩ := s.listIs (E := elI) (v := b) (A := []) (by simp)
  obtain ⟨c0, c1, f0, f1⟩ := s.cellR
  obtain ⟨v4, w4, r4, s4⟩ := s.swap.more okU 26 g (C := #[.int .u64 g]) rfl (by omega)
  obtain ⟨a4, c4, rfl⟩ := s4.listIs (E := elU) (v := v4) (A := B ++ [g]) (by simp)
  simp only [elU] at r4
  have R4 := hid r4
  obtain ⟨h0, -, g0, -⟩ := s4.swap.cellR
  have S5 := hid (s4.swap.setA (.slice a4 (B ++ [g]).length c4))
  simp only [List.length_nil] at *
  clear s s4 r4
  generalize B.length = nB at *
  generalize (B ++ [g]).length = nB2 at *
  go_enter Try.func11, Try.ntmps11
  go_wp2_with (at_builtin; refine wpList_append_run rfl _ _ _ _ rfl _ _ _ _ rfl rfl R4.out ?_)
  go_ret3
  exact ⟨rfl, _, S5.out⟩
set_option maxHeartbeats 2000000 in
theorem rsignal_cons {x : Int} {T : List Int} (s : Sep w0 r w (blk k (objR a b) :: lstU a B :: lstI b (x :: T) :: R)) (g : Int) (hL : (x :: T).length ≤ 1000) :
    Calls Try.prog 11 #[ptr k, .int .u64 g] w fun e w' => e = .returned (.tuple #[.int .i64 x, .int .u64 g, .bool true]) ∧ ∃ b', Sep w0 r w' (blk k (objR a b') :: lstU a B :: lstI b' T :: R) := by
  obtain ⟨ab, cb, rfl⟩ := s.listIs (E := elI) (v := b) (A := x :: T) (by simp)
  have row : RowI w (.slice ab (x :: T).length cb) (x :: T) := (s.each (lstI (.slice ab (x :: T).length cb) (x :: T)) (by simp)).1
  obtain ⟨ab', cb', ev, hcap, -, hg, -⟩ := Row.slice row
  cases ev
  obtain ⟨gb, rfl⟩ := hg 0 (by simp)
  have d0 := RowI.cell row (i := 0) (x := x) rfl
  obtain ⟨-, c1, -, f1⟩ := s.cellR
  have c1' := cell_al c1 (.cells #[] 3)
  obtain ⟨ad, had, hsrc⟩ : ∃ ad : Addr, (if cb = 1 then some (⟨gb, 0, none⟩ : Addr) else some ⟨gb, 1, none⟩) = some ad ∧ ∀ j v, (flatK elI.enc T)[j]? = some v → (w.alloc (.cells #[] elI.e)).cell? (ad.add j) = some v := by
    by_cases hc : cb = 1
    · refine ⟨⟨gb, 0, none⟩, by simp [hc], fun j v hj => ?_⟩
      have h0 : T = [] := List.length_eq_zero_iff.1 (by simp at hcap; omega)
      rw [h0] at hj
      simp [flatK] at hj
    · exact ⟨⟨gb, 1, none⟩, by simp [hc], Row.tailAt okI (Row.below row (below_new _ _))⟩
  obtain ⟨v4, w4, r4, s4⟩ := (Sep.made (E := elI) s).ontoAt okI ad (cb - 1) hsrc 27 (by simp at hL ⊢; omega)
  rw [List.nil_append] at s4
  obtain ⟨a4, c4, rfl⟩ := s4.listIs (E := elI) (v := v4) (A := T) (by simp)
  simp only [elI] at r4
  have R4 := hid r4
  obtain ⟨-, h1, -, g1⟩ := s4.swap.cellR
  have s6 := s4.swap.setB (.slice a4 T.length c4)
  have S5 : Hid (Sep w0 r (w4.setCell ⟨k, 1, none⟩ (.slice a4 T.length c4)) (blk k (objR a (.slice a4 T.length c4)) :: lstU a B :: lstI (.slice a4 T.length c4) T :: R)) := by
    have s7 := s6.perm (R' := lstI (.slice (some ⟨gb, 0, none⟩) (x :: T).length cb) (x :: T) :: blk k (objR a (.slice a4 T.length c4)) :: lstU a B :: lstI (.slice a4 T.length c4) T :: R) ?_
    · exact s7.drop
    · refine List.Perm.trans (List.Perm.cons _ ?_) (List.Perm.swap _ _ _)
      exact (List.Perm.cons _ (List.Perm.swap _ _ _)).trans ((List.Perm.swap _ _ _).trans (List.Perm.cons _ (List.Perm.swap _ _ _)))
  generalize hnB : T.length = nB at *
  generalize hN1 : (x :: T).length = N1 at *
  have hN2 : N1 = nB + 1 := by rw [← hN1, ← hnB]; rfl
  have e1 : N1 - 1 = nB := by omega
  have hn0 : (0 : Int) < (N1 : Int) := by omega
  have hn00 : 0 < N1 := by omega
  have hn1 : (1 : Int) ≤ (N1 : Int) := by omega
  have hcb : 1 ≤ cb := by omega
  clear s s4 s6 r4 row hg hsrc hnB hN1 hN2
  go_enter Try.func11, Try.ntmps11
  go_wp2_with (at_builtin; refine wpList_append_run rfl _ _ _ _ rfl _ _ _ _ rfl rfl R4.out ?_)
  go_ret3
  exact ⟨rfl, _, S5.out⟩
set_option maxHeartbeats 4000000 in
theorem rcancel_sep (s : Sep w0 r w (blk k (objR a b) :: lstU a B :: lstI b L :: R)) (n : Int) (hL : L.length ≤ 1000) :
    Calls Try.prog 15 #[ptr k, .int .i64 n] w fun e w' => e = .returned (.bool (decide ((outL L n).length < L.length))) ∧ ∃ b', Sep w0 r w' (blk k (objR a b') :: lstU a B :: lstI b' (outL L n) :: R) := by
  obtain ⟨ab, cb, rfl⟩ := s.listIs (E := elI) (v := b) (A := L) (by simp)
  have HS := hid s
  have S1 := hid (Sep.made (E := elI) (sep_nil w))
  clear s
  generalize hN : L.length = N at *
  have HN := hid hN
  clear hN
  go_enter Try.func15, Try.ntmps15
  go_wp2
  go_loopw [5, 6] (fun s5 s6 wr => ∃ i : Nat, i ≤ N ∧ s6 = .int .i64 i ∧ Sep w w.heap.size wr [lstI s5 (outL (L.take i) n)]) (fun _ s6 _ => N - (intOf s6).toNat)
  case atStart => exact ⟨0, Nat.zero_le _, rfl, S1.out⟩
  case round =>
    clear S1
    obtain ⟨i, hi, rfl, s2⟩ := hrel
    have hs2 := HS.out.below s2.low
    obtain ⟨-, c1, -, f1⟩ := hs2.cellR
    by_cases hlt : i < N
    · have hltz : (i : Int) < (N : Int) := by omega
      have hi1 : i < L.length := by have := HN.out; omega
      obtain ⟨x, hx⟩ : ∃ x, L[i]? = some x := ⟨_, List.getElem?_eq_getElem hi1⟩
      obtain ⟨q, rfl, hc⟩ := hs2.listAt okI (ao := ab) (n := N) (cap := cb) (A := L) (by simp) hx
      have d0 : wr.cell? ⟨q, i, none⟩ = some (.int .i64 x) := by have := hc 0 _ rfl; simpa [elI] using this
      have hA1 := out_len (L.take i) n
      rw [List.length_take] at hA1
      have e2 : L.take (i + 1) = L.take i ++ [x] := by rw [List.take_add_one, hx]; rfl
      by_cases hxn : x = n
      · have hq : (x == n) = true := by simpa using hxn
        have hq2 : (x != n) = false := by simpa using hxn
        have HT : Hid (outL (L.take (i + 1)) n = outL (L.take i) n) := by
          show _ = _
          rw [e2]
          simp [outL, hxn]
        have S2 := hid s2
        clear s2 hs2 hc hx hA1 e2 hxn hi1
        go_wp2
        go_roundw
        case rel => exact ⟨i + 1, by omega, by go_num, by rw [HT.out]; exact S2.out⟩
        case measure => simp [intOf]; omega
      · have hq : (x == n) = false := by simpa using hxn
        have hq2 : (x != n) = true := by simpa using hxn
        have HT : Hid (outL (L.take (i + 1)) n = outL (L.take i) n ++ [x]) := by
          show _ = _
          rw [e2]
          simp [outL, hxn]
        obtain ⟨v4, w4, r4, s4⟩ := s2.more okI 27 x (C := #[.int .i64 x]) rfl (by omega)
        obtain ⟨a5, c5, rfl⟩ := s2.listIs (E := elI) (v := u5) (A := outL (L.take i) n) (by simp)
        simp only [elI] at r4
        have R4 := hid r4
        have S4 := hid s4
        clear s2 s4 r4 hs2 hc hx hA1 e2 hxn hi1
        generalize (outL (L.take i) n).length = m at *
        go_wp2_with (at_builtin; refine wpList_append_run rfl _ _ _ _ rfl _ _ _ _ rfl rfl R4.out ?_)
        go_roundw
        case rel => exact ⟨i + 1, by omega, by go_num, by rw [HT.out]; exact S4.out⟩
        case measure => simp [intOf]; omega
    · have hltz : ¬ (i : Int) < (N : Int) := by omega
      have e1 : L.take i = L := List.take_of_length_le (by have := HN.out; omega)
      rw [e1] at s2
      obtain ⟨a5, c5, rfl⟩ := s2.listIs (E := elI) (v := u5) (A := outL L n) (by simp)
      have s3 := HS.out.join s2
      have s4 := s3.swap.setB (.slice a5 (outL L n).length c5)
      have S4 : Hid (Sep w0 r (wr.setCell ⟨k, 1, none⟩ (.slice a5 (outL L n).length c5)) (blk k (objR a (.slice a5 (outL L n).length c5)) :: lstU a B :: lstI (.slice a5 (outL L n).length c5) (outL L n) :: R)) := by
        have s7 := s4.perm (R' := lstI (.slice ab N cb) L :: blk k (objR a (.slice a5 (outL L n).length c5)) :: lstU a B :: lstI (.slice a5 (outL L n).length c5) (outL L n) :: R) ?_
        · exact s7.drop
        · refine List.Perm.trans (List.Perm.cons _ ?_) (List.Perm.swap _ _ _)
          exact (List.Perm.cons _ (List.Perm.swap _ _ _)).trans ((List.Perm.swap _ _ _).trans (List.Perm.cons _ (List.Perm.swap _ _ _)))
      clear s2 s3 s4 hs2 e1 hlt
      generalize hm : (outL L n).length = m at *
      have HM := hid hm
      clear hm
      go_wp2
      go_ret
      exact ⟨by rw [HM.out]; simp, _, S4.out⟩
set_option maxHeartbeats 4000000 in
theorem rwait_sep (s : Sep w0 r w (blk k (objR a b) :: lstU a B :: lstI b L :: R)) (n : Int) (z : Bool) (hB : B.length ≤ 1000) (hL : L.length ≤ 1000) :
    Calls Try.prog 13 #[ptr k, .int .i64 n, .bool z] w fun e w' => e = .returned (.tuple #[.int .u64 (rwW B L n), .bool (rwQ B L n), .int .i64 (rwE L n)]) ∧ ∃ a' b', Sep w0 r w' (blk k (objR a' b') :: lstU a' (rwB B L n) :: lstI b' (rwL B L n z) :: R) := by
  obtain ⟨aa, ca, rfl⟩ := s.listIs (E := elU) (v := a) (A := B) (by simp)
  obtain ⟨ab, cb, rfl⟩ := s.listIs (E := elI) (v := b) (A := L) (by simp)
  obtain ⟨-, c1, -, f1⟩ := s.cellR
  have HS := hid s
  have HB := hid hB
  clear s hB
  generalize hN : L.length = N at *
  have HN := hid hN
  clear hN
  go_enter Try.func13, Try.ntmps13
  go_wp2
  go_loop [9] (fun s9 => ∃ i : Nat, i ≤ N ∧ s9 = .int .i64 i ∧ Hid (∀ (j : Nat) (y : Int), j < i → L[j]? = some y → y ≠ n)) (fun s9 => N - (intOf s9).toNat)
  case atStart => exact ⟨0, Nat.zero_le _, rfl, fun j y hj => absurd hj (Nat.not_lt_zero _)⟩
  case round =>
    obtain ⟨i, hi, rfl, HJ⟩ := hrel
    by_cases hlt : i < N
    · have hltz : (i : Int) < (N : Int) := by omega
      have hi1 : i < L.length := by have := HN.out; omega
      obtain ⟨x, hx⟩ : ∃ x, L[i]? = some x := ⟨_, List.getElem?_eq_getElem hi1⟩
      obtain ⟨q, rfl, hc⟩ := HS.out.listAt okI (ao := ab) (n := N) (cap := cb) (A := L) (by simp) hx
      have d0 : w.cell? ⟨q, i, none⟩ = some (.int .i64 x) := by have := hc 0 _ rfl; simpa [elI] using this
      have HX := hid hx
      clear hx hc hi1
      by_cases hxn : x = n
      · have hq : (x == n) = true := by simpa using hxn
        have ht : L.contains n = true := by
          have : n ∈ L := hxn ▸ List.mem_of_getElem? HX.out
          simpa using this
        have HR := hid (rw_yes B z ht)
        clear hxn ht
        go_wp2
        go_ret3
        exact ⟨by rw [HR.out.1, HR.out.2.1, HR.out.2.2.1]; rfl, _, _, by rw [HR.out.2.2.2.1, HR.out.2.2.2.2]; exact HS.out⟩
      · have hq : (x == n) = false := by simpa using hxn
        have HY := hid hxn
        clear hxn
        go_wp2
        go_round
        case rel => exact ⟨i + 1, by omega, by go_num, fun j y hj hy => by
          by_cases e : j = i
          · subst e
            rw [HX.out] at hy
            cases hy
            exact HY.out
          · exact HJ.out j y (by omega) hy⟩
        case measure => simp [intOf]; omega
    · have hltz : ¬ (i : Int) < (N : Int) := by omega
      have HT : Hid (L.contains n = false) := by
        show L.contains n = false
        rw [List.contains_eq_mem, decide_eq_false_iff_not]
        intro hm
        obtain ⟨j, hj, e⟩ := List.mem_iff_getElem.1 hm
        exact HJ.out j n (by have := HN.out; omega) (by rw [List.getElem?_eq_getElem hj, e]) rfl
      clear HJ hlt
      go_wp2_with fail
      refine Calls.mono (rword_any HS.out HB.out) ?_
      rintro e w1 ⟨rfl, b1⟩
      have s1 := HS.out.below b1
      obtain ⟨k0, k1, l0, l1⟩ := s1.cellR
      rcases B with _ | ⟨y, B'⟩
      · have hd : decide (0 < ([] : List Int).length) = false := rfl
        rw [hd]
        clear b1 hd
        cases z with
        | false =>
          have HR := hid (rw_nil false HT.out)
          have S1 := hid s1
          clear s1
          generalize orL [] = o at *
          go_wp2
          go_ret3
          exact ⟨by rw [HR.out.1, HR.out.2.1, HR.out.2.2.1]; rfl, _, _, by rw [HR.out.2.2.2.1, HR.out.2.2.2.2, if_neg (by decide)]; exact S1.out⟩
        | true =>
          have HR := hid (rw_nil true HT.out)
          obtain ⟨v4, w4, r4, s4⟩ := s1.third.third.more okI 27 n (C := #[.int .i64 n]) rfl (by have := HN.out; omega)
          obtain ⟨a4, c4, rfl⟩ := s4.listIs (E := elI) (v := v4) (A := L ++ [n]) (by simp)
          simp only [elI] at r4
          have R4 := hid r4
          obtain ⟨-, h1, -, g1⟩ := s4.third.swap.swap.cellR
          have s6 := s4.third.setB (.slice a4 (L ++ [n]).length c4)
          have S6 := hid s6
          clear s1 s4 s6 r4
          generalize (L ++ [n]).length = n2 at *
          generalize orL [] = o at *
          go_wp2_with (at_builtin; refine wpList_append_run rfl _ _ _ _ rfl _ _ _ _ rfl rfl R4.out ?_)
          go_ret3
          exact ⟨by rw [HR.out.1, HR.out.2.1, HR.out.2.2.1]; rfl, _, _, by rw [HR.out.2.2.2.1, HR.out.2.2.2.2, if_pos trivial]; exact S6.out⟩
      · have hd : decide (0 < (y :: B').length) = true := by simp
        rw [hd]
        have HR := hid (rw_cons y B' z HT.out)
        have s2 := (s1.setA (.slice none 0 0))
        have s3 := (Sep.nil (E := elU) s2.swap.drop).swap
        have S3 := hid s3
        clear s1 s2 s3 b1 hd
        generalize orL (y :: B') = o at *
        generalize (y :: B').length = nB at *
        go_wp2
        go_ret3
        exact ⟨by rw [HR.out.1, HR.out.2.1, HR.out.2.2.1]; rfl, _, _, by rw [HR.out.2.2.2.1, HR.out.2.2.2.2]; exact S3.out⟩
end
end Go.Proofs.Ytbkkpfmhcfkfbaa

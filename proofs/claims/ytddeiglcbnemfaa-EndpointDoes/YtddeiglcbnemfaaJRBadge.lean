/-
  What Badge, Waits and Cancel of the document's own endpoint answer, and leave; no condition but that few wait.
-/
import Derived.Test.YtddeiglcbnemfaaJRef
namespace Go.Proofs.Ytddeiglcbnemfaa
open Go.RowKit Go.Deep Go.Shelf

def hasG (g : Int) (x : Wt) : Bool := decide (x.m.g = g)
section
variable {w0 w : World} {r k : Nat} {a b : Value} {A : List Wt} {B : List Int} {R : List Th}
set_option maxHeartbeats 4000000 in
theorem rbadge_sep (s : Sep w0 r w (blk k (objR a b) :: lstS a A :: lstI b B :: R)) (g : Int) (hA : A.length ≤ 1000) :
    Calls Try.prog 13 #[ptr k, .int .u64 g] w fun e w' => ∃ ao cap a', e = .returned (.slice ao (outN (hasG g) A).length cap) ∧ Sep w0 r w' (blk k (objR a' b) :: lstS a' (outS (hasG g) A) :: lstI b B :: lstI (.slice ao (outN (hasG g) A).length cap) (outN (hasG g) A) :: R) := by
  obtain ⟨aa, ca, rfl⟩ := s.listIs (E := elS) (v := a) (A := A) (by simp)
  have HS := hid s
  have s1 := (Sep.made (E := elI) (Sep.made (E := elS) (sep_nil w))).swap
  have e9 : (w.alloc (.cells #[] elS.e)).heap.size = w.heap.size + 1 := by simp
  rw [e9] at s1
  simp only [elS, elI] at s1
  have S1 := hid s1
  clear s s1 e9
  generalize hNA : A.length = NA at *
  have HNA := hid hNA
  clear hNA
  go_enter Try.func13, Try.ntmps13
  go_wp2
  go_loopw [5, 6, 7] (fun s5 s6 s7 wr => ∃ i : Nat, i ≤ NA ∧ s7 = .int .i64 i ∧ Sep w w.heap.size wr [lstS s5 (outS (hasG g) (A.take i)), lstI s6 (outN (hasG g) (A.take i))]) (fun _ _ s7 _ => NA - (intOf s7).toNat)
  case atStart => exact ⟨0, Nat.zero_le _, rfl, S1.out⟩
  case round =>
    clear S1
    obtain ⟨i, hi, rfl, s2⟩ := hrel
    have hs2 := HS.out.below s2.low
    obtain ⟨c0, -, f0, -⟩ := hs2.cellR
    by_cases hlt : i < NA
    · have hltz : (i : Int) < (NA : Int) := by omega
      have hi1 : i < A.length := by have := HNA.out; omega
      have hx := List.getElem?_eq_getElem hi1
      obtain ⟨q, rfl, hc⟩ := hs2.listAt okS (ao := aa) (n := NA) (cap := ca) (A := A) (by simp) hx
      obtain ⟨d0, d1, d2, d3, d4, d5, d6, d7⟩ := AtS.cells (w := wr) (g := q) (o := i * 8) (x := A[i]) hc
      have hlen : (A.take i).length ≤ 1000 := by rw [List.length_take]; omega
      have hA1 := outN_len (hasG g) (A.take i)
      have hA2 := out_len (hasG g) (A.take i)
      have HA := outN_take (hasG g) hx
      have HB := outS_take (hasG g) hx
      obtain ⟨a5, c5, rfl⟩ := s2.listIs (E := elS) (v := u5) (A := outS (hasG g) (A.take i)) (by simp)
      obtain ⟨a6, c6, rfl⟩ := s2.listIs (E := elI) (v := u6) (A := outN (hasG g) (A.take i)) (by simp)
      by_cases hg : A[i].m.g = g
      · have hq : (A[i].m.g == g) = true := by simpa using hg
        have hh : hasG g A[i] = true := by simpa [hasG] using hg
        rw [if_pos hh] at HA HB
        obtain ⟨v4, w4, r4, s4⟩ := s2.swap.more okI 27 A[i].n (C := #[.int .i64 A[i].n]) rfl (by omega)
        simp only [elI] at r4
        have R4 := hid r4
        have S4 := hid s4.swap
        have HAB := hid (And.intro HA HB)
        clear r4 s4 s2 hs2 HA HB hg hh hx hc hA1 hA2 hlen
        generalize A[i] = y at *
        clear hi1
        go_wp2_with (at_builtin; refine wpList_append_run rfl _ _ _ _ rfl _ _ _ _ rfl rfl R4.out ?_)
        go_roundw
        case rel => exact ⟨i + 1, by omega, by go_num, by rw [HAB.out.1, HAB.out.2]; exact S4.out⟩
        case measure => simp [intOf]; omega
      · have hq : (A[i].m.g == g) = false := by simpa using hg
        have hh : ¬ hasG g A[i] = true := by simpa [hasG] using hg
        rw [if_neg hh] at HA HB
        obtain ⟨v4, w4, r4, s4⟩ := s2.more okS 26 A[i] (C := (cS A[i]).toArray) rfl (by omega)
        simp only [elS, cS] at r4
        have R4 := hid r4
        have S4 := hid s4
        have HAB := hid (And.intro HA HB)
        clear r4 s4 s2 hs2 HA HB hg hh hx hc hA1 hA2 hlen
        generalize A[i] = y at *
        clear hi1
        go_wp2_with (at_builtin; refine wpList_append_run rfl _ _ _ _ rfl _ _ _ _ rfl rfl R4.out ?_)
        go_roundw
        case rel => exact ⟨i + 1, by omega, by go_num, by rw [HAB.out.1, HAB.out.2]; exact S4.out⟩
        case measure => simp [intOf]; omega
    · have hltz : ¬ (i : Int) < (NA : Int) := by omega
      have hkS : A.take i = A := List.take_of_length_le (by have := HNA.out; omega)
      rw [hkS] at s2
      obtain ⟨a5, c5, rfl⟩ := s2.listIs (E := elS) (v := u5) (A := outS (hasG g) A) (by simp)
      obtain ⟨a6, c6, rfl⟩ := s2.listIs (E := elI) (v := u6) (A := outN (hasG g) A) (by simp)
      have s3 := HS.out.join s2
      have s4 := (s3.perm (List.perm_append_comm (l₁ := [lstS (.slice a5 (outS (hasG g) A).length c5) (outS (hasG g) A), lstI (.slice a6 (outN (hasG g) A).length c6) (outN (hasG g) A)]) (l₂ := blk k (objR (.slice aa NA ca) b) :: lstS (.slice aa NA ca) A :: lstI b B :: R))).setA (.slice a5 (outS (hasG g) A).length c5)
      have S4 : Hid (Sep w0 r (wr.setCell ⟨k, 0, none⟩ (.slice a5 (outS (hasG g) A).length c5)) (blk k (objR (.slice a5 (outS (hasG g) A).length c5) b) :: lstS (.slice a5 (outS (hasG g) A).length c5) (outS (hasG g) A) :: lstI b B :: lstI (.slice a6 (outN (hasG g) A).length c6) (outN (hasG g) A) :: R)) := by
        refine Sep.perm (R := (lstS (.slice aa NA ca) A :: blk k (objR (.slice a5 (outS (hasG g) A).length c5) b) :: lstI b B :: R ++ [lstS (.slice a5 (outS (hasG g) A).length c5) (outS (hasG g) A), lstI (.slice a6 (outN (hasG g) A).length c6) (outN (hasG g) A)]).tail) (s4.swap.drop) ?_
        simp only [List.cons_append, List.tail_cons]
        refine List.Perm.cons _ ?_
        have : (lstI b B :: (R ++ [lstS (.slice a5 (outS (hasG g) A).length c5) (outS (hasG g) A), lstI (.slice a6 (outN (hasG g) A).length c6) (outN (hasG g) A)])).Perm (lstI b B :: ([lstS (.slice a5 (outS (hasG g) A).length c5) (outS (hasG g) A), lstI (.slice a6 (outN (hasG g) A).length c6) (outN (hasG g) A)] ++ R)) := List.Perm.cons _ List.perm_append_comm
        exact this.trans (List.Perm.swap _ _ _)
      clear s2 s3 s4 hlt hkS hi hs2
      generalize hm1 : (outS (hasG g) A).length = m1 at *
      generalize hm2 : (outN (hasG g) A).length = m2 at *
      go_wp2
      go_ret
      exact ⟨_, _, rfl, _, S4.out⟩
set_option maxHeartbeats 4000000 in
theorem rwaits_sep (s : Sep w0 r w (blk k (objR a b) :: lstS a A :: lstI b B :: R)) (hA : A.length ≤ 1000) (hB : B.length ≤ 1000) :
    Calls Try.prog 16 #[ptr k] w fun e w' => ∃ ao cap, e = .returned (.tuple #[.slice ao (B ++ waitsN A).length cap, .bool (decide (0 < A.length))]) ∧ Sep w0 r w' (lstI (.slice ao (B ++ waitsN A).length cap) (B ++ waitsN A) :: blk k (objR a b) :: lstS a A :: lstI b B :: R) := by
  obtain ⟨aa, ca, rfl⟩ := s.listIs (E := elS) (v := a) (A := A) (by simp)
  obtain ⟨ab, cb, rfl⟩ := s.listIs (E := elI) (v := b) (A := B) (by simp)
  obtain ⟨c0, c1, -, -⟩ := s.cellR
  have c1' := cell_al c1 (.cells #[] 3)
  have HS := hid s
  have rowB : RowI w (.slice ab B.length cb) B := (s.each (lstI (.slice ab B.length cb) B) (by simp)).1
  obtain ⟨v1, w1, r1, s1⟩ := (Sep.made (E := elI) (sep_nil w)).onto okI (Row.below rowB (below_new _ _)) 27 (by simp; omega)
  simp only [elI] at r1
  rw [List.nil_append] at s1
  have R1 := hid r1
  have S1 := hid s1
  clear s r1 s1 rowB c0
  generalize hNA : A.length = NA at *
  generalize hNB : B.length = NB at *
  have HN := hid (And.intro hNA hNB)
  clear hNA hNB
  go_enter Try.func16, Try.ntmps16
  go_wp2_with (at_builtin; refine wpList_append_run rfl _ _ _ _ rfl _ _ _ _ rfl rfl R1.out ?_)
  go_loopw [4, 5] (fun s4 s5 wr => ∃ i : Nat, i ≤ NA ∧ s5 = .int .i64 i ∧ Sep w w.heap.size wr [lstI s4 (B ++ waitsN (A.take i))]) (fun _ s5 _ => NA - (intOf s5).toNat)
  case atStart => exact ⟨0, Nat.zero_le _, rfl, by simpa [waitsN] using S1.out⟩
  case round =>
    clear S1 R1 c1 c1'
    obtain ⟨i, hi, rfl, s2⟩ := hrel
    have hs2 := HS.out.below s2.low
    obtain ⟨c0, -, -, -⟩ := hs2.cellR
    by_cases hlt : i < NA
    · have hltz : (i : Int) < (NA : Int) := by omega
      have hi1 : i < A.length := by have := HN.out; omega
      have hx := List.getElem?_eq_getElem hi1
      obtain ⟨q, rfl, hc⟩ := hs2.listAt okS (ao := aa) (n := NA) (cap := ca) (A := A) (by simp) hx
      have d0 : wr.cell? ⟨q, i * 8, none⟩ = some (.int .i64 A[i].n) := hc 0 _ rfl
      have hlen : (B ++ waitsN (A.take i)).length ≤ 1000000 := by rw [List.length_append, waits_len, List.length_take]; have := HN.out; omega
      have e1 : B ++ waitsN (A.take (i + 1)) = (B ++ waitsN (A.take i)) ++ [A[i].n] := by
        rw [List.take_add_one, hx]
        unfold waitsN
        rw [List.map_append, List.append_assoc]
        rfl
      obtain ⟨a4, c4, rfl⟩ := s2.listIs (E := elI) (v := u4) (A := B ++ waitsN (A.take i)) (by simp)
      obtain ⟨v4, w4, r4, s4⟩ := s2.more okI 27 A[i].n (C := #[.int .i64 A[i].n]) rfl hlen
      simp only [elI] at r4
      have R4 := hid r4
      have S4 := hid (e1 ▸ s4)
      clear r4 s4 s2 hs2 hx hc hlen e1
      generalize A[i] = y at *
      clear hi1
      go_wp2_with (at_builtin; refine wpList_append_run rfl _ _ _ _ rfl _ _ _ _ rfl rfl R4.out ?_)
      go_roundw
      case rel => exact ⟨i + 1, by omega, by go_num, S4.out⟩
      case measure => simp [intOf]; omega
    · have hltz : ¬ (i : Int) < (NA : Int) := by omega
      have hkS : A.take i = A := List.take_of_length_le (by have := HN.out; omega)
      rw [hkS] at s2
      obtain ⟨a4, c4, rfl⟩ := s2.listIs (E := elI) (v := u4) (A := B ++ waitsN A) (by simp)
      have S3 := hid (HS.out.join s2)
      obtain ⟨β, hβ⟩ : ∃ β, decide (0 < NA) = β := ⟨_, rfl⟩
      have hβ' : decide ((0 : Int) < (NA : Int)) = β := by rw [← hβ]; by_cases h0 : 0 < NA <;> simp [h0] <;> omega
      clear s2 hlt hkS hi hs2
      generalize hm1 : (B ++ waitsN A).length = m1 at *
      go_wp2_with fail
      go_quiet (fail)
      go_wp2
      go_ret2
      subst hm1
      exact ⟨a4, c4, by rw [hβ]; rfl, S3.out.drewN _⟩
set_option maxHeartbeats 4000000 in
theorem rcancel_sep (s : Sep w0 r w (blk k (objR a b) :: lstS a A :: lstI b B :: R)) (n : Int) (hA : A.length ≤ 1000) (hB : B.length ≤ 1000) :
    Calls Try.prog 10 #[ptr k, .int .i64 n] w fun e w' => e = .returned (.bool (rthB A B n)) ∧ ∃ a' b', Sep w0 r w' (blk k (objR a' b') :: lstS a' (outS (isW n) A) :: lstI b' (B.filter fun x => !decide (x = n)) :: R) := by
  have HT := hid (rthere_sep s n hA hB)
  cases hb : rthB A B n with
  | false =>
    rw [hb] at HT
    have h1 : A.any (isW n) = false ∧ (B.any fun x => decide (x = n)) = false := by
      unfold rthB at hb
      rw [Bool.or_eq_false_iff] at hb
      exact hb
    have e1 : outS (isW n) A = A := by
      unfold outS
      rw [List.filter_eq_self]
      intro x hx
      cases hq : isW n x
      · rfl
      · exact absurd (List.any_eq_true.2 ⟨x, hx, hq⟩) (by rw [h1.1]; decide)
    have e2 : (B.filter fun x => !decide (x = n)) = B := by
      rw [List.filter_eq_self]
      intro x hx
      cases hq : decide (x = n)
      · rfl
      · exact absurd (List.any_eq_true.2 ⟨x, hx, hq⟩) (by rw [h1.2]; decide)
    have HS : Hid (∃ a' b', Sep w0 r w (blk k (objR a' b') :: lstS a' (outS (isW n) A) :: lstI b' (B.filter fun x => !decide (x = n)) :: R)) := ⟨a, b, by rw [e1, e2]; exact s⟩
    clear s hb h1 e1 e2
    go_enter Try.func10, Try.ntmps10
    go_wp2_with (go_at_call 20; refine Calls.mono HT.out ?_; rintro e w' ⟨rfl, rfl⟩)
    go_ret
    exact ⟨rfl, HS.out⟩
  | true =>
    rw [hb] at HT
    clear hb
    obtain ⟨aa, ca, rfl⟩ := s.listIs (E := elS) (v := a) (A := A) (by simp)
    obtain ⟨ab, cb, rfl⟩ := s.listIs (E := elI) (v := b) (A := B) (by simp)
    have HS := hid s
    have s1 := (Sep.made (E := elI) (Sep.made (E := elS) (sep_nil w))).swap
    have e9 : (w.alloc (.cells #[] elS.e)).heap.size = w.heap.size + 1 := by simp
    rw [e9] at s1
    simp only [elS, elI] at s1
    have S1 := hid s1
    clear s s1 e9
    generalize hNA : A.length = NA at *
    generalize hNB : B.length = NB at *
    have HN := hid (And.intro hNA hNB)
    clear hNA hNB
    go_enter Try.func10, Try.ntmps10
    go_wp2_with (go_at_call 20; refine Calls.mono HT.out ?_; rintro e w' ⟨rfl, rfl⟩)
    go_loopw [5, 7] (fun s5 s7 wr => ∃ i : Nat, i ≤ NA ∧ s7 = .int .i64 i ∧ Sep w' w'.heap.size wr [lstS s5 (outS (isW n) (A.take i)), lstI (.slice (some ⟨w'.heap.size + 1, 0, none⟩) 0 0) []]) (fun _ s7 _ => NA - (intOf s7).toNat)
    case atStart => exact ⟨0, Nat.zero_le _, rfl, S1.out⟩
    case round =>
      clear S1
      obtain ⟨i, hi, rfl, s2⟩ := hrel
      have hs2 := HS.out.below s2.low
      obtain ⟨c0, c1, -, -⟩ := hs2.cellR
      by_cases hlt : i < NA
      · have hltz : (i : Int) < (NA : Int) := by omega
        have hi1 : i < A.length := by have := HN.out; omega
        have hx := List.getElem?_eq_getElem hi1
        obtain ⟨q, rfl, hc⟩ := hs2.listAt okS (ao := aa) (n := NA) (cap := ca) (A := A) (by simp) hx
        obtain ⟨d0, d1, d2, d3, d4, d5, d6, d7⟩ := AtS.cells (w := wr) (g := q) (o := i * 8) (x := A[i]) hc
        have hlen : (A.take i).length ≤ 1000 := by rw [List.length_take]; omega
        have hA2 := out_len (isW n) (A.take i)
        have HB := outS_take (isW n) hx
        obtain ⟨a5, c5, rfl⟩ := s2.listIs (E := elS) (v := u5) (A := outS (isW n) (A.take i)) (by simp)
        by_cases hg : A[i].n = n
        · have hq : (A[i].n == n) = true := by simpa using hg
          have hq' : (A[i].n != n) = false := by simpa using hg
          have hh : isW n A[i] = true := by simpa [isW] using hg
          rw [if_pos hh] at HB
          have HBB := hid HB
          have S2 := hid s2
          clear s2 hs2 HB hg hh hx hc hA2 hlen
          generalize A[i] = y at *
          clear hi1
          go_wp2
          go_roundw
          case rel => exact ⟨i + 1, by omega, by go_num, by rw [HBB.out]; exact S2.out⟩
          case measure => simp [intOf]; omega
        · have hq : (A[i].n == n) = false := by simpa using hg
          have hq' : (A[i].n != n) = true := by simpa using hg
          have hh : ¬ isW n A[i] = true := by simpa [isW] using hg
          rw [if_neg hh] at HB
          obtain ⟨v4, w4, r4, s4⟩ := s2.more okS 26 A[i] (C := (cS A[i]).toArray) rfl (by omega)
          simp only [elS, cS] at r4
          have R4 := hid r4
          have S4 := hid s4
          have HBB := hid HB
          clear r4 s4 s2 hs2 HB hg hh hx hc hA2 hlen
          generalize A[i] = y at *
          clear hi1
          go_wp2_with (at_builtin; refine wpList_append_run rfl _ _ _ _ rfl _ _ _ _ rfl rfl R4.out ?_)
          go_roundw
          case rel => exact ⟨i + 1, by omega, by go_num, by rw [HBB.out]; exact S4.out⟩
          case measure => simp [intOf]; omega
      · have hltz : ¬ (i : Int) < (NA : Int) := by omega
        have hkS : A.take i = A := List.take_of_length_le (by have := HN.out; omega)
        rw [hkS] at s2
        obtain ⟨a5, c5, rfl⟩ := s2.listIs (E := elS) (v := u5) (A := outS (isW n) A) (by simp)
        have S2 := hid s2
        generalize hm1 : (outS (isW n) A).length = m1 at *
        clear s2 hs2 hkS hm1
        go_wp2
        go_loopw [6, 8] (fun s6 s8 wr => ∃ i : Nat, i ≤ NB ∧ s8 = .int .i64 i ∧ Sep w' w'.heap.size wr [lstI s6 ((B.take i).filter fun x => !decide (x = n)), lstS (.slice a5 m1 c5) (outS (isW n) A)]) (fun _ s8 _ => NB - (intOf s8).toNat)
        case atStart => exact ⟨0, Nat.zero_le _, rfl, S2.out.swap⟩
        case round =>
          clear S2 c0 c1
          obtain ⟨i', hi', rfl, s2⟩ := hrel
          have hs2 := HS.out.below s2.low
          obtain ⟨c0, c1, f0, f1⟩ := hs2.cellR
          by_cases hlt' : i' < NB
          · have hltz' : (i' : Int) < (NB : Int) := by omega
            have hi1 : i' < B.length := by have := HN.out; omega
            have hx := List.getElem?_eq_getElem hi1
            obtain ⟨q, rfl, hc⟩ := hs2.listAt okI (ao := ab) (n := NB) (cap := cb) (A := B) (by simp) hx
            have d0 : _ := hc 0 _ rfl
            have d0' : wr.cell? ⟨q, i', none⟩ = some (.int .i64 B[i']) := by simpa [elI] using d0
            have hlen : ((B.take i').filter fun x => !decide (x = n)).length ≤ 1000000 := Nat.le_trans (List.length_filter_le _ _) (by rw [List.length_take]; have := HN.out; omega)
            have ht : B.take (i' + 1) = B.take i' ++ [B[i']] := by
              rw [List.take_add_one, hx]
              rfl
            obtain ⟨a6, c6, rfl⟩ := s2.listIs (E := elI) (v := u6) (A := (B.take i').filter fun x => !decide (x = n)) (by simp)
            by_cases hg : B[i'] = n
            · have hq : (B[i'] == n) = true := by simpa using hg
              have hq' : (B[i'] != n) = false := by simpa using hg
              have HBB : Hid (((B.take (i' + 1)).filter fun x => !decide (x = n)) = (B.take i').filter fun x => !decide (x = n)) := by
                show _ = _
                rw [ht, List.filter_append]
                simp [hg]
              have S2 := hid s2
              clear s2 hs2 hg hx hc hlen d0 ht
              generalize B[i'] = y at *
              clear hi1
              go_wp2
              go_roundw
              case rel => exact ⟨i' + 1, by omega, by go_num, by rw [HBB.out]; exact S2.out⟩
              case measure => simp [intOf]; omega
            · have hq : (B[i'] == n) = false := by simpa using hg
              have hq' : (B[i'] != n) = true := by simpa using hg
              have HBB : Hid (((B.take (i' + 1)).filter fun x => !decide (x = n)) = ((B.take i').filter fun x => !decide (x = n)) ++ [B[i']]) := by
                show _ = _
                rw [ht, List.filter_append]
                simp [hg]
              obtain ⟨v4, w4, r4, s4⟩ := s2.more okI 27 B[i'] (C := #[.int .i64 B[i']]) rfl hlen
              simp only [elI] at r4
              have R4 := hid r4
              have S4 := hid s4
              clear r4 s4 s2 hs2 hg hx hc hlen d0 ht
              generalize B[i'] = y at *
              clear hi1
              go_wp2_with (at_builtin; refine wpList_append_run rfl _ _ _ _ rfl _ _ _ _ rfl rfl R4.out ?_)
              go_roundw
              case rel => exact ⟨i' + 1, by omega, by go_num, by rw [HBB.out]; exact S4.out⟩
              case measure => simp [intOf]; omega
          · have hltz' : ¬ (i' : Int) < (NB : Int) := by omega
            have hkB : B.take i' = B := List.take_of_length_le (by have := HN.out; omega)
            rw [hkB] at s2
            obtain ⟨a6, c6, rfl⟩ := s2.listIs (E := elI) (v := u6) (A := B.filter fun x => !decide (x = n)) (by simp)
            have S3 := hid ((((HS.out.join s2).third.swap.setA (.slice a5 m1 c5)).setB (.slice a6 (B.filter fun x => !decide (x = n)).length c6)).fourth.drop.fourth.drop)
            generalize hm2 : (B.filter fun x => !decide (x = n)).length = m2 at *
            clear s2 hs2 hkB hm2
            go_wp2
            go_ret
            exact ⟨rfl, _, _, S3.out⟩
end
end Go.Proofs.Ytddeiglcbnemfaa

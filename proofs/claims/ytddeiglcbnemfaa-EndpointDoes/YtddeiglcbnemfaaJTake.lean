/-
  What there, takeOut and next of package endpoint answer, and leave; no condition but that few wait.
-/
import Derived.Test.YtddeiglcbnemfaaJClo
namespace Go.Proofs.Ytddeiglcbnemfaa
open Go.RowKit Go.Deep Go.Shelf

set_option maxHeartbeats 2000000 in
theorem there_any (p : Nat) (v : Value) (S : St) (n : Int) (w : World) (h : EpH p v S w) (hl : S.length ≤ 1000) :
    Calls Try.prog 18 #[ptr p, .int .i64 n] w fun e w' => e = .returned (.bool (thB S n)) ∧ Below w.heap.size w w' := by
  have HE := hid (h.below (below_drewN (Below.refl w.heap.size w) 1))
  have hE : w.drewN 1 = w.drew := rfl
  rw [hE] at HE
  have c0 := h.cell
  obtain ⟨ao, cap, rfl, -, -, -, -⟩ := h.row.slice
  have HL := hid hl
  clear h hl hE
  unfold thB
  generalize hN : S.length = N at *
  go_enter Try.func18, Try.ntmps18
  go_wp2_with fail
  go_region_with (first
    | (go_at_call 22; refine Calls.mono (named_any _ _) ?_; rintro e w1 ⟨c, rfl, k1, b1⟩; obtain ⟨g1, l1, rfl⟩ := k1.form; have K1 := hid k1; have E1 := hid (HE.out.below b1); have B1 := hid b1; have c1 := E1.out.cell; clear k1 b1)
    | (go_at_call 26; refine Calls.mono (contains_any _ _ _ _ _ K1.out E1.out.row (by rw [hN]; exact HL.out)) ?_; rintro e w2 ⟨rfl, b2⟩))
  all_goals
    go_wp2
    go_ret
    exact ⟨rfl, Below.then ⟨B1.out.os, B1.out.tape, B1.out.output, B1.out.size, B1.out.block⟩ b2 B1.out.size⟩

section
variable {w0 w : World} {r p : Nat} {v : Value} {S : St} {R : List Th}
theorem outN_take (q : Wt → Bool) {S : St} {k : Nat} {x : Wt} (h : S[k]? = some x) : outN q (S.take (k + 1)) = if q x = true then outN q (S.take k) ++ [x.n] else outN q (S.take k) := by
  have e : S.take (k + 1) = S.take k ++ [x] := by
    rw [List.take_add_one, h]
    rfl
  unfold outN
  rw [e, List.filter_append, List.map_append]
  cases hq : q x <;> simp [hq]
theorem outS_take (q : Wt → Bool) {S : St} {k : Nat} {x : Wt} (h : S[k]? = some x) : outS q (S.take (k + 1)) = if q x = true then outS q (S.take k) else outS q (S.take k) ++ [x] := by
  have e : S.take (k + 1) = S.take k ++ [x] := by
    rw [List.take_add_one, h]
    rfl
  unfold outS
  rw [e, List.filter_append]
  cases hq : q x <;> simp [hq]
set_option maxHeartbeats 4000000 in
theorem takeOut_sep (s : Sep w0 r w (epT p v S :: R)) (c : Value) (q : Wt → Bool) (hc : Clo w c q) (hl : S.length ≤ 1000) :
    Calls Try.prog 21 #[ptr p, c] w fun e w' => ∃ u v', e = .returned u ∧ Sep w0 r w' (epT p v' (outS q S) :: lstI u (outN q S) :: R) := by
  obtain ⟨g, lb, rfl, eg, hc⟩ := hc
  have c0 := s.cellP
  obtain ⟨ao, cap, rfl, hg⟩ := s.sliceP
  have HS := hid s
  have HP := hid hc
  have HG := hid hg
  have HL := hid hl
  clear s hc hg
  generalize hN : S.length = N at *
  have HN := hid hN
  clear hN
  go_enter Try.func21, Try.ntmps21
  go_wp2
  go_loopw [5, 6, 14] (fun s5 s6 s14 wr => ∃ k : Nat, k ≤ N ∧ s14 = .int .i64 k ∧ Sep w w.heap.size wr [lstI s5 (outN q (S.take k)), lstW s6 (outS q (S.take k))]) (fun _ _ s14 _ => N - (intOf s14).toNat)
  case atStart => exact ⟨0, Nat.zero_le _, rfl, (sep_nil w).nil.nil⟩
  case round =>
    obtain ⟨k, hk, rfl, s1⟩ := hrel
    have S1 := hid s1
    clear c0
    by_cases hlt : k < N
    · have hltz : (k : Int) < (N : Int) := by omega
      obtain ⟨b, rfl⟩ := HG.out k hlt
      have hk1 : k < S.length := by have := HN.out; omega
      have HX := hid (List.getElem?_eq_getElem hk1)
      obtain ⟨c0, c1, c2, c3, c4, c5, c6, c7, c8⟩ := (RowW.at (EpH.row (EpH.below HS.out.head s1.low)) HX.out).cells
      have S2 := hid (s1.box (objW S[k]))
      have hcall := HP.out (wr.alloc (objW S[k])) S[k] S2.out.low
      have HL1 := hid hlt
      clear hlt s1 S1
      generalize S[k] = y at *
      clear hk1
      have hA := outN_len q (S.take k)
      have hB := out_len q (S.take k)
      have hT : (S.take k).length ≤ 1000 := by
        rw [List.length_take]
        have := HL.out
        omega
      have HAB : Hid ((outN q (S.take k)).length ≤ 1000 ∧ (outS q (S.take k)).length ≤ 1000) := ⟨by omega, by omega⟩
      clear hA hB hT
      simp only [encW, objW] at *
      cases hq : q y with
      | true =>
        rw [hq] at hcall
        have HA := hid ((outN_take q HX.out).trans (if_pos hq))
        have HB := hid ((outS_take q HX.out).trans (if_pos hq))
        clear hq
        go_wp2_with (first
          | (at_builtin; refine wpList_append_run rfl _ _ _ _ rfl _ _ _ _ rfl rfl R3.out ?_)
          | (go_at_fn g; refine hcall.mono ?_; rintro e w2 ⟨rfl, b2⟩; have s2 := S2.out.below b2; obtain ⟨d0, -⟩ := (atW_of (x := y) s2.head).cells; obtain ⟨v3, w3, r3, s3⟩ := s2.drop.more okI 27 y.n (C := #[.int .i64 y.n]) rfl (by have := HAB.out; omega); simp only [elI] at r3; have R3 := hid r3; have S3 := hid s3; clear s2 s3 r3 b2))
        go_roundw
        case rel => exact ⟨k + 1, by have := HL1.out; omega, by go_num, by rw [HA.out, HB.out]; exact S3.out⟩
        case measure => simp [intOf]; have := HL1.out; omega
      | false =>
        rw [hq] at hcall
        have HA := hid ((outN_take q HX.out).trans (if_neg (by rw [hq]; decide)))
        have HB := hid ((outS_take q HX.out).trans (if_neg (by rw [hq]; decide)))
        clear hq
        go_wp2_with (first
          | (at_builtin; refine wpList_append_run rfl _ _ _ _ rfl _ _ _ _ rfl rfl R3.out ?_)
          | (go_at_fn g; refine hcall.mono ?_; rintro e w2 ⟨rfl, b2⟩; have s2 := S2.out.below b2; obtain ⟨d0, d1, d2, d3, d4, d5, d6, d7, d8⟩ := (atW_of (x := y) s2.head).cells; obtain ⟨v3, w3, r3, s3⟩ := s2.drop.swap.more okW 49 y (C := (cW y).toArray) rfl (by have := HAB.out; omega); simp only [elW, cW] at r3; have R3 := hid r3; have S3 := hid s3.swap; clear s2 s3 r3 b2))
        go_roundw
        case rel => exact ⟨k + 1, by have := HL1.out; omega, by go_num, by rw [HA.out, HB.out]; exact S3.out⟩
        case measure => simp [intOf]; have := HL1.out; omega
    · have hltz : ¬ (k : Int) < (N : Int) := by omega
      have hkS : S.take k = S := List.take_of_length_le (by have := HN.out; omega)
      rw [hkS] at s1
      obtain ⟨a6, c6, rfl⟩ := s1.listIs (E := elW) (v := u6) (A := outS q S) (by simp)
      have s2 := HS.out.join s1
      generalize hm : (outS q S).length = m at *
      clear hm
      have c0 := EpH.cell (s2.each (epT p (.slice ao N cap) S) (by simp)).1
      have f0 := EpH.frozen (s2.each (epT p (.slice ao N cap) S) (by simp)).1
      have S2 := hid (Sep.hang (s2.third) (good_out HS.out.good q))
      clear s1 s2 S1 hlt hkS hk
      go_wp2
      go_ret
      exact ⟨_, rfl, _, S2.out⟩
end
end Go.Proofs.Ytddeiglcbnemfaa

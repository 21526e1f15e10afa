/-
  What Take, Line and Next of the document's queue answer and leave; no condition but that the queue is small.
-/
import Derived.Test.YtchamgecalfmpaaDoorXRef
namespace Go.Proofs.YtchamgecalfmpaaDoor
open Go.RowKit Go.Deep Go.Shelf

/-! ### Take -/
set_option maxHeartbeats 2000000 in
theorem rtake_any (k : Nat) (v : Value) (S : St) (n : Int) (w : World) (h : RtH k v S w) (hl : S.length ≤ 1000) :
    Calls Tryd.prog 83 #[.pointer (some ⟨k, 0, none⟩), .int .i64 n] w fun e w' => e = .returned (.int .i64 (takeE S n)) ∧ GoesR w k v (takeS S n) w' := by
  obtain ⟨ao, cap, ev, hg⟩ := h.row.slice
  subst ev
  have HH := hid h
  have HA := hid hg
  have H0 := hid ((sep_nil w).new (t := lstN (.slice (some ⟨w.heap.size, 0, none⟩) 0 0) []) (w' := w.alloc (.cells #[] 98)) (own_low (World.ownsRow_made w #[] 0 (Nat.le_refl _) (by unfold maxLen; omega) rfl)) (below_new _ _) fun x hx => by
    have : some w.heap.size = some x := hx
    cases this
    exact Nat.le_refl _)
  clear h hg
  generalize hm : S.length = m at *
  go_enter Tryd.func83, Tryd.ntmps83
  go_wp2_with fail
  generalize hr : w.heap.size = r at *
  go_loopw [5, 6] (fun s5 s6 wr => ∃ (j : Nat) (u : Value), j ≤ m ∧ s6 = .int .i64 j ∧ s5 = u ∧ Sep w r wr [lstN u ((S.take j).filter fun y => y.n != n)]) (fun _ s6 _ => m - (intOf s6).toNat)
  case atStart => exact ⟨0, _, Nat.zero_le _, rfl, rfl, H0.out⟩
  case round =>
    clear H0
    obtain ⟨j, u, hj, rfl, rfl, s1⟩ := hrel
    have h1 := HH.out.below (hr ▸ s1.low)
    have hc := h1.cell
    by_cases hlt : j < m
    · obtain ⟨g, rfl⟩ := HA.out j hlt
      have hjl : j < S.length := by omega
      obtain ⟨c0, c1⟩ := h1.row.cells (List.getElem?_eq_getElem hjl)
      have HTk := hid (List.take_succ_eq_append_getElem hjl)
      generalize hx : S[j] = x at *
      have hltz : (j : Int) < (m : Int) := by omega
      clear hx
      by_cases hxn : x.n = n
      · subst hxn
        have S1 := hid s1
        clear s1 h1
        go_wp2
        go_round
        case rel => exact ⟨j + 1, _, by omega, by go_num, rfl, by rw [HTk.out, List.filter_append]; simpa using S1.out⟩
        case measure => simp [intOf]; omega
      · have hne : (x.n == n) = false := by simpa using hxn
        have hne2 : (x.n != n) = true := by simpa using hxn
        obtain ⟨v', w', r1, r2, r3, r4⟩ := append_in wr u5 ((S.take j).filter fun y => y.n != n) x s1.head (by have := List.length_filter_le (fun y : In => y.n != n) (S.take j); rw [List.length_take] at this; omega)
        have S2 := hid (s1.turn (t' := lstN v' ((S.take j).filter (fun y => y.n != n) ++ [x])) r2 (Turn.grown r3 fun k hk => .inl hk) fun y hy => r4 y hy)
        have R2 := hid r1
        clear s1 h1 r1 r2 r3 r4
        go_wp2_with (at_builtin; (with_reducible refine wpList_append_run rfl (.tmp 27) (.tmp 35) 67 67 rfl u5 (.slice (some ⟨wr.heap.size, 0, none⟩) 1 1) v' w' rfl rfl R2.out ?_))
        go_round
        case rel => exact ⟨j + 1, _, by omega, by go_num, rfl, by rw [HTk.out, List.filter_append]; simpa [hxn] using S2.out⟩
        case measure => simp [intOf]; omega
    · obtain rfl : j = m := by omega
      have hS : S.take j = S := by rw [← hm, List.take_length]
      rw [hS] at s1
      have s2 : Sep w r wr [lstN u5 (takeS S n)] := s1
      obtain ⟨ao5, cap5, ev, _⟩ := RowN.slice s2.head
      subst ev
      have S2 := hid s2
      have hf := h1.frozen
      clear s1 s2 hS
      cases hb : whB S n with
      | false =>
        have HE : Hid (takeE S n = 91 ∧ takeS S n = S ∧ (takeS S n).length = j) := ⟨by simp [takeE, hb], take_none hb, by rw [take_none hb]; exact hm⟩
        have hlen := HE.out.2.2
        rw [hlen] at *
        clear hb h1 hlen
        go_wp2
        go_ret
        exact ⟨ret_int HE.out.1.symm, by rw [HE.out.2.1]; exact GoesR.same HH.out (by rw [hr]; exact S2.out.low)⟩
      | true =>
        obtain ⟨x, hx, hxn⟩ := whB_some hb
        have hlen : (takeS S n).length < j := by rw [← hm]; exact take_len hx hxn
        have HE : Hid (takeE S n = 0) := by
          show takeE S n = 0
          simp [takeE, hb]
        have HK : Hid (GoesR w k (.slice ao j cap) (takeS S n) (wr.setCell ⟨k, 0, none⟩ (.slice ao5 (takeS S n).length cap5))) := by
          have b := S2.out.low
          exact HH.out.hang S2.out.head ⟨b.os, b.tape, b.output, b.size, fun y hy _ => b.block y (hr ▸ hy)⟩ (fun g e => .inr (by rw [hr]; exact (S2.out.each (lstN (.slice ao5 (takeS S n).length cap5) (takeS S n)) (by simp)).2 g e)) (good_take HH.out.good n)
        generalize (takeS S n).length = l at *
        have hne : ¬ ((l : Int) = (j : Int)) := by omega
        clear h1 hb hx hxn
        go_wp2
        go_ret
        exact ⟨ret_int HE.out.symm, HK.out⟩
/-! ### Line -/
theorem lineI_filter {S : St} (g : Good S) (p : Int) : (S.filter fun x => (x.p : Int) == p).map In.n = lineI S p := by
  rcases lineI_cases S p with ⟨P, rfl, hP, e⟩ | ⟨hp, e⟩ <;> rw [e]
  · unfold lineN
    refine congrArg (List.map In.n) (List.filter_congr fun x _ => ?_)
    by_cases e2 : x.p = P
    · rw [e2]
      simp
    · have e3 : ((x.p : Int) == (P : Int)) = false := by rw [beq_eq_false_iff_ne]; omega
      have e4 : (x.p == P) = false := by rw [beq_eq_false_iff_ne]; exact e2
      rw [e3, e4]
  · have : (S.filter fun x => (x.p : Int) == p) = [] := by
      rw [List.filter_eq_nil_iff]
      intro x hx e
      have := (g.fit x hx).1
      simp at e
      omega
    rw [this]
    rfl
set_option maxHeartbeats 2000000 in
theorem rline_any (k : Nat) (v : Value) (S : St) (p : Int) (w : World) (h : RtH k v S w) (hl : S.length ≤ 1000) :
    Calls Tryd.prog 59 #[.pointer (some ⟨k, 0, none⟩), .int .i64 p] w fun e w' => ∃ u, e = .returned u ∧ Sep w w.heap.size w' [lstI u (lineI S p)] := by
  obtain ⟨ao, cap, ev, hg⟩ := h.row.slice
  subst ev
  have HH := hid h
  have HA := hid hg
  have H0 := hid (sep_nil w).madeI
  clear h hg
  generalize hm : S.length = m at *
  go_enter Tryd.func59, Tryd.ntmps59
  go_wp2_with fail
  generalize hr : w.heap.size = r at *
  go_loopw [5, 6] (fun s5 s6 wr => ∃ (j : Nat) (u : Value), j ≤ m ∧ s6 = .int .i64 j ∧ s5 = u ∧ Sep w r wr [lstI u (((S.take j).filter fun x => (x.p : Int) == p).map In.n)]) (fun _ s6 _ => m - (intOf s6).toNat)
  case atStart => exact ⟨0, _, Nat.zero_le _, rfl, rfl, H0.out⟩
  case round =>
    clear H0
    obtain ⟨j, u, hj, rfl, rfl, s1⟩ := hrel
    have h1 := HH.out.below (hr ▸ s1.low)
    have hc := h1.cell
    by_cases hlt : j < m
    · obtain ⟨g, rfl⟩ := HA.out j hlt
      have hjl : j < S.length := by omega
      obtain ⟨c0, c1⟩ := h1.row.cells (List.getElem?_eq_getElem hjl)
      have HTk := hid (List.take_succ_eq_append_getElem hjl)
      generalize hx : S[j] = x at *
      have hltz : (j : Int) < (m : Int) := by omega
      clear hx
      by_cases hxp : (x.p : Int) = p
      · obtain ⟨v', w', r1, s2⟩ := s1.more x.n (by have := List.length_filter_le (fun x : In => (x.p : Int) == p) (S.take j); rw [List.length_map]; rw [List.length_take] at this; omega)
        have S2 := hid s2
        have R2 := hid r1
        have heq : ((x.p : Int) == p) = true := by simpa using hxp
        clear s1 h1 r1 s2
        have HX := hid hxp
        clear hxp
        go_wp2_with (at_builtin; (with_reducible refine wpList_append_run rfl (.tmp 27) (.tmp 36) 50 50 rfl u5 (.slice (some ⟨wr.heap.size, 0, none⟩) 1 1) v' w' rfl rfl R2.out ?_))
        go_round
        case rel => exact ⟨j + 1, _, by omega, by go_num, rfl, by rw [HTk.out, List.filter_append, List.map_append]; simpa [HX.out] using S2.out⟩
        case measure => simp [intOf]; omega
      · have hne : ((x.p : Int) == p) = false := by simpa using hxp
        have S1 := hid s1
        clear s1 h1
        go_wp2
        go_round
        case rel => exact ⟨j + 1, _, by omega, by go_num, rfl, by rw [HTk.out, List.filter_append, List.map_append]; simpa [hxp] using S1.out⟩
        case measure => simp [intOf]; omega
    · obtain rfl : j = m := by omega
      have hS : S.take j = S := by rw [← hm, List.take_length]
      rw [hS, lineI_filter HH.out.good] at s1
      have S1 := hid s1
      clear s1 h1 hS
      go_wp2
      go_ret
      exact ⟨_, rfl, by rw [hr]; exact S1.out⟩
/-! ### Next -/
theorem next_at {S : St} (g : Good S) {P : Nat} {n : Int} {L : List Int} (h : lineN S P = n :: L) (ha : ∀ q : Nat, P < q → q < 256 → lineN S q = []) : nextN S = n ∧ nextB S = true := by
  obtain ⟨y, hy, hyp, _⟩ := line_mem.1 (show n ∈ lineN S P by rw [h]; simp)
  rcases next_cases g with ⟨e, _⟩ | ⟨x, L', hx, _, _, e2, e3, _, e4, e5⟩
  · rw [e] at hy
    simp at hy
  · have h1 := e5 y hy
    have h2 : ¬ P < x.p := fun hlt => by
      have := ha x.p hlt (g.fit x hx).1
      rw [e4] at this
      cases this
    have h3 : x.p = P := by omega
    rw [h3, h] at e4
    injection e4 with e6 _
    exact ⟨by rw [e2, e6], e3⟩
theorem next_no {S : St} (g : Good S) (ha : ∀ q : Nat, q < 256 → lineN S q = []) : nextN S = 0 ∧ nextB S = false := by
  rcases next_cases g with ⟨_, _, _, e2, e3, _⟩ | ⟨x, L', hx, _, _, e2, e3, _, e4, e5⟩
  · exact ⟨e2, e3⟩
  · have := ha x.p (g.fit x hx).1
    rw [e4] at this
    cases this
set_option maxHeartbeats 2000000 in
theorem rnext_any (k : Nat) (v : Value) (S : St) (w : World) (h : RtH k v S w) (hl : S.length ≤ 1000) :
    Calls Tryd.prog 75 #[.pointer (some ⟨k, 0, none⟩)] w fun e w' => e = .returned (.tuple #[.int .i64 (nextN S), .bool (nextB S)]) ∧ Below w.heap.size w w' := by
  have HH := hid h
  clear h
  go_enter Tryd.func75, Tryd.ntmps75
  go_wp2_with fail
  go_loopw [4, 5] (fun s4 _ wr => ∃ j : Nat, j ≤ 256 ∧ s4 = .int .i64 ((j : Int) - 1) ∧ Hid (∀ q : Nat, j ≤ q → q < 256 → lineN S q = []) ∧ Below w.heap.size w wr) (fun s4 _ _ => (intOf s4 + 1).toNat)
  case atStart => exact ⟨256, by omega, rfl, fun q h1 h2 => by omega, Below.refl _ _⟩
  case round =>
    obtain ⟨j, hj, rfl, HJ, bel⟩ := hrel
    cases j with
    | zero =>
      have HN := hid (next_no HH.out.good fun q hq => HJ.out q (by omega) hq)
      have HB := hid bel
      have hz : ((0 : Nat) : Int) - 1 = -1 := rfl
      clear bel
      go_wp2
      go_ret2
      exact ⟨by rw [HN.out.1, HN.out.2]; rfl, HB.out⟩
    | succ i =>
      have hz : ((i + 1 : Nat) : Int) - 1 = (i : Int) := by omega
      have HR := hid (rline_any k v S (i : Int) wr (HH.out.below bel) hl)
      have HB := hid bel
      have HLi := hid (show lineI S (i : Int) = lineN S i by unfold lineI; rw [if_pos (by omega), Int.toNat_natCast])
      rw [hz]
      clear bel hz
      go_wp2_with fail
      refine Calls.mono HR.out ?_
      rintro e w2 ⟨u, rfl, s2⟩
      rw [HLi.out] at s2
      obtain ⟨ao, cap, ev⟩ := s2.listIs (v := u) (A := lineN S i) (by simp)
      subst ev
      cases hL : lineN S i with
      | nil =>
        rw [hL] at s2
        have HB2 := hid (Below.then HB.out s2.low HB.out.size)
        have HL := hid hL
        simp only [List.length_nil]
        clear s2 hL
        go_wp2
        go_round
        case rel => exact ⟨i, by omega, by go_num, fun q h1 h2 => by
          by_cases e : q = i
          · rw [e]; exact HL.out
          · exact HJ.out q (by omega) h2, HB2.out⟩
        case measure => simp [intOf]
      | cons n L =>
        rw [hL] at s2
        obtain ⟨g, rfl, c0⟩ := s2.listAt (ao := ao) (n := (n :: L).length) (cap := cap) (A := n :: L) (by simp) (k := 0) (x := n) rfl
        have HB2 := hid (Below.then HB.out s2.low HB.out.size)
        have HN := hid (next_at HH.out.good hL fun q h1 h2 => HJ.out q (by omega) h2)
        simp only [List.length_cons]
        clear s2 hL
        generalize L.length = l at *
        have hl0 : 0 < l + 1 := by omega
        have hl1 : (0 : Int) < (l : Int) + 1 := by omega
        go_wp2
        go_ret2
        exact ⟨by rw [HN.out.1, HN.out.2]; rfl, HB2.out⟩
end Go.Proofs.YtchamgecalfmpaaDoor

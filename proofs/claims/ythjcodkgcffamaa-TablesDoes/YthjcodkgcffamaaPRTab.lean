/-
  What Table, Walk and Pages of the document's own space answer, and leave; no condition but that tables and pages are few.
-/
import Derived.Test.YthjcodkgcffamaaPRef
namespace Go.Proofs.Ythjcodkgcffamaa
open Go.RowKit Go.Deep Go.Shelf
/-- The document's space in block k says S, with at most N tables, N pages. -/
def Rs (w0 : World) (r : Nat) (w : World) (k : Nat) (S : Sp) (N : Nat) (R : List Th) : Prop :=
  ∃ a b A B, Sep w0 r w (blk k (objR a b) :: lstT a A :: lstL b B :: R) ∧ Rl A B S ∧ A.length ≤ N ∧ B.length ≤ N
section
variable {w0 w : World} {r k N : Nat} {S : Sp} {R : List Th}
theorem Rs.mono (h : Rs w0 r w k S N R) {M : Nat} (hm : N ≤ M) : Rs w0 r w k S M R := by
  obtain ⟨a, b, A, B, s, h1, h2, h3⟩ := h
  exact ⟨a, b, A, B, s, h1, by omega, by omega⟩
theorem Rs.below {w' : World} (h : Rs w0 r w k S N R) (b : Below w.heap.size w w') : Rs w0 r w' k S N R := by
  obtain ⟨a, b', A, B, s, h1⟩ := h
  exact ⟨a, b', A, B, s.below b, h1⟩
theorem rhas_rs (h : Rs w0 r w k S N R) (i : Int) (hN : N ≤ 900) : Calls Try.prog 24 #[ptr k, .int .i64 i] w fun e w' => e = .returned (.tuple #[.int .i64 (hasN S i), .bool (hasB S i)]) ∧ w' = w := by
  obtain ⟨a, b, A, B, s, rl, hA, hB⟩ := h
  have := rhas_p s i (by omega)
  rw [rl.t] at this
  exact this
set_option maxRecDepth 100000 in
set_option maxHeartbeats 4000000 in
theorem rtable_rs (h : Rs w0 r w k S N R) (g : Good S) (i n : Int) (hN : N ≤ 900) : Calls Try.prog 11 #[ptr k, .int .i64 i, .int .i64 n] w fun e w' => e = .returned (.int .i64 (tabE S i n)) ∧ Rs w0 r w' k (tabS S i n) (N + 1) R := by
  have HR := hid h
  obtain ⟨a, b, A, B, s, rl, hA, hB⟩ := h
  by_cases hbad : i < 0 ∨ 63 < i ∨ n < 0
  · have hE : tabE S i n = 1 := by unfold tabE; rw [if_pos (by omega)]
    have hS : tabS S i n = S := by unfold tabS; rw [hE]; rfl
    rw [hE, hS]
    clear s rl hE hS g
    by_cases h1 : i < 0
    · go_enter Try.func11, Try.ntmps11
      go_wp2
      go_ret
      exact ⟨rfl, HR.out.mono (by omega)⟩
    · by_cases h2 : 63 < i
      · go_enter Try.func11, Try.ntmps11
        go_wp2
        go_ret
        exact ⟨rfl, HR.out.mono (by omega)⟩
      · have h3 : n < 0 := by omega
        clear hbad
        go_enter Try.func11, Try.ntmps11
        go_wp2
        go_ret
        exact ⟨rfl, HR.out.mono (by omega)⟩
  · have hE : tabE S i n = if (S.t i).isSome = true ∨ anyT S n = true then 140 else 0 := by unfold tabE; rw [if_neg (by omega)]
    have HY : Hid (∀ x ∈ A, (x.1 = i ∨ x.2 = n) → tabE S i n = 140) := fun x hx h => by
      rw [hE, if_pos]
      rcases h with h | h
      · left
        rw [← rl.t, ← h]
        have : look A x.1 = some x.2 := look_of rl.a hx
        rw [this]
        rfl
      · right
        exact (rl.any g n).2 ⟨x, hx, h⟩
    have HZ : Hid ((∀ x ∈ A, x.1 ≠ i ∧ x.2 ≠ n) → tabE S i n = 0) := fun h => by
      rw [hE, if_neg]
      rintro (h1 | h1)
      · rw [← rl.t, look_none.2 fun x hx => (h x hx).1] at h1
        cases h1
      · obtain ⟨x, hx, e⟩ := (rl.any g n).1 h1
        exact (h x hx).2 e
    have HL := hid rl
    clear hE rl g
    have h1 : ¬ i < 0 := by omega
    have h2 : ¬ 63 < i := by omega
    have h3 : ¬ n < 0 := by omega
    obtain ⟨aa, ca, rfl⟩ := s.listIs (E := elT) (v := a) (A := A) (by simp)
    obtain ⟨c0, c1, f0, f1⟩ := s.cellR
    have HS := hid s
    clear s hbad
    generalize hNA : A.length = NA at *
    have HNA := hid hNA
    clear hNA
    go_enter Try.func11, Try.ntmps11
    go_wp2
    go_loopw [7] (fun s7 wr => ∃ t : Nat, t ≤ NA ∧ s7 = .int .i64 t ∧ wr = w ∧ Hid (∀ (j : Nat) (y : Ta), j < t → A[j]? = some y → y.1 ≠ i ∧ y.2 ≠ n)) (fun s7 _ => NA - (intOf s7).toNat)
    case atStart => exact ⟨0, Nat.zero_le _, rfl, rfl, fun j y hj => absurd hj (Nat.not_lt_zero _)⟩
    case round =>
      obtain ⟨t, ht, rfl, rfl, HJ⟩ := hrel
      by_cases hlt : t < NA
      · have hltz : (t : Int) < (NA : Int) := by omega
        have ht1 : t < A.length := by have := HNA.out; omega
        obtain ⟨x, hx⟩ : ∃ x, A[t]? = some x := ⟨_, List.getElem?_eq_getElem ht1⟩
        obtain ⟨q, rfl, hc⟩ := HS.out.listAt okT (ao := aa) (n := NA) (cap := ca) (A := A) (by simp) hx
        have d0 : wr.cell? ⟨q, t * 2, none⟩ = some (.int .i64 x.1) := hc 0 _ rfl
        have d1 : wr.cell? ⟨q, t * 2 + 1, none⟩ = some (.int .i64 x.2) := hc 1 _ rfl
        have HYx := hid (HY.out x (List.mem_of_getElem? hx))
        have HJ2 : Hid (x.1 ≠ i ∧ x.2 ≠ n → ∀ (j : Nat) (y : Ta), j < t + 1 → A[j]? = some y → y.1 ≠ i ∧ y.2 ≠ n) := fun hxx j y hj hy => by
          by_cases e : j = t
          · subst e
            rw [hx] at hy
            cases hy
            exact hxx
          · exact HJ.out j y (by omega) hy
        clear hx hc ht1
        obtain ⟨x1, x2⟩ := x
        simp only at d0 d1 HYx HJ2
        by_cases e1 : x1 = i
        · have hq : (x1 == i) = true := by simpa using e1
          have HE : Hid (tabE S i n = 140) := HYx.out (.inl e1)
          clear e1
          go_wp2
          go_ret
          exact ⟨by rw [HE.out]; rfl, by unfold tabS; rw [HE.out]; exact HR.out.mono (by omega)⟩
        · have hq : (x1 == i) = false := by simpa using e1
          by_cases e2 : x2 = n
          · have hq2 : (x2 == n) = true := by simpa using e2
            have HE : Hid (tabE S i n = 140) := HYx.out (.inr e2)
            clear e1 e2
            go_wp2
            go_ret
            exact ⟨by rw [HE.out]; rfl, by unfold tabS; rw [HE.out]; exact HR.out.mono (by omega)⟩
          · have hq2 : (x2 == n) = false := by simpa using e2
            have HJ3 := hid (HJ2.out ⟨e1, e2⟩)
            clear e1 e2
            go_wp2
            go_roundw
            case rel => exact ⟨t + 1, by omega, by go_num, trivial, HJ3.out⟩
            case measure => simp [intOf]; omega
      · have hltz : ¬ (t : Int) < (NA : Int) := by omega
        have HE : Hid (tabE S i n = 0) := HZ.out fun x hx => by
          obtain ⟨j, hj⟩ := List.getElem?_of_mem hx
          have := (List.getElem?_eq_some_iff.1 hj).1
          exact HJ.out j x (by have := HNA.out; omega) hj
        obtain ⟨v4, w4, r4, s4⟩ := HS.out.swap.more okT 26 (i, n) (C := #[.int .i64 i, .int .i64 n]) rfl (by have := HNA.out; omega)
        simp only [elT] at r4
        obtain ⟨c4, -, f4, -⟩ := s4.swap.cellR
        obtain ⟨a4, c4', rfl⟩ := s4.listIs (E := elT) (v := v4) (A := A ++ [(i, n)]) (by simp)
        have S4 := hid (s4.swap.setA (.slice a4 (A ++ [(i, n)]).length c4'))
        have R4 := hid r4
        have HRl := hid (HL.out.tab HE.out)
        have HLen : Hid ((A ++ [(i, n)]).length ≤ N + 1) := by show _ ≤ _; rw [List.length_append]; have := HNA.out; simp; omega
        clear s4 r4
        generalize hn4 : (A ++ [(i, n)]).length = n4 at *
        have HN4 := hid hn4
        clear hn4
        have c0' := cell_al c0 (.cells #[.int .i64 i, .int .i64 n] 66)
        go_wp2_with (at_builtin; refine wpList_append_run rfl _ _ _ _ rfl _ _ _ _ rfl rfl R4.out ?_)
        go_ret
        exact ⟨by rw [HE.out]; rfl, _, _, _, _, S4.out, HRl.out, by rw [HN4.out]; exact HLen.out, by omega⟩
set_option maxRecDepth 100000 in
set_option maxHeartbeats 4000000 in
theorem rwalk_rs (h : Rs w0 r w k S N R) (n : Int) (hN : N ≤ 900) : Calls Try.prog 22 #[ptr k, .int .i64 n] w fun e w' => e = .returned (.tuple #[.agg #[.int .i64 (wlkP S n).fr, .int .i64 (wlkP S n).rt], .bool (wlkB S n)]) ∧ Below w.heap.size w w' := by
  obtain ⟨a, b, A, B, s, rl, hA, hB⟩ := h
  have s1 := s.below (below_new w (.cells #[.int .i64 0, .int .i64 0] 31))
  cases hf : S.f n with
  | none =>
    have HP := hid (rplace_none s1 (n := n) (by omega) (by rw [rl.f]; exact hf))
    have e1 : wlkP S n = ⟨0, 0⟩ := by unfold wlkP; rw [hf]; rfl
    have e2 : wlkB S n = false := by unfold wlkB; rw [hf]; rfl
    rw [e1, e2]
    clear s s1 rl hf e1 e2
    go_enter Try.func22, Try.ntmps22
    go_wp2_with (go_at_call 37; refine Calls.mono HP.out ?_; rintro e w' ⟨rfl, rfl⟩)
    exact bodyPost_ret (v := .tuple #[.agg #[.int .i64 0, .int .i64 0], .bool false]) (by simp [results, Try.results22, go_sem]) rfl ⟨rfl, below_new _ _⟩
  | some x =>
    obtain ⟨z, hz, hzb⟩ := find_at (A := B) (i := n) (x := x) (by rw [rl.f]; exact hf)
    have HP := hid (rplace_some s1 (n := n) (p := x) (z := z) (by omega) hz hzb)
    obtain ⟨-, c1, -, -⟩ := s1.cellR
    obtain ⟨ab, cb, rfl⟩ := s1.listIs (E := elL) (v := b) (A := B) (by simp)
    obtain ⟨q, rfl, hc⟩ := s1.listAt okL (ao := ab) (n := B.length) (cap := cb) (A := B) (by simp) hz
    have e1 : wlkP S n = x := by unfold wlkP; rw [hf]; rfl
    have e2 : wlkB S n = true := by unfold wlkB; rw [hf]; rfl
    rw [e1, e2]
    have d1 : (w.alloc (.cells #[.int .i64 0, .int .i64 0] 31)).cell? ⟨q, z * 3 + 1, none⟩ = some (.int .i64 x.fr) := hc 1 _ rfl
    have d2 : (w.alloc (.cells #[.int .i64 0, .int .i64 0] 31)).cell? ⟨q, z * 3 + 2, none⟩ = some (.int .i64 x.rt) := hc 2 _ rfl
    have hzl := (List.getElem?_eq_some_iff.1 hz).1
    clear s s1 rl hf e1 e2 hc hz hzb
    obtain ⟨xf, xt⟩ := x
    simp only at d1 d2
    generalize B.length = NB at *
    have hz1 : ¬ (z : Int) < 0 := by omega
    have hz2 : (z : Int) < (NB : Int) := by omega
    go_enter Try.func22, Try.ntmps22
    go_wp2_with (go_at_call 37; refine Calls.mono HP.out ?_; rintro e w' ⟨rfl, rfl⟩)
    exact bodyPost_ret (v := .tuple #[.agg #[.int .i64 xf, .int .i64 xt], .bool true]) (by simp [results, Try.results22, go_sem]) rfl ⟨rfl, below_new _ _⟩
theorem filt_one {A : List Ta} {B : List La} (rl : Rl A B S) (n : Nat) : B.filter (isAt (n : Int)) = (atN S.f n).toList := by
  refine rise_ext ?_ ?_ fun x => ?_
  · refine (List.Pairwise.filter _ rl.b).imp_of_mem fun {x y} hx hy hne => ?_
    have h1 : x.1 = (n : Int) := by simpa [isAt] using (List.mem_filter.1 hx).2
    have h2 : y.1 = (n : Int) := by simpa [isAt] using (List.mem_filter.1 hy).2
    exact absurd (h1.trans h2.symm) hne
  · cases atN S.f n <;> simp
  · rw [List.mem_filter]
    unfold atN
    rw [← rl.f]
    constructor
    · rintro ⟨hm, hx⟩
      have h1 : x.1 = (n : Int) := by simpa [isAt] using hx
      have h2 : look B (n : Int) = some x.2 := look_of rl.b (by rw [← h1]; exact hm)
      rw [h2]
      simp [← h1]
    · intro hx
      cases e : look B (n : Int) with
      | none => rw [e] at hx; cases hx
      | some p =>
        rw [e] at hx
        have : x = ((n : Int), p) := by simpa using hx
        rw [this]
        exact ⟨look_mem e, by simp [isAt]⟩
theorem all_done {A : List Ta} {B : List La} (rl : Rl A B S) (g : Good S) {n : Nat} (hn : n ≤ 4096) (h : ¬ (n < 4096 ∧ (seg S.f 0 n).length < B.length)) : seg S.f 0 n = allP S.f := by
  by_cases e : n = 4096
  · rw [e]
    rfl
  · have h1 : B.length ≤ (seg S.f 0 n).length := by omega
    have h2 : allP S.f = seg S.f 0 n ++ seg S.f n (4096 - n) := by
      have := seg_add S.f 0 n (4096 - n)
      rw [show n + (4096 - n) = 4096 by omega, Nat.zero_add] at this
      exact this
    have h3 : (allP S.f).length = B.length := (rl.len g).length_eq
    rw [h2, List.length_append] at h3
    have h4 : seg S.f n (4096 - n) = [] := List.length_eq_zero_iff.1 (by omega)
    rw [h2, h4, List.append_nil]
set_option maxRecDepth 100000 in
set_option maxHeartbeats 4000000 in
theorem rpages_rs (h : Rs w0 r w k S N R) (g : Good S) (hN : N ≤ 900) : Calls Try.prog 27 #[ptr k] w fun e w' => ∃ v, e = .returned v ∧ Sep w w.heap.size w' [lstL v (allP S.f)] := by
  obtain ⟨a, b, A, B, s, rl, hA, hB⟩ := h
  obtain ⟨ab, cb, rfl⟩ := s.listIs (E := elL) (v := b) (A := B) (by simp)
  have HL := hid (And.intro rl g)
  have HS := hid s
  clear rl g s
  generalize hNB : B.length = NB at *
  have HNB := hid hNB
  clear hNB
  go_enter Try.func27, Try.ntmps27
  go_wp2
  go_loopw [3, 4] (fun s3 s4 wr => ∃ n : Nat, n ≤ 4096 ∧ s4 = .int .i64 n ∧ Sep w w.heap.size wr [lstL s3 (seg S.f 0 n)]) (fun _ s4 _ => 4096 - (intOf s4).toNat)
  case atStart => exact ⟨0, Nat.zero_le _, rfl, Sep.made (E := elL) (sep_nil w)⟩
  case round =>
    obtain ⟨n, hn, rfl, s2⟩ := hrel
    obtain ⟨a3, c3, rfl⟩ := s2.listIs (E := elL) (v := u3) (A := seg S.f 0 n) (by simp)
    have hs2 := HS.out.below s2.low
    obtain ⟨-, c1, -, -⟩ := hs2.cellR
    have S2 := hid s2
    have hlen := seg_len S.f 0 n
    clear s2 hs2
    by_cases hgo : n < 4096 ∧ (seg S.f 0 n).length < NB
    · obtain ⟨h1, h2⟩ := hgo
      have HO := hid (And.intro (filt_one HL.out.1 n) (seg_one S.f 0 n))
      have S2' : Hid (Sep w w.heap.size wr [lstL (.slice a3 (seg S.f 0 n).length c3) (seg S.f 0 n ++ (B.take 0).filter (isAt (n : Int)))]) := by
        show Sep _ _ _ _
        rw [List.take_zero, List.filter_nil, List.append_nil]
        exact S2.out
      generalize hsl : (seg S.f 0 n).length = l0 at *
      have HSL := hid hsl
      clear hsl S2
      have h1z : (n : Int) < 4096 := by omega
      have h2z : (l0 : Int) < (NB : Int) := by omega
      go_wp2_with fail
      go_loopw [3, 5] (fun s3 s5 wr => ∃ t : Nat, t ≤ NB ∧ s5 = .int .i64 t ∧ Sep w w.heap.size wr [lstL s3 (seg S.f 0 n ++ (B.take t).filter (isAt (n : Int)))]) (fun _ s5 _ => NB - (intOf s5).toNat)
      case atStart => exact ⟨0, Nat.zero_le _, rfl, S2'.out⟩
      case round =>
        obtain ⟨t, ht, rfl, s2⟩ := hrel
        obtain ⟨a3, c3, rfl⟩ := s2.listIs (E := elL) (v := u3) (A := seg S.f 0 n ++ (B.take t).filter (isAt (n : Int))) (by simp)
        have hs2 := HS.out.below s2.low
        clear c1
        obtain ⟨-, c1, -, -⟩ := hs2.cellR
        have hl : (seg S.f 0 n ++ (B.take t).filter (isAt (n : Int))).length ≤ 6000 := by
          rw [List.length_append]
          have := List.length_filter_le (isAt (n : Int)) (B.take t)
          rw [List.length_take] at this
          have := HSL.out
          omega
        by_cases hlt : t < NB
        · have hltz : (t : Int) < (NB : Int) := by omega
          have ht1 : t < B.length := by have := HNB.out; omega
          obtain ⟨x, hx⟩ : ∃ x, B[t]? = some x := ⟨_, List.getElem?_eq_getElem ht1⟩
          obtain ⟨q, rfl, hc⟩ := hs2.listAt okL (ao := ab) (n := NB) (cap := cb) (A := B) (by simp) hx
          have hT : (B.take (t + 1)).filter (isAt (n : Int)) = (B.take t).filter (isAt (n : Int)) ++ if isAt (n : Int) x = true then [x] else [] := by
            rw [List.take_add_one, hx, List.filter_append]
            cases e : isAt (n : Int) x <;> simp [e]
          obtain ⟨xa, xf, xt⟩ := x
          have d0 : wr.cell? ⟨q, t * 3, none⟩ = some (.int .i64 xa) := hc 0 _ rfl
          have d1 : wr.cell? ⟨q, t * 3 + 1, none⟩ = some (.int .i64 xf) := hc 1 _ rfl
          have d2 : wr.cell? ⟨q, t * 3 + 2, none⟩ = some (.int .i64 xt) := hc 2 _ rfl
          by_cases hxn : xa = (n : Int)
          · have hq : (xa == (n : Int)) = true := by simpa using hxn
            rw [if_pos (by simpa [isAt] using hxn)] at hT
            have HT := hid hT
            obtain ⟨v4, w4, r4, s4⟩ := s2.more okL 27 (xa, ⟨xf, xt⟩) (C := #[.int .i64 xa, .int .i64 xf, .int .i64 xt]) rfl (by omega)
            simp only [elL] at r4
            have R4 := hid r4
            have S4 := hid s4
            clear s2 hs2 s4 r4 hc hx ht1 hT hxn hl
            generalize (seg S.f 0 n ++ (B.take t).filter (isAt (n : Int))).length = n1 at *
            go_wp2_with (at_builtin; refine wpList_append_run rfl _ _ _ _ rfl _ _ _ _ rfl rfl R4.out ?_)
            go_roundw
            case rel => exact ⟨t + 1, by omega, by go_num, by rw [HT.out, ← List.append_assoc]; exact S4.out⟩
            case measure => simp [intOf]; omega
          · have hq : (xa == (n : Int)) = false := by simpa using hxn
            rw [if_neg (by simpa [isAt] using hxn), List.append_nil] at hT
            have HT := hid hT
            have S4 := hid s2
            clear s2 hs2 hc hx ht1 hT hxn hl
            generalize (seg S.f 0 n ++ (B.take t).filter (isAt (n : Int))).length = n1 at *
            go_wp2
            go_roundw
            case rel => exact ⟨t + 1, by omega, by go_num, by rw [HT.out]; exact S4.out⟩
            case measure => simp [intOf]; omega
        · have hltz : ¬ (t : Int) < (NB : Int) := by omega
          have e1 : B.take t = B := List.take_of_length_le (by have := HNB.out; omega)
          have HE : Hid (seg S.f 0 (n + 1) = seg S.f 0 n ++ (B.take t).filter (isAt (n : Int))) := by
            have e2 := HO.out.2
            rw [Nat.zero_add] at e2
            show _ = _
            rw [e1, HO.out.1]
            exact e2
          have S4 := hid s2
          clear s2 hs2 e1 hl
          generalize (seg S.f 0 n ++ (B.take t).filter (isAt (n : Int))).length = n1 at *
          go_wp2
          go_roundw
          case rel => exact ⟨n + 1, by omega, by go_num, by rw [HE.out]; exact S4.out⟩
          case measure => simp [intOf]; omega
    · have HD := hid (all_done HL.out.1 HL.out.2 hn (by rw [HNB.out]; exact hgo))
      have S3 : Hid (Sep w w.heap.size wr [lstL (.slice a3 (seg S.f 0 n).length c3) (allP S.f)]) := by
        show Sep _ _ _ _
        rw [← HD.out]
        exact S2.out
      clear S2 HD
      generalize (seg S.f 0 n).length = l0 at *
      by_cases h1 : n < 4096
      · have h1z : (n : Int) < 4096 := by omega
        have h2z : ¬ (l0 : Int) < (NB : Int) := by omega
        go_wp2
        go_ret
        exact ⟨_, rfl, S3.out⟩
      · have h1z : ¬ (n : Int) < 4096 := by omega
        go_wp2
        go_ret
        exact ⟨_, rfl, S3.out⟩
end
end Go.Proofs.Ythjcodkgcffamaa

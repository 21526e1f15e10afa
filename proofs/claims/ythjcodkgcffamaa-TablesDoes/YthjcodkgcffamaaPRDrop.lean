/-
  What Frames, Unmap and Drop of the document's own space answer, and leave; no condition but that tables and pages are few.
-/
import Derived.Test.YthjcodkgcffamaaPRPage
import Derived.Test.YthjcodkgcffamaaPThree
namespace Go.Proofs.Ythjcodkgcffamaa
open Go.RowKit Go.Deep Go.Shelf
section
variable {w0 w : World} {r k N : Nat} {S : Sp} {R : List Th}
set_option maxRecDepth 100000 in
set_option maxHeartbeats 4000000 in
theorem rframes_rs (h : Rs w0 r w k S N R) (g : Good S) (fr : Int) (hN : N ≤ 900) : Calls Try.prog 30 #[ptr k, .int .i64 fr] w fun e w' => ∃ v, e = .returned v ∧ Sep w w.heap.size w' [lstI v (frmL S.f fr)] := by
  have HP := hid (rpages_rs h g hN)
  have HA := hid (all_len S.f)
  clear h g
  unfold frmL
  generalize allP S.f = L at *
  go_enter Try.func30, Try.ntmps30
  go_wp2_with (go_at_call 27; refine Calls.mono HP.out ?_; rintro e w1 ⟨v, rfl, s1⟩; obtain ⟨ao, cap, rfl⟩ := s1.listIs (E := elL) (v := v) (A := L) (by simp); have S1 := hid (Sep.made (E := elI) s1); clear s1; generalize hN : L.length = NL at *; have HN := hid hN; clear hN)
  go_loopw [6, 7] (fun v6 v7 wr => ∃ t : Nat, t ≤ NL ∧ v7 = .int .i64 t ∧ Sep w w.heap.size wr [lstI v6 (((L.take t).filter (frmB fr)).map (·.1)), lstL (.slice ao NL cap) L]) (fun _ v7 _ => NL - (intOf v7).toNat)
  case atStart => exact ⟨0, Nat.zero_le _, rfl, S1.out⟩
  case round =>
    obtain ⟨t, ht, rfl, s2⟩ := hrel
    have hN4 : NL ≤ 4096 := HA.out
    by_cases hlt : t < NL
    · have hltz : (t : Int) < (NL : Int) := by omega
      have ht1 : t < L.length := by have := HN.out; omega
      obtain ⟨x, hx⟩ : ∃ x, L[t]? = some x := ⟨_, List.getElem?_eq_getElem ht1⟩
      obtain ⟨q, rfl, hc⟩ := s2.listAt okL (ao := ao) (n := NL) (cap := cap) (A := L) (by simp) hx
      have hl : (((L.take t).filter (frmB fr)).map (·.1)).length ≤ 4096 := by
        rw [List.length_map]
        refine Nat.le_trans (List.length_filter_le _ _) ?_
        rw [List.length_take]
        omega
      have hT : ((L.take (t + 1)).filter (frmB fr)).map (·.1) = ((L.take t).filter (frmB fr)).map (·.1) ++ (if x.2.fr = fr then [x.1] else []) := by
        rw [List.take_add_one, hx, List.filter_append, List.map_append]
        congr 1
        by_cases e : x.2.fr = fr
        · simp [frmB, e]
        · simp [frmB, e]
      obtain ⟨a, y⟩ := x
      obtain ⟨b, c⟩ := y
      have d0 : wr.cell? ⟨q, t * 3, none⟩ = some (.int .i64 a) := hc 0 _ rfl
      have d1 : wr.cell? ⟨q, t * 3 + 1, none⟩ = some (.int .i64 b) := hc 1 _ rfl
      simp only at hT
      by_cases hfr : b = fr
      · have hq : (b == fr) = true := by simpa using hfr
        rw [if_pos hfr] at hT
        have HT := hid hT
        obtain ⟨v4, w4, r4, s4⟩ := s2.more okI 48 a (C := #[.int .i64 a]) rfl (by omega)
        obtain ⟨a5, c5, rfl⟩ := s2.listIs (E := elI) (v := u6) (A := ((L.take t).filter (frmB fr)).map (·.1)) (by simp)
        simp only [elI] at r4
        have R4 := hid r4
        have S4 := hid s4
        clear s2 s4 r4 hc hx ht1 hT hl hfr
        generalize (((L.take t).filter (frmB fr)).map (·.1)).length = n1 at *
        go_wp2_with (at_builtin; refine wpList_append_run rfl _ _ _ _ rfl _ _ _ _ rfl rfl R4.out ?_)
        go_roundw
        case rel => exact ⟨t + 1, by omega, by go_num, by rw [HT.out]; exact S4.out⟩
        case measure => simp [intOf]; omega
      · have hq : (b == fr) = false := by simpa using hfr
        rw [if_neg hfr, List.append_nil] at hT
        have HT := hid hT
        have S3 := hid s2
        clear s2 hc hx ht1 hT hl hfr
        go_wp2
        go_roundw
        case rel => exact ⟨t + 1, by omega, by go_num, by rw [HT.out]; exact S3.out⟩
        case measure => simp [intOf]; omega
    · have hltz : ¬ (t : Int) < (NL : Int) := by omega
      have e1 : L.take t = L := List.take_of_length_le (by have := HN.out; omega)
      rw [e1] at s2
      have S2 := hid s2.drop2
      clear s2 e1
      go_wp2
      go_ret
      exact ⟨_, rfl, S2.out⟩
theorem Sep.two {q : Nat} {a0 b0 : Value} {ty : TypeId} (h : Sep w0 r w (blk q (.cells #[a0, b0] ty) :: R)) (a b : Value) : Sep w0 r ((w.setCell ⟨q, 0, none⟩ a).setCell ⟨q, 1, none⟩ b) (blk q (.cells #[a, b] ty) :: R) := by
  have h0 : w.heap[q]? = some (.cells #[a0, b0] ty (0, 0)) := h.head
  have h1 : ((w.setCell ⟨q, 0, none⟩ a).setCell ⟨q, 1, none⟩ b).heap[q]? = some (.cells #[a, b] ty (0, 0)) := setBlock (setBlock h0 a) b
  exact h.turn (t' := blk q (.cells #[a, b] ty)) h1 ((Turn.setCell (fun x => x = q) w ⟨q, 0, none⟩ a rfl).trans (Turn.setCell (fun x => x = q) _ ⟨q, 1, none⟩ b rfl) fun x hx => .inl hx) fun _ hx => .inl hx
set_option maxRecDepth 100000 in
set_option maxHeartbeats 8000000 in
theorem runmap_rs (h : Rs w0 r w k S N R) (g : Good S) (n : Int) (hN : N ≤ 900) : Calls Try.prog 19 #[ptr k, .int .i64 n] w fun e w' => e = .returned (.tuple #[.agg #[.int .i64 (wlkP S n).fr, .int .i64 (wlkP S n).rt], .int .i64 (unmE S n)]) ∧ Rs w0 r w' k (unmS S n) N R := by
  have HR := hid h
  by_cases hbad : n < 0 ∨ 4095 < n
  · have hE : unmE S n = 1 := by unfold unmE; rw [if_pos (by omega)]
    have hS : unmS S n = S := by unfold unmS; rw [hE]; rfl
    have hW : wlkP S n = ⟨0, 0⟩ := by unfold wlkP; rw [g.out (by omega)]; rfl
    rw [hE, hS, hW]
    have HB : Hid (Rs w0 r (w.alloc (.cells #[.int .i64 0, .int .i64 0] 31)) k S N R) := HR.out.below (below_new _ _)
    clear h hE hS hW g
    by_cases h1 : n < 0
    · go_enter Try.func19, Try.ntmps19
      go_wp2
      exact bodyPost_ret (v := .tuple #[.agg #[.int .i64 0, .int .i64 0], .int .i64 1]) (by simp [results, Try.results19, go_sem]) rfl ⟨rfl, HB.out⟩
    · have h2 : 4095 < n := by omega
      clear hbad
      go_enter Try.func19, Try.ntmps19
      go_wp2
      exact bodyPost_ret (v := .tuple #[.agg #[.int .i64 0, .int .i64 0], .int .i64 1]) (by simp [results, Try.results19, go_sem]) rfl ⟨rfl, HB.out⟩
  · obtain ⟨a, b, A, B, s, rl, hA, hB⟩ := h
    have h1 : ¬ n < 0 := by omega
    have h2 : ¬ 4095 < n := by omega
    have hE : unmE S n = if (S.f n).isSome = true then 0 else 141 := by unfold unmE; rw [if_neg (by omega)]
    have sb := Sep.box s (objP ⟨0, 0⟩)
    cases hf : S.f n with
    | none =>
      rw [hf] at hE
      simp only [Option.isSome_none, Bool.false_eq_true, if_false] at hE
      have HP := hid (rplace_none sb.one3 (n := n) (by omega) (by rw [rl.f]; exact hf))
      have hS : unmS S n = S := by unfold unmS; rw [hE]; rfl
      have hW : wlkP S n = ⟨0, 0⟩ := by unfold wlkP; rw [hf]; rfl
      rw [hE, hS, hW]
      have HB : Hid (Rs w0 r ((w.alloc (.cells #[.int .i64 0, .int .i64 0] 31)).alloc (.cells #[] 53)) k S N R) := (HR.out.below (below_new _ _)).below (below_new _ _)
      clear s sb rl hf hE hS hW hbad
      go_enter Try.func19, Try.ntmps19
      go_wp2_with (go_at_call 37; refine Calls.mono HP.out ?_; rintro e w' ⟨rfl, rfl⟩)
      exact bodyPost_ret (v := .tuple #[.agg #[.int .i64 0, .int .i64 0], .int .i64 141]) (by simp [results, Try.results19, go_sem]) rfl ⟨rfl, HB.out⟩
    | some x =>
      rw [hf] at hE
      simp only [Option.isSome_some, if_true] at hE
      obtain ⟨z, hz, hzb⟩ := find_at (A := B) (i := n) (x := x) (by rw [rl.f]; exact hf)
      have HP := hid (rplace_some sb.one3 (n := n) (p := x) (z := z) (by omega) hz hzb)
      have HRl := hid (rl.unm hE)
      have hW : wlkP S n = x := by unfold wlkP; rw [hf]; rfl
      have HZ : Hid (∀ (t : Nat) (y : La), B[t]? = some y → (y.1 = n ↔ t = z)) := fun t y hy => by
        obtain ⟨ht, ey⟩ := List.getElem?_eq_some_iff.1 hy
        obtain ⟨hzl, ez⟩ := List.getElem?_eq_some_iff.1 hz
        constructor
        · intro e
          rcases Nat.lt_trichotomy t z with h3 | h3 | h3
          · have := List.pairwise_iff_getElem.1 rl.b t z ht hzl h3
            rw [ey, ez] at this
            exact absurd e this
          · exact h3
          · have := List.pairwise_iff_getElem.1 rl.b z t hzl ht h3
            rw [ey, ez] at this
            exact absurd e.symm this
        · rintro rfl
          rw [hz] at hy
          cases hy
          rfl
      rw [hE, hW]
      obtain ⟨ab, cb, rfl⟩ := s.listIs (E := elL) (v := b) (A := B) (by simp)
      have s3 := Sep.made (E := elL) sb
      obtain ⟨-, c1, -, -⟩ := s3.drop.drop.cellR
      obtain ⟨q, rfl, hc⟩ := s3.listAt okL (ao := ab) (n := B.length) (cap := cb) (A := B) (by simp) hz
      have s5 := (Sep.box s3 (objP x)).swap
      have e9 : ∀ o, (w.alloc o).heap.size = w.heap.size + 1 := fun o => by simp
      have e8 : ∀ o o', ((w.alloc o).alloc o').heap.size = w.heap.size + 2 := fun o o' => by simp
      rw [e9, e8] at s5
      obtain ⟨xf, xt⟩ := x
      have d1 : ((w.alloc (.cells #[.int .i64 0, .int .i64 0] 31)).alloc (.cells #[] 53)).cell? ⟨q, z * 3 + 1, none⟩ = some (.int .i64 xf) := hc 1 _ rfl
      have d2 : ((w.alloc (.cells #[.int .i64 0, .int .i64 0] 31)).alloc (.cells #[] 53)).cell? ⟨q, z * 3 + 2, none⟩ = some (.int .i64 xt) := hc 2 _ rfl
      have c1' : ((w.alloc (.cells #[.int .i64 0, .int .i64 0] 31)).alloc (.cells #[] 53)).cell? ⟨k, 1, none⟩ = some (.slice (some ⟨q, 0, none⟩) B.length cb) := c1
      have S5 := hid s5
      have hzl := (List.getElem?_eq_some_iff.1 hz).1
      clear s sb s3 s5 rl hf hE hW hbad hc hz hzb e8 e9 c1 g
      generalize hNB : B.length = NB at *
      have HNB := hid hNB
      clear hNB
      have hz1 : ¬ (z : Int) < 0 := by omega
      have hz2 : (z : Int) < (NB : Int) := by omega
      go_enter Try.func19, Try.ntmps19
      go_wp2_with (go_at_call 37; refine Calls.mono HP.out ?_; rintro e w' ⟨rfl, rfl⟩)
      generalize w.heap.size + 2 = q8 at *
      generalize w.heap.size + 1 = q7 at *
      generalize w.heap.size = q4 at *
      go_loopw [7, 9] (fun s7 s9 wr => ∃ t : Nat, t ≤ NB ∧ s9 = .int .i64 t ∧ Sep w0 r wr (lstL s7 ((B.take t).filter fun y => !(y.1 == n)) :: blk q8 (objP ⟨xf, xt⟩) :: blk q4 (objP ⟨0, 0⟩) :: blk k (objR a (.slice (some ⟨q, 0, none⟩) NB cb)) :: lstT a A :: lstL (.slice (some ⟨q, 0, none⟩) NB cb) B :: R)) (fun _ s9 _ => NB - (intOf s9).toNat)
      case atStart => exact ⟨0, Nat.zero_le _, rfl, S5.out⟩
      case round =>
        clear S5 d1 d2 c1'
        obtain ⟨t, ht, rfl, s2⟩ := hrel
        obtain ⟨a7, c7, rfl⟩ := s2.listIs (E := elL) (v := u7) (A := (B.take t).filter fun y => !(y.1 == n)) (by simp)
        obtain ⟨-, c1, -, f1⟩ := s2.fourth.cellR
        by_cases hlt : t < NB
        · have hltz : (t : Int) < (NB : Int) := by omega
          have ht1 : t < B.length := by have := HNB.out; omega
          obtain ⟨y, hy⟩ : ∃ y, B[t]? = some y := ⟨_, List.getElem?_eq_getElem ht1⟩
          obtain ⟨q', e', hc⟩ := s2.listAt okL (ao := some ⟨q, 0, none⟩) (n := NB) (cap := cb) (A := B) (by simp) hy
          cases e'
          have hzt := HZ.out t y hy
          have hl : ((B.take t).filter fun y => !(y.1 == n)).length ≤ 1000 := Nat.le_trans (List.length_filter_le _ _) (by rw [List.length_take]; omega)
          have hT : (B.take (t + 1)).filter (fun y => !(y.1 == n)) = (B.take t).filter (fun y => !(y.1 == n)) ++ if y.1 = n then [] else [y] := by
            rw [List.take_add_one, hy, List.filter_append]
            congr 1
            by_cases e : y.1 = n <;> simp [e]
          obtain ⟨ya, yf, yt⟩ := y
          have d0 : wr.cell? ⟨q, t * 3, none⟩ = some (.int .i64 ya) := hc 0 _ rfl
          have d1 : wr.cell? ⟨q, t * 3 + 1, none⟩ = some (.int .i64 yf) := hc 1 _ rfl
          have d2 : wr.cell? ⟨q, t * 3 + 2, none⟩ = some (.int .i64 yt) := hc 2 _ rfl
          simp only at hzt hT
          by_cases htz : t = z
          · rw [if_pos (hzt.2 htz), List.append_nil] at hT
            have HT := hid hT
            have hq1 : ((t : Int) != (z : Int)) = false := by simp [htz]
            have hq2 : (t != z) = false := by simp [htz]
            have S2 := hid s2
            clear s2 hc hy ht1 hT hzt htz hl
            generalize ((B.take t).filter fun y => !(y.1 == n)).length = n1 at *
            go_wp2
            go_roundw
            case rel => exact ⟨t + 1, by omega, by go_num, by rw [HT.out]; exact S2.out⟩
            case measure => simp [intOf]; omega
          · rw [if_neg fun e => htz (hzt.1 e)] at hT
            have HT := hid hT
            have hq1 : ((t : Int) != (z : Int)) = true := by simp; omega
            have hq2 : (t != z) = true := by simpa using htz
            obtain ⟨v4, w4, r4, s4⟩ := s2.more okL 27 (ya, ⟨yf, yt⟩) (C := #[.int .i64 ya, .int .i64 yf, .int .i64 yt]) rfl (by omega)
            simp only [elL] at r4
            have R4 := hid r4
            have S4 := hid s4
            clear s2 s4 r4 hc hy ht1 hT hzt htz hl
            generalize ((B.take t).filter fun y => !(y.1 == n)).length = n1 at *
            go_wp2_with (at_builtin; refine wpList_append_run rfl _ _ _ _ rfl _ _ _ _ rfl rfl R4.out ?_)
            go_roundw
            case rel => exact ⟨t + 1, by omega, by go_num, by rw [HT.out]; exact S4.out⟩
            case measure => simp [intOf]; omega
        · have hltz : ¬ (t : Int) < (NB : Int) := by omega
          have e1 : B.take t = B := List.take_of_length_le (by have := HNB.out; omega)
          rw [e1] at s2
          have hl : (B.filter fun y => !(y.1 == n)).length ≤ N := Nat.le_trans (List.length_filter_le _ _) (by have := HNB.out; omega)
          rw [e1]
          have s6 := s2.fourth.setB (.slice a7 (B.filter fun y => !(y.1 == n)).length c7)
          have HLn := hid hl
          generalize hn1 : (B.filter fun y => !(y.1 == n)).length = n1 at *
          have HN1 := hid hn1
          obtain ⟨x0, x1⟩ := s6.pageAt (q := q8) (x := ⟨xf, xt⟩) (by simp)
          obtain ⟨y0, y1⟩ := s6.pageAt (q := q4) (x := ⟨0, 0⟩) (by simp)
          have yf : ∀ j, (wr.setCell ⟨k, 1, none⟩ (.slice a7 n1 c7)).frozen? ⟨q4, j, none⟩ = false := fun j => by
            have h9 : (wr.setCell ⟨k, 1, none⟩ (.slice a7 n1 c7)).heap[q4]? = some (objP ⟨0, 0⟩) := (s6.each (blk q4 (objP ⟨0, 0⟩)) (by simp)).1
            unfold objP at h9
            simp [World.frozen?, h9]
          simp only at x0 x1 y0 y1
          have s7 := (s6.fourth.two (.int .i64 xf) (.int .i64 xt)).drop.in2.drop2.in2.fourth.drop
          have S7 := hid s7
          clear s2 s6 s7 e1 hl hn1
          go_wp2
          exact bodyPost_ret (v := .tuple #[.agg #[.int .i64 xf, .int .i64 xt], .int .i64 0]) (by simp [results, Try.results19, go_sem, y0, y1]) rfl ⟨rfl, _, _, _, _, S7.out, HRl.out, hA, by rw [HN1.out]; exact HLn.out⟩
theorem Sep.sub {Q : List Th} (h : Sep w0 r w R) (q : Q.Sublist R) : Sep w0 r w Q := ⟨h.low, h.size, fun t ht => h.each t (q.subset ht), h.apart.sublist q⟩
theorem Sep.pick5 {a b c d e : Th} (h : Sep w0 r w (a :: b :: c :: d :: e :: R)) : Sep w0 r w (e :: a :: c :: b :: d :: R) :=
  h.perm ((List.Perm.append_right R (List.perm_append_comm (l₁ := [a, b, c, d]) (l₂ := [e]))).trans (.cons _ (.cons _ (.swap _ _ _))))
theorem Sep.cellIn {a b : Value} (h : Sep w0 r w R) (hm : blk k (objR a b) ∈ R) : w.cell? ⟨k, 0, none⟩ = some a ∧ w.cell? ⟨k, 1, none⟩ = some b := by
  have h1 : w.heap[k]? = some (objR a b) := (h.each _ hm).1
  unfold objR at h1
  exact ⟨by simp [World.cell?, h1], by simp [World.cell?, h1]⟩
theorem Rs.nil (h : Rs w0 r w k S N R) : Rs w0 r w k S N (lstL (.slice none 0 0) [] :: R) := by
  obtain ⟨a, b, A, B, s, h1⟩ := h
  exact ⟨a, b, A, B, (Sep.nil (E := elL) s).one3, h1⟩
set_option maxRecDepth 100000 in
set_option maxHeartbeats 8000000 in
theorem rdrop_rs (h : Rs w0 r w k S N R) (g : Good S) (i : Int) (hN : N ≤ 900) : Calls Try.prog 13 #[ptr k, .int .i64 i] w fun e w' => ∃ v, e = .returned (.tuple #[v, .int .i64 (drpE S i)]) ∧ Rs w0 r w' k (drpS S i) N (lstL v (drpL S i) :: R) := by
  have HR := hid h
  by_cases hbad : i < 0 ∨ 63 < i
  · have hE : drpE S i = 1 := by unfold drpE; rw [if_pos (by omega)]
    have hS : drpS S i = S := by unfold drpS; rw [hE]; rfl
    have hL : drpL S i = [] := by unfold drpL; rw [hE]; rfl
    rw [hE, hS, hL]
    clear h hE hS hL g
    by_cases h1 : i < 0
    · go_enter Try.func13, Try.ntmps13
      go_wp2
      go_ret2
      exact ⟨_, rfl, HR.out.nil⟩
    · have h2 : 63 < i := by omega
      clear hbad
      go_enter Try.func13, Try.ntmps13
      go_wp2
      go_ret2
      exact ⟨_, rfl, HR.out.nil⟩
  · have h1 : ¬ i < 0 := by omega
    have h2 : ¬ 63 < i := by omega
    have HH := hid (rhas_rs h i hN)
    have hE : drpE S i = if hasB S i = true then 0 else 141 := by unfold drpE; rw [if_neg (by omega)]; rfl
    cases hh : hasB S i with
    | false =>
      rw [hh] at hE HH
      simp only [Bool.false_eq_true, if_false] at hE
      have hS : drpS S i = S := by unfold drpS; rw [hE]; rfl
      have hL : drpL S i = [] := by unfold drpL; rw [hE]; rfl
      rw [hE, hS, hL]
      clear h hE hS hL g hbad hh
      generalize hasN S i = hn at *
      go_enter Try.func13, Try.ntmps13
      go_wp2_with (go_at_call 24; refine Calls.mono HH.out ?_; rintro e w' ⟨rfl, rfl⟩)
      go_ret2
      exact ⟨_, rfl, HR.out.nil⟩
    | true =>
      rw [hh] at hE HH
      simp only [if_true] at hE
      have HP := hid (rpages_rs h g hN)
      obtain ⟨a, b, A, B, s, rl, hA, hB⟩ := h
      have HRl := hid (rl.drp g hE)
      have HLP : Hid ((allP S.f).length ≤ N) := by show _ ≤ _; rw [(rl.len g).length_eq]; exact hB
      have HLR : Hid (∀ x ∈ allP S.f, 0 ≤ x.1 ∧ x.1 < 4096) := fun x hx => by
        have h := (seg_mem (a := 0) (k := 4096) (n := x.1) (p := x.2)).1 hx
        exact ⟨by omega, by omega⟩
      have HLL : Hid (drpL S i = (allP S.f).filter (fun y => y.1 / 64 == i)) := by
        show _ = _
        unfold drpL
        rw [if_pos hE]
        have := drp_own (S := S) i.toNat (by omega)
        rw [this, show ((i.toNat : Nat) : Int) = i by omega]
      rw [hE]
      obtain ⟨aa, ca, rfl⟩ := s.listIs (E := elT) (v := a) (A := A) (by simp)
      have HS := hid s
      clear s rl hE hbad hh g HR
      generalize hasN S i = hn at *
      generalize allP S.f = L at *
      generalize hNA : A.length = NA at *
      have HNA := hid hNA
      clear hNA
      go_enter Try.func13, Try.ntmps13
      go_wp2_with (first | (go_at_call 24; refine Calls.mono HH.out ?_; rintro e w' ⟨rfl, rfl⟩) | (go_at_call 27; refine Calls.mono HP.out ?_; rintro e w1 ⟨v, rfl, s1⟩; obtain ⟨al, cl, rfl⟩ := s1.listIs (E := elL) (v := v) (A := L) (by simp); have s3 := Sep.made (E := elT) (Sep.made (E := elL) (Sep.made (E := elL) (HS.out.join s1))); have S3 := hid s3; clear s1 s3))
      have e9 : ∀ o, (w1.alloc o).heap.size = w1.heap.size + 1 := fun o => by simp
      have e8 : ∀ o o', ((w1.alloc o).alloc o').heap.size = w1.heap.size + 2 := fun o o' => by simp
      rw [e8, e9] at S3
      clear e8 e9
      generalize hNL : L.length = NL at *
      have HNL := hid hNL
      clear hNL
      generalize w1.heap.size + 2 = q3 at *
      generalize w1.heap.size + 1 = q2 at *
      generalize w1.heap.size = q1 at *
      go_loopw [9, 10, 12] (fun s9 s10 s12 wr => ∃ t : Nat, t ≤ NL ∧ s12 = .int .i64 t ∧ Sep w0 r wr (lstL s9 ((L.take t).filter (fun y => y.1 / 64 == i)) :: lstL s10 ((L.take t).filter (fun y => !(y.1 / 64 == i))) :: lstT (.slice (some ⟨q3, 0, none⟩) 0 0) [] :: lstL (.slice al NL cl) L :: blk k (objR (.slice aa NA ca) b) :: lstT (.slice aa NA ca) A :: lstL b B :: R)) (fun _ _ s12 _ => NL - (intOf s12).toNat)
      case atStart => exact ⟨0, Nat.zero_le _, rfl, S3.out.third.swap⟩
      case round =>
        clear S3
        obtain ⟨t, ht, rfl, s2⟩ := hrel
        have hNL9 : NL ≤ 900 := by have := HLP.out; omega
        by_cases hlt : t < NL
        · have hltz : (t : Int) < (NL : Int) := by omega
          have ht1 : t < L.length := by have := HNL.out; omega
          obtain ⟨x, hx⟩ : ∃ x, L[t]? = some x := ⟨_, List.getElem?_eq_getElem ht1⟩
          obtain ⟨q, rfl, hc⟩ := s2.listAt okL (ao := al) (n := NL) (cap := cl) (A := L) (by simp) hx
          have hxr := HLR.out x (List.mem_of_getElem? hx)
          obtain ⟨xa, xf, xt⟩ := x
          simp only at hxr
          obtain ⟨d, hd⟩ : ∃ d : Int, xa / 64 = d := ⟨_, rfl⟩
          have hd2 : xa.tdiv 64 = d := by rw [Int.tdiv_eq_ediv_of_nonneg hxr.1]; exact hd
          have hdw : IntKind.i64.wrap d = d := by rw [IntKind.wrap_i64]; omega
          have c0 : wr.cell? ⟨q, t * 3, none⟩ = some (.int .i64 xa) := hc 0 _ rfl
          have c1 : wr.cell? ⟨q, t * 3 + 1, none⟩ = some (.int .i64 xf) := hc 1 _ rfl
          have c2 : wr.cell? ⟨q, t * 3 + 2, none⟩ = some (.int .i64 xt) := hc 2 _ rfl
          have l1 : ((L.take t).filter (fun y => y.1 / 64 == i)).length ≤ 4096 := Nat.le_trans (List.length_filter_le _ _) (by rw [List.length_take]; omega)
          have l2 : ((L.take t).filter (fun y => !(y.1 / 64 == i))).length ≤ 4096 := Nat.le_trans (List.length_filter_le _ _) (by rw [List.length_take]; omega)
          have hT : L.take (t + 1) = L.take t ++ [(xa, ⟨xf, xt⟩)] := by rw [List.take_add_one, hx]; rfl
          obtain ⟨a5, c5, rfl⟩ := s2.listIs (E := elL) (v := u9) (A := (L.take t).filter (fun y => y.1 / 64 == i)) (by simp)
          obtain ⟨a6, c6, rfl⟩ := s2.listIs (E := elL) (v := u10) (A := (L.take t).filter (fun y => !(y.1 / 64 == i))) (by simp)
          by_cases hq : d = i
          · have hqb : (d == i) = true := by simpa using hq
            have HT1 : Hid ((L.take (t + 1)).filter (fun y => y.1 / 64 == i) = (L.take t).filter (fun y => y.1 / 64 == i) ++ [(xa, ⟨xf, xt⟩)] ∧ (L.take (t + 1)).filter (fun y => !(y.1 / 64 == i)) = (L.take t).filter (fun y => !(y.1 / 64 == i))) := by
              rw [hT, List.filter_append, List.filter_append]
              constructor <;> simp [hd, hq]
            obtain ⟨v4, w4, r4, s4⟩ := s2.more okL 27 (xa, ⟨xf, xt⟩) (C := #[.int .i64 xa, .int .i64 xf, .int .i64 xt]) rfl (by omega)
            simp only [elL] at r4
            have R4 := hid r4
            have S4 := hid s4
            clear s2 s4 r4 hc hx ht1 hT l1 l2 hq hxr
            generalize ((L.take t).filter (fun y => y.1 / 64 == i)).length = n1 at *
            generalize ((L.take t).filter (fun y => !(y.1 / 64 == i))).length = n2 at *
            go_wp2_with (at_builtin; refine wpList_append_run rfl _ _ _ _ rfl _ _ _ _ rfl rfl R4.out ?_)
            go_roundw
            case rel => exact ⟨t + 1, by omega, by go_num, by rw [HT1.out.1, HT1.out.2]; exact S4.out⟩
            case measure => simp [intOf]; omega
          · have hqb : (d == i) = false := by simpa using hq
            have HT1 : Hid ((L.take (t + 1)).filter (fun y => y.1 / 64 == i) = (L.take t).filter (fun y => y.1 / 64 == i) ∧ (L.take (t + 1)).filter (fun y => !(y.1 / 64 == i)) = (L.take t).filter (fun y => !(y.1 / 64 == i)) ++ [(xa, ⟨xf, xt⟩)]) := by
              rw [hT, List.filter_append, List.filter_append]
              constructor <;> simp [hd, hq]
            obtain ⟨v4, w4, r4, s4⟩ := s2.swap.more okL 27 (xa, ⟨xf, xt⟩) (C := #[.int .i64 xa, .int .i64 xf, .int .i64 xt]) rfl (by omega)
            simp only [elL] at r4
            have R4 := hid r4
            have S4 := hid s4.swap
            clear s2 s4 r4 hc hx ht1 hT l1 l2 hq hxr
            generalize ((L.take t).filter (fun y => y.1 / 64 == i)).length = n1 at *
            generalize ((L.take t).filter (fun y => !(y.1 / 64 == i))).length = n2 at *
            go_wp2_with (at_builtin; refine wpList_append_run rfl _ _ _ _ rfl _ _ _ _ rfl rfl R4.out ?_)
            go_roundw
            case rel => exact ⟨t + 1, by omega, by go_num, by rw [HT1.out.1, HT1.out.2]; exact S4.out⟩
            case measure => simp [intOf]; omega
        · have hltz : ¬ (t : Int) < (NL : Int) := by omega
          have e1 : L.take t = L := List.take_of_length_le (by have := HNL.out; omega)
          rw [e1] at s2
          obtain ⟨a6, c6, rfl⟩ := s2.listIs (E := elL) (v := u10) (A := L.filter (fun y => !(y.1 / 64 == i))) (by simp)
          have S2 := hid s2.third.third
          have HLG : Hid ((L.filter (fun y => !(y.1 / 64 == i))).length ≤ N) := Nat.le_trans (List.length_filter_le _ _) (by have := HLP.out; have := HNL.out; omega)
          clear s2 e1
          generalize hng : (L.filter (fun y => !(y.1 / 64 == i))).length = ng at *
          have HNG := hid hng
          clear hng
          go_wp2_with fail
          go_loopw [11, 13] (fun s11 s13 wr => ∃ t : Nat, t ≤ NA ∧ s13 = .int .i64 t ∧ Sep w0 r wr (lstT s11 ((A.take t).filter (fun y => !(y.1 == i))) :: lstL u9 (L.filter (fun y => y.1 / 64 == i)) :: lstL (.slice a6 ng c6) (L.filter (fun y => !(y.1 / 64 == i))) :: lstL (.slice al NL cl) L :: blk k (objR (.slice aa NA ca) b) :: lstT (.slice aa NA ca) A :: lstL b B :: R)) (fun _ s13 _ => NA - (intOf s13).toNat)
          case atStart => exact ⟨0, Nat.zero_le _, rfl, S2.out⟩
          case round =>
            clear S2
            obtain ⟨t, ht, rfl, s2⟩ := hrel
            obtain ⟨k0, k1⟩ := s2.cellIn (k := k) (a := .slice aa NA ca) (b := b) (by simp)
            obtain ⟨a5, c5, rfl⟩ := s2.listIs (E := elT) (v := u11) (A := (A.take t).filter (fun y => !(y.1 == i))) (by simp)
            by_cases hlt : t < NA
            · have hltz : (t : Int) < (NA : Int) := by omega
              have ht1 : t < A.length := by have := HNA.out; omega
              obtain ⟨x, hx⟩ : ∃ x, A[t]? = some x := ⟨_, List.getElem?_eq_getElem ht1⟩
              obtain ⟨q, rfl, hc⟩ := s2.listAt okT (ao := aa) (n := NA) (cap := ca) (A := A) (by simp) hx
              have hl : ((A.take t).filter (fun y => !(y.1 == i))).length ≤ 1000 := Nat.le_trans (List.length_filter_le _ _) (by rw [List.length_take]; omega)
              have hT : (A.take (t + 1)).filter (fun y => !(y.1 == i)) = (A.take t).filter (fun y => !(y.1 == i)) ++ if x.1 = i then [] else [x] := by
                rw [List.take_add_one, hx, List.filter_append]
                congr 1
                by_cases e : x.1 = i <;> simp [e]
              obtain ⟨xa, xb⟩ := x
              have d0 : wr.cell? ⟨q, t * 2, none⟩ = some (.int .i64 xa) := hc 0 _ rfl
              have d1 : wr.cell? ⟨q, t * 2 + 1, none⟩ = some (.int .i64 xb) := hc 1 _ rfl
              simp only at hT
              by_cases hxi : xa = i
              · have hq : (xa != i) = false := by simpa using hxi
                rw [if_pos hxi, List.append_nil] at hT
                have HT := hid hT
                have S2 := hid s2
                clear s2 hc hx ht1 hT hxi hl
                generalize ((A.take t).filter (fun y => !(y.1 == i))).length = n1 at *
                go_wp2
                go_roundw
                case rel => exact ⟨t + 1, by omega, by go_num, by rw [HT.out]; exact S2.out⟩
                case measure => simp [intOf]; omega
              · have hq : (xa != i) = true := by simpa using hxi
                rw [if_neg hxi] at hT
                have HT := hid hT
                obtain ⟨v4, w4, r4, s4⟩ := s2.more okT 26 (xa, xb) (C := #[.int .i64 xa, .int .i64 xb]) rfl (by omega)
                simp only [elT] at r4
                have R4 := hid r4
                have S4 := hid s4
                clear s2 s4 r4 hc hx ht1 hT hxi hl
                generalize ((A.take t).filter (fun y => !(y.1 == i))).length = n1 at *
                go_wp2_with (at_builtin; refine wpList_append_run rfl _ _ _ _ rfl _ _ _ _ rfl rfl R4.out ?_)
                go_roundw
                case rel => exact ⟨t + 1, by omega, by go_num, by rw [HT.out]; exact S4.out⟩
                case measure => simp [intOf]; omega
            · have hltz : ¬ (t : Int) < (NA : Int) := by omega
              have e1 : A.take t = A := List.take_of_length_le (by have := HNA.out; omega)
              rw [e1] at s2 ⊢
              have HLH : Hid ((A.filter (fun y => !(y.1 == i))).length ≤ N) := Nat.le_trans (List.length_filter_le _ _) (by have := HNA.out; omega)
              have s5 := s2.pick5
              obtain ⟨-, -, f0, f1⟩ := s5.cellR
              have s6 := s5.setB (.slice a6 ng c6)
              obtain ⟨k2, -, f2, -⟩ := s6.cellR
              have s7 := s6.setA (.slice a5 (A.filter (fun y => !(y.1 == i))).length c5)
              have S8 := hid (s7.sub (.cons_cons _ (.cons_cons _ (.cons_cons _ (.cons_cons _ (.cons _ (.cons _ (.cons _ (List.Sublist.refl R)))))))))
              clear s2 s5 s6 s7 e1
              generalize hnh : (A.filter (fun y => !(y.1 == i))).length = nh at *
              have HNH := hid hnh
              clear hnh
              go_wp2
              go_ret2
              exact ⟨_, rfl, _, _, _, _, by rw [HLL.out]; exact S8.out, HRl.out, by rw [HNH.out]; exact HLH.out, by rw [HNG.out]; exact HLG.out⟩
end
end Go.Proofs.Ythjcodkgcffamaa

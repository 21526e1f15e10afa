/-
  Only pages whose table is there are mapped; what is mapped is walked to as it was, until it is unmapped, or its table dropped; then it is not; no condition.
-/
import Derived.Test.YthjcodkgcffamaaPLaw
import Derived.Test.YthjcodkgcffamaaPSay
import Derived.Deep.Cut
import Derived.Deep.CutRange
namespace Go.Proofs.Ythjcodkgcffamaa.tablesOnly
open Go.RowKit Go.Deep Go.Shelf
/-- A page that is told is walked to, and its table is there; pages rise. -/
theorem told {S : Sp} (g : Good S) {i : Nat} {x : La} (h : (allP S.f)[i]? = some x) : 0 ≤ x.1 ∧ x.1 < 4096 ∧ hasB S (x.1 / 64) = true ∧ wlkP S x.1 = x.2 ∧ wlkB S x.1 = true := by
  have hm : (x.1, x.2) ∈ allP S.f := List.mem_of_getElem? h
  have hf := (all_mem g).1 hm
  obtain ⟨h0, h1, h2⟩ := g.f _ _ hf
  exact ⟨h0, h1, h2, by unfold wlkP; rw [hf]; rfl, by unfold wlkB; rw [hf]; rfl⟩
theorem told_rise {f : Int → Option Pg} {i : Nat} {x y : La} (hx : (allP f)[i]? = some x) (hy : (allP f)[i + 1]? = some y) : x.1 < y.1 := by
  obtain ⟨h1, e1⟩ := List.getElem?_eq_some_iff.1 hx
  obtain ⟨h2, e2⟩ := List.getElem?_eq_some_iff.1 hy
  have := List.pairwise_iff_getElem.1 (seg_rise f 0 4096) i (i + 1) h1 h2 (by omega)
  have e1' : (seg f 0 4096)[i] = x := e1
  have e2' : (seg f 0 4096)[i + 1] = y := e2
  rw [e1', e2'] at this
  exact this
/-- A place that is dropped, put in again if that may be, a page mapped and unmapped. -/
theorem again {S : Sp} (g : Good S) (n : Nat) (hn : n < 4096) (f t : Nat) (ht : t < 8) :
    ∃ S1, drpS S ((n / 64 : Nat) : Int) = S1 ∧ wlkP S1 n = ⟨0, 0⟩ ∧ wlkB S1 n = false ∧
      ((tabE S1 ((n / 64 : Nat) : Int) 1048576 = 140 ∧ tabS S1 ((n / 64 : Nat) : Int) 1048576 = S1 ∧ mapE S1 n ⟨f, t⟩ = 141 ∧ mapS S1 n ⟨f, t⟩ = S1 ∧ unmE S1 n = 141 ∧ unmS S1 n = S1) ∨
       ∃ S2 S3 S4, tabE S1 ((n / 64 : Nat) : Int) 1048576 = 0 ∧ tabS S1 ((n / 64 : Nat) : Int) 1048576 = S2 ∧ mapE S2 n ⟨f, t⟩ = 0 ∧ mapS S2 n ⟨f, t⟩ = S3 ∧ wlkP S3 n = ⟨f, t⟩ ∧ wlkB S3 n = true ∧ unmE S3 n = 0 ∧ unmS S3 n = S4 ∧ wlkP S4 n = ⟨0, 0⟩ ∧ wlkB S4 n = false) := by
  have hin : ((n / 64 : Nat) : Int) = (n : Int) / 64 := by omega
  have gt : (drpS S ((n / 64 : Nat) : Int)).t ((n / 64 : Nat) : Int) = none := by
    unfold drpS
    split
    · simp [upd]
    · rename_i h
      unfold drpE at h
      rw [if_neg (by omega)] at h
      split at h
      · exact absurd rfl h
      · rename_i h2
        simpa using h2
  have g1 := good_drp g ((n / 64 : Nat) : Int)
  have f1 : (drpS S ((n / 64 : Nat) : Int)).f (n : Int) = none := g1.nothing (by rw [← hin]; exact gt)
  generalize drpS S ((n / 64 : Nat) : Int) = S1 at *
  refine ⟨S1, rfl, by unfold wlkP; rw [f1]; rfl, by unfold wlkB; rw [f1]; rfl, ?_⟩
  cases ha : anyT S1 1048576 with
  | true =>
    left
    have e1 : tabE S1 ((n / 64 : Nat) : Int) 1048576 = 140 := by
      unfold tabE
      rw [if_neg (by omega), if_pos (.inr ha)]
    have e2 : mapE S1 n ⟨f, t⟩ = 141 := by
      unfold mapE
      rw [if_neg (by simp only; omega), if_neg (by rw [← hin, gt]; simp)]
    have e3 : unmE S1 n = 141 := by
      unfold unmE
      rw [if_neg (by omega), if_neg (by rw [f1]; simp)]
    refine ⟨e1, ?_, e2, ?_, e3, ?_⟩
    · unfold tabS; rw [e1]; rfl
    · unfold mapS; rw [e2]; rfl
    · unfold unmS; rw [e3]; rfl
  | false =>
    right
    have e1 : tabE S1 ((n / 64 : Nat) : Int) 1048576 = 0 := by
      unfold tabE
      rw [if_neg (by omega), if_neg (by rw [gt, ha]; simp)]
    have e2 : tabS S1 ((n / 64 : Nat) : Int) 1048576 = ⟨upd S1.t ((n / 64 : Nat) : Int) (some 1048576), S1.f⟩ := by
      unfold tabS; rw [if_pos e1]
    have e3 : mapE (tabS S1 ((n / 64 : Nat) : Int) 1048576) n ⟨f, t⟩ = 0 := by
      rw [e2]
      unfold mapE
      rw [if_neg (by simp only; omega), if_pos (by simp [upd, hin]), if_neg (by simp [f1])]
    have e4 : mapS (tabS S1 ((n / 64 : Nat) : Int) 1048576) n ⟨f, t⟩ = ⟨upd S1.t ((n / 64 : Nat) : Int) (some 1048576), upd S1.f n (some ⟨f, t⟩)⟩ := by
      unfold mapS; rw [if_pos e3, e2]
    have e5 : unmE (mapS (tabS S1 ((n / 64 : Nat) : Int) 1048576) n ⟨f, t⟩) n = 0 := by
      rw [e4]
      unfold unmE
      rw [if_neg (by omega), if_pos (by simp [upd])]
    refine ⟨_, _, _, e1, rfl, e3, rfl, ?_, ?_, e5, rfl, ?_, ?_⟩
    · rw [e4]; simp [wlkP, upd]
    · rw [e4]; simp [wlkB, upd]
    · unfold unmS; rw [if_pos e5, e4]; simp [wlkP, upd, pg0]
    · unfold unmS; rw [if_pos e5, e4]; simp [wlkB, upd]
set_option maxHeartbeats 8000000 in
set_option maxRecDepth 100000 in
theorem walk (ao : Option Addr) (X : List Oc) (cap : Nat) (a1 : Int) (a2 : Pg) (w : World) (hX : Ops w ao X) (_hxl : X.length ≤ 9223372036854775807) (_h1 : I64 a1) (_h2 : I64 a2.fr ∧ I64 a2.rt) :
    Calls Try.prog 4 #[.slice ao X.length cap, .int .i64 a1, .agg #[.int .i64 a2.fr, .int .i64 a2.rt]] w fun e w' => e = .returned (.bool true) ∧ Below w.heap.size w w' := by
  have HX := hid hX
  clear hX
  have HB := hid ((sep_nil w).box (objP a2))
  obtain ⟨x0, x1⟩ := a2
  go_enter Try.func4, Try.ntmps4
  go_wp2_with fail
  refine Calls.mono (new_sep HB.out) ?_
  rintro e w1 ⟨p, m1, rfl, s1⟩
  generalize hr : w.heap.size = r at *
  have HR := hid hr
  clear hr HB
  obtain ⟨RR, hRR⟩ : ∃ RR, RR = [blk r (objP ⟨x0, x1⟩)] := ⟨_, rfl⟩
  rw [← hRR] at s1
  have S1 := hid s1
  have HRR := hid hRR
  clear s1 hRR
  go_wp2_with fail
  go_loopw [8] (fun s wr => ∃ (i : Nat) (T : Sp) (m : Nat → Option Nat), i ≤ 60 ∧ s = .int .i64 i ∧ Sep w r wr (spT p m T :: RR)) (fun s _ => 60 - (intOf s).toNat)
  case atStart => exact ⟨0, _, _, by omega, rfl, S1.out⟩
  case round =>
    clear S1
    obtain ⟨i, T, m, hi, rfl, s1⟩ := hrel
    have S1 := hid s1
    clear s1
    by_cases hlt : i < X.length ∧ i < 60
    · obtain ⟨hl1, hl2⟩ := hlt
      have hl2z : (i : Int) < 60 := by omega
      obtain ⟨x, hx⟩ : ∃ x, X[i]? = some x := ⟨_, List.getElem?_eq_getElem hl1⟩
      obtain ⟨xk, xl, xn, xf, xt⟩ := x
      obtain ⟨-, b0, o0, rfl, d0, d1, d2, d3, d4⟩ := Ops.at (SeeK.below HX.out S1.out.low (by rw [HR.out]; exact Nat.le_refl _)) hx
      simp only at d0 d1 d2 d3 d4
      clear hx
      generalize X.length = n at *
      have hl1z : (i : Int) < (n : Int) := by omega
      have S2 : Hid (Sep w r (wr.alloc (.cells #[.int .i64 xk, .int .i64 xl, .int .i64 xn, .int .i64 xf, .int .i64 xt] 33)) (spT p m T :: blk wr.heap.size (objO ⟨xk, xl, xn, ⟨xf, xt⟩⟩) :: RR)) := (Sep.box S1.out (objO ⟨xk, xl, xn, ⟨xf, xt⟩⟩)).swap
      clear S1
      by_cases hk0 : xk = 0
      · have hq0 : (xk == 0) = true := by simpa using hk0
        clear hk0
        go_wp2_with fail
        refine Calls.mono (table_sep S2.out xl xn) ?_
        rintro e w3 ⟨rfl, m3, s3⟩
        have S3 := hid (s3.drop2)
        clear s3 S2
        go_wp2
        go_roundw
        case rel => exact ⟨i + 1, tabS T xl xn, _, by omega, by go_num, S3.out⟩
        case measure => simp [intOf]; omega
      · have hq0 : (xk == 0) = false := by simpa using hk0
        clear hk0
        by_cases hk1 : xk = 1
        · have hq1 : (xk == 1) = true := by simpa using hk1
          clear hk1
          go_wp2_with fail
          refine Calls.mono (drop_sep S2.out xl) ?_
          rintro e w3 ⟨v3, m3, rfl, s3⟩
          have S3 := hid (s3.drop2.drop2)
          clear s3 S2
          go_wp2
          go_roundw
          case rel => exact ⟨i + 1, drpS T xl, _, by omega, by go_num, S3.out⟩
          case measure => simp [intOf]; omega
        · have hq1 : (xk == 1) = false := by simpa using hk1
          clear hk1
          by_cases hk2 : xk = 2
          · have hq2 : (xk == 2) = true := by simpa using hk2
            clear hk2
            go_wp2_with fail
            refine Calls.mono (map_sep S2.out xl ⟨xf, xt⟩) ?_
            rintro e w3 ⟨rfl, s3⟩
            have S3 := hid (s3.drop2)
            clear s3 S2
            go_wp2
            go_roundw
            case rel => exact ⟨i + 1, mapS T xl ⟨xf, xt⟩, _, by omega, by go_num, S3.out⟩
            case measure => simp [intOf]; omega
          · have hq2 : (xk == 2) = false := by simpa using hk2
            clear hk2
            by_cases hk4 : xk = 4
            · have hq4 : (xk == 4) = true := by simpa using hk4
              clear hk4
              go_wp2_with fail
              refine Calls.mono (unmap_sep S2.out xl) ?_
              rintro e w3 ⟨rfl, s3⟩
              have S3 := hid (s3.drop2)
              clear s3 S2
              go_wp2
              go_roundw
              case rel => exact ⟨i + 1, unmS T xl, _, by omega, by go_num, S3.out⟩
              case measure => simp [intOf]; omega
            · have hq4 : (xk == 4) = false := by simpa using hk4
              clear hk4
              have S3 := hid S2.out.drop2
              clear S2
              go_wp2
              go_roundw
              case rel => exact ⟨i + 1, T, _, by omega, by go_num, S3.out⟩
              case measure => simp [intOf]; omega
    · 
      have hor : (¬ i < X.length) ∨ (i < X.length ∧ ¬ i < 60) := by omega
      clear hlt
      rcases hor with hge | ⟨hl1, hge⟩
      · have hgez : ¬ (i : Int) < (X.length : Int) := by omega
        generalize X.length = n0 at *
        have gT : Good T := SpP.good S1.out.head
        have HG := hid gT
        clear gT
        go_wp2_with fail
        refine Calls.mono (pages_sep S1.out) ?_
        rintro e w2 ⟨va, rfl, s2⟩
        obtain ⟨aa, ca, rfl⟩ := s2.listIs (E := elL) (v := va) (A := allP T.f) (by simp)
        have HL : Hid ((allP T.f).length ≤ 4096) := all_len _
        have HTo : Hid (∀ (i : Nat) (x : La), (allP T.f)[i]? = some x → 0 ≤ x.1 ∧ x.1 < 4096 ∧ hasB T (x.1 / 64) = true ∧ wlkP T x.1 = x.2 ∧ wlkB T x.1 = true) := fun i x hx => told HG.out hx
        have HRi : Hid (∀ (i : Nat) (x y : La), (allP T.f)[i]? = some x → (allP T.f)[i + 1]? = some y → x.1 < y.1) := fun i x y hx hy => told_rise hx hy
        have S2 := hid s2
        clear s2 S1
        generalize allP T.f = L at *
        generalize hN : L.length = N at *
        have HN := hid hN
        clear hN
        go_wp2_with fail
        go_loopw [11] (fun s11 wx => ∃ k : Nat, k ≤ N ∧ s11 = .int .i64 k ∧ Sep w r wx (spT p m T :: lstL (.slice aa N ca) L :: RR)) (fun s11 _ => N - (intOf s11).toNat)
        case atStart => exact ⟨0, by omega, rfl, S2.out⟩
        case round =>
          clear S2
          obtain ⟨k, hk, rfl, s2⟩ := hrel
          have hN4 : N ≤ 4096 := HL.out
          have S2 := hid s2
          by_cases hlt : k < N
          · have hltz : (k : Int) < (N : Int) := by omega
            have hk1 : k < L.length := by have := HN.out; omega
            obtain ⟨x, hx⟩ : ∃ x, L[k]? = some x := ⟨_, List.getElem?_eq_getElem hk1⟩
            obtain ⟨q, rfl, -⟩ := s2.listAt okL (ao := aa) (n := N) (cap := ca) (A := L) (by simp) hx
            obtain ⟨h0, h1, h2, h3, h4⟩ := HTo.out k x hx
            obtain ⟨xa, xf, xt⟩ := x
            simp only at h0 h1 h2 h3 h4
            obtain ⟨d, hd⟩ : ∃ d : Int, xa / 64 = d := ⟨_, rfl⟩
            have hd2 : xa.tdiv 64 = d := by rw [Int.tdiv_eq_ediv_of_nonneg h0]; exact hd
            have hdw : IntKind.i64.wrap d = d := by rw [IntKind.wrap_i64]; omega
            rw [hd] at h2
            obtain ⟨hn, hhn⟩ : ∃ hn, hasN T d = hn := ⟨_, rfl⟩
            have HW := hid (And.intro hhn (And.intro h2 (And.intro h3 h4)))
            have HC : Hid (∀ u R', Sep w r u R' → lstL (.slice (some ⟨q, 0, none⟩) N ca) L ∈ R' → u.cell? ⟨q, k * 3, none⟩ = some (.int .i64 xa) ∧ u.cell? ⟨q, k * 3 + 1, none⟩ = some (.int .i64 xf) ∧ u.cell? ⟨q, k * 3 + 2, none⟩ = some (.int .i64 xt)) := fun u R' hu hm => by
              obtain ⟨q', e', hc⟩ := hu.listAt okL hm hx
              cases e'
              exact ⟨hc 0 _ rfl, hc 1 _ rfl, hc 2 _ rfl⟩
            obtain ⟨c0, c1, c2⟩ := HC.out _ _ s2 (by simp)
            have hgt : ∀ j : Nat, k = j + 1 → ∃ ya, ya < xa ∧ ∀ u R', Sep w r u R' → lstL (.slice (some ⟨q, 0, none⟩) N ca) L ∈ R' → u.cell? ⟨q, j * 3, none⟩ = some (.int .i64 ya) := fun j hj => by
              have hj1 : j < L.length := by omega
              obtain ⟨y, hy⟩ : ∃ y, L[j]? = some y := ⟨_, List.getElem?_eq_getElem hj1⟩
              refine ⟨y.1, HRi.out j y _ hy (by rw [← hj]; exact hx), fun u R' hu hm => ?_⟩
              obtain ⟨q', e', hc⟩ := hu.listAt okL hm hy
              cases e'
              exact hc 0 _ rfl
            have HGt := hid hgt
            have he : ∀ W, (Op.equalIn 10000 31 (.agg #[.int .i64 xf, .int .i64 xt]) (.agg #[.int .i64 xf, .int .i64 xt])).run Try.prog W = .ok true W := fun W => (eq_page W xf xt xf xt).trans (by rw [pgB_self])
            clear s2 hx hk1 h2 h3 h4 hhn hgt
            go_wp2_with fail
            refine Calls.mono (hs_is S2.out d HW.out.1 HW.out.2.1) ?_
            rintro e w3 ⟨rfl, s3⟩
            have S3 := hid s3
            clear S2 c0 c1 c2
            obtain ⟨c0, c1, c2⟩ := HC.out _ _ s3 (by simp)
            clear s3
            go_wp2_with fail
            refine Calls.mono (wlk_is S3.out xa HW.out.2.2.1 HW.out.2.2.2) ?_
            rintro e w4 ⟨rfl, s4⟩
            have s5 := (Sep.box s4 (objP ⟨xf, xt⟩)).swap
            simp only [objP] at s5
            clear S3 s4 c0 c1 c2
            by_cases hk0 : k = 0
            · have hk0z : decide ((0 : Int) < (k : Int)) = false := by rw [decide_eq_false_iff_not]; omega
              have hk0y : decide (0 < k) = false := by rw [decide_eq_false_iff_not]; omega
              clear hk0 HGt
              go_wp2_with fail
              generalize hw5 : w4.alloc (.cells #[.int .i64 xf, .int .i64 xt] 31) = w5 at *
              generalize w4.heap.size = q4 at *
              obtain ⟨c0, c1, c2⟩ := HC.out _ _ s5 (by simp)
              obtain ⟨e0, e1⟩ := s5.pageAt (q := q4) (x := ⟨xf, xt⟩) (by simp)
              simp only at e0 e1
              have S5 := hid s5
              clear s5 hw5
              (try simp only [List.append_eq, List.cons_append, List.nil_append])
              go_quiet (fail)
              go_wp2
              go_roundw
              case rel => exact ⟨k + 1, by omega, by go_num, (S5.out.drewN _).drop2⟩
              case measure => simp [intOf]; omega
            · obtain ⟨j, hj⟩ : ∃ j, k = j + 1 := ⟨k - 1, by omega⟩
              obtain ⟨ya, hya, hyc⟩ := HGt.out j hj
              have hk0z : decide ((0 : Int) < (k : Int)) = true := by rw [decide_eq_true_eq]; omega
              have hk0y : decide (0 < k) = true := by rw [decide_eq_true_eq]; omega
              have hk0x : 0 < k := by omega
              have hle : decide (xa ≤ ya) = false := by rw [decide_eq_false_iff_not]; omega
              have hj1 : (k : Int) - 1 = (j : Int) := by omega
              have hj2 : IntKind.i64.wrap ((k : Int) - 1) = (j : Int) := by rw [IntKind.wrap_i64]; omega
              have hj3 : (j : Int) < (N : Int) := by omega
              have hj4 : IntKind.i64.wrap (j : Int) = (j : Int) := by rw [IntKind.wrap_i64]; omega
              have HYc := hid hyc
              clear hk0 HGt hj hya hyc
              go_wp2_with fail
              generalize hw5 : w4.alloc (.cells #[.int .i64 xf, .int .i64 xt] 31) = w5 at *
              generalize w4.heap.size = q4 at *
              obtain ⟨c0, c1, c2⟩ := HC.out _ _ s5 (by simp)
              have y0 := HYc.out _ _ s5 (by simp)
              obtain ⟨e0, e1⟩ := s5.pageAt (q := q4) (x := ⟨xf, xt⟩) (by simp)
              simp only at e0 e1
              have S5 := hid s5
              clear s5 hw5
              (try simp only [List.append_eq, List.cons_append, List.nil_append])
              go_quiet (fail)
              go_wp2
              go_roundw
              case rel => exact ⟨k + 1, by omega, by go_num, (S5.out.drewN _).drop2⟩
              case measure => simp [intOf]; omega
          · have hltz : ¬ (k : Int) < (N : Int) := by omega
            clear S2
            have s3 := s2.drop2
            rw [HRR.out] at s3
            obtain ⟨n, hn, en⟩ := mask_is a1 12 (by decide)
            obtain ⟨f, hf, ef⟩ := mask64k x0
            obtain ⟨t, ht, et⟩ := mask7 x1
            have en' : bits .and .i64 a1 4095 = (n : Int) := en
            have hq : (n : Int) / 64 = ((n / 64 : Nat) : Int) := by omega
            have hq2 : (n : Int).tdiv 64 = ((n / 64 : Nat) : Int) := by rw [Int.tdiv_eq_ediv_of_nonneg (by omega)]; omega
            have HAg := hid (again HG.out n hn f t ht)
            generalize hN64 : ((n / 64 : Nat) : Int) = N64 at *
            have hNw : IntKind.i64.wrap N64 = N64 := by rw [IntKind.wrap_i64]; omega
            clear hN64 en
            obtain ⟨c0, c1⟩ := s3.pageAt (q := r) (x := ⟨x0, x1⟩) (by simp)
            simp only at c0 c1
            have S3 := hid (Sep.box s3 (objP ⟨f, t⟩)).swap
            clear s3 s2
            obtain ⟨T1, hT1, hw1, hw2, hcase⟩ := HAg.out
            have HT1 := hid (And.intro hT1 (And.intro hw1 hw2))
            clear hT1 hw1 hw2 HAg
            go_wp2_with fail
            refine Calls.mono (drp_is S3.out N64 rfl rfl HT1.out.1) ?_
            rintro e w4 ⟨v4, m4, rfl, s4⟩
            generalize wr.heap.size = q17 at *
            have S4 := hid s4.drop2
            clear s4 S3 c0 c1
            go_wp2_with fail
            refine Calls.mono (wlk_is S4.out n HT1.out.2.1 HT1.out.2.2) ?_
            rintro e w5 ⟨rfl, s5⟩
            have s6 := s5.below (below_new w5 (.cells #[.int .i64 0, .int .i64 0] 31))
            go_wp2_with fail
            generalize hw6 : w5.alloc (.cells #[.int .i64 0, .int .i64 0] 31) = w6 at *
            generalize w5.heap.size = q18 at *
            have S6 := hid s6
            clear s5 s6 S4 hw6
            rcases hcase with hA | ⟨T2, T3, T4, hB⟩
            · have HA := hid hA
              clear hA
              have hS : w6.drew.cell? ⟨q17, 0, none⟩ = some (.int .i64 (f : Int)) ∧ w6.drew.cell? ⟨q17, 1, none⟩ = some (.int .i64 (t : Int)) := S6.out.drew.pageAt (q := q17) (x := ⟨f, t⟩) (by simp)
              go_region_held3 (fun W => W.cell? ⟨q17, 0, none⟩ = some (.int .i64 (f : Int)) ∧ W.cell? ⟨q17, 1, none⟩ = some (.int .i64 (t : Int))) ((first | with_reducible assumption | with_reducible exact hS))
                (first
                  | (go_at_call 14; (with_reducible refine Calls.mono (mp_is S7.out n f t HA.out.2.2.1 HA.out.2.2.2.1) ?_); rintro e w8 ⟨rfl, s8⟩; have h8 : w8.cell? ⟨q17, 0, none⟩ = some (.int .i64 (f : Int)) ∧ w8.cell? ⟨q17, 1, none⟩ = some (.int .i64 (t : Int)) := s8.pageAt (q := q17) (x := ⟨f, t⟩) (by simp); have S8 := hid s8; clear s8 S7)
                  | (go_at_call 10; (with_reducible refine Calls.mono (tab_is S6.out.drew N64 1048576 HA.out.1 HA.out.2.1) ?_); rintro e w7 ⟨rfl, m7, s7⟩; have h7 : w7.cell? ⟨q17, 0, none⟩ = some (.int .i64 (f : Int)) ∧ w7.cell? ⟨q17, 1, none⟩ = some (.int .i64 (t : Int)) := s7.pageAt (q := q17) (x := ⟨f, t⟩) (by simp); have S7 := hid s7; clear s7 S6))
              clear hS h7 h8
              go_wp2_with fail
              refine Calls.mono (wlk_is S8.out n HT1.out.2.1 HT1.out.2.2) ?_
              rintro e w9 ⟨rfl, s9⟩
              have S9 := hid (Sep.box s9 (objP ⟨0, 0⟩)).swap
              clear s9 S8
              go_wp2_with fail
              refine Calls.mono (unm_is S9.out n HT1.out.2.1 HA.out.2.2.2.2.1 HA.out.2.2.2.2.2) ?_
              rintro e wA ⟨rfl, sA⟩
              have SA := hid (Sep.box sA (objP ⟨0, 0⟩)).swap
              clear sA S9
              go_wp2_with fail
              refine Calls.mono (wlk_is SA.out n HT1.out.2.1 HT1.out.2.2) ?_
              rintro e wB ⟨rfl, sB⟩
              have SB := hid (Sep.box sB (objP ⟨0, 0⟩)).swap
              clear sB SA
              go_wp2_with (go_at_call 31; refine Calls.mono (fixed_sep SB.out) ?_; rintro e wf ⟨rfl, sf⟩; have SF := hid sf; clear sf SB)
              go_ret
              exact ⟨rfl, by rw [HR.out]; exact SF.out.low⟩
            · have HA := hid hB
              clear hB
              have hS : w6.drew.cell? ⟨q17, 0, none⟩ = some (.int .i64 (f : Int)) ∧ w6.drew.cell? ⟨q17, 1, none⟩ = some (.int .i64 (t : Int)) := S6.out.drew.pageAt (q := q17) (x := ⟨f, t⟩) (by simp)
              go_region_held3 (fun W => W.cell? ⟨q17, 0, none⟩ = some (.int .i64 (f : Int)) ∧ W.cell? ⟨q17, 1, none⟩ = some (.int .i64 (t : Int))) ((first | with_reducible assumption | with_reducible exact hS))
                (first
                  | (go_at_call 14; (with_reducible refine Calls.mono (mp_is S7.out n f t HA.out.2.2.1 HA.out.2.2.2.1) ?_); rintro e w8 ⟨rfl, s8⟩; have h8 : w8.cell? ⟨q17, 0, none⟩ = some (.int .i64 (f : Int)) ∧ w8.cell? ⟨q17, 1, none⟩ = some (.int .i64 (t : Int)) := s8.pageAt (q := q17) (x := ⟨f, t⟩) (by simp); have S8 := hid s8; clear s8 S7)
                  | (go_at_call 10; (with_reducible refine Calls.mono (tab_is S6.out.drew N64 1048576 HA.out.1 HA.out.2.1) ?_); rintro e w7 ⟨rfl, m7, s7⟩; have h7 : w7.cell? ⟨q17, 0, none⟩ = some (.int .i64 (f : Int)) ∧ w7.cell? ⟨q17, 1, none⟩ = some (.int .i64 (t : Int)) := s7.pageAt (q := q17) (x := ⟨f, t⟩) (by simp); have S7 := hid s7; clear s7 S6))
              clear hS h7 h8
              go_wp2_with fail
              refine Calls.mono (wlk_is S8.out n HA.out.2.2.2.2.1 HA.out.2.2.2.2.2.1) ?_
              rintro e w9 ⟨rfl, s9⟩
              have S9 := hid (Sep.box s9 (objP ⟨f, t⟩)).swap
              clear s9 S8
              go_wp2_with fail
              refine Calls.mono (unm_is S9.out n HA.out.2.2.2.2.1 HA.out.2.2.2.2.2.2.1 HA.out.2.2.2.2.2.2.2.1) ?_
              rintro e wA ⟨rfl, sA⟩
              have SA := hid (Sep.box sA (objP ⟨f, t⟩)).swap
              clear sA S9
              generalize w9.heap.size = q22 at *
              go_wp2_with fail
              refine Calls.mono (wlk_is SA.out n HA.out.2.2.2.2.2.2.2.2.1 HA.out.2.2.2.2.2.2.2.2.2) ?_
              rintro e wB ⟨rfl, sB⟩
              have SB := hid (Sep.box sB (objP ⟨0, 0⟩)).swap
              clear sB SA
              generalize wA.heap.size = q24 at *
              have y0 : (wB.alloc (.cells #[.int .i64 0, .int .i64 0] 31)).cell? ⟨q17, 0, none⟩ = some (.int .i64 (f : Int)) := (SB.out.pageAt (q := q17) (x := ⟨f, t⟩) (by simp)).1
              have y1 : (wB.alloc (.cells #[.int .i64 0, .int .i64 0] 31)).cell? ⟨q17, 1, none⟩ = some (.int .i64 (t : Int)) := (SB.out.pageAt (q := q17) (x := ⟨f, t⟩) (by simp)).2
              have y2 : (wB.alloc (.cells #[.int .i64 0, .int .i64 0] 31)).cell? ⟨q22, 0, none⟩ = some (.int .i64 (f : Int)) := (SB.out.pageAt (q := q22) (x := ⟨f, t⟩) (by simp)).1
              have y3 : (wB.alloc (.cells #[.int .i64 0, .int .i64 0] 31)).cell? ⟨q22, 1, none⟩ = some (.int .i64 (t : Int)) := (SB.out.pageAt (q := q22) (x := ⟨f, t⟩) (by simp)).2
              have y4 : (wB.alloc (.cells #[.int .i64 0, .int .i64 0] 31)).cell? ⟨q24, 0, none⟩ = some (.int .i64 (f : Int)) := (SB.out.pageAt (q := q24) (x := ⟨f, t⟩) (by simp)).1
              have y5 : (wB.alloc (.cells #[.int .i64 0, .int .i64 0] 31)).cell? ⟨q24, 1, none⟩ = some (.int .i64 (t : Int)) := (SB.out.pageAt (q := q24) (x := ⟨f, t⟩) (by simp)).2
              have he : ∀ W, (Op.equalIn 10000 31 (.agg #[.int .i64 (f : Int), .int .i64 (t : Int)]) (.agg #[.int .i64 (f : Int), .int .i64 (t : Int)])).run Try.prog W = .ok true W := fun W => (eq_page W f t f t).trans (by rw [pgB_self])
              go_wp2_with (go_at_call 31; refine Calls.mono (fixed_sep SB.out) ?_; rintro e wf ⟨rfl, sf⟩; have SF := hid sf; clear sf SB)
              go_ret
              exact ⟨rfl, by rw [HR.out]; exact SF.out.low⟩
      · have hl1z : (i : Int) < (X.length : Int) := by omega
        have hgez : ¬ (i : Int) < 60 := by omega
        generalize X.length = n0 at *
        have gT : Good T := SpP.good S1.out.head
        have HG := hid gT
        clear gT
        go_wp2_with fail
        refine Calls.mono (pages_sep S1.out) ?_
        rintro e w2 ⟨va, rfl, s2⟩
        obtain ⟨aa, ca, rfl⟩ := s2.listIs (E := elL) (v := va) (A := allP T.f) (by simp)
        have HL : Hid ((allP T.f).length ≤ 4096) := all_len _
        have HTo : Hid (∀ (i : Nat) (x : La), (allP T.f)[i]? = some x → 0 ≤ x.1 ∧ x.1 < 4096 ∧ hasB T (x.1 / 64) = true ∧ wlkP T x.1 = x.2 ∧ wlkB T x.1 = true) := fun i x hx => told HG.out hx
        have HRi : Hid (∀ (i : Nat) (x y : La), (allP T.f)[i]? = some x → (allP T.f)[i + 1]? = some y → x.1 < y.1) := fun i x y hx hy => told_rise hx hy
        have S2 := hid s2
        clear s2 S1
        generalize allP T.f = L at *
        generalize hN : L.length = N at *
        have HN := hid hN
        clear hN
        go_wp2_with fail
        go_loopw [11] (fun s11 wx => ∃ k : Nat, k ≤ N ∧ s11 = .int .i64 k ∧ Sep w r wx (spT p m T :: lstL (.slice aa N ca) L :: RR)) (fun s11 _ => N - (intOf s11).toNat)
        case atStart => exact ⟨0, by omega, rfl, S2.out⟩
        case round =>
          clear S2
          obtain ⟨k, hk, rfl, s2⟩ := hrel
          have hN4 : N ≤ 4096 := HL.out
          have S2 := hid s2
          by_cases hlt : k < N
          · have hltz : (k : Int) < (N : Int) := by omega
            have hk1 : k < L.length := by have := HN.out; omega
            obtain ⟨x, hx⟩ : ∃ x, L[k]? = some x := ⟨_, List.getElem?_eq_getElem hk1⟩
            obtain ⟨q, rfl, -⟩ := s2.listAt okL (ao := aa) (n := N) (cap := ca) (A := L) (by simp) hx
            obtain ⟨h0, h1, h2, h3, h4⟩ := HTo.out k x hx
            obtain ⟨xa, xf, xt⟩ := x
            simp only at h0 h1 h2 h3 h4
            obtain ⟨d, hd⟩ : ∃ d : Int, xa / 64 = d := ⟨_, rfl⟩
            have hd2 : xa.tdiv 64 = d := by rw [Int.tdiv_eq_ediv_of_nonneg h0]; exact hd
            have hdw : IntKind.i64.wrap d = d := by rw [IntKind.wrap_i64]; omega
            rw [hd] at h2
            obtain ⟨hn, hhn⟩ : ∃ hn, hasN T d = hn := ⟨_, rfl⟩
            have HW := hid (And.intro hhn (And.intro h2 (And.intro h3 h4)))
            have HC : Hid (∀ u R', Sep w r u R' → lstL (.slice (some ⟨q, 0, none⟩) N ca) L ∈ R' → u.cell? ⟨q, k * 3, none⟩ = some (.int .i64 xa) ∧ u.cell? ⟨q, k * 3 + 1, none⟩ = some (.int .i64 xf) ∧ u.cell? ⟨q, k * 3 + 2, none⟩ = some (.int .i64 xt)) := fun u R' hu hm => by
              obtain ⟨q', e', hc⟩ := hu.listAt okL hm hx
              cases e'
              exact ⟨hc 0 _ rfl, hc 1 _ rfl, hc 2 _ rfl⟩
            obtain ⟨c0, c1, c2⟩ := HC.out _ _ s2 (by simp)
            have hgt : ∀ j : Nat, k = j + 1 → ∃ ya, ya < xa ∧ ∀ u R', Sep w r u R' → lstL (.slice (some ⟨q, 0, none⟩) N ca) L ∈ R' → u.cell? ⟨q, j * 3, none⟩ = some (.int .i64 ya) := fun j hj => by
              have hj1 : j < L.length := by omega
              obtain ⟨y, hy⟩ : ∃ y, L[j]? = some y := ⟨_, List.getElem?_eq_getElem hj1⟩
              refine ⟨y.1, HRi.out j y _ hy (by rw [← hj]; exact hx), fun u R' hu hm => ?_⟩
              obtain ⟨q', e', hc⟩ := hu.listAt okL hm hy
              cases e'
              exact hc 0 _ rfl
            have HGt := hid hgt
            have he : ∀ W, (Op.equalIn 10000 31 (.agg #[.int .i64 xf, .int .i64 xt]) (.agg #[.int .i64 xf, .int .i64 xt])).run Try.prog W = .ok true W := fun W => (eq_page W xf xt xf xt).trans (by rw [pgB_self])
            clear s2 hx hk1 h2 h3 h4 hhn hgt
            go_wp2_with fail
            refine Calls.mono (hs_is S2.out d HW.out.1 HW.out.2.1) ?_
            rintro e w3 ⟨rfl, s3⟩
            have S3 := hid s3
            clear S2 c0 c1 c2
            obtain ⟨c0, c1, c2⟩ := HC.out _ _ s3 (by simp)
            clear s3
            go_wp2_with fail
            refine Calls.mono (wlk_is S3.out xa HW.out.2.2.1 HW.out.2.2.2) ?_
            rintro e w4 ⟨rfl, s4⟩
            have s5 := (Sep.box s4 (objP ⟨xf, xt⟩)).swap
            simp only [objP] at s5
            clear S3 s4 c0 c1 c2
            by_cases hk0 : k = 0
            · have hk0z : decide ((0 : Int) < (k : Int)) = false := by rw [decide_eq_false_iff_not]; omega
              have hk0y : decide (0 < k) = false := by rw [decide_eq_false_iff_not]; omega
              clear hk0 HGt
              go_wp2_with fail
              generalize hw5 : w4.alloc (.cells #[.int .i64 xf, .int .i64 xt] 31) = w5 at *
              generalize w4.heap.size = q4 at *
              obtain ⟨c0, c1, c2⟩ := HC.out _ _ s5 (by simp)
              obtain ⟨e0, e1⟩ := s5.pageAt (q := q4) (x := ⟨xf, xt⟩) (by simp)
              simp only at e0 e1
              have S5 := hid s5
              clear s5 hw5
              (try simp only [List.append_eq, List.cons_append, List.nil_append])
              go_quiet (fail)
              go_wp2
              go_roundw
              case rel => exact ⟨k + 1, by omega, by go_num, (S5.out.drewN _).drop2⟩
              case measure => simp [intOf]; omega
            · obtain ⟨j, hj⟩ : ∃ j, k = j + 1 := ⟨k - 1, by omega⟩
              obtain ⟨ya, hya, hyc⟩ := HGt.out j hj
              have hk0z : decide ((0 : Int) < (k : Int)) = true := by rw [decide_eq_true_eq]; omega
              have hk0y : decide (0 < k) = true := by rw [decide_eq_true_eq]; omega
              have hk0x : 0 < k := by omega
              have hle : decide (xa ≤ ya) = false := by rw [decide_eq_false_iff_not]; omega
              have hj1 : (k : Int) - 1 = (j : Int) := by omega
              have hj2 : IntKind.i64.wrap ((k : Int) - 1) = (j : Int) := by rw [IntKind.wrap_i64]; omega
              have hj3 : (j : Int) < (N : Int) := by omega
              have hj4 : IntKind.i64.wrap (j : Int) = (j : Int) := by rw [IntKind.wrap_i64]; omega
              have HYc := hid hyc
              clear hk0 HGt hj hya hyc
              go_wp2_with fail
              generalize hw5 : w4.alloc (.cells #[.int .i64 xf, .int .i64 xt] 31) = w5 at *
              generalize w4.heap.size = q4 at *
              obtain ⟨c0, c1, c2⟩ := HC.out _ _ s5 (by simp)
              have y0 := HYc.out _ _ s5 (by simp)
              obtain ⟨e0, e1⟩ := s5.pageAt (q := q4) (x := ⟨xf, xt⟩) (by simp)
              simp only at e0 e1
              have S5 := hid s5
              clear s5 hw5
              (try simp only [List.append_eq, List.cons_append, List.nil_append])
              go_quiet (fail)
              go_wp2
              go_roundw
              case rel => exact ⟨k + 1, by omega, by go_num, (S5.out.drewN _).drop2⟩
              case measure => simp [intOf]; omega
          · have hltz : ¬ (k : Int) < (N : Int) := by omega
            clear S2
            have s3 := s2.drop2
            rw [HRR.out] at s3
            obtain ⟨n, hn, en⟩ := mask_is a1 12 (by decide)
            obtain ⟨f, hf, ef⟩ := mask64k x0
            obtain ⟨t, ht, et⟩ := mask7 x1
            have en' : bits .and .i64 a1 4095 = (n : Int) := en
            have hq : (n : Int) / 64 = ((n / 64 : Nat) : Int) := by omega
            have hq2 : (n : Int).tdiv 64 = ((n / 64 : Nat) : Int) := by rw [Int.tdiv_eq_ediv_of_nonneg (by omega)]; omega
            have HAg := hid (again HG.out n hn f t ht)
            generalize hN64 : ((n / 64 : Nat) : Int) = N64 at *
            have hNw : IntKind.i64.wrap N64 = N64 := by rw [IntKind.wrap_i64]; omega
            clear hN64 en
            obtain ⟨c0, c1⟩ := s3.pageAt (q := r) (x := ⟨x0, x1⟩) (by simp)
            simp only at c0 c1
            have S3 := hid (Sep.box s3 (objP ⟨f, t⟩)).swap
            clear s3 s2
            obtain ⟨T1, hT1, hw1, hw2, hcase⟩ := HAg.out
            have HT1 := hid (And.intro hT1 (And.intro hw1 hw2))
            clear hT1 hw1 hw2 HAg
            go_wp2_with fail
            refine Calls.mono (drp_is S3.out N64 rfl rfl HT1.out.1) ?_
            rintro e w4 ⟨v4, m4, rfl, s4⟩
            generalize wr.heap.size = q17 at *
            have S4 := hid s4.drop2
            clear s4 S3 c0 c1
            go_wp2_with fail
            refine Calls.mono (wlk_is S4.out n HT1.out.2.1 HT1.out.2.2) ?_
            rintro e w5 ⟨rfl, s5⟩
            have s6 := s5.below (below_new w5 (.cells #[.int .i64 0, .int .i64 0] 31))
            go_wp2_with fail
            generalize hw6 : w5.alloc (.cells #[.int .i64 0, .int .i64 0] 31) = w6 at *
            generalize w5.heap.size = q18 at *
            have S6 := hid s6
            clear s5 s6 S4 hw6
            rcases hcase with hA | ⟨T2, T3, T4, hB⟩
            · have HA := hid hA
              clear hA
              have hS : w6.drew.cell? ⟨q17, 0, none⟩ = some (.int .i64 (f : Int)) ∧ w6.drew.cell? ⟨q17, 1, none⟩ = some (.int .i64 (t : Int)) := S6.out.drew.pageAt (q := q17) (x := ⟨f, t⟩) (by simp)
              go_region_held3 (fun W => W.cell? ⟨q17, 0, none⟩ = some (.int .i64 (f : Int)) ∧ W.cell? ⟨q17, 1, none⟩ = some (.int .i64 (t : Int))) ((first | with_reducible assumption | with_reducible exact hS))
                (first
                  | (go_at_call 14; (with_reducible refine Calls.mono (mp_is S7.out n f t HA.out.2.2.1 HA.out.2.2.2.1) ?_); rintro e w8 ⟨rfl, s8⟩; have h8 : w8.cell? ⟨q17, 0, none⟩ = some (.int .i64 (f : Int)) ∧ w8.cell? ⟨q17, 1, none⟩ = some (.int .i64 (t : Int)) := s8.pageAt (q := q17) (x := ⟨f, t⟩) (by simp); have S8 := hid s8; clear s8 S7)
                  | (go_at_call 10; (with_reducible refine Calls.mono (tab_is S6.out.drew N64 1048576 HA.out.1 HA.out.2.1) ?_); rintro e w7 ⟨rfl, m7, s7⟩; have h7 : w7.cell? ⟨q17, 0, none⟩ = some (.int .i64 (f : Int)) ∧ w7.cell? ⟨q17, 1, none⟩ = some (.int .i64 (t : Int)) := s7.pageAt (q := q17) (x := ⟨f, t⟩) (by simp); have S7 := hid s7; clear s7 S6))
              clear hS h7 h8
              go_wp2_with fail
              refine Calls.mono (wlk_is S8.out n HT1.out.2.1 HT1.out.2.2) ?_
              rintro e w9 ⟨rfl, s9⟩
              have S9 := hid (Sep.box s9 (objP ⟨0, 0⟩)).swap
              clear s9 S8
              go_wp2_with fail
              refine Calls.mono (unm_is S9.out n HT1.out.2.1 HA.out.2.2.2.2.1 HA.out.2.2.2.2.2) ?_
              rintro e wA ⟨rfl, sA⟩
              have SA := hid (Sep.box sA (objP ⟨0, 0⟩)).swap
              clear sA S9
              go_wp2_with fail
              refine Calls.mono (wlk_is SA.out n HT1.out.2.1 HT1.out.2.2) ?_
              rintro e wB ⟨rfl, sB⟩
              have SB := hid (Sep.box sB (objP ⟨0, 0⟩)).swap
              clear sB SA
              go_wp2_with (go_at_call 31; refine Calls.mono (fixed_sep SB.out) ?_; rintro e wf ⟨rfl, sf⟩; have SF := hid sf; clear sf SB)
              go_ret
              exact ⟨rfl, by rw [HR.out]; exact SF.out.low⟩
            · have HA := hid hB
              clear hB
              have hS : w6.drew.cell? ⟨q17, 0, none⟩ = some (.int .i64 (f : Int)) ∧ w6.drew.cell? ⟨q17, 1, none⟩ = some (.int .i64 (t : Int)) := S6.out.drew.pageAt (q := q17) (x := ⟨f, t⟩) (by simp)
              go_region_held3 (fun W => W.cell? ⟨q17, 0, none⟩ = some (.int .i64 (f : Int)) ∧ W.cell? ⟨q17, 1, none⟩ = some (.int .i64 (t : Int))) ((first | with_reducible assumption | with_reducible exact hS))
                (first
                  | (go_at_call 14; (with_reducible refine Calls.mono (mp_is S7.out n f t HA.out.2.2.1 HA.out.2.2.2.1) ?_); rintro e w8 ⟨rfl, s8⟩; have h8 : w8.cell? ⟨q17, 0, none⟩ = some (.int .i64 (f : Int)) ∧ w8.cell? ⟨q17, 1, none⟩ = some (.int .i64 (t : Int)) := s8.pageAt (q := q17) (x := ⟨f, t⟩) (by simp); have S8 := hid s8; clear s8 S7)
                  | (go_at_call 10; (with_reducible refine Calls.mono (tab_is S6.out.drew N64 1048576 HA.out.1 HA.out.2.1) ?_); rintro e w7 ⟨rfl, m7, s7⟩; have h7 : w7.cell? ⟨q17, 0, none⟩ = some (.int .i64 (f : Int)) ∧ w7.cell? ⟨q17, 1, none⟩ = some (.int .i64 (t : Int)) := s7.pageAt (q := q17) (x := ⟨f, t⟩) (by simp); have S7 := hid s7; clear s7 S6))
              clear hS h7 h8
              go_wp2_with fail
              refine Calls.mono (wlk_is S8.out n HA.out.2.2.2.2.1 HA.out.2.2.2.2.2.1) ?_
              rintro e w9 ⟨rfl, s9⟩
              have S9 := hid (Sep.box s9 (objP ⟨f, t⟩)).swap
              clear s9 S8
              go_wp2_with fail
              refine Calls.mono (unm_is S9.out n HA.out.2.2.2.2.1 HA.out.2.2.2.2.2.2.1 HA.out.2.2.2.2.2.2.2.1) ?_
              rintro e wA ⟨rfl, sA⟩
              have SA := hid (Sep.box sA (objP ⟨f, t⟩)).swap
              clear sA S9
              generalize w9.heap.size = q22 at *
              go_wp2_with fail
              refine Calls.mono (wlk_is SA.out n HA.out.2.2.2.2.2.2.2.2.1 HA.out.2.2.2.2.2.2.2.2.2) ?_
              rintro e wB ⟨rfl, sB⟩
              have SB := hid (Sep.box sB (objP ⟨0, 0⟩)).swap
              clear sB SA
              generalize wA.heap.size = q24 at *
              have y0 : (wB.alloc (.cells #[.int .i64 0, .int .i64 0] 31)).cell? ⟨q17, 0, none⟩ = some (.int .i64 (f : Int)) := (SB.out.pageAt (q := q17) (x := ⟨f, t⟩) (by simp)).1
              have y1 : (wB.alloc (.cells #[.int .i64 0, .int .i64 0] 31)).cell? ⟨q17, 1, none⟩ = some (.int .i64 (t : Int)) := (SB.out.pageAt (q := q17) (x := ⟨f, t⟩) (by simp)).2
              have y2 : (wB.alloc (.cells #[.int .i64 0, .int .i64 0] 31)).cell? ⟨q22, 0, none⟩ = some (.int .i64 (f : Int)) := (SB.out.pageAt (q := q22) (x := ⟨f, t⟩) (by simp)).1
              have y3 : (wB.alloc (.cells #[.int .i64 0, .int .i64 0] 31)).cell? ⟨q22, 1, none⟩ = some (.int .i64 (t : Int)) := (SB.out.pageAt (q := q22) (x := ⟨f, t⟩) (by simp)).2
              have y4 : (wB.alloc (.cells #[.int .i64 0, .int .i64 0] 31)).cell? ⟨q24, 0, none⟩ = some (.int .i64 (f : Int)) := (SB.out.pageAt (q := q24) (x := ⟨f, t⟩) (by simp)).1
              have y5 : (wB.alloc (.cells #[.int .i64 0, .int .i64 0] 31)).cell? ⟨q24, 1, none⟩ = some (.int .i64 (t : Int)) := (SB.out.pageAt (q := q24) (x := ⟨f, t⟩) (by simp)).2
              have he : ∀ W, (Op.equalIn 10000 31 (.agg #[.int .i64 (f : Int), .int .i64 (t : Int)]) (.agg #[.int .i64 (f : Int), .int .i64 (t : Int)])).run Try.prog W = .ok true W := fun W => (eq_page W f t f t).trans (by rw [pgB_self])
              go_wp2_with (go_at_call 31; refine Calls.mono (fixed_sep SB.out) ?_; rintro e wf ⟨rfl, sf⟩; have SF := hid sf; clear sf SB)
              go_ret
              exact ⟨rfl, by rw [HR.out]; exact SF.out.low⟩
open Go.ChangeShapes Go.WideShapes Go.ChangeAt Go.RowKit Go.Joins

/-! ### From the walk to the statement -/
set_option maxRecDepth 100000 in
theorem lifted (os : Os) (started : os.Started) (H : Type) (enc : TypeId × Value → H) :
    ReturnsInHanded {} Try.checked os 4 .any (Rows.tablesOnlySpec.pre6 enc Try.prog Try.f4 Rows.tablesOnlyRow.domain false) (Rows.tablesOnlySpec.post enc Try.prog Try.f4 false true false false) := by
  refine returnsInHanded_of_change (C := Try.checked) own started (by kernel_rfl) Try.func4
    (ChangeSpec.witness6 (enc := enc) (C := Try.checked) false ⟨#[], #[.slice none 0 0, .int .i64 0, .agg #[.int .i64 0, .int .i64 0]], []⟩ 8 (by kernel_rfl) (by kernel_rfl) (by kernel_rfl) (by kernel_rfl)) ?_
  intro W base args ds gs before hval0 hW hcnd _
  have hval : ∀ (j : Nat) t v, Try.f4.params[j]? = some t → args[j]? = some v → Value.okWide Try.prog W .any base t v := hval0
  have hW' := hW
  obtain ⟨p, q, hA0, hV, rfl, hfz, hnd⟩ := hW
  have hA : DataW.TrodAll enc Try.prog W 0 (fun _ => true) true Try.f4.params.toList args.toList ds p := hA0
  rw [Try.params4] at hA hval
  obtain ⟨v0, vs0, d0, ds0, p0, q0, hargs, rfl, rfl, h0, r0⟩ := trodAll_cons hA
  obtain ⟨v1, vs1, d1, ds1, p1, q1, rfl, rfl, rfl, h1, r1⟩ := trodAll_cons r0
  obtain ⟨v2, vs2, d2, ds2, p2, q2, rfl, rfl, rfl, h2, r2⟩ := trodAll_cons r1
  obtain ⟨rfl, rfl, rfl⟩ := trodAll_nil r2
  obtain rfl : args = #[v0, v1, v2] := by cases args; simp_all
  obtain ⟨rfl, rfl⟩ := trodVars_none hV
  have k0 := h0
  have lt0 : ∀ x ∈ p0, x.block < W.heap.size := by obtain ⟨m, hm⟩ := k0; exact DataW.trod_lt m _ _ _ hm
  obtain ⟨a0, l0, c0, rfl, t0, s0⟩ := open_ops (hval 0 22 v0 rfl rfl) h0
  have k1 := h1
  have lt1 : ∀ x ∈ p1, x.block < W.heap.size := by obtain ⟨m, hm⟩ := k1; exact DataW.trod_lt m _ _ _ hm
  obtain ⟨a1, rfl, _, _, w1⟩ := open_int Try.underlying3 (hval 1 3 v1 rfl rfl) h1
  have k2 := h2
  have lt2 : ∀ x ∈ p2, x.block < W.heap.size := by obtain ⟨m, hm⟩ := k2; exact DataW.trod_lt m _ _ _ hm
  obtain ⟨a2, rfl, w2⟩ := open_page (hval 2 31 v2 rfl rfl) h2
  clear hA0 hval0
  refine (walk a0 l0 c0 a1 a2 W t0 s0 (bounds_i64 w1) w2).mono fun e W' ⟨he, bel⟩ => ?_
  subst he
  exact ⟨_, rfl, _, _, _, [], _, [], hW', trodAll_mk1 (shut_bool Try.underlying4 _), (trodAll_cons_mk (Below.trod laidOut (by kernel_rfl) (of_decide_eq_true (by kernel_rfl)) k0 bel lt0) (trodAll_cons_mk (Below.trod laidOut (by kernel_rfl) (of_decide_eq_true (by kernel_rfl)) k1 bel lt1) (trodAll_cons_mk (Below.trod laidOut (by kernel_rfl) (of_decide_eq_true (by kernel_rfl)) k2 bel lt2) trodAll_mk0))), rfl, bel.frame _, fun h => by cases h⟩
theorem over : Rows.tablesOnlyRow.holds Try.pinned (OpenSpec.ofChange Rows.tablesOnlySpec) :=
  OpenClaim.holds_of_wide 4 Try.f4 rfl rfl rfl rfl rfl rfl rfl ⟨rfl, rfl, rfl, rfl, rfl⟩ rfl rfl rfl rfl rfl (by kernel_rfl) Try.func4 (by kernel_rfl)
    (of_decide_eq_true (by kernel_rfl)) (by unfold Func.isWrapper; first | (rw [if_pos (by decide +kernel)]; kernel_rfl) | (rw [if_neg (by decide +kernel)]; exact ⟨rfl, rfl⟩))
    (fun os started H enc _ => lifted os started H enc)
end Go.Proofs.Ythjcodkgcffamaa.tablesOnly
namespace Go.Proofs.Ythjcodkgcffamaa
/-- THE STATEMENT. -/
theorem tablesOnly_said : Rows.TablesOnlySaid := tablesOnly.over
#print axioms tablesOnly_said
end Go.Proofs.Ythjcodkgcffamaa

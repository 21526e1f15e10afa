/-
  TreeDoes answers true for every input, and leaves it; no condition of ours.
-/
import Derived.Test.YthfoeppcageneaaTDo
namespace Go.Proofs.Ythfoeppcageneaa.treeDoes
open Go.RowKit Go.Deep Go.Shelf
set_option linter.unusedSectionVars false
section
variable [DecidableEq Sl]
set_option maxHeartbeats 16000000 in
set_option maxRecDepth 100000 in
theorem walk (ao : Option Addr) (X : List Oc) (cap : Nat) (w : World) (hX : Script w ao X) (_hl : X.length ≤ 9223372036854775807) :
    Calls Try.prog 3 #[.slice ao X.length cap] w fun e w' => e = .returned (.bool true) ∧ Below w.heap.size w w' := by
  have HX : Hid (Script w ao X) := hX
  obtain ⟨r, HR⟩ : ∃ r, Hid (w.heap.size = r) := ⟨_, rfl⟩
  clear hX
  go_enter Try.func3, Try.ntmps3
  go_wp2_with fail
  refine (new_any w).mono ?_
  rintro e w1 ⟨rfl, hw1⟩
  have h1 : Hid (Sep w r w1 [trT w.heap.size (.slice none 0 0) []]) := by
    rw [hw1, ← HR.out]
    exact (sep_nil w).new (t := trT w.heap.size (.slice none 0 0) []) (new_tree w) (below_new _ _) fun x hx => hx.elim (fun e => by omega) fun e => by simp [Value.ownBlock] at e
  clear hw1
  generalize hp0 : w.heap.size = p0 at h1 ⊢
  have HP0 : Hid (w.heap.size = p0) := hp0
  clear hp0
  have h2 : Hid _ := h1.out.ref.swap
  clear h1
  go_wp2
  generalize w1.alloc _ = v1 at *
  generalize w1.heap.size = k at *
  go_loopw [3, 5] (fun s3 s5 wr => ∃ (n p : Nat) (v a b : Value) (S : St), n ≤ 60 ∧ s3 = .pointer (some ⟨p, 0, none⟩) ∧ s5 = .int .i64 n ∧ S.length ≤ n ∧ Sep w r wr [trT p v S, rtT k a b S]) (fun _ s5 _ => 60 - (intOf s5).toNat)
  case atStart => exact ⟨0, _, _, _, _, [], by omega, rfl, rfl, Nat.le_refl _, h2.out⟩
  case round =>
    clear h2
    obtain ⟨n, p, v, a, b, S, hn, rfl, rfl, hS, hh⟩ := hrel
    by_cases hlt : n < X.length ∧ n < 60
    · obtain ⟨x, hx⟩ : ∃ x, X[n]? = some x := ⟨_, List.getElem?_eq_getElem hlt.1⟩
      obtain ⟨bb, o, rfl, c0, c1, c2, c3, c4⟩ := HX.out.at hx hh.low HR.out
      have h2 : Hid (Sep w r (wr.alloc (objO x)) [trT p v S, rtT k a b S, blk wr.heap.size (objO x)]) := (hh.box (objO x)).third
      obtain ⟨d0, d1, d2, d3, d4⟩ := op_cells (blk_alloc_new wr (objO x))
      have hk1 : (n : Int) < (X.length : Int) := by omega
      have hk2 : (n : Int) < 60 := by omega
      have HK : Hid (n < 60 ∧ S.length ≤ n ∧ S.length ≤ 1000) := ⟨hlt.2, hS, by omega⟩
      obtain ⟨T, HT⟩ : ∃ T, Hid (stepS S x = T ∧ T.length ≤ n + 1 ∧ T.length ≤ 1000) := ⟨_, rfl, by have := stepS_len S x; omega, by have := stepS_len S x; omega⟩
      obtain ⟨A, HA⟩ : ∃ A, Hid (allS T = A ∧ A.length ≤ 1000) := ⟨_, rfl, by rw [all_len]; exact HT.out.2.2⟩
      obtain ⟨U, HU⟩ : ∃ U, Hid (underS T x.a = U ∧ U.length ≤ 1000) := ⟨_, rfl, Nat.le_trans (under_le T x.a) HT.out.2.2⟩
      obtain ⟨y, β, HP⟩ : ∃ y β, Hid (parS T x.b = y ∧ parB T x.b = β) := ⟨_, _, rfl, rfl⟩
      have hq := eq_yes y
      clear hlt hx hn hS hh
      simp only [objO] at h2 d0 d1 d2 d3 d4
      by_cases q4 : x.k = 4
      · have e4 : (x.k == 4) = true := by simp [q4]
        clear q4
        have HC : Hid _ := copy_sep h2.out HK.out.2.2
        clear h2
        go_wp2_with fail
        refine Calls.mono HC.out ?_
        rintro e w2 ⟨q', v2, rfl, h2⟩
        generalize wr.alloc _ = W0 at *
        generalize wr.heap.size = q at *
        clear HC d0 d1 d2 d3 d4
        have K2 : Hid (Sep w r w2 [trT p v S, trT q' v2 S, rtT k a b S, blk q (objO x)]) := h2.swap
        clear h2
        obtain ⟨d0, d1, d2, d3, d4⟩ := op_cells (x := x) (K2.out.each (blk q (objO x)) (by simp)).1
        go_wp2_with fail
        refine Calls.mono (take_sep x.a K2.out HK.out.2.2) ?_
        rintro e w3 ⟨rfl, v3, h3⟩
        have K3 : Hid _ := h3
        clear h3 K2 d0 d1 d2 d3 d4
        have HL : Hid ((takeS S x.a).length ≤ 1000) := by have := takeS_len S x.a; have := HK.out; exact (by omega : (takeS S x.a).length ≤ 1000)
        go_wp2_with fail
        refine Calls.mono (root_sep ⟨99, 0⟩ K3.out HL.out) ?_
        rintro e w4 ⟨rfl, v4, h4⟩
        have K4 : Hid (Sep w r w4 [trT q' v2 S, rtT k a b S, blk q (objO x)]) := h4.drop
        clear h4 K3 HL
        obtain ⟨d0, d1, d2, d3, d4⟩ := op_cells (x := x) (K4.out.each (blk q (objO x)) (by simp)).1
        generalize hpq : q' = p' at *
        clear hpq
        go_wp2_with fail
        refine (does_is x K4.out HK.out.2.2 HT.out.1).mono ?_
        rintro e w5 ⟨rfl, v5, a5, b5, h5⟩
        have K5 : Hid (Sep w r w5 [trT p' v5 T, rtT k a5 b5 T, blk q (objO x)]) := h5
        clear h5 K4 d0 d1 d2 d3 d4
        obtain ⟨d0, d1, d2, d3, d4⟩ := op_cells (x := x) (K5.out.each (blk q (objO x)) (by simp)).1
        go_wp2
        go_cut [8, 9] from 55 to 60 (fun s8 s9 wx => ∃ aA cA aU cU, s8 = .slice aA A.length cA ∧ s9 = .slice aU U.length cU ∧ Sep w r wx [trT p' v5 T, lstS (.slice aA A.length cA) A, lstS (.slice aU U.length cU) U, rtT k a5 b5 T, blk q (objO x)])
        case first =>
          clear d0 d3 d4
          go_region_with (first | (go_at_call 14; refine (all_is A gU.out HT.out.2.2 HA.out.1).mono ?_; rintro e w7 ⟨aA, cA, rfl, g7⟩; have G7 := g7) | (go_at_call 15; refine (under_is x.a U gA.out HT.out.2.2 HU.out.1).mono ?_; rintro e w7 ⟨aU, cU, rfl, g7⟩; have G7 := g7.perm (.cons _ (.swap _ _ _))) | (go_at_call 14; refine (all_is A K5.out.drew HT.out.2.2 HA.out.1).mono ?_; rintro e w6 ⟨aA, cA, rfl, g6⟩; obtain ⟨f0, d1, d2, f3, f4⟩ := op_cells (x := x) (g6.each (blk q (objO x)) (by simp)).1; have gA : Hid _ := g6; clear g6 f0 f3 f4) | (go_at_call 15; refine (under_is x.a U K5.out.drew HT.out.2.2 HU.out.1).mono ?_; rintro e w6 ⟨aU, cU, rfl, g6⟩; obtain ⟨f0, d1, d2, f3, f4⟩ := op_cells (x := x) (g6.each (blk q (objO x)) (by simp)).1; have gU : Hid _ := g6; clear g6 f0 f3 f4))
          all_goals go_wp2_with fail
          all_goals go_meet
          all_goals exact ⟨_, _, _, _, rfl, rfl, G7⟩
        case rest =>
          obtain ⟨aA, cA, aU, cU, rfl, rfl, h7⟩ := hcut
          have K7 : Hid (Sep w r wc [trT p' v5 T, lstS (.slice aA A.length cA) A, lstS (.slice aU U.length cU) U, rtT k a5 b5 T, blk q (objO x)]) := h7
          clear h7 K5 d0 d1 d2 d3 d4
          obtain ⟨d0, d1, d2, d3, d4⟩ := op_cells (x := x) (K7.out.each (blk q (objO x)) (by simp)).1
          go_wp2_with fail
          refine (parent_is x.b y β K7.out HT.out.2.2 HP.out.1 HP.out.2).mono ?_
          rintro e w8 ⟨rfl, h8⟩
          have j8 : Hid _ := h8.fore [_, _, _] |>.boxed (objS y)
          clear h8 K7 d0 d1 d2 d3 d4
          obtain ⟨d0, d1, d2, d3, d4⟩ := op_cells (x := x) (j8.out.each (blk q (objO x)) (by simp)).1
          simp only [objS] at j8 d0 d1 d2 d3 d4
          go_wp2_with fail
          generalize w8.alloc _ = v8 at *
          generalize w8.heap.size = q8 at *
          refine (rparent_is x.b y β j8.out HT.out.2.2 HP.out.1 HP.out.2).mono ?_
          rintro e w9 ⟨rfl, h9⟩
          have j9 : Hid _ := h9.boxed (objS y)
          clear h9 j8 d0 d1 d2 d3 d4
          simp only [objS] at j9
          have K9 : Hid (Sep w r (w9.alloc (.cells #[.int .i64 y.n, .int .i64 y.i] 31)) [rtT k a5 b5 T, blk w9.heap.size (objS y), blk q8 (objS y), trT p' v5 T, lstS (.slice aA A.length cA) A, lstS (.slice aU U.length cU) U, blk q (objO x)]) := j9
          clear j9
          obtain ⟨bo, ca, rfl, e0⟩ := K9.out.rtAt (k := k) (a := a5) (b := b5) (T := T) (by simp)
          go_wp2_with fail
          generalize w9.alloc _ = v9 at *
          generalize w9.heap.size = q9 at *
          clear e0
          refine (rsame_is (ao := aA) (cap := cA) (A := A) (k := k) (bo := bo) (ca := ca) (b := b5) (T := T) K9.out (by simp) (by simp) HA.out.1 HA.out.2).mono ?_
          rintro e w10 ⟨rfl, h10⟩
          have K10 : Hid _ := h10
          clear h10 K9
          obtain ⟨d0, d1, d2, d3, d4⟩ := op_cells (x := x) (K10.out.each (blk q (objO x)) (by simp)).1
          go_wp2_with fail
          refine (runder_is x.a U K10.out HT.out.2.2 HU.out.1).mono ?_
          rintro e w11 ⟨aV, cV, rfl, h11⟩
          have K11 : Hid _ := h11
          clear h11 K10 d0 d1 d2 d3 d4
          go_wp2_with fail
          refine (same_is (ao := aU) (bo := aV) (cap := cU) (cap' := cV) (A := U) K11.out (by simp) (by simp) HU.out.2).mono ?_
          rintro e w12 ⟨rfl, h12⟩
          obtain ⟨y0, y1⟩ := h12.slotAt (q := q8) (s := y) (by simp)
          obtain ⟨y2, y3⟩ := h12.slotAt (q := q9) (s := y) (by simp)
          have K12 : Hid (Sep w r w12 [anyS aA A.length, rtT k (.slice bo T.length ca) b5 T, trT p' v5 T, lstS (.slice aU U.length cU) U, blk q (objO x)]) := (h12.drop2.drop2.drop2.fore [_, _]).anyS
          clear h12 K11
          go_wp2
          clear y0 y1 y2 y3
          go_loopw [14] (fun s14 wr => ∃ j : Nat, j ≤ A.length ∧ s14 = .int .i64 j ∧ Sep w r wr [anyS aA A.length, rtT k (.slice bo T.length ca) b5 T, trT p' v5 T, lstS (.slice aU U.length cU) U, blk q (objO x)]) (fun s14 _ => A.length - (intOf s14).toNat)
          case atStart => exact ⟨0, Nat.zero_le _, rfl, K12.out⟩
          case round =>
            clear K12
            obtain ⟨j, hj, rfl, hh⟩ := hrel
            have hA0 := HA.out.2
            by_cases hlt : j < A.length
            · obtain ⟨g, u, rfl, z0, z1, hg⟩ := hh.over hlt
              have HG : Hid _ := hg
              have hj1 : (j : Int) < (A.length : Int) := by omega
              have HJ : Hid (j < A.length) := hlt
              clear hg hh hlt hj
              go_wp2
              go_roundw
              case rel => exact ⟨j + 1, by have := HJ.out; omega, by go_num, HG.out _⟩
              case measure => simp [intOf]; have := HJ.out; omega
            · have hj1 : ¬ (j : Int) < (A.length : Int) := by omega
              have K13 : Hid (Sep w r wr [anyS aU U.length, rtT k (.slice bo T.length ca) b5 T, trT p' v5 T, blk q (objO x)]) := (hh.drop.fore [_, _]).anyS
              clear hh hlt hj
              go_wp2
              go_loopw [15] (fun s15 wr => ∃ j : Nat, j ≤ U.length ∧ s15 = .int .i64 j ∧ Sep w r wr [anyS aU U.length, rtT k (.slice bo T.length ca) b5 T, trT p' v5 T, blk q (objO x)]) (fun s15 _ => U.length - (intOf s15).toNat)
              case atStart => exact ⟨0, Nat.zero_le _, rfl, K13.out⟩
              case round =>
                clear K13
                obtain ⟨i, hi, rfl, hh⟩ := hrel
                have hU0 := HU.out.2
                by_cases hlt : i < U.length
                · obtain ⟨g, u, rfl, z0, z1, hg⟩ := hh.over hlt
                  have HG : Hid _ := hg
                  have hi1 : (i : Int) < (U.length : Int) := by omega
                  have HJ : Hid (i < U.length) := hlt
                  clear hg hh hlt hi
                  go_wp2
                  go_roundw
                  case rel => exact ⟨i + 1, by have := HJ.out; omega, by go_num, HG.out _⟩
                  case measure => simp [intOf]; have := HJ.out; omega
                · have hi1 : ¬ (i : Int) < (U.length : Int) := by omega
                  have K14 : Hid (Sep w r wr [trT p' v5 T, rtT k (.slice bo T.length ca) b5 T]) := hh.drop.swap.third.drop2.swap
                  clear hh hlt hi
                  go_wp2
                  go_roundw
                  case rel => exact ⟨n + 1, p', _, _, _, T, by have := HK.out; omega, rfl, by go_num, HT.out.2.1, K14.out⟩
                  case measure => simp [intOf]; have := HK.out; omega
      · have e4 : (x.k == 4) = false := by simp [q4]
        clear q4
        go_wp2_with fail
        have K4 : Hid (Sep w r (wr.alloc (objO x)) [trT p v S, rtT k a b S, blk wr.heap.size (objO x)]) := h2
        simp only [objO] at K4
        clear h2
        generalize wr.alloc _ = W0 at *
        generalize wr.heap.size = q at *
        refine (does_is x K4.out HK.out.2.2 HT.out.1).mono ?_
        rintro e w5 ⟨rfl, v5, a5, b5, h5⟩
        have K5 : Hid (Sep w r w5 [trT p v5 T, rtT k a5 b5 T, blk q (objO x)]) := h5
        clear h5 K4 d0 d1 d2 d3 d4
        obtain ⟨d0, d1, d2, d3, d4⟩ := op_cells (x := x) (K5.out.each (blk q (objO x)) (by simp)).1
        go_wp2
        go_cut [8, 9] from 55 to 60 (fun s8 s9 wx => ∃ aA cA aU cU, s8 = .slice aA A.length cA ∧ s9 = .slice aU U.length cU ∧ Sep w r wx [trT p v5 T, lstS (.slice aA A.length cA) A, lstS (.slice aU U.length cU) U, rtT k a5 b5 T, blk q (objO x)])
        case first =>
          clear d0 d3 d4
          go_region_with (first | (go_at_call 14; refine (all_is A gU.out HT.out.2.2 HA.out.1).mono ?_; rintro e w7 ⟨aA, cA, rfl, g7⟩; have G7 := g7) | (go_at_call 15; refine (under_is x.a U gA.out HT.out.2.2 HU.out.1).mono ?_; rintro e w7 ⟨aU, cU, rfl, g7⟩; have G7 := g7.perm (.cons _ (.swap _ _ _))) | (go_at_call 14; refine (all_is A K5.out.drew HT.out.2.2 HA.out.1).mono ?_; rintro e w6 ⟨aA, cA, rfl, g6⟩; obtain ⟨f0, d1, d2, f3, f4⟩ := op_cells (x := x) (g6.each (blk q (objO x)) (by simp)).1; have gA : Hid _ := g6; clear g6 f0 f3 f4) | (go_at_call 15; refine (under_is x.a U K5.out.drew HT.out.2.2 HU.out.1).mono ?_; rintro e w6 ⟨aU, cU, rfl, g6⟩; obtain ⟨f0, d1, d2, f3, f4⟩ := op_cells (x := x) (g6.each (blk q (objO x)) (by simp)).1; have gU : Hid _ := g6; clear g6 f0 f3 f4))
          all_goals go_wp2_with fail
          all_goals go_meet
          all_goals exact ⟨_, _, _, _, rfl, rfl, G7⟩
        case rest =>
          obtain ⟨aA, cA, aU, cU, rfl, rfl, h7⟩ := hcut
          have K7 : Hid (Sep w r wc [trT p v5 T, lstS (.slice aA A.length cA) A, lstS (.slice aU U.length cU) U, rtT k a5 b5 T, blk q (objO x)]) := h7
          clear h7 K5 d0 d1 d2 d3 d4
          obtain ⟨d0, d1, d2, d3, d4⟩ := op_cells (x := x) (K7.out.each (blk q (objO x)) (by simp)).1
          go_wp2_with fail
          refine (parent_is x.b y β K7.out HT.out.2.2 HP.out.1 HP.out.2).mono ?_
          rintro e w8 ⟨rfl, h8⟩
          have j8 : Hid _ := h8.fore [_, _, _] |>.boxed (objS y)
          clear h8 K7 d0 d1 d2 d3 d4
          obtain ⟨d0, d1, d2, d3, d4⟩ := op_cells (x := x) (j8.out.each (blk q (objO x)) (by simp)).1
          simp only [objS] at j8 d0 d1 d2 d3 d4
          go_wp2_with fail
          generalize w8.alloc _ = v8 at *
          generalize w8.heap.size = q8 at *
          refine (rparent_is x.b y β j8.out HT.out.2.2 HP.out.1 HP.out.2).mono ?_
          rintro e w9 ⟨rfl, h9⟩
          have j9 : Hid _ := h9.boxed (objS y)
          clear h9 j8 d0 d1 d2 d3 d4
          simp only [objS] at j9
          have K9 : Hid (Sep w r (w9.alloc (.cells #[.int .i64 y.n, .int .i64 y.i] 31)) [rtT k a5 b5 T, blk w9.heap.size (objS y), blk q8 (objS y), trT p v5 T, lstS (.slice aA A.length cA) A, lstS (.slice aU U.length cU) U, blk q (objO x)]) := j9
          clear j9
          obtain ⟨bo, ca, rfl, e0⟩ := K9.out.rtAt (k := k) (a := a5) (b := b5) (T := T) (by simp)
          go_wp2_with fail
          generalize w9.alloc _ = v9 at *
          generalize w9.heap.size = q9 at *
          clear e0
          refine (rsame_is (ao := aA) (cap := cA) (A := A) (k := k) (bo := bo) (ca := ca) (b := b5) (T := T) K9.out (by simp) (by simp) HA.out.1 HA.out.2).mono ?_
          rintro e w10 ⟨rfl, h10⟩
          have K10 : Hid _ := h10
          clear h10 K9
          obtain ⟨d0, d1, d2, d3, d4⟩ := op_cells (x := x) (K10.out.each (blk q (objO x)) (by simp)).1
          go_wp2_with fail
          refine (runder_is x.a U K10.out HT.out.2.2 HU.out.1).mono ?_
          rintro e w11 ⟨aV, cV, rfl, h11⟩
          have K11 : Hid _ := h11
          clear h11 K10 d0 d1 d2 d3 d4
          go_wp2_with fail
          refine (same_is (ao := aU) (bo := aV) (cap := cU) (cap' := cV) (A := U) K11.out (by simp) (by simp) HU.out.2).mono ?_
          rintro e w12 ⟨rfl, h12⟩
          obtain ⟨y0, y1⟩ := h12.slotAt (q := q8) (s := y) (by simp)
          obtain ⟨y2, y3⟩ := h12.slotAt (q := q9) (s := y) (by simp)
          have K12 : Hid (Sep w r w12 [anyS aA A.length, rtT k (.slice bo T.length ca) b5 T, trT p v5 T, lstS (.slice aU U.length cU) U, blk q (objO x)]) := (h12.drop2.drop2.drop2.fore [_, _]).anyS
          clear h12 K11
          go_wp2
          clear y0 y1 y2 y3
          go_loopw [14] (fun s14 wr => ∃ j : Nat, j ≤ A.length ∧ s14 = .int .i64 j ∧ Sep w r wr [anyS aA A.length, rtT k (.slice bo T.length ca) b5 T, trT p v5 T, lstS (.slice aU U.length cU) U, blk q (objO x)]) (fun s14 _ => A.length - (intOf s14).toNat)
          case atStart => exact ⟨0, Nat.zero_le _, rfl, K12.out⟩
          case round =>
            clear K12
            obtain ⟨j, hj, rfl, hh⟩ := hrel
            have hA0 := HA.out.2
            by_cases hlt : j < A.length
            · obtain ⟨g, u, rfl, z0, z1, hg⟩ := hh.over hlt
              have HG : Hid _ := hg
              have hj1 : (j : Int) < (A.length : Int) := by omega
              have HJ : Hid (j < A.length) := hlt
              clear hg hh hlt hj
              go_wp2
              go_roundw
              case rel => exact ⟨j + 1, by have := HJ.out; omega, by go_num, HG.out _⟩
              case measure => simp [intOf]; have := HJ.out; omega
            · have hj1 : ¬ (j : Int) < (A.length : Int) := by omega
              have K13 : Hid (Sep w r wr [anyS aU U.length, rtT k (.slice bo T.length ca) b5 T, trT p v5 T, blk q (objO x)]) := (hh.drop.fore [_, _]).anyS
              clear hh hlt hj
              go_wp2
              go_loopw [15] (fun s15 wr => ∃ j : Nat, j ≤ U.length ∧ s15 = .int .i64 j ∧ Sep w r wr [anyS aU U.length, rtT k (.slice bo T.length ca) b5 T, trT p v5 T, blk q (objO x)]) (fun s15 _ => U.length - (intOf s15).toNat)
              case atStart => exact ⟨0, Nat.zero_le _, rfl, K13.out⟩
              case round =>
                clear K13
                obtain ⟨i, hi, rfl, hh⟩ := hrel
                have hU0 := HU.out.2
                by_cases hlt : i < U.length
                · obtain ⟨g, u, rfl, z0, z1, hg⟩ := hh.over hlt
                  have HG : Hid _ := hg
                  have hi1 : (i : Int) < (U.length : Int) := by omega
                  have HJ : Hid (i < U.length) := hlt
                  clear hg hh hlt hi
                  go_wp2
                  go_roundw
                  case rel => exact ⟨i + 1, by have := HJ.out; omega, by go_num, HG.out _⟩
                  case measure => simp [intOf]; have := HJ.out; omega
                · have hi1 : ¬ (i : Int) < (U.length : Int) := by omega
                  have K14 : Hid (Sep w r wr [trT p v5 T, rtT k (.slice bo T.length ca) b5 T]) := hh.drop.swap.third.drop2.swap
                  clear hh hlt hi
                  go_wp2
                  go_roundw
                  case rel => exact ⟨n + 1, p, _, _, _, T, by have := HK.out; omega, rfl, by go_num, HT.out.2.1, K14.out⟩
                  case measure => simp [intOf]; have := HK.out; omega
    · have HD : Hid (Sep w r wr [trT p v S, rtT k a b S]) := hh
      by_cases hk1 : n < X.length
      · have hkz : (n : Int) < (X.length : Int) := by omega
        have hkz2 : ¬ (n : Int) < 60 := by omega
        clear hlt hk1 hn hS hh
        go_wp2_with fail
        refine (fixed_sep HD.out).mono ?_
        rintro e w9 ⟨rfl, h9⟩
        go_wp2
        go_ret
        exact ⟨rfl, by rw [HR.out]; exact h9.low⟩
      · have hkz : ¬ (n : Int) < (X.length : Int) := by omega
        clear hlt hk1 hn hS hh
        go_wp2_with fail
        refine (fixed_sep HD.out).mono ?_
        rintro e w9 ⟨rfl, h9⟩
        go_wp2
        go_ret
        exact ⟨rfl, by rw [HR.out]; exact h9.low⟩
end
open Go.ChangeShapes Go.WideShapes Go.ChangeAt Go.RowKit Go.Joins

/-! ### From the walk to the statement -/
set_option maxRecDepth 100000 in
theorem lifted (os : Os) (started : os.Started) (H : Type) (enc : TypeId × Value → H) :
    ReturnsInHanded {} Try.checked os 3 .any (Rows.treeDoesSpec.pre6 enc Try.prog Try.f3 Rows.treeDoesRow.domain false) (Rows.treeDoesSpec.post enc Try.prog Try.f3 false true false false) := by
  have hdec : DecidableEq Sl := fun a b => Classical.propDecidable (a = b)
  refine returnsInHanded_of_change (C := Try.checked) own started (by kernel_rfl) Try.func3
    (ChangeSpec.witness6 (enc := enc) (C := Try.checked) false ⟨#[], #[.slice none 0 0], []⟩ 8 (by kernel_rfl) (by kernel_rfl) (by kernel_rfl) (by kernel_rfl)) ?_
  intro W base args ds gs before hval0 hW hcnd _
  have hval : ∀ (j : Nat) t v, Try.f3.params[j]? = some t → args[j]? = some v → Value.okWide Try.prog W .any base t v := hval0
  have hW' := hW
  obtain ⟨p, q, hA0, hV, rfl, hfz, hnd⟩ := hW
  have hA : DataW.TrodAll enc Try.prog W 0 (fun _ => true) true Try.f3.params.toList args.toList ds p := hA0
  rw [Try.params3] at hA hval
  obtain ⟨v0, vs0, d0, ds0, p0, q0, hargs, rfl, rfl, h0, r0⟩ := trodAll_cons hA
  obtain ⟨rfl, rfl, rfl⟩ := trodAll_nil r0
  obtain rfl : args = #[v0] := by cases args; simp_all
  obtain ⟨rfl, rfl⟩ := trodVars_none hV
  have k0 := h0
  have lt0 : ∀ x ∈ p0, x.block < W.heap.size := by obtain ⟨m, hm⟩ := k0; exact DataW.trod_lt m _ _ _ hm
  obtain ⟨a0, l0, c0, rfl, t0, s0⟩ := open_ops (hval 0 22 v0 rfl rfl) h0
  clear hA0 hval0
  refine (walk a0 l0 c0 W t0 s0).mono fun e W' ⟨he, bel⟩ => ?_
  subst he
  exact ⟨_, rfl, _, _, _, [], _, [], hW', trodAll_mk1 (shut_bool Try.underlying4 _), (trodAll_cons_mk (Below.trod laidOut (by kernel_rfl) (of_decide_eq_true (by kernel_rfl)) k0 bel lt0) trodAll_mk0), rfl, bel.frame _, fun h => by cases h⟩
theorem over : Rows.treeDoesRow.holds Try.pinned (OpenSpec.ofChange Rows.treeDoesSpec) :=
  OpenClaim.holds_of_wide 3 Try.f3 rfl rfl rfl rfl rfl rfl rfl ⟨rfl, rfl, rfl, rfl, rfl⟩ rfl rfl rfl rfl rfl (by kernel_rfl) Try.func3 (by kernel_rfl)
    (of_decide_eq_true (by kernel_rfl)) (by unfold Func.isWrapper; first | (rw [if_pos (by decide +kernel)]; kernel_rfl) | (rw [if_neg (by decide +kernel)]; exact ⟨rfl, rfl⟩))
    (fun os started H enc _ => lifted os started H enc)
end Go.Proofs.Ythfoeppcageneaa.treeDoes
namespace Go.Proofs.Ythfoeppcageneaa
/-- THE STATEMENT. -/
theorem treeDoes_said : Rows.TreeDoesSaid := treeDoes.over
#print axioms treeDoes_said
end Go.Proofs.Ythfoeppcageneaa

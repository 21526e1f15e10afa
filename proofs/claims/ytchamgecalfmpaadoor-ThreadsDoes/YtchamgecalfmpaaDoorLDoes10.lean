/-
  ThreadsDoes: whatever threads are made, resumed, stopped, changed and picked, whatever ticks pass, in any order, at any cores: each answer, each thread, who runs, and all lines that are named, is as the document says; the variable words.halves starts as the program's text lays it (the card ties it).
-/
import Derived.Test.YtchamgecalfmpaaDoorHBoth
import Derived.Deep.Cut
import Derived.Deep.CutRange
namespace Go.Proofs.YtchamgecalfmpaaDoor.threadsDoes
open Go.RowKit Go.Deep Go.Shelf
set_option maxHeartbeats 32000000 in
set_option maxRecDepth 100000 in
theorem walk (cores : Int) (ao : Option Addr) (X : List Oc) (cap : Nat) (w : World) (ht : Tab w) (_ : -9223372036854775808 ≤ cores ∧ cores ≤ 9223372036854775807) (hX : Ops w ao X) (_hxl : X.length ≤ 9223372036854775807) :
    Calls Tryd.prog 3 #[.int .i64 cores, .slice ao X.length cap] w fun e w' => e = .returned (.bool true) ∧ Below w.heap.size w w' := by
  have HT := hid (Sep.tabs ht)
  clear ht
  obtain ⟨m, hm, hmask7⟩ := mask7 cores
  obtain ⟨N, hN⟩ : ∃ N : Nat, N = 1 + m := ⟨_, rfl⟩
  have hN1 : 1 ≤ N := by omega
  have hN8 : N ≤ 8 := by omega
  have hw : IntKind.i64.wrap (1 + (m : Int)) = (N : Int) := by
    unfold IntKind.wrap
    simp [IntKind.bits, IntKind.signed]
    omega
  have hw2 : 1 + (m : Int) = (N : Int) := by omega
  have HX := hid hX
  clear hN hm hX
  go_enter Tryd.func3, Tryd.ntmps3
  go_wp2_with fail
  refine Calls.mono (newT_sep (sep_nil w) N hN1 hN8) ?_
  rintro e w1 ⟨p, F, rfl, s1⟩
  have S1 := hid s1
  clear s1
  generalize hr : w.heap.size = r at *
  have HR := hid hr
  clear hr
  go_wp2_with fail
  refine Calls.mono (rnewT_sep S1.out N hN1 hN8) ?_
  rintro e w2 ⟨kq, G, rfl, s2⟩
  have S2 := hid s2.swap
  clear s2 S1
  generalize newH N = h0 at *
  go_wp2_with fail
  go_loopw [5, 9, 10, 11, 12, 13, 14, 15, 16, 17, 18, 19, 20] (fun s5 s9 _ _ _ _ _ _ _ _ _ _ _ wr => ∃ (n pq : Nat) (F G : Nat → Prop) (h : Hs), n ≤ 80 ∧ s9 = .int .i64 n ∧ s5 = ptr pq ∧ Sep w r wr [tT pq F h, tR kq G h]) (fun _ s9 _ _ _ _ _ _ _ _ _ _ _ _ => 80 - (intOf s9).toNat)
  case atStart => exact ⟨0, p, F, G, h0, by omega, rfl, rfl, S2.out⟩
  case round =>
    clear S2
    obtain ⟨n, pq, F, G, h, hn, rfl, rfl, s1⟩ := hrel
    have S1 := hid s1
    clear s1
    by_cases hgo : n < X.length ∧ n < 80
    · obtain ⟨hlt, h80⟩ := hgo
      obtain ⟨fx, b, a, rfl, c0, c1, c2, c3, c4⟩ := Ops.at (SeeK.below HX.out S1.out.low (by rw [HR.out]; exact Nat.le_refl _)) (List.getElem?_eq_getElem hlt)
      generalize hx : X[n] = x at *
      have HF := hid fx
      have HI := hid h80
      clear fx hx
      generalize hm : X.length = mX at *
      have hltz : (n : Int) < (mX : Int) := by omega
      have h80z : (n : Int) < 80 := by omega
      by_cases hk : x.k = 10
      · obtain ⟨xk, xi, xc, xn, xv⟩ := x
        simp only at hk
        subst hk
        simp only at c0 c1 c2 c3 c4
        have S2 := hid (S1.out.box (objO ⟨10, xi, xc, xn, xv⟩)).swap
        clear S1
        go_wp2_with fail
        refine Calls.mono (copyT_sep S2.out) ?_
        rintro e w3 ⟨p2, F2, rfl, s3⟩
        generalize wr.heap.size = q at *
        have S3 := hid s3.swap
        clear s3 S2
        obtain ⟨o0, o1, o2, o3, o4⟩ := S3.out.opAt (q := q) (x := ⟨10, xi, xc, xn, xv⟩) (by simp)
        go_wp2_with fail
        refine Calls.mono (suspend_sep S3.out xi) ?_
        rintro e w4 ⟨rfl, F4, s4⟩
        have S4 := hid s4
        clear s4 S3 o0 o1 o2 o3 o4
        go_wp2_with fail
        refine Calls.mono (make_sep S4.out 1 0) ?_
        rintro e w5 ⟨rfl, F5, s5⟩
        have S5 := hid s5
        clear s5 S4
        go_wp2_with fail
        refine Calls.mono (pick_sep S5.out HT.out 0) ?_
        rintro e w6 ⟨rfl, F6, s6⟩
        have S6 := hid s6.drop.swap.third
        clear s6 S5
        obtain ⟨o0, o1, o2, o3, o4⟩ := S6.out.opAt (q := q) (x := ⟨10, xi, xc, xn, xv⟩) (by simp)
        go_wp2_with fail
        refine Calls.mono (same_sep S6.out HT.out ⟨10, xi, xc, xn, xv⟩ HF.out) ?_
        rintro e w3 ⟨rfl, h', F3, G3, s3⟩
        have S3 := hid s3
        clear s3
        go_wp2_with fail
        generalize hnl : h'.L.length = nl at *
        have HNL := hid hnl
        clear hnl
        have hnl64 : nl ≤ 64 := by have := S3.out.inv.few; have := HNL.out; omega
        go_loopw [12, 13, 14, 15, 16] (fun s12 _ _ _ _ wx => ∃ j : Nat, j ≤ nl + 1 ∧ s12 = .int .i64 j ∧ Sep w r wx [tT p2 F3 h', tR kq G3 h', blk q (objO ⟨10, xi, xc, xn, xv⟩)]) (fun s12 _ _ _ _ _ => nl + 1 - (intOf s12).toNat)
        case atStart => exact ⟨0, by omega, rfl, S3.out⟩
        case round =>
          clear S3
          obtain ⟨j, hj, rfl, s4⟩ := hrel
          obtain ⟨aoL, capL, cL⟩ := s4.swap.lenR
          rw [HNL.out] at cL
          have S4 := hid s4
          clear s4
          by_cases hjl : j ≤ nl
          · have hjz : (j : Int) ≤ (nl : Int) := by omega
            have hjz2 : (j : Int) < (nl : Int) + 1 := by omega
            go_wp2_with fail
            refine Calls.mono (get_agg S4.out j rfl rfl) ?_
            rintro e w5 ⟨rfl, s5⟩
            generalize hzz : getT h' j = z at *
            generalize hee : getE h' j = ze at *
            have S5 := hid (s5.box (objT z)).third.swap
            clear s5 cL
            go_wp2_with fail
            refine Calls.mono (rget_agg S5.out j hzz hee) ?_
            rintro e w6 ⟨rfl, s6⟩
            have q0 := (s6.atT (q := w5.heap.size) (x := z) (by simp)).cells
            have S6 := hid ((s6.box (objT z)).drop.swap.third.drop2.swap)
            obtain ⟨y0, y1, y2, y3, y4, y5, y6, y7, y8, y9, y10, y11⟩ := q0
            have p0 := cell_al y0 (objT z)
            have p1 := cell_al y1 (objT z)
            have p2 := cell_al y2 (objT z)
            have p3 := cell_al y3 (objT z)
            have p4 := cell_al y4 (objT z)
            have p5 := cell_al y5 (objT z)
            have p6 := cell_al y6 (objT z)
            have p7 := cell_al y7 (objT z)
            have p8 := cell_al y8 (objT z)
            have p9 := cell_al y9 (objT z)
            have p10 := cell_al y10 (objT z)
            have p11 := cell_al y11 (objT z)
            simp only [Nat.zero_add, objT] at p0 p1 p2 p3 p4 p5 p6 p7 p8 p9 p10 p11
            have heq := eq_thread z
            clear s6 S5 hzz hee y0 y1 y2 y3 y4 y5 y6 y7 y8 y9 y10 y11
            generalize w5.heap.size = q5 at *
            go_wp2
            go_round
            case rel => exact ⟨j + 1, by omega, by go_num, S6.out⟩
            case measure => simp [intOf]; omega
          · have hjz : ¬ ((j : Int) ≤ (nl : Int)) := by omega
            obtain ⟨o0, o1, o2, o3, o4⟩ := S4.out.opAt (q := q) (x := ⟨10, xi, xc, xn, xv⟩) (by simp)
            go_wp2_with fail
            refine Calls.mono (runs_sep S4.out xc) ?_
            rintro e w7 ⟨rfl, s7⟩
            have S7 := hid s7.swap
            clear s7 S4 o0 o1 o2 o3 o4 cL
            obtain ⟨o0, o1, o2, o3, o4⟩ := S7.out.opAt (q := q) (x := ⟨10, xi, xc, xn, xv⟩) (by simp)
            go_wp2_with fail
            refine Calls.mono (rruns_sep S7.out xc) ?_
            rintro e w8 ⟨rfl, s8⟩
            have S8 := hid s8.swap
            clear s8 S7 o0 o1 o2 o3 o4
            generalize runsN h' xc = rn at *
            generalize runsB h' xc = rb at *
            have HLL := hid (lineH_len S8.out.inv xc xn)
            generalize hll : lineH h' xc xn = LL at *
            have HLE := hid hll
            clear hll
            have hS : w8.drew.cell? ⟨q, 2, none⟩ = some (.int .i64 xc) ∧ w8.drew.cell? ⟨q, 3, none⟩ = some (.int .i64 xn) := by
              obtain ⟨_, _, o2, o3, _⟩ := S8.out.drew.opAt (q := q) (x := ⟨10, xi, xc, xn, xv⟩) (by simp)
              exact ⟨o2, o3⟩
            go_wp2_with fail
            go_cut [150] from 127 to 150 (fun s150 wx => s150 = .bool false ∧ Sep w r wx [tT p2 F3 h', tR kq G3 h'])
            case first =>
              go_region_held3 (fun W => W.cell? ⟨q, 2, none⟩ = some (.int .i64 xc) ∧ W.cell? ⟨q, 3, none⟩ = some (.int .i64 xn)) ((first | with_reducible assumption | with_reducible exact hS)) (first | (go_at_call 21; (with_reducible refine Calls.mono (lines_is S8.out.drew xc xn HLE.out) ?_); rintro e w9 ⟨ao9, cap9, rfl, s9⟩; have S9 := hid s9.third.swap; have hs9 : w9.cell? ⟨q, 2, none⟩ = some (.int .i64 xc) ∧ w9.cell? ⟨q, 3, none⟩ = some (.int .i64 xn) := ⟨(S9.out.opAt (q := q) (x := ⟨10, xi, xc, xn, xv⟩) (by simp)).2.2.1, (S9.out.opAt (q := q) (x := ⟨10, xi, xc, xn, xv⟩) (by simp)).2.2.2.1⟩; clear s9) | (go_at_call 22; (with_reducible refine Calls.mono (rlines_is S9.out xc xn HLE.out) ?_); rintro e w10 ⟨ao10, cap10, rfl, s10⟩; have S10 := hid s10; have hs10 : w10.cell? ⟨q, 2, none⟩ = some (.int .i64 xc) ∧ w10.cell? ⟨q, 3, none⟩ = some (.int .i64 xn) := ⟨(S10.out.opAt (q := q) (x := ⟨10, xi, xc, xn, xv⟩) (by simp)).2.2.1, (S10.out.opAt (q := q) (x := ⟨10, xi, xc, xn, xv⟩) (by simp)).2.2.2.1⟩; clear s10) | (go_at_call 20; (with_reducible refine Calls.mono (nums_is S10.out (u := .slice ao9 LL.length cap9) (v := .slice ao10 LL.length cap10) (A := LL) (B := LL) (by simp) (by simp) HLL.out rfl) ?_); rintro e w11 ⟨rfl, s11⟩; have S11 := hid s11; have hs11 : w11.cell? ⟨q, 2, none⟩ = some (.int .i64 xc) ∧ w11.cell? ⟨q, 3, none⟩ = some (.int .i64 xn) := ⟨(S11.out.opAt (q := q) (x := ⟨10, xi, xc, xn, xv⟩) (by simp)).2.2.1, (S11.out.opAt (q := q) (x := ⟨10, xi, xc, xn, xv⟩) (by simp)).2.2.2.1⟩; clear s11))
              all_goals go_wp2_with fail
              all_goals go_meet
              all_goals exact ⟨rfl, S11.out.drop2.drop2.swap.third.drop2.swap⟩
            case rest =>
              obtain ⟨rfl, s12⟩ := hcut
              have S12 := hid s12
              clear s12 S8
              go_wp2
              go_round
              case rel => exact ⟨n + 1, p2, F3, G3, h', by have := HI.out; omega, by go_num, rfl, S12.out⟩
              case measure => simp [intOf]; have := HI.out; omega
      · have e10 : (x.k == 10) = false := by simpa using hk
        have S2 := hid (S1.out.box (objO x)).third
        clear hk S1
        go_wp2_with fail
        generalize wr.heap.size = q at *
        refine Calls.mono (same_sep S2.out HT.out x HF.out) ?_
        rintro e w3 ⟨rfl, h', F3, G3, s3⟩
        have S3 := hid s3
        clear s3
        go_wp2_with fail
        generalize hnl : h'.L.length = nl at *
        have HNL := hid hnl
        clear hnl
        have hnl64 : nl ≤ 64 := by have := S3.out.inv.few; have := HNL.out; omega
        go_loopw [12, 13, 14, 15, 16] (fun s12 _ _ _ _ wx => ∃ j : Nat, j ≤ nl + 1 ∧ s12 = .int .i64 j ∧ Sep w r wx [tT pq F3 h', tR kq G3 h', blk q (objO x)]) (fun s12 _ _ _ _ _ => nl + 1 - (intOf s12).toNat)
        case atStart => exact ⟨0, by omega, rfl, S3.out⟩
        case round =>
          clear S3
          obtain ⟨j, hj, rfl, s4⟩ := hrel
          obtain ⟨aoL, capL, cL⟩ := s4.swap.lenR
          rw [HNL.out] at cL
          have S4 := hid s4
          clear s4
          by_cases hjl : j ≤ nl
          · have hjz : (j : Int) ≤ (nl : Int) := by omega
            have hjz2 : (j : Int) < (nl : Int) + 1 := by omega
            go_wp2_with fail
            refine Calls.mono (get_agg S4.out j rfl rfl) ?_
            rintro e w5 ⟨rfl, s5⟩
            generalize hzz : getT h' j = z at *
            generalize hee : getE h' j = ze at *
            have S5 := hid (s5.box (objT z)).third.swap
            clear s5 cL
            go_wp2_with fail
            refine Calls.mono (rget_agg S5.out j hzz hee) ?_
            rintro e w6 ⟨rfl, s6⟩
            have q0 := (s6.atT (q := w5.heap.size) (x := z) (by simp)).cells
            have S6 := hid ((s6.box (objT z)).drop.swap.third.drop2.swap)
            obtain ⟨y0, y1, y2, y3, y4, y5, y6, y7, y8, y9, y10, y11⟩ := q0
            have p0 := cell_al y0 (objT z)
            have p1 := cell_al y1 (objT z)
            have p2 := cell_al y2 (objT z)
            have p3 := cell_al y3 (objT z)
            have p4 := cell_al y4 (objT z)
            have p5 := cell_al y5 (objT z)
            have p6 := cell_al y6 (objT z)
            have p7 := cell_al y7 (objT z)
            have p8 := cell_al y8 (objT z)
            have p9 := cell_al y9 (objT z)
            have p10 := cell_al y10 (objT z)
            have p11 := cell_al y11 (objT z)
            simp only [Nat.zero_add, objT] at p0 p1 p2 p3 p4 p5 p6 p7 p8 p9 p10 p11
            have heq := eq_thread z
            clear s6 S5 hzz hee y0 y1 y2 y3 y4 y5 y6 y7 y8 y9 y10 y11
            generalize w5.heap.size = q5 at *
            go_wp2
            go_round
            case rel => exact ⟨j + 1, by omega, by go_num, S6.out⟩
            case measure => simp [intOf]; omega
          · have hjz : ¬ ((j : Int) ≤ (nl : Int)) := by omega
            obtain ⟨o0, o1, o2, o3, o4⟩ := S4.out.opAt (q := q) (x := x) (by simp)
            go_wp2_with fail
            refine Calls.mono (runs_sep S4.out x.c) ?_
            rintro e w7 ⟨rfl, s7⟩
            have S7 := hid s7.swap
            clear s7 S4 o0 o1 o2 o3 o4 cL
            obtain ⟨o0, o1, o2, o3, o4⟩ := S7.out.opAt (q := q) (x := x) (by simp)
            go_wp2_with fail
            refine Calls.mono (rruns_sep S7.out x.c) ?_
            rintro e w8 ⟨rfl, s8⟩
            have S8 := hid s8.swap
            clear s8 S7 o0 o1 o2 o3 o4
            generalize runsN h' x.c = rn at *
            generalize runsB h' x.c = rb at *
            have HLL := hid (lineH_len S8.out.inv x.c x.n)
            generalize hll : lineH h' x.c x.n = LL at *
            have HLE := hid hll
            clear hll
            have hS : w8.drew.cell? ⟨q, 2, none⟩ = some (.int .i64 x.c) ∧ w8.drew.cell? ⟨q, 3, none⟩ = some (.int .i64 x.n) := by
              obtain ⟨_, _, o2, o3, _⟩ := S8.out.drew.opAt (q := q) (x := x) (by simp)
              exact ⟨o2, o3⟩
            go_wp2_with fail
            go_cut [150] from 127 to 150 (fun s150 wx => s150 = .bool false ∧ Sep w r wx [tT pq F3 h', tR kq G3 h'])
            case first =>
              go_region_held3 (fun W => W.cell? ⟨q, 2, none⟩ = some (.int .i64 x.c) ∧ W.cell? ⟨q, 3, none⟩ = some (.int .i64 x.n)) ((first | with_reducible assumption | with_reducible exact hS)) (first | (go_at_call 21; (with_reducible refine Calls.mono (lines_is S8.out.drew x.c x.n HLE.out) ?_); rintro e w9 ⟨ao9, cap9, rfl, s9⟩; have S9 := hid s9.third.swap; have hs9 : w9.cell? ⟨q, 2, none⟩ = some (.int .i64 x.c) ∧ w9.cell? ⟨q, 3, none⟩ = some (.int .i64 x.n) := ⟨(S9.out.opAt (q := q) (x := x) (by simp)).2.2.1, (S9.out.opAt (q := q) (x := x) (by simp)).2.2.2.1⟩; clear s9) | (go_at_call 22; (with_reducible refine Calls.mono (rlines_is S9.out x.c x.n HLE.out) ?_); rintro e w10 ⟨ao10, cap10, rfl, s10⟩; have S10 := hid s10; have hs10 : w10.cell? ⟨q, 2, none⟩ = some (.int .i64 x.c) ∧ w10.cell? ⟨q, 3, none⟩ = some (.int .i64 x.n) := ⟨(S10.out.opAt (q := q) (x := x) (by simp)).2.2.1, (S10.out.opAt (q := q) (x := x) (by simp)).2.2.2.1⟩; clear s10) | (go_at_call 20; (with_reducible refine Calls.mono (nums_is S10.out (u := .slice ao9 LL.length cap9) (v := .slice ao10 LL.length cap10) (A := LL) (B := LL) (by simp) (by simp) HLL.out rfl) ?_); rintro e w11 ⟨rfl, s11⟩; have S11 := hid s11; have hs11 : w11.cell? ⟨q, 2, none⟩ = some (.int .i64 x.c) ∧ w11.cell? ⟨q, 3, none⟩ = some (.int .i64 x.n) := ⟨(S11.out.opAt (q := q) (x := x) (by simp)).2.2.1, (S11.out.opAt (q := q) (x := x) (by simp)).2.2.2.1⟩; clear s11))
              all_goals go_wp2_with fail
              all_goals go_meet
              all_goals exact ⟨rfl, S11.out.drop2.drop2.swap.third.drop2.swap⟩
            case rest =>
              obtain ⟨rfl, s12⟩ := hcut
              have S12 := hid s12
              clear s12 S8
              go_wp2
              go_round
              case rel => exact ⟨n + 1, pq, F3, G3, h', by have := HI.out; omega, by go_num, rfl, S12.out⟩
              case measure => simp [intOf]; have := HI.out; omega
    · have hex : (¬ ((n : Int) < (X.length : Int))) ∨ ((n : Int) < (X.length : Int) ∧ ¬ ((n : Int) < 80)) := by omega
      clear hgo
      generalize hm : X.length = mX at *
      rcases hex with h1 | ⟨h1, h2⟩
      all_goals
        go_wp2_with fail
        refine Calls.mono (fixed_sep S1.out HT.out) ?_
        rintro e w5 ⟨rfl, s5⟩
        have S5 := hid s5
        clear s5
        go_wp2
        go_ret
        exact ⟨rfl, by rw [HR.out]; exact S5.out.low⟩
open Go.ChangeShapes Go.WideShapes Go.ChangeAt Go.RowKit Go.Joins

/-! ### From the walk to the statement -/
set_option maxRecDepth 100000 in
theorem contract (H : Type) (enc : TypeId × Value → H) (W : World) (base : Nat) (args : Array Value) (ds gs : List (DataW H)) (before : List MemPlace)
    (hval : ∀ (j : Nat) t v, Tryd.f3.params[j]? = some t → args[j]? = some v → Value.okWide Tryd.prog W .any base t v)
    (hW : DataW.Whole enc Tryd.prog Tryd.f3.params.toList Rows.threadsDoesSpec.vars false W args.toList ds gs before) (hL : laidMetH Tryd.prog Rows.threadsDoesRow.laid W) :
    Calls Tryd.prog 3 args W fun e W' => ∃ v, e = .returned v ∧ Rows.threadsDoesSpec.post enc Tryd.prog Tryd.f3 false true false false W args v W' := by
  have hW' := hW
  obtain ⟨p, q, hA0, hV, rfl, hfz, hnd⟩ := hW
  have hA : DataW.TrodAll enc Tryd.prog W 0 (fun _ => true) true Tryd.f3.params.toList args.toList ds p := hA0
  rw [Tryd.params3] at hA hval
  obtain ⟨v0, vs0, d0, ds0, p0, q0, hargs, rfl, rfl, h0, r0⟩ := trodAll_cons hA
  obtain ⟨v1, vs1, d1, ds1, p1, q1, rfl, rfl, rfl, h1, r1⟩ := trodAll_cons r0
  obtain ⟨rfl, rfl, rfl⟩ := trodAll_nil r1
  obtain rfl : args = #[v0, v1] := by cases args; simp_all
  obtain ⟨rfl, rfl⟩ := trodVars_none hV
  have k0 := h0
  have lt0 : ∀ x ∈ p0, x.block < W.heap.size := by obtain ⟨m, hm⟩ := k0; exact DataW.trod_lt m _ _ _ hm
  have k1 := h1
  have lt1 : ∀ x ∈ p1, x.block < W.heap.size := by obtain ⟨m, hm⟩ := k1; exact DataW.trod_lt m _ _ _ hm
  obtain ⟨a0, rfl, _, _, w0⟩ := open_int Tryd.underlying3 (hval 0 3 v0 rfl rfl) h0
  obtain ⟨a1, l1, c1, rfl, t1, s1⟩ := open_ops (hval 1 22 v1 rfl rfl) h1
  clear hA0
  refine (walk a0 a1 l1 c1 W (table hL) (bounds_i64 w0) t1 s1).mono fun e W' ⟨he, bel⟩ => ?_
  subst he
  exact ⟨_, rfl, _, _, _, [], _, [], hW', trodAll_mk1 (shut_bool Tryd.underlying4 _), (trodAll_cons_mk (Below.trod laidOut (by kernel_rfl) (of_decide_eq_true (by kernel_rfl)) k0 bel lt0) (trodAll_cons_mk (Below.trod laidOut (by kernel_rfl) (of_decide_eq_true (by kernel_rfl)) k1 bel lt1) trodAll_mk0)), rfl, bel.frame _, fun h => by cases h⟩

set_option maxRecDepth 100000 in
theorem laid_met (os : Os) : laidMet Tryd.prog Rows.threadsDoesRow.laid ((World.doorLaid Tryd.prog 40 os).forCall (fun _ _ => 0) ⟨#[], #[.int .i64 0, .slice none 0 0], []⟩).memory :=
  laidMet_of_run' 8 (by kernel_rfl) (by kernel_rfl)
set_option maxRecDepth 100000 in
theorem reads (os : Os) {H : Type} (enc : TypeId × Value → H) : ∃ places, DataW.whole enc Tryd.prog ((World.doorLaid Tryd.prog 40 os).forCall (fun _ _ => 0) ⟨#[], #[.int .i64 0, .slice none 0 0], []⟩).memory Tryd.f3.params.toList Rows.threadsDoesSpec.vars false (#[.int .i64 0, .slice none 0 0] : Array Value).toList 8 = some ([.lit (.int .i64 0), .nil], [], places) :=
  ⟨[], by kernel_rfl⟩
set_option maxRecDepth 100000 in
set_option maxRecDepth 100000 in
theorem lifted (os : Os) (started : os.Started) (H : Type) (enc : TypeId × Value → H) (F : Stop.Interp) :
    ReturnsInHanded {} Tryd.checked os 3 .any ((OpenSpec.ofChange Rows.threadsDoesSpec).preRow enc Tryd.prog Tryd.f3 Rows.threadsDoesRow.domain false Rows.threadsDoesRow.laid) (((OpenSpec.ofChange Rows.threadsDoesSpec).at F).post enc Tryd.prog Tryd.f3 false true false false) := by
  obtain ⟨places, hx⟩ := reads os enc
  refine returnsInHanded_of_row (C := Tryd.checked) (s := OpenSpec.ofChange Rows.threadsDoesSpec) own started (by kernel_rfl) Tryd.func3
    (witness_row_at (enc := enc) (C := Tryd.checked) false (World.doorLaid Tryd.prog 40 os) #[.int .i64 0, .slice none 0 0] rfl (by kernel_rfl) (by kernel_rfl) (by kernel_rfl)
      (OpenSpec.preRow_of_cond 8 hx (by kernel_rfl) (fun k hk => by cases hk) (by kernel_rfl) (laid_met os))) ?_
  intro W base args ds gs before hval hW _ _ _ hL _ _
  exact contract H enc W base args ds gs before hval hW hL
set_option maxRecDepth 100000 in
theorem said : Rows.ThreadsDoesSaid :=
  OpenClaim.holds_of_cond 3 Tryd.f3 rfl rfl rfl rfl rfl rfl rfl ⟨rfl, rfl, rfl, rfl, rfl⟩ rfl rfl rfl rfl rfl (by kernel_rfl) Tryd.func3 (by kernel_rfl)
    (of_decide_eq_true (by kernel_rfl)) (by unfold Func.isWrapper; first | (rw [if_pos (by decide +kernel)]; kernel_rfl) | (rw [if_neg (by decide +kernel)]; exact ⟨rfl, rfl⟩))
    (fun os started H enc _ F => by rw [OpenClaim.pre_eq_preRow]; exact lifted os started H enc F)
set_option maxRecDepth 100000 in
theorem plain (f : FuncId) (fn : Func) (hf : Tryd.pinned.checked.prog.funcNamed "buttress/buttresslaw10.ThreadsDoes" = some f) (hfn : Tryd.pinned.checked.prog.funcs[f]? = some fn) :
    false = Tryd.pinned.checked.prog.looks [] ∧ ∀ (j : Nat) t, fn.params[j]? = some t → Tryd.pinned.checked.prog.wantsStandIn t = false := by
  obtain rfl : f = 3 := Option.some.inj ((show Tryd.prog.funcNamed "buttress/buttresslaw10.ThreadsDoes" = some 3 by kernel_rfl).symm.trans hf) |>.symm
  obtain rfl : fn = Tryd.f3 := (Option.some.inj (Tryd.func3.symm.trans hfn)).symm
  refine ⟨by kernel_rfl, fun j t ht => ?_⟩
  rw [Tryd.params3] at ht
  have hm : t ∈ [3, 22] := by simpa using Array.mem_of_getElem? ht
  have hall : ([3, 22].all fun u => !Tryd.prog.wantsStandIn u) = true := by kernel_rfl
  exact (show Tryd.prog.wantsStandIn t = false by simpa using List.all_eq_true.1 hall t hm)
end Go.Proofs.YtchamgecalfmpaaDoor.threadsDoes
namespace Go.Proofs.YtchamgecalfmpaaDoor
/-- THE CARD. -/
theorem threadsDoes_card : Rows.ThreadsDoesCardSaid :=
  Claim7.holds_tied_plain_at .later [] _ _ _ _ threadsDoes.said (fun _ h => by cases h) (by kernel_rfl) (fun _ h => by cases h) threadsDoes_row_tie rfl ⟨rfl, rfl⟩ (by kernel_rfl) rfl threadsDoes.plain (by kernel_rfl)
#print axioms threadsDoes_card
end Go.Proofs.YtchamgecalfmpaaDoor

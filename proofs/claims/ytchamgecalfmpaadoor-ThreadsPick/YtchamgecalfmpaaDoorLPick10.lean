/-
  ThreadsPick: behind Pick nobody who is ready at a core has a greater priority than who runs there; if one is ready one runs; at each core at most one runs, and it is of that core; the variable words.halves starts as the program's text lays it (the card ties it).
-/
import Derived.Test.YtchamgecalfmpaaDoorHDone
import Derived.Deep.Cut
import Derived.Deep.CutRange
namespace Go.Proofs.YtchamgecalfmpaaDoor.threadsPick
open Go.RowKit Go.Deep Go.Shelf
theorem gen_lens (h : Hs) (i : Nat) (x : Td) : (genH h i x).L.length = h.L.length ∧ (genH h i x).Q.length = h.Q.length := ⟨List.length_set, genQ_len _ _ _ _⟩
theorem yield_len (h : Hs) (c : Int) : (yieldH h c).L.length = h.L.length ∧ (yieldH h c).Q.length = h.Q.length := by
  unfold yieldH
  split
  · exact ⟨rfl, rfl⟩
  · exact ⟨(pick_len _ _).1.trans (gen_lens _ _ _).1, (pick_len _ _).2.trans (gen_lens _ _ _).2⟩
theorem done_len (h : Hs) (x : Oc) : (doneH h x).L.length = h.L.length ∧ (doneH h x).Q.length = h.Q.length := by
  have hs : ∀ (b : Prop) [Decidable b] (a : Hs), (a.L.length = h.L.length ∧ a.Q.length = h.Q.length) → ((if b then a else h).L.length = h.L.length ∧ (if b then a else h).Q.length = h.Q.length) := fun b _ a ha => by
    split
    · exact ha
    · exact ⟨rfl, rfl⟩
  unfold doneH
  split
  · exact hs _ _ (gen_lens _ _ _)
  split
  · exact hs _ _ (gen_lens _ _ _)
  split
  · exact hs _ _ (gen_lens _ _ _)
  split
  · exact hs _ _ (gen_lens _ _ _)
  split
  · unfold coreH
    split
    · split
      · exact ⟨rfl, rfl⟩
      · exact gen_lens _ _ _
    · exact ⟨rfl, rfl⟩
  split
  · exact pick_len _ _
  split
  · exact yield_len _ _
  split
  · unfold tickH
    split
    · exact ⟨rfl, rfl⟩
    · split
      · exact yield_len _ _
      · exact ⟨List.length_set, rfl⟩
  · exact ⟨rfl, rfl⟩
/-- What the look over all threads finds: j of them, running and ready so far. -/
def Look (h : Hs) (C : Nat) (j rn : Nat) (rd : Bool) : Prop := (runsO h (C : Int) = none ∧ rn = 0 ∧ rd = false) ∨ ∃ i0, runsO h (C : Int) = some i0 ∧ rn = if i0 < j then 1 else 0
/-- One more of them: another core's, or one that neither runs nor is ready; who runs; or one that is ready, with no greater priority than who runs. -/
theorem look_cases {h : Hs} (v : Inv h) {C j rn : Nat} {rd : Bool} (hp : (runsO h (C : Int) = none ∧ ∀ (j : Nat) (z : Td), h.L[j]? = some z → z.c = C → z.st ≠ 1) ∨ ∃ i x, runsO h (C : Int) = some i ∧ h.L[i]? = some x ∧ x.st = 2 ∧ x.c = C ∧ ∀ (j : Nat) (z : Td), h.L[j]? = some z → z.c = C → z.st = 1 → z.p ≤ x.p) (hj : j < h.L.length) (lk : Look h C j rn rd) :
    ((thr h j).c ≠ C ∧ Look h C (j + 1) rn rd) ∨ ((thr h j).c = C ∧ (thr h j).st ≠ 1 ∧ (thr h j).st ≠ 2 ∧ Look h C (j + 1) rn rd) ∨
    ((thr h j).c = C ∧ (thr h j).st = 2 ∧ runsN h C = j ∧ runsB h C = true ∧ rn = 0 ∧ Look h C (j + 1) 1 rd) ∨
    ((thr h j).c = C ∧ (thr h j).st = 1 ∧ runsB h C = true ∧ (thr h j).p ≤ (getT h (runsN h C)).p ∧ Look h C (j + 1) rn true) := by
  have ej := thr_at hj
  have next : ∀ i0, runsO h (C : Int) = some i0 → j ≠ i0 → ∀ rd', rn = (if i0 < j then 1 else 0) → Look h C (j + 1) rn rd' := fun i0 hr hne rd' hrn => .inr ⟨i0, hr, by rw [hrn]; by_cases e : i0 < j <;> simp [e] <;> omega⟩
  rcases hp with ⟨hr, hno⟩ | ⟨i, x, hr, hx, hx2, hxc, hmax⟩
  · have lk' : Look h C (j + 1) rn rd := by
      rcases lk with ⟨h1, h2, h3⟩ | ⟨i0, h1, _⟩
      · exact .inl ⟨h1, h2, h3⟩
      · rw [hr] at h1
        cases h1
    by_cases hc : (thr h j).c = C
    · exact .inr (.inl ⟨hc, hno j _ ej hc, fun e => runs_none hr j _ ej e (by rw [hc]), lk'⟩)
    · exact .inl ⟨hc, lk'⟩
  · obtain ⟨n1, n2⟩ := runsN_some hr
    have hi := (List.getElem?_eq_some_iff.1 hx).1
    have hrn : rn = if i < j then 1 else 0 := by
      rcases lk with ⟨h1, _⟩ | ⟨i0, h1, h2⟩
      · rw [hr] at h1
        cases h1
      · rw [hr] at h1
        cases h1
        exact h2
    by_cases hji : j = i
    · subst hji
      rw [ej] at hx
      cases hx
      have h0 : rn = 0 := by rw [hrn]; simp
      exact .inr (.inr (.inl ⟨hxc, hx2, n1, n2, h0, .inr ⟨j, hr, by simp⟩⟩))
    · have hn2 : (thr h j).c = C → (thr h j).st ≠ 2 := fun hc e => hji (v.one j i _ _ ej hx e hx2 (by rw [hc, hxc]))
      by_cases hc : (thr h j).c = C
      · by_cases h1 : (thr h j).st = 1
        · refine .inr (.inr (.inr ⟨hc, h1, n2, ?_, next i hr hji true hrn⟩))
          have hT : isT h (i : Int) := by unfold isT; omega
          have : getT h (runsN h C) = x := by
            rw [n1]
            unfold getT
            rw [if_pos hT, Int.toNat_natCast, thr_of hx]
          rw [this]
          exact hmax j _ ej hc h1
        · exact .inr (.inl ⟨hc, h1, hn2 hc, next i hr hji rd hrn⟩)
      · exact .inl ⟨hc, next i hr hji rd hrn⟩
/-- Behind all of them. -/
theorem look_end {h : Hs} {C rn : Nat} {rd : Bool} (lk : Look h C h.L.length rn rd) : (runsB h C = true ∧ rn = 1) ∨ (runsB h C = false ∧ rn = 0 ∧ rd = false) := by
  rcases lk with ⟨h1, h2, h3⟩ | ⟨i0, h1, h2⟩
  · exact .inr ⟨(runsN_none h1).2, h2, h3⟩
  · obtain ⟨_, _, _, hi, _⟩ := runs_some h1
    exact .inl ⟨(runsN_some h1).2, by rw [h2, if_pos hi]⟩
theorem get_in {h : Hs} {j : Nat} (hj : j < h.L.length) : getT h j = thr h j ∧ getE h j = 0 := by
  have hT : isT h (j : Int) := by unfold isT; omega
  exact ⟨by unfold getT; rw [if_pos hT, Int.toNat_natCast], by unfold getE; rw [if_pos hT]⟩
set_option maxHeartbeats 16000000 in
set_option maxRecDepth 100000 in
theorem walk (cores core : Int) (ao : Option Addr) (X : List Oc) (cap : Nat) (w : World) (ht : Tab w) (_ : -9223372036854775808 ≤ cores ∧ cores ≤ 9223372036854775807) (_ : -9223372036854775808 ≤ core ∧ core ≤ 9223372036854775807) (hX : Ops w ao X) (_hxl : X.length ≤ 9223372036854775807) :
    Calls Tryd.prog 4 #[.int .i64 cores, .int .i64 core, .slice ao X.length cap] w fun e w' => e = .returned (.bool true) ∧ Below w.heap.size w w' := by
  have HT := hid (Sep.tabs ht)
  clear ht
  obtain ⟨m, hm, hmask7⟩ := mask7 cores
  obtain ⟨y, hy, hmask6⟩ := mask64k core
  obtain ⟨N, hN⟩ : ∃ N : Nat, N = 1 + m := ⟨_, rfl⟩
  have hN1 : 1 ≤ N := by omega
  have hN8 : N ≤ 8 := by omega
  have hw : IntKind.i64.wrap (1 + (m : Int)) = (N : Int) := by
    unfold IntKind.wrap
    simp [IntKind.bits, IntKind.signed]
    omega
  have hw2 : 1 + (m : Int) = (N : Int) := by omega
  have HX := hid hX
  have d2 : (y : Int).tmod (N : Int) = ((y % N : Nat) : Int) := by rw [Int.tmod_eq_emod_of_nonneg (by omega)]; rfl
  have d4 : (y : Int) % (N : Int) = ((y % N : Nat) : Int) := rfl
  have hN0 : ¬ ((N : Int) = 0) := by omega
  have HC := hid (Nat.mod_lt y (show 0 < N by omega))
  clear hN hm hX hy
  generalize y % N = C at *
  go_enter Tryd.func4, Tryd.ntmps4
  go_wp2_with fail
  refine Calls.mono (newT_sep (sep_nil w) N hN1 hN8) ?_
  rintro e w1 ⟨p, F, rfl, s1⟩
  have S1 := hid s1
  clear s1
  generalize hr : w.heap.size = r at *
  have HR := hid hr
  clear hr
  go_wp2_with fail
  go_loopw [10, 11, 12, 13, 14] (fun s10 s11 _ _ _ wr => ∃ (k : Nat) (F : Nat → Prop) (h : Hs), k ≤ 60 ∧ s11 = .int .i64 k ∧ s10 = .int .i64 h.L.length ∧ h.L.length ≤ k ∧ h.Q.length = N ∧ Sep w r wr [tT p F h]) (fun _ s11 _ _ _ _ => 60 - (intOf s11).toNat)
  case atStart => exact ⟨0, F, newH N, by omega, rfl, rfl, by simp [newH], List.length_replicate, S1.out⟩
  case round =>
    clear S1
    obtain ⟨k, G, h, hk, rfl, rfl, hL, hQ, s1⟩ := hrel
    have S1 := hid s1
    have HLQ := hid (And.intro hL hQ)
    clear s1 hL hQ
    by_cases hgo : k < X.length ∧ k < 60
    · obtain ⟨hlt, h60⟩ := hgo
      obtain ⟨fx, b, a, rfl, c0, c1, c2, c3, c4⟩ := Ops.at (SeeK.below HX.out S1.out.low (by rw [HR.out]; exact Nat.le_refl _)) (List.getElem?_eq_getElem hlt)
      generalize hx : X[k] = x at *
      have HI := hid h60
      have S2 := hid (S1.out.box (objO x)).swap
      clear fx hx
      generalize hn : X.length = n at *
      have hltz : (k : Int) < (n : Int) := by omega
      have h60z : (k : Int) < 60 := by omega
      by_cases hk0 : x.k = 0
      · obtain ⟨xk, xi, xc, xn, xv⟩ := x
        simp only at hk0
        subst hk0
        simp only at c0 c1 c2 c3 c4
        go_wp2_with fail
        refine Calls.mono (make_sep S2.out xn xc) ?_
        rintro e w2 ⟨rfl, F2, s2⟩
        have S3 := hid s2.drop2
        clear s2 S2 S1 c0 c1 c2 c3 c4
        rcases makeE_cases h xn xc with ⟨e0, _, _, _, hl64⟩ | ⟨e0, _⟩ | ⟨e0, _⟩
        · have HM : Hid ((makeH h xn xc).L.length = h.L.length + 1 ∧ (makeH h xn xc).Q.length = h.Q.length) := by
            show (makeH h xn xc).L.length = h.L.length + 1 ∧ (makeH h xn xc).Q.length = h.Q.length
            unfold makeH
            rw [if_pos e0]
            simp
          rw [e0]
          generalize makeN h xn xc = mn at *
          have hl64' : (h.L.length : Int) < 64 := by omega
          clear e0
          generalize hnl : h.L.length = nl at *
          go_wp2
          go_round
          case rel => exact ⟨k + 1, F2, _, by have := HI.out; omega, by go_num, by rw [HM.out.1]; go_num, by rw [HM.out.1]; have := HLQ.out.1; omega, by rw [HM.out.2]; exact HLQ.out.2, S3.out⟩
          case measure => simp [intOf]; have := HI.out; omega
        · have HM : Hid (makeH h xn xc = h) := by
            show makeH h xn xc = h
            unfold makeH
            rw [e0]
            rfl
          rw [e0]
          generalize makeN h xn xc = mn at *
          clear e0
          go_wp2
          go_round
          case rel => exact ⟨k + 1, F2, _, by have := HI.out; omega, by go_num, by rw [HM.out], by rw [HM.out]; have := HLQ.out.1; omega, by rw [HM.out]; exact HLQ.out.2, S3.out⟩
          case measure => simp [intOf]; have := HI.out; omega
        · have HM : Hid (makeH h xn xc = h) := by
            show makeH h xn xc = h
            unfold makeH
            rw [e0]
            rfl
          rw [e0]
          generalize makeN h xn xc = mn at *
          clear e0
          go_wp2
          go_round
          case rel => exact ⟨k + 1, F2, _, by have := HI.out; omega, by go_num, by rw [HM.out], by rw [HM.out]; have := HLQ.out.1; omega, by rw [HM.out]; exact HLQ.out.2, S3.out⟩
          case measure => simp [intOf]; have := HI.out; omega
      · have e0 : (x.k == 0) = false := by simpa using hk0
        clear hk0
        go_wp2_with fail
        refine Calls.mono (done_sep S2.out HT.out x) ?_
        rintro e w2 ⟨rfl, F2, s2⟩
        have HM := hid (done_len h x)
        have S3 := hid s2.drop2
        clear s2 S2 S1 c0 c1 c2 c3 c4
        go_wp2
        go_round
        case rel => exact ⟨k + 1, F2, _, by have := HI.out; omega, by go_num, by rw [HM.out.1], by rw [HM.out.1]; have := HLQ.out.1; omega, by rw [HM.out.2]; exact HLQ.out.2, S3.out⟩
        case measure => simp [intOf]; have := HI.out; omega
    · have hex : (¬ ((k : Int) < (X.length : Int))) ∨ ((k : Int) < (X.length : Int) ∧ ¬ ((k : Int) < 60)) := by omega
      have HPF := hid (pick_facts S1.out.inv (c := C) (by rw [HLQ.out.2]; exact HC.out))
      have HIV := hid (inv_pick S1.out.inv C)
      have HPL := hid (pick_len h C)
      clear hgo
      generalize hn : X.length = nX at *
      rcases hex with h1 | ⟨h1, h2⟩
      all_goals
        go_wp2_with fail
        refine Calls.mono (pick_is S1.out HT.out C rfl rfl rfl) ?_
        rintro e w2 ⟨rfl, F2, s2⟩
        have S2 := hid s2
        clear s2 S1
        have hml : h.L.length = (pickH h C).L.length := HPL.out.1.symm
        rw [hml]
        generalize hh : pickH h C = h' at *
        have hlk : Look h' C 0 0 false := by
          rcases HPF.out with ⟨f1, _⟩ | ⟨i, x, f1, _⟩
          · exact .inl ⟨f1, rfl, rfl⟩
          · exact .inr ⟨i, f1, by simp⟩
        have HLK := hid hlk
        have HL60 : Hid (h'.L.length ≤ 60) := by
          have := HLQ.out.1
          show h'.L.length ≤ 60
          omega
        clear hh hml hlk HPL HLQ
        generalize hnl : h'.L.length = nl at *
        have HNL := hid hnl
        clear hnl
        have hnl60 := HL60.out
        generalize hrn : runsN h' C = id0 at *
        generalize hrb : runsB h' C = is0 at *
        have HRN := hid (And.intro hrn hrb)
        clear hrn hrb
        go_wp2_with fail
        go_loopw [18, 19, 20, 21, 22, 23, 24] (fun s18 s19 s20 _ _ _ _ wr => ∃ (j rn : Nat) (rd : Bool), j ≤ nl ∧ rn ≤ 1 ∧ s20 = .int .i64 j ∧ s18 = .int .i64 rn ∧ s19 = .bool rd ∧ Look h' C j rn rd ∧ Sep w r wr [tT p F2 h']) (fun _ _ s20 _ _ _ _ _ => nl - (intOf s20).toNat)
        case atStart => exact ⟨0, 0, false, by omega, by omega, rfl, rfl, rfl, HLK.out, S2.out⟩
        case round =>
          clear S2 HLK
          obtain ⟨j, rn, rd, hj, hrn1, rfl, rfl, rfl, lk, s1⟩ := hrel
          have S1 := hid s1
          clear s1
          by_cases hlt : j < nl
          · have hltz : (j : Int) < (nl : Int) := by omega
            have HI := hid hlt
            have hjl : j < h'.L.length := by rw [HNL.out]; exact hlt
            obtain ⟨g1, g2⟩ := get_in hjl
            have LC := hid (look_cases HIV.out HPF.out hjl lk)
            rw [HRN.out.1, HRN.out.2] at LC
            clear lk hjl hlt
            go_wp2_with fail
            refine Calls.mono (get_agg S1.out j g1 g2) ?_
            rintro e w3 ⟨rfl, s3⟩
            generalize hxx : thr h' j = x at *
            have S3 := hid (s3.box (objT x)).swap
            clear s3 g1 g2 hxx S1
            go_wp2_with fail
            refine Calls.mono (get_agg S3.out id0 rfl rfl) ?_
            rintro e w4 ⟨rfl, s4⟩
            generalize hyy : getT h' id0 = y at *
            have HYY := hid hyy
            generalize getE h' id0 = ye at *
            have S4 := hid (s4.box (objT y))
            have q0 := (s4.atT (q := w3.heap.size) (x := x) (by simp)).cells
            have p0 := cell_al q0.1 (objT y)
            have p1 := cell_al q0.2.1 (objT y)
            have p2 := cell_al q0.2.2.1 (objT y)
            simp only [Nat.zero_add, objT] at p0 p1 p2
            have S5 := hid (S4.out.drop.drop2)
            clear s4 q0 S3 hyy
            generalize w3.heap.size = q3 at *
            rcases LC.out with ⟨hc, lk⟩ | ⟨hc, n1, n2, lk⟩ | ⟨hc, hs, hid0, his, hr0, lk⟩ | ⟨hc, hs, his, hpr, lk⟩
            · have LK := hid lk
              have e1 : ((x.c : Int) == (C : Int)) = false := by rw [beq_eq_false_iff_ne]; omega
              have e2 : ¬ ((x.c : Int) = (C : Int)) := by omega
              have e3 : ¬ (x.c = C) := hc
              clear hc lk LC
              go_wp2
              go_round
              case rel => exact ⟨j + 1, rn, rd, by have := HI.out; omega, hrn1, by go_num, rfl, rfl, LK.out, S5.out⟩
              case measure => simp [intOf]; have := HI.out; omega
            · have LK := hid lk
              have e4 : (x.st == 1) = false := by simpa using n1
              have e5 : (x.st == 2) = false := by simpa using n2
              clear lk LC n1 n2
              subst hc
              cases rd
              · go_wp2
                go_round
                case rel => exact ⟨j + 1, rn, _, by have := HI.out; omega, hrn1, by go_num, rfl, rfl, LK.out, S5.out⟩
                case measure => simp [intOf]; have := HI.out; omega
              · go_wp2
                go_round
                case rel => exact ⟨j + 1, rn, _, by have := HI.out; omega, hrn1, by go_num, rfl, rfl, LK.out, S5.out⟩
                case measure => simp [intOf]; have := HI.out; omega
            · have LK := hid lk
              clear lk LC
              subst hc
              subst hid0
              subst his
              subst hr0
              rw [hs] at p0
              clear hs
              cases rd
              · go_wp2
                go_round
                case rel => exact ⟨j + 1, 1, _, by have := HI.out; omega, by omega, by go_num, by go_num, rfl, LK.out, S5.out⟩
                case measure => simp [intOf]; have := HI.out; omega
              · go_wp2
                go_round
                case rel => exact ⟨j + 1, 1, _, by have := HI.out; omega, by omega, by go_num, by go_num, rfl, LK.out, S5.out⟩
                case measure => simp [intOf]; have := HI.out; omega
            · have LK := hid lk
              clear lk LC
              subst hc
              subst his
              rw [hs] at p0
              have e7 : decide (y.p < x.p) = false := by rw [decide_eq_false_iff_not]; omega
              have e6 : decide ((y.p : Int) < (x.p : Int)) = false := by rw [decide_eq_false_iff_not]; omega
              clear hs
              cases rd
              · go_wp2
                go_round
                case rel => exact ⟨j + 1, rn, _, by have := HI.out; omega, by omega, by go_num, rfl, rfl, LK.out, S5.out⟩
                case measure => simp [intOf]; have := HI.out; omega
              · go_wp2
                go_round
                case rel => exact ⟨j + 1, rn, _, by have := HI.out; omega, by omega, by go_num, rfl, rfl, LK.out, S5.out⟩
                case measure => simp [intOf]; have := HI.out; omega
          · obtain rfl : j = nl := by omega
            rw [← HNL.out] at lk
            have LE := look_end lk
            rw [HRN.out.2] at LE
            clear lk hlt
            have hltz : ¬ ((j : Int) < (j : Int)) := by omega
            rcases LE with ⟨hb1, hr1⟩ | ⟨hb1, hr1, hd1⟩
            · subst hb1
              subst hr1
              cases rd
              all_goals
                go_wp2_with fail
                refine Calls.mono (fixed_sep S1.out HT.out) ?_
                rintro e w5 ⟨rfl, s5⟩
                have S5 := hid s5
                clear s5
                go_wp2
                go_ret
                exact ⟨rfl, by rw [HR.out]; exact S5.out.low⟩
            · subst hb1
              subst hr1
              subst hd1
              go_wp2_with fail
              refine Calls.mono (fixed_sep S1.out HT.out) ?_
              rintro e w5 ⟨rfl, s5⟩
              have S5 := hid s5
              clear s5
              go_wp2
              go_ret
              exact ⟨rfl, by rw [HR.out]; exact S5.out.low⟩
open Go.ChangeShapes Go.WideShapes Go.ChangeAt Go.RowKit Go.Joins

/-! ### From the walk to the statement -/
set_option maxRecDepth 100000 in
theorem contract (H : Type) (enc : TypeId × Value → H) (W : World) (base : Nat) (args : Array Value) (ds gs : List (DataW H)) (before : List MemPlace)
    (hval : ∀ (j : Nat) t v, Tryd.f4.params[j]? = some t → args[j]? = some v → Value.okWide Tryd.prog W .any base t v)
    (hW : DataW.Whole enc Tryd.prog Tryd.f4.params.toList Rows.threadsPickSpec.vars false W args.toList ds gs before) (hL : laidMetH Tryd.prog Rows.threadsPickRow.laid W) :
    Calls Tryd.prog 4 args W fun e W' => ∃ v, e = .returned v ∧ Rows.threadsPickSpec.post enc Tryd.prog Tryd.f4 false true false false W args v W' := by
  have hW' := hW
  obtain ⟨p, q, hA0, hV, rfl, hfz, hnd⟩ := hW
  have hA : DataW.TrodAll enc Tryd.prog W 0 (fun _ => true) true Tryd.f4.params.toList args.toList ds p := hA0
  rw [Tryd.params4] at hA hval
  obtain ⟨v0, vs0, d0, ds0, p0, q0, hargs, rfl, rfl, h0, r0⟩ := trodAll_cons hA
  obtain ⟨v1, vs1, d1, ds1, p1, q1, rfl, rfl, rfl, h1, r1⟩ := trodAll_cons r0
  obtain ⟨v2, vs2, d2, ds2, p2, q2, rfl, rfl, rfl, h2, r2⟩ := trodAll_cons r1
  obtain ⟨rfl, rfl, rfl⟩ := trodAll_nil r2
  obtain rfl : args = #[v0, v1, v2] := by cases args; simp_all
  obtain ⟨rfl, rfl⟩ := trodVars_none hV
  have k0 := h0
  have lt0 : ∀ x ∈ p0, x.block < W.heap.size := by obtain ⟨m, hm⟩ := k0; exact DataW.trod_lt m _ _ _ hm
  have k1 := h1
  have lt1 : ∀ x ∈ p1, x.block < W.heap.size := by obtain ⟨m, hm⟩ := k1; exact DataW.trod_lt m _ _ _ hm
  have k2 := h2
  have lt2 : ∀ x ∈ p2, x.block < W.heap.size := by obtain ⟨m, hm⟩ := k2; exact DataW.trod_lt m _ _ _ hm
  obtain ⟨a0, rfl, _, _, w0⟩ := open_int Tryd.underlying3 (hval 0 3 v0 rfl rfl) h0
  obtain ⟨a1, rfl, _, _, w1⟩ := open_int Tryd.underlying3 (hval 1 3 v1 rfl rfl) h1
  obtain ⟨a2, l2, c2, rfl, t2, s2⟩ := open_ops (hval 2 22 v2 rfl rfl) h2
  clear hA0
  refine (walk a0 a1 a2 l2 c2 W (table hL) (bounds_i64 w0) (bounds_i64 w1) t2 s2).mono fun e W' ⟨he, bel⟩ => ?_
  subst he
  exact ⟨_, rfl, _, _, _, [], _, [], hW', trodAll_mk1 (shut_bool Tryd.underlying4 _), (trodAll_cons_mk (Below.trod laidOut (by kernel_rfl) (of_decide_eq_true (by kernel_rfl)) k0 bel lt0) (trodAll_cons_mk (Below.trod laidOut (by kernel_rfl) (of_decide_eq_true (by kernel_rfl)) k1 bel lt1) (trodAll_cons_mk (Below.trod laidOut (by kernel_rfl) (of_decide_eq_true (by kernel_rfl)) k2 bel lt2) trodAll_mk0))), rfl, bel.frame _, fun h => by cases h⟩

set_option maxRecDepth 100000 in
theorem laid_met (os : Os) : laidMet Tryd.prog Rows.threadsPickRow.laid ((World.doorLaid Tryd.prog 40 os).forCall (fun _ _ => 0) ⟨#[], #[.int .i64 0, .int .i64 0, .slice none 0 0], []⟩).memory :=
  laidMet_of_run' 8 (by kernel_rfl) (by kernel_rfl)
set_option maxRecDepth 100000 in
theorem reads (os : Os) {H : Type} (enc : TypeId × Value → H) : ∃ places, DataW.whole enc Tryd.prog ((World.doorLaid Tryd.prog 40 os).forCall (fun _ _ => 0) ⟨#[], #[.int .i64 0, .int .i64 0, .slice none 0 0], []⟩).memory Tryd.f4.params.toList Rows.threadsPickSpec.vars false (#[.int .i64 0, .int .i64 0, .slice none 0 0] : Array Value).toList 8 = some ([.lit (.int .i64 0), .lit (.int .i64 0), .nil], [], places) :=
  ⟨[], by kernel_rfl⟩
set_option maxRecDepth 100000 in
set_option maxRecDepth 100000 in
theorem lifted (os : Os) (started : os.Started) (H : Type) (enc : TypeId × Value → H) (F : Stop.Interp) :
    ReturnsInHanded {} Tryd.checked os 4 .any ((OpenSpec.ofChange Rows.threadsPickSpec).preRow enc Tryd.prog Tryd.f4 Rows.threadsPickRow.domain false Rows.threadsPickRow.laid) (((OpenSpec.ofChange Rows.threadsPickSpec).at F).post enc Tryd.prog Tryd.f4 false true false false) := by
  obtain ⟨places, hx⟩ := reads os enc
  refine returnsInHanded_of_row (C := Tryd.checked) (s := OpenSpec.ofChange Rows.threadsPickSpec) own started (by kernel_rfl) Tryd.func4
    (witness_row_at (enc := enc) (C := Tryd.checked) false (World.doorLaid Tryd.prog 40 os) #[.int .i64 0, .int .i64 0, .slice none 0 0] rfl (by kernel_rfl) (by kernel_rfl) (by kernel_rfl)
      (OpenSpec.preRow_of_cond 8 hx (by kernel_rfl) (fun k hk => by cases hk) (by kernel_rfl) (laid_met os))) ?_
  intro W base args ds gs before hval hW _ _ _ hL _ _
  exact contract H enc W base args ds gs before hval hW hL
set_option maxRecDepth 100000 in
theorem said : Rows.ThreadsPickSaid :=
  OpenClaim.holds_of_cond 4 Tryd.f4 rfl rfl rfl rfl rfl rfl rfl ⟨rfl, rfl, rfl, rfl, rfl⟩ rfl rfl rfl rfl rfl (by kernel_rfl) Tryd.func4 (by kernel_rfl)
    (of_decide_eq_true (by kernel_rfl)) (by unfold Func.isWrapper; first | (rw [if_pos (by decide +kernel)]; kernel_rfl) | (rw [if_neg (by decide +kernel)]; exact ⟨rfl, rfl⟩))
    (fun os started H enc _ F => by rw [OpenClaim.pre_eq_preRow]; exact lifted os started H enc F)
set_option maxRecDepth 100000 in
theorem plain (f : FuncId) (fn : Func) (hf : Tryd.pinned.checked.prog.funcNamed "buttress/buttresslaw10.ThreadsPick" = some f) (hfn : Tryd.pinned.checked.prog.funcs[f]? = some fn) :
    false = Tryd.pinned.checked.prog.looks [] ∧ ∀ (j : Nat) t, fn.params[j]? = some t → Tryd.pinned.checked.prog.wantsStandIn t = false := by
  obtain rfl : f = 4 := Option.some.inj ((show Tryd.prog.funcNamed "buttress/buttresslaw10.ThreadsPick" = some 4 by kernel_rfl).symm.trans hf) |>.symm
  obtain rfl : fn = Tryd.f4 := (Option.some.inj (Tryd.func4.symm.trans hfn)).symm
  refine ⟨by kernel_rfl, fun j t ht => ?_⟩
  rw [Tryd.params4] at ht
  have hm : t ∈ [3, 3, 22] := by simpa using Array.mem_of_getElem? ht
  have hall : ([3, 3, 22].all fun u => !Tryd.prog.wantsStandIn u) = true := by kernel_rfl
  exact (show Tryd.prog.wantsStandIn t = false by simpa using List.all_eq_true.1 hall t hm)
end Go.Proofs.YtchamgecalfmpaaDoor.threadsPick
namespace Go.Proofs.YtchamgecalfmpaaDoor
/-- THE CARD. -/
theorem threadsPick_card : Rows.ThreadsPickCardSaid :=
  Claim7.holds_tied_plain_at .later [] _ _ _ _ threadsPick.said (fun _ h => by cases h) (by kernel_rfl) (fun _ h => by cases h) threadsPick_row_tie rfl ⟨rfl, rfl⟩ (by kernel_rfl) rfl threadsPick.plain (by kernel_rfl)
#print axioms threadsPick_card
end Go.Proofs.YtchamgecalfmpaaDoor

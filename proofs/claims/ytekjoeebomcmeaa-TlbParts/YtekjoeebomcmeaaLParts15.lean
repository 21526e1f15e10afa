/-
  TlbParts: all lines of a space go, and no other ones; so those of a frame; no condition.
-/
import Derived.Test.YtekjoeebomcmeaaYLaw
import Derived.Test.YtekjoeebomcmeaaYPure
import Derived.Deep.Cut
import Derived.Deep.CutRange
namespace Go.Proofs.Ytekjoeebomcmeaa.tlbParts
open Go.RowKit Go.Deep Go.Shelf
theorem less_next (q : Lr → Bool) {S : St} {j : Nat} {y : Lr} (h : S[j]? = some y) : lessS q (S.take (j + 1)) = if q y = true then lessS q (S.take j) else lessS q (S.take j) ++ [y] := by
  unfold lessS
  rw [List.take_add_one, h, List.filter_append]
  cases hq : q y <;> simp [hq]
theorem less_short (q : Lr → Bool) {S : St} (j : Nat) (h : S.length ≤ 16) : (lessS q (S.take j)).length ≤ 16 := by
  have h1 := less_le q (S.take j)
  rw [List.length_take] at h1
  omega
set_option maxHeartbeats 8000000 in
set_option maxRecDepth 100000 in
theorem walk (room : Int) (ao : Option Addr) (X : St) (cap : Nat) (x : Lr) (w : World) (_hr : I64 room) (hX : SeeL w ao X) (_hxl : X.length ≤ 9223372036854775807) (_hx : True) :
    Calls Try.prog 7 #[.int .i64 room, .slice ao X.length cap, encL x] w fun e w' => e = .returned (.bool true) ∧ Below w.heap.size w w' := by
  obtain ⟨m, hm, hmask⟩ := mask15 room
  obtain ⟨N, hN⟩ : ∃ N : Nat, N = 1 + m := ⟨_, rfl⟩
  have hN1 : 1 ≤ N := by omega
  have hN16 : N ≤ 16 := by omega
  have hw : IntKind.i64.wrap (1 + (m : Int)) = (N : Int) := by
    unfold IntKind.wrap
    simp [IntKind.bits, IntKind.signed]
    omega
  have hw2 : 1 + (m : Int) = (N : Int) := by omega
  have HX := hid hX
  clear hN hm hX
  simp only [encL]
  go_enter Try.func7, Try.ntmps7
  go_wp2_with fail
  have hb := (sep_nil w).box (objL x)
  refine Calls.mono (new_sep hb hN1 (by omega)) ?_
  rintro e w1 ⟨p, rfl, s1⟩
  have S1 := hid s1
  clear s1 hb
  generalize hr : w.heap.size = r at *
  have HR := hid hr
  clear hr
  go_wp2_with fail
  go_loopw [9] (fun s9 wr => ∃ (i : Nat) (S : St) (v : Value), i ≤ 60 ∧ s9 = .int .i64 i ∧ Sep w r wr [tbT kP N p v S, blk r (objL x)]) (fun s9 _ => 60 - (intOf s9).toNat)
  case atStart => exact ⟨0, [], _, by omega, rfl, S1.out⟩
  case round =>
    clear S1
    obtain ⟨i, S, v, hi, rfl, s1⟩ := hrel
    have S1 := hid s1
    by_cases hgo : i < X.length ∧ i < 60
    · obtain ⟨hlt, h60⟩ := hgo
      obtain ⟨b, o, rfl, -, hat⟩ := (HX.out.from HR.out s1.low) i _ (List.getElem?_eq_getElem hlt)
      generalize X[i] = y at *
      obtain ⟨c0, c1, c2, c3⟩ := hat.cells
      clear s1 hat
      generalize hn : X.length = n at *
      have hltz : (i : Int) < (n : Int) := by omega
      have h60z : (i : Int) < 60 := by omega
      go_wp2_with fail
      refine Calls.mono (fill_sep S1.out y) ?_
      rintro e w2 ⟨rfl, v2, s2⟩
      have S2 := hid s2
      clear s2 S1
      go_wp2
      go_round
      case rel => exact ⟨i + 1, _, _, by omega, by go_num, S2.out⟩
      case measure => simp [intOf]; omega
    · have hex : (¬ ((i : Int) < (X.length : Int))) ∨ ((i : Int) < (X.length : Int) ∧ ¬ ((i : Int) < 60)) := by omega
      have hS16 : S.length ≤ 16 := by have := s1.good.le; omega
      clear hgo s1
      generalize hn : X.length = nX at *
      obtain ⟨sn, hsn⟩ : ∃ sn, S.length = sn := ⟨_, rfl⟩
      have HSN := hid hsn
      rw [hsn] at hS16
      clear hsn
      rcases hex with h | ⟨h, h2⟩
      all_goals
        go_wp2_with fail
        refine Calls.mono (lines_is S1.out HSN.out) ?_
        rintro e w2 ⟨a2, k2, rfl, s2⟩
        have S2 := hid s2
        clear s2 S1
        go_wp2_with fail
        refine Calls.mono (copy_sep S2.out) ?_
        rintro e w3 ⟨p2, v2, rfl, s3⟩
        have s4 := Sep.made (E := elL) (Sep.made (E := elL) s3)
        have e9 : (w3.alloc (.cells #[] elL.e)).heap.size = w3.heap.size + 1 := by simp
        rw [e9] at s4
        simp only [elL] at s4
        have S4 := hid s4
        clear s3 s4 e9 S2
        go_wp2_with fail
        generalize hz3 : w3.heap.size = z3 at *
        clear hz3
        have S5 : Hid (Sep w r ((w3.alloc (.cells #[] 33)).alloc (.cells #[] 33)) [lstL (.slice (some ⟨z3, 0, none⟩) 0 0) (lessS (isS x.s) (S.take 0)), lstL (.slice (some ⟨z3 + 1, 0, none⟩) 0 0) (lessS (isF x.f) (S.take 0)), lstL (.slice a2 sn k2) S, tbT kP N p v S, tbT kP N p2 v2 S, blk r (objL x)]) := by
          have h1 : lessS (isS x.s) (S.take 0) = [] := by rw [List.take_zero]; rfl
          have h2 : lessS (isF x.f) (S.take 0) = [] := by rw [List.take_zero]; rfl
          rw [h1, h2]
          exact S4.out.perm ((List.Perm.swap _ _ _).trans (.cons _ (.cons _ ((List.Perm.swap _ _ _).trans (.trans (.cons _ (List.Perm.swap _ _ _)) (.trans (List.Perm.swap _ _ _) (.refl _)))))))
        clear S4
        go_loopw [12, 13, 14] (fun s12 s13 s14 wx => ∃ j : Nat, j ≤ sn ∧ s14 = .int .i64 j ∧ Sep w r wx [lstL s12 (lessS (isS x.s) (S.take j)), lstL s13 (lessS (isF x.f) (S.take j)), lstL (.slice a2 sn k2) S, tbT kP N p v S, tbT kP N p2 v2 S, blk r (objL x)]) (fun _ _ s14 _ => sn - (intOf s14).toNat)
        case atStart => exact ⟨0, Nat.zero_le _, rfl, S5.out⟩
        case round =>
          clear S5
          obtain ⟨j, hj, rfl, s1⟩ := hrel
          obtain ⟨a12, c12, e12⟩ := s1.listIs (E := elL) (v := u12) (A := lessS (isS x.s) (S.take j)) (by simp)
          obtain ⟨a13, c13, e13⟩ := s1.listIs (E := elL) (v := u13) (A := lessS (isF x.f) (S.take j)) (by simp)
          have HLn : Hid ((lessS (isS x.s) (S.take j)).length ≤ 16 ∧ (lessS (isF x.f) (S.take j)).length ≤ 16) := ⟨less_short _ j (by rw [HSN.out]; exact hS16), less_short _ j (by rw [HSN.out]; exact hS16)⟩
          by_cases hlt : j < sn
          · have hy := List.getElem?_eq_getElem (l := S) (i := j) (by rw [HSN.out]; exact hlt)
            generalize S[j]'(by rw [HSN.out]; exact hlt) = y at hy
            have HNA := hid (less_next (isS x.s) hy)
            have HNB := hid (less_next (isF x.f) hy)
            obtain ⟨g, rfl, hrow⟩ := s1.listAt okL (ao := a2) (n := sn) (cap := k2) (A := S) (by simp) hy
            have HY := hid hy
            clear hrow hy
            obtain ⟨A, hA⟩ : ∃ A, lessS (isS x.s) (S.take j) = A := ⟨_, rfl⟩
            obtain ⟨B, hB⟩ : ∃ B, lessS (isF x.f) (S.take j) = B := ⟨_, rfl⟩
            rw [hA] at HNA
            rw [hB] at HNB
            rw [hA, hB] at s1 HLn
            rw [hA] at e12
            rw [hB] at e13
            subst e12 e13
            clear hA hB
            have HC : Hid (∀ W R, Sep w r W R → lstL (.slice (some ⟨g, 0, none⟩) sn k2) S ∈ R → blk r (objL x) ∈ R → (W.cell? ⟨g, j * 4, none⟩ = some (.int .i64 y.s) ∧ W.cell? ⟨g, j * 4 + 1, none⟩ = some (.int .i64 y.p) ∧ W.cell? ⟨g, j * 4 + 2, none⟩ = some (.int .i64 y.f) ∧ W.cell? ⟨g, j * 4 + 3, none⟩ = some (.int .i64 y.r)) ∧ W.cell? ⟨r, 0, none⟩ = some (.int .i64 x.s) ∧ W.cell? ⟨r, 2, none⟩ = some (.int .i64 x.f)) := by
              intro W R h h1 h2
              obtain ⟨g', eg, hrow⟩ := h.listAt okL h1 HY.out
              cases eg
              obtain ⟨g0, -, g2, -⟩ := cellsL (x := x) (h.each _ h2).1
              exact ⟨⟨hrow 0 _ rfl, hrow 1 _ rfl, hrow 2 _ rfl, hrow 3 _ rfl⟩, g0, g2⟩
            obtain ⟨⟨c0, c1, c2, c3⟩, g0, g2⟩ := HC.out _ _ s1 (by simp) (by simp)
            have S1 := hid s1
            clear s1
            have hltz : (j : Int) < (sn : Int) := by omega
            by_cases hs : y.s = x.s
            · have hsq : (y.s == x.s) = true := by simpa using hs
              have hsq2 : (y.s != x.s) = false := by simpa using hs
              have HA2 : Hid (lessS (isS x.s) (S.take (j + 1)) = A) := by rw [HNA.out, if_pos (by simp [isS, hs])]; rfl
              clear hs
              go_wp2_with fail
              go_quiet (fail)
              have s6 := S1.out.drewN nq
              generalize wr.drewN nq = w6 at *
              clear c0 c1 c2 c3 g0 g2
              obtain ⟨⟨c0, c1, c2, c3⟩, g0, g2⟩ := HC.out _ _ s6 (by simp) (by simp)
              have S6 := hid s6
              clear s6 S1
              by_cases hf : y.f = x.f
              · have hfq : (y.f == x.f) = true := by simpa using hf
                have hfq2 : (y.f != x.f) = false := by simpa using hf
                have HB2 : Hid (lessS (isF x.f) (S.take (j + 1)) = B) := by rw [HNB.out, if_pos (by simp [isF, hf])]; rfl
                clear hf
                go_wp2_with fail
                go_quiet (fail)
                have S7 := hid (S6.out.drewN nq)
                go_wp2
                go_roundw
                case rel => exact ⟨j + 1, by omega, by go_num, by rw [HA2.out, HB2.out]; exact S7.out⟩
                case measure => simp [intOf]; omega
              · have hfq : (y.f == x.f) = false := by simpa using hf
                have hfq2 : (y.f != x.f) = true := by simpa using hf
                have HB2 : Hid (lessS (isF x.f) (S.take (j + 1)) = B ++ [y]) := by rw [HNB.out, if_neg (by simp [isF, hf])]; rfl
                clear hf
                go_wp2_with fail
                go_quiet (fail)
                have s7 := S6.out.drewN nq
                generalize w6.drewN nq = w7 at *
                clear c0 c1 c2 c3 g0 g2
                obtain ⟨⟨c0, c1, c2, c3⟩, g0, g2⟩ := HC.out _ _ s7 (by simp) (by simp)
                obtain ⟨v8, w8, r8, s8⟩ := s7.swap.more okL 42 y (C := #[.int .i64 y.s, .int .i64 y.p, .int .i64 y.f, .int .i64 y.r]) rfl (by have := HLn.out; omega)
                simp only [elL] at r8
                have R8 := hid r8
                have S8 := hid s8.swap
                clear r8 s8 s7 S6
                go_wp2_with (at_builtin; refine wpList_append_run rfl _ _ _ _ rfl _ _ _ _ rfl rfl R8.out ?_; clear R8)
                go_roundw
                case rel => exact ⟨j + 1, by omega, by go_num, by rw [HA2.out, HB2.out]; exact S8.out⟩
                case measure => simp [intOf]; omega
            · have hsq : (y.s == x.s) = false := by simpa using hs
              have hsq2 : (y.s != x.s) = true := by simpa using hs
              have HA2 : Hid (lessS (isS x.s) (S.take (j + 1)) = A ++ [y]) := by rw [HNA.out, if_neg (by simp [isS, hs])]; rfl
              clear hs
              go_wp2_with fail
              go_quiet (fail)
              have s5 := S1.out.drewN nq
              generalize wr.drewN nq = w5 at *
              clear c0 c1 c2 c3 g0 g2
              obtain ⟨⟨c0, c1, c2, c3⟩, g0, g2⟩ := HC.out _ _ s5 (by simp) (by simp)
              obtain ⟨v6, w6, r6, s6⟩ := s5.more okL 42 y (C := #[.int .i64 y.s, .int .i64 y.p, .int .i64 y.f, .int .i64 y.r]) rfl (by have := HLn.out; omega)
              simp only [elL] at r6
              have R6 := hid r6
              have d := HC.out _ _ s6 (by simp) (by simp)
              have S6 := hid s6
              clear r6 s6 s5 S1
              go_wp2_with (at_builtin; refine wpList_append_run rfl _ _ _ _ rfl _ _ _ _ rfl rfl R6.out ?_; clear R6 c0 c1 c2 c3 g0 g2; obtain ⟨⟨c0, c1, c2, c3⟩, g0, g2⟩ := d)
              by_cases hf : y.f = x.f
              · have hfq : (y.f == x.f) = true := by simpa using hf
                have hfq2 : (y.f != x.f) = false := by simpa using hf
                have HB2 : Hid (lessS (isF x.f) (S.take (j + 1)) = B) := by rw [HNB.out, if_pos (by simp [isF, hf])]; rfl
                clear hf
                go_wp2_with fail
                go_quiet (fail)
                have S7 := hid (S6.out.drewN nq)
                go_wp2
                go_roundw
                case rel => exact ⟨j + 1, by omega, by go_num, by rw [HA2.out, HB2.out]; exact S7.out⟩
                case measure => simp [intOf]; omega
              · have hfq : (y.f == x.f) = false := by simpa using hf
                have hfq2 : (y.f != x.f) = true := by simpa using hf
                have HB2 : Hid (lessS (isF x.f) (S.take (j + 1)) = B ++ [y]) := by rw [HNB.out, if_neg (by simp [isF, hf])]; rfl
                clear hf
                go_wp2_with fail
                go_quiet (fail)
                have s7 := S6.out.drewN nq
                generalize w6.drewN nq = w7 at *
                clear c0 c1 c2 c3 g0 g2
                obtain ⟨⟨c0, c1, c2, c3⟩, g0, g2⟩ := HC.out _ _ s7 (by simp) (by simp)
                obtain ⟨v8, w8, r8, s8⟩ := s7.swap.more okL 42 y (C := #[.int .i64 y.s, .int .i64 y.p, .int .i64 y.f, .int .i64 y.r]) rfl (by have := HLn.out; omega)
                simp only [elL] at r8
                have R8 := hid r8
                have S8 := hid s8.swap
                clear r8 s8 s7 S6
                go_wp2_with (at_builtin; refine wpList_append_run rfl _ _ _ _ rfl _ _ _ _ rfl rfl R8.out ?_; clear R8)
                go_roundw
                case rel => exact ⟨j + 1, by omega, by go_num, by rw [HA2.out, HB2.out]; exact S8.out⟩
                case measure => simp [intOf]; omega
          · have hjs : j = sn := by omega
            have hA : lessS (isS x.s) (S.take j) = lessS (isS x.s) S := by rw [hjs, ← HSN.out, List.take_length]
            have hB : lessS (isF x.f) (S.take j) = lessS (isF x.f) S := by rw [hjs, ← HSN.out, List.take_length]
            rw [hA, hB] at s1 HLn
            rw [hA] at e12
            rw [hB] at e13
            clear hA hB hjs
            obtain ⟨A, hA⟩ : ∃ A, lessS (isS x.s) S = A := ⟨_, rfl⟩
            obtain ⟨B, hB⟩ : ∃ B, lessS (isF x.f) S = B := ⟨_, rfl⟩
            obtain ⟨an, han⟩ : ∃ an, A.length = an := ⟨_, rfl⟩
            obtain ⟨bn, hbn⟩ : ∃ bn, B.length = bn := ⟨_, rfl⟩
            obtain ⟨ka, hka⟩ : ∃ ka, lessN (isS x.s) S = ka := ⟨_, rfl⟩
            obtain ⟨kb, hkb⟩ : ∃ kb, lessN (isF x.f) S = kb := ⟨_, rfl⟩
            have hka2 : ka = sn - an := by rw [← hka, lessN_add, hA, HSN.out, han]
            have hkb2 : kb = sn - bn := by rw [← hkb, lessN_add, hB, HSN.out, hbn]
            have hal : an ≤ sn := by rw [← han, ← hA, ← HSN.out]; exact less_le _ _
            have hbl : bn ≤ sn := by rw [← hbn, ← hB, ← HSN.out]; exact less_le _ _
            rw [hA, hB] at s1 HLn
            rw [hA, han] at e12
            rw [hB, hbn] at e13
            rw [han, hbn] at HLn
            subst e12 e13
            have HQ : Hid (lessS (isS x.s) S = A ∧ lessS (isF x.f) S = B ∧ A.length = an ∧ B.length = bn ∧ lessN (isS x.s) S = ka ∧ lessN (isF x.f) S = kb) := ⟨hA, hB, han, hbn, hka, hkb⟩
            have hwa : IntKind.i64.wrap ((sn : Int) - (an : Int)) = (ka : Int) := by
              unfold IntKind.wrap
              simp [IntKind.bits, IntKind.signed]
              omega
            have hwb : IntKind.i64.wrap ((sn : Int) - (bn : Int)) = (kb : Int) := by
              unfold IntKind.wrap
              simp [IntKind.bits, IntKind.signed]
              omega
            have hltz : ¬ ((j : Int) < (sn : Int)) := by omega
            clear hA hB han hbn hka hkb hka2 hkb2 hal hbl hlt hj
            have s2 := s1.third.third.drop.third.swap
            have HC : Hid (∀ W R, Sep w r W R → blk r (objL x) ∈ R → W.cell? ⟨r, 0, none⟩ = some (.int .i64 x.s) ∧ W.cell? ⟨r, 2, none⟩ = some (.int .i64 x.f)) := by
              intro W R h h2
              obtain ⟨g0, -, g2, -⟩ := cellsL (x := x) (h.each _ h2).1
              exact ⟨g0, g2⟩
            have hS : wr.drew.cell? ⟨r, 0, none⟩ = some (.int .i64 x.s) ∧ wr.drew.cell? ⟨r, 2, none⟩ = some (.int .i64 x.f) := HC.out _ _ s2.drew (by simp)
            have S2 := hid s2
            clear s1 s2
            go_wp2_with fail
            go_region_held3 (fun W => W.cell? ⟨r, 0, none⟩ = some (.int .i64 x.s) ∧ W.cell? ⟨r, 2, none⟩ = some (.int .i64 x.f)) ((first | with_reducible assumption | with_reducible exact hS))
              (first
                | (go_at_call 17; (with_reducible refine Calls.mono (frame_is S5.out x.f HQ.out.2.2.2.2.2 HQ.out.2.1) ?_); rintro e w6 ⟨rfl, v6, s6⟩; have t2 : w6.cell? ⟨r, 0, none⟩ = some (.int .i64 x.s) ∧ w6.cell? ⟨r, 2, none⟩ = some (.int .i64 x.f) := HC.out _ _ s6 (by simp); have S6 := hid s6.swap; clear s6 S5)
                | (go_at_call 15; (with_reducible refine Calls.mono (space_is S2.out.drew x.s HQ.out.2.2.2.2.1 HQ.out.1) ?_); rintro e w5 ⟨rfl, v5, s5⟩; have t1 : w5.cell? ⟨r, 0, none⟩ = some (.int .i64 x.s) ∧ w5.cell? ⟨r, 2, none⟩ = some (.int .i64 x.f) := HC.out _ _ s5 (by simp); have S5 := hid s5.fourth; clear s5 S2))
            clear hS t1 t2
            go_wp2_with fail
            refine Calls.mono (lines_is S6.out HQ.out.2.2.1) ?_
            rintro e w7 ⟨a7, k7, rfl, s7⟩
            have S7 := hid s7
            clear s7 S6
            go_wp2_with fail
            refine Calls.mono (same_is S7.out (u := .slice a7 an k7) (v := .slice a12 an c12) (A := A) (B := A) (by simp) (by simp) (by have := HQ.out; have := HLn.out; omega) rfl) ?_
            rintro e w8 ⟨rfl, s8⟩
            have S8 := hid s8.third.swap
            clear s8 S7
            go_wp2_with fail
            refine Calls.mono (lines_is S8.out HQ.out.2.2.2.1) ?_
            rintro e w9 ⟨a9, k9, rfl, s9⟩
            have S9 := hid s9
            clear s9 S8
            go_wp2_with fail
            refine Calls.mono (same_is S9.out (u := .slice a9 bn k9) (v := .slice a13 bn c13) (A := B) (B := B) (by simp) (by simp) (by have := HQ.out; have := HLn.out; omega) rfl) ?_
            rintro e w10 ⟨rfl, s10⟩
            have S10 := hid s10
            clear s10 S9
            go_wp2_with (go_at_call 24; refine Calls.mono (fixed_sep S10.out) ?_; rintro e wf ⟨rfl, sf⟩; have SF := hid sf; clear sf S10)
            go_ret
            exact ⟨rfl, by rw [HR.out]; exact SF.out.low⟩
open Go.ChangeShapes Go.WideShapes Go.ChangeAt Go.RowKit Go.Joins

/-! ### From the walk to the statement -/
set_option maxRecDepth 100000 in
theorem lifted (os : Os) (started : os.Started) (H : Type) (enc : TypeId × Value → H) :
    ReturnsInHanded {} Try.checked os 7 .any (Rows.tlbPartsSpec.pre6 enc Try.prog Try.f7 Rows.tlbPartsRow.domain false) (Rows.tlbPartsSpec.post enc Try.prog Try.f7 false true false false) := by
  refine returnsInHanded_of_change (C := Try.checked) ownK started (by kernel_rfl) Try.func7
    (ChangeSpec.witness6 (enc := enc) (C := Try.checked) false ⟨#[], #[.int .i64 0, .slice none 0 0, .agg #[.int .i64 0, .int .i64 0, .int .i64 0, .int .i64 0]], []⟩ 8 (by kernel_rfl) (by kernel_rfl) (by kernel_rfl) (by kernel_rfl)) ?_
  intro W base args ds gs before hval0 hW hcnd _
  have hval : ∀ (j : Nat) t v, Try.f7.params[j]? = some t → args[j]? = some v → Value.okWide Try.prog W .any base t v := hval0
  have hW' := hW
  obtain ⟨p, q, hA0, hV, rfl, hfz, hnd⟩ := hW
  have hA : DataW.TrodAll enc Try.prog W 0 (fun _ => true) true Try.f7.params.toList args.toList ds p := hA0
  rw [Try.params7] at hA hval
  obtain ⟨v0, vs0, d0, ds0, p0, q0, hargs, rfl, rfl, h0, r0⟩ := trodAll_cons hA
  obtain ⟨v1, vs1, d1, ds1, p1, q1, rfl, rfl, rfl, h1, r1⟩ := trodAll_cons r0
  obtain ⟨v2, vs2, d2, ds2, p2, q2, rfl, rfl, rfl, h2, r2⟩ := trodAll_cons r1
  obtain ⟨rfl, rfl, rfl⟩ := trodAll_nil r2
  obtain rfl : args = #[v0, v1, v2] := by cases args; simp_all
  obtain ⟨rfl, rfl⟩ := trodVars_none hV
  have k0 := h0
  have lt0 : ∀ x ∈ p0, x.block < W.heap.size := by obtain ⟨m, hm⟩ := k0; exact DataW.trod_lt m _ _ _ hm
  obtain ⟨a0, rfl, _, _, w0⟩ := open_int Try.underlying3 (hval 0 3 v0 rfl rfl) h0
  have k1 := h1
  have lt1 : ∀ x ∈ p1, x.block < W.heap.size := by obtain ⟨m, hm⟩ := k1; exact DataW.trod_lt m _ _ _ hm
  obtain ⟨a1, l1, c1, rfl, t1, s1⟩ := open_lines (hval 1 42 v1 rfl rfl) h1
  have k2 := h2
  have lt2 : ∀ x ∈ p2, x.block < W.heap.size := by obtain ⟨m, hm⟩ := k2; exact DataW.trod_lt m _ _ _ hm
  obtain ⟨a2, rfl, w2⟩ := open_line (hval 2 33 v2 rfl rfl) h2
  clear hA0 hval0
  refine (walk a0 a1 l1 c1 a2 W (bounds_i64 w0) t1 s1 w2).mono fun e W' ⟨he, bel⟩ => ?_
  subst he
  exact ⟨_, rfl, _, _, _, [], _, [], hW', trodAll_mk1 (shut_bool Try.underlying4 _), (trodAll_cons_mk (Below.trod laidOut (by kernel_rfl) (of_decide_eq_true (by kernel_rfl)) k0 bel lt0) (trodAll_cons_mk (Below.trod laidOut (by kernel_rfl) (of_decide_eq_true (by kernel_rfl)) k1 bel lt1) (trodAll_cons_mk (Below.trod laidOut (by kernel_rfl) (of_decide_eq_true (by kernel_rfl)) k2 bel lt2) trodAll_mk0))), rfl, bel.frame _, fun h => by cases h⟩
theorem over : Rows.tlbPartsRow.holds Try.pinned (OpenSpec.ofChange Rows.tlbPartsSpec) :=
  OpenClaim.holds_of_wide 7 Try.f7 rfl rfl rfl rfl rfl rfl rfl ⟨rfl, rfl, rfl, rfl, rfl⟩ rfl rfl rfl rfl rfl (by kernel_rfl) Try.func7 (by kernel_rfl)
    (of_decide_eq_true (by kernel_rfl)) (by unfold Func.isWrapper; first | (rw [if_pos (by decide +kernel)]; kernel_rfl) | (rw [if_neg (by decide +kernel)]; exact ⟨rfl, rfl⟩))
    (fun os started H enc _ => lifted os started H enc)
end Go.Proofs.Ytekjoeebomcmeaa.tlbParts
namespace Go.Proofs.Ytekjoeebomcmeaa
/-- THE STATEMENT. -/
theorem tlbParts_said : Rows.TlbPartsSaid := tlbParts.over
#print axioms tlbParts_said
end Go.Proofs.Ytekjoeebomcmeaa

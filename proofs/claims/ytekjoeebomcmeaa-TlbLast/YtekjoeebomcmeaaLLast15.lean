/-
  TlbLast: what was filled in last is there as it was; of a page of a space there is one line; what was dropped, by its page, its space or its frame, is there no more; no condition.
-/
import Derived.Test.YtekjoeebomcmeaaYLaw
import Derived.Test.YtekjoeebomcmeaaYPure
import Derived.Deep.Cut
import Derived.Deep.CutRange
namespace Go.Proofs.Ytekjoeebomcmeaa.tlbLast
open Go.RowKit Go.Deep Go.Shelf
set_option maxHeartbeats 8000000 in
set_option maxRecDepth 100000 in
theorem walk (room : Int) (ao : Option Addr) (X : St) (cap : Nat) (x : Lr) (w : World) (_hr : I64 room) (hX : SeeL w ao X) (_hxl : X.length ≤ 9223372036854775807) (_hx : True) :
    Calls Try.prog 5 #[.int .i64 room, .slice ao X.length cap, encL x] w fun e w' => e = .returned (.bool true) ∧ Below w.heap.size w w' := by
  obtain ⟨m, hm, hmask⟩ := mask15 room
  obtain ⟨N, hN⟩ : ∃ N : Nat, N = 1 + m := ⟨_, rfl⟩
  have hN1 : 1 ≤ N := by omega
  have hN16 : N ≤ 16 := by omega
  have hw : IntKind.i64.wrap (1 + (m : Int)) = (N : Int) := by
    unfold IntKind.wrap
    simp [IntKind.bits, IntKind.signed]
    omega
  have hw2 : 1 + (m : Int) = (N : Int) := by omega
  have HX := hid hX
  clear hN hm hX
  simp only [encL]
  go_enter Try.func5, Try.ntmps5
  go_wp2_with fail
  have hb := (sep_nil w).box (objL x)
  refine Calls.mono (new_sep hb hN1 (by omega)) ?_
  rintro e w1 ⟨p, rfl, s1⟩
  have S1 := hid s1
  clear s1 hb
  generalize hr : w.heap.size = r at *
  have HR := hid hr
  clear hr
  go_wp2_with fail
  go_loopw [10] (fun s10 wr => ∃ (i : Nat) (S : St) (v : Value), i ≤ 60 ∧ s10 = .int .i64 i ∧ Sep w r wr [tbT kP N p v S, blk r (objL x)]) (fun s10 _ => 60 - (intOf s10).toNat)
  case atStart => exact ⟨0, [], _, by omega, rfl, S1.out⟩
  case round =>
    clear S1
    obtain ⟨i, S, v, hi, rfl, s1⟩ := hrel
    have S1 := hid s1
    by_cases hgo : i < X.length ∧ i < 60
    · obtain ⟨hlt, h60⟩ := hgo
      obtain ⟨b, o, rfl, -, hat⟩ := (HX.out.from HR.out s1.low) i _ (List.getElem?_eq_getElem hlt)
      have HY := hid (List.getElem?_eq_getElem hlt)
      generalize X[i] = y at *
      obtain ⟨c0, c1, c2, c3⟩ := hat.cells
      clear s1 hat
      generalize hn : X.length = n at *
      have hltz : (i : Int) < (n : Int) := by omega
      have h60z : (i : Int) < 60 := by omega
      go_wp2_with fail
      refine Calls.mono (fill_sep S1.out y) ?_
      rintro e w2 ⟨rfl, v2, s2⟩
      have hG := s2.good
      have hl2 := hG.le
      obtain ⟨b', o', eb, -, hat⟩ := (HX.out.from HR.out s2.low) i _ HY.out
      cases eb
      clear c0 c1 c2 c3
      obtain ⟨c0, c1, c2, c3⟩ := hat.cells
      have HL := hid (fill_look S1.out.good y)
      have S2 := hid s2
      clear s2 S1 hat hG
      generalize fillS N S y = T at *
      go_wp2_with fail
      go_cut [11, 12] from 52 to 66 (fun s11 s12 wx => ∃ q, s11 = .pointer (some ⟨q, 0, none⟩) ∧ s12 = .bool true ∧ Sep w r wx [blk q (objP y.f y.r), tbT kP N p v2 T, blk r (objL x)])
      case first =>
        have hob : objP 0 0 = (.cells #[.int .i64 0, .int .i64 0] 31) := rfl
        have sb := (S2.out.box (objP 0 0)).swap.drew
        rw [hob] at sb
        have SB := hid sb
        clear sb
        have Dc0 := cell_al c0 (.cells #[.int .i64 0, .int .i64 0] 31)
        have Dc1 := cell_al c1 (.cells #[.int .i64 0, .int .i64 0] 31)
        go_region_with (first
          | (go_at_call 20; (with_reducible refine Calls.mono (look_is (f := y.f) (t := y.r) (q := true) SB.out y.s y.p HL.out.1 HL.out.2.1 HL.out.2.2) ?_); rintro e w3 ⟨rfl, s3⟩; rw [← hob] at s3; have Z := s3.swap.head; obtain ⟨z0, z1⟩ := cellsG (f := 0) (r := 0) Z; have zf := frozenG (f := 0) (r := 0) Z; have S5 := hid (s3.swap.putG (f' := y.f) (r'' := y.r)); clear Z s3)
          | (go_at_call 20; (with_reducible refine Calls.mono (look_is (f := y.f) (t := y.r) (q := true) S2.out.drew y.s y.p HL.out.1 HL.out.2.1 HL.out.2.2) ?_); rintro e w3 ⟨rfl, s3⟩; have S5 := hid (s3.box (objP y.f y.r)); clear s3))
        all_goals go_wp2_with fail
        all_goals go_meet
        all_goals exact ⟨_, rfl, rfl, S5.out⟩
      case rest =>
        obtain ⟨q, rfl, rfl, s3⟩ := hcut
        obtain ⟨b', o', eb, -, hat⟩ := (HX.out.from HR.out s3.low) i _ HY.out
        cases eb
        clear c0 c1 c2 c3
        obtain ⟨-, -, c2, c3⟩ := hat.cells
        obtain ⟨z0, z1⟩ := cellsG s3.head
        have he := fun W => eq_page W y.f y.r y.f y.r
        rw [pgB_self] at he
        have S3 := hid s3
        clear s3 S2 hat HL
        have hl3 : ¬ ((N : Int) < (T.length : Int)) := by omega
        have HT := hid hl2
        generalize hTl : T.length = tn at *
        go_wp2_with fail
        go_region_with (go_at_call 22; refine Calls.mono (lines_is S3.out.swap.drew hTl) ?_; rintro e w4 ⟨a4, k4, rfl, s4⟩; have S4 := hid s4.drop2.drop2; clear s4)
        all_goals
          go_wp2
          go_round
          case rel => exact ⟨i + 1, T, v2, by omega, by go_num, S4.out⟩
          case measure => simp [intOf]; omega
    · have hex : (¬ ((i : Int) < (X.length : Int))) ∨ ((i : Int) < (X.length : Int) ∧ ¬ ((i : Int) < 60)) := by omega
      clear hgo s1
      generalize hn : X.length = nX at *
      rcases hex with h | ⟨h, h2⟩
      all_goals
        obtain ⟨g0, g1, g2, g3⟩ := cellsL (x := x) (S1.out.each (blk r (objL x)) (by simp)).1
        go_wp2_with fail
        refine Calls.mono (fill_sep S1.out x) ?_
        rintro e w2 ⟨rfl, v2, s2⟩
        have HG := hid S1.out.good
        have HD : Hid ((fillS N S x).any (isK x.s x.p) = true ∧ lessS (isK x.s x.p) (fillS N S x) = roomS N S x) := ⟨fill_any x _ (isK_self x), fill_less x⟩
        have HB := hid (look_none (gone_key (n := N) (S := S) x))
        have HB2 := hid (look_none (gone_space (fillS N S x) x.s x.p))
        have HB3 := hid (look_none (gone_frame S1.out.good x))
        have k2 := lessN_one (fill_any (n := N) (S := S) x (isS x.s) (by simp [isS]))
        have k3 := lessN_one (fill_any (n := N) (S := S) x (isF x.f) (by simp [isF]))
        have ht : (fillS N S x).length = (roomS N S x).length + 1 := fill_len x
        have hd16 : (fillS N S x).length ≤ 16 := by have := s2.good.le; omega
        generalize hm2 : lessN (isS x.s) (fillS N S x) = m2 at *
        generalize hm3 : lessN (isF x.f) (fillS N S x) = m3 at *
        have HM := hid (And.intro hm2 hm3)
        clear hm2 hm3
        generalize fillS N S x = T at *
        generalize roomS N S x = D at *
        generalize hTl : T.length = tn at *
        generalize hDl : D.length = dn at *
        have HTL := hid (And.intro hTl hDl)
        clear hTl hDl
        have hk2 : ¬ ((m2 : Int) < 1) := by omega
        have hk3 : ¬ ((m3 : Int) < 1) := by omega
        have hwt : IntKind.i64.wrap ((tn : Int) - 1) = (dn : Int) := by
          unfold IntKind.wrap
          simp [IntKind.bits, IntKind.signed]
          omega
        have S2 := hid s2
        clear s2 S1 k2 k3 ht hd16 g0 g1 g2 g3
        go_wp2_with fail
        refine Calls.mono (copy_sep S2.out) ?_
        rintro e w3 ⟨pa, va, rfl, s3⟩
        have S3 := hid s3.swap
        clear s3 S2
        go_wp2_with fail
        refine Calls.mono (copy_sep S3.out) ?_
        rintro e w4 ⟨pb, vb, rfl, s4⟩
        have S4 := hid s4.swap
        clear s4 S3
        go_wp2_with fail
        refine Calls.mono (copy_sep S4.out) ?_
        rintro e w5 ⟨pc, vc, rfl, s5⟩
        obtain ⟨g0, g1, g2, g3⟩ := cellsL (x := x) (s5.each (blk r (objL x)) (by simp)).1
        have S5 := hid s5.fourth
        clear s5 S4
        go_wp2_with fail
        refine Calls.mono (drop_is S5.out x.s x.p HD.out.1 HD.out.2) ?_
        rintro e w6 ⟨rfl, v6, s6⟩
        clear g0 g1 g2 g3
        obtain ⟨g0, g1, g2, g3⟩ := cellsL (x := x) (s6.each (blk r (objL x)) (by simp)).1
        have S6 := hid s6.fourth
        clear s6 S5
        go_wp2_with fail
        refine Calls.mono (space_is S6.out x.s HM.out.1 rfl) ?_
        rintro e w7 ⟨rfl, v7, s7⟩
        clear g0 g1 g2 g3
        obtain ⟨g0, g1, g2, g3⟩ := cellsL (x := x) (s7.each (blk r (objL x)) (by simp)).1
        have S7 := hid s7.third.swap
        clear s7 S6
        go_wp2_with fail
        refine Calls.mono (frame_is S7.out x.f HM.out.2 rfl) ?_
        rintro e w8 ⟨rfl, v8, s8⟩
        clear g0 g1 g2 g3
        obtain ⟨g0, g1, g2, g3⟩ := cellsL (x := x) (s8.each (blk r (objL x)) (by simp)).1
        have S8 := hid s8.swap
        clear s8 S7
        go_wp2_with fail
        refine Calls.mono (look_is S8.out x.s x.p HB.out.1 HB.out.2.1 HB.out.2.2) ?_
        rintro e w9 ⟨rfl, s9⟩
        have s9b := (s9.box (objP 0 0)).drop
        clear g0 g1 g2 g3
        obtain ⟨g0, g1, g2, g3⟩ := cellsL (x := x) (s9b.each (blk r (objL x)) (by simp)).1
        have S9 := hid s9b.third.swap
        simp only [objP] at S9 g0 g1 g2 g3
        clear s9 s9b S8
        go_wp2_with fail
        refine Calls.mono (look_is S9.out x.s x.p HB2.out.1 HB2.out.2.1 HB2.out.2.2) ?_
        rintro e w10 ⟨rfl, s10⟩
        have s10b := (s10.box (objP 0 0)).drop
        clear g0 g1 g2 g3
        obtain ⟨g0, g1, g2, g3⟩ := cellsL (x := x) (s10b.each (blk r (objL x)) (by simp)).1
        have S10 := hid s10b.swap
        simp only [objP] at S10 g0 g1 g2 g3
        clear s10 s10b S9
        go_wp2_with fail
        refine Calls.mono (look_is S10.out x.s x.p HB3.out.1 HB3.out.2.1 HB3.out.2.2) ?_
        rintro e w11 ⟨rfl, s11⟩
        have s11b := (s11.box (objP 0 0)).drop
        have S11 := hid s11b.third.swap
        simp only [objP] at S11
        clear s11 s11b S10 g0 g1 g2 g3
        go_wp2_with fail
        refine Calls.mono (lines_is S11.out HTL.out.2) ?_
        rintro e w12 ⟨a12, c12, rfl, s12⟩
        have S12 := hid s12.drop2.fourth
        clear s12 S11
        go_wp2_with fail
        refine Calls.mono (lines_is S12.out HTL.out.1) ?_
        rintro e w13 ⟨a13, c13, rfl, s13⟩
        have S13 := hid s13
        clear s13 S12
        go_wp2_with (go_at_call 24; refine Calls.mono (fixed_sep S13.out) ?_; rintro e wf ⟨rfl, sf⟩; have SF := hid sf; clear sf S13)
        go_ret
        exact ⟨rfl, by rw [HR.out]; exact SF.out.low⟩
open Go.ChangeShapes Go.WideShapes Go.ChangeAt Go.RowKit Go.Joins

/-! ### From the walk to the statement -/
set_option maxRecDepth 100000 in
theorem lifted (os : Os) (started : os.Started) (H : Type) (enc : TypeId × Value → H) :
    ReturnsInHanded {} Try.checked os 5 .any (Rows.tlbLastSpec.pre6 enc Try.prog Try.f5 Rows.tlbLastRow.domain false) (Rows.tlbLastSpec.post enc Try.prog Try.f5 false true false false) := by
  refine returnsInHanded_of_change (C := Try.checked) ownK started (by kernel_rfl) Try.func5
    (ChangeSpec.witness6 (enc := enc) (C := Try.checked) false ⟨#[], #[.int .i64 0, .slice none 0 0, .agg #[.int .i64 0, .int .i64 0, .int .i64 0, .int .i64 0]], []⟩ 8 (by kernel_rfl) (by kernel_rfl) (by kernel_rfl) (by kernel_rfl)) ?_
  intro W base args ds gs before hval0 hW hcnd _
  have hval : ∀ (j : Nat) t v, Try.f5.params[j]? = some t → args[j]? = some v → Value.okWide Try.prog W .any base t v := hval0
  have hW' := hW
  obtain ⟨p, q, hA0, hV, rfl, hfz, hnd⟩ := hW
  have hA : DataW.TrodAll enc Try.prog W 0 (fun _ => true) true Try.f5.params.toList args.toList ds p := hA0
  rw [Try.params5] at hA hval
  obtain ⟨v0, vs0, d0, ds0, p0, q0, hargs, rfl, rfl, h0, r0⟩ := trodAll_cons hA
  obtain ⟨v1, vs1, d1, ds1, p1, q1, rfl, rfl, rfl, h1, r1⟩ := trodAll_cons r0
  obtain ⟨v2, vs2, d2, ds2, p2, q2, rfl, rfl, rfl, h2, r2⟩ := trodAll_cons r1
  obtain ⟨rfl, rfl, rfl⟩ := trodAll_nil r2
  obtain rfl : args = #[v0, v1, v2] := by cases args; simp_all
  obtain ⟨rfl, rfl⟩ := trodVars_none hV
  have k0 := h0
  have lt0 : ∀ x ∈ p0, x.block < W.heap.size := by obtain ⟨m, hm⟩ := k0; exact DataW.trod_lt m _ _ _ hm
  obtain ⟨a0, rfl, _, _, w0⟩ := open_int Try.underlying3 (hval 0 3 v0 rfl rfl) h0
  have k1 := h1
  have lt1 : ∀ x ∈ p1, x.block < W.heap.size := by obtain ⟨m, hm⟩ := k1; exact DataW.trod_lt m _ _ _ hm
  obtain ⟨a1, l1, c1, rfl, t1, s1⟩ := open_lines (hval 1 42 v1 rfl rfl) h1
  have k2 := h2
  have lt2 : ∀ x ∈ p2, x.block < W.heap.size := by obtain ⟨m, hm⟩ := k2; exact DataW.trod_lt m _ _ _ hm
  obtain ⟨a2, rfl, w2⟩ := open_line (hval 2 33 v2 rfl rfl) h2
  clear hA0 hval0
  refine (walk a0 a1 l1 c1 a2 W (bounds_i64 w0) t1 s1 w2).mono fun e W' ⟨he, bel⟩ => ?_
  subst he
  exact ⟨_, rfl, _, _, _, [], _, [], hW', trodAll_mk1 (shut_bool Try.underlying4 _), (trodAll_cons_mk (Below.trod laidOut (by kernel_rfl) (of_decide_eq_true (by kernel_rfl)) k0 bel lt0) (trodAll_cons_mk (Below.trod laidOut (by kernel_rfl) (of_decide_eq_true (by kernel_rfl)) k1 bel lt1) (trodAll_cons_mk (Below.trod laidOut (by kernel_rfl) (of_decide_eq_true (by kernel_rfl)) k2 bel lt2) trodAll_mk0))), rfl, bel.frame _, fun h => by cases h⟩
theorem over : Rows.tlbLastRow.holds Try.pinned (OpenSpec.ofChange Rows.tlbLastSpec) :=
  OpenClaim.holds_of_wide 5 Try.f5 rfl rfl rfl rfl rfl rfl rfl ⟨rfl, rfl, rfl, rfl, rfl⟩ rfl rfl rfl rfl rfl (by kernel_rfl) Try.func5 (by kernel_rfl)
    (of_decide_eq_true (by kernel_rfl)) (by unfold Func.isWrapper; first | (rw [if_pos (by decide +kernel)]; kernel_rfl) | (rw [if_neg (by decide +kernel)]; exact ⟨rfl, rfl⟩))
    (fun os started H enc _ => lifted os started H enc)
end Go.Proofs.Ytekjoeebomcmeaa.tlbLast
namespace Go.Proofs.Ytekjoeebomcmeaa
/-- THE STATEMENT. -/
theorem tlbLast_said : Rows.TlbLastSaid := tlbLast.over
#print axioms tlbLast_said
end Go.Proofs.Ytekjoeebomcmeaa

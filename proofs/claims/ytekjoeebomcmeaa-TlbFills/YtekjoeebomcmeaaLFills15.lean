/-
  TlbFills: what is filled in again with another frame is that, once; all others stay; no condition.
-/
import Derived.Test.YtekjoeebomcmeaaYLaw
import Derived.Test.YtekjoeebomcmeaaYPure
import Derived.Test.YtekjoeebomcmeaaYPut
import Derived.Test.YtekjoeebomcmeaaGQuiet
import Derived.Deep.Cut
import Derived.Deep.CutRange
namespace Go.Proofs.Ytekjoeebomcmeaa.tlbFills
open Go.RowKit Go.Deep Go.Shelf
set_option maxHeartbeats 8000000 in
set_option maxRecDepth 100000 in
theorem walk (room : Int) (ao : Option Addr) (X : St) (cap : Nat) (fr : Int) (w : World) (_hr : I64 room) (hX : SeeL w ao X) (_hxl : X.length ≤ 9223372036854775807) (_hf : I64 fr) :
    Calls Try.prog 8 #[.int .i64 room, .slice ao X.length cap, .int .i64 fr] w fun e w' => e = .returned (.bool true) ∧ Below w.heap.size w w' := by
  obtain ⟨m, hm, hmask⟩ := mask15 room
  obtain ⟨N, hN⟩ : ∃ N : Nat, N = 1 + m := ⟨_, rfl⟩
  have hN1 : 1 ≤ N := by omega
  have hN16 : N ≤ 16 := by omega
  have hw : IntKind.i64.wrap (1 + (m : Int)) = (N : Int) := by
    unfold IntKind.wrap
    simp [IntKind.bits, IntKind.signed]
    omega
  have hw2 : 1 + (m : Int) = (N : Int) := by omega
  have HX := hid hX
  clear hN hm hX
  go_enter Try.func8, Try.ntmps8
  go_wp2_with fail
  refine Calls.mono (new_sep (sep_nil w) hN1 (by omega)) ?_
  rintro e w1 ⟨p, rfl, s1⟩
  have S1 := hid s1
  clear s1
  generalize hr : w.heap.size = r at *
  have HR := hid hr
  clear hr
  by_cases h0 : X.length = 0
  · have HZ := hid h0
    rw [h0]
    clear h0
    go_wp2_with ((go_at_call 24; refine Calls.mono (fixed_sep S1.out) ?_; rintro e wf ⟨rfl, sf⟩; have SF := hid sf; clear sf S1))
    go_ret
    exact ⟨rfl, by rw [HR.out]; exact SF.out.low⟩
  · have h0z : ((X.length : Int) == 0) = false := beq_eq_false_iff_ne.2 (by omega)
    have HP : Hid (0 < X.length) := Nat.pos_of_ne_zero h0
    clear h0
    generalize hn : X.length = n at *
    have HN := hid hn
    clear hn
    go_wp2_with fail
    go_loopw [9] (fun s9 wr => ∃ (i : Nat) (S : St) (v : Value), i ≤ 40 ∧ i ≤ n ∧ s9 = .int .i64 i ∧ Sep w r wr [tbT kP N p v S] ∧ Hid (∀ y, 0 < i → X[i - 1]? = some y → ∃ S0, Good N S0 ∧ S = fillS N S0 y)) (fun s9 _ => 40 - (intOf s9).toNat)
    case atStart => exact ⟨0, [], _, by omega, by omega, rfl, S1.out, fun y h => absurd h (by omega)⟩
    case round =>
      clear S1
      obtain ⟨i, S, v, hi, hin, rfl, s1, HL⟩ := hrel
      have S1 := hid s1
      by_cases hgo : i < n ∧ i < 40
      · obtain ⟨hlt, h40⟩ := hgo
        have hlt2 : i < X.length := by have := HN.out; omega
        obtain ⟨b, o, rfl, -, hat⟩ := (HX.out.from HR.out s1.low) i _ (List.getElem?_eq_getElem hlt2)
        have HY := hid (List.getElem?_eq_getElem hlt2)
        generalize X[i] = y at *
        obtain ⟨c0, c1, c2, c3⟩ := hat.cells
        clear s1 hat
        have hltz : (i : Int) < (n : Int) := by omega
        have h40z : (i : Int) < 40 := by omega
        go_wp2_with fail
        refine Calls.mono (fill_sep S1.out y) ?_
        rintro e w2 ⟨rfl, v2, s2⟩
        have S2 := hid s2
        have HG := hid S1.out.good
        clear s2 S1
        go_wp2
        go_round
        case rel =>
          refine ⟨i + 1, _, v2, by omega, by omega, by go_num, S2.out, fun z _ hz => ⟨S, HG.out, ?_⟩⟩
          rw [Nat.add_sub_cancel, HY.out] at hz
          cases hz
          rfl
        case measure => simp [intOf]; omega
      · have hex : (¬ ((i : Int) < (n : Int)) ∧ min (n : Int) 40 = (i : Int)) ∨ ((i : Int) < (n : Int) ∧ ¬ ((i : Int) < 40) ∧ min (n : Int) 40 = (i : Int)) := by omega
        have hi0 : 0 < i := by have := HP.out; omega
        have hlt2 : i - 1 < X.length := by have := HN.out; omega
        obtain ⟨b, o, rfl, -, hat⟩ := (HX.out.from HR.out s1.low) (i - 1) _ (List.getElem?_eq_getElem hlt2)
        obtain ⟨S0, hG0, eS⟩ := HL.out _ hi0 (List.getElem?_eq_getElem hlt2)
        generalize X[i - 1] = y at *
        obtain ⟨k, rfl⟩ : ∃ k, i = k + 1 := ⟨i - 1, by omega⟩
        rw [Nat.add_sub_cancel] at *
        obtain ⟨c0, c1, c2, c3⟩ := hat.cells
        clear hgo s1 hat HL hi0
        have hkn : (k : Int) < (n : Int) := by have := HN.out; omega
        have hwk : IntKind.i64.wrap (((k + 1 : Nat) : Int) - 1) = (k : Int) := by
          unfold IntKind.wrap
          simp [IntKind.bits, IntKind.signed]
          omega
        have HS := hid eS
        have HG0 := hid hG0
        clear eS hG0
        have hkc : ((k + 1 : Nat) : Int) = (k : Int) + 1 := by omega
        obtain ⟨d, hd⟩ : ∃ d, (roomS N S0 y).length = d := ⟨_, rfl⟩
        have HT : Hid (fillS N S ⟨y.s, y.p, fr, y.r⟩ = roomS N S0 y ++ [⟨y.s, y.p, fr, y.r⟩]) := by rw [HS.out]; exact fill_again y _ rfl rfl
        have HSL : Hid (S.length = d + 1) := by rw [HS.out, fill_len, hd]; rfl
        obtain ⟨T, hT⟩ : ∃ T, fillS N S ⟨y.s, y.p, fr, y.r⟩ = T := ⟨_, rfl⟩
        have HTL : Hid (T.length = d + 1) := by rw [← hT, HT.out, List.length_append, hd]; rfl
        have HTD : Hid (T[d]? = some ⟨y.s, y.p, fr, y.r⟩) := by show _ = _; rw [← hT, HT.out, ← hd]; simp
        have HLK : Hid (lookF (fillS N S ⟨y.s, y.p, fr, y.r⟩) y.s y.p = fr ∧ lookR (fillS N S ⟨y.s, y.p, fr, y.r⟩) y.s y.p = y.r ∧ lookB (fillS N S ⟨y.s, y.p, fr, y.r⟩) y.s y.p = true) := fill_look S1.out.good ⟨y.s, y.p, fr, y.r⟩
        rw [hT] at HLK
        have HFT := hid hT
        have hd16 : d + 1 ≤ 16 := by have := S1.out.good.le; have := HSL.out; omega
        clear hT hd HT
        generalize hsn : d + 1 = sn at *
        have hsd : IntKind.i64.wrap ((sn : Int) - 1) = (d : Int) := by
          unfold IntKind.wrap
          simp [IntKind.bits, IntKind.signed]
          omega
        have hs0 : (0 : Int) < (sn : Int) := by omega
        have hs1 : 0 < sn := by omega
        have hs2 : decide ((0 : Int) < (sn : Int)) = true := by simpa using hs0
        have hs3 : decide (0 < sn) = true := by simpa using hs1
        have hdz : (d : Int) < (sn : Int) := by omega
        clear hsn HS HG0
        rcases hex with ⟨h1, hmin⟩ | ⟨h1, h2, hmin⟩
        all_goals
          go_wp2_with fail
          have s2 := (S1.out.box (objL y)).swap
          refine Calls.mono (lines_is s2 HSL.out) ?_
          rintro e w2 ⟨a2, k2, rfl, s3⟩
          clear s2 S1 c0 c1 c2 c3
          generalize wr.heap.size = q at *
          obtain ⟨g0, g1, g2, g3⟩ := cellsL (x := y) s3.drop2.swap.head
          have gf := frozenL (x := y) s3.drop2.swap.head
          have s4 := s3.drop2.swap.putF fr
          have HW := hid s4.swap
          clear s3 s4
          generalize hw3 : w2.setCell ⟨q, 2, none⟩ (.int .i64 fr) = w3 at *
          have e3 := hid hw3
          obtain ⟨m0, m1, m2, m3⟩ := cellsL HW.out.swap.head
          simp only at m0 m1 m2 m3
          clear hw3
          go_wp2_with (rw [e3.out]; clear g0 g1 g2 g3 gf)
          refine Calls.mono (fill_is HW.out ⟨y.s, y.p, fr, y.r⟩ HFT.out) ?_
          rintro e w4 ⟨rfl, v4, s4⟩
          clear m0 m1 m2 m3
          obtain ⟨m0, m1, m2, m3⟩ := cellsL s4.swap.head
          simp only at m0 m1 m2 m3
          have S4 := hid s4
          clear s4 HW e3 HFT
          go_wp2_with fail
          refine Calls.mono (look_is S4.out y.s y.p HLK.out.1 HLK.out.2.1 HLK.out.2.2) ?_
          rintro e w5 ⟨rfl, s5⟩
          have S5 := hid (s5.box (objP fr y.r)).swap
          clear s5 S4 m0 m1 m2 m3
          go_wp2_with fail
          refine Calls.mono (lines_is S5.out HTL.out) ?_
          rintro e w6 ⟨a6, k6, rfl, s6⟩
          generalize w5.heap.size = q5 at *
          obtain ⟨g, rfl, hrow⟩ := s6.listAt okL (ao := a6) (n := sn) (cap := k6) (A := T) (by simp) HTD.out
          have Z1 := (s6.each (blk q5 (objP fr y.r)) (by simp)).1
          have Z2 := (s6.each (blk q (objL ⟨y.s, y.p, fr, y.r⟩)) (by simp)).1
          have l1 : q5 < w6.heap.size := (Array.getElem?_eq_some_iff.1 Z1).1
          have l2 : q < w6.heap.size := (Array.getElem?_eq_some_iff.1 Z2).1
          have l3 : g < w6.heap.size := World.block_lt_of_cell? w6 _ (hrow 0 _ rfl)
          obtain ⟨z0, z1⟩ := cellsG Z1
          obtain ⟨m0, m1, m2, m3⟩ := cellsL Z2
          simp only at m0 m1 m2 m3
          have d0 : w6.cell? ⟨g, d * 4, none⟩ = some (.int .i64 y.s) := hrow 0 _ rfl
          have d1 : w6.cell? ⟨g, d * 4 + 1, none⟩ = some (.int .i64 y.p) := hrow 1 _ rfl
          have d2 : w6.cell? ⟨g, d * 4 + 2, none⟩ = some (.int .i64 fr) := hrow 2 _ rfl
          have d3 : w6.cell? ⟨g, d * 4 + 3, none⟩ = some (.int .i64 y.r) := hrow 3 _ rfl
          have Z0 := fun p : Grw w6 => p.cell l1 z0
          have Z1 := fun p : Grw w6 => p.cell l1 z1
          have M0 := fun p : Grw w6 => p.cell l2 m0
          have M1 := fun p : Grw w6 => p.cell l2 m1
          have M2 := fun p : Grw w6 => p.cell l2 m2
          have M3 := fun p : Grw w6 => p.cell l2 m3
          have D0 := fun p : Grw w6 => p.cell l3 d0
          have D1 := fun p : Grw w6 => p.cell l3 d1
          have D2 := fun p : Grw w6 => p.cell l3 d2
          have D3 := fun p : Grw w6 => p.cell l3 d3
          have he1 : ∀ W, (Op.equalIn 10000 31 (.agg #[.int .i64 fr, .int .i64 y.r]) (.agg #[.int .i64 fr, .int .i64 y.r])).run Try.prog W = .ok true W := fun W => (eq_page W fr y.r fr y.r).trans (by rw [pgB_self])
          have he2 : ∀ W, (Op.equalIn 10000 33 (.agg #[.int .i64 y.s, .int .i64 y.p, .int .i64 fr, .int .i64 y.r]) (.agg #[.int .i64 y.s, .int .i64 y.p, .int .i64 fr, .int .i64 y.r])).run Try.prog W = .ok true W := fun W => (eq_line W y.s y.p fr y.r y.s y.p fr y.r).trans (by rw [lrB_self])
          have S6 := hid s6
          clear s6 S5 z0 z1 m0 m1 m2 m3 d0 d1 d2 d3 hrow Z2
          have hgi : ∀ u : World, Inhabited (Grw u) := grw0
          go_wp2_with fail
          refine wp_region_grw (by kernel_rfl) (by kernel_rfl) ?_
          repeat (go_big_quiet_step ((go_at_call 24; exact grw_of (fixed_any _))))
          refine wpQuiet_nil ?_
          intro _ hw'
          obtain ⟨p9, hw''⟩ := hw'
          subst hw''
          have S9 := hid (S6.out.grw p9)
          go_wp2
          go_ret
          exact ⟨rfl, by rw [HR.out]; exact S9.out.low⟩
open Go.ChangeShapes Go.WideShapes Go.ChangeAt Go.RowKit Go.Joins

/-! ### From the walk to the statement -/
set_option maxRecDepth 100000 in
theorem lifted (os : Os) (started : os.Started) (H : Type) (enc : TypeId × Value → H) :
    ReturnsInHanded {} Try.checked os 8 .any (Rows.tlbFillsSpec.pre6 enc Try.prog Try.f8 Rows.tlbFillsRow.domain false) (Rows.tlbFillsSpec.post enc Try.prog Try.f8 false true false false) := by
  refine returnsInHanded_of_change (C := Try.checked) ownK started (by kernel_rfl) Try.func8
    (ChangeSpec.witness6 (enc := enc) (C := Try.checked) false ⟨#[], #[.int .i64 0, .slice none 0 0, .int .i64 0], []⟩ 8 (by kernel_rfl) (by kernel_rfl) (by kernel_rfl) (by kernel_rfl)) ?_
  intro W base args ds gs before hval0 hW hcnd _
  have hval : ∀ (j : Nat) t v, Try.f8.params[j]? = some t → args[j]? = some v → Value.okWide Try.prog W .any base t v := hval0
  have hW' := hW
  obtain ⟨p, q, hA0, hV, rfl, hfz, hnd⟩ := hW
  have hA : DataW.TrodAll enc Try.prog W 0 (fun _ => true) true Try.f8.params.toList args.toList ds p := hA0
  rw [Try.params8] at hA hval
  obtain ⟨v0, vs0, d0, ds0, p0, q0, hargs, rfl, rfl, h0, r0⟩ := trodAll_cons hA
  obtain ⟨v1, vs1, d1, ds1, p1, q1, rfl, rfl, rfl, h1, r1⟩ := trodAll_cons r0
  obtain ⟨v2, vs2, d2, ds2, p2, q2, rfl, rfl, rfl, h2, r2⟩ := trodAll_cons r1
  obtain ⟨rfl, rfl, rfl⟩ := trodAll_nil r2
  obtain rfl : args = #[v0, v1, v2] := by cases args; simp_all
  obtain ⟨rfl, rfl⟩ := trodVars_none hV
  have k0 := h0
  have lt0 : ∀ x ∈ p0, x.block < W.heap.size := by obtain ⟨m, hm⟩ := k0; exact DataW.trod_lt m _ _ _ hm
  obtain ⟨a0, rfl, _, _, w0⟩ := open_int Try.underlying3 (hval 0 3 v0 rfl rfl) h0
  have k1 := h1
  have lt1 : ∀ x ∈ p1, x.block < W.heap.size := by obtain ⟨m, hm⟩ := k1; exact DataW.trod_lt m _ _ _ hm
  obtain ⟨a1, l1, c1, rfl, t1, s1⟩ := open_lines (hval 1 42 v1 rfl rfl) h1
  have k2 := h2
  have lt2 : ∀ x ∈ p2, x.block < W.heap.size := by obtain ⟨m, hm⟩ := k2; exact DataW.trod_lt m _ _ _ hm
  obtain ⟨a2, rfl, _, _, w2⟩ := open_int Try.underlying3 (hval 2 3 v2 rfl rfl) h2
  clear hA0 hval0
  refine (walk a0 a1 l1 c1 a2 W (bounds_i64 w0) t1 s1 (bounds_i64 w2)).mono fun e W' ⟨he, bel⟩ => ?_
  subst he
  exact ⟨_, rfl, _, _, _, [], _, [], hW', trodAll_mk1 (shut_bool Try.underlying4 _), (trodAll_cons_mk (Below.trod laidOut (by kernel_rfl) (of_decide_eq_true (by kernel_rfl)) k0 bel lt0) (trodAll_cons_mk (Below.trod laidOut (by kernel_rfl) (of_decide_eq_true (by kernel_rfl)) k1 bel lt1) (trodAll_cons_mk (Below.trod laidOut (by kernel_rfl) (of_decide_eq_true (by kernel_rfl)) k2 bel lt2) trodAll_mk0))), rfl, bel.frame _, fun h => by cases h⟩
theorem over : Rows.tlbFillsRow.holds Try.pinned (OpenSpec.ofChange Rows.tlbFillsSpec) :=
  OpenClaim.holds_of_wide 8 Try.f8 rfl rfl rfl rfl rfl rfl rfl ⟨rfl, rfl, rfl, rfl, rfl⟩ rfl rfl rfl rfl rfl (by kernel_rfl) Try.func8 (by kernel_rfl)
    (of_decide_eq_true (by kernel_rfl)) (by unfold Func.isWrapper; first | (rw [if_pos (by decide +kernel)]; kernel_rfl) | (rw [if_neg (by decide +kernel)]; exact ⟨rfl, rfl⟩))
    (fun os started H enc _ => lifted os started H enc)
end Go.Proofs.Ytekjoeebomcmeaa.tlbFills
namespace Go.Proofs.Ytekjoeebomcmeaa
/-- THE STATEMENT. -/
theorem tlbFills_said : Rows.TlbFillsSaid := tlbFills.over
#print axioms tlbFills_said
end Go.Proofs.Ytekjoeebomcmeaa

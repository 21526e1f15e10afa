/-
  IrqApart: what is done to a line makes no difference to any other one; no condition.
-/
import Derived.Test.YtgkcbcigdjappaaILaw
import Derived.Deep.Cut
import Derived.Deep.CutRange
namespace Go.Proofs.Ytgkcbcigdjappaa.irqApart
open Go.RowKit Go.Deep Go.Shelf
/-- Four lines, those below i bound. -/
def bnd (i : Nat) : List Ln := [if 0 < i then ⟨(some none), 0, 1⟩ else ln0, if 1 < i then ⟨(some none), 1, 1⟩ else ln0, if 2 < i then ⟨(some none), 2, 1⟩ else ln0, if 3 < i then ⟨(some none), 3, 1⟩ else ln0]
theorem bnd_next {i : Nat} (h : i < 4) : bindE (bnd i) (i : Int) (i : Int) = 0 ∧ bindS (bnd i) (i : Int) (i : Int) 1 = bnd (i + 1) := by
  have : i = 0 ∨ i = 1 ∨ i = 2 ∨ i = 3 := by omega
  rcases this with rfl | rfl | rfl | rfl
  all_goals exact ⟨rfl, rfl⟩
theorem bnd_raise {n : Nat} (h : n < 4) : telA isO (bnd 4) (n : Int) = (n : Int) ∧ telG isO (bnd 4) (n : Int) = 1 ∧ telB isO (bnd 4) (n : Int) = true ∧ telE (bnd 4) (n : Int) = 0 ∧ atI (telS raiseX (bnd 4) (n : Int)) (n : Int) = some ⟨(some (some false)), (n : Int), 1⟩ := by
  have : n = 0 ∨ n = 1 ∨ n = 2 ∨ n = 3 := by omega
  rcases this with rfl | rfl | rfl | rfl
  all_goals exact ⟨rfl, rfl, rfl, rfl, rfl⟩
theorem td_open {S : List Ln} {n a g : Int} (h : atI S n = some ⟨(some (some false)), a, g⟩) : telB isO S n = false ∧ telB isM S n = false := ⟨by simp [telB, h, isO], by simp [telB, h, isM]⟩
set_option maxHeartbeats 8000000 in
set_option maxRecDepth 100000 in
theorem walk (ao : Option Addr) (X : List Oc) (cap : Nat) (b : Int) (w : World) (hX : Ops w ao X) (_hxl : X.length ≤ 9223372036854775807) (_hb : -9223372036854775808 ≤ b ∧ b ≤ 9223372036854775807) :
    Calls Try.prog 6 #[.slice ao X.length cap, .int .i64 b] w fun e w' => e = .returned (.bool true) ∧ Below w.heap.size w w' := by
  have HX := hid hX
  obtain ⟨n, hn4, hn⟩ := mask3 b
  have HBR := hid (bnd_raise hn4)
  clear hX _hb
  go_enter Try.func6, Try.ntmps6
  go_wp2_with fail
  refine Calls.mono (new_sep (sep_nil w) 4 (by omega) (by omega)) ?_
  rintro e w1 ⟨p, v, rfl, s1⟩
  have S1 : Hid (Sep w w.heap.size w1 [lnT p v (bnd 0)]) := s1
  clear s1
  generalize hr : w.heap.size = r at *
  have HR := hid hr
  clear hr
  go_wp2_with fail
  go_loopw [7] (fun s7 wr => ∃ i : Nat, i ≤ 4 ∧ s7 = .int .i64 i ∧ Sep w r wr [lnT p v (bnd i)]) (fun s7 _ => 4 - (intOf s7).toNat)
  case atStart => exact ⟨0, by omega, rfl, S1.out⟩
  case round =>
    clear S1
    obtain ⟨i, hi, rfl, s1⟩ := hrel
    have S1 := hid s1
    clear s1
    by_cases hlt : i < 4
    · have hltz : (i : Int) < 4 := by omega
      have HN := hid (bnd_next hlt)
      go_wp2_with fail
      refine Calls.mono (bind_is S1.out (i : Int) (i : Int) 1 HN.out.1 HN.out.2) ?_
      rintro e w2 ⟨rfl, sw2⟩
      have S2 := hid sw2
      clear sw2 S1
      go_wp2
      go_round
      case rel => exact ⟨i + 1, by omega, by go_num, S2.out⟩
      case measure => simp [intOf]; omega
    · obtain rfl : i = 4 := by omega
      clear hlt hi
      obtain ⟨T, hT⟩ : ∃ T, telS raiseX (bnd 4) (n : Int) = T := ⟨_, rfl⟩
      have HR2 : Hid (telS raiseX (bnd 4) (n : Int) = T ∧ atI T (n : Int) = some ⟨(some (some false)), (n : Int), 1⟩) := ⟨hT, by rw [← hT]; exact HBR.out.2.2.2.2⟩
      clear hT
      go_wp2_with fail
      refine Calls.mono (raise_is S1.out (n : Int) HBR.out.1 HBR.out.2.1 HBR.out.2.2.1 HBR.out.2.2.2.1 HR2.out.1) ?_
      rintro e w2 ⟨rfl, s2⟩
      have S2 := hid s2
      clear s2 S1
      have HT := hid HR2.out.2
      clear HR2 HBR
      go_wp2_with fail
      refine Calls.mono (open_is S2.out (n : Int) (td_open HT.out).1 (td_open HT.out).2) ?_
      rintro e w3 ⟨rfl, sw3⟩
      have S3 := hid sw3
      clear sw3 S2
      go_wp2_with fail
      go_loopw [11] (fun s11 wr => ∃ (i : Nat) (T : List Ln), i ≤ 40 ∧ s11 = .int .i64 i ∧ atI T (n : Int) = some ⟨(some (some false)), (n : Int), 1⟩ ∧ Sep w r wr [lnT p v T]) (fun s11 _ => 40 - (intOf s11).toNat)
      case atStart => exact ⟨0, T, by omega, rfl, HT.out, S3.out⟩
      case round =>
        clear S3 HT
        obtain ⟨i, T, hk, rfl, hT, s1⟩ := hrel
        have S1 := hid s1
        have HT := hid hT
        clear s1 hT
        by_cases hgo : i < X.length ∧ i < 40
        · obtain ⟨hlt, h40⟩ := hgo
          obtain ⟨hf, b0, a0, rfl, d0, d1, d2, d3⟩ := Ops.at (SeeK.below HX.out S1.out.low (by rw [HR.out]; exact Nat.le_refl _)) (List.getElem?_eq_getElem hlt)
          generalize hx : X[i] = x at *
          clear hx
          generalize hn : X.length = nX at *
          have hltz : (i : Int) < (nX : Int) := by omega
          have h40z : (i : Int) < 40 := by omega
          have s3 := (S1.out.box (objO x)).swap
          generalize hqo : wr.heap.size = qo at *
          obtain ⟨k0, k1, k2, k3⟩ := s3.opAt (q := qo) (x := x) (by simp)
          have S3 := hid s3
          clear s3 S1
          simp only [objO] at k0 k1 k2 k3
          by_cases hl : x.l = (n : Int)
          · have hlq : (x.l == (n : Int)) = true := by simpa using hl
            clear hl
            have S4 := hid S3.out.drop2
            clear S3
            go_wp2
            go_round
            case rel => exact ⟨i + 1, T, by omega, by go_num, HT.out, S4.out⟩
            case measure => simp [intOf]; omega
          · have hlq : (x.l == (n : Int)) = false := by simpa using hl
            have HL : Hid ((n : Int) ≠ x.l) := fun e => hl e.symm
            clear hl
            by_cases hk1 : x.k = 1
            · have hq1 : (x.k == 1) = true := by simpa using hk1
              clear hk1
              obtain ⟨E, hE⟩ : ∃ E, freeE T x.l = E := ⟨_, rfl⟩
              obtain ⟨T', hT'⟩ : ∃ T', freeS T x.l = T' := ⟨_, rfl⟩
              have HD : Hid (freeE T x.l = E ∧ freeS T x.l = T' ∧ atI T' (n : Int) = some ⟨(some (some false)), (n : Int), 1⟩) := ⟨hE, hT', by rw [← hT', free_other T HL.out (by omega)]; exact HT.out⟩
              clear hE hT'
              go_wp2_with fail
              refine Calls.mono (free_is S3.out x.l HD.out.1 HD.out.2.1) ?_
              rintro e w4 ⟨rfl, s4⟩
              have S4 := hid s4.drop2
              clear s4 S3 k0 k1 k2 k3
              go_wp2
              go_round
              case rel => exact ⟨i + 1, T', by omega, by go_num, HD.out.2.2, S4.out⟩
              case measure => simp [intOf]; omega
            · have hq1 : (x.k == 1) = false := by simpa using hk1
              clear hk1
              by_cases hk2 : x.k = 2
              · have hq2 : (x.k == 2) = true := by simpa using hk2
                clear hk2
                obtain ⟨ea, hea⟩ : ∃ ea, telA isO T x.l = ea := ⟨_, rfl⟩
                obtain ⟨eg, heg⟩ : ∃ eg, telG isO T x.l = eg := ⟨_, rfl⟩
                obtain ⟨eq, heq⟩ : ∃ eq, telB isO T x.l = eq := ⟨_, rfl⟩
                obtain ⟨ee, hee⟩ : ∃ ee, telE T x.l = ee := ⟨_, rfl⟩
                have HE : Hid (telA isO T x.l = ea ∧ telG isO T x.l = eg ∧ telB isO T x.l = eq ∧ telE T x.l = ee) := ⟨hea, heg, heq, hee⟩
                clear hea heg heq hee
                obtain ⟨T', hT'⟩ : ∃ T', telS raiseX T x.l = T' := ⟨_, rfl⟩
                have HD : Hid (True ∧ telS raiseX T x.l = T' ∧ atI T' (n : Int) = some ⟨(some (some false)), (n : Int), 1⟩) := ⟨trivial, hT', by rw [← hT', tel_other raiseX T HL.out (by omega)]; exact HT.out⟩
                clear hT'
                go_wp2_with fail
                refine Calls.mono (raise_is S3.out x.l HE.out.1 HE.out.2.1 HE.out.2.2.1 HE.out.2.2.2 HD.out.2.1) ?_
                rintro e w4 ⟨rfl, s4⟩
                have S4 := hid s4.drop2
                clear s4 S3 k0 k1 k2 k3
                go_wp2
                go_round
                case rel => exact ⟨i + 1, T', by omega, by go_num, HD.out.2.2, S4.out⟩
                case measure => simp [intOf]; omega
              · have hq2 : (x.k == 2) = false := by simpa using hk2
                clear hk2
                by_cases hk3 : x.k = 3
                · have hq3 : (x.k == 3) = true := by simpa using hk3
                  clear hk3
                  obtain ⟨ea, hea⟩ : ∃ ea, telA isM T x.l = ea := ⟨_, rfl⟩
                  obtain ⟨eg, heg⟩ : ∃ eg, telG isM T x.l = eg := ⟨_, rfl⟩
                  obtain ⟨eq, heq⟩ : ∃ eq, telB isM T x.l = eq := ⟨_, rfl⟩
                  obtain ⟨ee, hee⟩ : ∃ ee, telE T x.l = ee := ⟨_, rfl⟩
                  have HE : Hid (telA isM T x.l = ea ∧ telG isM T x.l = eg ∧ telB isM T x.l = eq ∧ telE T x.l = ee) := ⟨hea, heg, heq, hee⟩
                  clear hea heg heq hee
                  obtain ⟨T', hT'⟩ : ∃ T', telS ackX T x.l = T' := ⟨_, rfl⟩
                  have HD : Hid (True ∧ telS ackX T x.l = T' ∧ atI T' (n : Int) = some ⟨(some (some false)), (n : Int), 1⟩) := ⟨trivial, hT', by rw [← hT', tel_other ackX T HL.out (by omega)]; exact HT.out⟩
                  clear hT'
                  go_wp2_with fail
                  refine Calls.mono (ack_is S3.out x.l HE.out.1 HE.out.2.1 HE.out.2.2.1 HE.out.2.2.2 HD.out.2.1) ?_
                  rintro e w4 ⟨rfl, s4⟩
                  have S4 := hid s4.drop2
                  clear s4 S3 k0 k1 k2 k3
                  go_wp2
                  go_round
                  case rel => exact ⟨i + 1, T', by omega, by go_num, HD.out.2.2, S4.out⟩
                  case measure => simp [intOf]; omega
                · have hq3 : (x.k == 3) = false := by simpa using hk3
                  clear hk3
                  by_cases hk0 : x.k = 0
                  · have hq0 : (x.k == 0) = true := by simpa using hk0
                    clear hk0
                    obtain ⟨E, hE⟩ : ∃ E, bindE T x.l x.a = E := ⟨_, rfl⟩
                    obtain ⟨T', hT'⟩ : ∃ T', bindS T x.l x.a x.g = T' := ⟨_, rfl⟩
                    have HD : Hid (bindE T x.l x.a = E ∧ bindS T x.l x.a x.g = T' ∧ atI T' (n : Int) = some ⟨(some (some false)), (n : Int), 1⟩) := ⟨hE, hT', by rw [← hT', bind_other T x.a x.g HL.out (by omega)]; exact HT.out⟩
                    clear hE hT'
                    go_wp2_with fail
                    refine Calls.mono (bind_is S3.out x.l x.a x.g HD.out.1 HD.out.2.1) ?_
                    rintro e w4 ⟨rfl, s4⟩
                    have S4 := hid s4.drop2
                    clear s4 S3 k0 k1 k2 k3
                    go_wp2
                    go_round
                    case rel => exact ⟨i + 1, T', by omega, by go_num, HD.out.2.2, S4.out⟩
                    case measure => simp [intOf]; omega
                  · have hq0 : (x.k == 0) = false := by simpa using hk0
                    clear hk0
                    have S4 := hid S3.out.drop2
                    clear S3
                    go_wp2
                    go_round
                    case rel => exact ⟨i + 1, T, by omega, by go_num, HT.out, S4.out⟩
                    case measure => simp [intOf]; omega
        · have hex : (¬ ((i : Int) < (X.length : Int))) ∨ ((i : Int) < (X.length : Int) ∧ ¬ ((i : Int) < 40)) := by omega
          clear hgo
          generalize hnx : X.length = nX at *
          rcases hex with h | ⟨h, h2⟩
          all_goals
            go_wp2_with fail
            refine Calls.mono (open_is S1.out (n : Int) (td_open HT.out).1 (td_open HT.out).2) ?_
            rintro e w2 ⟨rfl, sw2⟩
            have S2 := hid sw2
            clear sw2 S1
            go_wp2_with (go_at_call 22; refine Calls.mono (fixed_sep S2.out) ?_; rintro e wf ⟨rfl, sf⟩; have SF := hid sf; clear sf S2)
            go_ret
            exact ⟨rfl, by rw [HR.out]; exact SF.out.low⟩
open Go.ChangeShapes Go.WideShapes Go.ChangeAt Go.RowKit Go.Joins

/-! ### From the walk to the statement -/
set_option maxRecDepth 100000 in
theorem lifted (os : Os) (started : os.Started) (H : Type) (enc : TypeId × Value → H) :
    ReturnsInHanded {} Try.checked os 6 .any (Rows.irqApartSpec.pre6 enc Try.prog Try.f6 Rows.irqApartRow.domain false) (Rows.irqApartSpec.post enc Try.prog Try.f6 false true false false) := by
  refine returnsInHanded_of_change (C := Try.checked) own started (by kernel_rfl) Try.func6
    (ChangeSpec.witness6 (enc := enc) (C := Try.checked) false ⟨#[], #[.slice none 0 0, .int .i64 0], []⟩ 8 (by kernel_rfl) (by kernel_rfl) (by kernel_rfl) (by kernel_rfl)) ?_
  intro W base args ds gs before hval0 hW hcnd _
  have hval : ∀ (j : Nat) t v, Try.f6.params[j]? = some t → args[j]? = some v → Value.okWide Try.prog W .any base t v := hval0
  have hW' := hW
  obtain ⟨p, q, hA0, hV, rfl, hfz, hnd⟩ := hW
  have hA : DataW.TrodAll enc Try.prog W 0 (fun _ => true) true Try.f6.params.toList args.toList ds p := hA0
  rw [Try.params6] at hA hval
  obtain ⟨v0, vs0, d0, ds0, p0, q0, hargs, rfl, rfl, h0, r0⟩ := trodAll_cons hA
  obtain ⟨v1, vs1, d1, ds1, p1, q1, rfl, rfl, rfl, h1, r1⟩ := trodAll_cons r0
  obtain ⟨rfl, rfl, rfl⟩ := trodAll_nil r1
  obtain rfl : args = #[v0, v1] := by cases args; simp_all
  obtain ⟨rfl, rfl⟩ := trodVars_none hV
  have k0 := h0
  have lt0 : ∀ x ∈ p0, x.block < W.heap.size := by obtain ⟨m, hm⟩ := k0; exact DataW.trod_lt m _ _ _ hm
  obtain ⟨a0, l0, c0, rfl, t0, s0⟩ := open_ops (hval 0 22 v0 rfl rfl) h0
  have k1 := h1
  have lt1 : ∀ x ∈ p1, x.block < W.heap.size := by obtain ⟨m, hm⟩ := k1; exact DataW.trod_lt m _ _ _ hm
  obtain ⟨a1, rfl, _, _, w1⟩ := open_int Try.underlying3 (hval 1 3 v1 rfl rfl) h1
  clear hA0 hval0
  refine (walk a0 l0 c0 a1 W t0 s0 (bounds_i64 w1)).mono fun e W' ⟨he, bel⟩ => ?_
  subst he
  exact ⟨_, rfl, _, _, _, [], _, [], hW', trodAll_mk1 (shut_bool Try.underlying4 _), (trodAll_cons_mk (Below.trod laidOut (by kernel_rfl) (of_decide_eq_true (by kernel_rfl)) k0 bel lt0) (trodAll_cons_mk (Below.trod laidOut (by kernel_rfl) (of_decide_eq_true (by kernel_rfl)) k1 bel lt1) trodAll_mk0)), rfl, bel.frame _, fun h => by cases h⟩
theorem over : Rows.irqApartRow.holds Try.pinned (OpenSpec.ofChange Rows.irqApartSpec) :=
  OpenClaim.holds_of_wide 6 Try.f6 rfl rfl rfl rfl rfl rfl rfl ⟨rfl, rfl, rfl, rfl, rfl⟩ rfl rfl rfl rfl rfl (by kernel_rfl) Try.func6 (by kernel_rfl)
    (of_decide_eq_true (by kernel_rfl)) (by unfold Func.isWrapper; first | (rw [if_pos (by decide +kernel)]; kernel_rfl) | (rw [if_neg (by decide +kernel)]; exact ⟨rfl, rfl⟩))
    (fun os started H enc _ => lifted os started H enc)
end Go.Proofs.Ytgkcbcigdjappaa.irqApart
namespace Go.Proofs.Ytgkcbcigdjappaa
/-- THE STATEMENT. -/
theorem irqApart_said : Rows.IrqApartSaid := irqApart.over
#print axioms irqApart_said
end Go.Proofs.Ytgkcbcigdjappaa

/-
  NotifyQuick: who does not wait leaves all as it is, unless it was signalled; no condition.
-/
import Derived.Test.YtbkkpfmhcfkfbaaVLaw
import Derived.Test.YtbkkpfmhcfkfbaaVPure
import Derived.Deep.Cut
import Derived.Deep.CutRange
namespace Go.Proofs.Ytbkkpfmhcfkfbaa.notifyQuick
open Go.RowKit Go.Deep Go.Shelf
theorem row_some {w : World} {a : Option Addr} {n c : Nat} {L : List Int} (h : RowI w (.slice a n c) L) {i : Nat} (hi : i < L.length) : ∃ g, a = some ⟨g, 0, none⟩ := by
  obtain ⟨a', c', ev, -, -, hg, -⟩ := Row.slice h
  cases ev
  exact hg i hi
set_option maxHeartbeats 8000000 in
set_option maxRecDepth 100000 in
theorem walk (ao : Option Addr) (X : List Int) (cap : Nat) (n : Int) (w : World) (hX : Ints w ao X) (_hxl : X.length ≤ 9223372036854775807) (_hn : -9223372036854775808 ≤ n ∧ n ≤ 9223372036854775807) :
    Calls Try.prog 7 #[.slice ao X.length cap, .int .i64 n] w fun e w' => e = .returned (.bool true) ∧ Below w.heap.size w w' := by
  have HX := hid hX
  clear hX _hn
  go_enter Try.func7, Try.ntmps7
  go_wp2_with fail
  refine Calls.mono (new_sep (sep_nil w)) ?_
  rintro e w1 ⟨p, v, rfl, s1⟩
  have S1 := hid s1
  clear s1
  generalize hr : w.heap.size = r at *
  have HR := hid hr
  clear hr
  go_wp2_with fail
  go_loopw [6, 7] (fun s6 s7 wr => ∃ (k : Nat) (v : Value) (L : List Int), k ≤ 20 ∧ s7 = .int .i64 k ∧ L.length ≤ k ∧ s6 = .bool (L.contains n) ∧ Sep w r wr [ntT p v (lnS L)]) (fun _ s7 _ => 20 - (intOf s7).toNat)
  case atStart => exact ⟨0, v, [], by omega, rfl, by simp, by rfl, S1.out⟩
  case round =>
    clear S1
    obtain ⟨k, v, L, hk, rfl, hL, rfl, s1⟩ := hrel
    have S1 := hid s1
    clear s1
    by_cases hgo : k < X.length ∧ k < 20
    · obtain ⟨hlt, h40⟩ := hgo
      obtain ⟨-, b, a, rfl, c0⟩ := Ints.at (SeeK.below HX.out S1.out.low (by rw [HR.out]; exact Nat.le_refl _)) (List.getElem?_eq_getElem hlt)
      have HC9 : Hid (∀ W, Below r w W → W.cell? ⟨b, a + k, none⟩ = some (.int .i64 X[k])) := fun W hW => by
        obtain ⟨-, b', a', e, c⟩ := Ints.at (SeeK.below HX.out hW (by rw [HR.out]; exact Nat.le_refl _)) (List.getElem?_eq_getElem hlt)
        cases e
        exact c
      generalize hx : X[k] = x at *
      have HSl := hid hL
      clear hx hL
      generalize hn : X.length = nx at *
      have hltz : (k : Int) < (nx : Int) := by omega
      have h40z : (k : Int) < 20 := by omega
      go_wp2_with fail
      obtain ⟨e1, e2, e3, e4, e5⟩ := ln_wait L x
      obtain ⟨E, hE⟩ : ∃ E, waitE (lnS L) x = E := ⟨_, rfl⟩
      have HW : Hid (waitW (lnS L) x = 0 ∧ waitB (lnS L) x = false ∧ waitE (lnS L) x = E ∧ waitS (lnS L) x true = lnS (addL L x)) := ⟨e1, e2, hE, e3⟩
      have HA := hid (add_len L x)
      clear e1 e2 e3 e4 e5 hE
      refine Calls.mono (wait_is S1.out x true (by have := HSl.out; show L.length ≤ 1000; omega) HW.out.1 HW.out.2.1 HW.out.2.2.1 HW.out.2.2.2) ?_
      rintro e w2 ⟨rfl, v2, s2⟩
      have S2 := hid s2
      have hadd := add_has L x n
      have c5 : w2.cell? ⟨b, a + k, none⟩ = some (.int .i64 x) := HC9.out w2 s2.low
      clear s2 S1
      obtain ⟨β, hβ⟩ : ∃ β, L.contains n = β := ⟨_, rfl⟩
      rw [hβ] at hadd
      have HAd := hid hadd
      rw [hβ]
      clear hadd hβ
      cases β with
      | true =>
        go_wp2
        go_round
        case rel => exact ⟨k + 1, v2, _, by omega, by go_num, by have := HA.out; have := HSl.out; omega, by rw [HAd.out, Bool.true_or], S2.out⟩
        case measure => simp [intOf]; omega
      | false =>
        go_wp2
        go_round
        case rel => exact ⟨k + 1, v2, _, by omega, by go_num, by have := HA.out; have := HSl.out; omega, by rw [HAd.out, Bool.false_or], S2.out⟩
        case measure => simp [intOf]; omega
    · have hex : (¬ ((k : Int) < (X.length : Int))) ∨ ((k : Int) < (X.length : Int) ∧ ¬ ((k : Int) < 20)) := by omega
      have HSl : Hid (L.length ≤ 20) := (Nat.le_trans hL hk)
      have HGd : Hid L.Nodup := S1.out.good.one
      clear hgo hL
      generalize hn : X.length = nX at *
      rcases hex with h | ⟨h, h2⟩
      all_goals
        obtain ⟨β, hβ⟩ : ∃ β, L.contains n = β := ⟨_, rfl⟩
        rw [hβ]
        obtain ⟨e1, e2, -, e4, e5⟩ := ln_wait L n
        rw [hβ] at e5
        have HE : Hid (waitW (lnS L) n = 0 ∧ waitB (lnS L) n = false ∧ waitS (lnS L) n false = lnS L ∧ waitE (lnS L) n = if β = true then 120 else 0) := ⟨e1, e2, e4, e5⟩
        have HL1 : Hid ((lnS L).l.length ≤ 1000) := by show L.length ≤ 1000; have := HSl.out; omega
        clear e1 e2 e4 e5 hβ
        go_wp2_with fail
        refine Calls.mono (waits_is (L := L) S1.out HL1.out rfl) ?_
        rintro e w2 ⟨a2, c2, rfl, s2⟩
        have S2 := hid s2
        clear s2 S1
        cases β
        all_goals
          go_wp2_with fail
          refine Calls.mono (wait_is S2.out n false HL1.out HE.out.1 HE.out.2.1 HE.out.2.2.2 HE.out.2.2.1) ?_
          rintro e w3 ⟨rfl, v3, s3⟩
          simp only [Bool.false_eq_true, if_false, if_true]
          have S3 := hid s3
          clear s3 S2
          go_wp2_with fail
          refine Calls.mono (waits_is (L := L) S3.out HL1.out rfl) ?_
          rintro e w4 ⟨a4, c4, rfl, s4⟩
          have S4 := hid s4
          clear s4 S3
          generalize hN : L.length = N at *
          have HNL := hid hN
          clear hN
          go_wp2_with fail
          go_loopw [13] (fun s13 wr => ∃ (j : Nat), j ≤ N ∧ s13 = .int .i64 j ∧ Sep w r wr [ntT p v3 (lnS L), lstI (.slice a4 N c4) L, lstI (.slice a2 N c2) L]) (fun s13 _ => N - (intOf s13).toNat)
          case atStart => exact ⟨0, Nat.zero_le _, rfl, S4.out⟩
          case round =>
            clear S4
            obtain ⟨j, hj, rfl, s5⟩ := hrel
            by_cases hjm : j < N
            · have hjmz : (j : Int) < (N : Int) := by omega
              have hj20 : j < 20 := by have := HSl.out; omega
              have hjL : j < L.length := by have := HNL.out; omega
              obtain ⟨x, hx⟩ : ∃ x, L[j]? = some x := ⟨_, List.getElem?_eq_getElem hjL⟩
              have row4 : RowI wr (.slice a4 N c4) L := (s5.each (lstI (.slice a4 N c4) L) (by simp)).1
              have row2 : RowI wr (.slice a2 N c2) L := (s5.each (lstI (.slice a2 N c2) L) (by simp)).1
              obtain ⟨g4, rfl⟩ := row_some row4 (i := j) hjL
              obtain ⟨g2, rfl⟩ := row_some row2 (i := j) hjL
              have d4 := RowI.cell row4 hx
              have d2 := RowI.cell row2 hx
              have S5 := hid s5
              clear s5 row4 row2 hx hjL
              go_wp2_with fail
              go_quiet (fail)
              go_wp2
              go_round
              case rel => exact ⟨j + 1, by omega, by go_num, S5.out.drewN _⟩
              case measure => simp [intOf]; omega
            · have hjmz : ¬ (j : Int) < (N : Int) := by omega
              have S5 := hid s5
              clear s5 hjm
              go_wp2_with (first
                | (go_at_call 21; refine Calls.mono (fixed_sep S5.out) ?_; rintro e wf ⟨rfl, sf⟩; have SF := hid sf; clear sf S5))
              go_ret
              exact ⟨rfl, by rw [HR.out]; exact SF.out.low⟩
open Go.ChangeShapes Go.WideShapes Go.ChangeAt Go.RowKit Go.Joins

/-! ### From the walk to the statement -/
set_option maxRecDepth 100000 in
theorem lifted (os : Os) (started : os.Started) (H : Type) (enc : TypeId × Value → H) :
    ReturnsInHanded {} Try.checked os 7 .any (Rows.notifyQuickSpec.pre6 enc Try.prog Try.f7 Rows.notifyQuickRow.domain false) (Rows.notifyQuickSpec.post enc Try.prog Try.f7 false true false false) := by
  refine returnsInHanded_of_change (C := Try.checked) own started (by kernel_rfl) Try.func7
    (ChangeSpec.witness6 (enc := enc) (C := Try.checked) false ⟨#[], #[.slice none 0 0, .int .i64 0], []⟩ 8 (by kernel_rfl) (by kernel_rfl) (by kernel_rfl) (by kernel_rfl)) ?_
  intro W base args ds gs before hval0 hW hcnd _
  have hval : ∀ (j : Nat) t v, Try.f7.params[j]? = some t → args[j]? = some v → Value.okWide Try.prog W .any base t v := hval0
  have hW' := hW
  obtain ⟨p, q, hA0, hV, rfl, hfz, hnd⟩ := hW
  have hA : DataW.TrodAll enc Try.prog W 0 (fun _ => true) true Try.f7.params.toList args.toList ds p := hA0
  rw [Try.params7] at hA hval
  obtain ⟨v0, vs0, d0, ds0, p0, q0, hargs, rfl, rfl, h0, r0⟩ := trodAll_cons hA
  obtain ⟨v1, vs1, d1, ds1, p1, q1, rfl, rfl, rfl, h1, r1⟩ := trodAll_cons r0
  obtain ⟨rfl, rfl, rfl⟩ := trodAll_nil r1
  obtain rfl : args = #[v0, v1] := by cases args; simp_all
  obtain ⟨rfl, rfl⟩ := trodVars_none hV
  have k0 := h0
  have lt0 : ∀ x ∈ p0, x.block < W.heap.size := by obtain ⟨m, hm⟩ := k0; exact DataW.trod_lt m _ _ _ hm
  obtain ⟨a0, l0, c0, rfl, t0, s0⟩ := open_ints (hval 0 27 v0 rfl rfl) h0
  have k1 := h1
  have lt1 : ∀ x ∈ p1, x.block < W.heap.size := by obtain ⟨m, hm⟩ := k1; exact DataW.trod_lt m _ _ _ hm
  obtain ⟨a1, rfl, _, _, w1⟩ := open_int Try.underlying3 (hval 1 3 v1 rfl rfl) h1
  clear hA0 hval0
  refine (walk a0 l0 c0 a1 W t0 s0 (bounds_i64 w1)).mono fun e W' ⟨he, bel⟩ => ?_
  subst he
  exact ⟨_, rfl, _, _, _, [], _, [], hW', trodAll_mk1 (shut_bool Try.underlying4 _), (trodAll_cons_mk (Below.trod laidOut (by kernel_rfl) (of_decide_eq_true (by kernel_rfl)) k0 bel lt0) (trodAll_cons_mk (Below.trod laidOut (by kernel_rfl) (of_decide_eq_true (by kernel_rfl)) k1 bel lt1) trodAll_mk0)), rfl, bel.frame _, fun h => by cases h⟩
theorem over : Rows.notifyQuickRow.holds Try.pinned (OpenSpec.ofChange Rows.notifyQuickSpec) :=
  OpenClaim.holds_of_wide 7 Try.f7 rfl rfl rfl rfl rfl rfl rfl ⟨rfl, rfl, rfl, rfl, rfl⟩ rfl rfl rfl rfl rfl (by kernel_rfl) Try.func7 (by kernel_rfl)
    (of_decide_eq_true (by kernel_rfl)) (by unfold Func.isWrapper; first | (rw [if_pos (by decide +kernel)]; kernel_rfl) | (rw [if_neg (by decide +kernel)]; exact ⟨rfl, rfl⟩))
    (fun os started H enc _ => lifted os started H enc)
end Go.Proofs.Ytbkkpfmhcfkfbaa.notifyQuick
namespace Go.Proofs.Ytbkkpfmhcfkfbaa
/-- THE STATEMENT. -/
theorem notifyQuick_said : Rows.NotifyQuickSaid := notifyQuick.over
#print axioms notifyQuick_said
end Go.Proofs.Ytbkkpfmhcfkfbaa

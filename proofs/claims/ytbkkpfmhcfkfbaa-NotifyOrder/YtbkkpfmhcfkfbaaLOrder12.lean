/-
  NotifyOrder: those that wait get what is signalled, each one word, in the order in which they came; who was taken back gets none; no condition.
-/
import Derived.Test.YtbkkpfmhcfkfbaaVLaw
import Derived.Test.YtbkkpfmhcfkfbaaVPure
import Derived.Deep.Cut
import Derived.Deep.CutRange
namespace Go.Proofs.Ytbkkpfmhcfkfbaa.notifyOrder
open Go.RowKit Go.Deep Go.Shelf
theorem row_some {w : World} {a : Option Addr} {n c : Nat} {L : List Int} (h : RowI w (.slice a n c) L) {i : Nat} (hi : i < L.length) : ∃ g, a = some ⟨g, 0, none⟩ := by
  obtain ⟨a', c', ev, -, -, hg, -⟩ := Row.slice h
  cases ev
  exact hg i hi
set_option maxHeartbeats 8000000 in
set_option maxRecDepth 100000 in
theorem walk (ao : Option Addr) (X : List Int) (cap : Nat) (n : Int) (w : World) (hX : Ints w ao X) (_hxl : X.length ≤ 9223372036854775807) (_hn : -9223372036854775808 ≤ n ∧ n ≤ 9223372036854775807) :
    Calls Try.prog 5 #[.slice ao X.length cap, .int .i64 n] w fun e w' => e = .returned (.bool true) ∧ Below w.heap.size w w' := by
  have HX := hid hX
  clear hX _hn
  go_enter Try.func5, Try.ntmps5
  go_wp2_with fail
  refine Calls.mono (new_sep (sep_nil w)) ?_
  rintro e w1 ⟨p, v, rfl, s1⟩
  have S1 := hid s1
  clear s1
  generalize hr : w.heap.size = r at *
  have HR := hid hr
  clear hr
  go_wp2_with fail
  go_loopw [6] (fun s6 wr => ∃ (k : Nat) (v : Value) (L : List Int), k ≤ 30 ∧ s6 = .int .i64 k ∧ L.length ≤ k ∧ Sep w r wr [ntT p v (lnS L)]) (fun s6 _ => 30 - (intOf s6).toNat)
  case atStart => exact ⟨0, v, [], by omega, rfl, by simp, S1.out⟩
  case round =>
    clear S1
    obtain ⟨k, v, L, hk, rfl, hL, s1⟩ := hrel
    have S1 := hid s1
    clear s1
    by_cases hgo : k < X.length ∧ k < 30
    · obtain ⟨hlt, h40⟩ := hgo
      obtain ⟨-, b, a, rfl, c0⟩ := Ints.at (SeeK.below HX.out S1.out.low (by rw [HR.out]; exact Nat.le_refl _)) (List.getElem?_eq_getElem hlt)
      generalize hx : X[k] = x at *
      have HSl := hid hL
      clear hx hL
      generalize hn : X.length = nx at *
      have hltz : (k : Int) < (nx : Int) := by omega
      have h40z : (k : Int) < 30 := by omega
      go_wp2_with fail
      obtain ⟨e1, e2, e3, e4, e5⟩ := ln_wait L x
      obtain ⟨E, hE⟩ : ∃ E, waitE (lnS L) x = E := ⟨_, rfl⟩
      have HW : Hid (waitW (lnS L) x = 0 ∧ waitB (lnS L) x = false ∧ waitE (lnS L) x = E ∧ waitS (lnS L) x true = lnS (addL L x)) := ⟨e1, e2, hE, e3⟩
      have HA := hid (add_len L x)
      clear e1 e2 e3 e4 e5 hE
      refine Calls.mono (wait_is S1.out x true (by have := HSl.out; show L.length ≤ 1000; omega) HW.out.1 HW.out.2.1 HW.out.2.2.1 HW.out.2.2.2) ?_
      rintro e w2 ⟨rfl, v2, s2⟩
      have S2 := hid s2
      clear s2 S1
      go_wp2
      go_round
      case rel => exact ⟨k + 1, v2, _, by omega, by go_num, by have := HA.out; have := HSl.out; omega, S2.out⟩
      case measure => simp [intOf]; omega
    · have hex : (¬ ((k : Int) < (X.length : Int))) ∨ ((k : Int) < (X.length : Int) ∧ ¬ ((k : Int) < 30)) := by omega
      have HSl : Hid (L.length ≤ 30) := (Nat.le_trans hL hk)
      have HGd : Hid L.Nodup := S1.out.good.one
      clear hgo hL
      generalize hn : X.length = nX at *
      rcases hex with h | ⟨h, h2⟩
      all_goals
        go_wp2_with fail
        refine Calls.mono (waits_is (L := L) S1.out (by have := HSl.out; show L.length ≤ 1000; omega) rfl) ?_
        rintro e w2 ⟨a2, c2, rfl, s2⟩
        have S2 := hid s2
        clear s2 S1
        obtain ⟨β, hβ⟩ : ∃ β, L.contains n = β := ⟨_, rfl⟩
        have hless := out_less L n
        rw [hβ] at hless
        have HB := hid hβ
        have HLess := hid hless
        have HOl := hid (out_len L n)
        clear hβ hless
        go_wp2_with fail
        refine Calls.mono (cancel_is (q := β) (T := lnS (outL L n)) S2.out n (by have := HSl.out; show L.length ≤ 1000; omega) HB.out rfl) ?_
        rintro e w3 ⟨rfl, v3, s3⟩
        have S3 := hid s3
        clear s3 S2
        generalize hN : L.length = N at *
        have HNL := hid hN
        clear hN
        go_wp2_with fail
        go_loopw [9, 10] (fun s9 s10 wr => ∃ (j : Nat) (v4 : Value), j ≤ N ∧ s10 = .int .i64 j ∧ s9 = .int .i64 ((outL (L.take j) n).length : Nat) ∧ Sep w r wr [ntT p v4 (lnS (outL (L.drop j) n)), lstI (.slice a2 N c2) L]) (fun _ s10 _ => N - (intOf s10).toNat)
        case atStart => exact ⟨0, v3, Nat.zero_le _, rfl, by simp [outL], S3.out⟩
        case round =>
          clear S3
          obtain ⟨j, v4, hj, rfl, rfl, s4⟩ := hrel
          by_cases hjm : j < N
          · have hjmz : (j : Int) < (N : Int) := by omega
            have hj30 : j < 30 := by have := HSl.out; omega
            have hjL : j < L.length := by have := HNL.out; omega
            obtain ⟨x, hx⟩ : ∃ x, L[j]? = some x := ⟨_, List.getElem?_eq_getElem hjL⟩
            have row : RowI wr (.slice a2 N c2) L := (s4.each (lstI (.slice a2 N c2) L) (by simp)).1
            obtain ⟨g, rfl⟩ := row_some row (i := j) hjL
            have c4 := RowI.cell row hx
            by_cases hxn : x = n
            · subst hxn
              have hq : (x == x) = true := by simp
              rw [out_drop_eq hx] at s4
              have HT := hid (out_take_eq hx)
              have S4 := hid s4
              clear s4 row hx hjL
              generalize hKk : (outL (L.take j) x).length = K at *
              have HK := hid hKk
              clear hKk
              go_wp2
              go_round
              case rel => exact ⟨j + 1, v4, by omega, by go_num, by rw [HT.out, HK.out], S4.out⟩
              case measure => simp [intOf]; omega
            · have hq : (x == n) = false := by simpa using hxn
              rw [out_drop_ne hx hq] at s4
              have HT := hid (out_take_ne hx hq)
              have hln : (x :: outL (L.drop (j + 1)) n).length ≤ 1000 := by
                have := out_len (L.drop (j + 1)) n
                rw [List.length_drop] at this
                have := HNL.out
                have := HSl.out
                simp
                omega
              have HLn := hid hln
              have HX4 := hid hx
              have S4 := hid s4
              clear s4 row hx hxn hln hjL
              have hKl : (outL (L.take j) n).length ≤ 30 := by have := out_len (L.take j) n; rw [List.length_take] at this; omega
              generalize hKk : (outL (L.take j) n).length = K at *
              have HK := hid hKk
              clear hKk
              have hw1 : IntKind.u64.wrap (j : Int) = j := by rw [IntKind.wrap_u64]; omega
              have hw2 : IntKind.u64.wrap ((j : Int) + 1) = (j : Int) + 1 := by rw [IntKind.wrap_u64]; omega
              have HU : Hid (U64 ((j : Int) + 1)) := by show U64 _; unfold U64; omega
              go_wp2_with fail
              refine Calls.mono (signal_is (a := x) (x := (j : Int) + 1) (q := true) (T := lnS (outL (L.drop (j + 1)) n)) S4.out ((j : Int) + 1) HU.out HLn.out rfl rfl rfl rfl) ?_
              rintro e w5 ⟨rfl, v5, s5⟩
              have row : RowI w5 (.slice (some ⟨g, 0, none⟩) N c2) L := (s5.each (lstI (.slice (some ⟨g, 0, none⟩) N c2) L) (by simp)).1
              have c5 := RowI.cell row HX4.out
              have S5 := hid s5
              clear s5 S4 row HX4 HLn c4
              go_wp2
              go_round
              case rel => exact ⟨j + 1, v5, by omega, by go_num, by rw [HT.out]; go_num, S5.out⟩
              case measure => simp [intOf]; omega
          · have hjmz : ¬ (j : Int) < (N : Int) := by omega
            obtain rfl : j = N := by omega
            have e4 : L.drop j = [] := List.drop_of_length_le (by have := HNL.out; omega)
            have e5 : L.take j = L := List.take_of_length_le (by have := HNL.out; omega)
            rw [e4] at s4
            rw [e5]
            have S4 : Hid (Sep w r wr [ntT p v4 (lnS []), lstI (.slice a2 j c2) L]) := s4
            have hless := HLess.out
            clear s4 e4 e5 hjm
            generalize (outL L n).length = K at *
            have hz : decide ((K : Int) < (j : Int)) = β := by rw [← hless]; simp
            subst hz
            go_wp2_with (first
              | (go_at_call 19; refine Calls.mono (waits_is (L := []) S4.out (by simp [lnS]) rfl) ?_; rintro e w7 ⟨al, cl, rfl, s7⟩; simp only [List.length_nil] at s7 ⊢; have S7 := hid s7; clear s7 S4)
              | (go_at_call 21; refine Calls.mono (fixed_sep S7.out) ?_; rintro e wf ⟨rfl, sf⟩; have SF := hid sf; clear sf S7))
            go_ret
            exact ⟨rfl, by rw [HR.out]; exact SF.out.low⟩
open Go.ChangeShapes Go.WideShapes Go.ChangeAt Go.RowKit Go.Joins

/-! ### From the walk to the statement -/
set_option maxRecDepth 100000 in
theorem lifted (os : Os) (started : os.Started) (H : Type) (enc : TypeId × Value → H) :
    ReturnsInHanded {} Try.checked os 5 .any (Rows.notifyOrderSpec.pre6 enc Try.prog Try.f5 Rows.notifyOrderRow.domain false) (Rows.notifyOrderSpec.post enc Try.prog Try.f5 false true false false) := by
  refine returnsInHanded_of_change (C := Try.checked) own started (by kernel_rfl) Try.func5
    (ChangeSpec.witness6 (enc := enc) (C := Try.checked) false ⟨#[], #[.slice none 0 0, .int .i64 0], []⟩ 8 (by kernel_rfl) (by kernel_rfl) (by kernel_rfl) (by kernel_rfl)) ?_
  intro W base args ds gs before hval0 hW hcnd _
  have hval : ∀ (j : Nat) t v, Try.f5.params[j]? = some t → args[j]? = some v → Value.okWide Try.prog W .any base t v := hval0
  have hW' := hW
  obtain ⟨p, q, hA0, hV, rfl, hfz, hnd⟩ := hW
  have hA : DataW.TrodAll enc Try.prog W 0 (fun _ => true) true Try.f5.params.toList args.toList ds p := hA0
  rw [Try.params5] at hA hval
  obtain ⟨v0, vs0, d0, ds0, p0, q0, hargs, rfl, rfl, h0, r0⟩ := trodAll_cons hA
  obtain ⟨v1, vs1, d1, ds1, p1, q1, rfl, rfl, rfl, h1, r1⟩ := trodAll_cons r0
  obtain ⟨rfl, rfl, rfl⟩ := trodAll_nil r1
  obtain rfl : args = #[v0, v1] := by cases args; simp_all
  obtain ⟨rfl, rfl⟩ := trodVars_none hV
  have k0 := h0
  have lt0 : ∀ x ∈ p0, x.block < W.heap.size := by obtain ⟨m, hm⟩ := k0; exact DataW.trod_lt m _ _ _ hm
  obtain ⟨a0, l0, c0, rfl, t0, s0⟩ := open_ints (hval 0 27 v0 rfl rfl) h0
  have k1 := h1
  have lt1 : ∀ x ∈ p1, x.block < W.heap.size := by obtain ⟨m, hm⟩ := k1; exact DataW.trod_lt m _ _ _ hm
  obtain ⟨a1, rfl, _, _, w1⟩ := open_int Try.underlying3 (hval 1 3 v1 rfl rfl) h1
  clear hA0 hval0
  refine (walk a0 l0 c0 a1 W t0 s0 (bounds_i64 w1)).mono fun e W' ⟨he, bel⟩ => ?_
  subst he
  exact ⟨_, rfl, _, _, _, [], _, [], hW', trodAll_mk1 (shut_bool Try.underlying4 _), (trodAll_cons_mk (Below.trod laidOut (by kernel_rfl) (of_decide_eq_true (by kernel_rfl)) k0 bel lt0) (trodAll_cons_mk (Below.trod laidOut (by kernel_rfl) (of_decide_eq_true (by kernel_rfl)) k1 bel lt1) trodAll_mk0)), rfl, bel.frame _, fun h => by cases h⟩
theorem over : Rows.notifyOrderRow.holds Try.pinned (OpenSpec.ofChange Rows.notifyOrderSpec) :=
  OpenClaim.holds_of_wide 5 Try.f5 rfl rfl rfl rfl rfl rfl rfl ⟨rfl, rfl, rfl, rfl, rfl⟩ rfl rfl rfl rfl rfl (by kernel_rfl) Try.func5 (by kernel_rfl)
    (of_decide_eq_true (by kernel_rfl)) (by unfold Func.isWrapper; first | (rw [if_pos (by decide +kernel)]; kernel_rfl) | (rw [if_neg (by decide +kernel)]; exact ⟨rfl, rfl⟩))
    (fun os started H enc _ => lifted os started H enc)
end Go.Proofs.Ytbkkpfmhcfkfbaa.notifyOrder
namespace Go.Proofs.Ytbkkpfmhcfkfbaa
/-- THE STATEMENT. -/
theorem notifyOrder_said : Rows.NotifyOrderSaid := notifyOrder.over
#print axioms notifyOrder_said
end Go.Proofs.Ytbkkpfmhcfkfbaa

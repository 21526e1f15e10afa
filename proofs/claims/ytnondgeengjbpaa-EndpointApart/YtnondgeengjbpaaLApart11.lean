/-
  EndpointApart: a copy and its original go their own ways; no condition.
-/
import Derived.Test.YtnondgeengjbpaaJLaw
import Derived.Test.YtnondgeengjbpaaJCopy
import Derived.Deep.Cut
import Derived.Deep.CutRange
namespace Go.Proofs.Ytnondgeengjbpaa.endpointApart
open Go.RowKit Go.Deep Go.Shelf
set_option maxHeartbeats 8000000 in
set_option maxRecDepth 100000 in
theorem walk (ao : Option Addr) (X : List Oc) (cap : Nat) (o : Oc) (w : World) (hX : Ops w ao X) (_hxl : X.length ≤ 9223372036854775807) (_ho : o.Fits) :
    Calls Try.prog 8 #[.slice ao X.length cap, encO o] w fun e w' => e = .returned (.bool true) ∧ Below w.heap.size w w' := by
  have HX := hid hX
  unfold encO
  clear hX _ho
  go_enter Try.func8, Try.ntmps8
  go_wp2_with fail
  refine Calls.mono (new_sep ((sep_nil w).box (objO o))) ?_
  rintro e w1 ⟨p, v, rfl, s1⟩
  have S1 := hid s1
  clear s1
  generalize hr : w.heap.size = r at *
  have HR := hid hr
  clear hr
  go_wp2_with fail
  go_loopw [6] (fun i wr => ∃ (k : Nat) (v : Value) (S : St), k ≤ 30 ∧ i = .int .i64 k ∧ S.length ≤ k ∧ Sep w r wr [epT p v S, blk r (objO o)]) (fun i _ => 30 - (intOf i).toNat)
  case atStart => exact ⟨0, v, [], by omega, rfl, by simp, S1.out⟩
  case round =>
    clear S1
    obtain ⟨k, v, S, hk, rfl, hS, s1⟩ := hrel
    have S1 := hid s1
    clear s1
    by_cases hgo : k < X.length ∧ k < 30
    · obtain ⟨hlt, h40⟩ := hgo
      obtain ⟨-, b, a, rfl, c0, c1, c2, c3, c4, c5, c6, c7, c8, c9⟩ := Ops.at (SeeK.below HX.out S1.out.low (by rw [HR.out]; exact Nat.le_refl _)) (List.getElem?_eq_getElem hlt)
      generalize hx : X[k] = x at *
      have HSl := hid hS
      clear hx hS c0
      generalize hn : X.length = n at *
      have hltz : (k : Int) < (n : Int) := by omega
      have h40z : (k : Int) < 30 := by omega
      have HC := hid (fun (W : World) (s : Sep w r W [epT p v S, blk r (objO o)]) => send_is s x.n x.m x.z (by have := HSl.out; omega) rfl rfl rfl)
      go_wp2_with fail
      go_region_with (go_at_call 10; refine Calls.mono (HC.out _ S1.out.drew) ?_; rintro e w2 ⟨rfl, v2, s2⟩)
      all_goals
        go_wp2
        go_round
        case rel => exact ⟨k + 1, v2, _, by omega, by go_num, by have := send_len S x.n x.m x.z; have := HSl.out; omega, s2⟩
        case measure => simp [intOf]; omega
    · have hex : (¬ ((k : Int) < (X.length : Int))) ∨ ((k : Int) < (X.length : Int) ∧ ¬ ((k : Int) < 30)) := by omega
      have HSl : Hid (S.length ≤ 30) := (Nat.le_trans hS hk)
      clear hgo hS
      generalize hn : X.length = n at *
      rcases hex with h | ⟨h, h2⟩
      all_goals
        go_wp2_with fail
        refine Calls.mono (copy_sep S1.out (by have := HSl.out; omega)) ?_
        rintro e w2 ⟨p2, v2, rfl, s2⟩
        have S2 := hid s2
        clear s2 S1
        obtain ⟨L, hL⟩ : ∃ L, waitsN S = L := ⟨_, rfl⟩
        obtain ⟨β, hβ⟩ : ∃ β, hasB S true = β := ⟨_, rfl⟩
        have HL : Hid (waitsN S = L ∧ hasB S true = β ∧ L.length ≤ 1000) := ⟨hL, hβ, by rw [← hL, waits_len]; have := HSl.out; omega⟩
        clear hL hβ
        go_wp2_with fail
        refine Calls.mono (waits_is S2.out (by have := HSl.out; omega) HL.out.1 HL.out.2.1) ?_
        rintro e w3 ⟨al, cl, rfl, s3⟩
        have S3 := hid s3.third
        clear s3 S2
        go_wp2_with fail
        refine Calls.mono (recv_is S3.out.swap 1099511627776 false (by have := HSl.out; omega) rfl rfl rfl) ?_
        rintro e w4 ⟨rfl, v4, s4⟩
        have S4 := hid s4
        obtain ⟨-, d1, -, -, -, -, -, d7, -, -⟩ := s4.opAt (q := r) (x := o) (by simp)
        have HS4 := hid (recv_len S 1099511627776 false)
        generalize recvM S 1099511627776 = x4 at *
        generalize sendE S 1099511627776 = e4 at *
        generalize recvS S 1099511627776 false = T4 at *
        clear s4 S3
        go_wp2_with fail
        refine Calls.mono (cancel_sep S4.out o.n (by have := HSl.out; have := HS4.out; omega)) ?_
        rintro e w5 ⟨rfl, v5, s5⟩
        have S5 := hid s5
        obtain ⟨-, -, -, -, -, -, -, d7, -, -⟩ := s5.opAt (q := r) (x := o) (by simp)
        have HS5 := hid (out_len (isW o.n) T4)
        generalize thB T4 o.n = b5 at *
        generalize outS (isW o.n) T4 = T5 at *
        clear s5 S4
        go_wp2_with fail
        refine Calls.mono (badge_sep S5.out o.m.g (by have := HSl.out; have := HS4.out; have := HS5.out; omega)) ?_
        rintro e w6 ⟨a6, c6, v6, rfl, s6⟩
        have S6 := hid s6
        clear s6 S5 d1 d7
        go_wp2_with fail
        refine Calls.mono (waits_is S6.out.drop.drop.swap (by have := HSl.out; omega) HL.out.1 HL.out.2.1) ?_
        rintro e w7 ⟨am, cm, rfl, s7⟩
        have S7 := hid s7
        clear s7 S6
        go_wp2_with (first
          | (go_at_call 17; refine Calls.mono (nums_is S7.out (A := L) (B := L) (by simp) (by simp) HL.out.2.2 rfl) ?_; rintro e w8 ⟨rfl, s8⟩; have S8 := hid s8; clear s8)
          | (go_at_call 22; refine Calls.mono (fixed_sep S8.out) ?_; rintro e w9 ⟨rfl, s9⟩; have S9 := hid s9; clear s9))
        go_ret
        exact ⟨rfl, by rw [HR.out]; exact S9.out.low⟩
open Go.ChangeShapes Go.WideShapes Go.ChangeAt Go.RowKit Go.Joins

/-! ### From the walk to the statement -/
set_option maxRecDepth 100000 in
theorem lifted (os : Os) (started : os.Started) (H : Type) (enc : TypeId × Value → H) :
    ReturnsInHanded {} Try.checked os 8 .any (Rows.endpointApartSpec.pre6 enc Try.prog Try.f8 Rows.endpointApartRow.domain false) (Rows.endpointApartSpec.post enc Try.prog Try.f8 false true false false) := by
  refine returnsInHanded_of_change (C := Try.checked) own started (by kernel_rfl) Try.func8
    (ChangeSpec.witness6 (enc := enc) (C := Try.checked) false ⟨#[], #[.slice none 0 0, .agg #[.int .i64 0, .int .i64 0, .int .i64 0, .int .u64 0, .int .u64 0, .int .u64 0, .int .u64 0, .int .u64 0, .bool false, .bool false]], []⟩ 8 (by kernel_rfl) (by kernel_rfl) (by kernel_rfl) (by kernel_rfl)) ?_
  intro W base args ds gs before hval0 hW hcnd _
  have hval : ∀ (j : Nat) t v, Try.f8.params[j]? = some t → args[j]? = some v → Value.okWide Try.prog W .any base t v := hval0
  have hW' := hW
  obtain ⟨p, q, hA0, hV, rfl, hfz, hnd⟩ := hW
  have hA : DataW.TrodAll enc Try.prog W 0 (fun _ => true) true Try.f8.params.toList args.toList ds p := hA0
  rw [Try.params8] at hA hval
  obtain ⟨v0, vs0, d0, ds0, p0, q0, hargs, rfl, rfl, h0, r0⟩ := trodAll_cons hA
  obtain ⟨v1, vs1, d1, ds1, p1, q1, rfl, rfl, rfl, h1, r1⟩ := trodAll_cons r0
  obtain ⟨rfl, rfl, rfl⟩ := trodAll_nil r1
  obtain rfl : args = #[v0, v1] := by cases args; simp_all
  obtain ⟨rfl, rfl⟩ := trodVars_none hV
  have k0 := h0
  have lt0 : ∀ x ∈ p0, x.block < W.heap.size := by obtain ⟨m, hm⟩ := k0; exact DataW.trod_lt m _ _ _ hm
  obtain ⟨a0, l0, c0, rfl, t0, s0⟩ := open_ops (hval 0 22 v0 rfl rfl) h0
  have k1 := h1
  have lt1 : ∀ x ∈ p1, x.block < W.heap.size := by obtain ⟨m, hm⟩ := k1; exact DataW.trod_lt m _ _ _ hm
  obtain ⟨a1, rfl, w1⟩ := open_op (hval 1 35 v1 rfl rfl) h1
  clear hA0 hval0
  refine (walk a0 l0 c0 a1 W t0 s0 w1).mono fun e W' ⟨he, bel⟩ => ?_
  subst he
  exact ⟨_, rfl, _, _, _, [], _, [], hW', trodAll_mk1 (shut_bool Try.underlying4 _), (trodAll_cons_mk (Below.trod laidOut (by kernel_rfl) (of_decide_eq_true (by kernel_rfl)) k0 bel lt0) (trodAll_cons_mk (Below.trod laidOut (by kernel_rfl) (of_decide_eq_true (by kernel_rfl)) k1 bel lt1) trodAll_mk0)), rfl, bel.frame _, fun h => by cases h⟩
theorem over : Rows.endpointApartRow.holds Try.pinned (OpenSpec.ofChange Rows.endpointApartSpec) :=
  OpenClaim.holds_of_wide 8 Try.f8 rfl rfl rfl rfl rfl rfl rfl ⟨rfl, rfl, rfl, rfl, rfl⟩ rfl rfl rfl rfl rfl (by kernel_rfl) Try.func8 (by kernel_rfl)
    (of_decide_eq_true (by kernel_rfl)) (by unfold Func.isWrapper; first | (rw [if_pos (by decide +kernel)]; kernel_rfl) | (rw [if_neg (by decide +kernel)]; exact ⟨rfl, rfl⟩))
    (fun os started H enc _ => lifted os started H enc)
end Go.Proofs.Ytnondgeengjbpaa.endpointApart
namespace Go.Proofs.Ytnondgeengjbpaa
/-- THE STATEMENT. -/
theorem endpointApart_said : Rows.EndpointApartSaid := endpointApart.over
#print axioms endpointApart_said
end Go.Proofs.Ytnondgeengjbpaa

/-
  MailboxAll: what is sent to all is in each other core's box, and in no one's own; no condition.
-/
import Derived.Test.YtpapjdmnhgnpfaaMBFixed
import Derived.Test.YtpapjdmnhgnpfaaMBSay
import Derived.Test.YtpapjdmnhgnpfaaMBPure
import Derived.Deep.Cut
import Derived.Deep.CutRange
namespace Go.Proofs.Ytpapjdmnhgnpfaa.mailboxAll
open Go.RowKit Go.Deep Go.Shelf
set_option maxHeartbeats 8000000 in
set_option maxRecDepth 100000 in
theorem walk (cores frm : Int) (x : Ml) (w : World) (_h1 : I64 cores) (_h2 : I64 frm) (_h3 : I64 x.f ∧ I64 x.k ∧ I64 x.a) :
    Calls Try.prog 6 #[.int .i64 cores, .int .i64 frm, encM x] w fun e w' => e = .returned (.bool true) ∧ Below w.heap.size w w' := by
  obtain ⟨m, hm, hmask⟩ := mask7 cores
  obtain ⟨N, hN⟩ : ∃ N : Nat, N = 1 + m := ⟨_, rfl⟩
  have hN1 : 1 ≤ N := by omega
  have hN8 : N ≤ 8 := by omega
  have hw : IntKind.i64.wrap (1 + (m : Int)) = (N : Int) := by
    unfold IntKind.wrap
    simp [IntKind.bits, IntKind.signed]
    omega
  have hw2 : 1 + (m : Int) = (N : Int) := by omega
  clear hN hm
  obtain ⟨k, hk, hmk⟩ := mask64k frm
  obtain ⟨c, hcN, hck⟩ := rem_nat k (N : Int) (by omega)
  have hcN2 : c < N := by omega
  have hN0 : ¬ ((N : Int) = 0) := by omega
  have s0 := (sep_nil w).box (objM x)
  have S0 := hid s0
  obtain ⟨m0, m1, m2⟩ := cellsM (x := x) s0.head
  have hA := all_empty hcN2 x.k x.a
  have HO := hid (all_owed hN1 hN8 hcN2 x.k x.a)
  have HB := hid (fun i hi => all_box (n := N) (c := c) (i := i) x.k x.a hi)
  obtain ⟨T, hT⟩ : ∃ T, postS (List.replicate N []) ⟨(c : Int), x.k, x.a⟩ (othersN N c) = T := ⟨_, rfl⟩
  rw [hT] at hA HO HB
  have HA := hid hA
  clear hA hT s0 m0 m1 m2
  obtain ⟨z, hz⟩ : ∃ z, N - 1 = z := ⟨_, rfl⟩
  rw [hz] at HO
  have hwz : IntKind.i64.wrap ((N : Int) - 1) = (z : Int) := by
    unfold IntKind.wrap
    simp [IntKind.bits, IntKind.signed]
    omega
  clear hz
  unfold encM
  go_enter Try.func6, Try.ntmps6
  go_wp2_with fail
  have HNew := hid (new_sep (n := N) S0.out hN1 hN8)
  unfold objM at HNew
  refine Calls.mono HNew.out ?_
  rintro e w1 ⟨p, rfl, g, V0, s1⟩
  obtain ⟨m0, m1, m2⟩ := cellsM (x := x) s1.drop.head
  have S1 := hid s1
  clear s1 S0 HNew
  generalize hr : w.heap.size = r at *
  have HR := hid hr
  clear hr
  go_wp2_with fail
  refine Calls.mono (all_is (T := T) (e0 := 0) S1.out (c : Int) x.k x.a HA.out.1 HA.out.2) ?_
  rintro e w2 ⟨rfl, V2, s2⟩
  have S2 := hid s2
  clear s2 S1
  clear m0 m1 m2
  go_wp2_with fail
  go_loopw [12] (fun s12 wr => ∃ i : Nat, i ≤ N ∧ s12 = .int .i64 i ∧ Sep w r wr [bxT N p g V2 T, blk r (objM x)]) (fun s12 _ => N - (intOf s12).toNat)
  case atStart => exact ⟨0, Nat.zero_le _, rfl, S2.out⟩
  case round =>
    clear S2
    obtain ⟨i, hi, rfl, s3⟩ := hrel
    by_cases hlt : i < N
    · have hltz : (i : Int) < (N : Int) := by omega
      have HBi := hid (HB.out i hlt)
      obtain ⟨m0, m1, m2⟩ := cellsM (x := x) s3.drop.head
      have s4 := s3.lit okM [⟨(c : Int), x.k, x.a⟩] (by simp) #[.int .i64 c, .int .i64 x.k, .int .i64 x.a] rfl
      by_cases e : i = c
      · have e1 : ((i : Int) == (c : Int)) = true := by simp [e]
        rw [if_pos e] at HBi
        have HBL : Hid (boxL T (i : Int) = []) := (boxL_nat T i).trans HBi.out
        have s5 := (Sep.made (E := elM) s4).third.third
        have e9 : (wr.alloc (.cells #[.int .i64 c, .int .i64 x.k, .int .i64 x.a] elM.e)).heap.size = wr.heap.size + 1 := by simp
        rw [e9] at s5
        have S5 := hid s5
        clear s3 s4 s5 e9 e HBi
        go_wp2_with fail
        refine Calls.mono (box_is (m := 0) S5.out (i : Int) HBL.out rfl) ?_
        rintro e w6 ⟨a6, k6, rfl, s6⟩
        have S6 := hid s6
        clear s6 S5
        go_wp2_with fail
        refine Calls.mono (same_is S6.out (u := .slice a6 0 k6) (v := .slice (some ⟨wr.heap.size + 1, 0, none⟩) 0 0) (A := []) (B := []) (by simp) (by simp) (by simp) rfl) ?_
        rintro e w7 ⟨rfl, s7⟩
        have S7 := hid (s7.sub (.cons_cons _ (.cons _ (.cons _ (.cons _ (.cons_cons _ (.refl _)))))))
        clear s7 S6
        go_wp2
        go_round
        case rel => exact ⟨i + 1, by omega, by go_num, S7.out⟩
        case measure => simp [intOf]; omega
      · have e1 : ((i : Int) == (c : Int)) = false := beq_eq_false_iff_ne.2 (by omega)
        rw [if_neg e] at HBi
        have HBL : Hid (boxL T (i : Int) = [⟨(c : Int), x.k, x.a⟩]) := (boxL_nat T i).trans HBi.out
        have S5 := hid s4.swap
        clear s3 s4 e HBi
        go_wp2_with fail
        refine Calls.mono (box_is (m := 1) S5.out (i : Int) HBL.out rfl) ?_
        rintro e w6 ⟨a6, k6, rfl, s6⟩
        have S6 := hid s6
        clear s6 S5
        go_wp2_with fail
        refine Calls.mono (same_is S6.out (u := .slice a6 1 k6) (v := .slice (some ⟨wr.heap.size, 0, none⟩) 1 1) (A := [⟨(c : Int), x.k, x.a⟩]) (B := [⟨(c : Int), x.k, x.a⟩]) (.tail _ (.head _)) (.tail _ (.tail _ (.head _))) (by simp) rfl) ?_
        rintro e w7 ⟨rfl, s7⟩
        have S7 := hid (s7.sub (.cons_cons _ (.cons _ (.cons _ (.cons_cons _ (.refl _))))))
        clear s7 S6
        go_wp2
        go_round
        case rel => exact ⟨i + 1, by omega, by go_num, S7.out⟩
        case measure => simp [intOf]; omega
    · obtain rfl : i = N := by omega
      have hltz : ¬ ((i : Int) < (i : Int)) := by omega
      have S4 := hid s3
      clear s3
      go_wp2_with fail
      refine Calls.mono (owed_is (z := z) S4.out (c : Int) HO.out) ?_
      rintro e w7 ⟨rfl, s7⟩
      have S7 := hid s7
      clear s7 S4
      go_wp2_with (go_at_call 23; refine Calls.mono (fixed_sep S7.out) ?_; rintro e wf ⟨rfl, sf⟩; have SF := hid sf; clear sf S7)
      go_ret
      exact ⟨rfl, by rw [HR.out]; exact SF.out.low⟩
open Go.ChangeShapes Go.WideShapes Go.ChangeAt Go.RowKit Go.Joins

/-! ### From the walk to the statement -/
set_option maxRecDepth 100000 in
theorem lifted (os : Os) (started : os.Started) (H : Type) (enc : TypeId × Value → H) :
    ReturnsInHanded {} Try.checked os 6 .any (Rows.mailboxAllSpec.pre6 enc Try.prog Try.f6 Rows.mailboxAllRow.domain false) (Rows.mailboxAllSpec.post enc Try.prog Try.f6 false true false false) := by
  refine returnsInHanded_of_change (C := Try.checked) ownK started (by kernel_rfl) Try.func6
    (ChangeSpec.witness6 (enc := enc) (C := Try.checked) false ⟨#[], #[.int .i64 0, .int .i64 0, .agg #[.int .i64 0, .int .i64 0, .int .i64 0]], []⟩ 8 (by kernel_rfl) (by kernel_rfl) (by kernel_rfl) (by kernel_rfl)) ?_
  intro W base args ds gs before hval0 hW hcnd _
  have hval : ∀ (j : Nat) t v, Try.f6.params[j]? = some t → args[j]? = some v → Value.okWide Try.prog W .any base t v := hval0
  have hW' := hW
  obtain ⟨p, q, hA0, hV, rfl, hfz, hnd⟩ := hW
  have hA : DataW.TrodAll enc Try.prog W 0 (fun _ => true) true Try.f6.params.toList args.toList ds p := hA0
  rw [Try.params6] at hA hval
  obtain ⟨v0, vs0, d0, ds0, p0, q0, hargs, rfl, rfl, h0, r0⟩ := trodAll_cons hA
  obtain ⟨v1, vs1, d1, ds1, p1, q1, rfl, rfl, rfl, h1, r1⟩ := trodAll_cons r0
  obtain ⟨v2, vs2, d2, ds2, p2, q2, rfl, rfl, rfl, h2, r2⟩ := trodAll_cons r1
  obtain ⟨rfl, rfl, rfl⟩ := trodAll_nil r2
  obtain rfl : args = #[v0, v1, v2] := by cases args; simp_all
  obtain ⟨rfl, rfl⟩ := trodVars_none hV
  have k0 := h0
  have lt0 : ∀ x ∈ p0, x.block < W.heap.size := by obtain ⟨m, hm⟩ := k0; exact DataW.trod_lt m _ _ _ hm
  obtain ⟨a0, rfl, _, _, w0⟩ := open_int Try.underlying3 (hval 0 3 v0 rfl rfl) h0
  have k1 := h1
  have lt1 : ∀ x ∈ p1, x.block < W.heap.size := by obtain ⟨m, hm⟩ := k1; exact DataW.trod_lt m _ _ _ hm
  obtain ⟨a1, rfl, _, _, w1⟩ := open_int Try.underlying3 (hval 1 3 v1 rfl rfl) h1
  have k2 := h2
  have lt2 : ∀ x ∈ p2, x.block < W.heap.size := by obtain ⟨m, hm⟩ := k2; exact DataW.trod_lt m _ _ _ hm
  obtain ⟨a2, rfl, w2⟩ := open_mail (hval 2 35 v2 rfl rfl) h2
  clear hA0 hval0
  refine (walk a0 a1 a2 W (bounds_i64 w0) (bounds_i64 w1) w2).mono fun e W' ⟨he, bel⟩ => ?_
  subst he
  exact ⟨_, rfl, _, _, _, [], _, [], hW', trodAll_mk1 (shut_bool Try.underlying4 _), (trodAll_cons_mk (Below.trod laidOut (by kernel_rfl) (of_decide_eq_true (by kernel_rfl)) k0 bel lt0) (trodAll_cons_mk (Below.trod laidOut (by kernel_rfl) (of_decide_eq_true (by kernel_rfl)) k1 bel lt1) (trodAll_cons_mk (Below.trod laidOut (by kernel_rfl) (of_decide_eq_true (by kernel_rfl)) k2 bel lt2) trodAll_mk0))), rfl, bel.frame _, fun h => by cases h⟩
theorem over : Rows.mailboxAllRow.holds Try.pinned (OpenSpec.ofChange Rows.mailboxAllSpec) :=
  OpenClaim.holds_of_wide 6 Try.f6 rfl rfl rfl rfl rfl rfl rfl ⟨rfl, rfl, rfl, rfl, rfl⟩ rfl rfl rfl rfl rfl (by kernel_rfl) Try.func6 (by kernel_rfl)
    (of_decide_eq_true (by kernel_rfl)) (by unfold Func.isWrapper; first | (rw [if_pos (by decide +kernel)]; kernel_rfl) | (rw [if_neg (by decide +kernel)]; exact ⟨rfl, rfl⟩))
    (fun os started H enc _ => lifted os started H enc)
end Go.Proofs.Ytpapjdmnhgnpfaa.mailboxAll
namespace Go.Proofs.Ytpapjdmnhgnpfaa
/-- THE STATEMENT. -/
theorem mailboxAll_said : Rows.MailboxAllSaid := mailboxAll.over
#print axioms mailboxAll_said
end Go.Proofs.Ytpapjdmnhgnpfaa

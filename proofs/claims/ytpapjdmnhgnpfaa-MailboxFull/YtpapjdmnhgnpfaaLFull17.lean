/-
  MailboxFull: a box has at most 64; if one is full nothing goes to all; no condition.
-/
import Derived.Test.YtpapjdmnhgnpfaaMBFixed
import Derived.Test.YtpapjdmnhgnpfaaMBSay
import Derived.Test.YtpapjdmnhgnpfaaMBPure
import Derived.Deep.Cut
import Derived.Deep.CutRange
namespace Go.Proofs.Ytpapjdmnhgnpfaa.mailboxFull
open Go.RowKit Go.Deep Go.Shelf
/-- j messages of 0's, of kinds from s on, are in c's box alone. -/
def runM (s : Int) (j : Nat) : Bx := (List.range j).map fun i : Nat => ⟨0, s + (i : Int), 0⟩
theorem run_more (s : Int) (j : Nat) : runM s (j + 1) = runM s j ++ [⟨0, s + (j : Int), 0⟩] := by
  unfold runM
  rw [List.range_succ, List.map_append]
  rfl
theorem run_len (s : Int) (j : Nat) : (runM s j).length = j := by simp [runM]
theorem run_cons (s : Int) (j : Nat) : runM s (j + 1) = ⟨0, s, 0⟩ :: runM (s + 1) j := by
  unfold runM
  rw [List.range_succ_eq_map, List.map_cons, List.map_map]
  congr 1
  · simp
  · apply List.map_congr_left
    intro i _
    simp only [Function.comp]
    congr 1
    omega
def oneS (n c : Nat) (b : Bx) : St := (List.replicate n []).set c b
theorem one_box {n c : Nat} (hc : c < n) (b : Bx) (i : Nat) : boxN (oneS n c b) i = if i = c then b else [] := by
  unfold oneS
  by_cases e : i = c
  · subst e
    rw [if_pos rfl]
    exact boxN_at (List.getElem?_set_self (by rw [List.length_replicate]; exact hc))
  · rw [if_neg e]
    show (((List.replicate n []).set c b)[i]?).getD [] = []
    rw [List.getElem?_set_ne (fun h => e h.symm)]
    exact empty_box n i
theorem one_nil {n c : Nat} : oneS n c [] = List.replicate n [] := by
  unfold oneS
  apply List.ext_getElem?
  intro i
  rw [List.getElem?_set]
  split
  · rename_i e
    subst e
    rw [List.getElem?_replicate]
    simp
  · rfl
theorem one_put {n c : Nat} (hc : c < n) (b : Bx) (m : Ml) : putN (oneS n c b) c m = oneS n c (b ++ [m]) := by
  unfold putN
  rw [one_box hc, if_pos rfl]
  unfold oneS
  rw [List.set_set]
theorem one_send {n c : Nat} (h0 : 1 ≤ c) (hc : c < n) {b : Bx} (hb : b.length < 64) (k a : Int) : sendE n (oneS n c b) 0 (c : Int) = 0 ∧ sendS n (oneS n c b) 0 (c : Int) k a = oneS n c (b ++ [⟨0, k, a⟩]) := by
  have h1 : hasB n 0 = true := has_iff.2 ⟨by omega, by omega⟩
  have h2 : hasB n (c : Int) = true := has_nat hc
  have hf : fullB (oneS n c b) [c] = false := full_none fun j d hd => by
    have : d = c := by simpa using List.mem_of_getElem? hd
    subst this
    rw [one_box hc, if_pos rfl]
    exact hb
  unfold sendE sendS postE postT
  rw [h1, h2, Int.toNat_natCast, hf]
  have e : ¬ (0 : Int) = (c : Int) := by omega
  refine ⟨by simp [e], ?_⟩
  simp only [Bool.and_self, if_true, e, if_false, Bool.false_eq_true]
  exact one_put hc b _
theorem one_full {n c : Nat} (h0 : 1 ≤ c) (hc : c < n) {b : Bx} (hb : b.length = 64) (k a : Int) : (sendE n (oneS n c b) 0 (c : Int) = 2 ∧ sendS n (oneS n c b) 0 (c : Int) k a = oneS n c b) ∧ allE n (oneS n c b) 0 = 2 ∧ allS n (oneS n c b) 0 k a = oneS n c b := by
  have h1 : hasB n 0 = true := has_iff.2 ⟨by omega, by omega⟩
  have h2 : hasB n (c : Int) = true := has_nat hc
  have hf : fullB (oneS n c b) [c] = true := full_yes (k := 0) (c := c) rfl (by rw [one_box hc, if_pos rfl, hb]; decide)
  have hm : c ∈ othersN n 0 := others_mem.2 ⟨hc, by omega⟩
  obtain ⟨j, hj⟩ := List.mem_iff_getElem?.1 hm
  have hf2 : fullB (oneS n c b) (othersN n 0) = true := full_yes hj (by rw [one_box hc, if_pos rfl, hb]; decide)
  unfold sendE sendS allE allS postE postT
  rw [h1, h2, Int.toNat_natCast, hf, hf2]
  have e : ¬ (0 : Int) = (c : Int) := by omega
  exact ⟨⟨by simp [e], by simp⟩, rfl, rfl⟩
theorem one_take {n c : Nat} (hc : c < n) (x : Ml) (b : Bx) : takeM (oneS n c (x :: b)) (c : Int) = x ∧ takeB (oneS n c (x :: b)) (c : Int) = true ∧ takeS (oneS n c (x :: b)) (c : Int) = oneS n c b := by
  unfold takeM takeB takeS
  rw [boxL_nat, one_box hc, if_pos rfl, if_pos (by omega), Int.toNat_natCast]
  refine ⟨rfl, rfl, ?_⟩
  unfold oneS
  rw [List.set_set]
  rfl
theorem sum_zero : ∀ l : St, (∀ b ∈ l, b = []) → (l.map (ofN 0)).sum = 0
  | [], _ => rfl
  | b :: l, h => by
    have hb := h b (by simp)
    subst hb
    rw [List.map_cons, List.sum_cons, sum_zero l fun x hx => h x (by simp [hx])]
    rfl
theorem one_owed {n c : Nat} (hc : c < n) (s : Int) (j : Nat) : owedN 0 (oneS n c (runM s j)) = j := by
  unfold owedN oneS
  rw [List.set_eq_take_append_cons_drop, if_pos (by rw [List.length_replicate]; exact hc), List.map_append, List.map_cons, List.sum_append, List.sum_cons]
  rw [sum_zero _ fun b hb => List.eq_of_mem_replicate (List.mem_of_mem_take hb), sum_zero _ fun b hb => List.eq_of_mem_replicate (List.mem_of_mem_drop hb)]
  have : ofN 0 (runM s j) = j := by
    unfold ofN runM
    rw [List.countP_map, List.countP_eq_length.2, List.length_range]
    intro i _
    rfl
  omega
set_option maxHeartbeats 16000000 in
set_option maxRecDepth 100000 in
theorem walk (cores too : Int) (w : World) (_h1 : I64 cores) (_h2 : I64 too) :
    Calls Try.prog 4 #[.int .i64 cores, .int .i64 too] w fun e w' => e = .returned (.bool true) ∧ Below w.heap.size w w' := by
  obtain ⟨k, hk, hmk⟩ := mask64k cores
  obtain ⟨k7, hk7, hrem⟩ := rem_nat k 7 (by omega)
  obtain ⟨N, hN⟩ : ∃ N : Nat, N = 2 + k7 := ⟨_, rfl⟩
  have hN2 : 2 ≤ N := by omega
  have hN8 : N ≤ 8 := by omega
  have hw : IntKind.i64.wrap (2 + (k7 : Int)) = (N : Int) := by
    unfold IntKind.wrap
    simp [IntKind.bits, IntKind.signed]
    omega
  obtain ⟨t, ht, hmt⟩ := mask64k too
  obtain ⟨z, hz⟩ : ∃ z, N - 1 = z := ⟨_, rfl⟩
  have hwz : IntKind.i64.wrap ((N : Int) - 1) = (z : Int) := by
    unfold IntKind.wrap
    simp [IntKind.bits, IntKind.signed]
    omega
  obtain ⟨d, hd, hrem2⟩ := rem_nat t (z : Int) (by omega)
  obtain ⟨c, hc⟩ : ∃ c : Nat, c = 1 + d := ⟨_, rfl⟩
  have hc1 : 1 ≤ c := by omega
  have hcN : c < N := by omega
  have hwc : IntKind.i64.wrap (1 + (d : Int)) = (c : Int) := by
    unfold IntKind.wrap
    simp [IntKind.bits, IntKind.signed]
    omega
  have hz0 : ¬ ((z : Int) = 0) := by omega
  have HZ := hid hz
  clear hc hz hd hN hk7
  go_enter Try.func4, Try.ntmps4
  go_wp2_with fail
  refine Calls.mono (new_sep (sep_nil w) (n := N) (by omega) hN8) ?_
  rintro e w1 ⟨p, rfl, g, V0, s1⟩
  rw [← one_nil (n := N) (c := c)] at s1
  have S1 := hid s1
  clear s1
  generalize hr : w.heap.size = r at *
  have HR := hid hr
  clear hr
  go_wp2_with fail
  simp only [hrem2]
  clear hrem hrem2
  go_loopw [9] (fun s9 wr => ∃ (i : Nat) (V : List Sv), i ≤ 64 ∧ s9 = .int .i64 i ∧ Sep w r wr [bxT N p g V (oneS N c (runM 0 i))]) (fun s9 _ => 64 - (intOf s9).toNat)
  case atStart => exact ⟨0, V0, by omega, rfl, S1.out⟩
  case round =>
    clear S1
    obtain ⟨i, V, hi, rfl, s2⟩ := hrel
    have S2 := hid s2
    clear s2
    by_cases hlt : i < 64
    · have hltz : (i : Int) < 64 := by omega
      have HS := hid (one_send hc1 hcN (b := runM 0 i) (by rw [run_len]; exact hlt) (i : Int) 0)
      have hrun := run_more 0 i
      rw [Int.zero_add] at hrun
      rw [← hrun] at HS
      clear hrun
      go_wp2_with fail
      refine Calls.mono (send_is S2.out 0 (c : Int) (i : Int) 0 HS.out.1 HS.out.2) ?_
      rintro e w3 ⟨rfl, V3, s3⟩
      have S3 := hid s3
      clear s3 S2
      go_wp2
      go_roundw
      case rel => exact ⟨i + 1, V3, by omega, by go_num, S3.out⟩
      case measure => simp [intOf]; omega
    · obtain rfl : i = 64 := by omega
      have HF := hid (one_full hc1 hcN (b := runM 0 64) (run_len _ _) 64 0)
      have HF2 := hid (one_full hc1 hcN (b := runM 0 64) (run_len _ _) 65 0).2
      have HO := hid (one_owed (n := N) hcN 0 64)
      clear hlt hi
      go_wp2_with fail
      refine Calls.mono (send_is S2.out 0 (c : Int) 64 0 HF.out.1.1 HF.out.1.2) ?_
      rintro e w3 ⟨rfl, V3, s3⟩
      have S3 := hid s3
      clear s3 S2
      go_wp2_with fail
      refine Calls.mono (all_is S3.out 0 65 0 HF2.out.1 HF2.out.2) ?_
      rintro e w4 ⟨rfl, V4, s4⟩
      have S4 := hid s4
      clear s4 S3
      go_wp2_with fail
      refine Calls.mono (owed_is S4.out 0 HO.out) ?_
      rintro e w5 ⟨rfl, s5⟩
      have S5 := hid s5
      clear s5 S4
      clear HF HF2 HO
      go_wp2_with fail
      go_loopw [12] (fun s12 wr => ∃ (j m : Nat) (V : List Sv), j ≤ 64 ∧ j + m = 64 ∧ s12 = .int .i64 j ∧ Sep w r wr [bxT N p g V (oneS N c (runM (j : Int) m))]) (fun s12 _ => 64 - (intOf s12).toNat)
      case atStart => exact ⟨0, 64, V4, by omega, rfl, rfl, S5.out⟩
      case round =>
        clear S5
        obtain ⟨j, m, V6, hj, hjm, rfl, s6⟩ := hrel
        have S6 := hid s6
        clear s6
        by_cases hlt : j < 64
        · obtain ⟨m2, rfl⟩ : ∃ m2, m = m2 + 1 := ⟨m - 1, by omega⟩
          have hltz : (j : Int) < 64 := by omega
          have hT := one_take (n := N) hcN ⟨0, (j : Int), 0⟩ (runM ((j : Int) + 1) m2)
          rw [← run_cons] at hT
          have HT := hid hT
          have HO := hid (one_owed (n := N) hcN ((j : Int) + 1) m2)
          have hw63 : IntKind.i64.wrap (63 - (j : Int)) = (m2 : Int) := by
            unfold IntKind.wrap
            simp [IntKind.bits, IntKind.signed]
            omega
          clear hT
          go_wp2_with fail
          refine Calls.mono (take_is S6.out (c : Int) HT.out.1 HT.out.2.1 HT.out.2.2) ?_
          rintro e w7 ⟨rfl, V7, s7⟩
          have S7 := hid (s7.box (objM ⟨0, (j : Int), 0⟩)).drop
          clear s7 S6
          go_wp2_with fail
          refine Calls.mono (owed_is S7.out 0 HO.out) ?_
          rintro e w8 ⟨rfl, s8⟩
          have S8 := hid s8
          clear s8 S7
          go_wp2
          go_roundw
          case rel => exact ⟨j + 1, m2, V7, by omega, by omega, by go_num, by have := S8.out; simpa using this⟩
          case measure => simp [intOf]; omega
        · obtain rfl : j = 64 := by omega
          obtain rfl : m = 0 := by omega
          have hA := all_empty (n := N) (c := 0) (by omega) 66 0
          have hO := all_owed (n := N) (c := 0) (by omega) hN8 (by omega) 66 0
          rw [HZ.out] at hO
          have hE : oneS N c (runM ((64 : Nat) : Int) 0) = List.replicate N [] := one_nil
          rw [hE] at S6
          have HA := hid hA
          have HO := hid hO
          clear hA hO hE hlt hj hjm
          go_wp2_with fail
          refine Calls.mono (all_is S6.out 0 66 0 HA.out.1 HA.out.2) ?_
          rintro e w7 ⟨rfl, V7, s7⟩
          have S7 := hid s7
          clear s7 S6
          go_wp2_with fail
          refine Calls.mono (owed_is S7.out 0 HO.out) ?_
          rintro e w8 ⟨rfl, s8⟩
          have S8 := hid s8
          clear s8 S7
          go_wp2_with (go_at_call 23; refine Calls.mono (fixed_sep S8.out) ?_; rintro e wf ⟨rfl, sf⟩; have SF := hid sf; clear sf S8)
          go_ret
          exact ⟨rfl, by rw [HR.out]; exact SF.out.low⟩
open Go.ChangeShapes Go.WideShapes Go.ChangeAt Go.RowKit Go.Joins

/-! ### From the walk to the statement -/
set_option maxRecDepth 100000 in
theorem lifted (os : Os) (started : os.Started) (H : Type) (enc : TypeId × Value → H) :
    ReturnsInHanded {} Try.checked os 4 .any (Rows.mailboxFullSpec.pre6 enc Try.prog Try.f4 Rows.mailboxFullRow.domain false) (Rows.mailboxFullSpec.post enc Try.prog Try.f4 false true false false) := by
  refine returnsInHanded_of_change (C := Try.checked) ownK started (by kernel_rfl) Try.func4
    (ChangeSpec.witness6 (enc := enc) (C := Try.checked) false ⟨#[], #[.int .i64 0, .int .i64 0], []⟩ 8 (by kernel_rfl) (by kernel_rfl) (by kernel_rfl) (by kernel_rfl)) ?_
  intro W base args ds gs before hval0 hW hcnd _
  have hval : ∀ (j : Nat) t v, Try.f4.params[j]? = some t → args[j]? = some v → Value.okWide Try.prog W .any base t v := hval0
  have hW' := hW
  obtain ⟨p, q, hA0, hV, rfl, hfz, hnd⟩ := hW
  have hA : DataW.TrodAll enc Try.prog W 0 (fun _ => true) true Try.f4.params.toList args.toList ds p := hA0
  rw [Try.params4] at hA hval
  obtain ⟨v0, vs0, d0, ds0, p0, q0, hargs, rfl, rfl, h0, r0⟩ := trodAll_cons hA
  obtain ⟨v1, vs1, d1, ds1, p1, q1, rfl, rfl, rfl, h1, r1⟩ := trodAll_cons r0
  obtain ⟨rfl, rfl, rfl⟩ := trodAll_nil r1
  obtain rfl : args = #[v0, v1] := by cases args; simp_all
  obtain ⟨rfl, rfl⟩ := trodVars_none hV
  have k0 := h0
  have lt0 : ∀ x ∈ p0, x.block < W.heap.size := by obtain ⟨m, hm⟩ := k0; exact DataW.trod_lt m _ _ _ hm
  obtain ⟨a0, rfl, _, _, w0⟩ := open_int Try.underlying3 (hval 0 3 v0 rfl rfl) h0
  have k1 := h1
  have lt1 : ∀ x ∈ p1, x.block < W.heap.size := by obtain ⟨m, hm⟩ := k1; exact DataW.trod_lt m _ _ _ hm
  obtain ⟨a1, rfl, _, _, w1⟩ := open_int Try.underlying3 (hval 1 3 v1 rfl rfl) h1
  clear hA0 hval0
  refine (walk a0 a1 W (bounds_i64 w0) (bounds_i64 w1)).mono fun e W' ⟨he, bel⟩ => ?_
  subst he
  exact ⟨_, rfl, _, _, _, [], _, [], hW', trodAll_mk1 (shut_bool Try.underlying4 _), (trodAll_cons_mk (Below.trod laidOut (by kernel_rfl) (of_decide_eq_true (by kernel_rfl)) k0 bel lt0) (trodAll_cons_mk (Below.trod laidOut (by kernel_rfl) (of_decide_eq_true (by kernel_rfl)) k1 bel lt1) trodAll_mk0)), rfl, bel.frame _, fun h => by cases h⟩
theorem over : Rows.mailboxFullRow.holds Try.pinned (OpenSpec.ofChange Rows.mailboxFullSpec) :=
  OpenClaim.holds_of_wide 4 Try.f4 rfl rfl rfl rfl rfl rfl rfl ⟨rfl, rfl, rfl, rfl, rfl⟩ rfl rfl rfl rfl rfl (by kernel_rfl) Try.func4 (by kernel_rfl)
    (of_decide_eq_true (by kernel_rfl)) (by unfold Func.isWrapper; first | (rw [if_pos (by decide +kernel)]; kernel_rfl) | (rw [if_neg (by decide +kernel)]; exact ⟨rfl, rfl⟩))
    (fun os started H enc _ => lifted os started H enc)
end Go.Proofs.Ytpapjdmnhgnpfaa.mailboxFull
namespace Go.Proofs.Ytpapjdmnhgnpfaa
/-- THE STATEMENT. -/
theorem mailboxFull_said : Rows.MailboxFullSaid := mailboxFull.over
#print axioms mailboxFull_said
end Go.Proofs.Ytpapjdmnhgnpfaa

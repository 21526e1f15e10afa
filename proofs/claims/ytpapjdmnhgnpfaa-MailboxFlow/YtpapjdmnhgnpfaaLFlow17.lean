/-
  MailboxFlow: what a core sends to another one comes in the order in which it was sent, whatever others send meanwhile; no condition.
-/
import Derived.Test.YtpapjdmnhgnpfaaMBFixed
import Derived.Test.YtpapjdmnhgnpfaaMBSay
import Derived.Test.YtpapjdmnhgnpfaaMBSums
import Derived.Deep.Cut
import Derived.Deep.CutRange
namespace Go.Proofs.Ytpapjdmnhgnpfaa.mailboxFlow
open Go.RowKit Go.Deep Go.Shelf
def oneS (n c : Nat) (b : Bx) : St := (List.replicate n []).set c b
theorem one_box {n c : Nat} (hc : c < n) (b : Bx) (i : Nat) : boxN (oneS n c b) i = if i = c then b else [] := by
  unfold oneS
  by_cases e : i = c
  · subst e
    rw [if_pos rfl]
    exact boxN_at (List.getElem?_set_self (by rw [List.length_replicate]; exact hc))
  · rw [if_neg e]
    show (((List.replicate n []).set c b)[i]?).getD [] = []
    rw [List.getElem?_set_ne (fun h => e h.symm)]
    exact empty_box n i
theorem one_nil {n c : Nat} : oneS n c [] = List.replicate n [] := by
  unfold oneS
  apply List.ext_getElem?
  intro i
  rw [List.getElem?_set]
  split
  · rename_i e
    subst e
    rw [List.getElem?_replicate]
    simp
  · rfl
theorem one_put {n c : Nat} (hc : c < n) (b : Bx) (m : Ml) : putN (oneS n c b) c m = oneS n c (b ++ [m]) := by
  unfold putN
  rw [one_box hc, if_pos rfl]
  unfold oneS
  rw [List.set_set]
theorem one_take {n c : Nat} (hc : c < n) (x : Ml) (b : Bx) : takeM (oneS n c (x :: b)) (c : Int) = x ∧ takeB (oneS n c (x :: b)) (c : Int) = true ∧ takeS (oneS n c (x :: b)) (c : Int) = oneS n c b := by
  unfold takeM takeB takeS
  rw [boxL_nat, one_box hc, if_pos rfl, if_pos (by omega), Int.toNat_natCast]
  refine ⟨rfl, rfl, ?_⟩
  unfold oneS
  rw [List.set_set]
  rfl
def isZ (m : Ml) : Bool := m.f == 0
def flowM (s : Int) (j : Nat) : Bx := (List.range j).map fun i : Nat => ⟨0, s + (i : Int), 7⟩
theorem flow_more (s : Int) (j : Nat) : flowM s (j + 1) = flowM s j ++ [⟨0, s + (j : Int), 7⟩] := by
  unfold flowM
  rw [List.range_succ, List.map_append]
  rfl
theorem flow_cons (s : Int) (j : Nat) : flowM s (j + 1) = ⟨0, s, 7⟩ :: flowM (s + 1) j := by
  unfold flowM
  rw [List.range_succ_eq_map, List.map_cons, List.map_map]
  congr 1
  · simp
  · apply List.map_congr_left
    intro i _
    simp only [Function.comp]
    congr 1
    omega
theorem one_sendF {b : Bx} {f : Int} (hf1 : f = 0 ∨ f = 1) (hb : b.length < 64) (k a : Int) : sendE 3 (oneS 3 2 b) f 2 = 0 ∧ sendS 3 (oneS 3 2 b) f 2 k a = oneS 3 2 (b ++ [⟨f, k, a⟩]) := by
  have h1 : hasB 3 f = true := has_iff.2 ⟨by omega, by omega⟩
  have h2 : hasB 3 2 = true := rfl
  have hf : fullB (oneS 3 2 b) [2] = false := full_none fun j d hd => by
    have : d = 2 := by simpa using List.mem_of_getElem? hd
    subst this
    rw [one_box (by decide), if_pos rfl]
    exact hb
  unfold sendE sendS postE postT
  have e0 : (2 : Int).toNat = 2 := rfl
  rw [h1, h2, e0, hf]
  have e : ¬ f = 2 := by omega
  refine ⟨by simp [e], ?_⟩
  simp only [Bool.and_self, if_true, e, if_false, Bool.false_eq_true]
  exact one_put (by decide) b _
theorem one_none : takeM (oneS 3 2 []) 2 = ml0 ∧ takeB (oneS 3 2 []) 2 = false ∧ takeS (oneS 3 2 []) 2 = oneS 3 2 [] := ⟨rfl, rfl, rfl⟩
theorem flow_zero {s : Int} {m : Nat} (h : ([] : Bx).filter isZ = flowM s m) : m = 0 := by
  cases m with
  | zero => rfl
  | succ m =>
    rw [flow_cons] at h
    cases h
theorem flow_take {x : Ml} {b : Bx} {s : Int} {m : Nat} (h : (x :: b).filter isZ = flowM s m) : (x.f = 0 → x.k = s ∧ x.a = 7 ∧ ∃ m', m = m' + 1 ∧ b.filter isZ = flowM (s + 1) m') ∧ (¬ x.f = 0 → b.filter isZ = flowM s m) := by
  refine ⟨fun e => ?_, fun e => ?_⟩
  · have : isZ x = true := by simp [isZ, e]
    rw [List.filter_cons, if_pos this] at h
    cases m with
    | zero => cases h
    | succ m =>
      rw [flow_cons] at h
      obtain ⟨h1, h2⟩ := List.cons.inj h
      rw [h1]
      exact ⟨rfl, rfl, m, rfl, h2⟩
  · have : ¬ isZ x = true := by simpa [isZ] using e
    rw [List.filter_cons, if_neg this] at h
    exact h
theorem flow_put {b : Bx} {n : Nat} (h : b.filter isZ = flowM 0 n) : (b ++ [(⟨0, (n : Int), 7⟩ : Ml)]).filter isZ = flowM 0 (n + 1) := by
  rw [List.filter_append, h, flow_more, Int.zero_add]
  rfl
theorem flow_skip {b : Bx} {n : Nat} (h : b.filter isZ = flowM 0 n) (k a : Int) : (b ++ [(⟨1, k, a⟩ : Ml)]).filter isZ = flowM 0 n := by
  rw [List.filter_append, h]
  simp [isZ]
set_option maxHeartbeats 16000000 in
set_option maxRecDepth 100000 in
theorem walk (ao : Option Addr) (X : List Oc) (cap : Nat) (w : World) (hX : Ops w ao X) (_hxl : X.length ≤ 9223372036854775807) :
    Calls Try.prog 7 #[.slice ao X.length cap] w fun e w' => e = .returned (.bool true) ∧ Below w.heap.size w w' := by
  have HX := hid hX
  clear hX
  go_enter Try.func7, Try.ntmps7
  go_wp2_with fail
  refine Calls.mono (new_sep (sep_nil w) (n := 3) (by omega) (by omega)) ?_
  rintro e w1 ⟨p, rfl, g, V0, s1⟩
  rw [← one_nil (n := 3) (c := 2)] at s1
  have S1 := hid s1
  clear s1
  generalize hr : w.heap.size = r at *
  have HR := hid hr
  clear hr
  go_wp2_with fail
  go_loopw [5, 6] (fun s5 s6 wr => ∃ (i n : Nat) (V : List Sv) (b : Bx), i ≤ 40 ∧ n ≤ i ∧ s6 = .int .i64 i ∧ s5 = .int .i64 n ∧ b.length = i ∧ b.filter isZ = flowM 0 n ∧ Sep w r wr [bxT 3 p g V (oneS 3 2 b)]) (fun _ s6 _ => 40 - (intOf s6).toNat)
  case atStart => exact ⟨0, 0, V0, [], by omega, by omega, rfl, rfl, rfl, rfl, S1.out⟩
  case round =>
    clear S1
    obtain ⟨i, n, V, b, hi, hni, rfl, rfl, hbl, hfl, s2⟩ := hrel
    by_cases hgo : i < X.length ∧ i < 40
    · obtain ⟨hlt, h40⟩ := hgo
      obtain ⟨-, bb, o, rfl, d0, d1, d2, d3, d4⟩ := Ops.at (SeeK.below HX.out s2.low (by rw [HR.out]; exact Nat.le_refl _)) (List.getElem?_eq_getElem hlt)
      generalize X[i] = x at *
      obtain ⟨xk, xf, xt, xh, xa⟩ := x
      simp only at d0 d1 d2 d3 d4
      generalize hn : X.length = nX at *
      have hltz : (i : Int) < (nX : Int) := by omega
      have h40z : (i : Int) < 40 := by omega
      obtain ⟨q, hq, hmq⟩ := mask_is xf 1 (by decide)
      have hmq2 : bits .and .i64 xf 1 = (q : Int) := hmq
      clear hmq
      have S2 := hid s2
      have HFl := hid hfl
      have HBl := hid hbl
      have hb64 : b.length < 64 := by omega
      have HS0 := hid (one_sendF (f := 0) (.inl rfl) hb64 (n : Int) 7)
      have HS1 := hid (one_sendF (f := 1) (.inr rfl) hb64 xh 8)
      clear s2 hfl hbl hb64
      have hq2 : q = 0 ∨ q = 1 := by omega
      rcases hq2 with rfl | rfl
      · clear HS1 d3
        go_wp2_with fail
        refine Calls.mono (send_is S2.out 0 2 (n : Int) 7 HS0.out.1 HS0.out.2) ?_
        rintro e w6 ⟨rfl, V6, s6⟩
        have S6 := hid s6
        clear s6 S2
        go_wp2
        go_roundw
        case rel => exact ⟨i + 1, n + 1, V6, _, by omega, by omega, by go_num, by go_num, by rw [List.length_append, HBl.out]; rfl, flow_put HFl.out, S6.out⟩
        case measure => simp [intOf]; omega
      · clear HS0
        go_wp2_with fail
        refine Calls.mono (send_is S2.out 1 2 xh 8 HS1.out.1 HS1.out.2) ?_
        rintro e w6 ⟨rfl, V6, s6⟩
        have S6 := hid s6
        clear s6 S2
        go_wp2
        go_roundw
        case rel => exact ⟨i + 1, n, V6, _, by omega, by omega, by go_num, rfl, by rw [List.length_append, HBl.out]; rfl, flow_skip HFl.out xh 8, S6.out⟩
        case measure => simp [intOf]; omega
    · have hex : (¬ ((i : Int) < (X.length : Int))) ∨ ((i : Int) < (X.length : Int) ∧ ¬ ((i : Int) < 40)) := by omega
      have S1 := hid s2
      have HFl := hid hfl
      have hb40 : b.length ≤ 40 := by omega
      have HN40 : Hid (n ≤ 40) := show n ≤ 40 by omega
      clear hgo s2 hfl hbl
      generalize hn : X.length = nX at *
      rcases hex with h | ⟨h, h2⟩
      all_goals
        skip
        go_wp2_with fail
        go_loopw [7, 8] (fun s7 s8 wx => ∃ (j x m : Nat) (V : List Sv) (b : Bx), j ≤ 40 ∧ s8 = .int .i64 j ∧ s7 = .int .i64 x ∧ x + m = n ∧ b.length + j ≤ 40 ∧ b.filter isZ = flowM (x : Int) m ∧ Sep w r wx [bxT 3 p g V (oneS 3 2 b)]) (fun _ s8 _ => 40 - (intOf s8).toNat)
        case atStart => exact ⟨0, 0, n, V, b, by omega, rfl, rfl, by omega, by omega, HFl.out, S1.out⟩
        case round =>
          clear S1 HFl
          obtain ⟨j, x, m, V3, b3, hj, rfl, rfl, hxm, hb3, hfl, s3⟩ := hrel
          have S3 := hid s3
          clear s3
          by_cases hlt : j < 40
          · have hltz : (j : Int) < 40 := by omega
            rcases b3 with _ | ⟨y, b4⟩
            · have hm0 := flow_zero hfl
              obtain rfl : x = n := by omega
              have HT := hid one_none
              clear hfl hm0 hxm
              go_wp2_with fail
              refine Calls.mono (take_is (x := ⟨0, 0, 0⟩) S3.out 2 HT.out.1 HT.out.2.1 HT.out.2.2) ?_
              rintro e w7 ⟨rfl, V7, s7⟩
              have S7 := hid (s7.box (objM ⟨0, 0, 0⟩)).drop
              clear s7 S3
              rw [show oneS 3 2 [] = List.replicate 3 [] from one_nil] at S7
              go_wp2_with fail
              refine Calls.mono (owed_is (z := 0) S7.out 0 (owed_none 3 0)) ?_
              rintro e wo ⟨rfl, so⟩
              have SO := hid so
              clear so S7
              go_wp2_with (go_at_call 23; refine Calls.mono (fixed_sep SO.out) ?_; rintro e wf ⟨rfl, sf⟩; have SF := hid sf; clear sf SO)
              go_ret
              exact ⟨rfl, by rw [HR.out]; exact SF.out.low⟩
            · obtain ⟨hf1, hf2⟩ := flow_take hfl
              have HT := hid (one_take (n := 3) (c := 2) (by decide) y b4)
              have hb4 : b4.length + (j + 1) ≤ 40 := by simp at hb3; omega
              have HB4 := hid hb4
              clear hfl hb3 hb4
              by_cases e : y.f = 0
              · obtain ⟨e1, e2, m', rfl, hf3⟩ := hf1 e
                have hyf : (y.f == 0) = true := by simp [e]
                have hyk : (y.k == (x : Int)) = true := by simp [e1]
                have hya : (y.a == 7) = true := by simp [e2]
                have hxx : x < 100 ∨ 100 ≤ x := by omega
                have HF3 := hid hf3
                have hx64 : (x : Int) ≤ 40 := by have := HN40.out; omega
                clear hf1 hf2 hf3 e hxx
                obtain ⟨y0, y1, y2⟩ := y
                simp only at e1 e2 hyf hyk hya HT
                have hy0 : y0 = 0 := by simpa using hyf
                subst hy0 e1 e2
                clear hyf hyk hya
                go_wp2_with fail
                refine Calls.mono (take_is S3.out 2 HT.out.1 HT.out.2.1 HT.out.2.2) ?_
                rintro e w7 ⟨rfl, V7, s7⟩
                have S7 := hid (s7.box (objM ⟨0, (x : Int), 7⟩)).drop
                clear s7 S3
                go_wp2
                go_roundw
                case rel => exact ⟨j + 1, x + 1, m', V7, b4, by omega, by go_num, by go_num, by omega, by have := HB4.out; omega, by have := HF3.out; simpa using this, S7.out⟩
                case measure => simp [intOf]; omega
              · have hyf : (y.f == 0) = false := by simpa using e
                have HF3 := hid (hf2 e)
                clear hf1 hf2 e
                go_wp2_with fail
                refine Calls.mono (take_is S3.out 2 HT.out.1 HT.out.2.1 HT.out.2.2) ?_
                rintro e w7 ⟨rfl, V7, s7⟩
                have S7 := hid (s7.box (objM y)).drop
                clear s7 S3
                go_wp2
                go_roundw
                case rel => exact ⟨j + 1, x, m, V7, b4, by omega, by go_num, rfl, by omega, by have := HB4.out; omega, HF3.out, S7.out⟩
                case measure => simp [intOf]; omega
          · obtain rfl : j = 40 := by omega
            obtain rfl : b3 = [] := List.length_eq_zero_iff.1 (by omega)
            have hm0 := flow_zero hfl
            obtain rfl : x = n := by omega
            rw [show oneS 3 2 [] = List.replicate 3 [] from one_nil] at S3
            clear hfl hm0 hxm hb3 hlt
            go_wp2_with fail
            refine Calls.mono (owed_is (z := 0) S3.out 0 (owed_none 3 0)) ?_
            rintro e wo ⟨rfl, so⟩
            have SO := hid so
            clear so S3
            go_wp2_with (go_at_call 23; refine Calls.mono (fixed_sep SO.out) ?_; rintro e wf ⟨rfl, sf⟩; have SF := hid sf; clear sf SO)
            go_ret
            exact ⟨rfl, by rw [HR.out]; exact SF.out.low⟩
open Go.ChangeShapes Go.WideShapes Go.ChangeAt Go.RowKit Go.Joins

/-! ### From the walk to the statement -/
set_option maxRecDepth 100000 in
theorem lifted (os : Os) (started : os.Started) (H : Type) (enc : TypeId × Value → H) :
    ReturnsInHanded {} Try.checked os 7 .any (Rows.mailboxFlowSpec.pre6 enc Try.prog Try.f7 Rows.mailboxFlowRow.domain false) (Rows.mailboxFlowSpec.post enc Try.prog Try.f7 false true false false) := by
  refine returnsInHanded_of_change (C := Try.checked) ownK started (by kernel_rfl) Try.func7
    (ChangeSpec.witness6 (enc := enc) (C := Try.checked) false ⟨#[], #[.slice none 0 0], []⟩ 8 (by kernel_rfl) (by kernel_rfl) (by kernel_rfl) (by kernel_rfl)) ?_
  intro W base args ds gs before hval0 hW hcnd _
  have hval : ∀ (j : Nat) t v, Try.f7.params[j]? = some t → args[j]? = some v → Value.okWide Try.prog W .any base t v := hval0
  have hW' := hW
  obtain ⟨p, q, hA0, hV, rfl, hfz, hnd⟩ := hW
  have hA : DataW.TrodAll enc Try.prog W 0 (fun _ => true) true Try.f7.params.toList args.toList ds p := hA0
  rw [Try.params7] at hA hval
  obtain ⟨v0, vs0, d0, ds0, p0, q0, hargs, rfl, rfl, h0, r0⟩ := trodAll_cons hA
  obtain ⟨rfl, rfl, rfl⟩ := trodAll_nil r0
  obtain rfl : args = #[v0] := by cases args; simp_all
  obtain ⟨rfl, rfl⟩ := trodVars_none hV
  have k0 := h0
  have lt0 : ∀ x ∈ p0, x.block < W.heap.size := by obtain ⟨m, hm⟩ := k0; exact DataW.trod_lt m _ _ _ hm
  obtain ⟨a0, l0, c0, rfl, t0, s0⟩ := open_ops (hval 0 22 v0 rfl rfl) h0
  clear hA0 hval0
  refine (walk a0 l0 c0 W t0 s0).mono fun e W' ⟨he, bel⟩ => ?_
  subst he
  exact ⟨_, rfl, _, _, _, [], _, [], hW', trodAll_mk1 (shut_bool Try.underlying4 _), (trodAll_cons_mk (Below.trod laidOut (by kernel_rfl) (of_decide_eq_true (by kernel_rfl)) k0 bel lt0) trodAll_mk0), rfl, bel.frame _, fun h => by cases h⟩
theorem over : Rows.mailboxFlowRow.holds Try.pinned (OpenSpec.ofChange Rows.mailboxFlowSpec) :=
  OpenClaim.holds_of_wide 7 Try.f7 rfl rfl rfl rfl rfl rfl rfl ⟨rfl, rfl, rfl, rfl, rfl⟩ rfl rfl rfl rfl rfl (by kernel_rfl) Try.func7 (by kernel_rfl)
    (of_decide_eq_true (by kernel_rfl)) (by unfold Func.isWrapper; first | (rw [if_pos (by decide +kernel)]; kernel_rfl) | (rw [if_neg (by decide +kernel)]; exact ⟨rfl, rfl⟩))
    (fun os started H enc _ => lifted os started H enc)
end Go.Proofs.Ytpapjdmnhgnpfaa.mailboxFlow
namespace Go.Proofs.Ytpapjdmnhgnpfaa
/-- THE STATEMENT. -/
theorem mailboxFlow_said : Rows.MailboxFlowSaid := mailboxFlow.over
#print axioms mailboxFlow_said
end Go.Proofs.Ytpapjdmnhgnpfaa

/-
  MailboxOnce: each message is taken once, by whom it was sent to, in order; when all is taken nobody is owed any; no condition.
-/
import Derived.Test.YtpapjdmnhgnpfaaMBFixed
import Derived.Test.YtpapjdmnhgnpfaaMBSay
import Derived.Test.YtpapjdmnhgnpfaaMBSums
import Derived.Deep.Cut
import Derived.Deep.CutRange
namespace Go.Proofs.Ytpapjdmnhgnpfaa.mailboxOnce
open Go.RowKit Go.Deep Go.Shelf
/-- Each box's kinds rise, and are below i. -/
def On (i : Int) (L : St) : Prop := ∀ j, (boxN L j).Pairwise (fun x y => x.k < y.k) ∧ ∀ m ∈ boxN L j, 0 ≤ m.k ∧ m.k < i
theorem on_zero (n : Nat) : On 0 (List.replicate n []) := fun j => by
  rw [empty_box]
  exact ⟨List.Pairwise.nil, fun m hm => by simp at hm⟩
theorem On.mono {i i' : Int} {L : St} (h : On i L) (hi : i ≤ i') : On i' L := fun j => ⟨(h j).1, fun m hm => by have := (h j).2 m hm; omega⟩
theorem On.put {i : Int} {L : St} (h : On i L) (h0 : 0 ≤ i) {j : Nat} (hj : j < L.length) (f a : Int) : On (i + 1) (putN L j ⟨f, i, a⟩) := fun d => by
  rw [boxN_put hj]
  by_cases e : d = j
  · rw [if_pos e]
    refine ⟨List.pairwise_append.2 ⟨(h j).1, List.pairwise_singleton _ _, fun x hx y hy => ?_⟩, fun m hm => ?_⟩
    · have : y = ⟨f, i, a⟩ := by simpa using hy
      subst this
      exact ((h j).2 x hx).2
    · rcases List.mem_append.1 hm with hm | hm
      · have := (h j).2 m hm
        omega
      · have : m = ⟨f, i, a⟩ := by simpa using hm
        subst this
        exact ⟨h0, by show i < i + 1; omega⟩
  · rw [if_neg e]
    exact (h.mono (by omega)) d
theorem boxN_set {L : St} {i j : Nat} {b : Bx} (hi : i < L.length) : boxN (L.set i b) j = if j = i then b else boxN L j := by
  by_cases e : j = i
  · subst e
    rw [if_pos rfl]
    exact boxN_at (List.getElem?_set_self hi)
  · rw [if_neg e]
    show (((L.set i _)[j]?).getD []) = _
    rw [List.getElem?_set_ne (fun h => e h.symm)]
    rfl
theorem On.tail {i : Int} {L : St} (h : On i L) {j : Nat} (hj : j < L.length) {x : Ml} {b : Bx} (hb : boxN L j = x :: b) : On i (L.set j b) := fun d => by
  rw [boxN_set hj]
  by_cases e : d = j
  · rw [if_pos e]
    have := h j
    rw [hb] at this
    exact ⟨(List.pairwise_cons.1 this.1).2, fun m hm => this.2 m (by simp [hm])⟩
  · rw [if_neg e]
    exact h d
/-- The first cores' boxes are empty. -/
def Em (c : Nat) (L : St) : Prop := ∀ j, j < c → boxN L j = []
theorem Em.tail {c j : Nat} {L : St} (h : Em c L) (hj : j < L.length) (hc : c ≤ j) (b : Bx) : Em c (L.set j b) := fun d hd => by
  rw [boxN_set hj, if_neg (by omega)]
  exact h d hd
/-- All of a box have kinds above l. -/
def Ab (l : Int) (b : Bx) : Prop := ∀ m ∈ b, l < m.k
theorem on_src {n : Nat} {L : St} (g : Good n L) {j : Nat} (hj : j < n) {x : Ml} {b : Bx} (hb : boxN L j = x :: b) : x.f ≠ (j : Int) := by
  have := g.src j _ (g.at hj) x (by rw [hb]; simp)
  exact this.2.2
theorem send_step {L : St} (hL : Good 4 L) {i : Nat} (h : On (i : Int) L) (f t : Int) : On ((i : Int) + 1) (sendS 4 L f t i 0) ∧ totN (sendS 4 L f t i 0) = totN L + (if sendE 4 L f t = 0 then 1 else 0) := by
  rcases send_cases 4 L f t i 0 with ⟨h1, h2⟩ | ⟨h1, j, rfl, hj, -, -, -, -, h2⟩
  · rw [h2, if_neg h1]
    exact ⟨h.mono (by omega), rfl⟩
  · have hjl : j < L.length := by rw [hL.len]; exact hj
    rw [h2, if_pos h1, tot_put hjl]
    exact ⟨h.put (by omega) hjl f 0, rfl⟩
set_option maxHeartbeats 16000000 in
set_option maxRecDepth 100000 in
theorem walk (ao : Option Addr) (X : List Oc) (cap : Nat) (w : World) (hX : Ops w ao X) (_hxl : X.length ≤ 9223372036854775807) :
    Calls Try.prog 5 #[.slice ao X.length cap] w fun e w' => e = .returned (.bool true) ∧ Below w.heap.size w w' := by
  have HX := hid hX
  clear hX
  go_enter Try.func5, Try.ntmps5
  go_wp2_with fail
  refine Calls.mono (new_sep (sep_nil w) (n := 4) (by omega) (by omega)) ?_
  rintro e w1 ⟨p, rfl, g, V0, s1⟩
  have S1 := hid s1
  clear s1
  generalize hr : w.heap.size = r at *
  have HR := hid hr
  clear hr
  go_wp2_with fail
  go_loopw [5, 6] (fun s5 s6 wr => ∃ (i : Nat) (V : List Sv) (L : St), i ≤ 100 ∧ s6 = .int .i64 i ∧ s5 = .int .i64 (totN L) ∧ On (i : Int) L ∧ Sep w r wr [bxT 4 p g V L]) (fun _ s6 _ => 100 - (intOf s6).toNat)
  case atStart => exact ⟨0, V0, _, by omega, rfl, by rw [tot_none]; rfl, on_zero 4, S1.out⟩
  case round =>
    clear S1
    obtain ⟨i, V, L, hi, rfl, rfl, hOn, s2⟩ := hrel
    by_cases hgo : i < X.length ∧ i < 100
    · skip
      obtain ⟨hlt, h100⟩ := hgo
      obtain ⟨-, b, o, rfl, d0, d1, d2, d3, d4⟩ := Ops.at (SeeK.below HX.out s2.low (by rw [HR.out]; exact Nat.le_refl _)) (List.getElem?_eq_getElem hlt)
      generalize X[i] = x at *
      obtain ⟨xk, xf, xt, xh, xa⟩ := x
      simp only at d0 d1 d2 d3 d4
      have hst := send_step s2.goodB hOn xf xt
      have htot := s2.goodB.tot
      generalize hn : X.length = n at *
      have hltz : (i : Int) < (n : Int) := by omega
      have h100z : (i : Int) < 100 := by omega
      have s5 := (s2.box (objO ⟨xk, xf, xt, xh, xa⟩)).swap
      obtain ⟨o0, o1, o2, o3, o4⟩ := s5.opAt (q := wr.heap.size) (x := ⟨xk, xf, xt, xh, xa⟩) (by simp)
      simp only [objO] at o0 o1 o2 o3 o4
      have S5 : Hid (Sep w r (wr.alloc (.cells #[.int .i64 xk, .int .i64 xf, .int .i64 xt, .int .i64 xh, .int .i64 xa] 31)) [bxT 4 p g V L, blk wr.heap.size (objO ⟨xk, xf, xt, xh, xa⟩)]) := s5
      clear s2 s5 hOn
      obtain ⟨T, hT⟩ : ∃ T, sendS 4 L xf xt i 0 = T := ⟨_, rfl⟩
      obtain ⟨E0, hE⟩ : ∃ E0, sendE 4 L xf xt = E0 := ⟨_, rfl⟩
      rw [hT, hE] at hst
      have HS := hid hst.1
      have HT := hid hT
      have HE := hid hE
      have htt := hst.2
      clear hT hE hst
      generalize totN L = z at *
      by_cases he : E0 = 0
      · subst he
        rw [if_pos rfl] at htt
        have HTT := hid htt
        clear htt
        go_wp2_with fail
        refine Calls.mono (send_is S5.out xf xt (i : Int) 0 HE.out HT.out) ?_
        rintro e w6 ⟨rfl, V6, s6⟩
        have S6 := hid s6.drop2
        clear s6 S5 o0 o1 o2 o3 o4
        go_wp2
        go_roundw
        case rel => exact ⟨i + 1, V6, T, by omega, by go_num, by rw [HTT.out]; go_num, by have := HS.out; simpa using this, S6.out⟩
        case measure => simp [intOf]; omega
      · rw [if_neg he] at htt
        have HTT := hid htt
        have heb : (E0 == 0) = false := by simpa using he
        clear htt he
        go_wp2_with fail
        refine Calls.mono (send_is S5.out xf xt (i : Int) 0 HE.out HT.out) ?_
        rintro e w6 ⟨rfl, V6, s6⟩
        have S6 := hid s6.drop2
        clear s6 S5 o0 o1 o2 o3 o4
        go_wp2
        go_roundw
        case rel => exact ⟨i + 1, V6, T, by omega, by go_num, by rw [HTT.out]; rfl, by have := HS.out; simpa using this, S6.out⟩
        case measure => simp [intOf]; omega
    · have hex : (¬ ((i : Int) < (X.length : Int))) ∨ ((i : Int) < (X.length : Int) ∧ ¬ ((i : Int) < 100)) := by omega
      have S1 := hid s2
      have HOn0 := hid hOn
      obtain ⟨K, hK⟩ : ∃ K : Int, (i : Int) = K := ⟨_, rfl⟩
      have HOn1 : Hid (On K L) := by
        show On K L
        rw [← hK]
        exact hOn
      clear hgo s2 hOn hK HOn0
      generalize hn : X.length = nX at *
      rcases hex with h | ⟨h, h2⟩
      all_goals
        go_wp2_with fail
        go_loopw [5, 8] (fun s5 s8 wx => ∃ (c : Nat) (V : List Sv) (L : St), c ≤ 4 ∧ s8 = .int .i64 c ∧ s5 = .int .i64 (totN L) ∧ Em c L ∧ On K L ∧ Sep w r wx [bxT 4 p g V L]) (fun _ s8 _ => 4 - (intOf s8).toNat)
        case atStart => exact ⟨0, V, L, by omega, rfl, rfl, fun j hj => by omega, HOn1.out, S1.out⟩
        case round =>
          clear S1 HOn1
          obtain ⟨c, V, L, hc, rfl, rfl, hEm, hOn, s2⟩ := hrel
          have HEm := hid hEm
          have HOn := hid hOn
          have S2 := hid s2
          have HGood := hid s2.goodB
          clear hEm hOn s2
          by_cases hlt : c < 4
          · have hltz : (c : Int) < 4 := by omega
            have HAb : Hid (Ab (-1) (boxN L c)) := fun m hm => by
              have := ((HOn.out c).2 m hm).1
              omega
            go_wp2_with fail
            go_loopw [5, 9] (fun s5 s9 wx => ∃ (V : List Sv) (L : St) (l : Int), s5 = .int .i64 (totN L) ∧ s9 = .int .i64 l ∧ Ab l (boxN L c) ∧ Em c L ∧ On K L ∧ Sep w r wx [bxT 4 p g V L]) (fun s5 _ _ => (intOf s5).toNat)
            case atStart => exact ⟨V, L, -1, rfl, rfl, HAb.out, HEm.out, HOn.out, S2.out⟩
            case round =>
              clear S2 HEm HOn HAb
              obtain ⟨V3, L3, l, rfl, rfl, hAb, hEm, hOn, s3⟩ := hrel
              have HG := hid s3.goodB
              have htot := s3.goodB.tot
              have hlen : c < L3.length := by rw [s3.goodB.len]; omega
              have HLen := hid hlen
              have S3 := hid s3
              have HBL := hid (boxL_nat L3 c)
              obtain ⟨m, hm⟩ : ∃ m, (boxN L3 c).length = m := ⟨_, rfl⟩
              have HM := hid hm
              have HEm := hid hEm
              have HOn := hid hOn
              clear s3 hEm hm hlen hOn
              go_wp2_with fail
              refine Calls.mono (box_is S3.out (c : Int) HBL.out HM.out) ?_
              rintro e w6 ⟨a6, k6, rfl, s6⟩
              have S6 := hid s6.drop2
              clear s6 S3
              rcases hB : boxN L3 c with _ | ⟨x, b⟩
              · obtain rfl : m = 0 := by
                  rw [← HM.out, hB]
                  rfl
                have HEm2 : Hid (Em (c + 1) L3) := fun j hj => by
                  by_cases e : j = c
                  · rw [e, hB]
                  · exact HEm.out j (by omega)
                obtain ⟨z, hz⟩ : ∃ z, totN L3 = z := ⟨_, rfl⟩
                rw [hz] at htot ⊢
                have HZ := hid hz
                clear hB hAb HM HBL HEm hz
                go_wp2
                go_roundw
                case rel => exact ⟨c + 1, V3, L3, by omega, by go_num, by rw [HZ.out], HEm2.out, HOn.out, S6.out⟩
                case measure => simp [intOf]; omega
              · have hm0 : 0 < m := by
                  rw [← HM.out, hB]
                  simp
                have hmz : (0 : Int) < (m : Int) := by omega
                have hTt := tot_tail HLen.out hB
                have hsrc := on_src HG.out (by omega) hB
                have HT : Hid (takeM L3 (c : Int) = x ∧ takeB L3 (c : Int) = true ∧ takeS L3 (c : Int) = L3.set c b) := by
                  unfold takeM takeB takeS
                  rw [boxL_nat, hB, if_pos (by omega), Int.toNat_natCast]
                  exact ⟨rfl, rfl, rfl⟩
                have HOn2 := hid (HOn.out.tail HLen.out hB)
                have HEm2 := hid (HEm.out.tail HLen.out (Nat.le_refl _) b)
                have hb2 : boxN (L3.set c b) c = b := by rw [boxN_set HLen.out, if_pos rfl]
                have HAb2 : Hid (Ab x.k (boxN (L3.set c b) c)) := by
                  show Ab x.k (boxN (L3.set c b) c)
                  rw [hb2]
                  have := (HOn.out c).1
                  rw [hB] at this
                  exact (List.pairwise_cons.1 this).1
                have hlk := hAb x (by rw [hB]; simp)
                obtain ⟨L4, hL4⟩ : ∃ L4, L3.set c b = L4 := ⟨_, rfl⟩
                rw [hL4] at HT HOn2 HEm2 HAb2 hTt
                have HTt := hid hTt
                have hzz : ∃ z4 : Nat, totN L4 = z4 ∧ totN L3 = z4 + 1 := ⟨_, rfl, hTt.symm⟩
                obtain ⟨z4, hz4, hz3⟩ := hzz
                rw [hz3] at htot ⊢
                have HZ4 := hid hz4
                clear hB hAb HM HBL HEm HOn HLen hL4 hb2 hTt hz4
                have hlk2 : ¬ (x.k ≤ l) := by omega
                have hfc : (x.f == (c : Int)) = false := beq_eq_false_iff_ne.2 hsrc
                have hz0 : ((z4 + 1 : Nat) : Int) ≥ 0 := by omega
                have hwz : IntKind.i64.wrap (((z4 + 1 : Nat) : Int) - 1) = (z4 : Int) := by
                  unfold IntKind.wrap
                  simp [IntKind.bits, IntKind.signed]
                  omega
                clear hsrc hlk
                generalize hzq : z4 + 1 = z3 at *
                have hz34 : z4 < z3 := by omega
                clear hzq
                go_wp2_with fail
                refine Calls.mono (take_is S6.out (c : Int) HT.out.1 HT.out.2.1 HT.out.2.2) ?_
                rintro e w7 ⟨rfl, V7, s7⟩
                have S7 := hid (s7.box (objM x)).drop
                clear s7 S6 HT
                go_wp2
                go_roundw
                case rel => exact ⟨V7, L4, x.k, by rw [HZ4.out], rfl, HAb2.out, HEm2.out, HOn2.out, S7.out⟩
                case measure => simp [intOf]; omega
          · obtain rfl : c = 4 := by omega
            have hL := all_gone HGood.out HEm.out
            subst hL
            rw [tot_none]
            have HO := hid (owed_none 4)
            clear HEm HOn HGood hlt hc
            go_wp2_with fail
            refine Calls.mono (owed_is S2.out 0 (HO.out 0)) ?_
            rintro e w3 ⟨rfl, s3⟩
            have S3 := hid s3
            clear s3 S2
            go_wp2_with fail
            refine Calls.mono (owed_is S3.out 1 (HO.out 1)) ?_
            rintro e w4 ⟨rfl, s4⟩
            have S4 := hid s4
            clear s4 S3
            go_wp2_with fail
            refine Calls.mono (owed_is S4.out 2 (HO.out 2)) ?_
            rintro e w5 ⟨rfl, s5⟩
            have S5 := hid s5
            clear s5 S4
            go_wp2_with fail
            refine Calls.mono (owed_is S5.out 3 (HO.out 3)) ?_
            rintro e w6 ⟨rfl, s6⟩
            have S6 := hid s6
            clear s6 S5
            go_wp2_with (go_at_call 23; refine Calls.mono (fixed_sep S6.out) ?_; rintro e wf ⟨rfl, sf⟩; have SF := hid sf; clear sf S6)
            go_ret
            exact ⟨rfl, by rw [HR.out]; exact SF.out.low⟩
open Go.ChangeShapes Go.WideShapes Go.ChangeAt Go.RowKit Go.Joins

/-! ### From the walk to the statement -/
set_option maxRecDepth 100000 in
theorem lifted (os : Os) (started : os.Started) (H : Type) (enc : TypeId × Value → H) :
    ReturnsInHanded {} Try.checked os 5 .any (Rows.mailboxOnceSpec.pre6 enc Try.prog Try.f5 Rows.mailboxOnceRow.domain false) (Rows.mailboxOnceSpec.post enc Try.prog Try.f5 false true false false) := by
  refine returnsInHanded_of_change (C := Try.checked) ownK started (by kernel_rfl) Try.func5
    (ChangeSpec.witness6 (enc := enc) (C := Try.checked) false ⟨#[], #[.slice none 0 0], []⟩ 8 (by kernel_rfl) (by kernel_rfl) (by kernel_rfl) (by kernel_rfl)) ?_
  intro W base args ds gs before hval0 hW hcnd _
  have hval : ∀ (j : Nat) t v, Try.f5.params[j]? = some t → args[j]? = some v → Value.okWide Try.prog W .any base t v := hval0
  have hW' := hW
  obtain ⟨p, q, hA0, hV, rfl, hfz, hnd⟩ := hW
  have hA : DataW.TrodAll enc Try.prog W 0 (fun _ => true) true Try.f5.params.toList args.toList ds p := hA0
  rw [Try.params5] at hA hval
  obtain ⟨v0, vs0, d0, ds0, p0, q0, hargs, rfl, rfl, h0, r0⟩ := trodAll_cons hA
  obtain ⟨rfl, rfl, rfl⟩ := trodAll_nil r0
  obtain rfl : args = #[v0] := by cases args; simp_all
  obtain ⟨rfl, rfl⟩ := trodVars_none hV
  have k0 := h0
  have lt0 : ∀ x ∈ p0, x.block < W.heap.size := by obtain ⟨m, hm⟩ := k0; exact DataW.trod_lt m _ _ _ hm
  obtain ⟨a0, l0, c0, rfl, t0, s0⟩ := open_ops (hval 0 22 v0 rfl rfl) h0
  clear hA0 hval0
  refine (walk a0 l0 c0 W t0 s0).mono fun e W' ⟨he, bel⟩ => ?_
  subst he
  exact ⟨_, rfl, _, _, _, [], _, [], hW', trodAll_mk1 (shut_bool Try.underlying4 _), (trodAll_cons_mk (Below.trod laidOut (by kernel_rfl) (of_decide_eq_true (by kernel_rfl)) k0 bel lt0) trodAll_mk0), rfl, bel.frame _, fun h => by cases h⟩
theorem over : Rows.mailboxOnceRow.holds Try.pinned (OpenSpec.ofChange Rows.mailboxOnceSpec) :=
  OpenClaim.holds_of_wide 5 Try.f5 rfl rfl rfl rfl rfl rfl rfl ⟨rfl, rfl, rfl, rfl, rfl⟩ rfl rfl rfl rfl rfl (by kernel_rfl) Try.func5 (by kernel_rfl)
    (of_decide_eq_true (by kernel_rfl)) (by unfold Func.isWrapper; first | (rw [if_pos (by decide +kernel)]; kernel_rfl) | (rw [if_neg (by decide +kernel)]; exact ⟨rfl, rfl⟩))
    (fun os started H enc _ => lifted os started H enc)
end Go.Proofs.Ytpapjdmnhgnpfaa.mailboxOnce
namespace Go.Proofs.Ytpapjdmnhgnpfaa
/-- THE STATEMENT. -/
theorem mailboxOnce_said : Rows.MailboxOnceSaid := mailboxOnce.over
#print axioms mailboxOnce_said
end Go.Proofs.Ytpapjdmnhgnpfaa

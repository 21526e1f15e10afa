/-
  TlbRooms: a TLB with more room remembers all that one with less does, in the same order; no condition.
-/
import Derived.Test.YtekjoeebomcmeaaYLaw
import Derived.Test.YtekjoeebomcmeaaYPure
import Derived.Deep.Cut
import Derived.Deep.CutRange
namespace Go.Proofs.Ytekjoeebomcmeaa.tlbRooms
open Go.RowKit Go.Deep Go.Shelf
theorem row_cases {w : World} {ao : Option Addr} {n cap : Nat} {B : St} (h : RowL w (.slice ao n cap) B) : (ao = none ∧ n = 0 ∧ cap = 0 ∧ B = []) ∨ ∃ g, ao = some ⟨g, 0, none⟩ ∧ n ≤ cap := by
  rcases h.2 with ⟨e, h0⟩ | ⟨g, cap', cur, e, _, _, h1, _⟩
  · cases e
    exact .inl ⟨rfl, rfl, rfl, List.length_eq_zero_iff.1 h0⟩
  · cases e
    exact .inr ⟨g, rfl, h1⟩
theorem same_sl {w0 w : World} {r n2 an c k3 : Nat} {R : List Th} {ad a3 : Option Addr} {A : St} (s : Sep w0 r w R) (h1 : SeeL w ad A) (h2 : lstL (.slice a3 an k3) A ∈ R) (ha : A.length = an) (hl : an ≤ 16) (hn : n2 = an) :
    Calls Try.prog 23 #[.slice ad n2 c, .slice a3 an k3] w fun e w' => e = .returned (.bool true) ∧ Sep w0 r w' R := by
  subst hn ha
  have hb : RowL w (.slice a3 A.length k3) A := (s.each _ h2).1
  exact (same_see true ad a3 c k3 A A w h1 hb.see (by omega) ⟨fun _ => rfl, fun _ => rfl⟩).mono fun _ _ ⟨he, b⟩ => ⟨he, s.below b⟩
set_option maxHeartbeats 8000000 in
set_option maxRecDepth 100000 in
theorem walk (room : Int) (ao : Option Addr) (X : St) (cap : Nat) (w : World) (_hr : I64 room) (hX : SeeL w ao X) (_hxl : X.length ≤ 9223372036854775807) :
    Calls Try.prog 6 #[.int .i64 room, .slice ao X.length cap] w fun e w' => e = .returned (.bool true) ∧ Below w.heap.size w w' := by
  obtain ⟨m, hm, hmask⟩ := mask7 room
  obtain ⟨N, hN⟩ : ∃ N : Nat, N = 1 + m := ⟨_, rfl⟩
  obtain ⟨M, hM⟩ : ∃ M : Nat, M = 2 * N := ⟨_, rfl⟩
  have hN1 : 1 ≤ N := by omega
  have hN8 : N ≤ 8 := by omega
  have HM : Hid (1 ≤ M ∧ M ≤ 16 ∧ N < M ∧ N ≤ 8) := ⟨by omega, by omega, by omega, by omega⟩
  have hw : IntKind.i64.wrap (1 + (m : Int)) = (N : Int) := by
    unfold IntKind.wrap
    simp [IntKind.bits, IntKind.signed]
    omega
  have hw2 : 1 + (m : Int) = (N : Int) := by omega
  have hv : IntKind.i64.wrap (2 * (N : Int)) = (M : Int) := by
    unfold IntKind.wrap
    simp [IntKind.bits, IntKind.signed]
    omega
  have HX := hid hX
  clear hN hm hX hM
  go_enter Try.func6, Try.ntmps6
  go_wp2_with fail
  refine Calls.mono (new_sep (sep_nil w) hN1 (by have := HM.out; omega)) ?_
  rintro e w1 ⟨p, rfl, s1⟩
  have S1 := hid s1
  clear s1
  generalize hr : w.heap.size = r at *
  have HR := hid hr
  clear hr
  go_wp2_with fail
  refine Calls.mono (new_sep (n := M) S1.out HM.out.1 (by have := HM.out; omega)) ?_
  rintro e w2 ⟨p2, rfl, s2⟩
  have S2 := hid s2.swap
  clear s2 S1
  go_wp2_with fail
  go_loopw [10] (fun s10 wr => ∃ (i : Nat) (A B : St) (v v2 : Value), i ≤ 60 ∧ s10 = .int .i64 i ∧ Tails A B ∧ Sep w r wr [tbT kP N p v A, tbT kP M p2 v2 B]) (fun s10 _ => 60 - (intOf s10).toNat)
  case atStart => exact ⟨0, [], [], _, _, by omega, rfl, ⟨[], rfl⟩, S2.out⟩
  case round =>
    clear S2
    obtain ⟨i, A, B, v, v2, hi, rfl, ht, s1⟩ := hrel
    have S1 := hid s1
    have HT := hid ht
    clear ht
    by_cases hgo : i < X.length ∧ i < 60
    · obtain ⟨hlt, h60⟩ := hgo
      obtain ⟨b, o, rfl, -, hat⟩ := (HX.out.from HR.out s1.low) i _ (List.getElem?_eq_getElem hlt)
      have HY := hid (List.getElem?_eq_getElem hlt)
      generalize X[i] = y at *
      obtain ⟨c0, c1, c2, c3⟩ := hat.cells
      clear s1 hat
      generalize hn : X.length = n at *
      have hltz : (i : Int) < (n : Int) := by omega
      have h60z : (i : Int) < 60 := by omega
      go_wp2_with fail
      refine Calls.mono (fill_sep S1.out y) ?_
      rintro e w3 ⟨rfl, v3, s3⟩
      have HF := hid (fill_tails S1.out.good S1.out.swap.good HM.out.2.2.1 HT.out y)
      obtain ⟨b', o', eb, -, hat⟩ := (HX.out.from HR.out s3.low) i _ HY.out
      cases eb
      clear c0 c1 c2 c3
      obtain ⟨c0, c1, c2, c3⟩ := hat.cells
      have S3 := hid s3.swap
      clear s3 S1 hat HT
      go_wp2_with fail
      refine Calls.mono (fill_sep S3.out y) ?_
      rintro e w4 ⟨rfl, v4, s4⟩
      have S4 := hid s4.swap
      clear s4 S3
      go_wp2
      go_round
      case rel => exact ⟨i + 1, _, _, _, _, by omega, by go_num, HF.out, S4.out⟩
      case measure => simp [intOf]; omega
    · have hex : (¬ ((i : Int) < (X.length : Int))) ∨ ((i : Int) < (X.length : Int) ∧ ¬ ((i : Int) < 60)) := by omega
      obtain ⟨D, hD⟩ : ∃ D, D = B.length - A.length := ⟨_, rfl⟩
      have HD : Hid (A.length ≤ B.length ∧ B.drop D = A) := by rw [hD]; exact tails_drop HT.out
      have hla : A.length ≤ N := s1.good.le
      have hlb : B.length ≤ 16 := by have := s1.swap.good.le; have := HM.out; omega
      have hab : A.length ≤ B.length := HD.out.1
      clear hgo s1
      obtain ⟨an, ha⟩ : ∃ an, A.length = an := ⟨_, rfl⟩
      obtain ⟨bn, hb⟩ : ∃ bn, B.length = bn := ⟨_, rfl⟩
      rw [ha] at hla hab hD
      rw [hb] at hlb hab hD
      have HL := hid (And.intro ha hb)
      clear ha hb
      have hw5 : IntKind.i64.wrap ((bn : Int) - (an : Int)) = (D : Int) := by
        unfold IntKind.wrap
        simp [IntKind.bits, IntKind.signed]
        omega
      have hq1 : ¬ ((N : Int) < (an : Int)) := by omega
      have hq2 : ¬ ((bn : Int) < (an : Int)) := by omega
      have hdb : (D : Int) ≤ (bn : Int) := by omega
      have HDb : Hid (bn - D = an ∧ D ≤ bn) := by exact (by omega : bn - D = an ∧ D ≤ bn)
      clear hla hab hlb hD
      generalize hn : X.length = nX at *
      rcases hex with h | ⟨h, h2⟩
      all_goals
        go_wp2_with fail
        refine Calls.mono (lines_is S1.out HL.out.1) ?_
        rintro e w3 ⟨a3, k3, rfl, s3⟩
        have S3 := hid s3.third.swap
        clear s3 S1
        go_wp2_with fail
        refine Calls.mono (lines_is S3.out HL.out.2) ?_
        rintro e w4 ⟨a4, k4, rfl, s4⟩
        have hrow : RowL w4 (.slice a4 bn k4) B := (s4.each (lstL (.slice a4 bn k4) B) (by simp)).1
        have S4 := hid s4
        clear s4 S3
        rcases row_cases hrow with ⟨rfl, hb0, rfl, hB⟩ | ⟨g, rfl, hbk⟩
        · have hD0 : D = 0 := by have := HDb.out; omega
          have hA0 : an = 0 := by have := HDb.out; omega
          subst hb0
          subst hD0
          subst hA0
          have HA : Hid (A = []) := List.length_eq_zero_iff.1 HL.out.1
          clear hw5 hdb hq1 hq2
          go_wp2_with fail
          refine Calls.mono (same_sl (n2 := 0) (c := 0) (ad := none) S4.out (by rw [HA.out]; exact seeL_nil _ _) (by simp) HL.out.1 (by omega) rfl) ?_
          rintro e w5 ⟨rfl, s5⟩
          have S5 := hid s5
          clear s5 S4
          go_wp2_with (go_at_call 24; refine Calls.mono (fixed_sep S5.out) ?_; rintro e wf ⟨rfl, sf⟩; have SF := hid sf; clear sf S5)
          go_ret
          exact ⟨rfl, by rw [HR.out]; exact SF.out.low⟩
        · have hDk : (D : Int) ≤ (k4 : Int) := by have := HDb.out; omega
          have HBK := hid hbk
          have HRW := hid hrow
          clear hbk hrow
          go_wp2_with fail
          · have HA : Hid (A = []) := List.length_eq_zero_iff.1 (by have := HL.out.1; have := HBK.out; have := HDb.out; omega)
            refine Calls.mono (same_sl S4.out (by rw [HA.out]; exact seeL_nil _ _) (by simp) HL.out.1 (by have := HM.out; have := S4.out.good.le; have := HL.out.2; have := HDb.out; omega) HDb.out.1) ?_
            rintro e w5 ⟨rfl, s5⟩
            have S5 := hid s5
            clear s5 S4
            go_wp2_with (go_at_call 24; refine Calls.mono (fixed_sep S5.out) ?_; rintro e wf ⟨rfl, sf⟩; have SF := hid sf; clear sf S5)
            go_ret
            exact ⟨rfl, by rw [HR.out]; exact SF.out.low⟩
          · refine Calls.mono (same_sl S4.out (by have := RowL.seeDrop (k := D) HRW.out; rw [HD.out.2] at this; exact this) (by simp) HL.out.1 (by have := HM.out; have := S4.out.good.le; have := HL.out.2; have := HDb.out; omega) HDb.out.1) ?_
            rintro e w5 ⟨rfl, s5⟩
            have S5 := hid s5
            clear s5 S4
            go_wp2_with (go_at_call 24; refine Calls.mono (fixed_sep S5.out) ?_; rintro e wf ⟨rfl, sf⟩; have SF := hid sf; clear sf S5)
            go_ret
            exact ⟨rfl, by rw [HR.out]; exact SF.out.low⟩
open Go.ChangeShapes Go.WideShapes Go.ChangeAt Go.RowKit Go.Joins

/-! ### From the walk to the statement -/
set_option maxRecDepth 100000 in
theorem lifted (os : Os) (started : os.Started) (H : Type) (enc : TypeId × Value → H) :
    ReturnsInHanded {} Try.checked os 6 .any (Rows.tlbRoomsSpec.pre6 enc Try.prog Try.f6 Rows.tlbRoomsRow.domain false) (Rows.tlbRoomsSpec.post enc Try.prog Try.f6 false true false false) := by
  refine returnsInHanded_of_change (C := Try.checked) ownK started (by kernel_rfl) Try.func6
    (ChangeSpec.witness6 (enc := enc) (C := Try.checked) false ⟨#[], #[.int .i64 0, .slice none 0 0], []⟩ 8 (by kernel_rfl) (by kernel_rfl) (by kernel_rfl) (by kernel_rfl)) ?_
  intro W base args ds gs before hval0 hW hcnd _
  have hval : ∀ (j : Nat) t v, Try.f6.params[j]? = some t → args[j]? = some v → Value.okWide Try.prog W .any base t v := hval0
  have hW' := hW
  obtain ⟨p, q, hA0, hV, rfl, hfz, hnd⟩ := hW
  have hA : DataW.TrodAll enc Try.prog W 0 (fun _ => true) true Try.f6.params.toList args.toList ds p := hA0
  rw [Try.params6] at hA hval
  obtain ⟨v0, vs0, d0, ds0, p0, q0, hargs, rfl, rfl, h0, r0⟩ := trodAll_cons hA
  obtain ⟨v1, vs1, d1, ds1, p1, q1, rfl, rfl, rfl, h1, r1⟩ := trodAll_cons r0
  obtain ⟨rfl, rfl, rfl⟩ := trodAll_nil r1
  obtain rfl : args = #[v0, v1] := by cases args; simp_all
  obtain ⟨rfl, rfl⟩ := trodVars_none hV
  have k0 := h0
  have lt0 : ∀ x ∈ p0, x.block < W.heap.size := by obtain ⟨m, hm⟩ := k0; exact DataW.trod_lt m _ _ _ hm
  obtain ⟨a0, rfl, _, _, w0⟩ := open_int Try.underlying3 (hval 0 3 v0 rfl rfl) h0
  have k1 := h1
  have lt1 : ∀ x ∈ p1, x.block < W.heap.size := by obtain ⟨m, hm⟩ := k1; exact DataW.trod_lt m _ _ _ hm
  obtain ⟨a1, l1, c1, rfl, t1, s1⟩ := open_lines (hval 1 42 v1 rfl rfl) h1
  clear hA0 hval0
  refine (walk a0 a1 l1 c1 W (bounds_i64 w0) t1 s1).mono fun e W' ⟨he, bel⟩ => ?_
  subst he
  exact ⟨_, rfl, _, _, _, [], _, [], hW', trodAll_mk1 (shut_bool Try.underlying4 _), (trodAll_cons_mk (Below.trod laidOut (by kernel_rfl) (of_decide_eq_true (by kernel_rfl)) k0 bel lt0) (trodAll_cons_mk (Below.trod laidOut (by kernel_rfl) (of_decide_eq_true (by kernel_rfl)) k1 bel lt1) trodAll_mk0)), rfl, bel.frame _, fun h => by cases h⟩
theorem over : Rows.tlbRoomsRow.holds Try.pinned (OpenSpec.ofChange Rows.tlbRoomsSpec) :=
  OpenClaim.holds_of_wide 6 Try.f6 rfl rfl rfl rfl rfl rfl rfl ⟨rfl, rfl, rfl, rfl, rfl⟩ rfl rfl rfl rfl rfl (by kernel_rfl) Try.func6 (by kernel_rfl)
    (of_decide_eq_true (by kernel_rfl)) (by unfold Func.isWrapper; first | (rw [if_pos (by decide +kernel)]; kernel_rfl) | (rw [if_neg (by decide +kernel)]; exact ⟨rfl, rfl⟩))
    (fun os started H enc _ => lifted os started H enc)
end Go.Proofs.Ytekjoeebomcmeaa.tlbRooms
namespace Go.Proofs.Ytekjoeebomcmeaa
/-- THE STATEMENT. -/
theorem tlbRooms_said : Rows.TlbRoomsSaid := tlbRooms.over
#print axioms tlbRooms_said
end Go.Proofs.Ytekjoeebomcmeaa

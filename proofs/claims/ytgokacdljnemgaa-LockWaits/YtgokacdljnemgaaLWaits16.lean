/-
  LockWaits: who stands behind n others holds the lock behind n that leave, whoever enters meanwhile; no condition.
-/
import Derived.Test.YtgokacdljnemgaaZFixed
import Derived.Test.YtgokacdljnemgaaZSay
import Derived.Test.YtgokacdljnemgaaZPure
import Derived.Deep.Cut
import Derived.Deep.CutRange
namespace Go.Proofs.Ytgokacdljnemgaa.lockWaits
open Go.RowKit Go.Deep Go.Shelf
theorem mem_at {L : St} {c : Int} (h : c ∈ L) : ∃ k, k < L.length ∧ L[k]? = some c := by
  obtain ⟨k, hk, e⟩ := List.mem_iff_getElem.1 h
  exact ⟨k, hk, by rw [List.getElem?_eq_getElem hk, e]⟩
theorem enter_mem {c : Int} {L : St} (h : hasB 8 c = true) : c ∈ enterS 8 L c := by
  unfold enterS
  rw [if_pos h]
  split
  · rename_i h2
    exact in_iff.1 h2
  · simp
set_option maxHeartbeats 8000000 in
set_option maxRecDepth 100000 in
theorem walk (ao : Option Addr) (X : List Int) (cap : Nat) (core : Int) (w : World) (hX : SeeI w ao X) (_hxl : X.length ≤ 9223372036854775807) (_hc : I64 core) :
    Calls Try.prog 5 #[.slice ao X.length cap, .int .i64 core] w fun e w' => e = .returned (.bool true) ∧ Below w.heap.size w w' := by
  have HX := hid hX
  clear hX
  obtain ⟨d, hd8, hmd⟩ := mask7 core
  have HD := hid (has_nat (n := 8) hd8)
  go_enter Try.func5, Try.ntmps5
  go_wp2_with fail
  refine Calls.mono (new_sep (n := 8) (sep_nil w) (by omega) (by omega)) ?_
  rintro e w1 ⟨p, rfl, s1⟩
  have S1 := hid s1
  clear s1
  generalize hr : w.heap.size = r at *
  have HR := hid hr
  clear hr
  go_wp2_with fail
  go_loopw [7] (fun s7 wr => ∃ (i : Nat) (L : St), i ≤ 40 ∧ s7 = .int .i64 i ∧ Sep w r wr [lkT 8 p L]) (fun s7 _ => 40 - (intOf s7).toNat)
  case atStart => exact ⟨0, [], by omega, rfl, S1.out⟩
  case round =>
    clear S1
    obtain ⟨i, L, hi, rfl, s1⟩ := hrel
    have S1 := hid s1
    by_cases hgo : i < X.length ∧ i < 40
    · obtain ⟨hlt, h40⟩ := hgo
      obtain ⟨b, o, rfl, -, c0⟩ := (HX.out.from HR.out s1.low) i _ (List.getElem?_eq_getElem hlt)
      generalize X[i] = y at *
      obtain ⟨c, hc8, hmy⟩ := mask7 y
      have HH := hid (has_nat (n := 8) hc8)
      clear s1
      generalize hn : X.length = n at *
      have hltz : (i : Int) < (n : Int) := by omega
      have h40z : (i : Int) < 40 := by omega
      go_wp2_with fail
      refine Calls.mono (enter_sep S1.out (c : Int)) ?_
      rintro e w2 ⟨rfl, s2⟩
      have S2 := hid s2
      clear s2 S1
      generalize enterE 8 L (c : Int) = hE at *
      go_wp2
      go_round
      case rel => exact ⟨i + 1, _, by omega, by go_num, S2.out⟩
      case measure => simp [intOf]; omega
    · have hex : (¬ ((i : Int) < (X.length : Int))) ∨ ((i : Int) < (X.length : Int) ∧ ¬ ((i : Int) < 40)) := by omega
      have hG := s1.goodK
      clear hgo s1
      generalize hn : X.length = nX at *
      rcases hex with h | ⟨h, h2⟩
      all_goals
        go_wp2_with fail
        refine Calls.mono (enter_sep S1.out (d : Int)) ?_
        rintro e w2 ⟨rfl, s2⟩
        obtain ⟨k, hkl, hkc⟩ := mem_at (enter_mem (L := L) HD.out)
        have hG2 := s2.goodK
        have hAh := ahead_at hG2.one hkc
        have hk8 : k < 8 := by have := hG2.few; omega
        have HK := hid (And.intro hkc hAh)
        generalize enterS 8 L (d : Int) = M at *
        generalize enterE 8 L (d : Int) = hE at *
        have S2 := hid s2
        clear s2 S1 hG hG2 hkc hAh hkl
        go_wp2_with fail
        refine Calls.mono (ahead_is S2.out (d : Int) HK.out.2) ?_
        rintro e w3 ⟨rfl, s3⟩
        have S3 := hid s3
        clear s3 S2
        have hk0 : ¬ ((k : Int) < 0) := by omega
        have hk7 : ¬ ((7 : Int) < (k : Int)) := by omega
        go_wp2_with fail
        go_loopw [10] (fun s10 wr => ∃ (j : Nat) (A : St), j ≤ k ∧ s10 = .int .i64 j ∧ Sep w r wr [lkT 8 p A] ∧ Hid (A[k - j]? = some (d : Int))) (fun s10 _ => k - (intOf s10).toNat)
        case atStart => exact ⟨0, M, Nat.zero_le _, rfl, S3.out, by rw [Nat.sub_zero]; exact HK.out.1⟩
        case round =>
          clear S3 HK
          obtain ⟨j, A, hj, rfl, s4, HA⟩ := hrel
          have hGA := s4.goodK
          by_cases hlt : j < k
          · have hltz : (j : Int) < (k : Int) := by omega
            rcases A with _ | ⟨x, T⟩
            · have := HA.out
              simp at this
            · obtain ⟨i2, hi2⟩ : ∃ i2, k - j = i2 + 1 := ⟨k - j - 1, by omega⟩
              have hT : T[i2]? = some (d : Int) := by
                have := HA.out
                rw [hi2] at this
                simpa using this
              have hxT : x ∉ T := (List.nodup_cons.1 hGA.one).1
              have hxd : (x == (d : Int)) = false := beq_eq_false_iff_ne.2 fun e => hxT (by rw [e]; exact List.mem_of_getElem? hT)
              have hx8 := hGA.has (x := x) (by simp)
              have HL := hid (leave_head (T := T) hx8)
              have hin : inB T x = false := by
                cases e : inB T x
                · rfl
                · exact absurd (in_iff.1 e) hxT
              have HE := hid (enter_new hx8 hin)
              have hT2 : (T ++ [x])[i2]? = some (d : Int) := by
                rw [List.getElem?_append_left (List.getElem?_eq_some_iff.1 hT).1]
                exact hT
              have HT2 := hid hT2
              have hwk : IntKind.i64.wrap ((k : Int) - 1) = (k : Int) - 1 := by
                unfold IntKind.wrap
                simp [IntKind.bits, IntKind.signed]
                omega
              have hwk2 : IntKind.i64.wrap ((k : Int) - 1 - (j : Int)) = (i2 : Int) := by
                unfold IntKind.wrap
                simp [IntKind.bits, IntKind.signed]
                omega
              have HJ := hid hi2
              have S4 := hid s4
              clear s4 hGA hT hxT hx8 hin hT2 HA hi2
              go_wp2_with fail
              refine Calls.mono (holder_is (x := x) (q := true) S4.out rfl rfl) ?_
              rintro e w5 ⟨rfl, s5⟩
              have S5 := hid s5
              clear s5 S4
              go_wp2_with fail
              refine Calls.mono (leave_is S5.out x HL.out.1 HL.out.2) ?_
              rintro e w6 ⟨rfl, s6⟩
              have S6 := hid s6
              clear s6 S5
              go_wp2_with fail
              refine Calls.mono (enter_is S6.out x HE.out.1 HE.out.2) ?_
              rintro e w7 ⟨rfl, s7⟩
              have HAh := hid (ahead_at s7.goodK.one HT2.out)
              have S7 := hid s7
              clear s7 S6
              go_wp2_with fail
              refine Calls.mono (ahead_is S7.out (d : Int) HAh.out) ?_
              rintro e w8 ⟨rfl, s8⟩
              have S8 := hid s8
              clear s8 S7
              go_wp2
              go_round
              case rel => exact ⟨j + 1, T ++ [x], by omega, by go_num, S8.out, by
                have : k - (j + 1) = i2 := by have := HJ.out; omega
                rw [this]
                exact HT2.out⟩
              case measure => simp [intOf]; omega
          · have hltz : ¬ ((j : Int) < (k : Int)) := by omega
            have hjk : k - j = 0 := by omega
            have hA0 := HA.out
            rw [hjk] at hA0
            rcases A with _ | ⟨x, T⟩
            · simp at hA0
            · obtain rfl : x = (d : Int) := by simpa using hA0
              have HP : Hid (probeB 8 ((d : Int) :: T) (d : Int) = true ∧ probeE 8 ((d : Int) :: T) (d : Int) = 0) := ⟨(probe_in HD.out (in_iff.2 (by simp))).1.trans (by simp [firstI]), (probe_in HD.out (in_iff.2 (by simp))).2⟩
              have S4 := hid s4
              clear s4 hGA HA hA0 hjk
              go_wp2_with fail
              refine Calls.mono (probe_is S4.out (d : Int) HP.out.1 HP.out.2) ?_
              rintro e w5 ⟨rfl, s5⟩
              have S5 := hid s5
              clear s5 S4
              go_wp2_with (go_at_call 24; refine Calls.mono (fixed_sep S5.out) ?_; rintro e wf ⟨rfl, sf⟩; have SF := hid sf; clear sf S5)
              go_ret
              exact ⟨rfl, by rw [HR.out]; exact SF.out.low⟩
open Go.ChangeShapes Go.WideShapes Go.ChangeAt Go.RowKit Go.Joins

/-! ### From the walk to the statement -/
set_option maxRecDepth 100000 in
theorem lifted (os : Os) (started : os.Started) (H : Type) (enc : TypeId × Value → H) :
    ReturnsInHanded {} Try.checked os 5 .any (Rows.lockWaitsSpec.pre6 enc Try.prog Try.f5 Rows.lockWaitsRow.domain false) (Rows.lockWaitsSpec.post enc Try.prog Try.f5 false true false false) := by
  refine returnsInHanded_of_change (C := Try.checked) ownK started (by kernel_rfl) Try.func5
    (ChangeSpec.witness6 (enc := enc) (C := Try.checked) false ⟨#[], #[.slice none 0 0, .int .i64 0], []⟩ 8 (by kernel_rfl) (by kernel_rfl) (by kernel_rfl) (by kernel_rfl)) ?_
  intro W base args ds gs before hval0 hW hcnd _
  have hval : ∀ (j : Nat) t v, Try.f5.params[j]? = some t → args[j]? = some v → Value.okWide Try.prog W .any base t v := hval0
  have hW' := hW
  obtain ⟨p, q, hA0, hV, rfl, hfz, hnd⟩ := hW
  have hA : DataW.TrodAll enc Try.prog W 0 (fun _ => true) true Try.f5.params.toList args.toList ds p := hA0
  rw [Try.params5] at hA hval
  obtain ⟨v0, vs0, d0, ds0, p0, q0, hargs, rfl, rfl, h0, r0⟩ := trodAll_cons hA
  obtain ⟨v1, vs1, d1, ds1, p1, q1, rfl, rfl, rfl, h1, r1⟩ := trodAll_cons r0
  obtain ⟨rfl, rfl, rfl⟩ := trodAll_nil r1
  obtain rfl : args = #[v0, v1] := by cases args; simp_all
  obtain ⟨rfl, rfl⟩ := trodVars_none hV
  have k0 := h0
  have lt0 : ∀ x ∈ p0, x.block < W.heap.size := by obtain ⟨m, hm⟩ := k0; exact DataW.trod_lt m _ _ _ hm
  obtain ⟨a0, l0, c0, rfl, t0, s0⟩ := open_ints (hval 0 38 v0 rfl rfl) h0
  have k1 := h1
  have lt1 : ∀ x ∈ p1, x.block < W.heap.size := by obtain ⟨m, hm⟩ := k1; exact DataW.trod_lt m _ _ _ hm
  obtain ⟨a1, rfl, _, _, w1⟩ := open_int Try.underlying3 (hval 1 3 v1 rfl rfl) h1
  clear hA0 hval0
  refine (walk a0 l0 c0 a1 W t0 s0 (bounds_i64 w1)).mono fun e W' ⟨he, bel⟩ => ?_
  subst he
  exact ⟨_, rfl, _, _, _, [], _, [], hW', trodAll_mk1 (shut_bool Try.underlying4 _), (trodAll_cons_mk (Below.trod laidOut (by kernel_rfl) (of_decide_eq_true (by kernel_rfl)) k0 bel lt0) (trodAll_cons_mk (Below.trod laidOut (by kernel_rfl) (of_decide_eq_true (by kernel_rfl)) k1 bel lt1) trodAll_mk0)), rfl, bel.frame _, fun h => by cases h⟩
theorem over : Rows.lockWaitsRow.holds Try.pinned (OpenSpec.ofChange Rows.lockWaitsSpec) :=
  OpenClaim.holds_of_wide 5 Try.f5 rfl rfl rfl rfl rfl rfl rfl ⟨rfl, rfl, rfl, rfl, rfl⟩ rfl rfl rfl rfl rfl (by kernel_rfl) Try.func5 (by kernel_rfl)
    (of_decide_eq_true (by kernel_rfl)) (by unfold Func.isWrapper; first | (rw [if_pos (by decide +kernel)]; kernel_rfl) | (rw [if_neg (by decide +kernel)]; exact ⟨rfl, rfl⟩))
    (fun os started H enc _ => lifted os started H enc)
end Go.Proofs.Ytgokacdljnemgaa.lockWaits
namespace Go.Proofs.Ytgokacdljnemgaa
/-- THE STATEMENT. -/
theorem lockWaits_said : Rows.LockWaitsSaid := lockWaits.over
#print axioms lockWaits_said
end Go.Proofs.Ytgokacdljnemgaa

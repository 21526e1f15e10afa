/-
  NotifyBits: all bits that were signalled, and no other ones, are got by somebody, or are in the word; no condition.
-/
import Derived.Test.YtbkkpfmhcfkfbaaVLaw
import Derived.Deep.Cut
import Derived.Deep.CutRange
namespace Go.Proofs.Ytbkkpfmhcfkfbaa.notifyBits
open Go.RowKit Go.Deep Go.Shelf
theorem bits_sig {S : Ns} {g O A : Int} (h : Good S) (hg : U64 g) (hO : U64 O) (e : orI O S.w = A) : orI (orI O (sigW S g)) (sigS S g).w = orI A g ∧ U64 (sigW S g) ∧ (sigB S = false → sigW S g = 0) := by
  obtain ⟨b, w, l⟩ := S
  have hw : U64 w := h.bd
  subst e
  cases l with
  | nil => exact ⟨by simp only [sigW, sigS]; rw [or_zero hO, or_assoc hO hw hg], u64_zero, fun _ => rfl⟩
  | cons x T => exact ⟨by simp only [sigW, sigS]; rw [or_assoc hO hg hw, or_comm hg hw, or_assoc hO hw hg], hg, fun e => by cases e⟩
theorem bits_wait {S : Ns} {n O A : Int} {z : Bool} (h : Good S) (hO : U64 O) (e : orI O S.w = A) : orI (orI O (waitW S n)) (waitS S n z).w = A ∧ U64 (waitW S n) ∧ (waitB S n = false → waitW S n = 0) := by
  have hw : U64 S.w := h.bd
  subst e
  unfold waitW waitS waitB
  cases h1 : thB S n
  · cases h2 : S.b
    · cases z <;> simp [or_zero hO, u64_zero]
    · simp [or_assoc hO hw u64_zero, or_zero hw, hw]
  · simp [or_zero hO, u64_zero]
set_option maxHeartbeats 8000000 in
set_option maxRecDepth 100000 in
theorem walk (ao : Option Addr) (X : List Oc) (cap : Nat) (w : World) (hX : Ops w ao X) (_hxl : X.length ≤ 9223372036854775807) :
    Calls Try.prog 4 #[.slice ao X.length cap] w fun e w' => e = .returned (.bool true) ∧ Below w.heap.size w w' := by
  have HX := hid hX
  clear hX
  go_enter Try.func4, Try.ntmps4
  go_wp2_with fail
  refine Calls.mono (new_sep (sep_nil w)) ?_
  rintro e w1 ⟨p, v, rfl, s1⟩
  have S1 := hid s1
  clear s1
  generalize hr : w.heap.size = r at *
  have HR := hid hr
  clear hr
  go_wp2_with fail
  go_loopw [4, 5, 6] (fun s4 s5 s6 wr => ∃ (i : Nat) (v : Value) (S : Ns) (A O : Int), i ≤ 80 ∧ s6 = .int .i64 i ∧ s4 = .int .u64 A ∧ s5 = .int .u64 O ∧ U64 O ∧ U64 A ∧ orI O S.w = A ∧ S.l.length ≤ i ∧ Sep w r wr [ntT p v S]) (fun _ _ s6 _ => 80 - (intOf s6).toNat)
  case atStart => exact ⟨0, v, ns0, 0, 0, by omega, rfl, rfl, rfl, u64_zero, u64_zero, or_zero u64_zero, by simp [ns0], S1.out⟩
  case round =>
    clear S1
    obtain ⟨i, v, S, A, O, hk, rfl, rfl, rfl, hO, hA, hOA, hS, s1⟩ := hrel
    have S1 := hid s1
    have HOA : Hid (U64 O ∧ U64 A ∧ orI O S.w = A) := ⟨hO, hA, hOA⟩
    clear s1 hO hA hOA
    by_cases hgo : i < X.length ∧ i < 80
    · obtain ⟨hlt, h40⟩ := hgo
      obtain ⟨hf, b0, a0, rfl, d0, d1, d2, d3⟩ := Ops.at (SeeK.below HX.out S1.out.low (by rw [HR.out]; exact Nat.le_refl _)) (List.getElem?_eq_getElem hlt)
      generalize hx : X[i] = x at *
      have HSl := hid hS
      have HF := hid hf
      clear hx hS hf
      generalize hn : X.length = n at *
      have hltz : (i : Int) < (n : Int) := by omega
      have h40z : (i : Int) < 80 := by omega
      have s3 := (S1.out.box (objO x)).swap
      generalize hqo : wr.heap.size = qo at *
      obtain ⟨k0, k1, k2, k3⟩ := s3.opAt (q := qo) (x := x) (by simp)
      have S3 := hid s3
      clear s3 S1
      simp only [objO] at k0 k1 k2 k3
      by_cases hk0 : x.k = 0
      · have hq0 : (x.k == 0) = true := by simpa using hk0
        clear hk0
        have HLen : Hid ((sigS S x.g).l.length ≤ S.l.length + 1) := Nat.le_trans (sig_len S x.g) (by omega)
        obtain ⟨xw, hxw⟩ : ∃ xw, sigW S x.g = xw := ⟨_, rfl⟩
        obtain ⟨q, hq⟩ : ∃ q, sigB S = q := ⟨_, rfl⟩
        obtain ⟨T, hT⟩ : ∃ T, sigS S x.g = T := ⟨_, rfl⟩
        obtain ⟨O', hO'⟩ : ∃ O', bits .or .u64 O xw = O' := ⟨_, rfl⟩
        obtain ⟨A', hA'⟩ : ∃ A', bits .or .u64 A x.g = A' := ⟨_, rfl⟩
        have hb := bits_sig (A := A) S3.out.good HF.out.g HOA.out.1 HOA.out.2.2
        rw [hxw, hq, hT] at hb
        generalize hsn : sigN S = sn at *
        have HSN := hid hsn
        clear hsn
        have HN : Hid (sigW S x.g = xw ∧ sigB S = q ∧ sigS S x.g = T) := ⟨hxw, hq, hT⟩
        obtain ⟨y, hy⟩ : ∃ y, T.w = y := ⟨_, rfl⟩
        have HY := hid hy
        have hlast : bits .or .u64 O' y = A' := by have := hb.1; unfold orI at this; rw [hO', hy] at this; rw [this]; exact hA'
        have HO : Hid (U64 O' ∧ U64 A' ∧ orI O' y = A') := ⟨by rw [← hO']; exact or_bd HOA.out.1 hb.2.1, by rw [← hA']; exact or_bd HOA.out.2.1 HF.out.g, hlast⟩
        have hz := hb.2.2
        rw [hT] at HLen
        clear hb hT hq hxw hy
        go_wp2_with fail
        refine Calls.mono (signal_is S3.out x.g HF.out.g (by have := HSl.out; omega) HSN.out HN.out.1 HN.out.2.1 HN.out.2.2) ?_
        rintro e w2 ⟨rfl, v2, s2⟩
        clear k0 k1 k2 k3
        obtain ⟨k0, k1, k2, k3⟩ := s2.opAt (q := qo) (x := x) (by simp)
        have S2 := hid s2.drop2
        clear s2 S3
        cases q with
        | false =>
          obtain rfl := hz rfl
          clear hz
          go_wp2_with fail
          refine Calls.mono (word_is S2.out HY.out rfl) ?_
          rintro e w3 ⟨rfl, s3⟩
          have S4 := hid s3
          clear s3 S2 k0 k1 k2 k3
          generalize T.b = qT at *
          go_wp2
          go_round
          case rel => exact ⟨i + 1, v2, T, A', O', by omega, by go_num, rfl, rfl, HO.out.1, HO.out.2.1, by rw [HY.out]; exact HO.out.2.2, by have := HSl.out; have := HLen.out; omega, S4.out⟩
          case measure => simp [intOf]; omega
        | true =>
          clear hz
          go_wp2_with fail
          refine Calls.mono (word_is S2.out HY.out rfl) ?_
          rintro e w3 ⟨rfl, s3⟩
          have S4 := hid s3
          clear s3 S2 k0 k1 k2 k3
          generalize T.b = qT at *
          go_wp2
          go_round
          case rel => exact ⟨i + 1, v2, T, A', O', by omega, by go_num, rfl, rfl, HO.out.1, HO.out.2.1, by rw [HY.out]; exact HO.out.2.2, by have := HSl.out; have := HLen.out; omega, S4.out⟩
          case measure => simp [intOf]; omega
      · have hq0 : (x.k == 0) = false := by simpa using hk0
        clear hk0
        have HLen : Hid ((waitS S x.n x.z).l.length ≤ S.l.length + 1) := wait_len S x.n x.z
        obtain ⟨xw, hxw⟩ : ∃ xw, waitW S x.n = xw := ⟨_, rfl⟩
        obtain ⟨q, hq⟩ : ∃ q, waitB S x.n = q := ⟨_, rfl⟩
        obtain ⟨T, hT⟩ : ∃ T, waitS S x.n x.z = T := ⟨_, rfl⟩
        obtain ⟨O', hO'⟩ : ∃ O', bits .or .u64 O xw = O' := ⟨_, rfl⟩
        obtain ⟨A', hA'⟩ : ∃ A', A' = A := ⟨_, rfl⟩
        subst hA'
        have hb := bits_wait (n := x.n) (z := x.z) (A := A') S3.out.good HOA.out.1 HOA.out.2.2
        rw [hxw, hq, hT] at hb
        generalize hsn : waitE S x.n = sn at *
        have HSN := hid hsn
        clear hsn
        have HN : Hid (waitW S x.n = xw ∧ waitB S x.n = q ∧ waitS S x.n x.z = T) := ⟨hxw, hq, hT⟩
        obtain ⟨y, hy⟩ : ∃ y, T.w = y := ⟨_, rfl⟩
        have HY := hid hy
        have hlast : bits .or .u64 O' y = A' := by have := hb.1; unfold orI at this; rw [hO', hy] at this; rw [this]
        have HO : Hid (U64 O' ∧ U64 A' ∧ orI O' y = A') := ⟨by rw [← hO']; exact or_bd HOA.out.1 hb.2.1, HOA.out.2.1, hlast⟩
        have hz := hb.2.2
        rw [hT] at HLen
        clear hb hT hq hxw hy
        go_wp2_with fail
        refine Calls.mono (wait_is S3.out x.n x.z (by have := HSl.out; omega) HN.out.1 HN.out.2.1 HSN.out HN.out.2.2) ?_
        rintro e w2 ⟨rfl, v2, s2⟩
        clear k0 k1 k2 k3
        obtain ⟨k0, k1, k2, k3⟩ := s2.opAt (q := qo) (x := x) (by simp)
        have S2 := hid s2.drop2
        clear s2 S3
        cases q with
        | false =>
          obtain rfl := hz rfl
          clear hz
          go_wp2_with fail
          refine Calls.mono (word_is S2.out HY.out rfl) ?_
          rintro e w3 ⟨rfl, s3⟩
          have S4 := hid s3
          clear s3 S2 k0 k1 k2 k3
          generalize T.b = qT at *
          go_wp2
          go_round
          case rel => exact ⟨i + 1, v2, T, A', O', by omega, by go_num, rfl, rfl, HO.out.1, HO.out.2.1, by rw [HY.out]; exact HO.out.2.2, by have := HSl.out; have := HLen.out; omega, S4.out⟩
          case measure => simp [intOf]; omega
        | true =>
          clear hz
          go_wp2_with fail
          refine Calls.mono (word_is S2.out HY.out rfl) ?_
          rintro e w3 ⟨rfl, s3⟩
          have S4 := hid s3
          clear s3 S2 k0 k1 k2 k3
          generalize T.b = qT at *
          go_wp2
          go_round
          case rel => exact ⟨i + 1, v2, T, A', O', by omega, by go_num, rfl, rfl, HO.out.1, HO.out.2.1, by rw [HY.out]; exact HO.out.2.2, by have := HSl.out; have := HLen.out; omega, S4.out⟩
          case measure => simp [intOf]; omega
    · have hex : (¬ ((i : Int) < (X.length : Int))) ∨ ((i : Int) < (X.length : Int) ∧ ¬ ((i : Int) < 80)) := by omega
      clear hgo hS
      generalize hn : X.length = nX at *
      rcases hex with h | ⟨h, h2⟩
      all_goals
        go_wp2_with fail
        refine Calls.mono (fixed_sep S1.out) ?_
        rintro e w2 ⟨rfl, s2⟩
        have S2 := hid s2
        clear s2
        go_wp2
        go_ret
        exact ⟨rfl, by rw [HR.out]; exact S2.out.low⟩
open Go.ChangeShapes Go.WideShapes Go.ChangeAt Go.RowKit Go.Joins

/-! ### From the walk to the statement -/
set_option maxRecDepth 100000 in
theorem lifted (os : Os) (started : os.Started) (H : Type) (enc : TypeId × Value → H) :
    ReturnsInHanded {} Try.checked os 4 .any (Rows.notifyBitsSpec.pre6 enc Try.prog Try.f4 Rows.notifyBitsRow.domain false) (Rows.notifyBitsSpec.post enc Try.prog Try.f4 false true false false) := by
  refine returnsInHanded_of_change (C := Try.checked) own started (by kernel_rfl) Try.func4
    (ChangeSpec.witness6 (enc := enc) (C := Try.checked) false ⟨#[], #[.slice none 0 0], []⟩ 8 (by kernel_rfl) (by kernel_rfl) (by kernel_rfl) (by kernel_rfl)) ?_
  intro W base args ds gs before hval0 hW hcnd _
  have hval : ∀ (j : Nat) t v, Try.f4.params[j]? = some t → args[j]? = some v → Value.okWide Try.prog W .any base t v := hval0
  have hW' := hW
  obtain ⟨p, q, hA0, hV, rfl, hfz, hnd⟩ := hW
  have hA : DataW.TrodAll enc Try.prog W 0 (fun _ => true) true Try.f4.params.toList args.toList ds p := hA0
  rw [Try.params4] at hA hval
  obtain ⟨v0, vs0, d0, ds0, p0, q0, hargs, rfl, rfl, h0, r0⟩ := trodAll_cons hA
  obtain ⟨rfl, rfl, rfl⟩ := trodAll_nil r0
  obtain rfl : args = #[v0] := by cases args; simp_all
  obtain ⟨rfl, rfl⟩ := trodVars_none hV
  have k0 := h0
  have lt0 : ∀ x ∈ p0, x.block < W.heap.size := by obtain ⟨m, hm⟩ := k0; exact DataW.trod_lt m _ _ _ hm
  obtain ⟨a0, l0, c0, rfl, t0, s0⟩ := open_ops (hval 0 22 v0 rfl rfl) h0
  clear hA0 hval0
  refine (walk a0 l0 c0 W t0 s0).mono fun e W' ⟨he, bel⟩ => ?_
  subst he
  exact ⟨_, rfl, _, _, _, [], _, [], hW', trodAll_mk1 (shut_bool Try.underlying4 _), (trodAll_cons_mk (Below.trod laidOut (by kernel_rfl) (of_decide_eq_true (by kernel_rfl)) k0 bel lt0) trodAll_mk0), rfl, bel.frame _, fun h => by cases h⟩
theorem over : Rows.notifyBitsRow.holds Try.pinned (OpenSpec.ofChange Rows.notifyBitsSpec) :=
  OpenClaim.holds_of_wide 4 Try.f4 rfl rfl rfl rfl rfl rfl rfl ⟨rfl, rfl, rfl, rfl, rfl⟩ rfl rfl rfl rfl rfl (by kernel_rfl) Try.func4 (by kernel_rfl)
    (of_decide_eq_true (by kernel_rfl)) (by unfold Func.isWrapper; first | (rw [if_pos (by decide +kernel)]; kernel_rfl) | (rw [if_neg (by decide +kernel)]; exact ⟨rfl, rfl⟩))
    (fun os started H enc _ => lifted os started H enc)
end Go.Proofs.Ytbkkpfmhcfkfbaa.notifyBits
namespace Go.Proofs.Ytbkkpfmhcfkfbaa
/-- THE STATEMENT. -/
theorem notifyBits_said : Rows.NotifyBitsSaid := notifyBits.over
#print axioms notifyBits_said
end Go.Proofs.Ytbkkpfmhcfkfbaa

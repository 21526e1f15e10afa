/-
  MemoryFills answers true for every input: what is filled is one word, all else stays; no condition of ours.
-/
import Derived.Test.YtfdddikgcfejpaaMemLaw
namespace Go.Proofs.Ytfdddikgcfejpaa.memoryFills
open Go.RowKit
set_option maxHeartbeats 1000000 in
theorem walk0 (ao : Option Addr) (L : List Int) (cap : Nat) (k a f z y : Int) (t n m : Nat) (w : World) (ha : Told w ao L) (hl : L.length ≤ 9223372036854775807)
    (ht : bits BinOp.and IntKind.i64 a 31 = (t : Int)) (ht1 : t ≤ 31) (hm : bits BinOp.and IntKind.i64 z 65535 = (m : Int)) (hn : (m : Int) % (33 - (t : Int)) = (n : Int)) (hn1 : (n : Int) < 33 - (t : Int)) (_hm1 : m ≤ 65535) :
    Calls Try.prog 6 #[.slice ao L.length cap, .agg #[.int .i64 k, .int .i64 a, .int .i64 f, .int .i64 z, .int .u64 y]] w fun e w' => e = .returned (.bool true) ∧ Below w.heap.size w w' := by
  have hA := told_box w ao L ha (opObj k a f z y)
  have hO := At.new w (opObj k a f z y)
  have hB := below_new w (opObj k a f z y)
  have hlaid := laid_law ao L cap _ hA hl
  clear ha hA
  go_enter Try.func6, Try.ntmps6
  go_wp2_with fail
  refine hlaid.mono ?_
  rintro e w1 ⟨b, c, M, rfl, hM, m1, hb, hc, b1⟩
  have o1 := hO.below b1
  have B1 := Below.then hB b1 hB.size
  have q1 : w.heap.size < c := Nat.lt_of_lt_of_le hO.lt hc
  clear hO hB b1 hlaid hb hc
  generalize hq : w.heap.size = q at *
  obtain ⟨_, p1, _, p3, p4⟩ := o1.op
  go_wp2_with fail
  refine (words_yes b c M 0 32 w1 m1 (by omega) (by omega)).mono ?_
  rintro e w2 ⟨rfl, r2, b2⟩
  rw [wordsL_all M 32 hM] at r2
  have m2 := m1.below b2
  have o2 := o1.below b2
  have B2 := Below.then B1 b2 (by have := B1.size; omega)
  have q2 : c < w1.heap.size := m1.c_lt
  clear m1 o1 b2 B1 p1 p3 p4
  generalize w1.heap.size = r at *
  obtain ⟨_, _, _, _, p4⟩ := o2.op
  go_wp2_with fail
  refine (fill_yes b c M t n y w2 m2 (by omega) (by omega)).mono ?_
  rintro e w3 ⟨rfl, m3, u3⟩
  have r3 : Row w3 r M := r2.upto u3 (by omega)
  have o3 := o2.upto u3 (by omega)
  have B3 := u3.below B2 (by have := B2.size; omega) (by omega)
  have hF := fillL_len M t n y (by omega)
  clear m2 o2 u3 B2 r2 p4
  go_wp2_with fail
  refine (words_yes b c (fillL M t n y) 0 32 w3 m3 (by omega) (by omega)).mono ?_
  rintro e w4 ⟨rfl, r4, b4⟩
  rw [wordsL_all (fillL M t n y) 32 (by omega)] at r4
  have r5 := r3.below b4
  have o4 := o3.below b4
  have B4 := Below.then B3 b4 (by have := B3.size; omega)
  clear m3 o3 b4 B3 r3
  generalize w3.heap.size = s at *
  obtain ⟨_, _, _, _, p4⟩ := o4.op
  go_wp2
  go_loopw [13] (fun i wr => ∃ k j : Nat, k ≤ 32 ∧ i = .int .i64 k ∧ wr = w4.drewN j) (fun i _ => 32 - (intOf i).toNat)
  case atStart => exact ⟨0, 0, Nat.zero_le _, rfl, rfl⟩
  case round =>
    obtain ⟨k, j, hk, rfl, rfl⟩ := hrel
    have hw : IntKind.i64.wrap ((t : Int) + (n : Int)) = (t : Int) + (n : Int) := by rw [IntKind.wrap_i64]; omega
    by_cases hk2 : k < 32
    · have hx := r4.cell (j := k) (by omega)
      have hy := r5.cell (j := k) (by omega)
      have hg := fillL_get M t n k y (by omega)
      by_cases hin : t ≤ k ∧ k < t + n
      · rw [if_pos hin] at hg
        rw [hg] at hx
        clear hg r4 r5 B4 hF
        have h1 : (t : Int) ≤ k := by omega
        have h2 : (k : Int) < t + n := by omega
        have h3 : (k : Int) < 32 := by omega
        have h4 : (y != y) = false := by simp
        have g1 : ¬ k < t := by omega
        have g2 : ¬ ((k : Int) < t) := by omega
        have g3 : decide ((t : Int) + n ≤ k) = false := by simp; omega
        generalize M.getD k 0 = x at *
        go_wp2
        go_quiet (fail)
        go_wp2
        go_roundw
        case rel => exact ⟨k + 1, _, by omega, by go_num, rfl⟩
        case measure => simp [intOf]; omega
      · rw [if_neg hin] at hg
        rw [hg] at hx
        clear hg r4 r5 B4 hF
        have h3 : (k : Int) < 32 := by omega
        generalize M.getD k 0 = x at *
        have h4 : (x != x) = false := by simp
        by_cases h1 : k < t
        · have h5 : (k : Int) < t := by omega
          have g1 : ¬ t ≤ k := by omega
          have g2 : ¬ ((t : Int) ≤ k) := by omega
          go_wp2
          go_quiet (fail)
          go_wp2
          go_roundw
          case rel => exact ⟨k + 1, _, by omega, by go_num, rfl⟩
          case measure => simp [intOf]; omega
        · have h5 : (t : Int) ≤ k := by omega
          have h6 : (t : Int) + n ≤ k := by omega
          have g1 : decide ((k : Int) < t + n) = false := by simp; omega
          have g2 : ¬ ((k : Int) < t) := by omega
          go_wp2
          go_quiet (fail)
          go_wp2
          go_roundw
          case rel => exact ⟨k + 1, _, by omega, by go_num, rfl⟩
          case measure => simp [intOf]; omega
    · have hk3 : k = 32 := by omega
      subst hk3
      go_wp2_with fail
      refine (fixed_any _).mono ?_
      rintro e w5 ⟨rfl, b5⟩
      have B5 := Below.then (Below.then B4 (below_drewN w4 j) (by have := B4.size; omega)) b5 (by have := B4.size; simp; omega)
      go_wp2
      go_ret
      subst hq
      exact ⟨rfl, B5⟩
theorem walk (ao : Option Addr) (L : List Int) (cap : Nat) (k a f z y : Int) (w : World) (ha : Told w ao L) (hl : L.length ≤ 9223372036854775807) (_ : I64 k) (_ : I64 a) (_ : I64 f) (_ : I64 z) :
    Calls Try.prog 6 #[.slice ao L.length cap, .agg #[.int .i64 k, .int .i64 a, .int .i64 f, .int .i64 z, .int .u64 y]] w fun e w' => e = .returned (.bool true) ∧ Below w.heap.size w w' := by
  obtain ⟨t, ht1, ht⟩ := mask31 a
  obtain ⟨m, hm1, hm⟩ := mask65535 z
  obtain ⟨n, hn1, hn⟩ := rem_nat m (33 - (t : Int)) (by omega)
  exact walk0 ao L cap k a f z y t n m w ha hl ht ht1 hm hn hn1 hm1
open Go.ChangeShapes Go.WideShapes Go.ChangeAt Go.RowKit Go.Joins

/-! ### From the walk to the statement -/
set_option maxRecDepth 100000 in
theorem lifted (os : Os) (started : os.Started) (H : Type) (enc : TypeId × Value → H) :
    ReturnsInHanded {} Try.checked os 6 .any (Rows.memoryFillsSpec.pre6 enc Try.prog Try.f6 Rows.memoryFillsRow.domain false) (Rows.memoryFillsSpec.post enc Try.prog Try.f6 false true false false) := by
  refine returnsInHanded_of_change (C := Try.checked) own started (by kernel_rfl) Try.func6
    (ChangeSpec.witness6 (enc := enc) (C := Try.checked) false ⟨#[], #[.slice none 0 0, .agg #[.int .i64 0, .int .i64 0, .int .i64 0, .int .i64 0, .int .u64 0]], []⟩ 8 (by kernel_rfl) (by kernel_rfl) (by kernel_rfl) (by kernel_rfl)) ?_
  intro W base args ds gs before hval0 hW hcnd _
  have hval : ∀ (j : Nat) t v, Try.f6.params[j]? = some t → args[j]? = some v → Value.okWide Try.prog W .any base t v := hval0
  have hW' := hW
  obtain ⟨p, q, hA0, hV, rfl, hfz, hnd⟩ := hW
  have hA : DataW.TrodAll enc Try.prog W 0 (fun _ => true) true Try.f6.params.toList args.toList ds p := hA0
  rw [Try.params6] at hA hval
  obtain ⟨v0, vs0, d0, ds0, p0, q0, hargs, rfl, rfl, h0, r0⟩ := trodAll_cons hA
  obtain ⟨v1, vs1, d1, ds1, p1, q1, rfl, rfl, rfl, h1, r1⟩ := trodAll_cons r0
  obtain ⟨rfl, rfl, rfl⟩ := trodAll_nil r1
  obtain rfl : args = #[v0, v1] := by cases args; simp_all
  obtain ⟨rfl, rfl⟩ := trodVars_none hV
  have k0 := h0
  have lt0 : ∀ x ∈ p0, x.block < W.heap.size := by obtain ⟨m, hm⟩ := k0; exact DataW.trod_lt m _ _ _ hm
  obtain ⟨a0, l0, c0, rfl, t0, s0⟩ := open_words (hval 0 36 v0 rfl rfl) h0
  have k1 := h1
  have lt1 : ∀ x ∈ p1, x.block < W.heap.size := by obtain ⟨m, hm⟩ := k1; exact DataW.trod_lt m _ _ _ hm
  obtain ⟨o1k, o1a, o1f, o1n, o1y, rfl, wo1k, wo1a, wo1f, wo1n⟩ := open_op (hval 1 32 v1 rfl rfl) h1
  clear hA0 hval0
  refine (walk a0 l0 c0 o1k o1a o1f o1n o1y W t0 s0 wo1k wo1a wo1f wo1n).mono fun e W' ⟨he, bel⟩ => ?_
  subst he
  exact ⟨_, rfl, _, _, _, [], _, [], hW', trodAll_mk1 (shut_bool Try.underlying4 _), (trodAll_cons_mk (Below.trod laidOut (by kernel_rfl) (of_decide_eq_true (by kernel_rfl)) k0 bel lt0) (trodAll_cons_mk (Below.trod laidOut (by kernel_rfl) (of_decide_eq_true (by kernel_rfl)) k1 bel lt1) trodAll_mk0)), rfl, bel.frame _, fun h => by cases h⟩
theorem over : Rows.memoryFillsRow.holds Try.pinned (OpenSpec.ofChange Rows.memoryFillsSpec) :=
  OpenClaim.holds_of_wide 6 Try.f6 rfl rfl rfl rfl rfl rfl rfl ⟨rfl, rfl, rfl, rfl, rfl⟩ rfl rfl rfl rfl rfl (by kernel_rfl) Try.func6 (by kernel_rfl)
    (of_decide_eq_true (by kernel_rfl)) (by unfold Func.isWrapper; first | (rw [if_pos (by decide +kernel)]; kernel_rfl) | (rw [if_neg (by decide +kernel)]; exact ⟨rfl, rfl⟩))
    (fun os started H enc _ => lifted os started H enc)
end Go.Proofs.Ytfdddikgcfejpaa.memoryFills
namespace Go.Proofs.Ytfdddikgcfejpaa
/-- THE STATEMENT. -/
theorem memoryFills_said : Rows.MemoryFillsSaid := memoryFills.over
#print axioms memoryFills_said
end Go.Proofs.Ytfdddikgcfejpaa

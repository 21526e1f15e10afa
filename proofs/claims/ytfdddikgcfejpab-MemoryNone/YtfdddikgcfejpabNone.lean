/-
  MemoryNone answers true for every input: words that are not there are neither read nor written, filled nor moved; all stay; no condition of ours.
-/
import Derived.Test.YtfdddikgcfejpabMemLaw
namespace Go.Proofs.Ytfdddikgcfejpab.memoryNone
open Go.RowKit
set_option maxRecDepth 100000 in
set_option maxHeartbeats 2000000 in
theorem walk0 (ao : Option Addr) (L : List Int) (cap : Nat) (k a f z y : Int) (t n : Nat) (w : World) (ha : Told w ao L) (hl : L.length ≤ 9223372036854775807)
    (ht : bits BinOp.and IntKind.i64 a 65535 = (t : Int)) (ht1 : t ≤ 65535) (hn : bits BinOp.and IntKind.i64 z 65535 = (n : Int)) (hn1 : n ≤ 65535) :
    Calls Try.prog 4 #[.slice ao L.length cap, .agg #[.int .i64 k, .int .i64 a, .int .i64 f, .int .i64 z, .int .u64 y]] w fun e w' => e = .returned (.bool true) ∧ Below w.heap.size w w' := by
  have hA := told_box w ao L ha (opObj k a f z y)
  have hO := At.new w (opObj k a f z y)
  have hB := below_new w (opObj k a f z y)
  have hlaid := laid_law ao L cap _ hA hl
  have hw1 : IntKind.i64.wrap (-1 - (t : Int)) = -1 - (t : Int) := by rw [IntKind.wrap_i64]; omega
  have hw2 : IntKind.i64.wrap (2 + (n : Int)) = 2 + (n : Int) := by rw [IntKind.wrap_i64]; omega
  clear ha hA
  go_enter Try.func4, Try.ntmps4
  go_wp2_with fail
  refine hlaid.mono ?_
  rintro e w1 ⟨b, c, M, rfl, hM, m1, hb, hc, b1⟩
  have o1 := hO.below b1
  have B1 := Below.then hB b1 hB.size
  clear hO hB b1 hlaid hb hc
  go_wp2_with fail
  refine (words_yes b c M 0 32 w1 m1 (by omega) (by omega)).mono ?_
  rintro e w2 ⟨rfl, r2, b2⟩
  rw [wordsL_all M 32 hM] at r2
  have m2 := m1.below b2
  have o2 := o1.below b2
  have B2 := Below.then B1 b2 B1.size
  clear m1 o1 b2 B1
  generalize w1.heap.size = r at *
  have hn1' : thereB M.length (32 + (t : Int)) 1 = false := by simp [thereB]; omega
  have hn2' : thereB M.length (-1 - (t : Int)) 1 = false := by simp [thereB]; omega
  have hn3' : thereB M.length 31 (2 + (n : Int)) = false := by simp [thereB]; omega
  obtain ⟨_, p1, _, p3, p4⟩ := o2.op
  have T1 : Hid (thereB M.length (32 + (t : Int)) 1 = false) := hn1'
  have T2 : Hid (thereB M.length (-1 - (t : Int)) 1 = false) := hn2'
  have T3 : Hid (thereB M.length 31 (2 + (n : Int)) = false) := hn3'
  clear hn1' hn2' hn3'
  go_wp2_with fail
  refine (read_no b c M _ w2 m2 (by omega) (by omega) T1.out).mono ?_
  rintro e w3 ⟨rfl, rfl⟩
  go_wp2_with fail
  refine (read_no b c M _ w3 m2 (by omega) (by omega) T2.out).mono ?_
  rintro e w4 ⟨rfl, rfl⟩
  go_wp2_with fail
  go_quiet ((first | (go_at_call 9; exact Calls.quiet_of_same (write_no b c M _ _ _ (m2.heap (by rfl)) (by omega) (by omega) (by first | exact T1.out | exact T2.out)))))
  generalize hu : w4.drewN nq = u0 at *
  have m3 : Mem 45 u0 b c M := by rw [← hu]; exact m2.heap rfl
  have r3 : Row u0 r M := by rw [← hu]; exact r2
  have o3 : At u0 w.heap.size (opObj k a f z y) := by rw [← hu]; exact o2
  have B3 : Below w.heap.size w u0 := by rw [← hu]; exact Below.then B2 (below_drewN w4 _) B2.size
  clear hu m2 r2 B2 o2
  clear p1 p3 p4 nq
  obtain ⟨_, p1, _, p3, p4⟩ := o3.op
  go_wp2_with fail
  go_quiet ((first | (go_at_call 13; exact Calls.quiet_of_same (fill_no b c M _ _ _ _ (m3.heap (by rfl)) (by omega) (by omega) (by first | exact T1.out | exact T3.out))) | (go_at_call 14; exact Calls.quiet_of_same (move_no b c M _ _ _ _ (m3.heap (by rfl)) (by omega) (by omega) (by omega) (.inl T3.out)))))
  go_wp2_with fail
  generalize hu : u0.drewN nq = u at *
  have m4 : Mem 45 u b c M := by rw [← hu]; exact m3.heap rfl
  have r4 : Row u r M := by rw [← hu]; exact r3
  have o4 : At u w.heap.size (opObj k a f z y) := by rw [← hu]; exact o3
  have B4 : Below w.heap.size w u := by rw [← hu]; exact Below.then B3 (below_drewN u0 _) B3.size
  clear hu m3 r3 B3 o3
  clear p1 p3 p4 T1 T2 T3 nq o4
  refine (words_yes b c M 0 32 u m4 (by omega) (by omega)).mono ?_
  rintro e w5 ⟨rfl, r5, b5⟩
  rw [wordsL_all M 32 hM] at r5
  have s5 := r4.below b5
  have B5 := Below.then B4 b5 B4.size
  clear m4 r4 b5 B4
  generalize u.heap.size = s at *
  go_wp2
  go_loopw [21] (fun i wr => ∃ k j : Nat, k ≤ 32 ∧ i = .int .i64 k ∧ wr = w5.drewN j) (fun i _ => 32 - (intOf i).toNat)
  case atStart => exact ⟨0, 0, Nat.zero_le _, rfl, rfl⟩
  case round =>
    obtain ⟨k, j, hk, rfl, rfl⟩ := hrel
    by_cases hk2 : k < 32
    · have hx := r5.cell (j := k) (by omega)
      have hy := s5.cell (j := k) (by omega)
      generalize M.getD k 0 = x at *
      have h3 : (k : Int) < 32 := by omega
      have h4 : (x != x) = false := by simp
      clear r5 s5 B5
      go_wp2
      go_quiet (fail)
      go_wp2
      go_roundw
      case rel => exact ⟨k + 1, _, by omega, by go_num, rfl⟩
      case measure => simp [intOf]; omega
    · have hk3 : k = 32 := by omega
      subst hk3
      go_wp2_with fail
      refine (fixed_any _).mono ?_
      rintro e w6 ⟨rfl, b6⟩
      have B6 := Below.then (Below.then B5 (below_drewN w5 j) B5.size) b6 (by have := B5.size; simpa using this)
      go_wp2
      go_ret
      exact ⟨rfl, B6⟩
theorem walk (ao : Option Addr) (L : List Int) (cap : Nat) (k a f z y : Int) (w : World) (ha : Told w ao L) (hl : L.length ≤ 9223372036854775807) (_ : I64 k) (_ : I64 a) (_ : I64 f) (_ : I64 z) :
    Calls Try.prog 4 #[.slice ao L.length cap, .agg #[.int .i64 k, .int .i64 a, .int .i64 f, .int .i64 z, .int .u64 y]] w fun e w' => e = .returned (.bool true) ∧ Below w.heap.size w w' := by
  obtain ⟨t, ht1, ht⟩ := mask65535 a
  obtain ⟨n, hn1, hn⟩ := mask65535 z
  exact walk0 ao L cap k a f z y t n w ha hl ht ht1 hn hn1
open Go.ChangeShapes Go.WideShapes Go.ChangeAt Go.RowKit Go.Joins

/-! ### From the walk to the statement -/
set_option maxRecDepth 100000 in
theorem lifted (os : Os) (started : os.Started) (H : Type) (enc : TypeId × Value → H) :
    ReturnsInHanded {} Try.checked os 4 .any (Rows.memoryNoneSpec.pre6 enc Try.prog Try.f4 Rows.memoryNoneRow.domain false) (Rows.memoryNoneSpec.post enc Try.prog Try.f4 false true false false) := by
  refine returnsInHanded_of_change (C := Try.checked) own started (by kernel_rfl) Try.func4
    (ChangeSpec.witness6 (enc := enc) (C := Try.checked) false ⟨#[], #[.slice none 0 0, .agg #[.int .i64 0, .int .i64 0, .int .i64 0, .int .i64 0, .int .u64 0]], []⟩ 8 (by kernel_rfl) (by kernel_rfl) (by kernel_rfl) (by kernel_rfl)) ?_
  intro W base args ds gs before hval0 hW hcnd _
  have hval : ∀ (j : Nat) t v, Try.f4.params[j]? = some t → args[j]? = some v → Value.okWide Try.prog W .any base t v := hval0
  have hW' := hW
  obtain ⟨p, q, hA0, hV, rfl, hfz, hnd⟩ := hW
  have hA : DataW.TrodAll enc Try.prog W 0 (fun _ => true) true Try.f4.params.toList args.toList ds p := hA0
  rw [Try.params4] at hA hval
  obtain ⟨v0, vs0, d0, ds0, p0, q0, hargs, rfl, rfl, h0, r0⟩ := trodAll_cons hA
  obtain ⟨v1, vs1, d1, ds1, p1, q1, rfl, rfl, rfl, h1, r1⟩ := trodAll_cons r0
  obtain ⟨rfl, rfl, rfl⟩ := trodAll_nil r1
  obtain rfl : args = #[v0, v1] := by cases args; simp_all
  obtain ⟨rfl, rfl⟩ := trodVars_none hV
  have k0 := h0
  have lt0 : ∀ x ∈ p0, x.block < W.heap.size := by obtain ⟨m, hm⟩ := k0; exact DataW.trod_lt m _ _ _ hm
  obtain ⟨a0, l0, c0, rfl, t0, s0⟩ := open_words (hval 0 22 v0 rfl rfl) h0
  have k1 := h1
  have lt1 : ∀ x ∈ p1, x.block < W.heap.size := by obtain ⟨m, hm⟩ := k1; exact DataW.trod_lt m _ _ _ hm
  obtain ⟨o1k, o1a, o1f, o1n, o1y, rfl, wo1k, wo1a, wo1f, wo1n⟩ := open_op (hval 1 25 v1 rfl rfl) h1
  clear hA0 hval0
  refine (walk a0 l0 c0 o1k o1a o1f o1n o1y W t0 s0 wo1k wo1a wo1f wo1n).mono fun e W' ⟨he, bel⟩ => ?_
  subst he
  exact ⟨_, rfl, _, _, _, [], _, [], hW', trodAll_mk1 (shut_bool Try.underlying4 _), (trodAll_cons_mk (Below.trod laidOut (by kernel_rfl) (of_decide_eq_true (by kernel_rfl)) k0 bel lt0) (trodAll_cons_mk (Below.trod laidOut (by kernel_rfl) (of_decide_eq_true (by kernel_rfl)) k1 bel lt1) trodAll_mk0)), rfl, bel.frame _, fun h => by cases h⟩
theorem over : Rows.memoryNoneRow.holds Try.pinned (OpenSpec.ofChange Rows.memoryNoneSpec) :=
  OpenClaim.holds_of_wide 4 Try.f4 rfl rfl rfl rfl rfl rfl rfl ⟨rfl, rfl, rfl, rfl, rfl⟩ rfl rfl rfl rfl rfl (by kernel_rfl) Try.func4 (by kernel_rfl)
    (of_decide_eq_true (by kernel_rfl)) (by unfold Func.isWrapper; first | (rw [if_pos (by decide +kernel)]; kernel_rfl) | (rw [if_neg (by decide +kernel)]; exact ⟨rfl, rfl⟩))
    (fun os started H enc _ => lifted os started H enc)
end Go.Proofs.Ytfdddikgcfejpab.memoryNone
namespace Go.Proofs.Ytfdddikgcfejpab
/-- THE STATEMENT. -/
theorem memoryNone_said : Rows.MemoryNoneSaid := memoryNone.over
#print axioms memoryNone_said
end Go.Proofs.Ytfdddikgcfejpab

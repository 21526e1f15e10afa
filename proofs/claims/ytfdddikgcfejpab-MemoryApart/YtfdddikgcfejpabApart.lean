/-
  MemoryApart answers true for every input: a copy and its original go their own ways; no condition of ours.
-/
import Derived.Test.YtfdddikgcfejpabMemLaw
namespace Go.Proofs.Ytfdddikgcfejpab.memoryApart
open Go.RowKit
set_option maxRecDepth 100000 in
set_option maxHeartbeats 2000000 in
theorem walk0 (ao : Option Addr) (L : List Int) (cap : Nat) (k a f z y : Int) (t : Nat) (w : World) (ha : Told w ao L) (hl : L.length ≤ 9223372036854775807)
    (ht : bits BinOp.and IntKind.i64 a 31 = (t : Int)) (ht1 : t ≤ 31) :
    Calls Try.prog 3 #[.slice ao L.length cap, .agg #[.int .i64 k, .int .i64 a, .int .i64 f, .int .i64 z, .int .u64 y]] w fun e w' => e = .returned (.bool true) ∧ Below w.heap.size w w' := by
  have hA := told_box w ao L ha (opObj k a f z y)
  have hO := At.new w (opObj k a f z y)
  have hB := below_new w (opObj k a f z y)
  have hlaid := laid_law ao L cap _ hA hl
  clear ha hA
  go_enter Try.func3, Try.ntmps3
  go_wp2_with fail
  refine hlaid.mono ?_
  rintro e w1 ⟨b, c, M, rfl, hM, m1, hb, hc, b1⟩
  have o1 := hO.below b1
  have B1 := Below.then hB b1 hB.size
  have q1 : w.heap.size < c := Nat.lt_of_lt_of_le hO.lt hc
  have q2 : w.heap.size < b := Nat.lt_of_lt_of_le hO.lt hb
  clear hO hB b1 hlaid hb hc
  go_wp2_with fail
  refine (copy_any b c M w1 m1 (by omega)).mono ?_
  rintro e w2 ⟨b', rfl, n2, hb', b2⟩
  have m2 := m1.below b2
  have o2 := o1.below b2
  have B2 := Below.then B1 b2 B1.size
  have q3 : c < w1.heap.size := m1.c_lt
  have q4 : b < w1.heap.size := m1.lt
  clear m1 o1 b2 B1
  generalize w1.heap.size = c' at *
  go_wp2_with fail
  refine (size_any b' c' M w2 n2).mono ?_
  rintro e w3 ⟨rfl, rfl⟩
  rw [hM]
  go_wp2_with fail
  refine (words_yes b c M 0 32 w3 m2 (by omega) (by omega)).mono ?_
  rintro e w4 ⟨rfl, r4, b4⟩
  rw [wordsL_all M 32 hM] at r4
  have m4 := m2.below b4
  have n4 := n2.below b4
  have o4 := o2.below b4
  have B4 := Below.then B2 b4 B2.size
  have q5 : c' < w3.heap.size := n2.c_lt
  clear m2 n2 o2 b4 B2
  generalize w3.heap.size = r at *
  obtain ⟨_, p1, _, _, p4⟩ := o4.op
  go_wp2_with fail
  refine (write_yes b c M t y w4 m4 (by omega) (by omega)).mono ?_
  rintro e w5 ⟨rfl, m5, u5⟩
  have r5 := r4.upto u5 (by omega)
  have n5 := n4.upto u5 (by omega) (by omega)
  have B5 := u5.below B4 B4.size (by omega)
  clear m4 n4 o4 B4 r4 u5 p1 p4
  go_wp2_with fail
  refine (write_yes b c _ 31 5 w5 m5 (by simp; omega) (by simp; omega)).mono ?_
  rintro e w6 ⟨rfl, m6, u6⟩
  have r6 := r5.upto u6 (by omega)
  have n6 := n5.upto u6 (by omega) (by omega)
  have B6 := u6.below B5 B5.size (by omega)
  clear m5 n5 B5 r5 u6
  go_wp2_with fail
  refine (words_yes b' c' M 0 32 w6 n6 (by omega) (by omega)).mono ?_
  rintro e w7 ⟨rfl, s7, b7⟩
  rw [wordsL_all M 32 hM] at s7
  have m7 := m6.below b7
  have r7 := r6.below b7
  have B7 := Below.then B6 b7 B6.size
  clear m6 n6 b7 B6 r6
  generalize w6.heap.size = s at *
  have hr := read_yes b c _ 31 w7 m7 (by simp; omega) (by simp; omega)
  rw [show ((M.set t y).set 31 5).getD 31 0 = 5 by rw [List.getD_eq_getElem?_getD, List.getElem?_set_self (by simp; omega)]; rfl] at hr
  have hs := same_yes (some ⟨r, 0, none⟩) (some ⟨s, 0, none⟩) M 32 32 w7 r7.told s7.told (by omega)
  rw [hM] at hs
  clear m7 r7 s7
  go_wp2_with fail
  refine hr.mono ?_
  rintro e w8 ⟨rfl, rfl⟩
  clear hr
  go_wp2_with fail
  refine hs.mono ?_
  rintro e w9 ⟨rfl, j, rfl⟩
  clear hs
  go_wp2_with fail
  refine (fixed_any _).mono ?_
  rintro e w10 ⟨rfl, b10⟩
  have B10 := Below.then (Below.then B7 (below_drewN w8 j) B7.size) b10 (by have := B7.size; simpa using this)
  go_wp2
  go_ret
  exact ⟨rfl, B10⟩
theorem walk (ao : Option Addr) (L : List Int) (cap : Nat) (k a f z y : Int) (w : World) (ha : Told w ao L) (hl : L.length ≤ 9223372036854775807) (_ : I64 k) (_ : I64 a) (_ : I64 f) (_ : I64 z) :
    Calls Try.prog 3 #[.slice ao L.length cap, .agg #[.int .i64 k, .int .i64 a, .int .i64 f, .int .i64 z, .int .u64 y]] w fun e w' => e = .returned (.bool true) ∧ Below w.heap.size w w' := by
  obtain ⟨t, ht1, ht⟩ := mask31 a
  exact walk0 ao L cap k a f z y t w ha hl ht ht1
open Go.ChangeShapes Go.WideShapes Go.ChangeAt Go.RowKit Go.Joins

/-! ### From the walk to the statement -/
set_option maxRecDepth 100000 in
theorem lifted (os : Os) (started : os.Started) (H : Type) (enc : TypeId × Value → H) :
    ReturnsInHanded {} Try.checked os 3 .any (Rows.memoryApartSpec.pre6 enc Try.prog Try.f3 Rows.memoryApartRow.domain false) (Rows.memoryApartSpec.post enc Try.prog Try.f3 false true false false) := by
  refine returnsInHanded_of_change (C := Try.checked) own started (by kernel_rfl) Try.func3
    (ChangeSpec.witness6 (enc := enc) (C := Try.checked) false ⟨#[], #[.slice none 0 0, .agg #[.int .i64 0, .int .i64 0, .int .i64 0, .int .i64 0, .int .u64 0]], []⟩ 8 (by kernel_rfl) (by kernel_rfl) (by kernel_rfl) (by kernel_rfl)) ?_
  intro W base args ds gs before hval0 hW hcnd _
  have hval : ∀ (j : Nat) t v, Try.f3.params[j]? = some t → args[j]? = some v → Value.okWide Try.prog W .any base t v := hval0
  have hW' := hW
  obtain ⟨p, q, hA0, hV, rfl, hfz, hnd⟩ := hW
  have hA : DataW.TrodAll enc Try.prog W 0 (fun _ => true) true Try.f3.params.toList args.toList ds p := hA0
  rw [Try.params3] at hA hval
  obtain ⟨v0, vs0, d0, ds0, p0, q0, hargs, rfl, rfl, h0, r0⟩ := trodAll_cons hA
  obtain ⟨v1, vs1, d1, ds1, p1, q1, rfl, rfl, rfl, h1, r1⟩ := trodAll_cons r0
  obtain ⟨rfl, rfl, rfl⟩ := trodAll_nil r1
  obtain rfl : args = #[v0, v1] := by cases args; simp_all
  obtain ⟨rfl, rfl⟩ := trodVars_none hV
  have k0 := h0
  have lt0 : ∀ x ∈ p0, x.block < W.heap.size := by obtain ⟨m, hm⟩ := k0; exact DataW.trod_lt m _ _ _ hm
  obtain ⟨a0, l0, c0, rfl, t0, s0⟩ := open_words (hval 0 22 v0 rfl rfl) h0
  have k1 := h1
  have lt1 : ∀ x ∈ p1, x.block < W.heap.size := by obtain ⟨m, hm⟩ := k1; exact DataW.trod_lt m _ _ _ hm
  obtain ⟨o1k, o1a, o1f, o1n, o1y, rfl, wo1k, wo1a, wo1f, wo1n⟩ := open_op (hval 1 25 v1 rfl rfl) h1
  clear hA0 hval0
  refine (walk a0 l0 c0 o1k o1a o1f o1n o1y W t0 s0 wo1k wo1a wo1f wo1n).mono fun e W' ⟨he, bel⟩ => ?_
  subst he
  exact ⟨_, rfl, _, _, _, [], _, [], hW', trodAll_mk1 (shut_bool Try.underlying4 _), (trodAll_cons_mk (Below.trod laidOut (by kernel_rfl) (of_decide_eq_true (by kernel_rfl)) k0 bel lt0) (trodAll_cons_mk (Below.trod laidOut (by kernel_rfl) (of_decide_eq_true (by kernel_rfl)) k1 bel lt1) trodAll_mk0)), rfl, bel.frame _, fun h => by cases h⟩
theorem over : Rows.memoryApartRow.holds Try.pinned (OpenSpec.ofChange Rows.memoryApartSpec) :=
  OpenClaim.holds_of_wide 3 Try.f3 rfl rfl rfl rfl rfl rfl rfl ⟨rfl, rfl, rfl, rfl, rfl⟩ rfl rfl rfl rfl rfl (by kernel_rfl) Try.func3 (by kernel_rfl)
    (of_decide_eq_true (by kernel_rfl)) (by unfold Func.isWrapper; first | (rw [if_pos (by decide +kernel)]; kernel_rfl) | (rw [if_neg (by decide +kernel)]; exact ⟨rfl, rfl⟩))
    (fun os started H enc _ => lifted os started H enc)
end Go.Proofs.Ytfdddikgcfejpab.memoryApart
namespace Go.Proofs.Ytfdddikgcfejpab
/-- THE STATEMENT. -/
theorem memoryApart_said : Rows.MemoryApartSaid := memoryApart.over
#print axioms memoryApart_said
end Go.Proofs.Ytfdddikgcfejpab

/-
  MemoryMoves answers true for every input: what is moved there and back again, to where nothing else is, is as it was; no condition of ours.
-/
import Derived.Test.YtfdddikgcfejpaaMemLaw
namespace Go.Proofs.Ytfdddikgcfejpaa.memoryMoves
open Go.RowKit
theorem back (M : List Int) (f k : Nat) (hM : M.length = 32) (h : f + k ≤ 16) : wordsL (moveL (fillL (moveL M 16 f k) f k 77) f 16 k) f k = wordsL M f k := by
  have e1 := moveL_len M 16 f k (by omega) (by omega)
  have e2 := fillL_len (moveL M 16 f k) f k 77 (by omega)
  have e3 := moveL_len (fillL (moveL M 16 f k) f k 77) f 16 k (by omega) (by omega)
  have e4 := wordsL_len M f k (by omega)
  have e5 := wordsL_len (moveL (fillL (moveL M 16 f k) f k 77) f 16 k) f k (by omega)
  refine list_ext (by rw [e4, e5]) fun j hj => ?_
  rw [e5] at hj
  rw [wordsL_get _ f k j (by omega) hj, wordsL_get _ f k j (by omega) hj, moveL_get _ f 16 k _ (by omega) (by omega), if_pos (by omega), fillL_get _ f k _ 77 (by omega), if_neg (by omega), moveL_get M 16 f k _ (by omega) (by omega), if_pos (by omega)]
  congr 1
  omega
set_option maxHeartbeats 1000000 in
theorem walk0 (ao : Option Addr) (L : List Int) (cap : Nat) (a z : Int) (k m f : Nat) (w : World) (ha : Told w ao L) (hl : L.length ≤ 9223372036854775807)
    (hk : bits BinOp.and IntKind.i64 z 15 = (k : Int)) (hk1 : k ≤ 15) (hm : bits BinOp.and IntKind.i64 a 65535 = (m : Int)) (hn : (m : Int) % (17 - (k : Int)) = (f : Int)) (hn1 : (f : Int) < 17 - (k : Int)) (_hm1 : m ≤ 65535) :
    Calls Try.prog 8 #[.slice ao L.length cap, .int .i64 a, .int .i64 z] w fun e w' => e = .returned (.bool true) ∧ Below w.heap.size w w' := by
  have hlaid := laid_law ao L cap _ ha hl
  clear ha
  go_enter Try.func8, Try.ntmps8
  go_wp2_with fail
  refine hlaid.mono ?_
  rintro e w1 ⟨b, c, M, rfl, hM, m1, hb, hc, B1⟩
  clear hlaid
  have hback := back M f k hM (by omega)
  have l1 := moveL_len M 16 f k (by omega) (by omega)
  have l2 := fillL_len (moveL M 16 f k) f k 77 (by omega)
  have l3 := moveL_len (fillL (moveL M 16 f k) f k 77) f 16 k (by omega) (by omega)
  have l4 := wordsL_len M f k (by omega)
  go_wp2_with fail
  refine (words_yes b c M f k w1 m1 (by omega) (by omega)).mono ?_
  rintro e w2 ⟨rfl, r2, b2⟩
  have m2 := m1.below b2
  have B2 := Below.then B1 b2 B1.size
  have q2 : c < w1.heap.size := m1.c_lt
  clear m1 b2 B1
  generalize w1.heap.size = r at *
  go_wp2_with fail
  refine (move_yes b c M 16 f k w2 m2 (by omega) (by omega) (by omega)).mono ?_
  rintro e w3 ⟨rfl, m3, u3⟩
  have r3 := r2.upto u3 (by omega)
  have B3 := u3.below B2 B2.size hc
  clear m2 u3 B2 r2
  go_wp2_with fail
  refine (fill_yes b c _ f k 77 w3 m3 (by omega) (by omega)).mono ?_
  rintro e w4 ⟨rfl, m4, u4⟩
  have r4 := r3.upto u4 (by omega)
  have B4 := u4.below B3 B3.size hc
  clear m3 u4 B3 r3
  go_wp2_with fail
  refine (move_yes b c _ f 16 k w4 m4 (by omega) (by omega) (by omega)).mono ?_
  rintro e w5 ⟨rfl, m5, u5⟩
  have r5 := r4.upto u5 (by omega)
  have B5 := u5.below B4 B4.size hc
  clear m4 u5 B4 r4
  go_wp2_with fail
  refine (words_yes b c _ f k w5 m5 (by omega) (by omega)).mono ?_
  rintro e w6 ⟨rfl, r6, b6⟩
  rw [hback] at r6
  have r7 := r5.below b6
  have B6 := Below.then B5 b6 B5.size
  clear m5 b6 B5 r5 hback l1 l2 l3
  generalize w5.heap.size = s at *
  have hsame := same_yes _ _ (wordsL M f k) k k w6 r7.told r6.told (by omega)
  rw [l4] at hsame
  clear r6 r7
  go_wp2_with fail
  refine hsame.mono ?_
  rintro e w7 ⟨rfl, j, rfl⟩
  clear hsame
  go_wp2_with fail
  refine (fixed_any _).mono ?_
  rintro e w8 ⟨rfl, b8⟩
  have B8 := Below.then (Below.then B6 (below_drewN w6 j) B6.size) b8 (by simpa using B6.size)
  go_wp2
  go_ret
  exact ⟨rfl, B8⟩
theorem walk (ao : Option Addr) (L : List Int) (cap : Nat) (a z : Int) (w : World) (ha : Told w ao L) (hl : L.length ≤ 9223372036854775807) (_ : I64 a) (_ : I64 z) :
    Calls Try.prog 8 #[.slice ao L.length cap, .int .i64 a, .int .i64 z] w fun e w' => e = .returned (.bool true) ∧ Below w.heap.size w w' := by
  obtain ⟨k, hk1, hk⟩ := mask15 z
  obtain ⟨m, hm1, hm⟩ := mask65535 a
  obtain ⟨f, hf1, hf⟩ := rem_nat m (17 - (k : Int)) (by omega)
  exact walk0 ao L cap a z k m f w ha hl hk hk1 hm hf hf1 hm1
open Go.ChangeShapes Go.WideShapes Go.ChangeAt Go.RowKit Go.Joins

/-! ### From the walk to the statement -/
set_option maxRecDepth 100000 in
theorem lifted (os : Os) (started : os.Started) (H : Type) (enc : TypeId × Value → H) :
    ReturnsInHanded {} Try.checked os 8 .any (Rows.memoryMovesSpec.pre6 enc Try.prog Try.f8 Rows.memoryMovesRow.domain false) (Rows.memoryMovesSpec.post enc Try.prog Try.f8 false true false false) := by
  refine returnsInHanded_of_change (C := Try.checked) own started (by kernel_rfl) Try.func8
    (ChangeSpec.witness6 (enc := enc) (C := Try.checked) false ⟨#[], #[.slice none 0 0, .int .i64 0, .int .i64 0], []⟩ 8 (by kernel_rfl) (by kernel_rfl) (by kernel_rfl) (by kernel_rfl)) ?_
  intro W base args ds gs before hval0 hW hcnd _
  have hval : ∀ (j : Nat) t v, Try.f8.params[j]? = some t → args[j]? = some v → Value.okWide Try.prog W .any base t v := hval0
  have hW' := hW
  obtain ⟨p, q, hA0, hV, rfl, hfz, hnd⟩ := hW
  have hA : DataW.TrodAll enc Try.prog W 0 (fun _ => true) true Try.f8.params.toList args.toList ds p := hA0
  rw [Try.params8] at hA hval
  obtain ⟨v0, vs0, d0, ds0, p0, q0, hargs, rfl, rfl, h0, r0⟩ := trodAll_cons hA
  obtain ⟨v1, vs1, d1, ds1, p1, q1, rfl, rfl, rfl, h1, r1⟩ := trodAll_cons r0
  obtain ⟨v2, vs2, d2, ds2, p2, q2, rfl, rfl, rfl, h2, r2⟩ := trodAll_cons r1
  obtain ⟨rfl, rfl, rfl⟩ := trodAll_nil r2
  obtain rfl : args = #[v0, v1, v2] := by cases args; simp_all
  obtain ⟨rfl, rfl⟩ := trodVars_none hV
  have k0 := h0
  have lt0 : ∀ x ∈ p0, x.block < W.heap.size := by obtain ⟨m, hm⟩ := k0; exact DataW.trod_lt m _ _ _ hm
  obtain ⟨a0, l0, c0, rfl, t0, s0⟩ := open_words (hval 0 36 v0 rfl rfl) h0
  have k1 := h1
  have lt1 : ∀ x ∈ p1, x.block < W.heap.size := by obtain ⟨m, hm⟩ := k1; exact DataW.trod_lt m _ _ _ hm
  obtain ⟨a1, rfl, _, _, w1⟩ := open_int Try.underlying3 (hval 1 3 v1 rfl rfl) h1
  have k2 := h2
  have lt2 : ∀ x ∈ p2, x.block < W.heap.size := by obtain ⟨m, hm⟩ := k2; exact DataW.trod_lt m _ _ _ hm
  obtain ⟨a2, rfl, _, _, w2⟩ := open_int Try.underlying3 (hval 2 3 v2 rfl rfl) h2
  clear hA0 hval0
  refine (walk a0 l0 c0 a1 a2 W t0 s0 (bounds_i64 w1) (bounds_i64 w2)).mono fun e W' ⟨he, bel⟩ => ?_
  subst he
  exact ⟨_, rfl, _, _, _, [], _, [], hW', trodAll_mk1 (shut_bool Try.underlying4 _), (trodAll_cons_mk (Below.trod laidOut (by kernel_rfl) (of_decide_eq_true (by kernel_rfl)) k0 bel lt0) (trodAll_cons_mk (Below.trod laidOut (by kernel_rfl) (of_decide_eq_true (by kernel_rfl)) k1 bel lt1) (trodAll_cons_mk (Below.trod laidOut (by kernel_rfl) (of_decide_eq_true (by kernel_rfl)) k2 bel lt2) trodAll_mk0))), rfl, bel.frame _, fun h => by cases h⟩
theorem over : Rows.memoryMovesRow.holds Try.pinned (OpenSpec.ofChange Rows.memoryMovesSpec) :=
  OpenClaim.holds_of_wide 8 Try.f8 rfl rfl rfl rfl rfl rfl rfl ⟨rfl, rfl, rfl, rfl, rfl⟩ rfl rfl rfl rfl rfl (by kernel_rfl) Try.func8 (by kernel_rfl)
    (of_decide_eq_true (by kernel_rfl)) (by unfold Func.isWrapper; first | (rw [if_pos (by decide +kernel)]; kernel_rfl) | (rw [if_neg (by decide +kernel)]; exact ⟨rfl, rfl⟩))
    (fun os started H enc _ => lifted os started H enc)
end Go.Proofs.Ytfdddikgcfejpaa.memoryMoves
namespace Go.Proofs.Ytfdddikgcfejpaa
/-- THE STATEMENT. -/
theorem memoryMoves_said : Rows.MemoryMovesSaid := memoryMoves.over
#print axioms memoryMoves_said
end Go.Proofs.Ytfdddikgcfejpaa

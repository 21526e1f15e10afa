/-
  MemoryKeeps answers true for every input: what is written is read; what is moved is there as it was; all else stays; no condition of ours.
-/
import Derived.Test.YtfdddikgcfejpaaMemLaw
namespace Go.Proofs.Ytfdddikgcfejpaa.memoryKeeps
open Go.RowKit
theorem new_law (n : Nat) (w : World) (h1 : 1 ≤ n) (h2 : n ≤ 65536) :
    Calls Try.prog 9 #[.int .i64 n] w fun e w' => ∃ b c, e = .returned (.tuple #[.pointer (some ⟨b, 0, none⟩), .int .i64 0]) ∧ Mem 55 w' b c (List.replicate n 0) ∧ w.heap.size ≤ c ∧ Below w.heap.size w w' := by
  refine (new_yes n w h1 h2).mono ?_
  rintro e w' ⟨rfl, h⟩
  exact ⟨_, _, rfl, h.1, Nat.le_refl _, h.2⟩
set_option maxHeartbeats 2000000 in
theorem walk0 (ao : Option Addr) (L : List Int) (cap : Nat) (k a f0 z y : Int) (t f n : Nat) (w : World) (ha : Told w ao L) (hl : L.length ≤ 9223372036854775807)
    (ht : bits BinOp.and IntKind.i64 a 31 = (t : Int)) (ht1 : t ≤ 31) (hf : bits BinOp.and IntKind.i64 f0 31 = (f : Int)) (hf1 : f ≤ 31) (hn : bits BinOp.and IntKind.i64 z 31 = (n : Int)) (hn1 : n ≤ 31) :
    Calls Try.prog 5 #[.slice ao L.length cap, .agg #[.int .i64 k, .int .i64 a, .int .i64 f0, .int .i64 z, .int .u64 y]] w fun e w' => e = .returned (.bool true) ∧ Below w.heap.size w w' := by
  have hO := At.new w (opObj k a f0 z y)
  have hB := below_new w (opObj k a f0 z y)
  have HA : Hid (Told w ao L) := ha
  clear ha
  generalize hln : L.length = ln at *
  have HN : Hid (L.length = ln) := hln
  clear hln
  go_enter Try.func5, Try.ntmps5
  go_wp2_with fail
  refine (new_law 64 _ (by decide) (by decide)).mono ?_
  rintro e w1 ⟨b, c, rfl, m1, hc, b1⟩
  have o1 := hO.below b1
  have B1 := Below.then hB b1 hB.size
  have q1 : w.heap.size < c := Nat.lt_of_lt_of_le hO.lt hc
  clear hO hB b1 hc
  go_wp2
  go_loopw [7] (fun i wr => ∃ k' : Nat, k' ≤ ln ∧ k' ≤ 64 ∧ i = .int .i64 k' ∧ (∃ M, M.length = 64 ∧ Mem 55 wr b c M) ∧ At wr w.heap.size (opObj k a f0 z y) ∧ Below w.heap.size w wr) (fun i _ => 64 - (intOf i).toNat)
  case atStart => exact ⟨0, Nat.zero_le _, Nat.zero_le _, rfl, ⟨_, by simp, m1⟩, o1, B1⟩
  case round =>
    obtain ⟨i, hi, hi2, rfl, ⟨M, hM, mr⟩, or, br⟩ := hrel
    clear m1 o1 B1
    by_cases hgo : i < ln ∧ i < 64
    · obtain ⟨g1, g2⟩ := hgo
      obtain ⟨b0, o0, rfl, hb, hx⟩ : ∃ b o, ao = some ⟨b, o, none⟩ ∧ b < w.heap.size ∧ wr.cell? ⟨b, o + i, none⟩ = some (.int .u64 (L.getD i 0)) := by
        rcases HA.out with rfl | ⟨b, o, e, hb, hc⟩
        · have := HN.out; simp at this; omega
        · exact ⟨b, o, e, hb, (br.cell (p := ⟨b, o + i, none⟩) hb).trans (hc i (by have := HN.out; omega))⟩
      generalize L.getD i 0 = x at *
      have g3 : (i : Int) < (ln : Int) := by omega
      have g4 : (i : Int) < 64 := by omega
      go_wp2_with fail
      refine (write_yes _ _ M i x wr mr (by omega) (by omega)).mono ?_
      rintro e w2 ⟨rfl, m2, u2⟩
      have b2 := u2.below br br.size (by omega)
      have o2 := or.upto u2 (by omega)
      have x2 : w2.cell? ⟨b0, o0 + i, none⟩ = some (.int .u64 x) := by
        rw [World.cell?_of_block (w := wr) (u2.block b0 (World.block_lt_of_cell? wr _ hx) (by omega))]
        exact hx
      have hr := read_yes b c (M.set i x) i w2 m2 (by simp; omega) (by simp; omega)
      rw [show (M.set i x).getD i 0 = x by rw [List.getD_eq_getElem?_getD, List.getElem?_set_self (by omega)]; rfl] at hr
      have hxx : (x != x) = false := by simp
      clear mr br u2 hx or
      go_wp2_with fail
      refine hr.mono ?_
      rintro e w3 ⟨rfl, rfl⟩
      clear hr
      go_wp2
      go_roundw
      case rel => exact ⟨i + 1, by omega, by omega, by go_num, ⟨_, by simpa using hM, m2⟩, o2, b2⟩
      case measure => simp [intOf]; omega
    · have hx : (i = ln ∧ ¬ (i : Int) < (ln : Int)) ∨ (i = 64 ∧ (64 : Int) < (ln : Int)) := by omega
      clear hgo
      obtain ⟨_, p1, p2, p3, _⟩ := or.op
      rcases hx with ⟨hx1, hx2⟩ | ⟨rfl, hx2⟩
      all_goals go_wp2
      all_goals go_quiet (fail)
      all_goals
        (
        go_wp2_with fail
        refine (words_yes b c M 0 64 _ (mr.below (below_drewN wr _)) (by omega) (by omega)).mono ?_
        rintro e w2 ⟨rfl, r2, b2⟩
        rw [wordsL_all M 64 hM] at r2
        have b3 := Below.then (below_drewN wr _) b2 (Nat.le_refl _)
        have m2 := mr.below b3
        have B2 := Below.then br b3 br.size
        have q2 : c < wr.heap.size := mr.c_lt
        clear mr br b2 b3 or p1 p2 p3
        simp only [World.heap_drewN] at r2 ⊢
        generalize wr.heap.size = r at *
        have hl3 := moveL_len M t f n (by omega) (by omega)
        go_wp2_with fail
        refine (move_yes b c M t f n w2 m2 (by omega) (by omega) (by omega)).mono ?_
        rintro e w3 ⟨rfl, m3, u3⟩
        have r3 := r2.upto u3 (by omega)
        have B3 := u3.below B2 B2.size (by omega)
        clear m2 u3 B2 r2
        go_wp2_with fail
        refine (words_yes b c _ 0 64 w3 m3 (by omega) (by omega)).mono ?_
        rintro e w4 ⟨rfl, r4, b4⟩
        rw [wordsL_all _ 64 (by omega)] at r4
        have r5 := r3.below b4
        have B4 := Below.then B3 b4 B3.size
        clear m3 b4 B3 r3
        generalize w3.heap.size = s at *
        go_wp2
        go_loopw [19] (fun i wr => ∃ k : Nat, k ≤ 64 ∧ i = .int .i64 k ∧ wr = w4) (fun i _ => 64 - (intOf i).toNat)
        case atStart => exact ⟨0, Nat.zero_le _, rfl, rfl⟩
        case round =>
          obtain ⟨j, hj, rfl, rfl⟩ := hrel
          by_cases hj2 : j < 64
          · have hx := r4.cell (j := j) (by omega)
            have hy := r5.cell (j := j) (by omega)
            have hg := moveL_get M t f n j (by omega) (by omega)
            have h3 : (j : Int) < 64 := by omega
            by_cases hin : t ≤ j ∧ j < t + n
            · rw [if_pos hin] at hg
              rw [hg] at hx
              obtain ⟨d, hd⟩ : ∃ d : Nat, d = f + (j - t) := ⟨_, rfl⟩
              have hd2 : (f : Int) + (j : Int) - (t : Int) = (d : Int) := by omega
              have hz := r5.cell (j := d) (by omega)
              rw [← hd] at hx
              have hd3 : (d : Int) < 64 := by omega
              clear hg r4 r5 hd
              generalize M.getD j 0 = x at *
              generalize M.getD d 0 = x' at *
              have h1 : (t : Int) ≤ j := by omega
              have h2 : (j : Int) < t + n := by omega
              have h4 : (x' != x') = false := by simp
              go_wp2
              go_roundw
              case rel => exact ⟨j + 1, by omega, by go_num, by trivial⟩
              case measure => simp [intOf]; omega
            · rw [if_neg hin] at hg
              rw [hg] at hx
              clear hg r4 r5
              generalize M.getD j 0 = x at *
              have h4 : (x != x) = false := by simp
              by_cases h1 : j < t
              · have h5 : (j : Int) < t := by omega
                go_wp2
                go_roundw
                case rel => exact ⟨j + 1, by omega, by go_num, by trivial⟩
                case measure => simp [intOf]; omega
              · have h5 : (t : Int) ≤ j := by omega
                have h6 : (t : Int) + n ≤ j := by omega
                go_wp2
                go_roundw
                case rel => exact ⟨j + 1, by omega, by go_num, by trivial⟩
                case measure => simp [intOf]; omega
          · have hj3 : j = 64 := by omega
            subst hj3
            go_wp2_with fail
            refine (fixed_any _).mono ?_
            rintro e w5 ⟨rfl, b5⟩
            have B5 := Below.then B4 b5 B4.size
            go_wp2
            go_ret
            exact ⟨rfl, B5⟩)
theorem walk (ao : Option Addr) (L : List Int) (cap : Nat) (k a f z y : Int) (w : World) (ha : Told w ao L) (hl : L.length ≤ 9223372036854775807) (_ : I64 k) (_ : I64 a) (_ : I64 f) (_ : I64 z) :
    Calls Try.prog 5 #[.slice ao L.length cap, .agg #[.int .i64 k, .int .i64 a, .int .i64 f, .int .i64 z, .int .u64 y]] w fun e w' => e = .returned (.bool true) ∧ Below w.heap.size w w' := by
  obtain ⟨t, ht1, ht⟩ := mask31 a
  obtain ⟨g, hg1, hg⟩ := mask31 f
  obtain ⟨n, hn1, hn⟩ := mask31 z
  exact walk0 ao L cap k a f z y t g n w ha hl ht ht1 hg hg1 hn hn1
open Go.ChangeShapes Go.WideShapes Go.ChangeAt Go.RowKit Go.Joins

/-! ### From the walk to the statement -/
set_option maxRecDepth 100000 in
theorem lifted (os : Os) (started : os.Started) (H : Type) (enc : TypeId × Value → H) :
    ReturnsInHanded {} Try.checked os 5 .any (Rows.memoryKeepsSpec.pre6 enc Try.prog Try.f5 Rows.memoryKeepsRow.domain false) (Rows.memoryKeepsSpec.post enc Try.prog Try.f5 false true false false) := by
  refine returnsInHanded_of_change (C := Try.checked) own started (by kernel_rfl) Try.func5
    (ChangeSpec.witness6 (enc := enc) (C := Try.checked) false ⟨#[], #[.slice none 0 0, .agg #[.int .i64 0, .int .i64 0, .int .i64 0, .int .i64 0, .int .u64 0]], []⟩ 8 (by kernel_rfl) (by kernel_rfl) (by kernel_rfl) (by kernel_rfl)) ?_
  intro W base args ds gs before hval0 hW hcnd _
  have hval : ∀ (j : Nat) t v, Try.f5.params[j]? = some t → args[j]? = some v → Value.okWide Try.prog W .any base t v := hval0
  have hW' := hW
  obtain ⟨p, q, hA0, hV, rfl, hfz, hnd⟩ := hW
  have hA : DataW.TrodAll enc Try.prog W 0 (fun _ => true) true Try.f5.params.toList args.toList ds p := hA0
  rw [Try.params5] at hA hval
  obtain ⟨v0, vs0, d0, ds0, p0, q0, hargs, rfl, rfl, h0, r0⟩ := trodAll_cons hA
  obtain ⟨v1, vs1, d1, ds1, p1, q1, rfl, rfl, rfl, h1, r1⟩ := trodAll_cons r0
  obtain ⟨rfl, rfl, rfl⟩ := trodAll_nil r1
  obtain rfl : args = #[v0, v1] := by cases args; simp_all
  obtain ⟨rfl, rfl⟩ := trodVars_none hV
  have k0 := h0
  have lt0 : ∀ x ∈ p0, x.block < W.heap.size := by obtain ⟨m, hm⟩ := k0; exact DataW.trod_lt m _ _ _ hm
  obtain ⟨a0, l0, c0, rfl, t0, s0⟩ := open_words (hval 0 36 v0 rfl rfl) h0
  have k1 := h1
  have lt1 : ∀ x ∈ p1, x.block < W.heap.size := by obtain ⟨m, hm⟩ := k1; exact DataW.trod_lt m _ _ _ hm
  obtain ⟨o1k, o1a, o1f, o1n, o1y, rfl, wo1k, wo1a, wo1f, wo1n⟩ := open_op (hval 1 32 v1 rfl rfl) h1
  clear hA0 hval0
  refine (walk a0 l0 c0 o1k o1a o1f o1n o1y W t0 s0 wo1k wo1a wo1f wo1n).mono fun e W' ⟨he, bel⟩ => ?_
  subst he
  exact ⟨_, rfl, _, _, _, [], _, [], hW', trodAll_mk1 (shut_bool Try.underlying4 _), (trodAll_cons_mk (Below.trod laidOut (by kernel_rfl) (of_decide_eq_true (by kernel_rfl)) k0 bel lt0) (trodAll_cons_mk (Below.trod laidOut (by kernel_rfl) (of_decide_eq_true (by kernel_rfl)) k1 bel lt1) trodAll_mk0)), rfl, bel.frame _, fun h => by cases h⟩
theorem over : Rows.memoryKeepsRow.holds Try.pinned (OpenSpec.ofChange Rows.memoryKeepsSpec) :=
  OpenClaim.holds_of_wide 5 Try.f5 rfl rfl rfl rfl rfl rfl rfl ⟨rfl, rfl, rfl, rfl, rfl⟩ rfl rfl rfl rfl rfl (by kernel_rfl) Try.func5 (by kernel_rfl)
    (of_decide_eq_true (by kernel_rfl)) (by unfold Func.isWrapper; first | (rw [if_pos (by decide +kernel)]; kernel_rfl) | (rw [if_neg (by decide +kernel)]; exact ⟨rfl, rfl⟩))
    (fun os started H enc _ => lifted os started H enc)
end Go.Proofs.Ytfdddikgcfejpaa.memoryKeeps
namespace Go.Proofs.Ytfdddikgcfejpaa
/-- THE STATEMENT. -/
theorem memoryKeeps_said : Rows.MemoryKeepsSaid := memoryKeeps.over
#print axioms memoryKeeps_said
end Go.Proofs.Ytfdddikgcfejpaa

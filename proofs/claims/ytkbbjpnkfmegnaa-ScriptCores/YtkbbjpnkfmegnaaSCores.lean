/-
  ScriptCores answers true for every input; no condition of ours.
-/
import Derived.Test.YtkbbjpnkfmegnaaSLaw
namespace Go.Proofs.Ytkbbjpnkfmegnaa.scriptCores
open Go.RowKit Go.Deep
theorem mask7 (x : Int) : ∃ a : Nat, a ≤ 7 ∧ bits BinOp.and IntKind.i64 x 7 = (a : Int) := by
  have key : bits BinOp.and IntKind.i64 x ((2 ^ 3 - 1 : Nat) : Int) = x % ((2 ^ 3 : Nat) : Int) := by
    show IntKind.i64.wrap ((BitVec.ofInt 64 x &&& BitVec.ofInt 64 ((2 ^ 3 - 1 : Nat) : Int)).toNat : Int) = _
    have e0 : (BitVec.ofInt 64 ((2 ^ 3 - 1 : Nat) : Int)).toNat = 2 ^ 3 - 1 := by decide
    rw [BitVec.toNat_and, e0, Nat.and_two_pow_sub_one_eq_mod, BitVec.toNat_ofInt]
    have e : (((x % ((2 ^ 64 : Nat) : Int)).toNat % 2 ^ 3 : Nat) : Int) = x % ((2 ^ 3 : Nat) : Int) := by
      rw [Int.natCast_emod, Int.toNat_of_nonneg (Int.emod_nonneg _ (by decide))]
      apply Int.emod_emod_of_dvd
      exact Int.natCast_dvd_natCast.2 (Nat.pow_dvd_pow 2 (by omega))
    rw [e, IntKind.wrap_i64] <;> omega
  have h1 : 0 ≤ x % ((2 ^ 3 : Nat) : Int) := Int.emod_nonneg _ (by decide)
  have h2 : x % ((2 ^ 3 : Nat) : Int) < ((2 ^ 3 : Nat) : Int) := Int.emod_lt_of_pos _ (by decide)
  refine ⟨(x % ((2 ^ 3 : Nat) : Int)).toNat, by omega, ?_⟩
  have : bits BinOp.and IntKind.i64 x 7 = x % ((2 ^ 3 : Nat) : Int) := key
  rw [this]
  omega
/-- Of those that may be for one core more, those of the cores there were are the others. -/
theorem pick_less (n : Nat) (L : List It) : (pick ((n : Int) + 1) L).filter (fun x => decide (x.c < (n : Int))) = pick n L := by
  simp only [pick, List.filter_filter]
  congr 1
  funext x
  have h1 := rightB_iff n x
  have h2 := rightB_iff ((n : Int) + 1) x
  rw [Bool.eq_iff_iff, Bool.and_eq_true, decide_eq_true_iff, h1, h2]
  constructor <;> intro h <;> omega
theorem pick_many (m n : Int) (hm : 8 ≤ m) (hn : 8 ≤ n) (L : List It) : pick m L = pick n L := by
  simp only [pick]
  congr 1
  funext x
  have h1 := rightB_iff m x
  have h2 := rightB_iff n x
  rw [Bool.eq_iff_iff, h1, h2]
  constructor <;> intro h <;> omega
set_option maxHeartbeats 2000000 in
theorem walk (l : List Int) (a : Int) (w : World) (hb : Bytes8 l) (_hs : l.length ≤ 9223372036854775807) (_hc : I64 a) :
    Calls Try.prog 6 #[.string (strOfNums l), .int .i64 a] w fun e w' => e = .returned (.bool true) ∧ Below w.heap.size w w' := by
  have hcut := run_cut_str Try.prog 9 Try.underlying9 (strOfNums l) .i64
  have hz := strOfNums_size l
  obtain ⟨n, hn7, hbits⟩ := mask7 a
  have hwn : IntKind.i64.wrap ((n : Int) + 1) = (n : Int) + 1 := by rw [IntKind.wrap_i64] <;> omega
  go_enter Try.func6, Try.ntmps6
  go_wp2_with fail
  all_goals clear hcut hz
  all_goals rw [str_extract]
  all_goals simp only [List.drop_zero, Nat.sub_zero]
  all_goals try rw [show List.take l.length l = List.take 400 l by rw [List.take_of_length_le (Nat.le_refl _), List.take_of_length_le (by omega)]]
  all_goals generalize hl' : l.take 400 = l'
  all_goals have hb' : Bytes8 l' := hl' ▸ hb.take _
  all_goals have hn' : l'.length ≤ 400 := by rw [← hl']; simp; omega
  all_goals clear hb _hs hl'
  all_goals (
    refine (parse_at _ l' n rfl hb' (by omega) w).mono ?_
    rintro e w1 ⟨ao, ca, rfl, t1, zA, b1⟩
    go_wp2_with fail
    refine (parse_at _ l' ((n : Int) + 1) rfl hb' (by omega) w1).mono ?_
    rintro e w2 ⟨bo, cb, rfl, t2, zB, b2⟩
    have t3 := t1.below b2
    have y2 := Below.then b1 b2 b1.size
    clear t1 b1 b2
    have hAB := pick_less n (items l')
    have hAl : (pick n (items l')).length ≤ 100 := by have h1 := pick_len n (items l'); have h2 := items_len l'; omega
    have hBl : (pick ((n : Int) + 1) (items l')).length ≤ 100 := by have h1 := pick_len ((n : Int) + 1) (items l'); have h2 := items_len l'; omega
    generalize pick n (items l') = A at *
    generalize pick ((n : Int) + 1) (items l') = B at *
    have HAB : Hid (B.filter (fun x => decide (x.c < (n : Int))) = A) := hAB
    have HA : Hid (ToldI w2 ao A) := t3
    have HB : Hid (ToldI w2 bo B) := t2
    have HAl : Hid (A.length ≤ 100) := hAl
    have HBl : Hid (B.length ≤ 100) := hBl
    clear hAB t2 t3 hAl hBl
    generalize hna : A.length = na at *
    generalize hnb : B.length = nb at *
    have HNA : Hid (A.length = na) := hna
    have HNB : Hid (B.length = nb) := hnb
    clear hna hnb
    go_wp2
    go_loopw [8, 9] (fun j i wr => ∃ k q : Nat, k ≤ nb ∧ i = .int .i64 (k : Int) ∧ j = .int .i64 (q : Int) ∧ ((B.take k).filter (fun x => decide (x.c < (n : Int)))).length = q ∧ Below w2.heap.size w2 wr) (fun _ i _ => nb - (intOf i).toNat)
    case atStart => exact ⟨0, 0, Nat.zero_le _, rfl, rfl, by simp, Below.refl _ _⟩
    case round =>
      obtain ⟨k, q, hk, rfl, rfl, hq, br⟩ := hrel
      have hB' := HB.out.below br
      have hA' := HA.out.below br
      by_cases hkn : k < nb
      · obtain ⟨x, hx⟩ : ∃ x, B[k]? = some x := ⟨_, List.getElem?_eq_getElem (by have := HNB.out; omega)⟩
        obtain ⟨b, o, rfl, hb, hc⟩ : ∃ b o, bo = some ⟨b, o, none⟩ ∧ b < wr.heap.size ∧ _ := hB'.resolve_left (by intro h; rw [h] at hx; simp at hx)
        obtain ⟨c0, c1, c2, c3⟩ := hc k x hx
        have hki : (k : Int) < (nb : Int) := by omega
        have hwk : IntKind.i64.wrap ((k : Int) + 1) = (k : Int) + 1 := by have := HBl.out; rw [IntKind.wrap_i64] <;> omega
        have HX : Hid (B[k]? = some x) := hx
        have HQ : Hid (((B.take k).filter (fun x => decide (x.c < (n : Int)))).length = q) := hq
        clear hc hx hq
        by_cases hcn : x.c < (n : Int)
        · -- the same one among those of fewer cores
          have hxa : A[q]? = some x := by
            rw [← HAB.out, take_drop_at HX.out, List.filter_append, List.filter_cons, if_pos (by simpa using hcn), ← HQ.out]
            simp
          have hqn : q < na := by have h1 := (List.getElem?_eq_some_iff.1 hxa).1; have := HNA.out; omega
          obtain ⟨b', o', rfl, hb', hc'⟩ : ∃ b o, ao = some ⟨b, o, none⟩ ∧ b < wr.heap.size ∧ _ := hA'.resolve_left (by intro h; rw [h] at hxa; simp at hxa)
          obtain ⟨d0, d1, d2, d3⟩ := hc' q x hxa
          have hqi : (q : Int) < (na : Int) := by omega
          have hge : decide ((na : Int) ≤ (q : Int)) = false := by simp; omega
          have hwq : IntKind.i64.wrap ((q : Int) + 1) = (q : Int) + 1 := by have := HAl.out; rw [IntKind.wrap_i64] <;> omega
          clear hc' hxa
          go_wp2
          go_quiet (fail)
          have br2 : Below w2.heap.size w2 (wr.drewN nq) := ⟨br.os, br.tape, br.output, br.size, br.block⟩
          generalize wr.drewN nq = wr2 at *
          clear c0 c1 c2 c3 d0 d1 d2 d3
          go_wp2
          go_roundw
          case rel =>
            refine ⟨k + 1, q + 1, by omega, by go_num, by go_num, ?_, br2⟩
            rw [take_snoc HX.out, List.filter_append, List.length_append, HQ.out, List.filter_cons, if_pos (by simpa using hcn)]
            simp
          case measure => simp [intOf]; omega
        · have hcd : decide (x.c < (n : Int)) = false := by simp; omega
          go_wp2
          go_roundw
          case rel =>
            refine ⟨k + 1, q, by omega, by go_num, rfl, ?_, br⟩
            rw [take_snoc HX.out, List.filter_append, List.length_append, HQ.out, List.filter_cons, if_neg (by simpa using hcn)]
            simp
          case measure => simp [intOf]; omega
      · have hk4 : k = nb := by omega
        subst hk4
        rw [List.take_of_length_le (by have := HNB.out; omega), HAB.out, HNA.out] at hq
        subst hq
        have y3 := Below.then y2 br y2.size
        clear y2 br hA' hB' hk hkn
        go_wp2_with fail
        refine (parse_at _ l' 0 rfl hb' (by omega) wr).mono ?_
        rintro e w3 ⟨a3, c3, rfl, _, _, b3⟩
        rw [pick_none (items l') 0 (by omega)]
        have y4 := Below.then y3 b3 y3.size
        clear y3 b3
        go_wp2_with fail
        refine (parse_at _ l' 8 rfl hb' (by omega) w3).mono ?_
        rintro e w4 ⟨a4, c4, rfl, t4, _, b4⟩
        have y5 := Below.then y4 b4 y4.size
        clear y4 b4
        go_wp2_with fail
        refine (parse_at _ l' 99 rfl hb' (by omega) w4).mono ?_
        rintro e w5 ⟨a5, c5, rfl, t5, _, b5⟩
        have t6 := t4.below b5
        have y6 := Below.then y5 b5 y5.size
        clear y5 b5 t4
        rw [pick_many 99 8 (by omega) (by omega) (items l')] at t5 ⊢
        have hMl : (pick 8 (items l')).length ≤ 100 := by have h1 := pick_len 8 (items l'); have h2 := items_len l'; omega
        generalize pick 8 (items l') = M at *
        go_wp2_with fail
        refine (same_at _ _ M _ _ _ _ w5 rfl rfl t6 t5 (by omega)).mono ?_
        rintro e w6 ⟨rfl, b6⟩
        have y7 := Below.then y6 b6 y6.size
        clear y6 b6 t5 t6
        go_wp2_with fail
        refine (fixed_any w6).mono ?_
        rintro e w7 ⟨rfl, b7⟩
        have y8 := Below.then y7 b7 y7.size
        clear y7 b7
        go_wp2
        go_ret
        exact ⟨rfl, y8⟩
  )
open Go.ChangeShapes Go.WideShapes Go.ChangeAt Go.RowKit Go.Joins

/-! ### From the walk to the statement -/
set_option maxRecDepth 100000 in
theorem lifted (os : Os) (started : os.Started) (H : Type) (enc : TypeId × Value → H) :
    ReturnsInHanded {} Try.checked os 6 .any (Rows.scriptCoresSpec.pre6 enc Try.prog Try.f6 Rows.scriptCoresRow.domain false) (Rows.scriptCoresSpec.post enc Try.prog Try.f6 false true false false) := by
  refine returnsInHanded_of_change (C := Try.checked) own started (by kernel_rfl) Try.func6
    (ChangeSpec.witness6 (enc := enc) (C := Try.checked) false ⟨#[], #[.string ⟨#[]⟩, .int .i64 0], []⟩ 8 (by kernel_rfl) (by kernel_rfl) (by kernel_rfl) (by kernel_rfl)) ?_
  intro W base args ds gs before hval0 hW hcnd _
  have hval : ∀ (j : Nat) t v, Try.f6.params[j]? = some t → args[j]? = some v → Value.okWide Try.prog W .any base t v := hval0
  have hW' := hW
  obtain ⟨p, q, hA0, hV, rfl, hfz, hnd⟩ := hW
  have hA : DataW.TrodAll enc Try.prog W 0 (fun _ => true) true Try.f6.params.toList args.toList ds p := hA0
  rw [Try.params6] at hA hval
  obtain ⟨v0, vs0, d0, ds0, p0, q0, hargs, rfl, rfl, h0, r0⟩ := trodAll_cons hA
  obtain ⟨v1, vs1, d1, ds1, p1, q1, rfl, rfl, rfl, h1, r1⟩ := trodAll_cons r0
  obtain ⟨rfl, rfl, rfl⟩ := trodAll_nil r1
  obtain rfl : args = #[v0, v1] := by cases args; simp_all
  obtain ⟨rfl, rfl⟩ := trodVars_none hV
  have k0 := h0
  have lt0 : ∀ x ∈ p0, x.block < W.heap.size := by obtain ⟨m, hm⟩ := k0; exact DataW.trod_lt m _ _ _ hm
  obtain ⟨a0, rfl, b0, s0⟩ := open_str (hval 0 9 v0 rfl rfl) h0
  have k1 := h1
  have lt1 : ∀ x ∈ p1, x.block < W.heap.size := by obtain ⟨m, hm⟩ := k1; exact DataW.trod_lt m _ _ _ hm
  obtain ⟨a1, rfl, _, _, w1⟩ := open_int Try.underlying3 (hval 1 3 v1 rfl rfl) h1
  clear hA0 hval0
  refine (walk a0 a1 W b0 s0 (bounds_i64 w1)).mono fun e W' ⟨he, bel⟩ => ?_
  subst he
  exact ⟨_, rfl, _, _, _, [], _, [], hW', trodAll_mk1 (shut_bool Try.underlying4 _), (trodAll_cons_mk (Below.trod laidOut (by kernel_rfl) (of_decide_eq_true (by kernel_rfl)) k0 bel lt0) (trodAll_cons_mk (Below.trod laidOut (by kernel_rfl) (of_decide_eq_true (by kernel_rfl)) k1 bel lt1) trodAll_mk0)), rfl, bel.frame _, fun h => by cases h⟩
theorem over : Rows.scriptCoresRow.holds Try.pinned (OpenSpec.ofChange Rows.scriptCoresSpec) :=
  OpenClaim.holds_of_wide 6 Try.f6 rfl rfl rfl rfl rfl rfl rfl ⟨rfl, rfl, rfl, rfl, rfl⟩ rfl rfl rfl rfl rfl (by kernel_rfl) Try.func6 (by kernel_rfl)
    (of_decide_eq_true (by kernel_rfl)) (by unfold Func.isWrapper; first | (rw [if_pos (by decide +kernel)]; kernel_rfl) | (rw [if_neg (by decide +kernel)]; exact ⟨rfl, rfl⟩))
    (fun os started H enc _ => lifted os started H enc)
end Go.Proofs.Ytkbbjpnkfmegnaa.scriptCores
namespace Go.Proofs.Ytkbbjpnkfmegnaa
/-- THE STATEMENT. -/
theorem scriptCores_said : Rows.ScriptCoresSaid := scriptCores.over
#print axioms scriptCores_said
end Go.Proofs.Ytkbbjpnkfmegnaa

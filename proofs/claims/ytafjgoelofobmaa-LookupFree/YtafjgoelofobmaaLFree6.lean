/-
  LookupFree answers true for every input, and leaves it; no condition of ours.
-/
import Derived.Test.YtafjgoelofobmaaKCalls
import Derived.Deep.CutRange
namespace Go.Proofs.Ytafjgoelofobmaa.lookupFree
open Go.RowKit Go.Deep Go.MapKept Go.Maps
set_option linter.unusedSectionVars false
section
variable [dCp : DecidableEq Cp] [dLim : ∀ k, Decidable (Lim k)] [dBad : ∀ k, Decidable (Bad k)] [dFit : ∀ g z, Decidable (Fit g z)] [dFine : ∀ c, Decidable (Fine c)] [dMint : ∀ c v, Decidable (MintR c v)] [dWho : ∀ x y, Decidable (Whose x y)] [dSl : DecidableEq Sl] [dLt : ∀ a b, Decidable (ltS a b)] [dIsN : ∀ S c, Decidable (isN S c)] [dGuN : ∀ a c d, Decidable (GuardN a c d)]
def frS (k : Nat) : St := [List.replicate (2 ^ k) no]
def rootE : Cp := ⟨2, 0, 7, 0, 0, 0⟩
theorem rootE_fits : rootE.Fits := by constructor <;> decide
theorem built_E (b : Int) (a : Nat) (h : bits BinOp.and IntKind.i64 b 3 = (a : Int)) (ha : a ≤ 3) : builtS [b] [] = frS (1 + a) := by
  have e : maskB b = 1 + (a : Int) := by unfold maskB; rw [h]
  have e1 : makeE [] (1 + (a : Int)) = 0 := by unfold makeE; rw [if_pos (by omega)]; rfl
  simp only [builtS, List.take_succ_cons, List.take_nil, makeAll, putAll, e]
  unfold makeS frS
  rw [if_pos e1, show (1 + (a : Int)).toNat = 1 + a by omega]
  rfl
theorem node_E (k : Nat) : nodeS (frS k) 0 = List.replicate (2 ^ k) no := rfl
theorem isN_E (k : Nat) : isN (frS k) rootE := by
  refine ⟨rfl, @of_decide_eq_true (Fine rootE) (decFine rootE) (by kernel_rfl), ?_⟩
  show nodeS (frS k) 0 ≠ []
  rw [node_E]
  intro h
  have := congrArg List.length h
  have hp := pow_pos k
  simp at this
theorem bits_E (k : Nat) : bitsN (frS k) rootE = k := by
  show bitsL (nodeS (frS k) 0) = k
  rw [node_E]
  unfold bitsL
  rw [List.length_replicate, Nat.log2_two_pow]
theorem guard_E (a d : Nat) : GuardN a rootE d := by
  refine ⟨Nat.zero_le _, ?_⟩
  simp [rootE, fieldN, Nat.mod_one]
theorem get_E (k : Nat) (s : Sl) : (getC (frS k) s).k = 0 := by
  unfold getC
  cases h : atS (frS k) s with
  | none => rfl
  | some c =>
    obtain ⟨_, _, h3, _, h5, _⟩ := atS_mem h
    have hn : s.n.toNat = 0 := by simp [frS] at h3; omega
    rw [hn] at h5
    have : c ∈ List.replicate (2 ^ k) no := List.mem_of_getElem? h5
    obtain ⟨_, rfl⟩ := List.mem_replicate.1 this
    rfl
theorem low_bits (a : Int) (k : Nat) (ha : 0 ≤ a ∧ a ≤ 18446744073709551615) (hk : k ≤ 4) : IntKind.i64.wrap (bits BinOp.and IntKind.u64 a (IntKind.u64.wrap (IntKind.u64.wrap (2 ^ k) - 1))) = ((fieldN a.toNat 0 k : Nat) : Int) := by
  obtain ⟨A, rfl⟩ := Int.eq_ofNat_of_zero_le ha.1
  have hp := pow_pos k
  have h4 : 2 ^ k ≤ 2 ^ 4 := Nat.pow_le_pow_right (by omega) hk
  have e1 : IntKind.u64.wrap (IntKind.u64.wrap (2 ^ k) - 1) = ((2 ^ k - 1 : Nat) : Int) := by
    have := ones_wrap (k : Int) (by omega) (by omega)
    rw [ones_cast] at this
    simpa using this
  have hlt : A % 2 ^ k < 2 ^ k := Nat.mod_lt _ hp
  rw [e1, u64_and_nat _ _ (by omega) (by omega), Nat.and_two_pow_sub_one_eq_mod, IntKind.wrap_i64]
  unfold fieldN
  simp only [Int.toNat_natCast, Nat.pow_zero, Nat.div_one]
  omega
theorem slot_E (k : Nat) (a : Int) (d : Nat) (d1 : 1 ≤ d) (d2 : d ≤ 64) : slotR (frS k) rootE a d = if d = k then (⟨0, ((fieldN a.toNat 0 k : Nat) : Int)⟩, 0) else (sl0, 62) := by
  unfold slotR
  rw [if_pos (by omega)]
  unfold look
  have hz : rootE.z.toNat = 0 := rfl
  have hr : restN (frS k) rootE (d : Int).toNat = d - k := by unfold restN; rw [bits_E, hz]; simp
  have hn : nameE (frS k) a.toNat rootE (d : Int).toNat = if k ≤ d then 0 else 62 := by
    unfold nameE
    rw [if_pos (isN_E k), if_pos (guard_E _ _), bits_E, hz]
    simp
  rw [hn, hr]
  by_cases hk : k ≤ d
  · rw [if_pos hk, if_pos rfl]
    by_cases he : d = k
    · rw [if_pos he, if_pos (by omega)]
      unfold slotN
      rw [hr, bits_E, show d - k = 0 by omega]
      rfl
    · rw [if_neg he, if_neg (by omega), if_neg (by rw [get_E]; decide)]
  · rw [if_neg hk, if_neg (by decide), if_neg (by omega)]
set_option maxHeartbeats 8000000 in
set_option maxRecDepth 100000 in
theorem walk (b a d : Int) (w : World) (hb : -9223372036854775808 ≤ b ∧ b ≤ 9223372036854775807) (ha : 0 ≤ a ∧ a ≤ 18446744073709551615) (_hd : -9223372036854775808 ≤ d ∧ d ≤ 9223372036854775807) :
    Calls Try.prog 8 #[.int .i64 b, .int .u64 a, .int .i64 d] w fun e w' => e = .returned (.bool true) ∧ Below w.heap.size w w' := by
  obtain ⟨r, HR⟩ : ∃ r, Hid (w.heap.size = r) := ⟨_, rfl⟩
  have xb := below_new w (.cells #[.int .i64 b] 3)
  have BD : Hid (Ints (w.alloc (.cells #[.int .i64 b] 3)) (some ⟨w.heap.size, 0, none⟩) [b] ∧ Below w.heap.size w (w.alloc (.cells #[.int .i64 b] 3))) := ⟨ints1 (blk_alloc_new _ _) hb, xb⟩
  have HA : Hid (0 ≤ a ∧ a ≤ 18446744073709551615) := ha
  obtain ⟨a3, ha3, e3⟩ := mask3 b
  obtain ⟨a6, ha6, e6⟩ := mask63 d
  have HB : Hid (builtS [b] [] = frS (1 + a3)) := built_E b a3 e3 ha3
  obtain ⟨K, HK⟩ : ∃ K, Hid (K = 1 + a3) := ⟨_, rfl⟩
  obtain ⟨D, HD⟩ : ∃ D, Hid (D = 1 + a6) := ⟨_, rfl⟩
  have hK : (1 : Int) + (a3 : Int) = (K : Int) := by have := HK.out; omega
  have hD : (1 : Int) + (a6 : Int) = (D : Int) := by have := HD.out; omega
  have hK1 : (K : Int) ≤ 4 := by have := HK.out; omega
  have hK0 : (1 : Int) ≤ (K : Int) := by have := HK.out; omega
  have hD1 : (1 : Int) ≤ (D : Int) := by have := HD.out; omega
  have hD2 : (D : Int) ≤ 64 := by have := HD.out; omega
  have ha3' : (a3 : Int) ≤ 3 := by omega
  have ha6' : (a6 : Int) ≤ 63 := by omega
  have HV : Hid (slotR (frS K) rootE a D = if D = K then (⟨0, ((fieldN a.toNat 0 K : Nat) : Int)⟩, 0) else (sl0, 62)) := slot_E K a D (by omega) (by omega)
  clear hb ha xb ha3 ha6
  go_enter Try.func8, Try.ntmps8
  go_wp2_with fail
  refine (built_any (some ⟨w.heap.size, 0, none⟩) [b] 1 none [] 0 _ BD.out.1 (helds0 _) (by simp) (by decide)).mono ?_
  rintro e w1 ⟨p, F, p2, F2, rfl, h1⟩
  rw [HB.out, ← HK.out] at h1
  have H1 : Hid (Bk w r (w1.alloc (Obj.cells #[.int .i64 2, .int .i64 0, .int .i64 7, .int .u64 0, .int .u64 0, .int .i64 0] 28)) p F p2 F2 (frS K) (frS K) [(w1.heap.size, objC rootE)]) := by
    have k := h1.rebase (L := []) BD.out.2 BD.out.2.size fun z hz => by cases hz
    rw [HR.out] at k
    exact k.alloc (objC rootE)
  clear h1 BD
  obtain ⟨c0, c1, c2, c3, c4, c5⟩ := (H1.out.atC (q := w1.heap.size) (c := rootE) (by simp)).cells
  simp only [rootE] at c0 c1 c2 c3 c4 c5
  go_wp2_with fail
  generalize w1.alloc (Obj.cells #[.int .i64 2, .int .i64 0, .int .i64 7, .int .u64 0, .int .u64 0, .int .i64 0] 28) = v1 at *
  generalize w1.heap.size = q1 at *
  by_cases hDK : D = K
  · have hv := HV.out
    rw [if_pos hDK] at hv
    obtain ⟨fi, HF⟩ : ∃ fi, Hid (((fieldN a.toNat 0 K : Nat) : Int) = fi) := ⟨_, rfl⟩
    rw [HF.out] at hv
    refine (slot_is H1.out.nds rootE_fits HA.out hv).mono ?_
    rintro e w2 ⟨he, b2⟩
    obtain rfl : e = .returned (.tuple #[.agg #[.int .i64 0, .int .i64 fi], .int .i64 0]) := he
    have K2 : Hid (Bk w r (w2.alloc (Obj.cells #[.int .i64 0, .int .i64 fi] 36)) p F p2 F2 (frS K) (frS K) [(w2.heap.size, objS ⟨0, fi⟩)]) := ((H1.out.below b2).alloc (objS ⟨0, fi⟩)).fewer fun b hb => by simp at hb ⊢; simp [hb]
    clear b2 H1 c0 c1 c2 c3 c4 c5 hv HV
    have hne : ((D : Int) != (K : Int)) = false := by simp [hDK]
    clear hDK
    obtain ⟨s0, s1⟩ := (K2.out.atS (q := w2.heap.size) (s := ⟨0, fi⟩) (by simp)).cells
    simp only at s0 s1
    go_wp2_with fail
    generalize w2.alloc (Obj.cells #[.int .i64 0, .int .i64 fi] 36) = v2 at *
    generalize w2.heap.size = q2 at *
    have hS : v2.cell? ⟨q2, 0, none⟩ = some (.int .i64 0) ∧ v2.cell? ⟨q2, 1, none⟩ = some (.int .i64 fi) := ⟨s0, s1⟩
    clear s0 s1
    have HP : Hid (∀ W, Bk w r W p F p2 F2 (frS K) (frS K) [(q2, objS ⟨0, fi⟩)] → W.cell? ⟨q2, 0, none⟩ = some (.int .i64 0) ∧ W.cell? ⟨q2, 1, none⟩ = some (.int .i64 fi)) := fun W hW => (hW.atS (q := q2) (s := ⟨0, fi⟩) (by simp)).cells
    have hval : IntKind.i64.wrap (bits BinOp.and IntKind.u64 a (IntKind.u64.wrap (IntKind.u64.wrap (2 ^ K) - 1))) = fi := by rw [← HF.out]; exact low_bits a K HA.out (by omega)
    have HQ : ∀ W, (Op.equalIn 10000 36 (.agg #[.int .i64 0, .int .i64 fi]) (.agg #[.int .i64 0, .int .i64 fi])).run Try.prog W = .ok true W := fun W => by
      have h := eq_slots W ⟨0, fi⟩ ⟨0, fi⟩
      simpa using h
    go_region_held3 (fun W => W.cell? ⟨q2, 0, none⟩ = some (.int .i64 0) ∧ W.cell? ⟨q2, 1, none⟩ = some (.int .i64 fi)) ((first | with_reducible assumption | with_reducible exact HP.out _ (K2.out.drew) | with_reducible exact HP.out _ (K2.out.drew.below b3)))
      ((go_at_call 17; refine (fixed_any _).mono ?_; rintro e u ⟨rfl, b3⟩))
    have KL : Hid (Below r w u) := (K2.out.drew.below b3).low
    clear b3 K2 HP hS
    go_wp2
    go_ret
    exact ⟨rfl, by rw [HR.out]; exact KL.out⟩
  · have hv := HV.out
    rw [if_neg hDK] at hv
    refine (slot_is H1.out.nds rootE_fits HA.out hv).mono ?_
    rintro e w2 ⟨he, b2⟩
    obtain rfl : e = .returned (.tuple #[.agg #[.int .i64 0, .int .i64 0], .int .i64 62]) := he
    have K2 : Hid (Bk w r (w2.alloc (Obj.cells #[.int .i64 0, .int .i64 0] 36)) p F p2 F2 (frS K) (frS K) [(w2.heap.size, objS sl0)]) := ((H1.out.below b2).alloc (objS sl0)).fewer fun b hb => by simp at hb ⊢; simp [hb]
    clear b2 H1 c0 c1 c2 c3 c4 c5 hv HV
    have hne : ((D : Int) != (K : Int)) = true := by simp; omega
    clear hDK
    obtain ⟨s0, s1⟩ := (K2.out.atS (q := w2.heap.size) (s := sl0) (by simp)).cells
    simp only [sl0] at s0 s1
    have HQ : ∀ W, (Op.equalIn 10000 36 (.agg #[.int .i64 0, .int .i64 0]) (.agg #[.int .i64 0, .int .i64 0])).run Try.prog W = .ok true W := fun W => by
      have h := eq_slots W sl0 sl0
      simpa [sl0] using h
    go_wp2_with fail
    refine (fixed_any _).mono ?_
    rintro e w5 ⟨rfl, b5⟩
    have KL : Hid (Below r w w5) := (K2.out.below b5).low
    clear b5 K2 s0 s1
    go_wp2
    go_ret
    exact ⟨rfl, by rw [HR.out]; exact KL.out⟩
end
open Go.ChangeShapes Go.WideShapes Go.ChangeAt Go.RowKit Go.Joins

/-! ### From the walk to the statement -/
set_option maxRecDepth 100000 in
theorem lifted (os : Os) (started : os.Started) (H : Type) (enc : TypeId × Value → H) :
    ReturnsInHanded {} Try.checked os 8 .any (Rows.lookupFreeSpec.pre6 enc Try.prog Try.f8 Rows.lookupFreeRow.domain false) (Rows.lookupFreeSpec.post enc Try.prog Try.f8 false true false false) := by
  have dCp : DecidableEq Cp := fun a b => Classical.propDecidable (a = b)
  have dLim : ∀ k, Decidable (Lim k) := fun k => Classical.propDecidable (Lim k)
  have dBad : ∀ k, Decidable (Bad k) := fun k => Classical.propDecidable (Bad k)
  have dFit : ∀ g z, Decidable (Fit g z) := fun g z => Classical.propDecidable (Fit g z)
  have dFine : ∀ c, Decidable (Fine c) := fun c => Classical.propDecidable (Fine c)
  have dMint : ∀ c v, Decidable (MintR c v) := fun c v => Classical.propDecidable (MintR c v)
  have dWho : ∀ x y, Decidable (Whose x y) := fun x y => Classical.propDecidable (Whose x y)
  have dSl : DecidableEq Sl := fun a b => Classical.propDecidable (a = b)
  have dLt : ∀ a b, Decidable (ltS a b) := fun a b => Classical.propDecidable (ltS a b)
  have dIsN : ∀ S c, Decidable (isN S c) := fun S c => Classical.propDecidable (isN S c)
  have dGuN : ∀ a c d, Decidable (GuardN a c d) := fun a c d => Classical.propDecidable (GuardN a c d)
  refine returnsInHanded_of_change (C := Try.checked) own started (by kernel_rfl) Try.func8
    (ChangeSpec.witness6 (enc := enc) (C := Try.checked) false ⟨#[], #[.int .i64 0, .int .u64 0, .int .i64 0], []⟩ 8 (by kernel_rfl) (by kernel_rfl) (by kernel_rfl) (by kernel_rfl)) ?_
  intro W base args ds gs before hval0 hW hcnd _
  have hval : ∀ (j : Nat) t v, Try.f8.params[j]? = some t → args[j]? = some v → Value.okWide Try.prog W .any base t v := hval0
  have hW' := hW
  obtain ⟨p, q, hA0, hV, rfl, hfz, hnd⟩ := hW
  have hA : DataW.TrodAll enc Try.prog W 0 (fun _ => true) true Try.f8.params.toList args.toList ds p := hA0
  rw [Try.params8] at hA hval
  obtain ⟨v0, vs0, d0, ds0, p0, q0, hargs, rfl, rfl, h0, r0⟩ := trodAll_cons hA
  obtain ⟨v1, vs1, d1, ds1, p1, q1, rfl, rfl, rfl, h1, r1⟩ := trodAll_cons r0
  obtain ⟨v2, vs2, d2, ds2, p2, q2, rfl, rfl, rfl, h2, r2⟩ := trodAll_cons r1
  obtain ⟨rfl, rfl, rfl⟩ := trodAll_nil r2
  obtain rfl : args = #[v0, v1, v2] := by cases args; simp_all
  obtain ⟨rfl, rfl⟩ := trodVars_none hV
  have k0 := h0
  have lt0 : ∀ x ∈ p0, x.block < W.heap.size := by obtain ⟨m, hm⟩ := k0; exact DataW.trod_lt m _ _ _ hm
  obtain ⟨a0, rfl, _, _, w0⟩ := open_int Try.underlying3 (hval 0 3 v0 rfl rfl) h0
  have k1 := h1
  have lt1 : ∀ x ∈ p1, x.block < W.heap.size := by obtain ⟨m, hm⟩ := k1; exact DataW.trod_lt m _ _ _ hm
  obtain ⟨a1, rfl, _, _, w1⟩ := open_int Try.underlying26 (hval 1 26 v1 rfl rfl) h1
  have k2 := h2
  have lt2 : ∀ x ∈ p2, x.block < W.heap.size := by obtain ⟨m, hm⟩ := k2; exact DataW.trod_lt m _ _ _ hm
  obtain ⟨a2, rfl, _, _, w2⟩ := open_int Try.underlying3 (hval 2 3 v2 rfl rfl) h2
  clear hA0 hval0
  refine (walk a0 a1 a2 W (bounds_i64 w0) (bounds_u64 w1) (bounds_i64 w2)).mono fun e W' ⟨he, bel⟩ => ?_
  subst he
  exact ⟨_, rfl, _, _, _, [], _, [], hW', trodAll_mk1 (shut_bool Try.underlying4 _), (trodAll_cons_mk (Below.trod laidOut (by kernel_rfl) (of_decide_eq_true (by kernel_rfl)) k0 bel lt0) (trodAll_cons_mk (Below.trod laidOut (by kernel_rfl) (of_decide_eq_true (by kernel_rfl)) k1 bel lt1) (trodAll_cons_mk (Below.trod laidOut (by kernel_rfl) (of_decide_eq_true (by kernel_rfl)) k2 bel lt2) trodAll_mk0))), rfl, bel.frame _, fun h => by cases h⟩
theorem over : Rows.lookupFreeRow.holds Try.pinned (OpenSpec.ofChange Rows.lookupFreeSpec) :=
  OpenClaim.holds_of_wide 8 Try.f8 rfl rfl rfl rfl rfl rfl rfl ⟨rfl, rfl, rfl, rfl, rfl⟩ rfl rfl rfl rfl rfl (by kernel_rfl) Try.func8 (by kernel_rfl)
    (of_decide_eq_true (by kernel_rfl)) (by unfold Func.isWrapper; first | (rw [if_pos (by decide +kernel)]; kernel_rfl) | (rw [if_neg (by decide +kernel)]; exact ⟨rfl, rfl⟩))
    (fun os started H enc _ => lifted os started H enc)
end Go.Proofs.Ytafjgoelofobmaa.lookupFree
namespace Go.Proofs.Ytafjgoelofobmaa
/-- THE STATEMENT. -/
theorem lookupFree_said : Rows.LookupFreeSaid := lookupFree.over
#print axioms lookupFree_said
end Go.Proofs.Ytafjgoelofobmaa

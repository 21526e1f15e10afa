/-
  ScriptFewer answers true for every input; no condition of ours.
-/
import Derived.Test.YtkbbjpnkfmegnabSCut
namespace Go.Proofs.Ytkbbjpnkfmegnab.scriptFewer
open Go.RowKit Go.Deep
theorem mask_nat (x : Int) (m : Nat) (hm : m ≤ 62) : ∃ a : Nat, a ≤ 2 ^ m - 1 ∧ bits BinOp.and IntKind.i64 x ((2 ^ m - 1 : Nat) : Int) = (a : Int) := by
  have hp : 0 < 2 ^ m := Nat.pow_pos (by omega)
  have hq : 2 ^ m ≤ 2 ^ 62 := Nat.pow_le_pow_right (by omega) hm
  have key : bits BinOp.and IntKind.i64 x ((2 ^ m - 1 : Nat) : Int) = x % ((2 ^ m : Nat) : Int) := by
    show IntKind.i64.wrap ((BitVec.ofInt 64 x &&& BitVec.ofInt 64 ((2 ^ m - 1 : Nat) : Int)).toNat : Int) = _
    have e0 : (BitVec.ofInt 64 ((2 ^ m - 1 : Nat) : Int)).toNat = 2 ^ m - 1 := by
      rw [BitVec.ofInt_natCast, BitVec.toNat_ofNat, Nat.mod_eq_of_lt (by omega)]
    rw [BitVec.toNat_and, e0, Nat.and_two_pow_sub_one_eq_mod, BitVec.toNat_ofInt]
    have e : (((x % ((2 ^ 64 : Nat) : Int)).toNat % 2 ^ m : Nat) : Int) = x % ((2 ^ m : Nat) : Int) := by
      rw [Int.natCast_emod, Int.toNat_of_nonneg (Int.emod_nonneg _ (by decide))]
      apply Int.emod_emod_of_dvd
      exact Int.natCast_dvd_natCast.2 (Nat.pow_dvd_pow 2 (by omega))
    rw [e]
    have h1 : 0 ≤ x % ((2 ^ m : Nat) : Int) := Int.emod_nonneg _ (by omega)
    have h2 : x % ((2 ^ m : Nat) : Int) < ((2 ^ m : Nat) : Int) := Int.emod_lt_of_pos _ (by omega)
    generalize x % ((2 ^ m : Nat) : Int) = y at *
    generalize 2 ^ m = p at *
    have hy : y % (2 : Int) ^ 64 = y := Int.emod_eq_of_lt h1 (by omega)
    simp only [IntKind.wrap, IntKind.bits, IntKind.signed, hy]
    rw [if_neg]
    simp
    omega
  have h1 : 0 ≤ x % ((2 ^ m : Nat) : Int) := Int.emod_nonneg _ (by omega)
  have h2 : x % ((2 ^ m : Nat) : Int) < ((2 ^ m : Nat) : Int) := Int.emod_lt_of_pos _ (by omega)
  exact ⟨(x % ((2 ^ m : Nat) : Int)).toNat, by omega, by rw [key]; omega⟩
theorem mask65535 (x : Int) : ∃ a : Nat, a ≤ 65535 ∧ bits BinOp.and IntKind.i64 x 65535 = (a : Int) := mask_nat x 16 (by decide)
theorem rem_nat (k : Nat) (d : Int) (hd : 0 < d) : ∃ n : Nat, (n : Int) < d ∧ (k : Int) % d = (n : Int) := by
  have h1 : 0 ≤ (k : Int) % d := Int.emod_nonneg _ (by omega)
  have h2 : (k : Int) % d < d := Int.emod_lt_of_pos _ hd
  exact ⟨((k : Int) % d).toNat, by omega, by omega⟩
theorem walk (ao : Option Addr) (L : List It) (cap : Nat) (x : It) (a : Int) (w : World) (hT : ToldI w ao L) (_hl : L.length ≤ 9223372036854775807) (hu : L.length ≤ cap) (hz : ao = none → cap = 0) (_hy : cap ≤ 9223372036854775807) (_ha : I64 a) :
    Calls Try.prog 3 #[.slice ao L.length cap, encI x, .int .i64 a] w fun e w' => e = .returned (.bool true) ∧ Below w.heap.size w w' := by
  have hcut := run_cut_items ao L.length cap .i64
  obtain ⟨t, ht, hbits⟩ := mask65535 a
  obtain ⟨L', hL', hT', hl', hc'⟩ : ∃ L' : List It, L.take 100 = L' ∧ ToldI w ao L' ∧ L'.length ≤ 100 ∧ L'.length ≤ cap := ⟨_, rfl, hT.take 100, by simp; omega, by simp; omega⟩
  obtain ⟨k, hk, hkr⟩ := rem_nat t ((L'.length : Int) + 1) (by omega)
  have hk' : k ≤ L'.length := by omega
  have hcut2 := run_cut_items ao L'.length cap .i64 k (by omega)
  have htl := run_tail_items ao L'.length cap .i64 k hk'
  obtain ⟨x9, hx9⟩ : ∃ x9 : It, x9 = ⟨9, x.c, x.a, x.b⟩ := ⟨_, rfl⟩
  have hr9 : rightB 4 x9 = false := by rw [hx9]; simp [rightB]
  have b1 := below_new w (objI x9)
  have a1 := AtI.new w x9
  obtain ⟨w1, hw1⟩ : ∃ w1, w.alloc (objI x9) = w1 := ⟨_, rfl⟩
  have hs1 : w1.heap.size = w.heap.size + 1 := by rw [← hw1]; simp
  rw [hw1] at b1 a1
  have hT1 := hT'.below b1
  -- the first append
  have b2 := below_new w1 (.cells #[] 24)
  obtain ⟨v3, w3, hrun3, ho3, hg3⟩ := append_items w1.heap.size (w1.alloc (.cells #[] 24)) 22 (.slice (some ⟨w1.heap.size, 0, none⟩) 0 0) [] (L'.take k) ao cap (ownI_new _ _ (Nat.le_refl _)) ((hT1.below b2).take k) hz (by simp; omega) (by simp)
  have b3 : Below w1.heap.size w1 w3 := b2.grown hg3 (by simp) (fun j ej => by simp [Value.ownBlock] at ej; omega)
  rw [show (L'.take k).length = k by simp; omega] at hrun3
  obtain ⟨ao3, cap3, rfl⟩ := ho3.slice
  -- the second
  have hb4 := below_new w3 (objI x9)
  have hT4 : ToldI (w3.alloc (objI x9)) (some ⟨w3.heap.size, 0, none⟩) [x9] := .inr ⟨_, 0, rfl, by simp, fun j y hj => by
    cases j with
    | zero => simp at hj; subst hj; simpa using (AtI.new w3 x9).cells
    | succ j => simp at hj⟩
  obtain ⟨v5, w5, hrun5, ho5, hg5⟩ := append_items w1.heap.size (w3.alloc (objI x9)) 22 _ _ [x9] (some ⟨w3.heap.size, 0, none⟩) 1 (ho3.below hb4) hT4 (fun h => by cases h) (by simp; omega) (by have := b3.size; simp; omega)
  have b5 : Below w1.heap.size w1 w5 := (Below.then b3 hb4 b3.size).grown hg5 (by have := b3.size; simp; omega) (fun j ej => (ho3.block j ej).1)
  obtain ⟨ao5, cap5, rfl⟩ := ho5.slice
  -- the third
  have hT6 := told_tail (hT1.below b5) cap k hc'
  obtain ⟨v7, w7, hrun7, ho7, hg7⟩ := append_items w1.heap.size w5 22 _ _ (L'.drop k) (tailAt ao cap k) (cap - k) ho5 hT6 (tail_none hz) (by simp; omega) b5.size
  have b7 : Below w1.heap.size w1 w7 := b5.grown hg7 b5.size (fun j ej => (ho5.block j ej).1)
  obtain ⟨ao7, cap7, rfl⟩ := ho7.slice
  obtain ⟨_, _, e7, hT7, _, _⟩ := ho7.told
  simp only [Value.slice.injEq, true_and] at e7
  obtain ⟨rfl, rfl⟩ := e7
  have hM : pick 4 ([] ++ L'.take k ++ [x9] ++ L'.drop k) = pick 4 L' := by
    rw [List.nil_append, pick_append, pick_miss 4 _ x9 hr9, ← pick_append, List.take_append_drop]
  have hM2 : ([] ++ L'.take k ++ [x9] ++ L'.drop k).length ≤ 101 := by simp; omega
  generalize hMd : ([] ++ L'.take k ++ [x9] ++ L'.drop k) = M at *
  clear hMd
  rw [show (L'.drop k).length = L'.length - k by simp] at hrun7
  obtain ⟨c0, c1, c2, c3⟩ := (a1.below b3).cells
  obtain ⟨d0, d1, d2, d3⟩ := (a1.below b7).cells
  have H3 : Hid _ := hrun3
  have H5 : Hid _ := hrun5
  have H7 : Hid _ := hrun7
  have hT7' := hT1.below b7
  clear hrun3 hrun5 hrun7 ho3 hg3 ho5 hg5 ho7 hg7 hT4 hT6 b2 b5 b3 hb4 hT' hT1 hT
  generalize ([] ++ L'.take k).length = m3 at *
  generalize ([] ++ L'.take k ++ [x9]).length = m5 at *
  generalize hMl : M.length = m7 at *
  have HM : Hid (M.length = m7) := hMl
  clear hMl
  have e9 : x9.k = 9 ∧ x9.c = x.c ∧ x9.a = x.a ∧ x9.b = x.b := by rw [hx9]; simp
  clear hx9
  obtain ⟨e0, e1, e2, e3⟩ := e9
  simp only [objI, fourI, e0, e1, e2, e3] at hw1 H3 H5 H7 c0 c1 c2 c3 d0 d1 d2 d3
  rw [hs1] at H3
  simp only [List.length_cons, List.length_nil, Nat.zero_add] at H5
  simp only [encI, fourI]
  have HL : Hid (L'.length ≤ 100) := hl'
  go_enter Try.func3, Try.ntmps3
  rcases Nat.lt_or_ge 100 L.length with hh | hh
  · have h1 : (100 : Int) < (L.length : Int) := by omega
    have hn : L'.length = 100 := by rw [← hL']; simp; omega
    have HN : Hid (L'.length = 100) := hn
    rw [hn] at hkr hcut2 htl H7
    have hkr' : (t : Int) % 101 = (k : Int) := by simpa using hkr
    clear hkr
    clear hn hk hk' hl' hc' ht hL'
    go_wp2_with (first | (at_builtin; refine wpList_append_run rfl (.tmp 21) (.tmp 24) 22 rfl _ _ _ _ rfl rfl H3.out ?_) | (at_builtin; refine wpList_append_run rfl (.tmp 26) (.tmp 28) 22 rfl _ _ _ _ rfl rfl H5.out ?_) | (at_builtin; refine wpList_append_run rfl (.tmp 30) (.tmp 33) 22 rfl _ _ _ _ rfl rfl H7.out ?_))
    obtain ⟨z0, z1, z2, z3⟩ : Hid (L'.length ≤ 100) ∧ Hid (AtI w7 w.heap.size x9) ∧ Hid (w.heap.size ≤ w7.heap.size) ∧ Hid (Below w.heap.size w w7) := ⟨HL, a1.below b7, by have := b7.size; show w.heap.size ≤ w7.heap.size; omega, Below.then b1 b7 b1.size⟩
    refine (print_at ao7 m7 cap7 M 4 HM.out.symm (by have := HM.out; omega) w7 hT7).mono ?_
    rintro e w8 ⟨rfl, b8⟩
    rw [hM]
    have t8 := hT7'.below b8
    have m8 := hT7.below b8
    have a8 := z1.out.below b8
    have y8 := Below.then z3.out b8 z2.out
    clear hT7 hT7' b8 z1 z2 z3 d0 d1 d2 d3 c0 c1 c2 c3 H3 H5 H7 a1 b1 b7 hw1 hcut hcut2 htl hbits
    generalize hsp : strOfNums (flat (pick 4 L')) = sp at *
    have HSP : Hid (strOfNums (flat (pick 4 L')) = sp) := hsp
    clear hsp
    go_wp2_with fail
    refine (print_at ao _ cap L' 4 HN.out.symm (by have := z0.out; omega) w8 t8).mono ?_
    rintro e w9 ⟨rfl, b9⟩
    rw [HSP.out]
    have t9 := t8.below b9
    have m9 := m8.below b9
    have a9 := a8.below b9
    have y9 := Below.then y8 b9 y8.size
    clear t8 m8 a8 y8 b9
    obtain ⟨d0, d1, d2, d3⟩ := a9.cells
    rw [e0] at d0
    rw [e1] at d1
    rw [e2] at d2
    rw [e3] at d3
    go_wp2_with fail
    refine (right_any ⟨9, x.c, x.a, x.b⟩ 4 w9).mono ?_
    rintro e w10 ⟨rfl, rfl⟩
    rw [show rightB 4 ⟨9, x.c, x.a, x.b⟩ = false by simp [rightB]]
    have b10 := below_new w9 (objI ⟨9, x.c, x.a, x.b⟩)
    generalize w9.alloc (objI ⟨9, x.c, x.a, x.b⟩) = w10 at *
    have t10 := t9.below b10
    have m10 := m9.below b10
    have y10 := Below.then y9 b10 y9.size
    clear t9 m9 a9 y9 b10 d0 d1 d2 d3
    go_wp2_with fail
    refine (print_at ao7 m7 cap7 M 4 HM.out.symm (by have := HM.out; omega) w10 m10).mono ?_
    rintro e w11 ⟨rfl, b11⟩
    rw [hM, HSP.out]
    have t11 := t10.below b11
    have y11 := Below.then y10 b11 y10.size
    clear t10 m10 y10 b11
    have hfl : (flat (pick 4 L')).length ≤ 400 := by rw [flat_len]; have := pick_len 4 L'; have := z0.out; omega
    go_wp2_with fail
    refine (parse_at sp (flat (pick 4 L')) 4 HSP.out.symm (bytes_flat _ _) (by omega) w11).mono ?_
    rintro e w12 ⟨ao12, cap12, rfl, p12, _, b12⟩
    have t12 := t11.below b12
    have y12 := Below.then y11 b12 y11.size
    clear t11 y11 b12
    go_wp2_with fail
    refine (print_at ao _ cap L' 4 HN.out.symm (by have := z0.out; omega) w12 t12).mono ?_
    rintro e w13 ⟨rfl, b13⟩
    rw [HSP.out]
    have p13 := p12.below b13
    have y13 := Below.then y12 b13 y12.size
    clear t12 p12 y12 b13
    go_wp2_with fail
    refine (parse_at sp (flat (pick 4 L')) 4 HSP.out.symm (bytes_flat _ _) (by omega) w13).mono ?_
    rintro e w14 ⟨ao14, cap14, rfl, p14, _, b14⟩
    have p15 := p13.below b14
    have y14 := Below.then y13 b14 y13.size
    clear p13 y13 b14
    have hpl : (pick 4 (items (flat (pick 4 L')))).length ≤ 1000000 := by have := pick_len 4 (items (flat (pick 4 L'))); have := items_len (flat (pick 4 L')); omega
    generalize pick 4 (items (flat (pick 4 L'))) = R at *
    go_wp2_with fail
    refine (same_at _ _ R _ _ _ _ w14 rfl rfl p15 p14 hpl).mono ?_
    rintro e w15 ⟨rfl, b15⟩
    have y15 := Below.then y14 b15 y14.size
    clear y14 p14 p15 b15
    go_wp2_with fail
    refine (fixed_any w15).mono ?_
    rintro e w16 ⟨rfl, b16⟩
    have y16 := Below.then y15 b16 y15.size
    clear y15 b16
    go_wp2
    go_ret
    exact ⟨rfl, y16⟩
  · have h1 : (L.length : Int) ≤ 100 := by omega
    have hn : L'.length = L.length := by rw [← hL']; simp; omega
    have HN : Hid (L'.length = L.length) := hn
    rw [hn] at hkr hcut2 htl H7
    clear hn hk hk' hl' hc' ht hL'
    go_wp2_with (first | (at_builtin; refine wpList_append_run rfl (.tmp 21) (.tmp 24) 22 rfl _ _ _ _ rfl rfl H3.out ?_) | (at_builtin; refine wpList_append_run rfl (.tmp 26) (.tmp 28) 22 rfl _ _ _ _ rfl rfl H5.out ?_) | (at_builtin; refine wpList_append_run rfl (.tmp 30) (.tmp 33) 22 rfl _ _ _ _ rfl rfl H7.out ?_))
    obtain ⟨z0, z1, z2, z3⟩ : Hid (L'.length ≤ 100) ∧ Hid (AtI w7 w.heap.size x9) ∧ Hid (w.heap.size ≤ w7.heap.size) ∧ Hid (Below w.heap.size w w7) := ⟨HL, a1.below b7, by have := b7.size; show w.heap.size ≤ w7.heap.size; omega, Below.then b1 b7 b1.size⟩
    refine (print_at ao7 m7 cap7 M 4 HM.out.symm (by have := HM.out; omega) w7 hT7).mono ?_
    rintro e w8 ⟨rfl, b8⟩
    rw [hM]
    have t8 := hT7'.below b8
    have m8 := hT7.below b8
    have a8 := z1.out.below b8
    have y8 := Below.then z3.out b8 z2.out
    clear hT7 hT7' b8 z1 z2 z3 d0 d1 d2 d3 c0 c1 c2 c3 H3 H5 H7 a1 b1 b7 hw1 hcut hcut2 htl hbits
    generalize hsp : strOfNums (flat (pick 4 L')) = sp at *
    have HSP : Hid (strOfNums (flat (pick 4 L')) = sp) := hsp
    clear hsp
    go_wp2_with fail
    refine (print_at ao _ cap L' 4 HN.out.symm (by have := z0.out; omega) w8 t8).mono ?_
    rintro e w9 ⟨rfl, b9⟩
    rw [HSP.out]
    have t9 := t8.below b9
    have m9 := m8.below b9
    have a9 := a8.below b9
    have y9 := Below.then y8 b9 y8.size
    clear t8 m8 a8 y8 b9
    obtain ⟨d0, d1, d2, d3⟩ := a9.cells
    rw [e0] at d0
    rw [e1] at d1
    rw [e2] at d2
    rw [e3] at d3
    go_wp2_with fail
    refine (right_any ⟨9, x.c, x.a, x.b⟩ 4 w9).mono ?_
    rintro e w10 ⟨rfl, rfl⟩
    rw [show rightB 4 ⟨9, x.c, x.a, x.b⟩ = false by simp [rightB]]
    have b10 := below_new w9 (objI ⟨9, x.c, x.a, x.b⟩)
    generalize w9.alloc (objI ⟨9, x.c, x.a, x.b⟩) = w10 at *
    have t10 := t9.below b10
    have m10 := m9.below b10
    have y10 := Below.then y9 b10 y9.size
    clear t9 m9 a9 y9 b10 d0 d1 d2 d3
    go_wp2_with fail
    refine (print_at ao7 m7 cap7 M 4 HM.out.symm (by have := HM.out; omega) w10 m10).mono ?_
    rintro e w11 ⟨rfl, b11⟩
    rw [hM, HSP.out]
    have t11 := t10.below b11
    have y11 := Below.then y10 b11 y10.size
    clear t10 m10 y10 b11
    have hfl : (flat (pick 4 L')).length ≤ 400 := by rw [flat_len]; have := pick_len 4 L'; have := z0.out; omega
    go_wp2_with fail
    refine (parse_at sp (flat (pick 4 L')) 4 HSP.out.symm (bytes_flat _ _) (by omega) w11).mono ?_
    rintro e w12 ⟨ao12, cap12, rfl, p12, _, b12⟩
    have t12 := t11.below b12
    have y12 := Below.then y11 b12 y11.size
    clear t11 y11 b12
    go_wp2_with fail
    refine (print_at ao _ cap L' 4 HN.out.symm (by have := z0.out; omega) w12 t12).mono ?_
    rintro e w13 ⟨rfl, b13⟩
    rw [HSP.out]
    have p13 := p12.below b13
    have y13 := Below.then y12 b13 y12.size
    clear t12 p12 y12 b13
    go_wp2_with fail
    refine (parse_at sp (flat (pick 4 L')) 4 HSP.out.symm (bytes_flat _ _) (by omega) w13).mono ?_
    rintro e w14 ⟨ao14, cap14, rfl, p14, _, b14⟩
    have p15 := p13.below b14
    have y14 := Below.then y13 b14 y13.size
    clear p13 y13 b14
    have hpl : (pick 4 (items (flat (pick 4 L')))).length ≤ 1000000 := by have := pick_len 4 (items (flat (pick 4 L'))); have := items_len (flat (pick 4 L')); omega
    generalize pick 4 (items (flat (pick 4 L'))) = R at *
    go_wp2_with fail
    refine (same_at _ _ R _ _ _ _ w14 rfl rfl p15 p14 hpl).mono ?_
    rintro e w15 ⟨rfl, b15⟩
    have y15 := Below.then y14 b15 y14.size
    clear y14 p14 p15 b15
    go_wp2_with fail
    refine (fixed_any w15).mono ?_
    rintro e w16 ⟨rfl, b16⟩
    have y16 := Below.then y15 b16 y15.size
    clear y15 b16
    go_wp2
    go_ret
    exact ⟨rfl, y16⟩
open Go.ChangeShapes Go.WideShapes Go.ChangeAt Go.RowKit Go.Joins

/-! ### From the walk to the statement -/
set_option maxRecDepth 100000 in
theorem lifted (os : Os) (started : os.Started) (H : Type) (enc : TypeId × Value → H) :
    ReturnsInHanded {} Try.checked os 3 .any (Rows.scriptFewerSpec.pre6 enc Try.prog Try.f3 Rows.scriptFewerRow.domain false) (Rows.scriptFewerSpec.post enc Try.prog Try.f3 false true false false) := by
  refine returnsInHanded_of_change (C := Try.checked) own started (by kernel_rfl) Try.func3
    (ChangeSpec.witness6 (enc := enc) (C := Try.checked) false ⟨#[], #[.slice none 0 0, .agg #[.int .i64 0, .int .i64 0, .int .i64 0, .int .i64 0], .int .i64 0], []⟩ 8 (by kernel_rfl) (by kernel_rfl) (by kernel_rfl) (by kernel_rfl)) ?_
  intro W base args ds gs before hval0 hW hcnd _
  have hval : ∀ (j : Nat) t v, Try.f3.params[j]? = some t → args[j]? = some v → Value.okWide Try.prog W .any base t v := hval0
  have hW' := hW
  obtain ⟨p, q, hA0, hV, rfl, hfz, hnd⟩ := hW
  have hA : DataW.TrodAll enc Try.prog W 0 (fun _ => true) true Try.f3.params.toList args.toList ds p := hA0
  rw [Try.params3] at hA hval
  obtain ⟨v0, vs0, d0, ds0, p0, q0, hargs, rfl, rfl, h0, r0⟩ := trodAll_cons hA
  obtain ⟨v1, vs1, d1, ds1, p1, q1, rfl, rfl, rfl, h1, r1⟩ := trodAll_cons r0
  obtain ⟨v2, vs2, d2, ds2, p2, q2, rfl, rfl, rfl, h2, r2⟩ := trodAll_cons r1
  obtain ⟨rfl, rfl, rfl⟩ := trodAll_nil r2
  obtain rfl : args = #[v0, v1, v2] := by cases args; simp_all
  obtain ⟨rfl, rfl⟩ := trodVars_none hV
  have k0 := h0
  have lt0 : ∀ x ∈ p0, x.block < W.heap.size := by obtain ⟨m, hm⟩ := k0; exact DataW.trod_lt m _ _ _ hm
  obtain ⟨a0, l0, c0, rfl, t0, s0, u0, z0, y0⟩ := open_items (hval 0 22 v0 rfl rfl) h0
  have k1 := h1
  have lt1 : ∀ x ∈ p1, x.block < W.heap.size := by obtain ⟨m, hm⟩ := k1; exact DataW.trod_lt m _ _ _ hm
  obtain ⟨a1, rfl⟩ := open_item (hval 1 24 v1 rfl rfl) h1
  have k2 := h2
  have lt2 : ∀ x ∈ p2, x.block < W.heap.size := by obtain ⟨m, hm⟩ := k2; exact DataW.trod_lt m _ _ _ hm
  obtain ⟨a2, rfl, _, _, w2⟩ := open_int Try.underlying3 (hval 2 3 v2 rfl rfl) h2
  clear hA0 hval0
  refine (walk a0 l0 c0 a1 a2 W t0 s0 u0 z0 y0 (bounds_i64 w2)).mono fun e W' ⟨he, bel⟩ => ?_
  subst he
  exact ⟨_, rfl, _, _, _, [], _, [], hW', trodAll_mk1 (shut_bool Try.underlying4 _), (trodAll_cons_mk (Below.trod laidOut (by kernel_rfl) (of_decide_eq_true (by kernel_rfl)) k0 bel lt0) (trodAll_cons_mk (Below.trod laidOut (by kernel_rfl) (of_decide_eq_true (by kernel_rfl)) k1 bel lt1) (trodAll_cons_mk (Below.trod laidOut (by kernel_rfl) (of_decide_eq_true (by kernel_rfl)) k2 bel lt2) trodAll_mk0))), rfl, bel.frame _, fun h => by cases h⟩
theorem over : Rows.scriptFewerRow.holds Try.pinned (OpenSpec.ofChange Rows.scriptFewerSpec) :=
  OpenClaim.holds_of_wide 3 Try.f3 rfl rfl rfl rfl rfl rfl rfl ⟨rfl, rfl, rfl, rfl, rfl⟩ rfl rfl rfl rfl rfl (by kernel_rfl) Try.func3 (by kernel_rfl)
    (of_decide_eq_true (by kernel_rfl)) (by unfold Func.isWrapper; first | (rw [if_pos (by decide +kernel)]; kernel_rfl) | (rw [if_neg (by decide +kernel)]; exact ⟨rfl, rfl⟩))
    (fun os started H enc _ => lifted os started H enc)
end Go.Proofs.Ytkbbjpnkfmegnab.scriptFewer
namespace Go.Proofs.Ytkbbjpnkfmegnab
/-- THE STATEMENT. -/
theorem scriptFewer_said : Rows.ScriptFewerSaid := scriptFewer.over
#print axioms scriptFewer_said
end Go.Proofs.Ytkbbjpnkfmegnab

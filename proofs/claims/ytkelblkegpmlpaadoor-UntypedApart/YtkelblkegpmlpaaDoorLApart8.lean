/-
  The statement UntypedApart: for every memory and whatever is asked for the law returns true and what was handed in reads as it did; the table of sizes lies as the program's text lays it, and the card ties that to the text.
-/
import Derived.Test.YtkelblkegpmlpaaDoorUCut
import Derived.Test.YtkelblkegpmlpaaDoorUTwo
namespace Go.Proofs.YtkelblkegpmlpaaDoor.untypedApart
open Go.RowKit Go.Deep
open Classical
theorem size_is (k b z e : Int) {w0 : World} {r : Nat} {w : World} {L : List (Nat × Obj)} {M : List (Option Addr × List Int)} (h : Kp w0 r w L M) (hb : -9223372036854775808 ≤ b ∧ b ≤ 9223372036854775807) (h1 : szN k b = z) (h2 : szE k b = e) :
    Calls Tryd.prog 11 #[.int .i64 k, .int .i64 b] w fun e' w' => e' = .returned (.tuple #[.int .i64 z, .int .i64 e]) ∧ Kp w0 r w' L M := by
  have := size_kp k b h hb
  rwa [h1, h2] at this
set_option maxRecDepth 100000 in
set_option maxHeartbeats 4000000 in
theorem bad (u : Un) (k b n : Int) (w : World) (hT : Tab w) (hf : u.Fits) (hb : -9223372036854775808 ≤ b ∧ b ≤ 9223372036854775807) (hn : -9223372036854775808 ≤ n ∧ n ≤ 9223372036854775807) (h1 : plE u k b n ≠ 0) :
    Calls Tryd.prog 4 #[encU u, encO k b n] w fun e w' => e = .returned (.bool true) ∧ Below w.heap.size w w' := by
  have HA : Hid (plL u k b n = []) := by show plL _ _ _ _ = []; unfold plL; rw [if_neg h1]
  have HW : Hid (plU u k b n = ⟨0, 0, 0⟩) := by show plU _ _ _ _ = Un.zero; unfold plU; rw [if_neg h1]
  obtain ⟨E, hE⟩ : ∃ E, plE u k b n = E := ⟨_, rfl⟩
  rw [hE] at h1
  have NE : Hid (E ≠ 0) := h1
  have HE : Hid (plE u k b n = E) := hE
  clear hE h1
  have HF : Hid u.Fits := hf
  have HB : Hid (-9223372036854775808 ≤ b ∧ b ≤ 9223372036854775807) := hb
  have HN : Hid (-9223372036854775808 ≤ n ∧ n ≤ 9223372036854775807) := hn
  clear hf hb hn
  have h1 := ((Kp.start hT).alloc (objU u)).alloc (objO k b n)
  rw [World.size_alloc] at h1
  clear hT
  simp only [encU, encO, objU, objO] at h1 ⊢
  go_enter Tryd.func4, Tryd.ntmps4
  go_wp2_with fail
  generalize (w.alloc (Obj.cells #[.int .u64 u.base, .int .i64 u.bits, .int .u64 u.used] 24)).alloc (Obj.cells #[.int .i64 k, .int .i64 b, .int .i64 n] 26) = W1 at *
  generalize hr0 : w.heap.size = r at *
  have HR : Hid (w.heap.size = r) := hr0
  clear hr0
  have k1 : Hid (Kp w r W1 [(r + 1, objO k b n), (r, objU u)] []) := h1
  clear h1
  refine (place_is u ⟨0, 0, 0⟩ k b n E [] k1.out HF.out HB.out HN.out HA.out HW.out HE.out).mono ?_
  rintro e w2 ⟨ao2, cap2, rfl, h2⟩
  have k2 : Hid (Kp w r w2 [(r + 1, objO k b n), (r, objU u)] [(ao2, [])]) := h2
  clear k1 h2
  have hne : (E != 0) = true := by have := NE.out; simpa using this
  have hq := fun W => eq_un W ⟨0, 0, 0⟩ ⟨0, 0, 0⟩
  rw [decide_eq_true rfl] at hq
  have g3 := k2.out.alloc (objU ⟨0, 0, 0⟩)
  have G3 : Hid (Kp w r (w2.alloc (objU ⟨0, 0, 0⟩)) [(w2.heap.size, objU ⟨0, 0, 0⟩), (r + 1, objO k b n), (r, objU u)] [(ao2, [])]) := g3
  clear k2
  clear g3
  simp only [encU, objU] at *
  go_wp2_with fail
  generalize w2.alloc (Obj.cells #[.int .u64 0, .int .i64 0, .int .u64 0] 24) = v3 at *
  generalize w2.heap.size = q3 at *
  have k3 : Hid (Kp w r v3 [(q3, objU ⟨0, 0, 0⟩), (r + 1, objO k b n), (r, objU u)] [(ao2, [])]) := G3
  clear G3
  refine (fixed_kp k3.out).mono ?_
  rintro e w4 ⟨rfl, h4⟩
  have k4 : Hid (Kp w r w4 [(q3, objU ⟨0, 0, 0⟩), (r + 1, objO k b n), (r, objU u)] [(ao2, [])]) := h4
  clear k3 h4
  have B : Hid (Below r w w4) := k4.out.bel
  go_wp2_with fail
  go_ret
  refine ⟨rfl, ?_⟩
  rw [HR.out]
  exact B.out
set_option maxRecDepth 100000 in
set_option maxHeartbeats 4000000 in
theorem good (u : Un) (k b : Int) (m : Nat) (w : World) (hT : Tab w) (hf : u.Fits) (hb : -9223372036854775808 ≤ b ∧ b ≤ 9223372036854775807) (h1 : Found u k b (m : Int)) :
    Calls Tryd.prog 4 #[encU u, encO k b (m : Int)] w fun e w' => e = .returned (.bool true) ∧ Below w.heap.size w w' := by
  have hE := (found_iff _ _ _ _).2 h1
  have HE : Hid (plE u k b (m : Int) = 0) := hE
  have HA : Hid (plL u k b (m : Int) = runL (firstI u (szN k b)) (twoI (szN k b)) m) := by show plL _ _ _ _ = _; unfold plL; rw [if_pos hE, Int.toNat_natCast]
  have HW : Hid (plU u k b (m : Int) = ⟨u.base, u.bits, firstI u (szN k b) + (m : Int) * twoI (szN k b) - u.base⟩) := by show plU _ _ _ _ = _; unfold plU; rw [if_pos hE]
  have HOK := (place_ok hf h1).1
  have HVF := (place_ok hf h1).2.1
  rw [HW.out] at HOK HVF
  have HZE : Hid (szE k b = 0) := h1.sz
  have HMB : Hid (1 ≤ m ∧ m ≤ 64) := ⟨by have := h1.n0; omega, by have := h1.n0; omega⟩
  have HRM : Hid (firstI u (szN k b) + (m : Int) * twoI (szN k b) ≤ u.base + twoI u.bits) := h1.room
  have HNM : Hid (Nums u (szN k b) (firstI u (szN k b)) (twoI (szN k b)) (twoI u.bits)) := nums hf h1.ok h1.sz
  have HZB : Hid (2 ≤ szN k b ∧ szN k b ≤ 20) := szN_bd h1.sz
  clear hE h1
  have HTW : Hid (twoI (szN k b) = twoI (szN k b)) := rfl
  generalize firstI u (szN k b) = F at *
  obtain ⟨z, hz⟩ : ∃ z, szN k b = z := ⟨_, rfl⟩
  have HZ : Hid (szN k b = z) := hz
  rw [hz] at HA HW HOK HVF HRM HNM HZB
  clear hz HTW
  obtain ⟨S, hS⟩ : ∃ S, twoI z = S := ⟨_, rfl⟩
  have HS : Hid (twoI z = S) := hS
  rw [hS] at HA HW HOK HVF HRM HNM
  clear hS
  have HO : Hid (okU ⟨u.base, u.bits, F + (m : Int) * S - u.base⟩) := HOK
  have HV : Hid (Un.Fits ⟨u.base, u.bits, F + (m : Int) * S - u.base⟩) := HVF
  clear HOK HVF
  have HF : Hid u.Fits := hf
  have HB : Hid (-9223372036854775808 ≤ b ∧ b ≤ 9223372036854775807) := hb
  have HN : Hid (-9223372036854775808 ≤ (m : Int) ∧ (m : Int) ≤ 9223372036854775807) := ⟨by omega, by have := HMB.out; omega⟩
  clear hf hb
  have h1 := ((Kp.start hT).alloc (objU u)).alloc (objO k b (m : Int))
  rw [World.size_alloc] at h1
  clear hT
  simp only [encU, encO, objU, objO] at h1 ⊢
  go_enter Tryd.func4, Tryd.ntmps4
  go_wp2_with fail
  generalize (w.alloc (Obj.cells #[.int .u64 u.base, .int .i64 u.bits, .int .u64 u.used] 24)).alloc (Obj.cells #[.int .i64 k, .int .i64 b, .int .i64 (m : Int)] 26) = W1 at *
  generalize hr0 : w.heap.size = r at *
  have HR : Hid (w.heap.size = r) := hr0
  clear hr0
  have k1 : Hid (Kp w r W1 [(r + 1, objO k b (m : Int)), (r, objU u)] []) := h1
  clear h1
  refine (place_is u ⟨u.base, u.bits, F + (m : Int) * S - u.base⟩ k b (m : Int) 0 (runL F S m) k1.out HF.out HB.out HN.out HA.out HW.out HE.out).mono ?_
  rintro e w2 ⟨ao2, cap2, rfl, h2⟩
  have k2 : Hid (Kp w r w2 [(r + 1, objO k b (m : Int)), (r, objU u)] [(ao2, runL F S m)]) := h2
  clear k1 h2
  have g3 := k2.out.alloc (objU ⟨u.base, u.bits, F + (m : Int) * S - u.base⟩)
  have G3 : Hid (Kp w r (w2.alloc (objU ⟨u.base, u.bits, F + (m : Int) * S - u.base⟩)) [(w2.heap.size, objU ⟨u.base, u.bits, F + (m : Int) * S - u.base⟩), (r + 1, objO k b (m : Int)), (r, objU u)] [(ao2, runL F S m)]) := g3
  clear k2
  clear g3
  obtain ⟨c0, c1, c2⟩ := (G3.out.atO (r + 1) k b (m : Int) (by simp)).cells
  simp only [encU, objU] at *
  go_wp2_with fail
  generalize w2.alloc (Obj.cells #[.int .u64 u.base, .int .i64 u.bits, .int .u64 (F + (m : Int) * S - u.base)] 24) = v3 at *
  generalize w2.heap.size = q3 at *
  have k3 : Hid (Kp w r v3 [(q3, objU ⟨u.base, u.bits, F + (m : Int) * S - u.base⟩), (r + 1, objO k b (m : Int)), (r, objU u)] [(ao2, runL F S m)]) := G3
  clear G3
  refine (size_is k b z 0 k3.out HB.out HZ.out HZE.out).mono ?_
  rintro e w4 ⟨rfl, h4⟩
  clear c0 c1 c2
  have k4 : Hid (Kp w r w4 [(q3, objU ⟨u.base, u.bits, F + (m : Int) * S - u.base⟩), (r + 1, objO k b (m : Int)), (r, objU u)] [(ao2, runL F S m)]) := h4
  clear k3 h4
  obtain ⟨c0, c1, c2⟩ := (k4.out.atU (r) (u) (by simp)).cells
  obtain ⟨c3, c4, c5⟩ := (k4.out.atO (r + 1) k b (m : Int) (by simp)).cells
  have hz := HZB.out
  have hbits := HNM.out.bits
  have hm := HMB.out
  have hlen : (runL F S m).length = m := runL_len _ _ _
  rw [hlen]
  clear hlen
  have hS1 := HNM.out.S1
  have hP1 := HNM.out.P1
  have hB1 := HNM.out.base
  have hU1 := HNM.out.used
  have hB0 := HF.out.base
  have hU0 := HF.out.used
  have hd1 : decide (z < 0) = false := decide_eq_false (by omega)
  have hd2 : decide (20 < z) = false := decide_eq_false (by omega)
  have hd3 : decide (u.bits < 0) = false := decide_eq_false (by omega)
  have hd4 : decide (20 < u.bits) = false := decide_eq_false (by omega)
  have hd5 : ((m : Int) != (m : Int)) = false := by simp
  have hd6 : ((m : Int) == 0) = false := by rw [beq_eq_false_iff_ne]; omega
  go_wp2_with fail
  go_quiet ((go_at_call 18; exact Calls.quiet_of_same (two_any _ _ (by omega) (by omega))))
  rw [HS.out]
  have k5 : Hid (Kp w r (w4.drewN nq) [(q3, objU ⟨u.base, u.bits, F + (m : Int) * S - u.base⟩), (r + 1, objO k b (m : Int)), (r, objU u)] [(ao2, runL F S m)]) := k4.out.drew nq
  clear k4 c0 c1 c2 c3 c4 c5 hd1 hd2 hd3 hd4 hd5 hd6 hz
  generalize w4.drewN nq = w5 at *
  clear w4
  have H1 : Hid (∃ b o, ao2 = some ⟨b, o, none⟩ ∧ ∀ W, Below w5.heap.size w5 W → ∀ j, j < m → W.cell? ⟨b, o + j, none⟩ = some (.int .u64 ((runL F S m).getD j 0))) := told_in (runL_len _ _ _) (by rw [runL_len]; exact HMB.out.1) (k5.out.tld (ao2, runL F S m) (by simp))
  obtain ⟨b1, o1, rfl, hc1⟩ := H1.out
  have G1 : Hid (∀ W, Below w5.heap.size w5 W → ∀ j, j < m → W.cell? ⟨b1, o1 + j, none⟩ = some (.int .u64 (F + (j : Int) * S))) := fun W hW j hj => by
    have := hc1 W hW j hj
    rwa [runL_get _ _ _ _ hj] at this
  have hF0 := HNM.out.F0
  have hF1 := HNM.out.F1
  have hrm := HRM.out
  have HMI : Hid (∀ i : Nat, i ≤ m → 0 ≤ (i : Int) * S ∧ (i : Int) * S ≤ (m : Int) * S) := fun i hi => ⟨Int.mul_nonneg (by omega) (by omega), Int.mul_le_mul_of_nonneg_right (by omega) (by omega)⟩
  have HMD : Hid (∀ i : Nat, (F + (i : Int) * S) % S = 0) := fun i => mod_add_mul HNM.out.Fm i
  clear hc1 H1
  go_wp2_with fail
  go_loop [11, 12] (fun s11 s12 => ∃ i : Nat, i ≤ m ∧ s12 = .int .i64 i ∧ s11 = .int .u64 (if i = 0 then u.base + u.used else F + (i : Int) * S)) (fun _ s12 => m - (intOf s12).toNat)
  case atStart => exact ⟨0, Nat.zero_le _, rfl, by rw [if_pos rfl]⟩
  case round =>
    obtain ⟨i, hi, rfl, rfl⟩ := hrel
    by_cases him : i < m
    · have hx := G1.out w5 (Below.refl _ _) i him
      have hmd := HMD.out i
      have hmi := HMI.out i hi
      have hmi2 := HMI.out (i + 1) him
      have ea : ((i + 1 : Nat) : Int) * S = (i : Int) * S + S := by rw [show ((i + 1 : Nat) : Int) = (i : Int) + 1 by omega, Int.add_mul, Int.one_mul]
      rw [ea] at hmi2
      have himI : (i : Int) < (m : Int) := by omega
      have HIM : Hid (i < m) := him
      have HEA : Hid (F + ((i + 1 : Nat) : Int) * S = F + (i : Int) * S + S) := by show F + _ = _; rw [ea]; omega
      clear ea
      by_cases hi0 : i = 0
      · subst hi0
        rw [if_pos rfl]
        have hx' : w5.cell? ⟨b1, o1, none⟩ = some (.int .u64 F) := by simpa using hx
        have hmd' : F % S = 0 := by simpa using hmd
        have HEA' : Hid (F + ((0 + 1 : Nat) : Int) * S = F + S) := by show F + _ = _; simp
        have hlt : decide (F < u.base + u.used) = false := decide_eq_false (by omega)
        clear hx hmd hmi HEA
        go_wp2
        go_round
        case rel => exact ⟨0 + 1, by have := HIM.out; omega, by go_num, by rw [if_neg (by omega), HEA'.out]⟩
        case measure => simp [intOf]; have := HIM.out; omega
      · rw [if_neg hi0]
        have h0 : (0 : Int) < (i : Int) := by omega
        have hlt : decide (F + (i : Int) * S < F + (i : Int) * S) = false := decide_eq_false (by omega)
        have heq : (F + (i : Int) * S != F + (i : Int) * S) = false := by simp
        clear hi0
        go_wp2
        go_round
        case rel => exact ⟨i + 1, by have := HIM.out; omega, by go_num, by rw [if_neg (by omega), HEA.out]⟩
        case measure => simp [intOf]; have := HIM.out; omega
    · obtain rfl : i = m := by omega
      rw [if_neg (by omega)]
      have hmi := HMI.out i hi
      have hx : ∀ p : Grw w5, p.val.cell? ⟨b1, o1, none⟩ = some (.int .u64 F) := fun p => by simpa using G1.out p.val p.bel 0 (by omega)
      obtain ⟨c0, c1, c2⟩ := (k5.out.atU r u (by simp)).grw
      obtain ⟨d0, d1, d2⟩ := (k5.out.atU q3 ⟨u.base, u.bits, F + (i : Int) * S - u.base⟩ (by simp)).grw
      simp only at d0 d1 d2
      have mixed : Tryd.prog.follows Departure.mixedOrders = true := by kernel_rfl
      have hpos : (0 : Int) < (i : Int) := by omega
      have hposn : 0 < i := by omega
      go_wp2_with fail
      try simp only [List.append_eq, List.cons_append, List.nil_append]
      have hgi : ∀ u : World, Inhabited (Grw u) := grw0
      refine wp_region_grw mixed (by kernel_rfl) ?_
      repeat (go_big_quiet_step ((first | (go_at_call 18; exact grw_same (two_any _ _ (by omega) (by omega))) | (go_at_call 15; exact grw_of (check_ok ⟨u.base, u.bits, F + (i : Int) * S - u.base⟩ _ HV.out HO.out)) | (go_at_call 13; exact grw_of (fixed_any _ (k5.out.grw _).tab)))))
      refine wpQuiet_nil ?_
      intro _ hw'
      obtain ⟨p, hw''⟩ := hw'
      subst hw''
      have B : Hid (Below r w p.val) := (k5.out.grw p).bel
      go_wp2
      go_ret
      refine ⟨rfl, ?_⟩
      rw [HR.out]
      exact B.out
theorem walk (u : Un) (k b n : Int) (w : World) (hT : Tab w) (hf : u.Fits) (_hk : -9223372036854775808 ≤ k ∧ k ≤ 9223372036854775807) (hb : -9223372036854775808 ≤ b ∧ b ≤ 9223372036854775807) (hn : -9223372036854775808 ≤ n ∧ n ≤ 9223372036854775807) :
    Calls Tryd.prog 4 #[encU u, encO k b n] w fun e w' => e = .returned (.bool true) ∧ Below w.heap.size w w' := by
  by_cases h1 : plE u k b n = 0
  · have h2 := (found_iff _ _ _ _).1 h1
    obtain ⟨m, rfl⟩ : ∃ m : Nat, n = (m : Int) := ⟨n.toNat, by have := h2.n0; omega⟩
    exact good u k b m w hT hf hb h2
  · exact bad u k b n w hT hf hb hn h1
open Go.ChangeShapes Go.WideShapes Go.ChangeAt Go.RowKit Go.Joins

/-! ### From the walk to the statement -/
theorem contract (H : Type) (enc : TypeId × Value → H) (W : World) (base : Nat) (args : Array Value) (ds gs : List (DataW H)) (before : List MemPlace)
    (hval : ∀ (j : Nat) t v, Tryd.f4.params[j]? = some t → args[j]? = some v → Value.okWide Tryd.prog W .any base t v)
    (hW : DataW.Whole enc Tryd.prog Tryd.f4.params.toList Rows.untypedApartSpec.vars false W args.toList ds gs before) (hL : laidMetH Tryd.prog Rows.untypedApartRow.laid W) :
    Calls Tryd.prog 4 args W fun e W' => ∃ v, e = .returned v ∧ Rows.untypedApartSpec.post enc Tryd.prog Tryd.f4 false true false false W args v W' := by
  have hW' := hW
  obtain ⟨p, q, hA0, hV, rfl, hfz, hnd⟩ := hW
  have hA : DataW.TrodAll enc Tryd.prog W 0 (fun _ => true) true Tryd.f4.params.toList args.toList ds p := hA0
  rw [Tryd.params4] at hA hval
  obtain ⟨v0, vs0, d0, ds0, p0, q0, hargs, rfl, rfl, h0, r0⟩ := trodAll_cons hA
  obtain ⟨v1, vs1, d1, ds1, p1, q1, rfl, rfl, rfl, h1, r1⟩ := trodAll_cons r0
  obtain ⟨rfl, rfl, rfl⟩ := trodAll_nil r1
  obtain rfl : args = #[v0, v1] := by cases args; simp_all
  obtain ⟨rfl, rfl⟩ := trodVars_none hV
  have k0 := h0
  have lt0 : ∀ x ∈ p0, x.block < W.heap.size := by obtain ⟨m, hm⟩ := k0; exact DataW.trod_lt m _ _ _ hm
  have k1 := h1
  have lt1 : ∀ x ∈ p1, x.block < W.heap.size := by obtain ⟨m, hm⟩ := k1; exact DataW.trod_lt m _ _ _ hm
  obtain ⟨a0, rfl, w0⟩ := open_un (hval 0 24 v0 rfl rfl) h0
  obtain ⟨a1k, a1b, a1n, rfl, w1k, w1b, w1n⟩ := open_what (hval 1 26 v1 rfl rfl) h1
  clear hA0
  refine (walk a0 a1k a1b a1n W (table hL) w0 w1k w1b w1n).mono fun e W' ⟨he, bel⟩ => ?_
  subst he
  exact ⟨_, rfl, _, _, _, [], _, [], hW', trodAll_mk1 (shut_bool Tryd.underlying4 _), (trodAll_cons_mk (Below.trod laidOut (by kernel_rfl) (of_decide_eq_true (by kernel_rfl)) k0 bel lt0) (trodAll_cons_mk (Below.trod laidOut (by kernel_rfl) (of_decide_eq_true (by kernel_rfl)) k1 bel lt1) trodAll_mk0)), rfl, bel.frame _, fun h => by cases h⟩

theorem laid_met (os : Os) : laidMet Tryd.prog Rows.untypedApartRow.laid ((World.doorLaid Tryd.prog 40 os).forCall (fun _ _ => 0) ⟨#[], #[.agg #[.int .u64 0, .int .i64 0, .int .u64 0], .agg #[.int .i64 0, .int .i64 0, .int .i64 0]], []⟩).memory :=
  laidMet_of_run' 8 (by kernel_rfl) (by kernel_rfl)
theorem reads (os : Os) {H : Type} (enc : TypeId × Value → H) : ∃ places, DataW.whole enc Tryd.prog ((World.doorLaid Tryd.prog 40 os).forCall (fun _ _ => 0) ⟨#[], #[.agg #[.int .u64 0, .int .i64 0, .int .u64 0], .agg #[.int .i64 0, .int .i64 0, .int .i64 0]], []⟩).memory Tryd.f4.params.toList Rows.untypedApartSpec.vars false (#[.agg #[.int .u64 0, .int .i64 0, .int .u64 0], .agg #[.int .i64 0, .int .i64 0, .int .i64 0]] : Array Value).toList 8 = some ([.agg [.lit (.int .u64 0), .lit (.int .i64 0), .lit (.int .u64 0)], .agg [.lit (.int .i64 0), .lit (.int .i64 0), .lit (.int .i64 0)]], [], places) :=
  ⟨[], by kernel_rfl⟩
set_option maxRecDepth 100000 in
theorem lifted (os : Os) (started : os.Started) (H : Type) (enc : TypeId × Value → H) (F : Stop.Interp) :
    ReturnsInHanded {} Tryd.checked os 4 .any ((OpenSpec.ofChange Rows.untypedApartSpec).preRow enc Tryd.prog Tryd.f4 Rows.untypedApartRow.domain false Rows.untypedApartRow.laid) (((OpenSpec.ofChange Rows.untypedApartSpec).at F).post enc Tryd.prog Tryd.f4 false true false false) := by
  obtain ⟨places, hx⟩ := reads os enc
  refine returnsInHanded_of_row (C := Tryd.checked) (s := OpenSpec.ofChange Rows.untypedApartSpec) own started (by kernel_rfl) Tryd.func4
    (witness_row_at (enc := enc) (C := Tryd.checked) false (World.doorLaid Tryd.prog 40 os) #[.agg #[.int .u64 0, .int .i64 0, .int .u64 0], .agg #[.int .i64 0, .int .i64 0, .int .i64 0]] rfl (by kernel_rfl) (by kernel_rfl) (by kernel_rfl)
      (OpenSpec.preRow_of_cond 8 hx (by kernel_rfl) (fun k hk => by cases hk) (by kernel_rfl) (laid_met os))) ?_
  intro W base args ds gs before hval hW _ _ _ hL _ _
  exact contract H enc W base args ds gs before hval hW hL
theorem said : Rows.UntypedApartSaid :=
  OpenClaim.holds_of_cond 4 Tryd.f4 rfl rfl rfl rfl rfl rfl rfl ⟨rfl, rfl, rfl, rfl, rfl⟩ rfl rfl rfl rfl rfl (by kernel_rfl) Tryd.func4 (by kernel_rfl)
    (of_decide_eq_true (by kernel_rfl)) (by unfold Func.isWrapper; first | (rw [if_pos (by decide +kernel)]; kernel_rfl) | (rw [if_neg (by decide +kernel)]; exact ⟨rfl, rfl⟩))
    (fun os started H enc _ F => by rw [OpenClaim.pre_eq_preRow]; exact lifted os started H enc F)
theorem plain (f : FuncId) (fn : Func) (hf : Tryd.pinned.checked.prog.funcNamed "buttress/buttresslaw08.UntypedApart" = some f) (hfn : Tryd.pinned.checked.prog.funcs[f]? = some fn) :
    false = Tryd.pinned.checked.prog.looks [] ∧ ∀ (j : Nat) t, fn.params[j]? = some t → Tryd.pinned.checked.prog.wantsStandIn t = false := by
  obtain rfl : f = 4 := Option.some.inj ((show Tryd.prog.funcNamed "buttress/buttresslaw08.UntypedApart" = some 4 by kernel_rfl).symm.trans hf) |>.symm
  obtain rfl : fn = Tryd.f4 := (Option.some.inj (Tryd.func4.symm.trans hfn)).symm
  refine ⟨by kernel_rfl, fun j t ht => ?_⟩
  rw [Tryd.params4] at ht
  have hm : t ∈ [24, 26] := by simpa using Array.mem_of_getElem? ht
  have hall : ([24, 26].all fun u => !Tryd.prog.wantsStandIn u) = true := by kernel_rfl
  exact (show Tryd.prog.wantsStandIn t = false by simpa using List.all_eq_true.1 hall t hm)
end Go.Proofs.YtkelblkegpmlpaaDoor.untypedApart
namespace Go.Proofs.YtkelblkegpmlpaaDoor
/-- THE CARD. -/
theorem untypedApart_card : Rows.UntypedApartCardSaid :=
  Claim7.holds_tied_plain_at .later [] _ _ _ _ untypedApart.said (fun _ h => by cases h) (by kernel_rfl) (fun _ h => by cases h) untypedApart_row_tie rfl ⟨rfl, rfl⟩ (by kernel_rfl) rfl untypedApart.plain (by kernel_rfl)
#print axioms untypedApart_card
end Go.Proofs.YtkelblkegpmlpaaDoor

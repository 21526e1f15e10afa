/-
  The statement UntypedPlaces: for every memory and whatever is asked for the law returns true and what was handed in reads as it did; the table of sizes lies as the program's text lays it, and the card ties that to the text.
-/
import Derived.Test.YtkelblkegpmlpaaDoorURPlace
namespace Go.Proofs.YtkelblkegpmlpaaDoor.untypedPlaces
open Go.RowKit Go.Deep
open Classical
theorem plL_len (u : Un) (k b n : Int) : (plL u k b n).length ≤ 65536 := by
  unfold plL
  split
  · rename_i h
    have := ((found_iff _ _ _ _).1 h).n0
    rw [runL_len]
    omega
  · simp
theorem rplace_kp (u : Un) (k b n : Int) {w0 : World} {r : Nat} {w : World} {L : List (Nat × Obj)} {M : List (Option Addr × List Int)} (h : Kp w0 r w L M) (hf : u.Fits) (hb : -9223372036854775808 ≤ b ∧ b ≤ 9223372036854775807) :
    Calls Tryd.prog 10 #[encU u, .int .i64 k, .int .i64 b, .int .i64 n] w fun e' w' => ∃ ao cap, e' = .returned (.tuple #[.slice ao (plL u k b n).length cap, encU (plU u k b n), .int .i64 (plE u k b n)]) ∧ Kp w0 r w' L ((ao, plL u k b n) :: M) :=
  (rplace_any u k b n w hf hb).mono fun _ _ ⟨ao, cap, he, t, b⟩ => ⟨ao, cap, he, (h.below b).told t⟩
theorem rplace_is (u v : Un) (k b n e : Int) (A : List Int) {w0 : World} {r : Nat} {w : World} {L : List (Nat × Obj)} {M : List (Option Addr × List Int)} (h : Kp w0 r w L M) (hf : u.Fits) (hb : -9223372036854775808 ≤ b ∧ b ≤ 9223372036854775807) (h1 : plL u k b n = A) (h2 : plU u k b n = v) (h3 : plE u k b n = e) :
    Calls Tryd.prog 10 #[encU u, .int .i64 k, .int .i64 b, .int .i64 n] w fun e' w' => ∃ ao cap, e' = .returned (.tuple #[.slice ao A.length cap, encU v, .int .i64 e]) ∧ Kp w0 r w' L ((ao, A) :: M) := by
  have := rplace_kp u k b n h hf hb
  rwa [h1, h2, h3] at this
theorem rsize_kp (k b : Int) {w0 : World} {r : Nat} {w : World} {L : List (Nat × Obj)} {M : List (Option Addr × List Int)} (h : Kp w0 r w L M) (hb : -9223372036854775808 ≤ b ∧ b ≤ 9223372036854775807) :
    Calls Tryd.prog 12 #[.int .i64 k, .int .i64 b] w fun e w' => e = .returned (.tuple #[.int .i64 (szN k b), .int .i64 (szE k b)]) ∧ Kp w0 r w' L M :=
  (rsize_any k b w hb).mono fun _ _ ⟨he, hw⟩ => ⟨he, hw ▸ h⟩
set_option maxRecDepth 100000 in
set_option maxHeartbeats 4000000 in
theorem walk0 (u : Un) (k b n : Int) (w : World) (hT : Tab w) (hf : u.Fits) (hb : -9223372036854775808 ≤ b ∧ b ≤ 9223372036854775807) (hn : -9223372036854775808 ≤ n ∧ n ≤ 9223372036854775807)  :
    Calls Tryd.prog 3 #[encU u, encO k b n] w fun e w' => e = .returned (.bool true) ∧ Below w.heap.size w w' := by
  obtain ⟨A, hA⟩ : ∃ A, plL u k b n = A := ⟨_, rfl⟩
  obtain ⟨v, hv⟩ : ∃ v, plU u k b n = v := ⟨_, rfl⟩
  obtain ⟨E, hE⟩ : ∃ E, plE u k b n = E := ⟨_, rfl⟩
  have HL : Hid (A.length ≤ 65536) := by show A.length ≤ 65536; rw [← hA]; exact plL_len u k b n
  have HA : Hid (plL u k b n = A) := hA
  have HW : Hid (plU u k b n = v) := hv
  have HE : Hid (plE u k b n = E) := hE
  clear hA hv hE
  have HF : Hid u.Fits := hf
  have HB : Hid (-9223372036854775808 ≤ b ∧ b ≤ 9223372036854775807) := hb
  have HN : Hid (-9223372036854775808 ≤ n ∧ n ≤ 9223372036854775807) := hn
  clear hf hb hn
  have h1 := ((Kp.start hT).alloc (objU u)).alloc (objO k b n)
  rw [World.size_alloc] at h1
  clear hT
  simp only [encU, encO, objU, objO] at h1 ⊢
  go_enter Tryd.func3, Tryd.ntmps3
  go_wp2_with fail
  generalize (w.alloc (Obj.cells #[.int .u64 u.base, .int .i64 u.bits, .int .u64 u.used] 24)).alloc (Obj.cells #[.int .i64 k, .int .i64 b, .int .i64 n] 26) = W1 at *
  generalize hr0 : w.heap.size = r at *
  have HR : Hid (w.heap.size = r) := hr0
  clear hr0
  have k1 : Hid (Kp w r W1 [(r + 1, objO k b n), (r, objU u)] []) := h1
  clear h1
  refine (place_is u v k b n E A k1.out HF.out HB.out HN.out HA.out HW.out HE.out).mono ?_
  rintro e w2 ⟨ao2, cap2, rfl, h2⟩
  have k2 : Hid (Kp w r w2 [(r + 1, objO k b n), (r, objU u)] [(ao2, A)]) := h2
  clear k1 h2
  have g3 := k2.out.alloc (objU v)
  have G3 : Hid (Kp w r (w2.alloc (objU v)) [(w2.heap.size, objU v), (r + 1, objO k b n), (r, objU u)] [(ao2, A)]) := g3
  clear k2
  clear g3
  obtain ⟨c0, c1, c2⟩ := (G3.out.atU (r) (u) (by simp)).cells
  obtain ⟨c3, c4, c5⟩ := (G3.out.atO (r + 1) k b n (by simp)).cells
  simp only [encU, objU] at *
  go_wp2_with fail
  generalize w2.alloc (Obj.cells #[.int .u64 v.base, .int .i64 v.bits, .int .u64 v.used] 24) = v3 at *
  generalize w2.heap.size = q3 at *
  have k3 : Hid (Kp w r v3 [(q3, objU v), (r + 1, objO k b n), (r, objU u)] [(ao2, A)]) := G3
  clear G3
  refine (rplace_is u v k b n E A k3.out HF.out HB.out HA.out HW.out HE.out).mono ?_
  rintro e w4 ⟨ao4, cap4, rfl, h4⟩
  clear c0 c1 c2 c3 c4 c5
  have k4 : Hid (Kp w r w4 [(q3, objU v), (r + 1, objO k b n), (r, objU u)] [(ao4, A), (ao2, A)]) := h4
  clear k3 h4
  have g5 := k4.out.alloc (objU v)
  have G5 : Hid (Kp w r (w4.alloc (objU v)) [(w4.heap.size, objU v), (q3, objU v), (r + 1, objO k b n), (r, objU u)] [(ao4, A), (ao2, A)]) := g5
  clear k4
  clear g5
  obtain ⟨c0, c1, c2⟩ := (G5.out.atU (r) (u) (by simp)).cells
  obtain ⟨c3, c4, c5⟩ := (G5.out.atO (r + 1) k b n (by simp)).cells
  simp only [encU, objU] at *
  go_wp2_with fail
  generalize w4.alloc (Obj.cells #[.int .u64 v.base, .int .i64 v.bits, .int .u64 v.used] 24) = v5 at *
  generalize w4.heap.size = q5 at *
  have k5 : Hid (Kp w r v5 [(q5, objU v), (q3, objU v), (r + 1, objO k b n), (r, objU u)] [(ao4, A), (ao2, A)]) := G5
  clear G5
  refine (size_kp k b k5.out HB.out).mono ?_
  rintro e w6 ⟨rfl, h6⟩
  clear c0 c1 c2 c3 c4 c5
  have k6 : Hid (Kp w r w6 [(q5, objU v), (q3, objU v), (r + 1, objO k b n), (r, objU u)] [(ao4, A), (ao2, A)]) := h6
  clear k5 h6
  obtain ⟨c0, c1, c2⟩ := (k6.out.atU (r) (u) (by simp)).cells
  obtain ⟨c3, c4, c5⟩ := (k6.out.atO (r + 1) k b n (by simp)).cells
  go_wp2_with fail
  refine (rsize_kp k b k6.out HB.out).mono ?_
  rintro e w7 ⟨rfl, h7⟩
  clear c0 c1 c2 c3 c4 c5
  have k7 : Hid (Kp w r w7 [(q5, objU v), (q3, objU v), (r + 1, objO k b n), (r, objU u)] [(ao4, A), (ao2, A)]) := h7
  clear k6 h7
  obtain ⟨c0, c1, c2⟩ := (k7.out.atU (r) (u) (by simp)).cells
  obtain ⟨c3, c4, c5⟩ := (k7.out.atO (r + 1) k b n (by simp)).cells
  generalize szN k b = sn at *
  generalize szE k b = se at *
  have g8 := k7.out.alloc (objU ⟨u.base, u.bits, 0⟩)
  have G8 : Hid (Kp w r (w7.alloc (objU ⟨u.base, u.bits, 0⟩)) [(w7.heap.size, objU ⟨u.base, u.bits, 0⟩), (q5, objU v), (q3, objU v), (r + 1, objO k b n), (r, objU u)] [(ao4, A), (ao2, A)]) := g8
  clear k7 g8
  simp only [objU] at G8
  go_wp2_with fail
  generalize w7.alloc (Obj.cells #[.int .u64 u.base, .int .i64 u.bits, .int .u64 0] 24) = v8 at *
  clear c0 c1 c2 c3 c4 c5
  generalize w7.heap.size = q8 at *
  have k8 : Hid (Kp w r v8 [(q8, objU ⟨u.base, u.bits, 0⟩), (q5, objU v), (q3, objU v), (r + 1, objO k b n), (r, objU u)] [(ao4, A), (ao2, A)]) := G8
  clear G8
  obtain ⟨c0, c1, c2⟩ := (k8.out.atU r u (by simp)).grw
  obtain ⟨c3, c4, c5⟩ := (k8.out.atU q3 v (by simp)).grw
  obtain ⟨c6, c7, c8⟩ := (k8.out.atU q5 v (by simp)).grw
  obtain ⟨d0, d1, d2⟩ := (k8.out.atU q8 ⟨u.base, u.bits, 0⟩ (by simp)).grw
  simp only at d0 d1 d2
  have hq := fun W => eq_un W v v
  rw [decide_eq_true rfl] at hq
  have hq2 := fun W => eq_un W ⟨u.base, u.bits, 0⟩ ⟨u.base, u.bits, 0⟩
  rw [decide_eq_true rfl] at hq2
  simp only at hq2
  have mixed : Tryd.prog.follows Departure.mixedOrders = true := by kernel_rfl
  try simp only [List.append_eq, List.cons_append, List.nil_append]
  have hgi : ∀ u : World, Inhabited (Grw u) := grw0
  refine wp_region_grw mixed (by kernel_rfl) ?_
  repeat (go_big_quiet_step ((first | (go_at_call 13; exact grw_of (fixed_any _ (k8.out.grw _).tab)) | (go_at_call 14; exact grw_drew (same_yes _ _ A _ _ _ ((k8.out.grw _).tld (ao2, A) (by simp)) ((k8.out.grw _).tld (ao4, A) (by simp)) HL.out)) | (go_at_call 15; exact grw_of (check_any u _ HF.out)) | (go_at_call 16; exact grw_of (rcheck_any u _ HF.out)) | (go_at_call 17; exact grw_of (reset_agg u _)))))
  refine wpQuiet_nil ?_
  intro _ hw'
  obtain ⟨p, hw''⟩ := hw'
  subst hw''
  have B : Hid (Below r w p.val) := (k8.out.grw p).bel
  go_wp2
  go_ret
  refine ⟨rfl, ?_⟩
  rw [HR.out]
  exact B.out
theorem walk (u : Un) (k b n : Int) (w : World) (hT : Tab w) (hf : u.Fits) (_hk : -9223372036854775808 ≤ k ∧ k ≤ 9223372036854775807) (hb : -9223372036854775808 ≤ b ∧ b ≤ 9223372036854775807) (hn : -9223372036854775808 ≤ n ∧ n ≤ 9223372036854775807) :
    Calls Tryd.prog 3 #[encU u, encO k b n] w fun e w' => e = .returned (.bool true) ∧ Below w.heap.size w w' :=
  walk0 u k b n w hT hf hb hn
open Go.ChangeShapes Go.WideShapes Go.ChangeAt Go.RowKit Go.Joins

/-! ### From the walk to the statement -/
theorem contract (H : Type) (enc : TypeId × Value → H) (W : World) (base : Nat) (args : Array Value) (ds gs : List (DataW H)) (before : List MemPlace)
    (hval : ∀ (j : Nat) t v, Tryd.f3.params[j]? = some t → args[j]? = some v → Value.okWide Tryd.prog W .any base t v)
    (hW : DataW.Whole enc Tryd.prog Tryd.f3.params.toList Rows.untypedPlacesSpec.vars false W args.toList ds gs before) (hL : laidMetH Tryd.prog Rows.untypedPlacesRow.laid W) :
    Calls Tryd.prog 3 args W fun e W' => ∃ v, e = .returned v ∧ Rows.untypedPlacesSpec.post enc Tryd.prog Tryd.f3 false true false false W args v W' := by
  have hW' := hW
  obtain ⟨p, q, hA0, hV, rfl, hfz, hnd⟩ := hW
  have hA : DataW.TrodAll enc Tryd.prog W 0 (fun _ => true) true Tryd.f3.params.toList args.toList ds p := hA0
  rw [Tryd.params3] at hA hval
  obtain ⟨v0, vs0, d0, ds0, p0, q0, hargs, rfl, rfl, h0, r0⟩ := trodAll_cons hA
  obtain ⟨v1, vs1, d1, ds1, p1, q1, rfl, rfl, rfl, h1, r1⟩ := trodAll_cons r0
  obtain ⟨rfl, rfl, rfl⟩ := trodAll_nil r1
  obtain rfl : args = #[v0, v1] := by cases args; simp_all
  obtain ⟨rfl, rfl⟩ := trodVars_none hV
  have k0 := h0
  have lt0 : ∀ x ∈ p0, x.block < W.heap.size := by obtain ⟨m, hm⟩ := k0; exact DataW.trod_lt m _ _ _ hm
  have k1 := h1
  have lt1 : ∀ x ∈ p1, x.block < W.heap.size := by obtain ⟨m, hm⟩ := k1; exact DataW.trod_lt m _ _ _ hm
  obtain ⟨a0, rfl, w0⟩ := open_un (hval 0 24 v0 rfl rfl) h0
  obtain ⟨a1k, a1b, a1n, rfl, w1k, w1b, w1n⟩ := open_what (hval 1 26 v1 rfl rfl) h1
  clear hA0
  refine (walk a0 a1k a1b a1n W (table hL) w0 w1k w1b w1n).mono fun e W' ⟨he, bel⟩ => ?_
  subst he
  exact ⟨_, rfl, _, _, _, [], _, [], hW', trodAll_mk1 (shut_bool Tryd.underlying4 _), (trodAll_cons_mk (Below.trod laidOut (by kernel_rfl) (of_decide_eq_true (by kernel_rfl)) k0 bel lt0) (trodAll_cons_mk (Below.trod laidOut (by kernel_rfl) (of_decide_eq_true (by kernel_rfl)) k1 bel lt1) trodAll_mk0)), rfl, bel.frame _, fun h => by cases h⟩

theorem laid_met (os : Os) : laidMet Tryd.prog Rows.untypedPlacesRow.laid ((World.doorLaid Tryd.prog 40 os).forCall (fun _ _ => 0) ⟨#[], #[.agg #[.int .u64 0, .int .i64 0, .int .u64 0], .agg #[.int .i64 0, .int .i64 0, .int .i64 0]], []⟩).memory :=
  laidMet_of_run' 8 (by kernel_rfl) (by kernel_rfl)
theorem reads (os : Os) {H : Type} (enc : TypeId × Value → H) : ∃ places, DataW.whole enc Tryd.prog ((World.doorLaid Tryd.prog 40 os).forCall (fun _ _ => 0) ⟨#[], #[.agg #[.int .u64 0, .int .i64 0, .int .u64 0], .agg #[.int .i64 0, .int .i64 0, .int .i64 0]], []⟩).memory Tryd.f3.params.toList Rows.untypedPlacesSpec.vars false (#[.agg #[.int .u64 0, .int .i64 0, .int .u64 0], .agg #[.int .i64 0, .int .i64 0, .int .i64 0]] : Array Value).toList 8 = some ([.agg [.lit (.int .u64 0), .lit (.int .i64 0), .lit (.int .u64 0)], .agg [.lit (.int .i64 0), .lit (.int .i64 0), .lit (.int .i64 0)]], [], places) :=
  ⟨[], by kernel_rfl⟩
set_option maxRecDepth 100000 in
theorem lifted (os : Os) (started : os.Started) (H : Type) (enc : TypeId × Value → H) (F : Stop.Interp) :
    ReturnsInHanded {} Tryd.checked os 3 .any ((OpenSpec.ofChange Rows.untypedPlacesSpec).preRow enc Tryd.prog Tryd.f3 Rows.untypedPlacesRow.domain false Rows.untypedPlacesRow.laid) (((OpenSpec.ofChange Rows.untypedPlacesSpec).at F).post enc Tryd.prog Tryd.f3 false true false false) := by
  obtain ⟨places, hx⟩ := reads os enc
  refine returnsInHanded_of_row (C := Tryd.checked) (s := OpenSpec.ofChange Rows.untypedPlacesSpec) own started (by kernel_rfl) Tryd.func3
    (witness_row_at (enc := enc) (C := Tryd.checked) false (World.doorLaid Tryd.prog 40 os) #[.agg #[.int .u64 0, .int .i64 0, .int .u64 0], .agg #[.int .i64 0, .int .i64 0, .int .i64 0]] rfl (by kernel_rfl) (by kernel_rfl) (by kernel_rfl)
      (OpenSpec.preRow_of_cond 8 hx (by kernel_rfl) (fun k hk => by cases hk) (by kernel_rfl) (laid_met os))) ?_
  intro W base args ds gs before hval hW _ _ _ hL _ _
  exact contract H enc W base args ds gs before hval hW hL
theorem said : Rows.UntypedPlacesSaid :=
  OpenClaim.holds_of_cond 3 Tryd.f3 rfl rfl rfl rfl rfl rfl rfl ⟨rfl, rfl, rfl, rfl, rfl⟩ rfl rfl rfl rfl rfl (by kernel_rfl) Tryd.func3 (by kernel_rfl)
    (of_decide_eq_true (by kernel_rfl)) (by unfold Func.isWrapper; first | (rw [if_pos (by decide +kernel)]; kernel_rfl) | (rw [if_neg (by decide +kernel)]; exact ⟨rfl, rfl⟩))
    (fun os started H enc _ F => by rw [OpenClaim.pre_eq_preRow]; exact lifted os started H enc F)
theorem plain (f : FuncId) (fn : Func) (hf : Tryd.pinned.checked.prog.funcNamed "buttress/buttresslaw08.UntypedPlaces" = some f) (hfn : Tryd.pinned.checked.prog.funcs[f]? = some fn) :
    false = Tryd.pinned.checked.prog.looks [] ∧ ∀ (j : Nat) t, fn.params[j]? = some t → Tryd.pinned.checked.prog.wantsStandIn t = false := by
  obtain rfl : f = 3 := Option.some.inj ((show Tryd.prog.funcNamed "buttress/buttresslaw08.UntypedPlaces" = some 3 by kernel_rfl).symm.trans hf) |>.symm
  obtain rfl : fn = Tryd.f3 := (Option.some.inj (Tryd.func3.symm.trans hfn)).symm
  refine ⟨by kernel_rfl, fun j t ht => ?_⟩
  rw [Tryd.params3] at ht
  have hm : t ∈ [24, 26] := by simpa using Array.mem_of_getElem? ht
  have hall : ([24, 26].all fun u => !Tryd.prog.wantsStandIn u) = true := by kernel_rfl
  exact (show Tryd.prog.wantsStandIn t = false by simpa using List.all_eq_true.1 hall t hm)
end Go.Proofs.YtkelblkegpmlpaaDoor.untypedPlaces
namespace Go.Proofs.YtkelblkegpmlpaaDoor
/-- THE CARD. -/
theorem untypedPlaces_card : Rows.UntypedPlacesCardSaid :=
  Claim7.holds_tied_plain_at .later [] _ _ _ _ untypedPlaces.said (fun _ h => by cases h) (by kernel_rfl) (fun _ h => by cases h) untypedPlaces_row_tie rfl ⟨rfl, rfl⟩ (by kernel_rfl) rfl untypedPlaces.plain (by kernel_rfl)
#print axioms untypedPlaces_card
end Go.Proofs.YtkelblkegpmlpaaDoor

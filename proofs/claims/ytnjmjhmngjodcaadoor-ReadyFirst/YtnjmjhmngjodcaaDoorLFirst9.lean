/-
  ReadyFirst: the next one has the greatest priority of all that are in lines; taken out one by one all come, greater priorities first, of one priority in the order in which they were put in; the variable words.halves starts as the program's text lays it (the card ties it).
-/
import Derived.Test.YtnjmjhmngjodcaaDoorQNums
import Derived.Test.YtnjmjhmngjodcaaDoorQOps
namespace Go.Proofs.YtnjmjhmngjodcaaDoor.readyFirst
open Go.RowKit Go.Deep Go.Shelf
theorem wd_zero (k : Int) : ∀ m, wd (occ []) m k = 0
  | 0 => rfl
  | m + 1 => by
    show setI (occ [] m) (wd (occ []) m k) m k = 0
    rw [wd_zero k m, show occ [] m = false from rfl]
    unfold setI putI
    simp
theorem wd_none : wdAll (occ []) = .agg #[.int .u64 0, .int .u64 0, .int .u64 0, .int .u64 0] := by
  unfold wdAll
  rw [wd_zero, wd_zero, wd_zero, wd_zero]
theorem put_ops {Z : List Oc} {x : Oc} (h : putS (Z.map inO) x.p x.n = Z.map inO ++ [⟨x.p.toNat, x.n⟩]) : putS (Z.map inO) x.p x.n = (Z ++ [x]).map inO := by
  rw [h, List.map_append]
  rfl
theorem in_at {Z : List Oc} (hZ : ∀ z ∈ Z, 0 ≤ z.p ∧ z.p < 256) {d : Nat} {x : In} (h : d < (Z.map inO).length) (e : (Z.map inO)[d] = x) : ∃ z, Z[d]? = some z ∧ z.p = (x.p : Int) ∧ z.n = x.n := by
  rw [List.length_map] at h
  refine ⟨Z[d], List.getElem?_eq_getElem h, ?_, ?_⟩
  · have := hZ Z[d] (List.getElem_mem h)
    rw [← e, List.getElem_map]
    simp only [inO]
    omega
  · rw [← e, List.getElem_map]
    rfl
theorem ops_at {Z : List Oc} {k : Nat} (h : k < Z.length) : ∃ z, Z[k]? = some z ∧ ∀ hk : k < (Z.map inO).length, (Z.map inO)[k].n = z.n := by
  refine ⟨Z[k], List.getElem?_eq_getElem h, fun hk => ?_⟩
  rw [List.getElem_map]
  rfl
set_option maxHeartbeats 16000000 in
set_option maxRecDepth 100000 in
theorem walk (ao : Option Addr) (X : List Oc) (cap : Nat) (w : World) (ht : Tab w) (hX : Ops w ao X) (_hxl : X.length ≤ 9223372036854775807) :
    Calls Tryd.prog 4 #[.slice ao X.length cap] w fun e w' => e = .returned (.bool true) ∧ Below w.heap.size w w' := by
  have HT := hid (Sep.tabs ht)
  clear ht
  have HX := hid hX
  clear hX
  go_enter Tryd.func4, Tryd.ntmps4
  go_wp2_with fail
  refine Calls.mono (new_sep (sep_nil w)) ?_
  rintro e w1 ⟨q, F, rfl, s1⟩
  have S1 := hid s1
  clear s1
  generalize hr : w.heap.size = r at *
  have HR := hid hr
  clear hr
  go_wp2_with fail
  have S2 := hid S1.out.madeO.swap
  clear S1
  generalize w1.heap.size = g1 at *
  go_loopw [4, 5] (fun s4 s5 wr => ∃ (k : Nat) (u : Value) (F : Nat → Prop) (Z : List Oc), k ≤ 60 ∧ s5 = .int .i64 k ∧ s4 = u ∧ Z.length ≤ k ∧ Hid (∀ z ∈ Z, 0 ≤ z.p ∧ z.p < 256) ∧ Sep w r wr [quT q F (Z.map inO), lstO u Z]) (fun _ s5 _ => 60 - (intOf s5).toNat)
  case atStart => exact ⟨0, _, F, [], by omega, rfl, rfl, by simp, fun y hy => by simp at hy, S2.out⟩
  case round =>
    clear S2
    obtain ⟨k, u, G, Z, hk, rfl, rfl, hS, HZ, s1⟩ := hrel
    have S1 := hid s1
    clear s1
    by_cases hgo : k < X.length ∧ k < 60
    · obtain ⟨hlt, h40⟩ := hgo
      obtain ⟨fx, b, a, rfl, c0, c1, c2⟩ := Ops.at (SeeK.below HX.out S1.out.low (by rw [HR.out]; exact Nat.le_refl _)) (List.getElem?_eq_getElem hlt)
      have HC := hid (fun u (hb : Below r w u) => Ops.at (SeeK.below HX.out hb (by rw [HR.out]; exact Nat.le_refl _)) (List.getElem?_eq_getElem hlt))
      generalize hx : X[k] = x at *
      have HF := hid fx
      have HSl := hid hS
      have HSm : Hid ((Z.map inO).length ≤ 60) := by
        show (Z.map inO).length ≤ 60
        rw [List.length_map]
        omega
      clear fx hx hS
      generalize hn : X.length = n at *
      have hltz : (k : Int) < (n : Int) := by omega
      have h40z : (k : Int) < 60 := by omega
      rcases putE_cases (Z.map inO) x.p x.n with ⟨e1, e2, h0, h1, _⟩ | ⟨e1, e2, _⟩ | ⟨e1, e2, _⟩
      · have HP := hid (And.intro e1 (And.intro (put_ops e2) (And.intro h0 h1)))
        clear e1 e2 h0 h1
        go_wp2_with fail
        go_region_with (go_at_call 10; refine Calls.mono (put_is S1.out.drew HF.out.n (by have := HSm.out; omega) HP.out.1 HP.out.2.1) ?_; rintro e w2 ⟨rfl, F2, s2⟩; obtain ⟨_, b2, a2, ee, d0, d1, d2⟩ := HC.out w2 s2.low; cases ee; obtain ⟨v3, w3, r3, s3⟩ := s2.swap.moreO x (by have := HSl.out; omega); have S3 := hid s3.swap; have R3 := hid r3; clear s2 s3 r3)
        all_goals
          go_wp2_with (at_builtin; (with_reducible refine wpList_append_run rfl (.tmp 43) (.tmp 48) 22 22 rfl u4 (.slice (some ⟨w2.heap.size, 0, none⟩) 1 1) v3 w3 rfl rfl R3.out ?_))
          go_round
          case rel => exact ⟨k + 1, _, F2, Z ++ [x], by omega, by go_num, rfl, by have := HSl.out; rw [List.length_append, List.length_singleton]; omega, fun z hz => by
            rcases List.mem_append.1 hz with hz | hz
            · exact HZ.out z hz
            · rw [List.mem_singleton.1 hz]
              exact HP.out.2.2, S3.out⟩
          case measure => simp [intOf]; omega
      · have HP := hid (And.intro e1 e2)
        clear e1 e2
        go_wp2_with fail
        go_region_with (go_at_call 10; refine Calls.mono (put_is S1.out.drew HF.out.n (by have := HSm.out; omega) HP.out.1 HP.out.2) ?_; rintro e w2 ⟨rfl, F2, s2⟩; have S3 := hid s2; clear s2)
        all_goals
          go_wp2
          go_round
          case rel => exact ⟨k + 1, _, F2, Z, by omega, by go_num, rfl, by have := HSl.out; omega, HZ, S3.out⟩
          case measure => simp [intOf]; omega
      · have HP := hid (And.intro e1 e2)
        clear e1 e2
        go_wp2_with fail
        go_region_with (go_at_call 10; refine Calls.mono (put_is S1.out.drew HF.out.n (by have := HSm.out; omega) HP.out.1 HP.out.2) ?_; rintro e w2 ⟨rfl, F2, s2⟩; have S3 := hid s2; clear s2)
        all_goals
          go_wp2
          go_round
          case rel => exact ⟨k + 1, _, F2, Z, by omega, by go_num, rfl, by have := HSl.out; omega, HZ, S3.out⟩
          case measure => simp [intOf]; omega
    · have hex : (¬ ((k : Int) < (X.length : Int))) ∨ ((k : Int) < (X.length : Int) ∧ ¬ ((k : Int) < 60)) := by omega
      have HSl : Hid (Z.length ≤ 60) := (Nat.le_trans hS hk)
      have HG := hid S1.out.good
      obtain ⟨ao4, cap4, ev⟩ := S1.out.opsIs (v := u4) (Z := Z) (by simp)
      subst ev
      clear hgo hS
      generalize hn : X.length = nX at *
      rcases hex with h | ⟨h, h2⟩
      all_goals
        go_wp2_with fail
        go_loopw [6, 7, 8, 9, 10, 11, 12, 13] (fun s6 s7 s8 _ _ _ _ _ wr => ∃ (i : Nat) (F : Nat → Prop) (T : St) (la at' : Int), i ≤ Z.length ∧ s8 = .int .i64 i ∧ s6 = .int .i64 la ∧ s7 = .int .i64 at' ∧ Hid (T.Sublist (Z.map inO) ∧ T.length + i = Z.length ∧ (∀ x ∈ T, (x.p : Int) ≤ la) ∧ (∀ x ∈ T, (x.p : Int) = la → at' < (ix (Z.map inO) x.n : Int))) ∧ Sep w r wr [quT q F T, lstO (.slice ao4 Z.length cap4) Z]) (fun _ _ s8 _ _ _ _ _ _ => Z.length - (intOf s8).toNat)
        case atStart => exact ⟨0, G, Z.map inO, 256, -1, Nat.zero_le _, rfl, rfl, rfl, ⟨List.Sublist.refl _, by simp, fun x hx => by have := (HG.out.fit x hx).1; omega, fun x hx _ => by omega⟩, S1.out⟩
        case round =>
          clear S1
          obtain ⟨i, F3, T, la, at', hi, rfl, rfl, rfl, HI, s3⟩ := hrel
          have S3 := hid s3
          clear s3
          by_cases hlt : i < Z.length
          · have hne : T ≠ [] := fun e => by
              have := HI.out.2.1
              rw [e, List.length_nil] at this
              omega
            obtain ⟨x, d, hd, f1, f2, f3, f4, f5, f6, f7, f8, f9, f10, f11, f12⟩ := first_step HG.out HI.out.1 hne
            obtain ⟨zd, z1, z2, z3⟩ := in_at HZ.out hd f1
            have HSt := hid (And.intro f3 (And.intro f4 (And.intro f5 (And.intro f6 (HG.out.fit x (HI.out.1.subset f2)).2))))
            have HTk : Hid (takeE T x.n = 0) := by
              show takeE T x.n = 0
              simp [takeE, f6]
            have HTl : Hid (T.length ≤ 60) := by
              show T.length ≤ 60
              have := HI.out.2.1
              have := HSl.out
              omega
            have HNx : Hid ((takeS T x.n).Sublist (Z.map inO) ∧ (takeS T x.n).length + (i + 1) = Z.length ∧ (∀ y ∈ takeS T x.n, (y.p : Int) ≤ (x.p : Int)) ∧ (∀ y ∈ takeS T x.n, (y.p : Int) = (x.p : Int) → (d : Int) < (ix (Z.map inO) y.n : Int))) :=
              ⟨f8, by have := HI.out.2.1; omega, fun y hy => by have := f10 y hy; omega, fun y hy e => by have := f11 y hy (by omega); omega⟩
            have hnl : ¬ (la < (x.p : Int)) := by have := HI.out.2.2.1 x f2; omega
            have HEq : Hid ((x.p : Int) = la → at' < (d : Int)) := fun e => by have := HI.out.2.2.2 x f2 e; rw [f12] at this; exact this
            have HBf : Hid (∀ j, j < d → ∃ z : Oc, Z[j]? = some z ∧ z.n ≠ x.n) := fun j hj => by
              have hd2 := hd
              rw [List.length_map] at hd2
              obtain ⟨z, e1, e2⟩ := ops_at (Z := Z) (k := j) (by omega)
              exact ⟨z, e1, fun e => f7 j (by omega) hj ((e2 (by omega)).trans e)⟩
            have hdl : d < Z.length := by rw [List.length_map] at hd; exact hd
            have HZd := hid (And.intro z1 (And.intro z2 z3))
            have HSl2 := HSl.out
            clear f1 f2 f3 f4 f5 f6 f7 f8 f9 f10 f11 f12 z1 z2 z3 hne HI hd
            generalize hm : Z.length = m at *
            have hltz : (i : Int) < (m : Int) := by omega
            go_wp2_with fail
            refine Calls.mono (next_is S3.out HT.out HSt.out.1 HSt.out.2.1) ?_
            rintro e w4 ⟨rfl, s4⟩
            have S4 := hid s4
            clear s4
            go_wp2_with fail
            refine Calls.mono (where_is S4.out HSt.out.2.2.2.2 HSt.out.2.2.1 HSt.out.2.2.2.1) ?_
            rintro e _ ⟨rfl, rfl⟩
            go_wp2_with fail
            refine Calls.mono (take_is S4.out HSt.out.2.2.2.2 (by have := HTl.out; omega) HTk.out rfl) ?_
            rintro e w5 ⟨rfl, F5, s5⟩
            have S5 := hid s5
            clear s5
            go_wp2_with fail
            go_loop [13] (fun s13 => ∃ j : Nat, j ≤ d ∧ s13 = .int .i64 j) (fun s13 => d - (intOf s13).toNat)
            case atStart => exact ⟨0, Nat.zero_le _, rfl⟩
            case round =>
              obtain ⟨j, hj, rfl⟩ := hrel
              by_cases hjd : j < d
              · obtain ⟨z, hz, hzn⟩ := HBf.out j hjd
                obtain ⟨g, rfl, c0, c1, c2⟩ := S5.out.opsAt (ao := ao4) (n := m) (cap := cap4) (Z := Z) (by simp) hz
                have hne : (z.n == x.n) = false := by simpa using hzn
                have hne2 : (z.n != x.n) = true := by simpa using hzn
                have hjz : (j : Int) < (m : Int) := by omega
                have hjm : j < m := by omega
                go_wp2
                go_round
                case rel => exact ⟨j + 1, by omega, by go_num⟩
                case measure => simp [intOf]; omega
              · obtain rfl : j = d := by omega
                obtain ⟨hz1, hz2, hz3⟩ := HZd.out
                obtain ⟨g, rfl, c0, c1, c2⟩ := S5.out.opsAt (ao := ao4) (n := m) (cap := cap4) (Z := Z) (by simp) hz1
                rw [hz2] at c1
                rw [hz3] at c2
                have hjz : (j : Int) < (m : Int) := by omega
                have hjne : ¬ ((j : Int) = (m : Int)) := by omega
                clear hz1 hz2 hz3
                by_cases hpl : (x.p : Int) = la
                · have hat := HEq.out hpl
                  have hat2 : ¬ ((j : Int) ≤ at') := by omega
                  subst hpl
                  go_wp2
                  go_round
                  case rel => exact ⟨i + 1, F5, takeS T x.n, (x.p : Int), (j : Int), by omega, by go_num, rfl, rfl, HNx, S5.out⟩
                  case measure => simp [intOf]; omega
                · have hpl2 : ((x.p : Int) == la) = false := by simpa using hpl
                  go_wp2
                  go_round
                  case rel => exact ⟨i + 1, F5, takeS T x.n, (x.p : Int), (j : Int), by omega, by go_num, rfl, rfl, HNx, S5.out⟩
                  case measure => simp [intOf]; omega
          · have hT : T = [] := by
              have := HI.out.2.1
              exact List.length_eq_zero_iff.1 (by omega)
            subst hT
            obtain rfl : i = Z.length := by omega
            clear HI
            generalize hm : Z.length = m at *
            have heq := eq_same 0 0 0 0
            go_wp2_with fail
            refine Calls.mono (next_is S3.out HT.out (n := 0) (z := false) rfl rfl) ?_
            rintro e w4 ⟨rfl, s4⟩
            have S4 := hid s4
            clear s4
            go_wp2_with fail
            refine Calls.mono (bits_is S4.out wd_none) ?_
            rintro e w5 ⟨rfl, s5⟩
            have S5 := hid s5
            clear s5
            go_wp2_with fail
            refine Calls.mono (fixed_sep S5.out HT.out) ?_
            rintro e w6 ⟨rfl, s6⟩
            have S6 := hid s6
            clear s6
            go_wp2
            go_ret
            exact ⟨rfl, by rw [HR.out]; exact S6.out.low⟩
open Go.ChangeShapes Go.WideShapes Go.ChangeAt Go.RowKit Go.Joins

/-! ### From the walk to the statement -/
theorem contract (H : Type) (enc : TypeId × Value → H) (W : World) (base : Nat) (args : Array Value) (ds gs : List (DataW H)) (before : List MemPlace)
    (hval : ∀ (j : Nat) t v, Tryd.f4.params[j]? = some t → args[j]? = some v → Value.okWide Tryd.prog W .any base t v)
    (hW : DataW.Whole enc Tryd.prog Tryd.f4.params.toList Rows.readyFirstSpec.vars false W args.toList ds gs before) (hL : laidMetH Tryd.prog Rows.readyFirstRow.laid W) :
    Calls Tryd.prog 4 args W fun e W' => ∃ v, e = .returned v ∧ Rows.readyFirstSpec.post enc Tryd.prog Tryd.f4 false true false false W args v W' := by
  have hW' := hW
  obtain ⟨p, q, hA0, hV, rfl, hfz, hnd⟩ := hW
  have hA : DataW.TrodAll enc Tryd.prog W 0 (fun _ => true) true Tryd.f4.params.toList args.toList ds p := hA0
  rw [Tryd.params4] at hA hval
  obtain ⟨v0, vs0, d0, ds0, p0, q0, hargs, rfl, rfl, h0, r0⟩ := trodAll_cons hA
  obtain ⟨rfl, rfl, rfl⟩ := trodAll_nil r0
  obtain rfl : args = #[v0] := by cases args; simp_all
  obtain ⟨rfl, rfl⟩ := trodVars_none hV
  have k0 := h0
  have lt0 : ∀ x ∈ p0, x.block < W.heap.size := by obtain ⟨m, hm⟩ := k0; exact DataW.trod_lt m _ _ _ hm
  obtain ⟨a0, l0, c0, rfl, t0, s0⟩ := open_ops (hval 0 22 v0 rfl rfl) h0
  clear hA0
  refine (walk a0 l0 c0 W (table hL) t0 s0).mono fun e W' ⟨he, bel⟩ => ?_
  subst he
  exact ⟨_, rfl, _, _, _, [], _, [], hW', trodAll_mk1 (shut_bool Tryd.underlying4 _), (trodAll_cons_mk (Below.trod laidOut (by kernel_rfl) (of_decide_eq_true (by kernel_rfl)) k0 bel lt0) trodAll_mk0), rfl, bel.frame _, fun h => by cases h⟩

theorem laid_met (os : Os) : laidMet Tryd.prog Rows.readyFirstRow.laid ((World.doorLaid Tryd.prog 40 os).forCall (fun _ _ => 0) ⟨#[], #[.slice none 0 0], []⟩).memory :=
  laidMet_of_run' 8 (by kernel_rfl) (by kernel_rfl)
theorem reads (os : Os) {H : Type} (enc : TypeId × Value → H) : ∃ places, DataW.whole enc Tryd.prog ((World.doorLaid Tryd.prog 40 os).forCall (fun _ _ => 0) ⟨#[], #[.slice none 0 0], []⟩).memory Tryd.f4.params.toList Rows.readyFirstSpec.vars false (#[.slice none 0 0] : Array Value).toList 8 = some ([.nil], [], places) :=
  ⟨[], by kernel_rfl⟩
set_option maxRecDepth 100000 in
theorem lifted (os : Os) (started : os.Started) (H : Type) (enc : TypeId × Value → H) (F : Stop.Interp) :
    ReturnsInHanded {} Tryd.checked os 4 .any ((OpenSpec.ofChange Rows.readyFirstSpec).preRow enc Tryd.prog Tryd.f4 Rows.readyFirstRow.domain false Rows.readyFirstRow.laid) (((OpenSpec.ofChange Rows.readyFirstSpec).at F).post enc Tryd.prog Tryd.f4 false true false false) := by
  obtain ⟨places, hx⟩ := reads os enc
  refine returnsInHanded_of_row (C := Tryd.checked) (s := OpenSpec.ofChange Rows.readyFirstSpec) own started (by kernel_rfl) Tryd.func4
    (witness_row_at (enc := enc) (C := Tryd.checked) false (World.doorLaid Tryd.prog 40 os) #[.slice none 0 0] rfl (by kernel_rfl) (by kernel_rfl) (by kernel_rfl)
      (OpenSpec.preRow_of_cond 8 hx (by kernel_rfl) (fun k hk => by cases hk) (by kernel_rfl) (laid_met os))) ?_
  intro W base args ds gs before hval hW _ _ _ hL _ _
  exact contract H enc W base args ds gs before hval hW hL
theorem said : Rows.ReadyFirstSaid :=
  OpenClaim.holds_of_cond 4 Tryd.f4 rfl rfl rfl rfl rfl rfl rfl ⟨rfl, rfl, rfl, rfl, rfl⟩ rfl rfl rfl rfl rfl (by kernel_rfl) Tryd.func4 (by kernel_rfl)
    (of_decide_eq_true (by kernel_rfl)) (by unfold Func.isWrapper; first | (rw [if_pos (by decide +kernel)]; kernel_rfl) | (rw [if_neg (by decide +kernel)]; exact ⟨rfl, rfl⟩))
    (fun os started H enc _ F => by rw [OpenClaim.pre_eq_preRow]; exact lifted os started H enc F)
theorem plain (f : FuncId) (fn : Func) (hf : Tryd.pinned.checked.prog.funcNamed "buttress/buttresslaw09.ReadyFirst" = some f) (hfn : Tryd.pinned.checked.prog.funcs[f]? = some fn) :
    false = Tryd.pinned.checked.prog.looks [] ∧ ∀ (j : Nat) t, fn.params[j]? = some t → Tryd.pinned.checked.prog.wantsStandIn t = false := by
  obtain rfl : f = 4 := Option.some.inj ((show Tryd.prog.funcNamed "buttress/buttresslaw09.ReadyFirst" = some 4 by kernel_rfl).symm.trans hf) |>.symm
  obtain rfl : fn = Tryd.f4 := (Option.some.inj (Tryd.func4.symm.trans hfn)).symm
  refine ⟨by kernel_rfl, fun j t ht => ?_⟩
  rw [Tryd.params4] at ht
  have hm : t ∈ [22] := by simpa using Array.mem_of_getElem? ht
  have hall : ([22].all fun u => !Tryd.prog.wantsStandIn u) = true := by kernel_rfl
  exact (show Tryd.prog.wantsStandIn t = false by simpa using List.all_eq_true.1 hall t hm)
end Go.Proofs.YtnjmjhmngjodcaaDoor.readyFirst
namespace Go.Proofs.YtnjmjhmngjodcaaDoor
/-- THE CARD. -/
theorem readyFirst_card : Rows.ReadyFirstCardSaid :=
  Claim7.holds_tied_plain_at .later [] _ _ _ _ readyFirst.said (fun _ h => by cases h) (by kernel_rfl) (fun _ h => by cases h) readyFirst_row_tie rfl ⟨rfl, rfl⟩ (by kernel_rfl) rfl readyFirst.plain (by kernel_rfl)
#print axioms readyFirst_card
end Go.Proofs.YtnjmjhmngjodcaaDoor

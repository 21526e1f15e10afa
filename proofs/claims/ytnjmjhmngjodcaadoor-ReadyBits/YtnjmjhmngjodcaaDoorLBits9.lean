/-
  ReadyBits: a priority's bit is set just if somebody stands in its line; the greatest one is the next one's; the variable words.halves starts as the program's text lays it (the card ties it).
-/
import Derived.Test.YtnjmjhmngjodcaaDoorQNums
namespace Go.Proofs.YtnjmjhmngjodcaaDoor.readyBits
open Go.RowKit Go.Deep Go.Shelf
theorem bit_one (x : Int) (j : Nat) (x0 : 0 ≤ x) (x1 : x ≤ 18446744073709551615) : (bits .and .u64 (x / 2 ^ j) 1 == 1) = x.toNat.testBit j := by
  obtain ⟨V, rfl⟩ := Int.eq_ofNat_of_zero_le x0
  have e : ((V : Int) / 2 ^ j) = ((V / 2 ^ j : Nat) : Int) := by simp
  have hd : V / 2 ^ j ≤ V := Nat.div_le_self _ _
  rw [e, show (1 : Int) = ((1 : Nat) : Int) from rfl, u64_and_nat _ _ (by omega) (by omega), Nat.and_one_is_mod, Int.toNat_natCast, Nat.testBit_eq_decide_div_mod_eq]
  rw [Bool.eq_iff_iff]
  simp
  omega
theorem wordAt_word {x0 x1 x2 x3 : Int} (h0 : Word x0) (h1 : Word x1) (h2 : Word x2) (h3 : Word x3) (c : Nat) : Word (wordAt x0 x1 x2 x3 c) := by
  unfold wordAt
  split
  · exact h0
  · split
    · exact h1
    · split
      · exact h2
      · exact h3
theorem bits_cell {w : World} {g : Nat} {x0 x1 x2 x3 : Int} (h : w.heap[g]? = some (objB x0 x1 x2 x3)) {c : Nat} (hc : c < 4) : w.cell? ⟨g, c, none⟩ = some (.int .u64 (wordAt x0 x1 x2 x3 c)) := by
  obtain ⟨h0, h1, h2, h3, _⟩ := objB_cells h
  have : c = 0 ∨ c = 1 ∨ c = 2 ∨ c = 3 := by omega
  rcases this with rfl | rfl | rfl | rfl
  · exact h0
  · exact h1
  · exact h2
  · exact h3
theorem occ_bit (f : Nat → Bool) {p : Nat} (hp : p < 256) : (bits .and .u64 (wordAt (wd f 256 0) (wd f 256 1) (wd f 256 2) (wd f 256 3) (p / 64) / 2 ^ (p % 64)) 1 == 1) = f p := by
  have hw := wordAt_word (wd_word f 0 256) (wd_word f 1 256) (wd_word f 2 256) (wd_word f 3 256) (p / 64)
  rw [bit_one _ _ hw.lo hw.hi]
  have := wd_has f p hp 256 (by omega)
  rw [hasI_in _ _ _ _ _ (p / 64) _ (by omega) (by omega) (by omega) rfl] at this
  have e : ((p : Int) % 64).toNat = p % 64 := by omega
  rw [e] at this
  simpa [hp] using this
theorem topTo_bd (f : Nat → Bool) (m : Nat) : -1 ≤ topTo f m ∧ topTo f m ≤ m := by
  rcases topTo_cases f m with ⟨h, _⟩ | ⟨t, h, h2, _⟩ <;> rw [h] <;> omega
set_option maxHeartbeats 4000000 in
set_option maxRecDepth 100000 in
theorem walk (ao : Option Addr) (X : List Oc) (cap : Nat) (w : World) (ht : Tab w) (hX : Ops w ao X) (_hxl : X.length ≤ 9223372036854775807) :
    Calls Tryd.prog 6 #[.slice ao X.length cap] w fun e w' => e = .returned (.bool true) ∧ Below w.heap.size w w' := by
  have HT := hid (Sep.tabs ht)
  clear ht
  have HX := hid hX
  clear hX
  go_enter Tryd.func6, Tryd.ntmps6
  go_wp2_with fail
  refine Calls.mono (new_sep (sep_nil w)) ?_
  rintro e w1 ⟨q, F, rfl, s1⟩
  have S1 := hid s1
  clear s1
  generalize hr : w.heap.size = r at *
  have HR := hid hr
  clear hr
  go_wp2_with fail
  go_loopw [4] (fun i wr => ∃ (k : Nat) (F : Nat → Prop) (S : St), k ≤ 40 ∧ i = .int .i64 k ∧ S.length ≤ k ∧ Sep w r wr [quT q F S]) (fun i _ => 40 - (intOf i).toNat)
  case atStart => exact ⟨0, F, [], by omega, rfl, by simp, S1.out⟩
  case round =>
    clear S1
    obtain ⟨k, G, S, hk, rfl, hS, s1⟩ := hrel
    have S1 := hid s1
    clear s1
    by_cases hgo : k < X.length ∧ k < 40
    · obtain ⟨hlt, h40⟩ := hgo
      obtain ⟨fx, b, a, rfl, c0, c1, c2⟩ := Ops.at (SeeK.below HX.out S1.out.low (by rw [HR.out]; exact Nat.le_refl _)) (List.getElem?_eq_getElem hlt)
      generalize hx : X[k] = x at *
      have HF := hid fx
      have HSl := hid hS
      clear fx hx hS
      generalize hn : X.length = n at *
      have hltz : (k : Int) < (n : Int) := by omega
      have h40z : (k : Int) < 40 := by omega
      go_wp2_with fail
      go_region_with (go_at_call 10; refine Calls.mono (put_sep S1.out.drew _ _ HF.out.n (by have := HSl.out; omega)) ?_; rintro e w2 ⟨rfl, F2, s2⟩)
      all_goals
        go_wp2
        go_round
        case rel => exact ⟨k + 1, F2, _, by omega, by go_num, by have := put_len S x.p x.n; have := HSl.out; omega, s2⟩
        case measure => simp [intOf]; omega
    · have hex : (¬ ((k : Int) < (X.length : Int))) ∨ ((k : Int) < (X.length : Int) ∧ ¬ ((k : Int) < 40)) := by omega
      have HSl : Hid (S.length ≤ 40) := (Nat.le_trans hS hk)
      clear hgo hS
      generalize hn : X.length = nX at *
      rcases hex with h | ⟨h, h2⟩
      all_goals
        go_wp2_with fail
        have HG := hid S1.out.good
        have HW : Hid (wdAll (occ S) = .agg #[.int .u64 (wd (occ S) 256 0), .int .u64 (wd (occ S) 256 1), .int .u64 (wd (occ S) 256 2), .int .u64 (wd (occ S) 256 3)]) := rfl
        have HB := hid (fun p (hp : p < 256) => occ_bit (occ S) hp)
        generalize wd (occ S) 256 0 = x0 at *
        generalize wd (occ S) 256 1 = x1 at *
        generalize wd (occ S) 256 2 = x2 at *
        generalize wd (occ S) 256 3 = x3 at *
        refine Calls.mono (bits_is S1.out HW.out) ?_
        rintro e w2 ⟨rfl, s2⟩
        have S2 := hid (s2.box (objB x0 x1 x2 x3)).swap
        clear s2
        go_wp2_with fail
        generalize w2.heap.size = bb at *
        go_loopw [6, 7] (fun s6 s7 wr => ∃ p : Nat, p ≤ 256 ∧ s7 = .int .i64 p ∧ s6 = .int .i64 (topTo (occ S) p) ∧ Sep w r wr [quT q G S, blk bb (objB x0 x1 x2 x3)]) (fun _ s7 _ => 256 - (intOf s7).toNat)
        case atStart => exact ⟨0, by omega, rfl, rfl, S2.out⟩
        case round =>
          clear S2
          obtain ⟨p, hp, rfl, rfl, s3⟩ := hrel
          have S3 := hid s3
          clear s3
          by_cases hlt : p < 256
          · have hc := bits_cell (S3.out.each (blk bb (objB x0 x1 x2 x3)) (by simp)).1 (c := p / 64) (by omega)
            have hbit := HB.out p hlt
            have hq : (p : Int) / 64 = ((p / 64 : Nat) : Int) := by omega
            have hm : (p : Int) % 64 = ((p % 64 : Nat) : Int) := by omega
            have hc4 : p / 64 < 4 := by omega
            have hj : p % 64 < 64 := by omega
            generalize p / 64 = c at *
            generalize p % 64 = j at *
            generalize wordAt x0 x1 x2 x3 c = x at *
            have hc4z : (c : Int) < 4 := by omega
            have hltz : (p : Int) < 256 := by omega
            have HTo : Hid (topTo (occ S) (p + 1) = if occ S p = true then (p : Int) else topTo (occ S) p) := rfl
            have HTb := hid (topTo_bd (occ S) p)
            generalize topTo (occ S) p = tp at *
            have HOl := hid (show ∀ v, lineI S (p : Int) = v → decide (0 < v.length) = occ S p from fun v hv => by
              rw [occ_line, ← hv]
              unfold lineI
              rw [if_pos (by omega), Int.toNat_natCast])
            go_wp2_with fail
            refine Calls.mono (line_sep S3.out (p : Int) (by have := HSl.out; omega)) ?_
            rintro e w4 ⟨v4, rfl, s4⟩
            obtain ⟨ao4, cap4, ev⟩ := s4.listIs (v := v4) (A := lineI S (p : Int)) (by simp)
            subst ev
            have S4 := hid s4.drop2
            clear s4
            have hd := HOl.out _ rfl
            clear hq hm
            generalize (lineI S (p : Int)).length = l at *
            generalize occ S p = z at *
            cases z
            · go_wp2
              go_round
              case rel => exact ⟨p + 1, by omega, by go_num, by rw [HTo.out]; rfl, S4.out⟩
              case measure => simp [intOf]; omega
            · go_wp2
              go_round
              case rel => exact ⟨p + 1, by omega, by go_num, by rw [HTo.out]; rfl, S4.out⟩
              case measure => simp [intOf]; omega
          · obtain rfl : p = 256 := by omega
            have hts : topTo (occ S) 256 = topS S := rfl
            rw [hts]
            clear hts HB
            go_wp2_with fail
            rcases next_cases HG.out with ⟨e0, e1, _, e2, e3, _⟩ | ⟨x, L, hx, e1, _, e2, e3, _, e4, _⟩ <;> rw [e1]
            · have HE := hid (And.intro e0 (And.intro e2 e3))
              clear e0 e1 e2 e3
              refine Calls.mono (next_is S3.out HT.out HE.out.2.1 HE.out.2.2) ?_
              rintro e w4 ⟨rfl, s4⟩
              have S4 := hid s4
              clear s4
              go_wp2_with fail
              refine Calls.mono (where_is S4.out (by unfold I64; omega) (p := 0) (z := false) (by rw [HE.out.1]; rfl) (by rw [HE.out.1]; rfl)) ?_
              rintro e _ ⟨rfl, rfl⟩
              go_wp2_with fail
              refine Calls.mono (fixed_sep S4.out HT.out) ?_
              rintro e w5 ⟨rfl, s5⟩
              have S5 := hid s5
              clear s5
              go_wp2
              go_ret
              exact ⟨rfl, by rw [HR.out]; exact S5.out.low⟩
            · have HE := hid (And.intro e2 (And.intro e3 (And.intro (HG.out.fit x hx) (whB_of HG.out hx))))
              clear e1 e2 e3 e4 hx
              refine Calls.mono (next_is S3.out HT.out HE.out.1 HE.out.2.1) ?_
              rintro e w4 ⟨rfl, s4⟩
              have S4 := hid s4
              clear s4
              go_wp2_with fail
              refine Calls.mono (where_is S4.out HE.out.2.2.1.2 HE.out.2.2.2.2 HE.out.2.2.2.1) ?_
              rintro e _ ⟨rfl, rfl⟩
              have hge : (0 : Int) ≤ (x.p : Int) := by omega
              go_wp2_with fail
              refine Calls.mono (fixed_sep S4.out HT.out) ?_
              rintro e w5 ⟨rfl, s5⟩
              have S5 := hid s5
              clear s5
              go_wp2
              go_ret
              exact ⟨rfl, by rw [HR.out]; exact S5.out.low⟩
open Go.ChangeShapes Go.WideShapes Go.ChangeAt Go.RowKit Go.Joins

/-! ### From the walk to the statement -/
theorem contract (H : Type) (enc : TypeId × Value → H) (W : World) (base : Nat) (args : Array Value) (ds gs : List (DataW H)) (before : List MemPlace)
    (hval : ∀ (j : Nat) t v, Tryd.f6.params[j]? = some t → args[j]? = some v → Value.okWide Tryd.prog W .any base t v)
    (hW : DataW.Whole enc Tryd.prog Tryd.f6.params.toList Rows.readyBitsSpec.vars false W args.toList ds gs before) (hL : laidMetH Tryd.prog Rows.readyBitsRow.laid W) :
    Calls Tryd.prog 6 args W fun e W' => ∃ v, e = .returned v ∧ Rows.readyBitsSpec.post enc Tryd.prog Tryd.f6 false true false false W args v W' := by
  have hW' := hW
  obtain ⟨p, q, hA0, hV, rfl, hfz, hnd⟩ := hW
  have hA : DataW.TrodAll enc Tryd.prog W 0 (fun _ => true) true Tryd.f6.params.toList args.toList ds p := hA0
  rw [Tryd.params6] at hA hval
  obtain ⟨v0, vs0, d0, ds0, p0, q0, hargs, rfl, rfl, h0, r0⟩ := trodAll_cons hA
  obtain ⟨rfl, rfl, rfl⟩ := trodAll_nil r0
  obtain rfl : args = #[v0] := by cases args; simp_all
  obtain ⟨rfl, rfl⟩ := trodVars_none hV
  have k0 := h0
  have lt0 : ∀ x ∈ p0, x.block < W.heap.size := by obtain ⟨m, hm⟩ := k0; exact DataW.trod_lt m _ _ _ hm
  obtain ⟨a0, l0, c0, rfl, t0, s0⟩ := open_ops (hval 0 22 v0 rfl rfl) h0
  clear hA0
  refine (walk a0 l0 c0 W (table hL) t0 s0).mono fun e W' ⟨he, bel⟩ => ?_
  subst he
  exact ⟨_, rfl, _, _, _, [], _, [], hW', trodAll_mk1 (shut_bool Tryd.underlying4 _), (trodAll_cons_mk (Below.trod laidOut (by kernel_rfl) (of_decide_eq_true (by kernel_rfl)) k0 bel lt0) trodAll_mk0), rfl, bel.frame _, fun h => by cases h⟩

theorem laid_met (os : Os) : laidMet Tryd.prog Rows.readyBitsRow.laid ((World.doorLaid Tryd.prog 40 os).forCall (fun _ _ => 0) ⟨#[], #[.slice none 0 0], []⟩).memory :=
  laidMet_of_run' 8 (by kernel_rfl) (by kernel_rfl)
theorem reads (os : Os) {H : Type} (enc : TypeId × Value → H) : ∃ places, DataW.whole enc Tryd.prog ((World.doorLaid Tryd.prog 40 os).forCall (fun _ _ => 0) ⟨#[], #[.slice none 0 0], []⟩).memory Tryd.f6.params.toList Rows.readyBitsSpec.vars false (#[.slice none 0 0] : Array Value).toList 8 = some ([.nil], [], places) :=
  ⟨[], by kernel_rfl⟩
set_option maxRecDepth 100000 in
theorem lifted (os : Os) (started : os.Started) (H : Type) (enc : TypeId × Value → H) (F : Stop.Interp) :
    ReturnsInHanded {} Tryd.checked os 6 .any ((OpenSpec.ofChange Rows.readyBitsSpec).preRow enc Tryd.prog Tryd.f6 Rows.readyBitsRow.domain false Rows.readyBitsRow.laid) (((OpenSpec.ofChange Rows.readyBitsSpec).at F).post enc Tryd.prog Tryd.f6 false true false false) := by
  obtain ⟨places, hx⟩ := reads os enc
  refine returnsInHanded_of_row (C := Tryd.checked) (s := OpenSpec.ofChange Rows.readyBitsSpec) own started (by kernel_rfl) Tryd.func6
    (witness_row_at (enc := enc) (C := Tryd.checked) false (World.doorLaid Tryd.prog 40 os) #[.slice none 0 0] rfl (by kernel_rfl) (by kernel_rfl) (by kernel_rfl)
      (OpenSpec.preRow_of_cond 8 hx (by kernel_rfl) (fun k hk => by cases hk) (by kernel_rfl) (laid_met os))) ?_
  intro W base args ds gs before hval hW _ _ _ hL _ _
  exact contract H enc W base args ds gs before hval hW hL
theorem said : Rows.ReadyBitsSaid :=
  OpenClaim.holds_of_cond 6 Tryd.f6 rfl rfl rfl rfl rfl rfl rfl ⟨rfl, rfl, rfl, rfl, rfl⟩ rfl rfl rfl rfl rfl (by kernel_rfl) Tryd.func6 (by kernel_rfl)
    (of_decide_eq_true (by kernel_rfl)) (by unfold Func.isWrapper; first | (rw [if_pos (by decide +kernel)]; kernel_rfl) | (rw [if_neg (by decide +kernel)]; exact ⟨rfl, rfl⟩))
    (fun os started H enc _ F => by rw [OpenClaim.pre_eq_preRow]; exact lifted os started H enc F)
theorem plain (f : FuncId) (fn : Func) (hf : Tryd.pinned.checked.prog.funcNamed "buttress/buttresslaw09.ReadyBits" = some f) (hfn : Tryd.pinned.checked.prog.funcs[f]? = some fn) :
    false = Tryd.pinned.checked.prog.looks [] ∧ ∀ (j : Nat) t, fn.params[j]? = some t → Tryd.pinned.checked.prog.wantsStandIn t = false := by
  obtain rfl : f = 6 := Option.some.inj ((show Tryd.prog.funcNamed "buttress/buttresslaw09.ReadyBits" = some 6 by kernel_rfl).symm.trans hf) |>.symm
  obtain rfl : fn = Tryd.f6 := (Option.some.inj (Tryd.func6.symm.trans hfn)).symm
  refine ⟨by kernel_rfl, fun j t ht => ?_⟩
  rw [Tryd.params6] at ht
  have hm : t ∈ [22] := by simpa using Array.mem_of_getElem? ht
  have hall : ([22].all fun u => !Tryd.prog.wantsStandIn u) = true := by kernel_rfl
  exact (show Tryd.prog.wantsStandIn t = false by simpa using List.all_eq_true.1 hall t hm)
end Go.Proofs.YtnjmjhmngjodcaaDoor.readyBits
namespace Go.Proofs.YtnjmjhmngjodcaaDoor
/-- THE CARD. -/
theorem readyBits_card : Rows.ReadyBitsCardSaid :=
  Claim7.holds_tied_plain_at .later [] _ _ _ _ readyBits.said (fun _ h => by cases h) (by kernel_rfl) (fun _ h => by cases h) readyBits_row_tie rfl ⟨rfl, rfl⟩ (by kernel_rfl) rfl readyBits.plain (by kernel_rfl)
#print axioms readyBits_card
end Go.Proofs.YtnjmjhmngjodcaaDoor

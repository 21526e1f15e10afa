/-
  ReadyTurns: turned as often as its line is long, all stands as it stood; each of the line was the next one once; the variable words.halves starts as the program's text lays it (the card ties it).
-/
import Derived.Test.YtnjmjhmngjodcaaDoorQNums
import Derived.Test.YtnjmjhmngjodcaaDoorMore
namespace Go.Proofs.YtnjmjhmngjodcaaDoor.readyTurns
open Go.RowKit Go.Deep Go.Shelf
theorem turn_one {P : Nat} {x : In} {T : St} (g : Good (x :: T)) (h : ∀ y ∈ x :: T, y.p = P) : nextN (x :: T) = x.n ∧ nextB (x :: T) = true ∧ turnS (x :: T) = T ++ [x] := by
  rcases next_cases g with ⟨e, _⟩ | ⟨y, L, hy, _, _, e2, e3, e5, e4, _⟩
  · cases e
  · have hyx : y = x := by
      have h1 : y.p = x.p := (h y hy).trans (h x (by simp)).symm
      have h2 : lineN (x :: T) x.p = x.n :: lineN T x.p := by
        unfold lineN
        simp
      rw [h1, h2] at e4
      injection e4 with e6 _
      exact same_of_n g.one hy (by simp) e6.symm
    subst hyx
    refine ⟨e2, e3, ?_⟩
    rw [e5]
    congr 1
    unfold takeS
    obtain ⟨h1, _⟩ := List.pairwise_cons.1 g.one
    rw [List.filter_cons_of_neg (by simp), List.filter_eq_self.2]
    intro a ha
    simpa using (h1 a ha).symm
theorem line_whole {P : Nat} : ∀ {S : St}, (∀ y ∈ S, y.p = P) → lineN S P = S.map In.n
  | [], _ => rfl
  | x :: S, h => by
    have ih := line_whole (S := S) fun y hy => h y (List.mem_cons_of_mem _ hy)
    have hx := h x (by simp)
    unfold lineN at ih ⊢
    rw [List.filter_cons_of_pos (by simpa using hx), List.map_cons, ih, List.map_cons]
theorem rot_step {S : St} {i : Nat} (hi : i < S.length) : S.drop i ++ S.take i = S[i] :: (S.drop (i + 1) ++ S.take i) ∧ (S.drop (i + 1) ++ S.take i) ++ [S[i]] = S.drop (i + 1) ++ S.take (i + 1) := by
  refine ⟨by rw [List.drop_eq_getElem_cons hi]; rfl, ?_⟩
  rw [List.append_assoc, List.take_succ_eq_append_getElem hi]
theorem rot_mem {S : St} {i : Nat} {y : In} (h : y ∈ S.drop i ++ S.take i) : y ∈ S := by
  rcases List.mem_append.1 h with h | h
  · exact List.mem_of_mem_drop h
  · exact List.mem_of_mem_take h
theorem mask255 (x : Int) : ∃ p : Nat, p < 256 ∧ bits .and .i64 x 255 = (p : Int) := by
  have h0 : 0 ≤ x % 256 := Int.emod_nonneg _ (by omega)
  have h1 : x % 256 < 256 := Int.emod_lt_of_pos _ (by omega)
  exact ⟨(x % 256).toNat, by omega, by rw [i64_255]; omega⟩
set_option maxHeartbeats 4000000 in
set_option maxRecDepth 100000 in
theorem walk (ao : Option Addr) (X : List Int) (cap : Nat) (prio : Int) (w : World) (ht : Tab w) (hX : Nums w ao X) (_hxl : X.length ≤ 9223372036854775807) (_hp : -9223372036854775808 ≤ prio ∧ prio ≤ 9223372036854775807) :
    Calls Tryd.prog 5 #[.slice ao X.length cap, .int .i64 prio] w fun e w' => e = .returned (.bool true) ∧ Below w.heap.size w w' := by
  have HT := hid (Sep.tabs ht)
  clear ht
  have HX := hid hX
  clear hX
  obtain ⟨P, hP, hPe⟩ := mask255 prio
  go_enter Tryd.func5, Tryd.ntmps5
  go_wp2_with fail
  refine Calls.mono (new_sep (sep_nil w)) ?_
  rintro e w1 ⟨q, F, rfl, s1⟩
  have S1 := hid s1
  clear s1
  generalize hr : w.heap.size = r at *
  have HR := hid hr
  clear hr
  go_wp2_with fail
  go_loopw [7] (fun i wr => ∃ (k : Nat) (F : Nat → Prop) (S : St), k ≤ 30 ∧ i = .int .i64 k ∧ S.length ≤ k ∧ Hid (∀ y ∈ S, y.p = P) ∧ Sep w r wr [quT q F S]) (fun i _ => 30 - (intOf i).toNat)
  case atStart => exact ⟨0, F, [], by omega, rfl, by simp, fun y hy => by simp at hy, S1.out⟩
  case round =>
    clear S1
    obtain ⟨k, G, S, hk, rfl, hS, HAll, s1⟩ := hrel
    have S1 := hid s1
    clear s1
    by_cases hgo : k < X.length ∧ k < 30
    · obtain ⟨hlt, h40⟩ := hgo
      obtain ⟨fx, b, a, rfl, c0⟩ := Nums.at (SeeK.below HX.out S1.out.low (by rw [HR.out]; exact Nat.le_refl _)) (List.getElem?_eq_getElem hlt)
      generalize hx : X[k] = x at *
      have HF := hid fx
      have HSl := hid hS
      clear fx hx hS
      generalize hn : X.length = n at *
      have hltz : (k : Int) < (n : Int) := by omega
      have h40z : (k : Int) < 30 := by omega
      go_wp2_with fail
      refine Calls.mono (put_sep S1.out (P : Int) x HF.out (by have := HSl.out; omega)) ?_
      rintro e w2 ⟨rfl, F2, s2⟩
      go_wp2
      go_round
      case rel => exact ⟨k + 1, F2, _, by omega, by go_num, by have := put_len S (P : Int) x; have := HSl.out; omega, fun y hy => by
        rcases putE_cases S (P : Int) x with ⟨_, e, _⟩ | ⟨_, e, _⟩ | ⟨_, e, _⟩ <;> rw [e] at hy
        · rcases List.mem_append.1 hy with hy | hy
          · exact HAll.out y hy
          · rw [List.mem_singleton.1 hy]
            simp
        · exact HAll.out y hy
        · exact HAll.out y hy, s2⟩
      case measure => simp [intOf]; omega
    · have hex : (¬ ((k : Int) < (X.length : Int))) ∨ ((k : Int) < (X.length : Int) ∧ ¬ ((k : Int) < 30)) := by omega
      have HSl : Hid (S.length ≤ 30) := (Nat.le_trans hS hk)
      clear hgo hS
      generalize hn : X.length = nX at *
      rcases hex with h | ⟨h, h2⟩
      all_goals
        go_wp2_with fail
        have HG := hid S1.out.good
        have HLi := hid (show lineI S (P : Int) = S.map In.n by
          unfold lineI
          rw [if_pos (by omega), Int.toNat_natCast, line_whole HAll.out])
        refine Calls.mono (line_sep S1.out (P : Int) (by have := HSl.out; omega)) ?_
        rintro e w2 ⟨v2, rfl, s2⟩
        rw [HLi.out] at s2
        obtain ⟨ao2, cap2, ev⟩ := s2.listIs (v := v2) (A := S.map In.n) (by simp)
        subst ev
        rw [List.length_map] at s2
        have S2 := hid s2.madeI
        clear s2
        rw [List.length_map]
        go_wp2_with fail
        generalize w2.heap.size = g2 at *
        go_loopw [9, 10, 11, 12] (fun s9 s10 _ _ wr => ∃ (i : Nat) (u : Value) (F : Nat → Prop), i ≤ S.length ∧ s10 = .int .i64 i ∧ s9 = u ∧ Sep w r wr [lstI u ((S.take i).map In.n), quT q F (S.drop i ++ S.take i), lstI (.slice ao2 S.length cap2) (S.map In.n)]) (fun _ s10 _ _ _ => S.length - (intOf s10).toNat)
        case atStart => exact ⟨0, _, G, Nat.zero_le _, rfl, rfl, by simpa using S2.out⟩
        case round =>
          clear S2
          obtain ⟨i, u, F3, hi, rfl, rfl, s3⟩ := hrel
          have S3 := hid s3.swap
          clear s3
          by_cases hlt : i < S.length
          · obtain ⟨e1, e2⟩ := rot_step hlt
            have HTk := hid (show (S.take (i + 1)).map In.n = (S.take i).map In.n ++ [S[i].n] by rw [List.take_succ_eq_append_getElem hlt, List.map_append]; rfl)
            have HTl := hid (show (S.drop i ++ S.take i).length ≤ 1000 by have := HSl.out; simp; omega)
            have g := S3.out.good
            rw [e1] at g
            have HTu := hid (turn_one (P := P) g fun y hy => HAll.out y (rot_mem (by rw [e1]; exact hy)))
            rw [← e1, e2] at HTu
            clear g e1 e2
            generalize hx : S[i] = x at *
            clear hx
            have HSl2 := HSl.out
            generalize hm : S.length = m at *
            have hltz : (i : Int) < (m : Int) := by omega
            go_wp2_with fail
            refine Calls.mono (next_is S3.out HT.out HTu.out.1 HTu.out.2.1) ?_
            rintro e w4 ⟨rfl, s4⟩
            have S4 := hid s4
            clear s4
            go_wp2_with fail
            refine Calls.mono (turn_is S4.out HT.out HTl.out HTu.out.2.1 HTu.out.2.2) ?_
            rintro e w5 ⟨rfl, F5, s5⟩
            obtain ⟨v6, w6, r6, s6⟩ := s5.swap.more x.n (by rw [List.length_map, List.length_take]; omega)
            have S6 := hid s6
            have R6 := hid r6
            clear s5 s6 r6
            go_wp2_with (at_builtin; (with_reducible refine wpList_append_run rfl (.tmp 57) (.tmp 59) 38 38 rfl u9 (.slice (some ⟨w5.heap.size, 0, none⟩) 1 1) v6 w6 rfl rfl R6.out ?_))
            go_round
            case rel => exact ⟨i + 1, _, _, by omega, by go_num, rfl, by rw [HTk.out]; exact S6.out⟩
            case measure => simp [intOf]; omega
          · obtain rfl : i = S.length := by omega
            have S4 := S3.out.swap
            rw [List.take_length, List.drop_length, List.nil_append] at S4
            have S5 := hid S4
            clear S3 S4
            have HLn : Hid ((S.map In.n).length ≤ 30) := by
              show (S.map In.n).length ≤ 30
              rw [List.length_map]
              exact HSl.out
            go_wp2_with fail
            refine Calls.mono (nums_is S5.out (u := u9) (v := .slice ao2 S.length cap2) (A := S.map In.n) (B := S.map In.n) (by simp) (by simp) (by have := HLn.out; omega) rfl) ?_
            rintro e w6 ⟨rfl, s6⟩
            have S6 := hid s6.swap
            clear s6
            go_wp2_with fail
            refine Calls.mono (line_sep S6.out (P : Int) (by have := HSl.out; omega)) ?_
            rintro e w7 ⟨v7, rfl, s7⟩
            rw [HLi.out] at s7
            have S7 := hid s7
            clear s7
            go_wp2_with fail
            refine Calls.mono (nums_is S7.out (u := v7) (v := .slice ao2 S.length cap2) (A := S.map In.n) (B := S.map In.n) (by simp) (by simp) (by have := HLn.out; omega) rfl) ?_
            rintro e w8 ⟨rfl, s8⟩
            have S8 := hid s8
            clear s8
            by_cases hz : S.length = 0
            · have HZ := hid (List.length_eq_zero_iff.1 hz)
              rw [hz]
              go_wp2_with fail
              refine Calls.mono (turn_is S8.out HT.out (by have := HSl.out; omega) (e0 := false) (T := []) (by rw [HZ.out]; rfl) (by rw [HZ.out]; rfl)) ?_
              rintro e w9 ⟨rfl, F9, s9⟩
              have S9 := hid s9
              clear s9
              go_wp2_with fail
              refine Calls.mono (fixed_sep S9.out HT.out) ?_
              rintro e w10 ⟨rfl, s10⟩
              have S10 := hid s10
              clear s10
              go_wp2
              go_ret
              exact ⟨rfl, by rw [HR.out]; exact S10.out.low⟩
            · have hzp : 0 < S.length := by omega
              have hzi : (0 : Int) < (S.length : Int) := by omega
              generalize hm : S.length = m at *
              go_wp2_with fail
              refine Calls.mono (fixed_sep S8.out HT.out) ?_
              rintro e w10 ⟨rfl, s10⟩
              have S10 := hid s10
              clear s10
              go_wp2
              go_ret
              exact ⟨rfl, by rw [HR.out]; exact S10.out.low⟩
open Go.ChangeShapes Go.WideShapes Go.ChangeAt Go.RowKit Go.Joins

/-! ### From the walk to the statement -/
theorem contract (H : Type) (enc : TypeId × Value → H) (W : World) (base : Nat) (args : Array Value) (ds gs : List (DataW H)) (before : List MemPlace)
    (hval : ∀ (j : Nat) t v, Tryd.f5.params[j]? = some t → args[j]? = some v → Value.okWide Tryd.prog W .any base t v)
    (hW : DataW.Whole enc Tryd.prog Tryd.f5.params.toList Rows.readyTurnsSpec.vars false W args.toList ds gs before) (hL : laidMetH Tryd.prog Rows.readyTurnsRow.laid W) :
    Calls Tryd.prog 5 args W fun e W' => ∃ v, e = .returned v ∧ Rows.readyTurnsSpec.post enc Tryd.prog Tryd.f5 false true false false W args v W' := by
  have hW' := hW
  obtain ⟨p, q, hA0, hV, rfl, hfz, hnd⟩ := hW
  have hA : DataW.TrodAll enc Tryd.prog W 0 (fun _ => true) true Tryd.f5.params.toList args.toList ds p := hA0
  rw [Tryd.params5] at hA hval
  obtain ⟨v0, vs0, d0, ds0, p0, q0, hargs, rfl, rfl, h0, r0⟩ := trodAll_cons hA
  obtain ⟨v1, vs1, d1, ds1, p1, q1, rfl, rfl, rfl, h1, r1⟩ := trodAll_cons r0
  obtain ⟨rfl, rfl, rfl⟩ := trodAll_nil r1
  obtain rfl : args = #[v0, v1] := by cases args; simp_all
  obtain ⟨rfl, rfl⟩ := trodVars_none hV
  have k0 := h0
  have lt0 : ∀ x ∈ p0, x.block < W.heap.size := by obtain ⟨m, hm⟩ := k0; exact DataW.trod_lt m _ _ _ hm
  have k1 := h1
  have lt1 : ∀ x ∈ p1, x.block < W.heap.size := by obtain ⟨m, hm⟩ := k1; exact DataW.trod_lt m _ _ _ hm
  obtain ⟨a0, l0, c0, rfl, t0, s0⟩ := open_ints (hval 0 38 v0 rfl rfl) h0
  obtain ⟨a1, rfl, _, _, w1⟩ := open_int Tryd.underlying3 (hval 1 3 v1 rfl rfl) h1
  clear hA0
  refine (walk a0 l0 c0 a1 W (table hL) t0 s0 (bounds_i64 w1)).mono fun e W' ⟨he, bel⟩ => ?_
  subst he
  exact ⟨_, rfl, _, _, _, [], _, [], hW', trodAll_mk1 (shut_bool Tryd.underlying4 _), (trodAll_cons_mk (Below.trod laidOut (by kernel_rfl) (of_decide_eq_true (by kernel_rfl)) k0 bel lt0) (trodAll_cons_mk (Below.trod laidOut (by kernel_rfl) (of_decide_eq_true (by kernel_rfl)) k1 bel lt1) trodAll_mk0)), rfl, bel.frame _, fun h => by cases h⟩

theorem laid_met (os : Os) : laidMet Tryd.prog Rows.readyTurnsRow.laid ((World.doorLaid Tryd.prog 40 os).forCall (fun _ _ => 0) ⟨#[], #[.slice none 0 0, .int .i64 0], []⟩).memory :=
  laidMet_of_run' 8 (by kernel_rfl) (by kernel_rfl)
theorem reads (os : Os) {H : Type} (enc : TypeId × Value → H) : ∃ places, DataW.whole enc Tryd.prog ((World.doorLaid Tryd.prog 40 os).forCall (fun _ _ => 0) ⟨#[], #[.slice none 0 0, .int .i64 0], []⟩).memory Tryd.f5.params.toList Rows.readyTurnsSpec.vars false (#[.slice none 0 0, .int .i64 0] : Array Value).toList 8 = some ([.nil, .lit (.int .i64 0)], [], places) :=
  ⟨[], by kernel_rfl⟩
set_option maxRecDepth 100000 in
theorem lifted (os : Os) (started : os.Started) (H : Type) (enc : TypeId × Value → H) (F : Stop.Interp) :
    ReturnsInHanded {} Tryd.checked os 5 .any ((OpenSpec.ofChange Rows.readyTurnsSpec).preRow enc Tryd.prog Tryd.f5 Rows.readyTurnsRow.domain false Rows.readyTurnsRow.laid) (((OpenSpec.ofChange Rows.readyTurnsSpec).at F).post enc Tryd.prog Tryd.f5 false true false false) := by
  obtain ⟨places, hx⟩ := reads os enc
  refine returnsInHanded_of_row (C := Tryd.checked) (s := OpenSpec.ofChange Rows.readyTurnsSpec) own started (by kernel_rfl) Tryd.func5
    (witness_row_at (enc := enc) (C := Tryd.checked) false (World.doorLaid Tryd.prog 40 os) #[.slice none 0 0, .int .i64 0] rfl (by kernel_rfl) (by kernel_rfl) (by kernel_rfl)
      (OpenSpec.preRow_of_cond 8 hx (by kernel_rfl) (fun k hk => by cases hk) (by kernel_rfl) (laid_met os))) ?_
  intro W base args ds gs before hval hW _ _ _ hL _ _
  exact contract H enc W base args ds gs before hval hW hL
theorem said : Rows.ReadyTurnsSaid :=
  OpenClaim.holds_of_cond 5 Tryd.f5 rfl rfl rfl rfl rfl rfl rfl ⟨rfl, rfl, rfl, rfl, rfl⟩ rfl rfl rfl rfl rfl (by kernel_rfl) Tryd.func5 (by kernel_rfl)
    (of_decide_eq_true (by kernel_rfl)) (by unfold Func.isWrapper; first | (rw [if_pos (by decide +kernel)]; kernel_rfl) | (rw [if_neg (by decide +kernel)]; exact ⟨rfl, rfl⟩))
    (fun os started H enc _ F => by rw [OpenClaim.pre_eq_preRow]; exact lifted os started H enc F)
theorem plain (f : FuncId) (fn : Func) (hf : Tryd.pinned.checked.prog.funcNamed "buttress/buttresslaw09.ReadyTurns" = some f) (hfn : Tryd.pinned.checked.prog.funcs[f]? = some fn) :
    false = Tryd.pinned.checked.prog.looks [] ∧ ∀ (j : Nat) t, fn.params[j]? = some t → Tryd.pinned.checked.prog.wantsStandIn t = false := by
  obtain rfl : f = 5 := Option.some.inj ((show Tryd.prog.funcNamed "buttress/buttresslaw09.ReadyTurns" = some 5 by kernel_rfl).symm.trans hf) |>.symm
  obtain rfl : fn = Tryd.f5 := (Option.some.inj (Tryd.func5.symm.trans hfn)).symm
  refine ⟨by kernel_rfl, fun j t ht => ?_⟩
  rw [Tryd.params5] at ht
  have hm : t ∈ [38, 3] := by simpa using Array.mem_of_getElem? ht
  have hall : ([38, 3].all fun u => !Tryd.prog.wantsStandIn u) = true := by kernel_rfl
  exact (show Tryd.prog.wantsStandIn t = false by simpa using List.all_eq_true.1 hall t hm)
end Go.Proofs.YtnjmjhmngjodcaaDoor.readyTurns
namespace Go.Proofs.YtnjmjhmngjodcaaDoor
/-- THE CARD. -/
theorem readyTurns_card : Rows.ReadyTurnsCardSaid :=
  Claim7.holds_tied_plain_at .later [] _ _ _ _ readyTurns.said (fun _ h => by cases h) (by kernel_rfl) (fun _ h => by cases h) readyTurns_row_tie rfl ⟨rfl, rfl⟩ (by kernel_rfl) rfl readyTurns.plain (by kernel_rfl)
#print axioms readyTurns_card
end Go.Proofs.YtnjmjhmngjodcaaDoor

/-
  EndpointOrder: those that wait to send are received in the order in which they came, each with its own message; no condition.
-/
import Derived.Test.YtnondgeengjbpaaJOrd
import Derived.Deep.Cut
import Derived.Deep.CutRange
namespace Go.Proofs.Ytnondgeengjbpaa.endpointOrder
open Go.RowKit Go.Deep Go.Shelf
open Classical
set_option maxHeartbeats 16000000 in
set_option maxRecDepth 100000 in
theorem walk (ao : Option Addr) (X : List Oc) (cap : Nat) (w : World) (hX : Ops w ao X) (_hxl : X.length ≤ 9223372036854775807) :
    Calls Try.prog 6 #[.slice ao X.length cap] w fun e w' => e = .returned (.bool true) ∧ Below w.heap.size w w' := by
  have HX := hid hX
  clear hX
  go_enter Try.func6, Try.ntmps6
  go_wp2_with fail
  refine Calls.mono (new_sep (sep_nil w)) ?_
  rintro e w1 ⟨p, v, rfl, s1⟩
  have s2 := (Sep.made (E := elO) s1).swap
  simp only [elO] at s2
  have S1 := hid s2
  clear s1 s2
  generalize hr : w.heap.size = r at *
  have HR := hid hr
  clear hr
  go_wp2_with fail
  go_loopw [4, 5] (fun s4 s5 wr => ∃ (k : Nat) (v : Value) (D : List Oc), k ≤ 30 ∧ s5 = .int .i64 k ∧ D.length ≤ k ∧ Sep w r wr [epT p v (D.map toW), lst elO s4 D]) (fun _ s5 _ => 30 - (intOf s5).toNat)
  case atStart => exact ⟨0, v, [], by omega, rfl, by simp, S1.out⟩
  case round =>
    clear S1
    obtain ⟨k, v, D, hk, rfl, hS, s1⟩ := hrel
    obtain ⟨a4, c4, rfl⟩ := s1.listIs (E := elO) (v := u4) (A := D) (by simp)
    have S1 := hid s1
    clear s1
    by_cases hgo : k < X.length ∧ k < 30
    · obtain ⟨hlt, h40⟩ := hgo
      have HAT := hid (fun (W : World) (h : Below r w W) => Ops.at (SeeK.below HX.out h (by rw [HR.out]; exact Nat.le_refl _)) (List.getElem?_eq_getElem hlt))
      obtain ⟨-, b, a, rfl, d0, d1, d2, d3, d4, d5, d6, d7, d8, d9⟩ := HAT.out wr S1.out.low
      generalize hx : X[k] = x at *
      have HSl : Hid ((D.map toW).length ≤ k) := by show _ ≤ _; rw [List.length_map]; exact hS
      clear hx hS d0 d9
      generalize hn : X.length = n at *
      have hltz : (k : Int) < (n : Int) := by omega
      have h40z : (k : Int) < 30 := by omega
      obtain ⟨E, hE⟩ : ∃ E, sendE (D.map toW) x.n = E := ⟨_, rfl⟩
      obtain ⟨T, hT⟩ : ∃ T, sendS (D.map toW) x.n x.m true = T := ⟨_, rfl⟩
      obtain ⟨Y, hY⟩ : ∃ Y, sendM (D.map toW) x.n x.m = Y := ⟨_, rfl⟩
      have HD : Hid (sendE (D.map toW) x.n = E ∧ sendS (D.map toW) x.n x.m true = T ∧ sendM (D.map toW) x.n x.m = Y) := ⟨hE, hT, hY⟩
      have HQ := hid (sn_send (sn_map D) x.n x.m)
      rw [hE, hT] at HQ
      clear hE hT hY
      go_wp2_with fail
      go_cut [6, 7] from 28 to 42 (fun s6 s7 wx => ∃ q v2, s6 = .pointer (some ⟨q, 0, none⟩) ∧ s7 = .int .i64 E ∧ Sep w r wx [epT p v2 T, lst elO (.slice a4 D.length c4) D])
      case first =>
        have hob : objT mt0 = .cells #[.bool false, .int .i64 0, .int .i64 0, .int .i64 0, .int .u64 0, .int .u64 0, .int .u64 0, .int .u64 0, .int .u64 0, .bool false] 37 := rfl
        have sb := (S1.out.box (objT mt0)).swap.drew
        rw [hob] at sb
        have SB := hid sb
        clear sb
        have D1 := cell_al d1 (.cells #[.bool false, .int .i64 0, .int .i64 0, .int .i64 0, .int .u64 0, .int .u64 0, .int .u64 0, .int .u64 0, .int .u64 0, .bool false] 37)
        have D2 := cell_al d2 (.cells #[.bool false, .int .i64 0, .int .i64 0, .int .i64 0, .int .u64 0, .int .u64 0, .int .u64 0, .int .u64 0, .int .u64 0, .bool false] 37)
        have D3 := cell_al d3 (.cells #[.bool false, .int .i64 0, .int .i64 0, .int .i64 0, .int .u64 0, .int .u64 0, .int .u64 0, .int .u64 0, .int .u64 0, .bool false] 37)
        have D4 := cell_al d4 (.cells #[.bool false, .int .i64 0, .int .i64 0, .int .i64 0, .int .u64 0, .int .u64 0, .int .u64 0, .int .u64 0, .int .u64 0, .bool false] 37)
        have D5 := cell_al d5 (.cells #[.bool false, .int .i64 0, .int .i64 0, .int .i64 0, .int .u64 0, .int .u64 0, .int .u64 0, .int .u64 0, .int .u64 0, .bool false] 37)
        have D6 := cell_al d6 (.cells #[.bool false, .int .i64 0, .int .i64 0, .int .i64 0, .int .u64 0, .int .u64 0, .int .u64 0, .int .u64 0, .int .u64 0, .bool false] 37)
        have D7 := cell_al d7 (.cells #[.bool false, .int .i64 0, .int .i64 0, .int .i64 0, .int .u64 0, .int .u64 0, .int .u64 0, .int .u64 0, .int .u64 0, .bool false] 37)
        have D8 := cell_al d8 (.cells #[.bool false, .int .i64 0, .int .i64 0, .int .i64 0, .int .u64 0, .int .u64 0, .int .u64 0, .int .u64 0, .int .u64 0, .bool false] 37)
        go_region_with (first
          | (go_at_call 10; (with_reducible refine Calls.mono (send_is SB.out x.n x.m true (by have := HSl.out; omega) HD.out.2.2 HD.out.1 HD.out.2.1) ?_); rintro e w2 ⟨rfl, v2, s2⟩; rw [← hob] at s2; have Z := (s2.each (blk wr.heap.size (objT mt0)) (by simp)).1; obtain ⟨z0, z1, z2, z3, z4, z5, z6, z7, z8, z9⟩ := (atT_of (x := mt0) Z).cells; have zf := frozenT (x := mt0) Z; have S5 := hid ((s2.swap.putT Y).drop); clear Z s2; unfold put10 at S5; simp only [mt0, ms0] at z0 z1 z2 z3 z4 z5 z6 z7 z8 z9)
          | (go_at_call 10; (with_reducible refine Calls.mono (send_is S1.out.drew x.n x.m true (by have := HSl.out; omega) HD.out.2.2 HD.out.1 HD.out.2.1) ?_); rintro e w2 ⟨rfl, v2, s2⟩; have S5 := hid (s2.box (objT Y)).drop; clear s2))
        all_goals go_wp2_with fail
        all_goals go_meet
        all_goals exact ⟨_, _, rfl, rfl, S5.out⟩
      case rest =>
        obtain ⟨q, v2, rfl, rfl, s3⟩ := hcut
        have S3 := hid s3
        obtain ⟨-, _, _, ee, f0, f1, f2, f3, f4, f5, f6, f7, f8, f9⟩ := HAT.out _ s3.low
        cases ee
        clear s3 S1 d1 d2 d3 d4 d5 d6 d7 d8
        rcases HQ.out with ⟨rfl, rfl⟩ | ⟨rfl, hT⟩
        · clear HQ f0 f1 f2 f3 f4 f5 f6 f7 f8 f9
          go_wp2
          go_round
          case rel => exact ⟨k + 1, v2, D, by omega, by go_num, by have := HSl.out; rw [List.length_map] at this; omega, S3.out⟩
          case measure => simp [intOf]; omega
        · obtain ⟨v4, w4, r4, s4⟩ := S3.out.swap.more okO 22 x (C := #[.int .i64 x.k, .int .i64 x.n, .int .i64 x.m.l, .int .u64 x.m.a, .int .u64 x.m.b, .int .u64 x.m.c, .int .u64 x.m.d, .int .u64 x.m.g, .bool x.m.q, .bool x.z]) rfl (by have := HSl.out; rw [List.length_map] at this; omega)
          simp only [elO] at r4
          have R4 := hid r4
          have HTT : Hid ((D ++ [x]).map toW = T) := by show _ = _; rw [hT, List.map_append]; rfl
          have S4 := hid s4.swap
          clear r4 s4 hT HQ
          go_wp2_with (at_builtin; refine wpList_append_run rfl _ _ _ _ rfl _ _ _ _ rfl rfl R4.out ?_)
          go_round
          case rel => exact ⟨k + 1, v2, D ++ [x], by omega, by go_num, by have := HSl.out; rw [List.length_map] at this; simp; omega, by rw [HTT.out]; exact S4.out⟩
          case measure => simp [intOf]; omega
    · have hex : (¬ ((k : Int) < (X.length : Int))) ∨ ((k : Int) < (X.length : Int) ∧ ¬ ((k : Int) < 30)) := by omega
      have HDl : Hid (D.length ≤ 30) := (Nat.le_trans hS hk)
      clear hgo hS
      generalize hn : X.length = nX at *
      generalize hm : D.length = m at *
      have HM : Hid (D.length = m) := hm
      have hm30 : m ≤ 30 := HDl.out
      clear hm
      rcases hex with h | ⟨h, h2⟩
      all_goals
        go_wp2_with fail
        go_loopw [8] (fun s8 wr => ∃ (i : Nat) (v : Value), i ≤ m ∧ s8 = .int .i64 i ∧ Sep w r wr [epT p v ((D.drop i).map toW), lst elO (.slice a4 m c4) D]) (fun s8 _ => m - (intOf s8).toNat)
        case atStart => exact ⟨0, v, by omega, rfl, S1.out⟩
        case round =>
          clear S1
          obtain ⟨i, v3, hi, rfl, s4⟩ := hrel
          by_cases hlt : i < m
          · have hltz : (i : Int) < (m : Int) := by omega
            have hiD : i < D.length := by have := HM.out; omega
            have hx := List.getElem?_eq_getElem hiD
            have hd : D.drop i = D[i] :: D.drop (i + 1) := List.drop_eq_getElem_cons hiD
            obtain ⟨g4, rfl, -⟩ := s4.listAt okO (ao := a4) (n := m) (cap := c4) (A := D) (by simp) hx
            have row : Row elO wr (.slice (some ⟨g4, 0, none⟩) m c4) D := (s4.each (lst elO (.slice (some ⟨g4, 0, none⟩) m c4) D) (by simp)).1
            obtain ⟨_, cap', ev, hcap, hcap2, -⟩ := row.slice
            obtain ⟨-, -, hcc⟩ := Value.slice.inj ev
            subst hcc
            rw [HM.out] at hcap
            have S4 := hid s4
            have HX1 := hid hx
            have HD1 := hid hd
            have hw1 : ∀ z : Int, 1099511627776 ≤ z → z ≤ 1099511627806 → IntKind.i64.wrap (z + 1) = z + 1 := fun z h1 h2 => by
              unfold IntKind.wrap
              simp [IntKind.bits, IntKind.signed]
              omega
            have HW := hid hw1
            clear s4 row hx hd hw1 ev
            generalize D[i] = x at *
            clear hiD
            obtain ⟨P, hP⟩ : ∃ P, D.drop i = P := ⟨_, rfl⟩
            have HP := hid hP
            rw [hP] at S4 HD1
            clear hP
            go_wp2_with fail
            go_loopw [9] (fun s9 wr => ∃ z : Int, s9 = .int .i64 z ∧ 1099511627776 ≤ z ∧ z + (cnt P z : Int) ≤ 1099511627806 ∧ Sep w r wr [epT p v3 (P.map toW), lst elO (.slice (some ⟨g4, 0, none⟩) m c4) D]) (fun s9 _ => cnt P (intOf s9))
            case atStart => exact ⟨1099511627776, rfl, by omega, by have h1 := cnt_le P 1099511627776; have h2 : P.length ≤ 30 := (by rw [← HP.out, List.length_drop]; have := HM.out; omega); omega, S4.out⟩
            case round =>
              clear S4
              obtain ⟨z, rfl, hz1, hz2, s5⟩ := hrel
              have hiz : (0 : Int) ≤ (i : Int) := by omega
              have hic : i ≤ m := hi
              have row : Row elO wr (.slice (some ⟨g4, 0, none⟩) m c4) D := (s5.each (lst elO (.slice (some ⟨g4, 0, none⟩) m c4) D) (by simp)).1
              have see : SeeO wr (some ⟨g4, i * 10, none⟩) P := fun j y hy => by
                have hDj : D[i + j]? = some y := by rw [← HP.out, List.getElem?_drop] at hy; exact hy
                refine ⟨g4, i * 10, rfl, ?_⟩
                have := Row.cell okO row hDj (j := 1) (c := .int .i64 y.n) rfl
                rw [show elO.k = 10 from rfl] at this
                rw [show i * 10 + j * 10 + 1 = (i + j) * 10 + 1 by omega]
                exact this
              have HPl : P.length = m - i := by rw [← HP.out, List.length_drop, HM.out]
              have HT := hid (thereL_any (some ⟨g4, i * 10, none⟩) (c4 - i) P z wr see (by omega))
              rw [HPl] at HT
              have S5 := hid s5
              have HZ := hid (And.intro hz1 hz2)
              have hwz := HW.out z hz1 (by omega)
              have him : (i : Int) ≤ (m : Int) := by omega
              have HPl' := hid HPl
              clear s5 row see HPl hz1 hz2
              cases hb : anO P z with
              | true =>
                rw [hb] at HT
                have HL := hid (And.intro (cnt_less P z hb) (cnt_mono P z))
                clear hb
                go_wp2_with fail
                refine Calls.mono HT.out ?_
                rintro e w6 ⟨rfl, rfl⟩
                go_wp2
                go_round
                case rel => exact ⟨z + 1, rfl, by have := HZ.out; omega, by have := HZ.out; have := HL.out; omega, S5.out⟩
                case measure =>
                  have := HL.out.1
                  simpa [intOf] using this
              | false =>
                rw [hb] at HT
                have HB := hid hb
                clear hb
                go_wp2_with fail
                refine Calls.mono HT.out ?_
                rintro e w6 ⟨rfl, rfl⟩
                have hP2 : P.map toW = toW x :: (D.drop (i + 1)).map toW := by rw [HD1.out]; rfl
                have hth : thB (toW x :: (D.drop (i + 1)).map toW) z = false := by rw [← hP2, anO_thB]; exact HB.out
                have HM3 : Hid (sendE (P.map toW) z = 0 ∧ recvM (P.map toW) z = ⟨true, x.n, z, x.m⟩ ∧ recvS (P.map toW) z false = (D.drop (i + 1)).map toW) := by
                  rw [hP2]
                  rcases sn_recv (x := toW x) (T := (D.drop (i + 1)).map toW) rfl z with ⟨hE, _⟩ | hh
                  · unfold sendE at hE
                    rw [hth] at hE
                    cases hE
                  · exact hh
                clear hP2 hth
                go_wp2_with fail
                refine Calls.mono (recv_is S5.out z false (by rw [List.length_map]; have := HPl'.out; omega) HM3.out.2.1 HM3.out.1 HM3.out.2.2) ?_
                rintro e w7 ⟨rfl, v7, s7⟩
                have s8 := (s7.box (objT ⟨true, x.n, z, x.m⟩)).swap
                have S8 := hid s8
                have hob : objT ⟨true, x.n, z, x.m⟩ = .cells #[.bool true, .int .i64 x.n, .int .i64 z, .int .i64 x.m.l, .int .u64 x.m.a, .int .u64 x.m.b, .int .u64 x.m.c, .int .u64 x.m.d, .int .u64 x.m.g, .bool x.m.q] 37 := rfl
                generalize hw8 : w7.alloc (objT ⟨true, x.n, z, x.m⟩) = w8 at *
                rw [hob] at hw8
                have HW8 := hid hw8
                have gy := fun (p : Grw w8) => (atT_of (x := ⟨true, x.n, z, x.m⟩) ((s8.grw p).each (blk w7.heap.size (objT ⟨true, x.n, z, x.m⟩)) (by simp)).1).cells
                have gr := fun (p : Grw w8) (j : Nat) (c : Value) (hj : (cO x)[j]? = some c) => Row.cell okO ((s8.grw p).each (lst elO (.slice (some ⟨g4, 0, none⟩) m c4) D) (by simp)).1 HX1.out hj
                have gy0 := fun p => (gy p).1
                have gy1 := fun p => (gy p).2.1
                have gy2 := fun p => (gy p).2.2.1
                have gy3 := fun p => (gy p).2.2.2.1
                have gy4 := fun p => (gy p).2.2.2.2.1
                have gy5 := fun p => (gy p).2.2.2.2.2.1
                have gy6 := fun p => (gy p).2.2.2.2.2.2.1
                have gy7 := fun p => (gy p).2.2.2.2.2.2.2.1
                have gy8 := fun p => (gy p).2.2.2.2.2.2.2.2.1
                have gy9 := fun p => (gy p).2.2.2.2.2.2.2.2.2
                have gr1 : ∀ p : Grw w8, p.val.cell? ⟨g4, i * 10 + 1, none⟩ = some (.int .i64 x.n) := fun p => gr p 1 _ rfl
                have gr2 : ∀ p : Grw w8, p.val.cell? ⟨g4, i * 10 + 2, none⟩ = some (.int .i64 x.m.l) := fun p => gr p 2 _ rfl
                have gr3 : ∀ p : Grw w8, p.val.cell? ⟨g4, i * 10 + 3, none⟩ = some (.int .u64 x.m.a) := fun p => gr p 3 _ rfl
                have gr4 : ∀ p : Grw w8, p.val.cell? ⟨g4, i * 10 + 4, none⟩ = some (.int .u64 x.m.b) := fun p => gr p 4 _ rfl
                have gr5 : ∀ p : Grw w8, p.val.cell? ⟨g4, i * 10 + 5, none⟩ = some (.int .u64 x.m.c) := fun p => gr p 5 _ rfl
                have gr6 : ∀ p : Grw w8, p.val.cell? ⟨g4, i * 10 + 6, none⟩ = some (.int .u64 x.m.d) := fun p => gr p 6 _ rfl
                have gr7 : ∀ p : Grw w8, p.val.cell? ⟨g4, i * 10 + 7, none⟩ = some (.int .u64 x.m.g) := fun p => gr p 7 _ rfl
                have gr8 : ∀ p : Grw w8, p.val.cell? ⟨g4, i * 10 + 8, none⟩ = some (.bool x.m.q) := fun p => gr p 8 _ rfl
                have q1 : ∀ W, (Op.equalIn 10000 33 (encM x.m) (encM x.m)).run Try.prog W = .ok true W := fun W => by have := eq_msg 9997 W x.m x.m; rw [decide_eq_true rfl] at this; exact this
                unfold encM at q1
                clear hw8 hob s7 s8 S5 gy gr HT
                go_wp2_with (rw [HW8.out]; generalize w7.heap.size = q7 at *; clear HW8)
                (try simp only [List.append_eq, List.cons_append, List.nil_append])
                have hgi : ∀ u : World, Inhabited (Grw u) := grw0
                refine wp_region_grw (by kernel_rfl) (by kernel_rfl) ?_
                repeat (go_big_quiet_step (fail))
                refine wpQuiet_nil ?_
                intro _ hw'
                obtain ⟨p9, hw''⟩ := hw'
                subst hw''
                have S10 := hid (S8.out.grw p9)
                go_wp2
                go_round
                case rel => exact ⟨i + 1, v7, by omega, by go_num, S10.out.drop2⟩
                case measure => simp [intOf]; omega
          · have hltz : ¬ (i : Int) < (m : Int) := by omega
            rw [List.drop_of_length_le (by have := HM.out; omega), List.map_nil] at s4
            have S4 := hid s4
            clear s4
            go_wp2_with fail
            refine Calls.mono (waits_is (L := []) (b := false) S4.out (by decide) rfl rfl) ?_
            rintro e w5 ⟨a5, c5, rfl, s5⟩
            have S5 := hid s5
            clear s5 S4
            go_wp2_with (go_at_call 22; refine Calls.mono (fixed_sep S5.out) ?_; rintro e w6 ⟨rfl, s6⟩; have S6 := hid s6; clear s6)
            go_ret
            exact ⟨rfl, by rw [HR.out]; exact S6.out.low⟩
open Go.ChangeShapes Go.WideShapes Go.ChangeAt Go.RowKit Go.Joins

/-! ### From the walk to the statement -/
set_option maxRecDepth 100000 in
theorem lifted (os : Os) (started : os.Started) (H : Type) (enc : TypeId × Value → H) :
    ReturnsInHanded {} Try.checked os 6 .any (Rows.endpointOrderSpec.pre6 enc Try.prog Try.f6 Rows.endpointOrderRow.domain false) (Rows.endpointOrderSpec.post enc Try.prog Try.f6 false true false false) := by
  refine returnsInHanded_of_change (C := Try.checked) own started (by kernel_rfl) Try.func6
    (ChangeSpec.witness6 (enc := enc) (C := Try.checked) false ⟨#[], #[.slice none 0 0], []⟩ 8 (by kernel_rfl) (by kernel_rfl) (by kernel_rfl) (by kernel_rfl)) ?_
  intro W base args ds gs before hval0 hW hcnd _
  have hval : ∀ (j : Nat) t v, Try.f6.params[j]? = some t → args[j]? = some v → Value.okWide Try.prog W .any base t v := hval0
  have hW' := hW
  obtain ⟨p, q, hA0, hV, rfl, hfz, hnd⟩ := hW
  have hA : DataW.TrodAll enc Try.prog W 0 (fun _ => true) true Try.f6.params.toList args.toList ds p := hA0
  rw [Try.params6] at hA hval
  obtain ⟨v0, vs0, d0, ds0, p0, q0, hargs, rfl, rfl, h0, r0⟩ := trodAll_cons hA
  obtain ⟨rfl, rfl, rfl⟩ := trodAll_nil r0
  obtain rfl : args = #[v0] := by cases args; simp_all
  obtain ⟨rfl, rfl⟩ := trodVars_none hV
  have k0 := h0
  have lt0 : ∀ x ∈ p0, x.block < W.heap.size := by obtain ⟨m, hm⟩ := k0; exact DataW.trod_lt m _ _ _ hm
  obtain ⟨a0, l0, c0, rfl, t0, s0⟩ := open_ops (hval 0 22 v0 rfl rfl) h0
  clear hA0 hval0
  refine (walk a0 l0 c0 W t0 s0).mono fun e W' ⟨he, bel⟩ => ?_
  subst he
  exact ⟨_, rfl, _, _, _, [], _, [], hW', trodAll_mk1 (shut_bool Try.underlying4 _), (trodAll_cons_mk (Below.trod laidOut (by kernel_rfl) (of_decide_eq_true (by kernel_rfl)) k0 bel lt0) trodAll_mk0), rfl, bel.frame _, fun h => by cases h⟩
theorem over : Rows.endpointOrderRow.holds Try.pinned (OpenSpec.ofChange Rows.endpointOrderSpec) :=
  OpenClaim.holds_of_wide 6 Try.f6 rfl rfl rfl rfl rfl rfl rfl ⟨rfl, rfl, rfl, rfl, rfl⟩ rfl rfl rfl rfl rfl (by kernel_rfl) Try.func6 (by kernel_rfl)
    (of_decide_eq_true (by kernel_rfl)) (by unfold Func.isWrapper; first | (rw [if_pos (by decide +kernel)]; kernel_rfl) | (rw [if_neg (by decide +kernel)]; exact ⟨rfl, rfl⟩))
    (fun os started H enc _ => lifted os started H enc)
end Go.Proofs.Ytnondgeengjbpaa.endpointOrder
namespace Go.Proofs.Ytnondgeengjbpaa
/-- THE STATEMENT. -/
theorem endpointOrder_said : Rows.EndpointOrderSaid := endpointOrder.over
#print axioms endpointOrder_said
end Go.Proofs.Ytnondgeengjbpaa

/-
  ScriptBack answers true for every input; no condition of ours.
-/
import Derived.Test.YtkbbjpnkfmegnaaSCut
namespace Go.Proofs.Ytkbbjpnkfmegnaa.scriptBack
open Go.RowKit Go.Deep
theorem own_none {B : Nat} {w : World} {ao : Option Addr} {n cap : Nat} {L : List It} (h : OwnI B w (.slice ao n cap) L) : ao = none → cap = 0 := by
  rintro rfl
  obtain ⟨_, ⟨e, _⟩ | ⟨g, cp, cur, e, _⟩⟩ := h
  · simp only [Value.slice.injEq] at e
    exact e.2.2
  · simp at e
set_option maxHeartbeats 4000000 in
theorem walk (ao : Option Addr) (L : List It) (cap : Nat) (l : List Int) (c : Int) (w : World) (hT : ToldI w ao L) (_hl : L.length ≤ 9223372036854775807) (hu : L.length ≤ cap) (_hz : ao = none → cap = 0) (_hy : cap ≤ 9223372036854775807) (hb : Bytes8 l) (_hs : l.length ≤ 9223372036854775807) (_hc : I64 c) :
    Calls Try.prog 5 #[.slice ao L.length cap, .string (strOfNums l), .int .i64 c] w fun e w' => e = .returned (.bool true) ∧ Below w.heap.size w w' := by
  have hcut := run_cut_items ao L.length cap .i64
  have hcut2 := run_cut_str Try.prog 9 Try.underlying9 (strOfNums l) .i64
  have hz2 := strOfNums_size l
  obtain ⟨L', hL', hT', hl', hc'⟩ : ∃ L' : List It, L.take 100 = L' ∧ ToldI w ao L' ∧ L'.length ≤ 100 ∧ L'.length ≤ cap := ⟨_, rfl, hT.take 100, by simp; omega, by simp; omega⟩
  have o0 := ownI_new w.heap.size w (Nat.le_refl _)
  have b0 := below_new w (.cells #[] 29)
  go_enter Try.func5, Try.ntmps5
  rcases Nat.lt_or_ge 100 L.length with hh | hh <;> rcases Nat.lt_or_ge 400 l.length with gg | gg
  all_goals first | (have h1 : (100 : Int) < (L.length : Int) := by omega) | (have h1 : (L.length : Int) ≤ 100 := by omega)
  all_goals first | (have g1 : (400 : Int) < (l.length : Int) := by omega) | (have g1 : (l.length : Int) ≤ 400 := by omega)
  all_goals first | (have hn : 100 = L'.length := by rw [← hL']; simp; omega) | (have hn : L.length = L'.length := by rw [← hL']; simp; omega)
  all_goals have HN : Hid _ := hn
  all_goals clear hn
  all_goals go_wp2
  all_goals rw [str_extract, HN.out]
  all_goals simp only [List.drop_zero, Nat.sub_zero]
  all_goals try rw [show List.take l.length l = List.take 400 l by rw [List.take_of_length_le (Nat.le_refl _), List.take_of_length_le (by omega)]]
  all_goals generalize hlx : l.take 400 = l'
  all_goals have hb' : Bytes8 l' := hlx ▸ hb.take _
  all_goals have hn' : l'.length ≤ 400 := by rw [← hlx]; simp; omega
  all_goals (
    clear hcut hcut2 hz2 hT _hl hu _hz _hy hb _hs hL' hc' h1 g1 hh gg hlx HN
    have HT : Hid (ToldI w ao L') := hT'
    have HL : Hid (L'.length ≤ 100) := hl'
    clear hT' hl'
    generalize hn : L'.length = n at *
    have HN : Hid (L'.length = n) := hn
    clear hn
    generalize w.alloc (.cells #[] 29) = w0 at *
    obtain ⟨r, hr⟩ : ∃ r, w.heap.size = r := ⟨_, rfl⟩
    have HR : Hid (w.heap.size = r) := hr
    rw [hr] at o0 b0 ⊢
    clear hr
    go_loopw [7, 8] (fun v i wr => ∃ k : Nat, k ≤ n ∧ i = .int .i64 (k : Int) ∧ OwnI r wr v (pick c (L'.take k)) ∧ Below r w wr ∧ r ≤ wr.heap.size) (fun _ i _ => n - (intOf i).toNat)
    case atStart => exact ⟨0, Nat.zero_le _, rfl, by simpa [pick] using o0, b0, by have := b0.size; have := HR.out; omega⟩
    case round =>
      obtain ⟨k, hk, rfl, ho, br, hrw⟩ := hrel
      clear o0 b0
      obtain ⟨av, cv, rfl⟩ := ho.slice
      by_cases hkn : k < n
      · obtain ⟨x, hx⟩ : ∃ x, L'[k]? = some x := ⟨_, List.getElem?_eq_getElem (by have := HN.out; omega)⟩
        have HX : Hid (L'[k]? = some x) := hx
        obtain ⟨b, o, rfl, hb, hc⟩ : ∃ b o, ao = some ⟨b, o, none⟩ ∧ b < w.heap.size ∧ _ := HT.out.resolve_left (by intro h; rw [h] at hx; simp at hx)
        have hcs : ∀ W, Below r w W → W.cell? ⟨b, o + k * 4, none⟩ = some (.int .i64 x.k) ∧ W.cell? ⟨b, o + k * 4 + 1, none⟩ = some (.int .i64 x.c) ∧ W.cell? ⟨b, o + k * 4 + 2, none⟩ = some (.int .i64 x.a) ∧ W.cell? ⟨b, o + k * 4 + 3, none⟩ = some (.int .i64 x.b) := fun W hW => by
          obtain ⟨q0, q1, q2, q3⟩ := hc k x hx
          rw [HR.out] at hb
          exact ⟨(hW.cell (p := ⟨b, o + k * 4, none⟩) hb).trans q0, (hW.cell (p := ⟨b, o + k * 4 + 1, none⟩) hb).trans q1, (hW.cell (p := ⟨b, o + k * 4 + 2, none⟩) hb).trans q2, (hW.cell (p := ⟨b, o + k * 4 + 3, none⟩) hb).trans q3⟩
        obtain ⟨c0, c1, c2, c3⟩ := hcs wr br
        have hki : (k : Int) < (n : Int) := by omega
        have hwk : IntKind.i64.wrap ((k : Int) + 1) = (k : Int) + 1 := by have := HL.out; rw [IntKind.wrap_i64] <;> omega
        have hb3 := below_new wr (objI x)
        have ho3 := ho.below hb3
        have br3 := Below.then br hb3 hrw
        have hrw3 : r ≤ (wr.alloc (objI x)).heap.size := by simp; omega
        obtain ⟨W3, hW3⟩ : ∃ W3, wr.alloc (objI x) = W3 := ⟨_, rfl⟩
        rw [hW3] at ho3 br3 hrw3
        obtain ⟨d0, d1, d2, d3⟩ := hcs W3 br3
        clear hc hcs hx hb3 ho br
        have hlen : (pick c (L'.take k)).length + 1 ≤ 1000 := by
          have h1 := pick_len c (L'.take k); have h2 : (L'.take k).length ≤ k := by simp; omega
          have := HL.out; omega
        cases hrt : rightB c x with
        | true =>
          have HRt : Hid (rightB c x = true) := hrt
          clear hrt
          have hT4 : ToldI (W3.alloc (objI x)) (some ⟨W3.heap.size, 0, none⟩) [x] := .inr ⟨_, 0, rfl, by simp, fun j y hj => by
            cases j with
            | zero => simp at hj; subst hj; simpa using (AtI.new W3 x).cells
            | succ j => simp at hj⟩
          obtain ⟨v', w', hrun, ho', hg⟩ := append_items r (W3.alloc (objI x)) 24 _ _ [x] (some ⟨W3.heap.size, 0, none⟩) 1 (ho3.below (below_new _ _)) hT4 (fun h => by cases h) (by simp; omega) (by simp; omega)
          have hB4 : Below r w w' := by
            have hb5 : Below r W3 (W3.alloc (objI x)) := (below_new _ _).mono hrw3
            exact br3.trans (hb5.grown hg (by simp; omega) fun j ej => (ho3.block j ej).1)
          have hs4 : r ≤ w'.heap.size := by have := hg.size; simp at this; omega
          rw [← pick_hit c _ x HRt.out, ← take_snoc HX.out] at ho'
          obtain ⟨ao', cap', rfl⟩ := ho'.slice
          have HRun : Hid _ := hrun
          have HO' : Hid (OwnI r w' (.slice ao' (pick c (L'.take (k + 1))).length cap') (pick c (L'.take (k + 1)))) := ho'
          clear hrun hg ho' hT4 ho3 hlen
          generalize (pick c (L'.take (k + 1))).length = m' at *
          generalize (pick c (L'.take k)).length = m at *
          simp only [objI, fourI, List.length_cons, List.length_nil, Nat.zero_add] at HRun
          go_wp2_with fail
          refine (right_any x c wr).mono ?_
          rintro e w4 ⟨rfl, rfl⟩
          rw [HRt.out, hW3]
          clear c0 c1 c2 c3
          go_wp2_with (at_builtin; refine wpList_append_run rfl (.tmp 35) (.tmp 40) 24 rfl _ _ _ _ rfl rfl HRun.out ?_)
          go_roundw
          case rel => exact ⟨k + 1, by omega, by go_num, HO'.out, hB4, hs4⟩
          case measure => simp [intOf]; omega
        | false =>
          have HRt : Hid (rightB c x = false) := hrt
          clear hrt
          have HO' : Hid (OwnI r W3 (.slice av (pick c (L'.take k)).length cv) (pick c (L'.take (k + 1)))) := by
            show OwnI _ _ _ _
            rw [take_snoc HX.out, pick_miss c _ x HRt.out]; exact ho3
          clear ho3 hlen
          generalize (pick c (L'.take k)).length = m at *
          go_wp2_with fail
          refine (right_any x c wr).mono ?_
          rintro e w4 ⟨rfl, rfl⟩
          rw [HRt.out, hW3]
          clear c0 c1 c2 c3
          go_wp2
          go_roundw
          case rel => exact ⟨k + 1, by omega, by go_num, HO'.out, br3, hrw3⟩
          case measure => simp [intOf]; omega
      · have hk4 : k = n := by omega
        subst hk4
        rw [List.take_of_length_le (by have := HN.out; omega)] at ho ⊢
        have br' : Below w.heap.size w wr := by rw [HR.out]; exact br
        have t1 := HT.out.below br'
        have hnone := own_none ho
        obtain ⟨_, _, e7, p1, _, _⟩ := ho.told
        simp only [Value.slice.injEq, true_and] at e7
        obtain ⟨rfl, rfl⟩ := e7
        have hRl : (pick c L').length ≤ 100 := by have := pick_len c L'; have := HL.out; have := HN.out; omega
        obtain ⟨R, HRR⟩ : ∃ R, Hid (pick c L' = R) := ⟨_, rfl⟩
        have hRR : pick c R = R := by rw [← HRR.out]; exact pick_pick _ _
        have hRb : Bytes8 (flat R) := by rw [← HRR.out]; exact bytes_flat _ _
        rw [HRR.out] at p1 hRl ⊢
        clear ho br
        go_wp2_with fail
        refine (print_at ao _ cap L' c HN.out.symm (by have := HL.out; have := HN.out; omega) wr t1).mono ?_
        rintro e w1 ⟨rfl, b1⟩
        rw [HRR.out]
        have p2 := p1.below b1
        have y1 := Below.then br' b1 br'.size
        clear p1 b1 br' t1 HT
        go_wp2_with fail
        refine (parse_at _ l' c rfl hb' (by omega) w1).mono ?_
        rintro e w2 ⟨aa, ca, rfl, q2, zA, b2⟩
        obtain ⟨A, HA⟩ : ∃ A, Hid (pick c (items l') = A) := ⟨_, rfl⟩
        have hAl : A.length ≤ 100 := by rw [← HA.out]; have h1 := pick_len c (items l'); have h2 := items_len l'; omega
        have hAA : pick c A = A := by rw [← HA.out]; exact pick_pick _ _
        have hAb : Bytes8 (flat A) := by rw [← HA.out]; exact bytes_flat _ _
        rw [HA.out] at q2 ⊢
        have p3 := p2.below b2
        have y2 := Below.then y1 b2 y1.size
        clear p2 b2 y1
        have hfR : (flat R).length ≤ 400 := by rw [flat_len]; omega
        have hfA : (flat A).length ≤ 400 := by rw [flat_len]; omega
        go_wp2_with fail
        refine (parse_at _ (flat R) c rfl hRb (by omega) w2).mono ?_
        rintro e w3 ⟨a3, c3, rfl, s3, _, b3⟩
        rw [items_flat, hRR] at s3 ⊢
        have p4 := p3.below b3
        have q4 := q2.below b3
        have y3 := Below.then y2 b3 y2.size
        clear p3 q2 b3 y2
        go_wp2_with fail
        refine (same_at _ _ R _ _ _ _ w3 rfl rfl s3 p4 (by omega)).mono ?_
        rintro e w4 ⟨rfl, b4⟩
        have p5 := p4.below b4
        have q5 := q4.below b4
        have y4 := Below.then y3 b4 y3.size
        clear p4 q4 b4 y3 s3
        go_wp2_with fail
        refine (print_at aa _ ca A c rfl (by omega) w4 q5).mono ?_
        rintro e w5 ⟨rfl, b5⟩
        rw [hAA]
        have p6 := p5.below b5
        have q6 := q5.below b5
        have y5 := Below.then y4 b5 y4.size
        clear p5 q5 b5 y4
        go_wp2_with fail
        refine (parse_at _ (flat A) c rfl hAb (by omega) w5).mono ?_
        rintro e w6 ⟨a6, c6, rfl, s6, _, b6⟩
        rw [items_flat, hAA] at s6 ⊢
        have p7 := p6.below b6
        have q7 := q6.below b6
        have y6 := Below.then y5 b6 y5.size
        clear p6 q6 b6 y5
        go_wp2_with fail
        refine (same_at _ _ A _ _ _ _ w6 rfl rfl s6 q7 (by omega)).mono ?_
        rintro e w7 ⟨rfl, b7⟩
        have p8 := p7.below b7
        have q8 := q7.below b7
        have y7 := Below.then y6 b7 y6.size
        clear p7 q7 b7 y6 s6
        -- both
        have b8 := below_new w7 (.cells #[] 29)
        obtain ⟨v8, w8, hrun8, o8, hg8⟩ := append_items w7.heap.size (w7.alloc (.cells #[] 29)) 24 (.slice (some ⟨w7.heap.size, 0, none⟩) 0 0) [] R av cv (ownI_new _ _ (Nat.le_refl _)) (p8.below b8) hnone (by simp; omega) (by simp)
        have b9 : Below w7.heap.size w7 w8 := b8.grown hg8 (by simp) (fun j ej => by simp [Value.ownBlock] at ej; omega)
        rw [List.nil_append] at o8
        obtain ⟨a8, c8, rfl⟩ := o8.slice
        obtain ⟨v9, w9, hrun9, o9, hg9⟩ := append_items w7.heap.size w8 24 _ R A aa ca o8 (q8.below b9) zA (by omega) b9.size
        have b10 : Below w7.heap.size w7 w9 := b9.grown hg9 b9.size (fun j ej => (o8.block j ej).1)
        obtain ⟨a9, c9, rfl, t9, _, _⟩ := o9.told
        have y9 := Below.then y7 b10 y7.size
        have H8 : Hid _ := hrun8
        have H9 : Hid _ := hrun9
        clear hrun8 hrun9 o8 o9 hg8 hg9 b8 b9 b10 p8 q8 y7
        have hcat := str_append (flat R) l'
        have hRA : Hid (pick c (items (flat R ++ l')) = R ++ A) := by
          show pick c (items (flat R ++ l')) = R ++ A
          rw [items_flat_append, pick_append, hRR, HA.out]
        have hRAl : (R ++ A).length ≤ 1000 := by simp; omega
        generalize hm9 : (R ++ A).length = m9 at *
        have HM9 : Hid ((R ++ A).length = m9) := hm9
        clear hm9
        have hno : ¬ 9223372036854775807 < (strOfNums (flat R)).size + (strOfNums l').size := by rw [strOfNums_size, strOfNums_size]; omega
        go_wp2_with (first | (at_builtin; refine wpList_append_run rfl (.tmp 64) (.tmp 65) 24 rfl _ _ _ _ rfl rfl H8.out ?_) | (at_builtin; refine wpList_append_run rfl (.tmp 67) (.tmp 68) 24 rfl _ _ _ _ rfl rfl H9.out ?_))
        refine (parse_at _ (flat R ++ l') c rfl (hRb.append hb') (by rw [List.length_append]; omega) w9).mono ?_
        rintro e w10 ⟨a10, c10, rfl, s10, _, b10⟩
        rw [hRA.out] at s10 ⊢
        have t10 := t9.below b10
        have y10 := Below.then y9 b10 y9.size
        clear t9 b10 y9 hcat hno
        have hm9 := HM9.out
        rw [hm9]
        go_wp2_with fail
        refine (same_at _ _ (R ++ A) _ _ _ _ w10 hm9.symm hm9.symm s10 t10 (by omega)).mono ?_
        rintro e w11 ⟨rfl, b11⟩
        have y11 := Below.then y10 b11 y10.size
        clear t10 b11 y10 s10
        go_wp2_with fail
        refine (fixed_any w11).mono ?_
        rintro e w12 ⟨rfl, b12⟩
        have y12 := Below.then y11 b12 y11.size
        clear y11 b12
        go_wp2
        go_ret
        exact ⟨rfl, y12⟩
  )
open Go.ChangeShapes Go.WideShapes Go.ChangeAt Go.RowKit Go.Joins

/-! ### From the walk to the statement -/
set_option maxRecDepth 100000 in
theorem lifted (os : Os) (started : os.Started) (H : Type) (enc : TypeId × Value → H) :
    ReturnsInHanded {} Try.checked os 5 .any (Rows.scriptBackSpec.pre6 enc Try.prog Try.f5 Rows.scriptBackRow.domain false) (Rows.scriptBackSpec.post enc Try.prog Try.f5 false true false false) := by
  refine returnsInHanded_of_change (C := Try.checked) own started (by kernel_rfl) Try.func5
    (ChangeSpec.witness6 (enc := enc) (C := Try.checked) false ⟨#[], #[.slice none 0 0, .string ⟨#[]⟩, .int .i64 0], []⟩ 8 (by kernel_rfl) (by kernel_rfl) (by kernel_rfl) (by kernel_rfl)) ?_
  intro W base args ds gs before hval0 hW hcnd _
  have hval : ∀ (j : Nat) t v, Try.f5.params[j]? = some t → args[j]? = some v → Value.okWide Try.prog W .any base t v := hval0
  have hW' := hW
  obtain ⟨p, q, hA0, hV, rfl, hfz, hnd⟩ := hW
  have hA : DataW.TrodAll enc Try.prog W 0 (fun _ => true) true Try.f5.params.toList args.toList ds p := hA0
  rw [Try.params5] at hA hval
  obtain ⟨v0, vs0, d0, ds0, p0, q0, hargs, rfl, rfl, h0, r0⟩ := trodAll_cons hA
  obtain ⟨v1, vs1, d1, ds1, p1, q1, rfl, rfl, rfl, h1, r1⟩ := trodAll_cons r0
  obtain ⟨v2, vs2, d2, ds2, p2, q2, rfl, rfl, rfl, h2, r2⟩ := trodAll_cons r1
  obtain ⟨rfl, rfl, rfl⟩ := trodAll_nil r2
  obtain rfl : args = #[v0, v1, v2] := by cases args; simp_all
  obtain ⟨rfl, rfl⟩ := trodVars_none hV
  have k0 := h0
  have lt0 : ∀ x ∈ p0, x.block < W.heap.size := by obtain ⟨m, hm⟩ := k0; exact DataW.trod_lt m _ _ _ hm
  obtain ⟨a0, l0, c0, rfl, t0, s0, u0, z0, y0⟩ := open_items (hval 0 24 v0 rfl rfl) h0
  have k1 := h1
  have lt1 : ∀ x ∈ p1, x.block < W.heap.size := by obtain ⟨m, hm⟩ := k1; exact DataW.trod_lt m _ _ _ hm
  obtain ⟨a1, rfl, b1, s1⟩ := open_str (hval 1 9 v1 rfl rfl) h1
  have k2 := h2
  have lt2 : ∀ x ∈ p2, x.block < W.heap.size := by obtain ⟨m, hm⟩ := k2; exact DataW.trod_lt m _ _ _ hm
  obtain ⟨a2, rfl, _, _, w2⟩ := open_int Try.underlying3 (hval 2 3 v2 rfl rfl) h2
  clear hA0 hval0
  refine (walk a0 l0 c0 a1 a2 W t0 s0 u0 z0 y0 b1 s1 (bounds_i64 w2)).mono fun e W' ⟨he, bel⟩ => ?_
  subst he
  exact ⟨_, rfl, _, _, _, [], _, [], hW', trodAll_mk1 (shut_bool Try.underlying4 _), (trodAll_cons_mk (Below.trod laidOut (by kernel_rfl) (of_decide_eq_true (by kernel_rfl)) k0 bel lt0) (trodAll_cons_mk (Below.trod laidOut (by kernel_rfl) (of_decide_eq_true (by kernel_rfl)) k1 bel lt1) (trodAll_cons_mk (Below.trod laidOut (by kernel_rfl) (of_decide_eq_true (by kernel_rfl)) k2 bel lt2) trodAll_mk0))), rfl, bel.frame _, fun h => by cases h⟩
theorem over : Rows.scriptBackRow.holds Try.pinned (OpenSpec.ofChange Rows.scriptBackSpec) :=
  OpenClaim.holds_of_wide 5 Try.f5 rfl rfl rfl rfl rfl rfl rfl ⟨rfl, rfl, rfl, rfl, rfl⟩ rfl rfl rfl rfl rfl (by kernel_rfl) Try.func5 (by kernel_rfl)
    (of_decide_eq_true (by kernel_rfl)) (by unfold Func.isWrapper; first | (rw [if_pos (by decide +kernel)]; kernel_rfl) | (rw [if_neg (by decide +kernel)]; exact ⟨rfl, rfl⟩))
    (fun os started H enc _ => lifted os started H enc)
end Go.Proofs.Ytkbbjpnkfmegnaa.scriptBack
namespace Go.Proofs.Ytkbbjpnkfmegnaa
/-- THE STATEMENT. -/
theorem scriptBack_said : Rows.ScriptBackSaid := scriptBack.over
#print axioms scriptBack_said
end Go.Proofs.Ytkbbjpnkfmegnaa

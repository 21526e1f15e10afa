/-
  What Take, Parent and Under of the document's own tree answer and leave; no condition but that the tree is small.
-/
import Derived.Test.YthfoeppcageneaaTRCall
namespace Go.Proofs.Ythfoeppcageneaa
set_option linter.unusedSectionVars false
variable [DecidableEq Sl]
open Go.RowKit Go.Deep Go.Shelf

set_option maxHeartbeats 4000000 in
set_option maxRecDepth 100000 in
theorem rtake_any (p : Nat) (a b : Value) (S : St) (s : Sl) (w : World) (h : RtH p a b S w) (hl : S.length ≤ 1000) :
    Calls Try.prog 32 #[.pointer (some ⟨p, 0, none⟩), encS s] w fun e w' => e = .returned (.int .i64 (takeE S s)) ∧ GoesT w p a b (takeS S s) w' := by
  have b1 := below_new w (objS s)
  have HP := rplace_any p a b S s (w.alloc (objS s)) (h.below b1) hl
  obtain ⟨s0, s1⟩ := (AtS.new w s).cells
  have B : Hid (Below w.heap.size w (w.alloc (objS s))) := b1
  have hI : Hid _ := HP
  have H : Hid (RtH p a b S w ∧ S.length ≤ 1000) := ⟨h, hl⟩
  have HX : Hid (plI S s = if hasB S s then ((pl S s : Nat) : Int) else -1) := rfl
  generalize plI S s = z at *
  have HE : Hid (takeE S s = (if hasB S s then 0 else 71) ∧ takeS S s = if hasB S s then takeN S (pl S s) else S) := ⟨rfl, rfl⟩
  generalize takeE S s = te at *
  generalize takeS S s = ts at *
  clear HP b1 h hl
  simp only [encS, objS] at *
  go_enter Try.func32, Try.ntmps32
  cases hh : hasB S s with
  | false =>
    rw [hh] at HE HX
    obtain ⟨e1, e2⟩ := HE.out
    obtain rfl : te = 71 := e1
    obtain rfl : ts = S := e2
    obtain rfl : z = -1 := HX.out
    go_wp2_with (go_at_call 35; refine Calls.mono hI.out ?_; rintro e w' ⟨rfl, b2⟩)
    go_ret
    exact ⟨rfl, GoesT.same H.out.1 (Below.then B.out b2 B.out.size)⟩
  | true =>
    rw [hh] at HE HX
    obtain rfl : z = ((pl S s : Nat) : Int) := HX.out
    obtain ⟨e1, e2⟩ := HE.out
    obtain rfl : te = 0 := e1
    have HT : Hid (ts = takeN S (pl S s)) := e2
    obtain ⟨hp1, -⟩ := pl_slt hh
    have HP1 : Hid (pl S s < S.length) := hp1
    go_wp2_with fail
    refine Calls.mono hI.out ?_
    rintro e w2 ⟨rfl, b2⟩
    have B2 : Hid (Below w.heap.size w w2) := Below.then B.out b2 B.out.size
    clear hI s0 s1 B b2 hh HX HE e2 hp1
    go_wp2_with fail
    refine Calls.mono (rend_any p a b S (pl S s) w2 (H.out.1.below B2.out) HP1.out H.out.2) ?_
    rintro e w3 ⟨rfl, b3⟩
    have B3 : Hid (Below w.heap.size w w3) := Below.then B2.out b3 B2.out.size
    have HEn : Hid (pl S s < endN S (pl S s) ∧ endN S (pl S s) ≤ S.length) := ⟨(endN_le HP1.out).2, (endN_le HP1.out).1⟩
    have HTT : Hid (ts.length = S.length - 1 ∧ Good ts ∧ (∀ j, j < S.length - 1 → slt ts j = if j < pl S s then slt S j else slt S (j + 1)) ∧ (∀ j, j < S.length - 1 → dep ts j = if j < pl S s then dep S j else if j + 1 < endN S (pl S s) then dep S (j + 1) - 1 else dep S (j + 1))) := by
      rw [HT.out]
      exact ⟨takeN_len HP1.out, H.out.1.good.took HP1.out, fun j hj => slt_takeN HP1.out hj, fun j hj => dep_takeN HP1.out hj⟩
    have HM : Hid _ := made_lists w3 ts
    have H3 : Hid (RtH p a b S w3) := H.out.1.below B3.out
    have hlz : (S.length : Int) ≤ 1000 := by have := H.out.2; omega
    have hiz : ((pl S s : Nat) : Int) < (S.length : Int) := by have := HP1.out; omega
    have hez : ((endN S (pl S s) : Nat) : Int) ≤ (S.length : Int) := by have := HEn.out; omega
    clear b3 B2 HT
    generalize hi : pl S s = i at *
    generalize hE : endN S i = E at *
    clear hi hE
    go_wp2
    go_loopw [7, 8, 9, 10] (fun s7 s8 s9 _ wr => ∃ (k n : Nat), k ≤ S.length ∧ s9 = .int .i64 k ∧ n = (if i < k then k - 1 else k) ∧ Part w3.heap.size w3 ts n s7 s8 wr) (fun _ _ s9 _ _ => S.length - (intOf s9).toNat)
    case atStart => exact ⟨0, 0, Nat.zero_le _, rfl, by rw [if_neg (by omega)], HM.out⟩
    case round =>
      clear HM
      obtain ⟨k, n, hk, rfl, hn, hp⟩ := hrel
      have KP : Hid (Part w3.heap.size w3 ts n u7 u8 wr) := hp
      have hrt := H3.out.below hp.low
      obtain ⟨ao, ca, bo, cb, -, -, -, -, c0, c1, hx⟩ := hrt.slices
      by_cases hlt : k < S.length
      · have hkz : (k : Int) < (S.length : Int) := by omega
        have HKS : Hid (k < S.length) := hlt
        by_cases hki : k = i
        · subst hki
          have hkk : ((k : Int) == (k : Int)) = true := by simp
          have KE : Hid (Part w3.heap.size w3 ts n u7 u8 wr ∧ n = if k < k + 1 then k + 1 - 1 else k + 1) := ⟨hp, by rw [hn, if_neg (by omega), if_pos (by omega)]; omega⟩
          clear hp hrt hx hlt hk hn KP
          go_wp2
          go_roundw
          case rel => exact ⟨k + 1, n, by have := HKS.out; omega, by go_num, KE.out.2, KE.out.1⟩
          case measure => simp [intOf]; have := HKS.out; omega
        · have hkk := int_ne hki
          have hnl : n < S.length - 1 := by rw [hn]; split <;> omega
          have hT1 : n < ts.length := by have := HTT.out.1; omega
          obtain ⟨ao1, bo1, m1, ca1, cb1, ao2, bo2, m2, ca2, cb2, w4, w5, rfl, rfl, r1, r2, r3, hp3⟩ := hp.push hT1 (by have := HTT.out.1; have := H.out.2; omega)
          have es : slt ts n = slt S k := by
            rw [HTT.out.2.2.1 n hnl, hn]
            by_cases c : i < k
            · rw [if_pos c, if_neg (by omega)]
              congr 1
              omega
            · rw [if_neg c, if_pos (by omega)]
          have ed : dep ts n = if i < k ∧ k < E then dep S k - 1 else dep S k := by
            rw [HTT.out.2.2.2 n hnl, hn]
            by_cases c : i < k
            · rw [if_pos c, if_neg (by omega), show k - 1 + 1 = k by omega]
              by_cases c2 : k < E
              · rw [if_pos c2, if_pos ⟨c, c2⟩]
              · rw [if_neg c2, if_neg (fun h => c2 h.2)]
            · rw [if_neg c, if_pos (by omega), if_neg (fun h => c h.1)]
          rw [es] at r1
          rw [ed] at r2
          obtain ⟨g, g', rfl, rfl, z0, z1, z2, -⟩ := hx k hlt
          have hn2 : n + 1 = if i < k + 1 then k + 1 - 1 else k + 1 := by
            rw [hn]
            by_cases c : i < k
            · rw [if_pos c, if_pos (by omega)]; omega
            · rw [if_neg c, if_neg (by omega)]
          have KE : Hid (Part w3.heap.size w3 ts (n + 1) (.slice ao2 m2 ca2) (.slice bo2 m2 cb2) w5 ∧ n + 1 = if i < k + 1 then k + 1 - 1 else k + 1) := ⟨hp3, hn2⟩
          have hb0 : 0 ≤ dep S k ∧ dep S k ≤ 1000 := by
            have := H.out.1.good.pos k hlt
            have := H.out.1.good.le k hlt
            have := H.out.2
            omega
          have hw2 : IntKind.i64.wrap (dep S k - 1) = dep S k - 1 := by rw [IntKind.wrap_i64]; omega
          have R1 : Hid _ := r1
          by_cases c : i < k ∧ k < E
          · rw [if_pos c] at r2
            have R2 : Hid _ := r2
            have d1 : (i : Int) < (k : Int) := by omega
            have d2 : (k : Int) < (E : Int) := by omega
            clear hp hp3 r1 r2 hrt hx hT1 hnl hlt hk hn hn2 KP r3 es ed hki c hb0
            generalize dep S k = dk at *
            go_wp2_with (first | (at_builtin; refine wpList_append_run rfl (.tmp 50) (.tmp 58) _ _ rfl _ _ _ _ rfl rfl R1.out ?_) | (at_builtin; refine wpList_append_run rfl (.tmp 60) (.tmp 62) _ _ rfl _ _ _ _ rfl rfl R2.out ?_))
            go_roundw
            case rel => exact ⟨k + 1, n + 1, by have := HKS.out; omega, by go_num, KE.out.2, KE.out.1⟩
            case measure => simp [intOf]; have := HKS.out; omega
          · rw [if_neg c] at r2
            have R2 : Hid _ := r2
            by_cases c1' : i < k
            · have d1 : (i : Int) < (k : Int) := by omega
              have d2 : ¬ (k : Int) < (E : Int) := by omega
              clear hp hp3 r1 r2 hrt hx hT1 hnl hlt hk hn hn2 KP r3 es ed hki c hb0 c1'
              generalize dep S k = dk at *
              go_wp2_with (first | (at_builtin; refine wpList_append_run rfl (.tmp 50) (.tmp 58) _ _ rfl _ _ _ _ rfl rfl R1.out ?_) | (at_builtin; refine wpList_append_run rfl (.tmp 60) (.tmp 62) _ _ rfl _ _ _ _ rfl rfl R2.out ?_))
              go_roundw
              case rel => exact ⟨k + 1, n + 1, by have := HKS.out; omega, by go_num, KE.out.2, KE.out.1⟩
              case measure => simp [intOf]; have := HKS.out; omega
            · have d1 : ¬ (i : Int) < (k : Int) := by omega
              clear hp hp3 r1 r2 hrt hx hT1 hnl hlt hk hn hn2 KP r3 es ed hki c hb0 c1'
              generalize dep S k = dk at *
              go_wp2_with (first | (at_builtin; refine wpList_append_run rfl (.tmp 50) (.tmp 58) _ _ rfl _ _ _ _ rfl rfl R1.out ?_) | (at_builtin; refine wpList_append_run rfl (.tmp 60) (.tmp 62) _ _ rfl _ _ _ _ rfl rfl R2.out ?_))
              go_roundw
              case rel => exact ⟨k + 1, n + 1, by have := HKS.out; omega, by go_num, KE.out.2, KE.out.1⟩
              case measure => simp [intOf]; have := HKS.out; omega
      · have hkz : ¬ (k : Int) < (S.length : Int) := by omega
        have hfz : ∀ j, wr.frozen? ⟨p, j, none⟩ = false := fun j => by simp [World.frozen?, hrt.head]
        have e0 : (ts.take n) = ts := List.take_of_length_le (by have := HTT.out.1; have := HP1.out; rw [hn, if_pos (by omega)]; omega)
        obtain ⟨ao1, ca1, rfl⟩ := hp.s.slice
        obtain ⟨bo1, cb1, rfl⟩ := hp.d.slice
        have KE : Hid (GoesT w p a b ts ((wr.setCell ⟨p, 0, none⟩ (.slice ao1 (allS (ts.take n)).length ca1)).setCell ⟨p, 1, none⟩ (.slice bo1 (deps (ts.take n)).length cb1))) := by
          refine GoesT.from B3.out (H3.out.hang hp.low ?_ ?_ HTT.out.2.1)
          · have := hp.s
            rw [e0] at this ⊢
            exact this
          · have := hp.d
            rw [e0] at this ⊢
            exact this
        have c1' : ∀ v, (wr.setCell ⟨p, 0, none⟩ v).cell? ⟨p, 1, none⟩ = some (.slice bo S.length cb) := fun v => by
          rw [World.cell?_setCell_other _ _ _ _ (by simp)]
          exact c1
        have hf1 : ∀ v j, (wr.setCell ⟨p, 0, none⟩ v).frozen? ⟨p, j, none⟩ = false := fun v j => by
          rw [World.frozen?_setCell]
          exact hfz j
        generalize (allS (ts.take n)).length = n1 at *
        generalize (deps (ts.take n)).length = n2 at *
        clear hp hrt hx hlt hk hn KP e0
        go_wp2
        go_ret
        exact ⟨rfl, KE.out⟩
def lastI (S : St) (d : Int) (k : Nat) : Int := match lastD S d k with
  | some j => ((j : Nat) : Int)
  | none => -1
theorem lastI_yes {S : St} {d : Int} {k : Nat} (h : dep S k = d) : lastI S d (k + 1) = (k : Int) := by
  unfold lastI
  have : lastD S d (k + 1) = some k := by show (if dep S k = d then some k else lastD S d k) = _; rw [if_pos h]
  rw [this]
theorem lastI_no {S : St} {d : Int} {k : Nat} (h : ¬ dep S k = d) : lastI S d (k + 1) = lastI S d k := by
  unfold lastI
  have : lastD S d (k + 1) = lastD S d k := by show (if dep S k = d then some k else lastD S d k) = _; rw [if_neg h]
  rw [this]
theorem AtS.frozenS {w : World} {q : Nat} {s : Sl} (h : AtS w q s) (j : Nat) : w.frozen? ⟨q, j, none⟩ = false := by
  unfold AtS objS at h
  simp [World.frozen?, h]
theorem sets2 {B q : Nat} {w u : World} (h : Below B w u) (hq : B ≤ q) (a b : Value) : Below B w ((u.setCell ⟨q, 0, none⟩ a).setCell ⟨q, 1, none⟩ b) :=
  (h.setCell (p := ⟨q, 0, none⟩) hq a).setCell (p := ⟨q, 1, none⟩) hq b
set_option maxHeartbeats 4000000 in
theorem rparent_any (p : Nat) (a b : Value) (S : St) (s : Sl) (w : World) (h : RtH p a b S w) (hl : S.length ≤ 1000) :
    Calls Try.prog 17 #[.pointer (some ⟨p, 0, none⟩), encS s] w fun e w' => e = .returned (.tuple #[encS (parS S s), .bool (parB S s)]) ∧ Below w.heap.size w w' := by
  obtain ⟨x1, x2, x3, x4⟩ := box2 w (objS s) (objS no)
  have H : Hid (RtH p a b S w ∧ S.length ≤ 1000) := ⟨h, hl⟩
  obtain ⟨s0, s1⟩ := AtS.cells (show AtS _ _ s from x1)
  have HP := rplace_any p a b S s _ (h.below x4) hl
  have hI : Hid _ := HP
  have HX : Hid (plI S s = if hasB S s then ((pl S s : Nat) : Int) else -1) := rfl
  generalize plI S s = z at *
  have HU : Hid (parS S s = (if hasB S s then (parN S (pl S s)).map (slt S) else none).getD no ∧ parB S s = (if hasB S s then (parN S (pl S s)).map (slt S) else none).isSome) := ⟨rfl, rfl⟩
  generalize parS S s = ps at *
  generalize parB S s = pb at *
  clear HP h hl
  simp only [encS, objS, no] at *
  go_enter Try.func17, Try.ntmps17
  go_wp2_with fail
  refine Calls.mono hI.out ?_
  rintro e w3 ⟨rfl, b3⟩
  have a2 : AtS w3 (w.heap.size + 1) no := (b3.block _ (by rw [x3]; omega)).trans x2
  have B3 : Hid (Below w.heap.size w w3) := Below.then x4 b3 x4.size
  have A2 : Hid (AtS w3 (w.heap.size + 1) no) := a2
  clear hI s0 s1 x1 x2 x3 x4 b3 a2
  generalize hr0 : w.heap.size = r at *
  have HR : Hid (w.heap.size = r) := hr0
  clear hr0
  cases hh : hasB S s with
  | false =>
    rw [hh] at HU HX
    obtain ⟨e1, e2⟩ := HU.out
    obtain rfl : ps = no := e1
    obtain rfl : pb = false := e2
    obtain rfl : z = -1 := HX.out
    obtain ⟨z0, z1⟩ := A2.out.cells
    have zf := A2.out.frozenS
    simp only [no] at z0 z1
    go_wp2
    refine wp_loop_rounds 1 ?_
    rw [rounds_succ]
    go_wp2
    refine bodyPost_ret (v := .tuple #[encS no, .bool false]) ?_ rfl ⟨rfl, ?_⟩
    · simp [results, Try.f17, go_sem, encS, no, z0, z1]
    · rw [HR.out]; exact sets2 B3.out (by omega) _ _
  | true =>
    rw [hh] at HU HX
    obtain rfl : z = ((pl S s : Nat) : Int) := HX.out
    obtain ⟨hp1, -⟩ := pl_slt hh
    have HP1 : Hid (pl S s < S.length) := hp1
    have hp3 : ((pl S s : Nat) : Int) < (S.length : Int) := by omega
    have hl : (S.length : Int) ≤ 1000 := by have := H.out.2; omega
    have hb0 : 0 ≤ dep S (pl S s) ∧ dep S (pl S s) ≤ 1000 := by
      have := H.out.1.good.pos _ hp1
      have := H.out.1.good.le _ hp1
      omega
    have hw2 : IntKind.i64.wrap (dep S (pl S s) - 1) = dep S (pl S s) - 1 := by rw [IntKind.wrap_i64]; omega
    clear hh HX hp1 hb0
    unfold parN at HU
    generalize pl S s = i at *
    go_wp2
    go_loopw [7, 8] (fun s7 s8 wr => ∃ k : Nat, k ≤ i ∧ s8 = .int .i64 k ∧ s7 = .int .i64 (lastI S (dep S i - 1) k) ∧ RtH p a b S wr ∧ AtS wr (r + 1) no ∧ Below r w wr) (fun _ s8 _ => i - (intOf s8).toNat)
    case atStart => exact ⟨0, Nat.zero_le _, rfl, rfl, H.out.1.below (by rw [HR.out]; exact B3.out), A2.out, B3.out⟩
    case round =>
      obtain ⟨k, hk, rfl, rfl, h1, a1, b1⟩ := hrel
      clear A2 B3
      have HK : Hid (RtH p a b S wr ∧ AtS wr (r + 1) no ∧ Below r w wr) := ⟨h1, a1, b1⟩
      obtain ⟨ao, ca, bo, cb, -, -, -, -, c0, c1, hx⟩ := h1.slices
      obtain ⟨g, g', rfl, rfl, -, -, y2, -⟩ := hx i HP1.out
      by_cases hlt : k < i
      · obtain ⟨g2, g2', e1, e2, -, -, z2, -⟩ := hx k (by have := HP1.out; omega)
        cases e1
        cases e2
        have hkz : (k : Int) < (i : Int) := by omega
        have hks : (k : Int) < (S.length : Int) := by omega
        have HKI : Hid (k < i) := hlt
        by_cases hq : dep S k = dep S i - 1
        · have HL : Hid (lastI S (dep S i - 1) (k + 1) = (k : Int)) := lastI_yes hq
          have hqq : (dep S k == dep S i - 1) = true := by simp [hq]
          clear hlt hk h1 a1 b1 hx hq
          generalize lastI S (dep S i - 1) k = li at *
          generalize hdk : dep S k = dk at *
          clear hdk
          generalize hdi : dep S i = di at *
          have HDI : Hid (dep S i = di) := hdi
          clear hdi
          go_wp2
          go_quiet (fail)
          go_wp2
          go_roundw
          case rel => exact ⟨k + 1, by have := HKI.out; omega, by go_num, by rw [HL.out], HK.out.1.below (below_drewN (Below.refl _ _) _), HK.out.2.1.below (below_drewN (Below.refl _ _) _), below_drewN HK.out.2.2 _⟩
          case measure => simp [intOf]; have := HKI.out; omega
        · have HL : Hid (lastI S (dep S i - 1) (k + 1) = lastI S (dep S i - 1) k) := lastI_no hq
          have hqq : (dep S k == dep S i - 1) = false := by simp [hq]
          clear hlt hk h1 a1 b1 hx hq
          generalize lastI S (dep S i - 1) k = li at *
          generalize hdk : dep S k = dk at *
          clear hdk
          generalize hdi : dep S i = di at *
          clear hdi
          go_wp2
          go_quiet (fail)
          go_wp2
          go_roundw
          case rel => exact ⟨k + 1, by have := HKI.out; omega, by go_num, by rw [HL.out], HK.out.1.below (below_drewN (Below.refl _ _) _), HK.out.2.1.below (below_drewN (Below.refl _ _) _), below_drewN HK.out.2.2 _⟩
          case measure => simp [intOf]; have := HKI.out; omega
      · obtain rfl : k = i := by omega
        have hkz : ¬ (k : Int) < (k : Int) := by omega
        obtain ⟨z0, z1⟩ := a1.cells
        have zf := a1.frozenS
        simp only [no] at z0 z1
        cases hd : lastD S (dep S k - 1) k with
        | none =>
          rw [hd] at HU
          obtain ⟨e1, e2⟩ := HU.out
          obtain rfl : ps = no := e1
          obtain rfl : pb = false := e2
          have hli : lastI S (dep S k - 1) k = -1 := by unfold lastI; rw [hd]
          clear hlt hk h1 a1 b1 hx hd
          rw [hli]
          clear hli
          go_wp2
          refine bodyPost_ret (v := .tuple #[encS no, .bool false]) ?_ rfl ⟨rfl, ?_⟩
          · simp [results, Try.f17, go_sem, encS, no, z0, z1]
          · rw [HR.out]; exact sets2 HK.out.2.2 (by omega) _ _
        | some j =>
          obtain ⟨q1, -, -⟩ := lastD_some.1 hd
          rw [hd] at HU
          obtain ⟨e1, e2⟩ := HU.out
          have HPS : Hid (ps = slt S j) := e1
          obtain rfl : pb = true := e2
          have hli : lastI S (dep S k - 1) k = (j : Int) := by unfold lastI; rw [hd]
          obtain ⟨g2, g2', e1', e2', d0, d1, -, -⟩ := hx j (by have := HP1.out; omega)
          cases e1'
          cases e2'
          have hjz : (j : Int) < (S.length : Int) := by omega
          clear hlt hk h1 a1 b1 hx hd q1 e1
          rw [hli]
          clear hli
          generalize slt S j = y at *
          go_wp2
          obtain rfl := HPS.out
          refine bodyPost_ret (v := .tuple #[encS ps, .bool true]) ?_ rfl ⟨rfl, ?_⟩
          · simp [results, Try.f17, go_sem, encS, z0, z1]
          · rw [HR.out]; exact sets2 HK.out.2.2 (by omega) _ _
end Go.Proofs.Ythfoeppcageneaa

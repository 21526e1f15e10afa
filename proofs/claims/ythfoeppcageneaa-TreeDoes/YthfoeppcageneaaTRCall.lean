/-
  What Root, Add, Move and Under of the document's own tree answer and leave; no condition but that the tree is small.
-/
import Derived.Test.YthfoeppcageneaaTRAdd
namespace Go.Proofs.Ythfoeppcageneaa
set_option linter.unusedSectionVars false
variable [DecidableEq Sl]
open Go.RowKit Go.Deep Go.Shelf

theorem putN_end (S : St) (e : En) : putN S S.length e = S ++ [e] := by unfold putN; simp
set_option maxHeartbeats 2000000 in
theorem rroot_any (p : Nat) (a b : Value) (S : St) (s : Sl) (w : World) (h : RtH p a b S w) (hl : S.length ≤ 1000) :
    Calls Try.prog 30 #[.pointer (some ⟨p, 0, none⟩), encS s] w fun e w' => e = .returned (.int .i64 (rootE S s)) ∧ GoesT w p a b (rootS S s) w' := by
  have b1 := below_new w (objS s)
  have HP := rplace_any p a b S s (w.alloc (objS s)) (h.below b1) hl
  obtain ⟨s0, s1⟩ := (AtS.new w s).cells
  have A1 : Hid (AtS (w.alloc (objS s)) w.heap.size s) := AtS.new w s
  have B : Hid (Below w.heap.size w (w.alloc (objS s))) := b1
  have hI : Hid _ := HP
  have H : Hid (RtH p a b S w ∧ S.length ≤ 1000) := ⟨h, hl⟩
  have HX : Hid (plI S s = if hasB S s then ((pl S s : Nat) : Int) else -1) := rfl
  generalize plI S s = z at *
  have HE : Hid (rootE S s = (if hasB S s then 70 else 0) ∧ rootS S s = if hasB S s then S else S ++ [⟨s, 0⟩]) := ⟨rfl, rfl⟩
  generalize rootE S s = re at *
  generalize rootS S s = rs at *
  clear HP b1 h hl
  simp only [encS, objS] at *
  go_enter Try.func30, Try.ntmps30
  cases hh : hasB S s with
  | true =>
    rw [hh] at HE HX
    obtain ⟨e1, e2⟩ := HE.out
    obtain rfl : re = 70 := e1
    obtain rfl : rs = S := e2
    obtain rfl : z = ((pl rs s : Nat) : Int) := HX.out
    go_wp2_with (go_at_call 35; refine Calls.mono hI.out ?_; rintro e w' ⟨rfl, b2⟩)
    go_ret
    exact ⟨rfl, GoesT.same H.out.1 (Below.then B.out b2 B.out.size)⟩
  | false =>
    rw [hh] at HE HX
    obtain ⟨e1, e2⟩ := HE.out
    obtain rfl : re = 0 := e1
    obtain rfl : z = -1 := HX.out
    have HT : Hid (rs = putN S S.length ⟨s, 0⟩ ∧ Good (putN S S.length ⟨s, 0⟩)) := by
      have e3 : rs = S ++ [⟨s, 0⟩] := e2
      have := H.out.1.good.root hh
      rw [← putN_end] at this e3
      exact ⟨e3, this⟩
    go_wp2_with fail
    refine Calls.mono hI.out ?_
    rintro e w2 ⟨rfl, b2⟩
    have B2 : Below w.heap.size w w2 := Below.then B.out b2 B.out.size
    have h2 := H.out.1.below B2
    obtain ⟨t0, t1⟩ := (A1.out.below b2).cells
    obtain ⟨ao, ca, bo, cb, rfl, rfl, -, -, c0, -, -⟩ := h2.slices
    have HI : Hid (Calls Try.prog 41 #[.pointer (some ⟨p, 0, none⟩), .int .i64 (S.length : Int), .agg #[.int .i64 s.n, .int .i64 s.i], .int .i64 0] w2.drew fun e w' => e = .returned (.tuple #[]) ∧ GoesT w p (.slice ao S.length ca) (.slice bo S.length cb) rs w') := by
      refine Calls.mono (rput_any p _ _ S S.length s 0 w2.drew (h2.below ((Below.refl _ _).drew)) (Nat.le_refl _) H.out.2 HT.out.2) ?_
      rintro e w' ⟨rfl, g⟩
      refine ⟨rfl, ?_⟩
      rw [HT.out.1]
      exact GoesT.from (Below.then B2 ((Below.refl _ _).drew) B2.size) g
    have hS : w2.cell? ⟨p, 0, none⟩ = some (.slice ao S.length ca) ∧ w2.cell? ⟨w.heap.size, 0, none⟩ = some (.int .i64 s.n) ∧ w2.cell? ⟨w.heap.size, 1, none⟩ = some (.int .i64 s.i) := ⟨c0, t0, t1⟩
    clear hI s0 s1 B A1 b2 B2 h2 hh HX HE e2 HT H t0 t1 c0
    generalize w.heap.size = r at *
    go_wp2
    go_region_with (go_at_call 41; refine Calls.mono HI.out ?_; rintro e w5 ⟨rfl, gg⟩)
    all_goals go_wp2
    all_goals go_ret
    all_goals exact ⟨rfl, gg⟩
set_option maxHeartbeats 4000000 in
theorem radd_any (p : Nat) (a b : Value) (S : St) (a1 s : Sl) (w : World) (h : RtH p a b S w) (hl : S.length ≤ 1000) :
    Calls Try.prog 31 #[.pointer (some ⟨p, 0, none⟩), encS a1, encS s] w fun e w' => e = .returned (.int .i64 (addE S a1 s)) ∧ GoesT w p a b (addS S a1 s) w' := by
  obtain ⟨x1, x2, x3, x4⟩ := box2 w (objS a1) (objS s)
  have H : Hid (RtH p a b S w ∧ S.length ≤ 1000) := ⟨h, hl⟩
  have HE : Hid (addE S a1 s = (if hasB S a1 then if hasB S s then 70 else 0 else 71) ∧ addS S a1 s = if hasB S a1 ∧ ¬ hasB S s then putN S (pl S a1 + 1) ⟨s, dep S (pl S a1) + 1⟩ else S) := ⟨rfl, rfl⟩
  generalize addE S a1 s = me at *
  generalize addS S a1 s = ms at *
  obtain ⟨s0, s1⟩ := AtS.cells (show AtS _ _ a1 from x1)
  clear h hl
  have HP := rplace_any p a b S a1 _ (H.out.1.below x4) H.out.2
  have hI : Hid _ := HP
  have HX : Hid (plI S a1 = if hasB S a1 then ((pl S a1 : Nat) : Int) else -1) := rfl
  generalize plI S a1 = z at *
  clear HP
  simp only [encS, objS] at *
  go_enter Try.func31, Try.ntmps31
  cases ha : hasB S a1 with
  | false =>
    rw [ha] at HE HX
    obtain ⟨rfl, e2⟩ := HE.out
    rw [if_neg (by simp)] at e2
    subst e2
    obtain rfl : z = -1 := HX.out
    go_wp2_with (go_at_call 35; refine Calls.mono hI.out ?_; rintro e w' ⟨rfl, b2⟩)
    go_ret
    exact ⟨rfl, GoesT.same H.out.1 (Below.then x4 b2 x4.size)⟩
  | true =>
    rw [ha] at HE HX
    obtain rfl : z = ((pl S a1 : Nat) : Int) := HX.out
    go_wp2_with fail
    refine Calls.mono hI.out ?_
    rintro e w3 ⟨rfl, b3⟩
    have B3 : Hid (Below w.heap.size w w3) := Below.then x4 b3 x4.size
    have a2 : AtS w3 (w.heap.size + 1) s := (b3.block _ (by rw [x3]; omega)).trans x2
    have A2 : Hid (AtS w3 (w.heap.size + 1) s) := a2
    have HP := rplace_any p a b S s w3 (H.out.1.below B3.out) H.out.2
    clear hI s0 s1 x1 x2 x3 x4 b3 HX
    have hI : Hid _ := HP
    have HX : Hid (plI S s = if hasB S s then ((pl S s : Nat) : Int) else -1) := rfl
    generalize plI S s = z at *
    obtain ⟨s0, s1⟩ := a2.cells
    clear HP a2
    simp only [encS] at *
    cases hb : hasB S s with
    | true =>
      rw [hb] at HE HX
      obtain ⟨rfl, e2⟩ := HE.out
      rw [if_neg (by simp)] at e2
      subst e2
      obtain rfl : z = ((pl ms s : Nat) : Int) := HX.out
      go_wp2_with (go_at_call 35; refine Calls.mono hI.out ?_; rintro e w' ⟨rfl, b2⟩)
      go_ret
      exact ⟨rfl, GoesT.same H.out.1 (Below.then B3.out b2 B3.out.size)⟩
    | false =>
      rw [hb] at HE HX
      obtain ⟨rfl, e2⟩ := HE.out
      rw [if_pos (by simp)] at e2
      obtain rfl : z = -1 := HX.out
      go_wp2_with fail
      refine Calls.mono hI.out ?_
      rintro e w4 ⟨rfl, b4⟩
      have B4 : Below w.heap.size w w4 := Below.then B3.out b4 B3.out.size
      obtain ⟨t0, t1⟩ := (A2.out.below b4).cells
      have h4 := H.out.1.below B4
      obtain ⟨hp1, hp2⟩ := pl_slt ha
      obtain ⟨ao, ca, bo, cb, rfl, rfl, -, -, c0, c1, hx⟩ := h4.slices
      obtain ⟨g, g', rfl, rfl, z0, z1, z2, fz⟩ := hx _ hp1
      have hb0 : 0 ≤ dep S (pl S a1) ∧ dep S (pl S a1) ≤ 1000 := by
        have := H.out.1.good.pos _ hp1
        have := H.out.1.good.le _ hp1
        have := H.out.2
        omega
      have HI : Hid (Calls Try.prog 41 #[.pointer (some ⟨p, 0, none⟩), .int .i64 (((pl S a1 : Nat) : Int) + 1), .agg #[.int .i64 s.n, .int .i64 s.i], .int .i64 (dep S (pl S a1) + 1)] w4.drew fun e w' => e = .returned (.tuple #[]) ∧ GoesT w p (.slice (some ⟨g, 0, none⟩) S.length ca) (.slice (some ⟨g', 0, none⟩) S.length cb) ms w') := by
        refine Calls.mono (rput_any p _ _ S (pl S a1 + 1) s (dep S (pl S a1) + 1) w4.drew (h4.below ((Below.refl _ _).drew)) (by omega) H.out.2 (H.out.1.good.put hb hp1)) ?_
        rintro e w' ⟨rfl, g⟩
        refine ⟨rfl, ?_⟩
        rw [e2]
        exact GoesT.from (Below.then B4 ((Below.refl _ _).drew) B4.size) g
      have hw1 : IntKind.i64.wrap (((pl S a1 : Nat) : Int) + 1) = ((pl S a1 : Nat) : Int) + 1 := by rw [IntKind.wrap_i64]; have := H.out.2; omega
      have hw2 : IntKind.i64.wrap (dep S (pl S a1) + 1) = dep S (pl S a1) + 1 := by rw [IntKind.wrap_i64]; omega
      have hp3 : ((pl S a1 : Nat) : Int) < (S.length : Int) := by omega
      clear hI s0 s1 B3 A2 b4 B4 h4 hp2 ha hb HE HX H hx e2 hb0 z0 z1 fz c0
      generalize pl S a1 = i at *
      generalize dep S i = di at *
      generalize w.heap.size = r at *
      go_wp2
      go_region_with (go_at_call 41; refine Calls.mono HI.out ?_; rintro e w5 ⟨rfl, gg⟩)
      all_goals go_wp2
      all_goals go_ret
      all_goals exact ⟨rfl, gg⟩
theorem flat_setS {A : List Sl} {i : Nat} (hi : i < A.length) (s : Sl) : flatK cS (A.set i s) = ((flatK cS A).set (i * 2) (.int .i64 s.n)).set (i * 2 + 1) (.int .i64 s.i) := by
  have fl := flatK_len cS_len A
  rw [flatK_set cS_len hi]
  have h1 : ((flatK cS A).take (i * 2)).length = i * 2 := by rw [List.length_take, fl]; omega
  have h2 : (cS s).length = 2 := rfl
  apply List.ext_getElem?
  intro t
  simp only [List.getElem?_append, List.length_append, h1, h2, List.getElem?_set, List.length_set, fl, List.getElem?_take, List.getElem?_drop]
  by_cases c1 : t < i * 2
  · rw [if_pos (by omega), if_pos c1, if_pos c1, if_neg (by omega), if_neg (by omega)]
  · rcases Nat.lt_or_ge t (i * 2 + 2) with c2 | c2
    · rw [if_pos c2, if_neg c1]
      have : t = i * 2 ∨ t = i * 2 + 1 := by omega
      rcases this with rfl | rfl
      · rw [if_neg (by omega), if_pos rfl, if_pos (by omega), Nat.sub_self]
        rfl
      · rw [if_pos rfl, if_pos (by omega), Nat.add_sub_cancel_left]
        rfl
    · rw [if_neg (by omega), if_neg (by omega), if_neg (by omega)]
      congr 1
      omega
theorem RtH.moved {p g g' ca cb n : Nat} {S : St} {w : World} (h : RtH p (.slice (some ⟨g, 0, none⟩) n ca) (.slice (some ⟨g', 0, none⟩) n cb) S w) {i : Nat} (hi : i < S.length) (s : Sl) (good : Good (S.set i ⟨s, dep S i⟩)) :
    GoesT w p (.slice (some ⟨g, 0, none⟩) n ca) (.slice (some ⟨g', 0, none⟩) n cb) (S.set i ⟨s, dep S i⟩) ((w.setCell ⟨g, i * 2, none⟩ (.int .i64 s.n)).setCell ⟨g, i * 2 + 1, none⟩ (.int .i64 s.i)) := by
  have eA : allS (S.set i ⟨s, dep S i⟩) = (allS S).set i s := by unfold allS; rw [List.map_set]
  have eD : deps (S.set i ⟨s, dep S i⟩) = deps S := by
    unfold deps
    rw [List.map_set]
    refine List.ext_getElem? fun j => ?_
    rw [List.getElem?_set]
    split
    · rename_i e
      subst e
      rw [if_pos (by simpa using hi), List.getElem?_map, atE_some hi]
      rfl
    · rfl
  have hgp : g ≠ p := fun e => by
    have h1 := h.head
    rcases h.rowS.2 with ⟨e1, _⟩ | ⟨g1, c1, cur, e1, _, hg, _⟩
    · cases e1
    · cases e1
      rw [e, h1] at hg
      have := Option.some.inj hg
      injection this with _ e4 _
      exact absurd e4 (by decide)
  have hgg : (Value.slice (some ⟨g', 0, none⟩) n cb).ownBlock ≠ some g := own_apart h.rowS h.rowD rfl
  have hn : n = (allS S).length := by
    rcases h.rowS.2 with ⟨e1, _⟩ | ⟨g1, c1, cur, e1, _⟩
    · cases e1
    · cases e1
      rfl
  refine ⟨_, _, ⟨?_, ?_, ?_, good⟩, ?_, Out.refl _ _⟩
  · rw [blk_setCell_other _ _ _ _ (Ne.symm hgp), blk_setCell_other _ _ _ _ (Ne.symm hgp)]
    exact h.head
  · have r := h.rowS
    unfold OwnS at r ⊢
    rw [eA, List.length_set, flat_setS (by rw [alls_len]; exact hi)]
    subst hn
    exact (World.ownsRow.stored (World.ownsRow.stored r (i * 2) (.int .i64 s.n)).1 (i * 2 + 1) (.int .i64 s.i)).1
  · rw [eD]
    exact own_of_block h.rowD fun x hx => (blk_setCell_other _ _ _ _ fun e => hgg (by rw [hx, e])).trans (blk_setCell_other _ _ _ _ fun e => hgg (by rw [hx, e]))
  · have t1 := Turn.setCell (fpR p (.slice (some ⟨g, 0, none⟩) n ca) (.slice (some ⟨g', 0, none⟩) n cb)) w ⟨g, i * 2, none⟩ (.int .i64 s.n) (.inr (.inl rfl))
    exact t1.trans (Turn.setCell (fpR p (.slice (some ⟨g, 0, none⟩) n ca) (.slice (some ⟨g', 0, none⟩) n cb)) _ ⟨g, i * 2 + 1, none⟩ (.int .i64 s.i) (.inr (.inl rfl))) fun x hx => .inl hx
set_option maxHeartbeats 4000000 in
theorem rmove_any (p : Nat) (a b : Value) (S : St) (a1 s : Sl) (w : World) (h : RtH p a b S w) (hl : S.length ≤ 1000) :
    Calls Try.prog 33 #[.pointer (some ⟨p, 0, none⟩), encS a1, encS s] w fun e w' => e = .returned (.int .i64 (moveE S a1 s)) ∧ GoesT w p a b (moveS S a1 s) w' := by
  obtain ⟨x1, x2, x3, x4⟩ := box2 w (objS a1) (objS s)
  have H : Hid (RtH p a b S w ∧ S.length ≤ 1000) := ⟨h, hl⟩
  have HE : Hid (moveE S a1 s = (if hasB S a1 then if hasB S s then 70 else 0 else 71) ∧ moveS S a1 s = if hasB S a1 ∧ ¬ hasB S s then S.set (pl S a1) ⟨s, dep S (pl S a1)⟩ else S) := ⟨rfl, rfl⟩
  generalize moveE S a1 s = me at *
  generalize moveS S a1 s = ms at *
  obtain ⟨s0, s1⟩ := AtS.cells (show AtS _ _ a1 from x1)
  clear h hl
  have HP := rplace_any p a b S a1 _ (H.out.1.below x4) H.out.2
  have hI : Hid _ := HP
  have HX : Hid (plI S a1 = if hasB S a1 then ((pl S a1 : Nat) : Int) else -1) := rfl
  generalize plI S a1 = z at *
  clear HP
  simp only [encS, objS] at *
  go_enter Try.func33, Try.ntmps33
  cases ha : hasB S a1 with
  | false =>
    rw [ha] at HE HX
    obtain ⟨rfl, e2⟩ := HE.out
    rw [if_neg (by simp)] at e2
    subst e2
    obtain rfl : z = -1 := HX.out
    go_wp2_with (go_at_call 35; refine Calls.mono hI.out ?_; rintro e w' ⟨rfl, b2⟩)
    go_ret
    exact ⟨rfl, GoesT.same H.out.1 (Below.then x4 b2 x4.size)⟩
  | true =>
    rw [ha] at HE HX
    obtain rfl : z = ((pl S a1 : Nat) : Int) := HX.out
    go_wp2_with fail
    refine Calls.mono hI.out ?_
    rintro e w3 ⟨rfl, b3⟩
    have B3 : Hid (Below w.heap.size w w3) := Below.then x4 b3 x4.size
    have a2 : AtS w3 (w.heap.size + 1) s := (b3.block _ (by rw [x3]; omega)).trans x2
    have A2 : Hid (AtS w3 (w.heap.size + 1) s) := a2
    have HP := rplace_any p a b S s w3 (H.out.1.below B3.out) H.out.2
    clear hI s0 s1 x1 x2 x3 x4 b3 HX
    have hI : Hid _ := HP
    have HX : Hid (plI S s = if hasB S s then ((pl S s : Nat) : Int) else -1) := rfl
    generalize plI S s = z at *
    obtain ⟨s0, s1⟩ := a2.cells
    clear HP a2
    simp only [encS] at *
    cases hb : hasB S s with
    | true =>
      rw [hb] at HE HX
      obtain ⟨rfl, e2⟩ := HE.out
      rw [if_neg (by simp)] at e2
      subst e2
      obtain rfl : z = ((pl ms s : Nat) : Int) := HX.out
      go_wp2_with (go_at_call 35; refine Calls.mono hI.out ?_; rintro e w' ⟨rfl, b2⟩)
      go_ret
      exact ⟨rfl, GoesT.same H.out.1 (Below.then B3.out b2 B3.out.size)⟩
    | false =>
      rw [hb] at HE HX
      obtain ⟨rfl, e2⟩ := HE.out
      rw [if_pos (by simp)] at e2
      obtain rfl : z = -1 := HX.out
      go_wp2_with fail
      refine Calls.mono hI.out ?_
      rintro e w4 ⟨rfl, b4⟩
      have B4 : Below w.heap.size w w4 := Below.then B3.out b4 B3.out.size
      obtain ⟨t0, t1⟩ := (A2.out.below b4).cells
      have h4 := H.out.1.below B4
      obtain ⟨hp1, hp2⟩ := pl_slt ha
      obtain ⟨ao, ca, bo, cb, rfl, rfl, -, -, c0, c1, hx⟩ := h4.slices
      obtain ⟨g, g', rfl, rfl, z0, z1, z2, fz⟩ := hx _ hp1
      have KE : Hid (GoesT w p (.slice (some ⟨g, 0, none⟩) S.length ca) (.slice (some ⟨g', 0, none⟩) S.length cb) ms ((w4.drew.setCell ⟨g, pl S a1 * 2, none⟩ (.int .i64 s.n)).setCell ⟨g, pl S a1 * 2 + 1, none⟩ (.int .i64 s.i))) := by
        rw [e2]
        exact GoesT.from (Below.then B4 ((Below.refl _ _).drew) B4.size) (RtH.moved (w := w4.drew) (h4.below ((Below.refl _ _).drew)) hp1 s (H.out.1.good.moved hb hp1))
      have hp3 : ((pl S a1 : Nat) : Int) < (S.length : Int) := by omega
      clear hI s0 s1 B3 A2 b4 B4 h4 hp2 ha hb HE HX H hx e2 c1 z2
      generalize pl S a1 = i at *
      generalize w.heap.size = r at *
      go_wp2
      go_region
      all_goals go_wp2
      all_goals go_ret
      all_goals exact ⟨rfl, KE.out⟩
end Go.Proofs.Ythfoeppcageneaa

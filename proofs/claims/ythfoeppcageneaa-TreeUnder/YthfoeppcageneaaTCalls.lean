/-
  What New, Root, Move, Parent, Under and All of package tree answer and leave; no condition but that the tree is small.
-/
import Derived.Test.YthfoeppcageneaaTUnder
namespace Go.Proofs.Ythfoeppcageneaa
set_option linter.unusedSectionVars false
variable [DecidableEq Sl]
open Go.RowKit Go.Deep Go.Shelf

theorem new_any (w : World) : Calls Try.prog 9 #[] w fun e w' => e = .returned (.pointer (some ⟨w.heap.size, 0, none⟩)) ∧ w' = w.alloc (.cells #[.slice none 0 0] 50) := by
  go_enter Try.func9, Try.ntmps9
  go_wp2
  go_ret
  exact ⟨rfl, rfl⟩
theorem new_tree (w : World) : TrH w.heap.size (.slice none 0 0) [] (w.alloc (.cells #[.slice none 0 0] 50)) :=
  ⟨blk_alloc_new _ _, World.ownsRow_nil _ _ _ _, by simp [Value.ownBlock], good_nil⟩
theorem append_entry (w : World) (ty : TypeId) (v : Value) (S : St) (x : En) (hown : RowE w v S) (hl : S.length ≤ 1000000) :
    ∃ v' w', (Builtin.append_ #[48, 48] ty #[v, .slice (some ⟨w.heap.size, 0, none⟩) 1 1]).run Try.prog (w.alloc (objE x)) = .ok v' w' ∧ RowE w' v' (S ++ [x]) ∧ w.grownBy w' v.ownBlock ∧ (v'.ownBlock = v.ownBlock ∨ v'.ownBlock = some (w.heap.size + 1)) := by
  obtain ⟨i, hi, hz⟩ := Option.map_eq_some_iff.1 infoE
  simp only [Prod.mk.injEq] at hz
  have h1 : (w.alloc (objE x)).ownsRow 0 53 3 v S.length (flatK cE S) := World.ownsRow.alloc hown _
  obtain ⟨v', w', r1, r2, r3, _, r5⟩ := run_append_own_at (P := Try.prog) (w.alloc (objE x)) 0 48 ty 53 i _ 3 24 Try.underlying48 hi hz.1 hz.2.1 hz.2.2 rfl (by decide) v S.length (flatK cE S) h1 ⟨w.heap.size, 0, none⟩ 1 1 (cE x) rfl
    (atE_cellq (AtE.new w x)) (cE_one x) (by unfold maxLen; omega) (by omega) (by omega)
  refine ⟨v', w', r1, ?_, (World.grownBy_alloc w _ _).trans r3, by simpa using r5⟩
  unfold RowE
  rw [List.length_append, flatK_app, flatK_cons]
  simpa [flatK] using r2
/-- A new row is hung into the struct. -/
theorem TrH.hang {p : Nat} {v v' : Value} {S T : St} {w w5 : World} (h : TrH p v S w) (row : RowE w5 v' T) (g5 : w.grownBy w5 v.ownBlock) (loc : v'.ownBlock = v.ownBlock ∨ ∃ g, v'.ownBlock = some g ∧ w.heap.size ≤ g) (good : Good T) : Goes w p v T (w5.setCell ⟨p, 0, none⟩ v') := by
  have hpv : some p ≠ v.ownBlock := fun e => h.ne e.symm
  have hne : v'.ownBlock ≠ some p := fun e => by
    rcases loc with l | ⟨g, l, hg⟩
    · exact h.ne (l ▸ e)
    · rw [l] at e
      cases e
      have := h.lt
      omega
  have h5 : w5.heap[p]? = some (.cells #[v] 50 (0, 0)) := (g5.block p h.lt hpv).trans h.head
  refine ⟨v', ⟨?_, own_of_block row fun g hg => blk_setCell_other _ _ _ _ fun e => hne (by rw [hg, e]), hne, good⟩, ?_, fun x hx => ?_⟩
  · simp only [World.setCell, Array.getElem?_modify, h5, Option.map_some]
    simp
  · exact (Turn.grown (F := fpT p v) g5 fun k hk => .inl (.inr hk)).trans (Turn.setCell (fpT p v) w5 ⟨p, 0, none⟩ v' (.inl rfl)) fun x hx => .inl hx
  · rcases hx with rfl | hx
    · exact .inl (.inl rfl)
    · rcases loc with l | ⟨g, l, hg⟩
      · exact .inl (.inr (l ▸ hx))
      · rw [l] at hx
        cases hx
        exact .inr hg
set_option maxHeartbeats 1000000 in
theorem root_any (p : Nat) (v : Value) (S : St) (s : Sl) (w : World) (h : TrH p v S w) (hl : S.length ≤ 1000) :
    Calls Try.prog 12 #[.pointer (some ⟨p, 0, none⟩), encS s] w fun e w' => e = .returned (.int .i64 (rootE S s)) ∧ Goes w p v (rootS S s) w' := by
  have b1 := below_new w (objS s)
  have HP := has_any p v S s (w.alloc (objS s)) (h.below b1) hl
  obtain ⟨s0, s1⟩ := (AtS.new w s).cells
  have A1 : Hid (AtS (w.alloc (objS s)) w.heap.size s) := AtS.new w s
  have B : Hid (Below w.heap.size w (w.alloc (objS s))) := b1
  have hI : Hid _ := HP
  have H : Hid (TrH p v S w) := h
  have HE : Hid (rootE S s = (if hasB S s then 70 else 0) ∧ rootS S s = if hasB S s then S else S ++ [⟨s, 0⟩]) := ⟨rfl, rfl⟩
  generalize rootE S s = re at *
  generalize rootS S s = rs at *
  clear HP b1 h
  simp only [encS, objS] at *
  go_enter Try.func12, Try.ntmps12
  cases hh : hasB S s with
  | true =>
    rw [hh] at HE hI
    obtain ⟨rfl, rfl⟩ := HE.out
    go_wp2_with (go_at_call 29; refine Calls.mono hI.out ?_; rintro e w' ⟨rfl, b2⟩)
    go_ret
    exact ⟨rfl, Goes.same H.out (Below.then B.out b2 B.out.size)⟩
  | false =>
    rw [hh] at HE hI
    obtain ⟨e1, e2⟩ := HE.out
    have HG : Hid (hasB S s = false) := hh
    go_wp2_with fail
    refine Calls.mono hI.out ?_
    rintro e w1 ⟨rfl, b2⟩
    have a1 := A1.out.below b2
    have B2 : Below w.heap.size w w1 := Below.then B.out b2 B.out.size
    have h1 := H.out.below B2
    obtain ⟨v', w5, hrun, row5, g5, loc⟩ := append_entry w1.drew 48 v S ⟨s, 0⟩ h1.row (by omega)
    have hr5 := h1.hang row5 ⟨g5.os, g5.tape, g5.output, g5.size, g5.block⟩ (loc.imp id fun e => ⟨_, e, Nat.le_succ _⟩) (H.out.good.root HG.out)
    have HK : Hid (Goes w p v (S ++ [⟨s, 0⟩]) (w5.setCell ⟨p, 0, none⟩ v')) := Goes.from B2 hr5
    have h5 : w5.heap[p]? = some (.cells #[v] 50 (0, 0)) := (g5.block p h1.lt fun e => h1.ne e.symm).trans h1.head
    have c5 : w5.cell? ⟨p, 0, none⟩ = some v := by simp [World.cell?, h5]
    have f5 : w5.frozen? ⟨p, 0, none⟩ = false := by simp [World.frozen?, h5]
    have c0 := h1.cell
    obtain ⟨s0, s1⟩ := a1.cells
    obtain ⟨ao, cap, rfl, -, -, -⟩ := h1.row.slice
    obtain ⟨ao', cap', rfl, -, -, -⟩ := row5.slice
    have c0' := fun o => cell_al c0 o
    have s0' := fun o => cell_al s0 o
    have s1' := fun o => cell_al s1 o
    obtain ⟨n', HN'⟩ : ∃ n', Hid ((S ++ [(⟨s, 0⟩ : En)]).length = n') := ⟨_, rfl⟩
    rw [HN'.out] at hrun HK
    have HRun : Hid _ := hrun
    have mixed : Try.prog.follows Departure.mixedOrders = true := by kernel_rfl
    obtain ⟨r1, HR1⟩ : ∃ r1, Hid (w1.heap.size = r1) := ⟨_, rfl⟩
    rw [show w1.drew.heap.size = w1.heap.size from rfl, HR1.out] at HRun
    subst e1 e2
    clear hrun row5 g5 loc hr5 h5 a1 b2 h1 B2 B A1 hI HE hh HG H
    simp only [objE] at *
    generalize hr : w.heap.size = r at *
    clear hr
    go_wp2
    go_region_law_o (refine step_append_run rfl (.tmp 12) (.tmp 15) 48 48 rfl (.slice ao S.length cap) (.slice (some ⟨r1, 0, none⟩) 1 1) _ _ (by simp [Act.eval]) (by simp [Act.eval]; exact HR1.out) HRun.out ?_)
    all_goals go_wp2
    all_goals go_ret
    all_goals exact ⟨rfl, HK.out⟩

/-! ### Move -/
theorem flat_set3 {S : St} {i : Nat} (hi : i < S.length) (e : En) : flatK cE (S.set i e) = (((flatK cE S).set (i * 3) (.int .i64 e.s.n)).set (i * 3 + 1) (.int .i64 e.s.i)).set (i * 3 + 2) (.int .i64 e.d) := by
  have fl := flatK_len cE_len S
  rw [flatK_set cE_len hi]
  have h1 : ((flatK cE S).take (i * 3)).length = i * 3 := by rw [List.length_take, fl]; omega
  have h2 : (cE e).length = 3 := rfl
  apply List.ext_getElem?
  intro t
  simp only [List.getElem?_append, List.length_append, h1, h2, List.getElem?_set, List.length_set, fl, List.getElem?_take, List.getElem?_drop]
  by_cases c1 : t < i * 3
  · rw [if_pos (by omega), if_pos c1, if_pos c1, if_neg (by omega), if_neg (by omega), if_neg (by omega)]
  · rcases Nat.lt_or_ge t (i * 3 + 3) with c2 | c2
    · rw [if_pos c2, if_neg c1]
      have : t = i * 3 ∨ t = i * 3 + 1 ∨ t = i * 3 + 2 := by omega
      rcases this with rfl | rfl | rfl
      · rw [if_neg (by omega), if_neg (by omega), if_pos rfl, if_pos (by omega), Nat.sub_self]
        rfl
      · rw [if_neg (by omega), if_pos rfl, if_pos (by omega), Nat.add_sub_cancel_left]
        rfl
      · rw [if_pos rfl, if_pos (by omega), Nat.add_sub_cancel_left]
        rfl
    · rw [if_neg (by omega), if_neg (by omega), if_neg (by omega), if_neg (by omega)]
      congr 1
      omega
theorem set_self {L : List Value} {j : Nat} {v : Value} (h : L[j]? = some v) : L.set j v = L := by
  obtain ⟨hj, e⟩ := List.getElem?_eq_some_iff.1 h
  rw [← e]
  exact List.set_getElem_self hj
theorem flat_at {S : St} {i : Nat} (hi : i < S.length) : (flatK cE S)[i * 3]? = some (.int .i64 (slt S i).n) ∧ (flatK cE S)[i * 3 + 1]? = some (.int .i64 (slt S i).i) ∧ (flatK cE S)[i * 3 + 2]? = some (.int .i64 (dep S i)) := by
  have e := fun j hj => flatK_get cE_len (atE_some hi) (j := j) hj
  have e0 := e 0 (by omega)
  exact ⟨e0, e 1 (by omega), e 2 (by omega)⟩
/-- Another slot is written over an entry's. -/
theorem RowE.slot {w : World} {g n cap : Nat} {S : St} (h : RowE w (.slice (some ⟨g, 0, none⟩) n cap) S) {i : Nat} (hi : i < S.length) (b : Sl) : RowE ((w.setCell ⟨g, i * 3, none⟩ (.int .i64 b.n)).setCell ⟨g, i * 3 + 1, none⟩ (.int .i64 b.i)) (.slice (some ⟨g, 0, none⟩) n cap) (S.set i ⟨b, dep S i⟩) := by
  obtain ⟨Z, _, _, rfl⟩ := row_parts h
  have h1 := (World.ownsRow.stored h (i * 3) (.int .i64 b.n)).1
  have h2 := (World.ownsRow.stored h1 (i * 3 + 1) (.int .i64 b.i)).1
  unfold RowE
  rw [List.length_set, flat_set3 hi]
  have e : (((flatK cE S).set (i * 3) (.int .i64 b.n)).set (i * 3 + 1) (.int .i64 b.i))[i * 3 + 2]? = some (.int .i64 (dep S i)) := by
    rw [List.getElem?_set, if_neg (by omega), List.getElem?_set, if_neg (by omega)]
    exact (flat_at hi).2.2
  rw [set_self e]
  exact h2
/-- Another depth is written over an entry's. -/
theorem RowE.depth {w : World} {g n cap : Nat} {S : St} (h : RowE w (.slice (some ⟨g, 0, none⟩) n cap) S) {i : Nat} (hi : i < S.length) (d : Int) : RowE (w.setCell ⟨g, i * 3 + 2, none⟩ (.int .i64 d)) (.slice (some ⟨g, 0, none⟩) n cap) (S.set i ⟨slt S i, d⟩) := by
  obtain ⟨Z, _, _, rfl⟩ := row_parts h
  have h1 := (World.ownsRow.stored h (i * 3 + 2) (.int .i64 d)).1
  unfold RowE
  rw [List.length_set, flat_set3 hi]
  rw [set_self (flat_at hi).1, set_self (flat_at hi).2.1]
  exact h1
theorem TrH.turned {p : Nat} {v : Value} {S T : St} {w w' : World} (h : TrH p v S w) (row : RowE w' v T) (t : Turn (fun x => v.ownBlock = some x) w w') (good : Good T) : Goes w p v T w' :=
  ⟨v, ⟨(t.block p h.lt h.ne).trans h.head, row, h.ne, good⟩, ⟨t.os, t.tape, t.output, t.size, fun k hk hn => t.block k hk fun e => hn (.inr e)⟩, Out.refl _ _⟩
set_option maxHeartbeats 1000000 in
theorem move_any (p : Nat) (v : Value) (S : St) (a b : Sl) (w : World) (h : TrH p v S w) (hl : S.length ≤ 1000) :
    Calls Try.prog 23 #[.pointer (some ⟨p, 0, none⟩), encS a, encS b] w fun e w' => e = .returned (.int .i64 (moveE S a b)) ∧ Goes w p v (moveS S a b) w' := by
  obtain ⟨x1, x2, x3, x4⟩ := box2 w (objS a) (objS b)
  have H : Hid (TrH p v S w) := h
  have HL : Hid (S.length ≤ 1000) := hl
  have HE : Hid (moveE S a b = (if hasB S a then if hasB S b then 70 else 0 else 71) ∧ moveS S a b = if hasB S a ∧ ¬ hasB S b then S.set (pl S a) ⟨b, dep S (pl S a)⟩ else S) := ⟨rfl, rfl⟩
  generalize moveE S a b = me at *
  generalize moveS S a b = ms at *
  obtain ⟨s0, s1⟩ := AtS.cells (show AtS _ _ a from x1)
  clear h hl
  have HP := place_any p v S a _ (H.out.below x4) HL.out
  have hI : Hid _ := HP
  have HX : Hid (plI S a = if hasB S a then ((pl S a : Nat) : Int) else -1) := rfl
  generalize plI S a = z at *
  clear HP
  simp only [encS, objS] at *
  go_enter Try.func23, Try.ntmps23
  cases ha : hasB S a with
  | false =>
    rw [ha] at HE hI
    obtain ⟨rfl, e2⟩ := HE.out
    rw [if_neg (by simp)] at e2
    subst e2
    go_wp2_with (go_at_call 26; refine Calls.mono hI.out ?_; rintro e w' ⟨rfl, b2⟩)
    go_ret
    exact ⟨rfl, Goes.same H.out (Below.then x4 b2 x4.size)⟩
  | true =>
    rw [ha] at HE HX hI
    obtain rfl : z = ((pl S a : Nat) : Int) := HX.out
    go_wp2_with fail
    refine Calls.mono hI.out ?_
    rintro e w3 ⟨rfl, b3⟩
    have B3 : Hid (Below w.heap.size w w3) := Below.then x4 b3 x4.size
    have a2 : AtS w3 (w.heap.size + 1) b := (b3.block _ (by rw [x3]; omega)).trans x2
    have A2 : Hid (AtS w3 (w.heap.size + 1) b) := a2
    have HP := has_any p v S b w3 (H.out.below B3.out) HL.out
    clear hI s0 s1 x1 x2 x3 x4 b3
    have hI : Hid _ := HP
    obtain ⟨s0, s1⟩ := a2.cells
    clear HP a2
    simp only [encS] at *
    cases hb : hasB S b with
    | true =>
      rw [hb] at HE hI
      obtain ⟨rfl, e2⟩ := HE.out
      rw [if_neg (by simp)] at e2
      subst e2
      go_wp2_with (go_at_call 29; refine Calls.mono hI.out ?_; rintro e w' ⟨rfl, b2⟩)
      go_ret
      exact ⟨rfl, Goes.same H.out (Below.then B3.out b2 B3.out.size)⟩
    | false =>
      rw [hb] at HE hI
      obtain ⟨rfl, e2⟩ := HE.out
      rw [if_pos (by simp)] at e2
      subst e2
      go_wp2_with fail
      refine Calls.mono hI.out ?_
      rintro e w4 ⟨rfl, b4⟩
      have B4 : Below w.heap.size w w4 := Below.then B3.out b4 B3.out.size
      obtain ⟨t0, t1⟩ := (A2.out.below b4).cells
      have h4 := H.out.below B4
      obtain ⟨hp1, hp2⟩ := pl_slt ha
      obtain ⟨ao, cap, rfl, -, -, hg⟩ := h4.row.slice
      obtain ⟨g, rfl⟩ := hg _ hp1
      obtain ⟨d0, d1, -⟩ := h4.row.cells hp1
      have fz := h4.row.frozen
      have c0 := h4.cell
      have HK : Hid (Goes w p (.slice (some ⟨g, 0, none⟩) S.length cap) (S.set (pl S a) ⟨b, dep S (pl S a)⟩) ((w4.drew.setCell ⟨g, pl S a * 3, none⟩ (.int .i64 b.n)).setCell ⟨g, pl S a * 3 + 1, none⟩ (.int .i64 b.i))) := by
        refine Goes.from B4 (h4.turned (RowE.slot (w := w4.drew) h4.row hp1 b) ?_ (H.out.good.moved hb hp1))
        have t1 : Turn (fun x => (Value.slice (some ⟨g, 0, none⟩) S.length cap).ownBlock = some x) w4 w4.drew := (Turn.refl _ _).drew
        have t2 := t1.trans (Turn.setCell (fun x => (Value.slice (some ⟨g, 0, none⟩) S.length cap).ownBlock = some x) w4.drew ⟨g, pl S a * 3, none⟩ (.int .i64 b.n) rfl) fun x hx => .inl hx
        exact t2.trans (Turn.setCell (fun x => (Value.slice (some ⟨g, 0, none⟩) S.length cap).ownBlock = some x) _ ⟨g, pl S a * 3 + 1, none⟩ (.int .i64 b.i) rfl) fun x hx => .inl hx
      have hp3 : ((pl S a : Nat) : Int) < (S.length : Int) := by omega
      clear hI s0 s1 B3 A2 b4 B4 h4 hp2 ha hb HE HX H HL hg
      go_wp2
      go_region
      all_goals go_wp2
      all_goals go_ret
      all_goals exact ⟨rfl, HK.out⟩
end Go.Proofs.Ythfoeppcageneaa

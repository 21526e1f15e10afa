/-
  What append and the library's Index and Delete do to a row of ints; no condition but that the row is short.
-/
import Derived.Test.YtchamgecalfmpaaDoorQMap
import Derived.Lib.AppendZerosOnto
import Derived.Laws.AppendOwnNone
import Derived.Shelf.RegionOpenPlain
import Derived.Deep.RegionLaw
namespace Go.Proofs.YtchamgecalfmpaaDoor
open Go.RowKit Go.Deep Go.Shelf

/-! ### Parts of a row are written -/
def splL (L : List Value) (o : Nat) (cs : List Value) : List Value := L.take o ++ cs ++ L.drop (o + cs.length)
theorem splL_len (L : List Value) (o : Nat) (cs : List Value) (h : o + cs.length ≤ L.length) : (splL L o cs).length = L.length := by
  unfold splL
  simp
  omega
theorem splL_at (A Z cs : List Value) (o : Nat) (h : A.length = o) : splL (A ++ Z) o cs = A ++ cs ++ Z.drop cs.length := by
  subst h
  unfold splL
  rw [List.take_left, List.drop_append]
  have e1 : A.length + cs.length - A.length = cs.length := by omega
  have e2 : List.drop (A.length + cs.length) A = [] := List.drop_of_length_le (by omega)
  rw [e1, e2, List.nil_append]
theorem infoI : (Tryd.prog.info? 3).map (fun i => (i.zero, i.size, i.bytes)) = some (some (.int .i64 0), 1, 8) := by kernel_rfl
theorem wpList_append_run {w : World} {ops : Array Oper} {rest : List Oper} {o : Oper} {a : Act} {Q : Exit → Act → World → Prop} (hgd : o.guard = none) (s x : Operand) (t t' : TypeId)
    (ho : o.op = .call { callee := .builtin .append, args := #[s, x], argTypes := #[t, t'] }) (v y v' : Value) (w' : World) (hs : a.eval s = v) (hx : a.eval x = y)
    (hrun : (Builtin.append_ #[t, t'] o.type #[v, y]).run Tryd.prog w = .ok v' w') (h : wpList Tryd.prog ops Q rest (a.put o.dst v') w') : wpList Tryd.prog ops Q (o :: rest) a w :=
  wpList_plain hgd fun _ hK => by
    unfold Oper.wp execOp
    simp only [ho, resolve, invoke, builtin, Sem.run_bind, Sem.run_pure, Result.andThen_ok, List.map_toArray, List.map_cons, List.map_nil, hs, hx, hrun]
    exact hK _ _ h
theorem step_append_run {w : World} {ops : Array Oper} {o : Oper} {a : Act} {K : Act → World → Prop} {Q : Exit → Act → World → Prop} {E : Prop} (hgd : o.guard = none) (s x : Operand) (t t' : TypeId)
    (ho : o.op = .call { callee := .builtin .append, args := #[s, x], argTypes := #[t, t'] }) (v y v' : Value) (w' : World) (hs : a.eval s = v) (hx : a.eval x = y)
    (hrun : (Builtin.append_ #[t, t'] o.type #[v, y]).run Tryd.prog w = .ok v' w') (h : K (a.put o.dst v') w') : if Region.wanted o (yielded ops a.tmps) = true then Oper.wp Tryd.prog o a w K Q else E := by
  have hw : Region.wanted o (yielded ops a.tmps) = true := by simp [Region.wanted, hgd]
  rw [if_pos hw]
  unfold Oper.wp
  simp [execOp, ho, resolve, invoke, builtin, hs, hx, hrun, Result.andThen]
  exact h
/-! ### append -/
/-- One more, out of a block that holds it. -/
theorem append_one (w : World) (ty : TypeId) (v : Value) (L : List Int) (n : Int) (q : Nat) (hown : RowI w v L) (hq : w.cell? ⟨q, 0, none⟩ = some (.int .i64 n)) (hl : L.length ≤ 1000000) :
    ∃ v' w', (Builtin.append_ #[50, 50] ty #[v, .slice (some ⟨q, 0, none⟩) 1 1]).run Tryd.prog w = .ok v' w' ∧ RowI w' v' (L ++ [n]) ∧ w.grownBy w' v.ownBlock ∧ (v'.ownBlock = v.ownBlock ∨ v'.ownBlock = some w.heap.size) := by
  obtain ⟨i, hi, hz⟩ := Option.map_eq_some_iff.1 infoI
  simp only [Prod.mk.injEq] at hz
  obtain ⟨v', w', r1, r2, r3, _, r5⟩ := run_append_own_at (P := Tryd.prog) (w := w) 0 50 ty 3 i _ 1 8 Tryd.underlying50 hi hz.1 hz.2.1 hz.2.2 rfl (by decide) v L.length (flatK cI L) hown ⟨q, 0, none⟩ 1 1 (cI n) rfl
    (fun j u hj => by
      rw [add_none]
      have h1 : j = 0 := by have := (List.getElem?_eq_some_iff.1 hj).1; simp [cI] at this; omega
      subst h1
      simp only [cI, List.getElem?_cons_zero, Option.some.injEq] at hj
      rw [← hj]
      exact hq) (cI_one n) (by unfold maxLen; omega) (by omega) (by omega)
  refine ⟨v', w', r1, ?_, r3, r5⟩
  unfold RowI
  rw [List.length_append, flatK_app, flatK_cons]
  simpa [flatK] using r2
/-- A row onto another one. -/
theorem append_row (w : World) (ty : TypeId) (v u : Value) (L A : List Int) (hown : RowI w v L) (hu : RowI w u A) (hl : L.length + A.length ≤ 1000000) :
    ∃ v' w', (Builtin.append_ #[50, 50] ty #[v, u]).run Tryd.prog w = .ok v' w' ∧ RowI w' v' (L ++ A) ∧ w.grownBy w' v.ownBlock ∧ (v'.ownBlock = v.ownBlock ∨ v'.ownBlock = some w.heap.size) ∧ (v' = .slice none 0 0 → A = []) := by
  obtain ⟨i, hi, hz⟩ := Option.map_eq_some_iff.1 infoI
  simp only [Prod.mk.injEq] at hz
  rcases hu.2 with ⟨rfl, h0⟩ | ⟨g, cap, cur, rfl, _⟩
  · obtain rfl : A = [] := List.length_eq_zero_iff.1 h0
    exact ⟨v, w, run_append_owned_none (P := Tryd.prog) (w := w) 0 50 ty 3 i 1 Tryd.underlying50 hi v _ _ hown, by rw [List.append_nil]; exact hown, ⟨rfl, rfl, rfl, Nat.le_refl _, fun _ _ _ => rfl⟩, .inl rfl, fun _ => rfl⟩
  · obtain ⟨v', w', r1, r2, r3, r4, r5⟩ := run_append_own_at (P := Tryd.prog) (w := w) 0 50 ty 3 i _ 1 8 Tryd.underlying50 hi hz.1 hz.2.1 hz.2.2 rfl (by decide) v L.length (flatK cI L) hown ⟨g, 0, none⟩ A.length cap (flatK cI A) (flatK_len cI_len A)
      (fun j u hj => World.ownsRow.cells hu (g := g) rfl j u hj) (flatK_one cI_one _) (by unfold maxLen; omega) (by omega) (by omega)
    refine ⟨v', w', r1, ?_, r3, r5, fun e => List.length_eq_zero_iff.1 (r4.1 e).2⟩
    unfold RowI
    rw [List.length_append, flatK_app]
    exact r2
/-! ### Index -/
theorem index_any (g cap : Nat) (L : List Int) (i : Nat) (n : Int) (w : World) (h : RowI w (.slice (some ⟨g, 0, none⟩) L.length cap) L) (hi : L[i]? = some n) (ha : ∀ j, j < i → L[j]? ≠ some n) (hl : L.length ≤ 1000) :
    Calls Tryd.prog 77 #[.slice (some ⟨g, 0, none⟩) L.length cap, .int .i64 n] w fun e w' => e = .returned (.int .i64 (i : Nat)) ∧ w' = w := by
  have hil := (List.getElem?_eq_some_iff.1 hi).1
  have HC : Hid (∀ j, j < L.length → ∃ x, w.cell? ⟨g, j, none⟩ = some (.int .i64 x) ∧ (j < i → x ≠ n) ∧ (j = i → x = n)) := fun j hj => by
    refine ⟨L[j], h.cell (List.getElem?_eq_getElem hj), fun hji e => ha j hji (by rw [List.getElem?_eq_getElem hj, e]), fun e => ?_⟩
    subst e
    rw [List.getElem?_eq_getElem hj] at hi
    simpa using hi
  clear h hi ha
  generalize L.length = m at *
  go_enter Tryd.func77, Tryd.ntmps77
  go_wp2
  go_loop [5, 8] (fun _ s8 => ∃ k : Nat, k ≤ i ∧ s8 = .int .i64 k) (fun _ s8 => i - (intOf s8).toNat)
  case atStart => exact ⟨0, Nat.zero_le _, rfl⟩
  case round =>
    obtain ⟨k, hk, rfl⟩ := hrel
    obtain ⟨x, hx, h1, h2⟩ := HC.out k (by omega)
    have hlt : k < m := by omega
    have hltz : (k : Int) < (m : Int) := by omega
    by_cases hki : k = i
    · obtain rfl := h2 hki
      subst hki
      clear h1 h2
      go_wp2
      go_ret
      exact ⟨rfl, rfl⟩
    · have hne : (n == x) = false := by simpa using fun e => h1 (by omega) e.symm
      clear h1 h2
      go_wp2
      go_round
      case rel => exact ⟨k + 1, by omega, by go_num⟩
      case measure => simp [intOf]; omega
/-! ### Delete -/
theorem row_parts {w : World} {g cap n : Nat} {L : List Int} (h : RowI w (.slice (some ⟨g, 0, none⟩) n cap) L) : ∃ Z : List Value, w.heap[g]? = some (.cells (flatK cI L ++ Z).toArray 3 (0, 0)) ∧ Z.length = cap - L.length ∧ n = L.length := by
  obtain ⟨h0, ⟨e, _⟩ | ⟨g', cap', cur, e, _, hg, h1, h2, h3, h4⟩⟩ := h
  · cases e
  · cases e
    refine ⟨cur.toList.drop (L.length * 1), ?_, ?_, rfl⟩
    · rw [← h4, List.take_append_drop, Array.toArray_toList]
      exact hg
    · rw [List.length_drop, Array.length_toList, h3]
      omega
theorem own_parts {w : World} {g cap : Nat} {L : List Int} {Z : List Value} (hg : w.heap[g]? = some (.cells (flatK cI L ++ Z).toArray 3 (0, 0))) (hz : Z.length = cap - L.length) (hc : L.length ≤ cap) (hm : cap ≤ 9223372036854775807) : RowI w (.slice (some ⟨g, 0, none⟩) L.length cap) L := by
  have hl := flatK_len cI_len L
  refine ⟨hl, .inr ⟨g, cap, _, rfl, Nat.zero_le _, hg, hc, by unfold maxLen; omega, ?_, ?_⟩⟩
  · rw [List.size_toArray, List.length_append, hl, hz]
    omega
  · show List.take (L.length * 1) (flatK cI L ++ Z) = flatK cI L
    rw [← hl, List.take_left]
theorem cells_at {w : World} {g : Nat} {A B Z : List Value} {o : Nat} (hg : w.heap[g]? = some (.cells (A ++ (B ++ Z)).toArray 3 (0, 0))) (ho : A.length = o) : ∀ j v, B[j]? = some v → w.cell? ((⟨g, o, none⟩ : Addr).add j) = some v := by
  intro j v hj
  subst ho
  have hl := (List.getElem?_eq_some_iff.1 hj).1
  rw [add_none]
  simp only [World.cell?, hg, List.getElem?_toArray]
  rw [List.getElem?_append_right (by omega), List.getElem?_append_left (by omega), Nat.add_sub_cancel_left]
  exact hj
def z1 : List Value := [.int .i64 0]
theorem clear_row (w : World) (ty : TypeId) (g o c : Nat) (cur : Array Value) (hg : w.heap[g]? = some (.cells cur 3 (0, 0))) (hfit : o + 1 ≤ cur.size) :
    (Builtin.clear_ #[50] ty #[.slice (some ⟨g, o, none⟩) 1 c]).run Tryd.prog w = .ok (.tuple #[]) (w.setRow g (splL cur.toList o z1).toArray) := by
  have hst := run_storeCells_at Tryd.prog g o 3 z1 0 cur w hg (by simp [z1]; omega) (by simp [z1, Value.oneCell'])
  simp only [Nat.add_zero] at hst
  have hzc : (Builtin.zeroCells (Value.int .i64 0).cells 1).toList = z1 := by
    simp [Builtin.zeroCells, Value.cells, z1]
  have hv := Tryd.zeroValue3
  unfold splL
  simp [Builtin.clear_, run_underlying Tryd.underlying50, hv, hzc, hst]
set_option maxHeartbeats 4000000 in
set_option maxRecDepth 100000 in
theorem delete_any (g cap : Nat) (S : List Int) (i : Nat) (w : World) (h : RowI w (.slice (some ⟨g, 0, none⟩) S.length cap) S) (hi : i < S.length) (hl : S.length ≤ 1000) :
    Calls Tryd.prog 84 #[.slice (some ⟨g, 0, none⟩) S.length cap, .int .i64 i, .int .i64 ((i : Int) + 1)] w fun e w' => e = .returned (.slice (some ⟨g, 0, none⟩) (S.length - 1) cap) ∧ RowI w' (.slice (some ⟨g, 0, none⟩) (S.length - 1) cap) (S.eraseIdx i) ∧ w.grownBy w' (some g) := by
  obtain ⟨_, _, e0, hcn, hc63, -⟩ := h.slice
  cases e0
  obtain ⟨Z, hg, hzl, -⟩ := row_parts h
  have fl : (flatK cI S).length = S.length := by rw [flatK_len cI_len, Nat.mul_one]
  have flt : (flatK cI (S.take i)).length = i := by rw [flatK_len cI_len, List.length_take]; omega
  have flt1 : (flatK cI (S.take (i + 1))).length = i + 1 := by rw [flatK_len cI_len, List.length_take]; omega
  have fld : (flatK cI (S.drop (i + 1))).length = S.length - (i + 1) := by rw [flatK_len cI_len, List.length_drop, Nat.mul_one]
  have fsp : flatK cI S = flatK cI (S.take (i + 1)) ++ flatK cI (S.drop (i + 1)) := by rw [← flatK_app, List.take_append_drop]
  have fsp0 : flatK cI S = flatK cI (S.take i) ++ flatK cI (S.drop i) := by rw [← flatK_app, List.take_append_drop]
  have hcells : ∀ j v, (flatK cI (S.drop (i + 1)))[j]? = some v → w.cell? ((⟨g, i + 1, none⟩ : Addr).add j) = some v := cells_at (A := flatK cI (S.take (i + 1))) (Z := Z) (by rw [fsp, List.append_assoc] at hg; exact hg) flt1
  obtain ⟨ti, hti, hz⟩ := Option.map_eq_some_iff.1 infoI
  simp only [Prod.mk.injEq] at hz
  obtain ⟨L1, hL1⟩ : ∃ L1, L1 = splL (flatK cI S ++ Z) i (flatK cI (S.drop (i + 1))) := ⟨_, rfl⟩
  obtain ⟨ad, had, hsrc⟩ : ∃ A : Addr, (if cap = i + 1 then some (⟨g, 0, none⟩ : Addr) else some ⟨g, i + 1, none⟩) = some A ∧ (∀ t u, (flatK cI (S.drop (i + 1)))[t]? = some u → w.drew.cell? (A.add t) = some u) := by
    by_cases hc : cap = i + 1
    · refine ⟨⟨g, 0, none⟩, by simp [hc], fun t u hu => ?_⟩
      have h0 : (flatK cI (S.drop (i + 1))).length = 0 := by rw [fld]; omega
      rw [List.length_eq_zero_iff.1 h0] at hu
      simp at hu
    · exact ⟨⟨g, i + 1, none⟩, by simp [hc], hcells⟩
  have run1 : Hid (∀ ty sc, (Builtin.append_ #[50, 50] ty #[.slice (some ⟨g, 0, none⟩) i cap, .slice (some ad) (S.length - (i + 1)) sc]).run Tryd.prog w.drew = .ok (.slice (some ⟨g, 0, none⟩) (i + (S.length - (i + 1))) cap) (w.drew.setRow g L1.toArray)) := fun ty sc => by
    have r := run_append_room (P := Tryd.prog) w.drew 50 ty 3 ti Tryd.underlying50 hti g i cap (flatK cI S ++ Z).toArray hg ad (S.length - (i + 1)) sc (flatK cI (S.drop (i + 1))) (by rw [hz.2.1, fld, Nat.mul_one]) hsrc (flatK_one cI_one _) (by omega) (by rw [hz.2.1, List.size_toArray, List.length_append, fl, fld]; omega)
    rw [hz.2.1, Nat.mul_one] at r
    rw [hL1]
    exact r
  have e1 : i + (S.length - (i + 1)) = S.length - 1 := by omega
  rw [e1] at run1
  have l1 : L1.length = S.length + Z.length := by rw [hL1, splL_len _ _ _ (by rw [List.length_append, fl, fld]; omega), List.length_append, fl]
  have hg1 : (w.drew.setRow g L1.toArray).heap[g]? = some (.cells L1.toArray 3 (0, 0)) := setRow_heap w.drew g _ _ _ _ hg
  have run2 : Hid (∀ ty c, (Builtin.clear_ #[50] ty #[.slice (some ⟨g, S.length - 1, none⟩) 1 c]).run Tryd.prog (w.drew.setRow g L1.toArray) = .ok (.tuple #[]) ((w.drew.setRow g L1.toArray).setRow g (splL L1 (S.length - 1) z1).toArray)) := fun ty c =>
    clear_row _ ty g _ c L1.toArray hg1 (by rw [List.size_toArray, l1]; omega)
  have fin : splL L1 (S.length - 1) z1 = flatK cI (S.eraseIdx i) ++ (z1 ++ ((flatK cI (S.drop i) ++ Z).drop (flatK cI (S.drop (i + 1))).length).drop z1.length) := by
    have e2 : L1 = flatK cI (S.eraseIdx i) ++ (flatK cI (S.drop i) ++ Z).drop (flatK cI (S.drop (i + 1))).length := by
      rw [hL1, fsp0, List.append_assoc, splL_at _ _ _ _ flt, List.eraseIdx_eq_take_drop_succ, flatK_app]
    have e3 : (flatK cI (S.eraseIdx i)).length = S.length - 1 := by rw [flatK_len cI_len, List.length_eraseIdx, if_pos hi, Nat.mul_one]
    rw [e2, splL_at _ _ _ _ e3, List.append_assoc]
  have HK : Hid (RowI ((w.drew.setRow g L1.toArray).setRow g (splL L1 (S.length - 1) z1).toArray) (.slice (some ⟨g, 0, none⟩) (S.length - 1) cap) (S.eraseIdx i) ∧ w.grownBy ((w.drew.setRow g L1.toArray).setRow g (splL L1 (S.length - 1) z1).toArray) (some g)) := by
    have hh := setRow_heap _ g _ (splL L1 (S.length - 1) z1).toArray _ _ hg1
    refine ⟨?_, ⟨rfl, rfl, rfl, by simp, fun k _ hk => ?_⟩⟩
    · have el : (S.eraseIdx i).length = S.length - 1 := by rw [List.length_eraseIdx, if_pos hi]
      rw [fin] at hh
      have := own_parts (cap := cap) hh (by
        rw [List.length_append, List.length_drop, List.length_drop, List.length_append, fld, flatK_len cI_len, List.length_drop, hzl, el]
        simp only [z1, List.length_cons, List.length_nil]
        omega) (by rw [el]; omega) hc63
      rw [el] at this
      rw [fin]
      exact this
    · have hne : k ≠ g := fun e => hk (by rw [e])
      rw [setRow_other _ _ _ _ hne, setRow_other _ _ _ _ hne]
      rfl
  have mixed : Tryd.prog.follows Departure.mixedOrders = true := by kernel_rfl
  have hb1 : (i : Int) ≤ (i : Int) + 1 := by omega
  have hb2 : (i : Int) + 1 ≤ (S.length : Int) := by omega
  have htn : ((i : Int) + 1).toNat = i + 1 := by omega
  have hb3 : ¬ (cap = S.length - 1) := by omega
  have hb6 : S.length - (S.length - 1) = 1 := by omega
  have hb7 : ¬ ((i : Int) = (i : Int) + 1) := by omega
  have hb8 : (0 : Int) ≤ (i : Int) + 1 := by omega
  have hb9 : i ≤ cap := by omega
  have hb10 : i + 1 ≤ cap := by omega
  clear fin hL1 l1 hcells fsp fsp0 fld flt flt1 fl hzl hg h hg1 hsrc hti hz e1
  generalize splL L1 (S.length - 1) z1 = L2 at *
  generalize hn : S.length = n at *
  generalize hm : n - 1 = m at *
  go_enter Tryd.func84, Tryd.ntmps84
  go_wp2_with fail
  go_region_law_o (refine step_append_run rfl (.tmp 22) (.tmp 25) 50 50 rfl (.slice (some ⟨g, 0, none⟩) i cap) (.slice (some ad) (n - (i + 1)) (cap - (i + 1))) _ _ (by simp [Act.eval, Act.put]) (by simp [Act.eval, Act.put]) (run1.out _ _) ?_)
  have run2' := run2.out
  go_wp2
  go_ret
  exact ⟨rfl, HK.out⟩
end Go.Proofs.YtchamgecalfmpaaDoor

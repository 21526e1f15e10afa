/-
  What the library's Insert, Delete and Clone do to a row of entries; no condition but that the row is short.
-/
import Derived.Test.YthfoeppcageneaaTPlace
import Derived.Lib.AppendZerosOnto
import Derived.Lib.Overlaps
import Derived.Shelf.RegionOpenPlain
import Derived.Deep.RegionLaw
namespace Go.Proofs.Ythfoeppcageneaa
set_option linter.unusedSectionVars false
variable [DecidableEq Sl]
open Go.RowKit Go.Deep Go.Shelf

/-! ### Parts of a row are written -/
def splL (L : List Value) (o : Nat) (cs : List Value) : List Value := L.take o ++ cs ++ L.drop (o + cs.length)
theorem splL_len (L : List Value) (o : Nat) (cs : List Value) (h : o + cs.length ≤ L.length) : (splL L o cs).length = L.length := by
  unfold splL
  simp
  omega
theorem splL_at (A Z cs : List Value) (o : Nat) (h : A.length = o) : splL (A ++ Z) o cs = A ++ cs ++ Z.drop cs.length := by
  subst h
  unfold splL
  rw [List.take_left, List.drop_append]
  have e1 : A.length + cs.length - A.length = cs.length := by omega
  have e2 : List.drop (A.length + cs.length) A = [] := List.drop_of_length_le (by omega)
  rw [e1, e2, List.nil_append]
theorem infoE : (Try.prog.info? 53).map (fun i => (i.zero, i.size, i.bytes)) = some (some (.agg #[.int .i64 0, .int .i64 0, .int .i64 0]), 3, 24) := by kernel_rfl
theorem copy_row (w : World) (ty : TypeId) (g o dLen dCap : Nat) (a : Addr) (sLen sCap : Nat) (cur : Array Value) (cs : List Value)
    (hg : w.heap[g]? = some (.cells cur 53 (0, 0))) (hn : cs.length = Nat.min sLen dLen * 3)
    (hsrc : ∀ j v, cs[j]? = some v → w.cell? (a.add j) = some v) (hfit : o + cs.length ≤ cur.size) (h1 : ∀ v ∈ cs, v.oneCell' = true) :
    (Builtin.copy_ #[48, 48] ty #[.slice (some ⟨g, o, none⟩) dLen dCap, .slice (some a) sLen sCap]).run Try.prog w =
      .ok (goInt (Nat.min sLen dLen)) (w.setRow g (splL cur.toList o cs).toArray) := by
  have hl := run_loadCells_list (P := Try.prog) w a cs hsrc
  have hst := run_storeCells_at Try.prog g o 53 cs 0 cur w hg (by simpa using hfit) h1
  obtain ⟨i, hi, hz⟩ := Option.map_eq_some_iff.1 infoE
  simp only [Prod.mk.injEq] at hz
  have h3 := hz.2.1
  unfold splL
  simp [Builtin.copy_, run_underlying Try.underlying48, Builtin.lenOf, Builtin.firstCells, sizeOf, typeInfo, hi, h3, ← hn, hl, hst]
theorem wpList_copy_run (w : World) {ops : Array Oper} {rest : List Oper} {o : Oper} {a : Act} {Q : Exit → Act → World → Prop} (hgd : o.guard = none) (d s : Operand) (t t' : TypeId)
    (ho : o.op = .call { callee := .builtin .copy, args := #[d, s], argTypes := #[t, t'] }) (v u : Value) (hd : a.eval d = v) (hs : a.eval s = u) {v' : Value} {w' : World}
    (hr : (Builtin.copy_ #[t, t'] o.type #[v, u]).run Try.prog w = .ok v' w') (h : wpList Try.prog ops Q rest (a.put o.dst v') w') : wpList Try.prog ops Q (o :: rest) a w :=
  wpList_plain hgd fun _ hK => by
    unfold Oper.wp execOp
    simp only [ho, resolve, invoke, builtin, Sem.run_bind, Sem.run_pure, Result.andThen_ok, List.map_toArray, List.map_cons, List.map_nil, hd, hs, hr]
    exact hK _ _ h
theorem step_copy_run {ops : Array Oper} {o : Oper} {a : Act} {w : World} {K : Act → World → Prop} {Q : Exit → Act → World → Prop} {E : Prop}
    (hg : o.guard = none) (d x : Operand) (dT sT : TypeId) (hop : o.op = Op.call { callee := Callee.builtin Builtin.copy, args := #[d, x], argTypes := #[dT, sT] })
    (v u : Value) (hd : a.eval d = v) (hx : a.eval x = u) {v' : Value} {w' : World} (hr : (Builtin.copy_ #[dT, sT] o.type #[v, u]).run Try.prog w = .ok v' w') (hK : K (a.put o.dst v') w') :
    if Region.wanted o (yielded ops a.tmps) = true then Oper.wp Try.prog o a w K Q else E := by
  have hw : Region.wanted o (yielded ops a.tmps) = true := by simp [Region.wanted, hg]
  rw [if_pos hw]
  unfold Oper.wp
  simp [execOp, hop, resolve, invoke, builtin, hd, hx, hr, Result.andThen]
  exact hK
theorem wpList_append_run {w : World} {ops : Array Oper} {rest : List Oper} {o : Oper} {a : Act} {Q : Exit → Act → World → Prop} (hgd : o.guard = none) (s x : Operand) (t t' : TypeId)
    (ho : o.op = .call { callee := .builtin .append, args := #[s, x], argTypes := #[t, t'] }) (v y v' : Value) (w' : World) (hs : a.eval s = v) (hx : a.eval x = y)
    (hrun : (Builtin.append_ #[t, t'] o.type #[v, y]).run Try.prog w = .ok v' w') (h : wpList Try.prog ops Q rest (a.put o.dst v') w') : wpList Try.prog ops Q (o :: rest) a w :=
  wpList_plain hgd fun _ hK => by
    unfold Oper.wp execOp
    simp only [ho, resolve, invoke, builtin, Sem.run_bind, Sem.run_pure, Result.andThen_ok, List.map_toArray, List.map_cons, List.map_nil, hs, hx, hrun]
    exact hK _ _ h
theorem step_append_run {w : World} {ops : Array Oper} {o : Oper} {a : Act} {K : Act → World → Prop} {Q : Exit → Act → World → Prop} {E : Prop} (hgd : o.guard = none) (s x : Operand) (t t' : TypeId)
    (ho : o.op = .call { callee := .builtin .append, args := #[s, x], argTypes := #[t, t'] }) (v y v' : Value) (w' : World) (hs : a.eval s = v) (hx : a.eval x = y)
    (hrun : (Builtin.append_ #[t, t'] o.type #[v, y]).run Try.prog w = .ok v' w') (h : K (a.put o.dst v') w') : if Region.wanted o (yielded ops a.tmps) = true then Oper.wp Try.prog o a w K Q else E := by
  have hw : Region.wanted o (yielded ops a.tmps) = true := by simp [Region.wanted, hgd]
  rw [if_pos hw]
  unfold Oper.wp
  simp [execOp, ho, resolve, invoke, builtin, hs, hx, hrun, Result.andThen]
  exact h

/-! ### Insert -/
/-- What a call leaves of a row: the entries T, where they were or in a new block. -/
def GoesR (w : World) (v : Value) (T : St) (e : Ending) (w' : World) : Prop := ∃ v', e = .returned v' ∧ RowE w' v' T ∧ w.grownBy w' v.ownBlock ∧ (v'.ownBlock = v.ownBlock ∨ ∃ g, v'.ownBlock = some g ∧ w.heap.size ≤ g)
theorem flat_putN (S : St) (i : Nat) (x : En) : flatK cE (putN S i x) = flatK cE (S.take i) ++ cE x ++ flatK cE (S.drop i) := by
  unfold putN
  rw [flatK_app, flatK_cons, List.append_assoc]
theorem atE_cellq {w : World} {q : Nat} {x : En} (h : AtE w q x) : ∀ j v, (cE x)[j]? = some v → w.cell? ((⟨q, 0, none⟩ : Addr).add j) = some v := by
  intro j v hj
  rw [add_none]
  unfold AtE objE at h
  simp only [World.cell?, h, Nat.zero_add]
  simpa [cE] using hj
theorem insert_end (v : Value) (S : St) (x : En) (q : Nat) (w : World) (h : RowE w v S) (hq : AtE w q x) (hl : S.length ≤ 1000) :
    Calls Try.prog 37 #[v, .int .i64 (S.length : Nat), .slice (some ⟨q, 0, none⟩) 1 1] w fun e w' => GoesR w v (putN S S.length x) e w' := by
  obtain ⟨i, hi, hz⟩ := Option.map_eq_some_iff.1 infoE
  simp only [Prod.mk.injEq] at hz
  obtain ⟨v', w', r1, r2, r3, _, r5⟩ := run_append_own_at (P := Try.prog) w 0 48 48 53 i _ 3 24 Try.underlying48 hi hz.1 hz.2.1 hz.2.2 rfl (by decide) v S.length (flatK cE S) h ⟨q, 0, none⟩ 1 1 (cE x) rfl
    (atE_cellq hq) (cE_one x) (by unfold maxLen; omega) (by omega) (by omega)
  have HK : Hid (GoesR w v (putN S S.length x) (.returned v') w') := by
    refine ⟨v', rfl, ?_, r3, r5.imp id fun e => ⟨_, e, Nat.le_refl _⟩⟩
    unfold RowE
    rw [putN_len, flat_putN, List.take_length, List.drop_length]
    simpa [flatK] using r2
  obtain ⟨ao, cap, rfl, hc1, hc2, -⟩ := h.slice
  have hRun : Hid _ := r1
  clear r1 r2 r3 r5 h hq hi hz
  generalize S.length = n at *
  by_cases hcn : cap = n
  · subst hcn
    go_enter Try.func37, Try.ntmps37
    go_wp2_with (at_builtin; refine wpList_append_run rfl _ _ _ _ rfl _ _ _ _ rfl rfl hRun.out ?_)
    go_ret
    exact HK.out
  · go_enter Try.func37, Try.ntmps37
    go_wp2_with (at_builtin; refine wpList_append_run rfl _ _ _ _ rfl _ _ _ _ rfl rfl hRun.out ?_)
    go_ret
    exact HK.out
/-- The row's cells: those of the entries, then others. -/
theorem row_parts {w : World} {g cap n : Nat} {S : St} (h : RowE w (.slice (some ⟨g, 0, none⟩) n cap) S) : ∃ Z : List Value, w.heap[g]? = some (.cells (flatK cE S ++ Z).toArray 53 (0, 0)) ∧ Z.length = (cap - S.length) * 3 ∧ n = S.length := by
  obtain ⟨h0, ⟨e, _⟩ | ⟨g', cap', cur, e, _, hg, h1, h2, h3, h4⟩⟩ := h
  · cases e
  · cases e
    refine ⟨cur.toList.drop (S.length * 3), ?_, ?_, rfl⟩
    · rw [← h4, List.take_append_drop, Array.toArray_toList]
      exact hg
    · rw [List.length_drop, Array.length_toList, h3, Nat.sub_mul]
theorem own_parts {w : World} {g cap : Nat} {T : St} {Z : List Value} (hg : w.heap[g]? = some (.cells (flatK cE T ++ Z).toArray 53 (0, 0))) (hz : Z.length = (cap - T.length) * 3) (hc : T.length ≤ cap) (hm : cap ≤ 9223372036854775807) : RowE w (.slice (some ⟨g, 0, none⟩) T.length cap) T := by
  have hl := flatK_len cE_len T
  refine ⟨hl, .inr ⟨g, cap, _, rfl, Nat.zero_le _, hg, hc, by unfold maxLen; omega, ?_, ?_⟩⟩
  · rw [List.size_toArray, List.length_append, hl, hz, Nat.sub_mul]
    have := Nat.mul_le_mul_right 3 hc
    omega
  · show List.take (T.length * 3) (flatK cE T ++ Z) = flatK cE T
    rw [← hl, List.take_left]
theorem cells_at {w : World} {g : Nat} {A B Z : List Value} {o : Nat} (hg : w.heap[g]? = some (.cells (A ++ (B ++ Z)).toArray 53 (0, 0))) (ho : A.length = o) : ∀ j v, B[j]? = some v → w.cell? ((⟨g, o, none⟩ : Addr).add j) = some v := by
  intro j v hj
  subst ho
  have hl := (List.getElem?_eq_some_iff.1 hj).1
  rw [add_none]
  simp only [World.cell?, hg, List.getElem?_toArray]
  rw [List.getElem?_append_right (by omega), List.getElem?_append_left (by omega), Nat.add_sub_cancel_left]
  exact hj
set_option maxHeartbeats 4000000 in
set_option maxRecDepth 100000 in
theorem insert_shift (g cap : Nat) (S : St) (i : Nat) (x : En) (q : Nat) (w : World) (h : RowE w (.slice (some ⟨g, 0, none⟩) S.length cap) S) (hq : AtE w q x) (hqg : q ≠ g) (hi : i < S.length) (hl : S.length ≤ 1000) (hroom : S.length + 1 ≤ cap) :
    Calls Try.prog 37 #[.slice (some ⟨g, 0, none⟩) S.length cap, .int .i64 i, .slice (some ⟨q, 0, none⟩) 1 1] w fun e w' => GoesR w (.slice (some ⟨g, 0, none⟩) S.length cap) (putN S i x) e w' := by
  obtain ⟨_, _, e0, -, hc63, -⟩ := h.slice
  cases e0
  obtain ⟨Z, hg, hzl, -⟩ := row_parts h
  have fl := flatK_len cE_len S
  have flt : (flatK cE (S.take i)).length = i * 3 := by rw [flatK_len cE_len, List.length_take]; congr 1; omega
  have fld : (flatK cE (S.drop i)).length = (S.length - i) * 3 := by rw [flatK_len cE_len, List.length_drop]
  have fsp : flatK cE S = flatK cE (S.take i) ++ flatK cE (S.drop i) := by rw [← flatK_app, List.take_append_drop]
  have hzl3 : 3 ≤ Z.length := by omega
  have hcells : ∀ j v, (flatK cE (S.drop i))[j]? = some v → w.cell? ((⟨g, i * 3, none⟩ : Addr).add j) = some v := cells_at (A := flatK cE (S.take i)) (Z := Z) (by rw [fsp, List.append_assoc] at hg; exact hg) flt
  -- behind the first copy
  obtain ⟨L1, hL1⟩ : ∃ L1, L1 = splL (flatK cE S ++ Z) ((i + 1) * 3) (flatK cE (S.drop i)) := ⟨_, rfl⟩
  have l1 : L1.length = S.length * 3 + Z.length := by rw [hL1, splL_len _ _ _ (by rw [List.length_append, fl, fld]; omega), List.length_append, fl]
  have run1 : Hid (∀ ty dc sc, (Builtin.copy_ #[48, 48] ty #[.slice (some ⟨g, (i + 1) * 3, none⟩) (S.length - i) dc, .slice (some ⟨g, i * 3, none⟩) (S.length + 1 - i) sc]).run Try.prog w.drew = .ok (goInt (Nat.min (S.length + 1 - i) (S.length - i))) (w.drew.setRow g L1.toArray)) := fun ty dc sc => by
    rw [hL1]
    exact copy_row w.drew ty g ((i + 1) * 3) _ dc ⟨g, i * 3, none⟩ _ sc (flatK cE S ++ Z).toArray (flatK cE (S.drop i)) hg (by rw [fld]; congr 1; simp only [Nat.min_def]; split <;> omega) hcells (by rw [List.size_toArray, List.length_append, fl, fld]; omega) (flatK_one cE_one _)
  -- behind the second
  have run2 : Hid (∀ ty dc, (Builtin.copy_ #[48, 48] ty #[.slice (some ⟨g, i * 3, none⟩) (S.length + 1 - i) dc, .slice (some ⟨q, 0, none⟩) 1 1]).run Try.prog (w.drew.setRow g L1.toArray) = .ok (goInt (Nat.min 1 (S.length + 1 - i))) ((w.drew.setRow g L1.toArray).setRow g (splL L1 (i * 3) (cE x)).toArray)) := fun ty dc => by
    refine copy_row (w.drew.setRow g L1.toArray) ty g (i * 3) _ dc ⟨q, 0, none⟩ 1 1 L1.toArray (cE x) (setRow_heap w.drew g _ _ _ _ hg) (by simp only [Nat.min_def]; split <;> simp [cE] <;> omega) (fun j v hj => ?_) (by rw [List.size_toArray, l1]; simp [cE]; omega) (cE_one x)
    have := atE_cellq hq j v hj
    rw [add_none] at this ⊢
    rw [cell_setRow_other _ _ _ _ (by simpa using hqg)]
    exact this
  have fin : splL L1 (i * 3) (cE x) = flatK cE (putN S i x) ++ (Z.drop 3) := by
    have e1 : L1 = (flatK cE (S.take i) ++ (flatK cE (S.drop i) ++ Z).take 3) ++ (flatK cE (S.drop i) ++ Z.drop 3) := by
      have e2 : flatK cE S ++ Z = (flatK cE (S.take i) ++ (flatK cE (S.drop i) ++ Z).take 3) ++ (flatK cE (S.drop i) ++ Z).drop 3 := by
        rw [List.append_assoc, List.take_append_drop, fsp, List.append_assoc]
      have e3 : (flatK cE (S.take i) ++ (flatK cE (S.drop i) ++ Z).take 3).length = (i + 1) * 3 := by
        rw [List.length_append, flt, List.length_take, List.length_append, fld]
        omega
      rw [hL1, e2, splL_at _ _ _ _ e3]
      rw [List.drop_drop, List.append_assoc]
      congr 2
      rw [List.drop_append, List.drop_of_length_le (by omega), List.nil_append]
      congr 1
      omega
    rw [e1, List.append_assoc, splL_at _ _ _ _ flt, flat_putN, List.append_assoc, List.append_assoc, List.append_assoc]
    congr 2
    have e4 : ((flatK cE (S.drop i) ++ Z).take 3).length = (cE x).length := by
      rw [List.length_take, List.length_append, fld]
      simp [cE]
      omega
    rw [← e4, List.drop_left]
  have HK : Hid (GoesR w (.slice (some ⟨g, 0, none⟩) S.length cap) (putN S i x) (.returned (.slice (some ⟨g, 0, none⟩) (S.length + 1) cap)) ((w.drew.setRow g L1.toArray).setRow g (splL L1 (i * 3) (cE x)).toArray)) := by
    have hh : ((w.drew.setRow g L1.toArray).setRow g (splL L1 (i * 3) (cE x)).toArray).heap[g]? = _ := setRow_heap _ g _ _ _ _ (setRow_heap w.drew g _ _ _ _ hg)
    refine ⟨_, rfl, ?_, ⟨rfl, rfl, rfl, by simp, fun k _ hk => ?_⟩, .inl rfl⟩
    · rw [fin] at hh
      have := own_parts (cap := cap) hh (by rw [List.length_drop, hzl, putN_len]; omega) (by rw [putN_len]; exact hroom) hc63
      rw [putN_len] at this
      rw [fin]
      exact this
    · have hne : k ≠ g := fun e => hk (by rw [e]; rfl)
      rw [setRow_other _ _ _ _ hne, setRow_other _ _ _ _ hne]
      rfl
  have hov : ∀ lb cb, (callFunc 42 #[.slice (some ⟨q, 0, none⟩) 1 1, .slice (some ⟨g, (i + 1) * 3, none⟩) lb cb]).run Try.prog w = .ok (.value (.bool false)) w := fun lb cb => by
    rw [run_callFunc_extern Try.func42 (by kernel_rfl) (by kernel_rfl) (by kernel_rfl) (e := Extern.SlicesOverlaps.overlaps #[48, 48] #[4]) (by kernel_rfl),
      Lib.run_overlaps_apart w 48 4 53 Try.underlying48 3 Try.sizeOf53 ⟨q, 0, none⟩ ⟨g, (i + 1) * 3, none⟩ 1 1 lb cb hqg 53 53 3 (flatK cE S ++ Z).toArray.size (by unfold AtE objE at hq; simp [World.shape?, hq]) (by simp [World.shape?, hg]) (by rw [List.size_toArray, List.length_append, fl]; omega) (by unfold AtE objE at hq; simp [World.frozen?, hq]) (by unfold AtE objE at hq; simp [World.frozen?, hq])]
    rfl
  have mixed : Try.prog.follows Departure.mixedOrders = true := by kernel_rfl
  have hw1 : IntKind.i64.wrap ((i : Int) + 1) = (i : Int) + 1 := by rw [IntKind.wrap_i64]; omega
  have hb1 : (0 : Int) ≤ (i : Int) + 1 := by omega
  have htn : ((i : Int) + 1).toNat = i + 1 := by omega
  have hin : i ≤ S.length := by omega
  have hb2 : ¬ (cap = i + 1) := by omega
  have hb3 : (i : Int) ≤ (S.length : Int) + 1 := by omega
  have hb4 : ¬ (cap = i) := by omega
  have hz2 : ¬ ((i : Int) = (S.length : Int)) := by omega
  clear fin hL1 l1 hcells fsp fld flt fl hzl hzl3 hg h hq
  generalize splL L1 (i * 3) (cE x) = L2 at *
  generalize S.length = n at *
  go_enter Try.func37, Try.ntmps37
  go_wp2_with (simp only [hov])
  have run1' := run1.out
  go_region
  clear run1'
  have run2' := run2.out
  go_wp2
  go_ret
  exact HK.out
set_option maxHeartbeats 4000000 in
set_option maxRecDepth 100000 in
theorem insert_grow (g cap : Nat) (S : St) (i : Nat) (x : En) (q : Nat) (w : World) (h : RowE w (.slice (some ⟨g, 0, none⟩) S.length cap) S) (hq : AtE w q x) (hi : i < S.length) (hl : S.length ≤ 1000) (hroom : cap < S.length + 1) :
    Calls Try.prog 37 #[.slice (some ⟨g, 0, none⟩) S.length cap, .int .i64 i, .slice (some ⟨q, 0, none⟩) 1 1] w fun e w' => GoesR w (.slice (some ⟨g, 0, none⟩) S.length cap) (putN S i x) e w' := by
  obtain ⟨_, _, e0, hcn, -, -⟩ := h.slice
  cases e0
  obtain ⟨Z, hg, -, -⟩ := row_parts h
  have hgl : g < w.heap.size := (Array.getElem?_eq_some_iff.1 hg).1
  have hql : q < w.heap.size := (Array.getElem?_eq_some_iff.1 hq).1
  have flt : (flatK cE (S.take i)).length = i * 3 := by rw [flatK_len cE_len, List.length_take]; congr 1; omega
  have fld : (flatK cE (S.drop i)).length = (S.length - i) * 3 := by rw [flatK_len cE_len, List.length_drop]
  have fsp : flatK cE S = flatK cE (S.take i) ++ flatK cE (S.drop i) := by rw [← flatK_app, List.take_append_drop]
  have hcells : ∀ j v, (flatK cE (S.drop i))[j]? = some v → w.cell? ((⟨g, i * 3, none⟩ : Addr).add j) = some v := cells_at (A := flatK cE (S.take i)) (Z := Z) (by rw [fsp, List.append_assoc] at hg; exact hg) flt
  have hcell0 : ∀ j v, (flatK cE (S.take i))[j]? = some v → w.cell? ((⟨g, 0, none⟩ : Addr).add j) = some v := cells_at (A := []) (Z := flatK cE (S.drop i) ++ Z) (by rw [fsp, List.append_assoc] at hg; simpa using hg) rfl
  obtain ⟨ti, hti, hz⟩ := Option.map_eq_some_iff.1 infoE
  simp only [Prod.mk.injEq] at hz
  obtain ⟨hz0, hz3, hzb⟩ := hz
  have hold : (Builtin.firstCells ti.size i (.slice (some ⟨g, 0, none⟩) i cap)).run Try.prog w.drew = .ok (flatK cE (S.take i)).toArray w.drew := by
    rw [hz3]
    exact run_firstCells_some w.drew 3 i ⟨g, 0, none⟩ i cap (flatK cE (S.take i)) flt hcell0
  obtain ⟨G, hG⟩ : ∃ G, G = grownCap w (S.length + 1) cap 53 := ⟨_, rfl⟩
  have hGn : S.length + 1 ≤ G := by rw [hG]; exact grownCap_ge w _ _ _
  have hG63 : G ≤ 9223372036854775807 := by
    have := grownCap_le_maxLen w (S.length + 1) cap 53 (by unfold maxLen; omega)
    rw [← hG] at this
    unfold maxLen at this
    omega
  obtain ⟨Y, hY, hYl⟩ : ∃ Y : List Value, (flatK cE (S.take i)).toArray ++ Builtin.zeroCells (Value.agg #[.int .i64 0, .int .i64 0, .int .i64 0]).cells (S.length + 1 - i) ++ Builtin.zeroCells (Value.agg #[.int .i64 0, .int .i64 0, .int .i64 0]).cells (G - (S.length + 1)) = (flatK cE (S.take i) ++ Y).toArray ∧ Y.length = (G - i) * 3 := by
    refine ⟨(Builtin.zeroCells (Value.agg #[.int .i64 0, .int .i64 0, .int .i64 0]).cells (S.length + 1 - i)).toList ++ (Builtin.zeroCells (Value.agg #[.int .i64 0, .int .i64 0, .int .i64 0]).cells (G - (S.length + 1))).toList, ?_, ?_⟩
    · apply Array.ext'
      simp
    · simp [Builtin.zeroCells, Value.cells]
      omega
  have hrz : Hid (∀ ty, (Builtin.append_ #[48, 3] ty #[.slice (some ⟨g, 0, none⟩) i cap, .int .i64 ((S.length : Int) + 1 - (i : Int))]).run Try.prog w =
      .ok (.slice (some ⟨w.heap.size, 0, none⟩) (S.length + 1) G) (w.drew.alloc (.cells (flatK cE (S.take i) ++ Y).toArray 53))) := fun ty => by
    have hik : i + (S.length + 1 - i) = S.length + 1 := by omega
    have hkk : (S.length : Int) + 1 - (i : Int) = ((S.length + 1 - i : Nat) : Int) := by omega
    have h := Lib.run_append_grow_zeros w 48 3 ty 53 ti _ .i64 .i64 Try.underlying48 Try.underlying3 hti hz0 (some ⟨g, 0, none⟩) i cap (flatK cE (S.take i)) hold (S.length + 1 - i) (by omega) (by omega) (by omega) (by omega) (by rw [hzb]; omega) (by rw [hzb, hik]; exact growslice_fits hroom (by omega))
    rw [hik, ← hG, hY] at h
    rw [hkk]
    exact h
  obtain ⟨W1, hW1⟩ : ∃ W1, W1 = w.drew.alloc (.cells (flatK cE (S.take i) ++ Y).toArray 53) := ⟨_, rfl⟩
  have hN : W1.heap[w.heap.size]? = some (.cells (flatK cE (S.take i) ++ Y).toArray 53 (0, 0)) := by rw [hW1]; exact blk_alloc_new w.drew _
  have hbel : Below w.heap.size w W1 := by rw [hW1]; exact (Below.refl _ w).drew.alloc (Nat.le_refl _) _
  have hs1 : W1.heap.size = w.heap.size + 1 := by rw [hW1]; simp
  obtain ⟨L1, hL1⟩ : ∃ L1, L1 = splL (flatK cE (S.take i) ++ Y) (i * 3) (cE x) := ⟨_, rfl⟩
  have fin1 : L1 = (flatK cE (S.take i) ++ cE x) ++ Y.drop 3 := by rw [hL1, splL_at _ _ _ _ flt]; rfl
  have fx : (flatK cE (S.take i) ++ cE x).length = (i + 1) * 3 := by rw [List.length_append, flt]; simp [cE]; omega
  have run1 : Hid (∀ ty dc, (Builtin.copy_ #[48, 48] ty #[.slice (some ⟨w.heap.size, i * 3, none⟩) (S.length + 1 - i) dc, .slice (some ⟨q, 0, none⟩) 1 1]).run Try.prog W1 = .ok (goInt (Nat.min 1 (S.length + 1 - i))) (W1.setRow w.heap.size L1.toArray)) := fun ty dc => by
    rw [hL1]
    refine copy_row W1 ty w.heap.size (i * 3) _ dc ⟨q, 0, none⟩ 1 1 (flatK cE (S.take i) ++ Y).toArray (cE x) hN (by simp only [Nat.min_def]; split <;> simp [cE] <;> omega) (fun j v hj => ?_) (by rw [List.size_toArray, List.length_append, flt, hYl]; simp [cE]; omega) (cE_one x)
    have := atE_cellq hq j v hj
    rw [add_none] at this ⊢
    rw [hbel.cell (p := ⟨q, 0 + j, none⟩) hql]
    exact this
  have hN2 : (W1.setRow w.heap.size L1.toArray).heap[w.heap.size]? = some (.cells L1.toArray 53 (0, 0)) := setRow_heap W1 _ _ _ _ _ hN
  have l1 : L1.length = G * 3 := by rw [fin1, List.length_append, fx, List.length_drop, hYl]; omega
  have run2 : Hid (∀ ty dc sc, (Builtin.copy_ #[48, 48] ty #[.slice (some ⟨w.heap.size, (i + 1) * 3, none⟩) (S.length - i) dc, .slice (some ⟨g, i * 3, none⟩) (S.length - i) sc]).run Try.prog (W1.setRow w.heap.size L1.toArray).drew = .ok (goInt (Nat.min (S.length - i) (S.length - i))) ((W1.setRow w.heap.size L1.toArray).drew.setRow w.heap.size (splL L1 ((i + 1) * 3) (flatK cE (S.drop i))).toArray)) := fun ty dc sc => by
    refine copy_row (W1.setRow w.heap.size L1.toArray).drew ty w.heap.size ((i + 1) * 3) _ dc ⟨g, i * 3, none⟩ _ sc L1.toArray (flatK cE (S.drop i)) hN2 (by rw [fld, show Nat.min (S.length - i) (S.length - i) = S.length - i from Nat.min_self _]) (fun j v hj => ?_) (by rw [List.size_toArray, l1, fld]; omega) (flatK_one cE_one _)
    have := hcells j v hj
    rw [add_none] at this ⊢
    have hne : (⟨g, i * 3 + j, none⟩ : Addr).block ≠ w.heap.size := by simp only; omega
    show (W1.setRow w.heap.size L1.toArray).cell? _ = _
    rw [cell_setRow_other _ _ _ _ hne, hbel.cell (p := ⟨g, i * 3 + j, none⟩) hgl]
    exact this
  have fin2 : splL L1 ((i + 1) * 3) (flatK cE (S.drop i)) = flatK cE (putN S i x) ++ (Y.drop 3).drop (flatK cE (S.drop i)).length := by
    rw [fin1, splL_at _ _ _ _ fx, flat_putN]
  have HK : Hid (GoesR w (.slice (some ⟨g, 0, none⟩) S.length cap) (putN S i x) (.returned (.slice (some ⟨w.heap.size, 0, none⟩) (S.length + 1) G)) ((W1.setRow w.heap.size L1.toArray).drew.setRow w.heap.size (splL L1 ((i + 1) * 3) (flatK cE (S.drop i))).toArray)) := by
    have hh : ((W1.setRow w.heap.size L1.toArray).drew.setRow w.heap.size (splL L1 ((i + 1) * 3) (flatK cE (S.drop i))).toArray).heap[w.heap.size]? = _ := setRow_heap _ _ _ _ _ _ hN2
    refine ⟨_, rfl, ?_, ⟨hbel.os, hbel.tape, hbel.output, ?_, fun k hk _ => ?_⟩, .inr ⟨_, rfl, Nat.le_refl _⟩⟩
    · rw [fin2] at hh
      have := own_parts (cap := G) hh (by rw [List.length_drop, List.length_drop, hYl, fld, putN_len]; omega) (by rw [putN_len]; exact hGn) hG63
      rw [putN_len] at this
      rw [fin2]
      exact this
    · show w.heap.size ≤ ((W1.setRow w.heap.size L1.toArray).setRow w.heap.size _).heap.size
      rw [setRow_size, setRow_size, hs1]
      omega
    · have hne : k ≠ w.heap.size := by omega
      rw [setRow_other _ _ _ _ hne]
      show (W1.setRow w.heap.size L1.toArray).heap[k]? = _
      rw [setRow_other _ _ _ _ hne]
      exact hbel.block k hk
  have mixed : Try.prog.follows Departure.mixedOrders = true := by kernel_rfl
  have hw1 : IntKind.i64.wrap ((i : Int) + 1) = (i : Int) + 1 := by rw [IntKind.wrap_i64]; omega
  have hb1 : (0 : Int) ≤ (i : Int) + 1 := by omega
  have htn : ((i : Int) + 1).toNat = i + 1 := by omega
  have hin : i ≤ S.length := by omega
  have hb2 : ¬ (G = i + 1) := by omega
  have hb5 : ¬ (G = i) := by omega
  have hb3 : (i : Int) ≤ (S.length : Int) + 1 := by omega
  have hb4 : ¬ (cap = i) := by omega
  have hz2 : ¬ ((i : Int) = (S.length : Int)) := by omega
  rw [← hW1] at hrz
  clear hW1 hN hbel hs1 fin1 fin2 hL1 fx hN2 l1 hold hY hYl hcells hcell0 fsp fld flt hg h hq hG hti hz0 hz3 hzb
  generalize splL L1 ((i + 1) * 3) (flatK cE (S.drop i)) = L2 at *
  generalize hn : S.length = n at *
  generalize w.heap.size = r at *
  go_enter Try.func37, Try.ntmps37
  have run1' := run1.out
  go_wp2_with (at_builtin; refine wpList_append_run rfl _ _ _ _ rfl _ _ _ _ rfl rfl (hrz.out _) ?_)
  clear run1'
  have run2' := run2.out
  go_region
  go_wp2
  go_ret
  exact HK.out
end Go.Proofs.Ythfoeppcageneaa

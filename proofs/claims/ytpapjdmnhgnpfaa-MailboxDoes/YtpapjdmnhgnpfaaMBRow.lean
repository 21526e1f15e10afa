/-
  What the library's Delete and Clone do to a row of messages; no condition but that the row is short.
-/
import Derived.Test.YtpapjdmnhgnpfaaMBBase
namespace Go.Proofs.Ytpapjdmnhgnpfaa
open Go.RowKit Go.Deep Go.Shelf
theorem cM_len (x : Ml) : (cM x).length = 3 := rfl
theorem cM_one : ∀ x : Ml, ∀ v ∈ cM x, v.oneCell' = true := okM.one
def splL (L : List Value) (o : Nat) (cs : List Value) : List Value := L.take o ++ cs ++ L.drop (o + cs.length)
theorem splL_len (L : List Value) (o : Nat) (cs : List Value) (h : o + cs.length ≤ L.length) : (splL L o cs).length = L.length := by
  unfold splL
  simp
  omega
theorem splL_at (A Z cs : List Value) (o : Nat) (h : A.length = o) : splL (A ++ Z) o cs = A ++ cs ++ Z.drop cs.length := by
  subst h
  unfold splL
  rw [List.take_left, List.drop_append]
  have e1 : A.length + cs.length - A.length = cs.length := by omega
  have e2 : List.drop (A.length + cs.length) A = [] := List.drop_of_length_le (by omega)
  rw [e1, e2, List.nil_append]
theorem row_parts {w : World} {g cap n : Nat} {S : Bx} (h : RowM w (.slice (some ⟨g, 0, none⟩) n cap) S) : ∃ Z : List Value, w.heap[g]? = some (.cells (flatK cM S ++ Z).toArray 35 (0, 0)) ∧ Z.length = (cap - S.length) * 3 ∧ n = S.length := by
  obtain ⟨h0, ⟨e, _⟩ | ⟨g', cap', cur, e, _, hg, h1, h2, h3, h4⟩⟩ := h
  · cases e
  · cases e
    have k1 : elM.k = 3 := rfl
    have k2 : elM.enc = cM := rfl
    rw [k1] at h3 h4
    rw [k2] at h4
    refine ⟨cur.toList.drop (S.length * 3), ?_, ?_, rfl⟩
    · rw [← h4, List.take_append_drop, Array.toArray_toList]
      exact hg
    · rw [List.length_drop, Array.length_toList, h3, Nat.sub_mul]
theorem own_parts {w : World} {g cap : Nat} {T : Bx} {Z : List Value} (hg : w.heap[g]? = some (.cells (flatK cM T ++ Z).toArray 35 (0, 0))) (hz : Z.length = (cap - T.length) * 3) (hc : T.length ≤ cap) (hm : cap ≤ 9223372036854775807) : RowM w (.slice (some ⟨g, 0, none⟩) T.length cap) T := by
  have hl := flatK_len cM_len T
  refine ⟨hl, .inr ⟨g, cap, _, rfl, Nat.zero_le _, hg, hc, by unfold maxLen; omega, ?_, ?_⟩⟩
  · show (flatK cM T ++ Z).toArray.size = cap * 3
    rw [List.size_toArray, List.length_append, hl, hz, Nat.sub_mul]
    have := Nat.mul_le_mul_right 3 hc
    omega
  · show List.take (T.length * 3) (flatK cM T ++ Z) = flatK cM T
    rw [← hl, List.take_left]
theorem cells_at {w : World} {g : Nat} {A B Z : List Value} {o : Nat} (hg : w.heap[g]? = some (.cells (A ++ (B ++ Z)).toArray 35 (0, 0))) (ho : A.length = o) : ∀ j v, B[j]? = some v → w.cell? ((⟨g, o, none⟩ : Addr).add j) = some v := by
  intro j v hj
  subst ho
  have hl := (List.getElem?_eq_some_iff.1 hj).1
  rw [add_none]
  simp only [World.cell?, hg, List.getElem?_toArray]
  rw [List.getElem?_append_right (by omega), List.getElem?_append_left (by omega), Nat.add_sub_cancel_left]
  exact hj
def z3 : List Value := [.int .i64 0, .int .i64 0, .int .i64 0]
theorem clear_row (w : World) (ty : TypeId) (g o c : Nat) (cur : Array Value) (hg : w.heap[g]? = some (.cells cur 35 (0, 0))) (hfit : o + 3 ≤ cur.size) :
    (Builtin.clear_ #[39] ty #[.slice (some ⟨g, o, none⟩) 1 c]).run Try.prog w = .ok (.tuple #[]) (w.setRow g (splL cur.toList o z3).toArray) := by
  have hst := run_storeCells_at Try.prog g o 35 z3 0 cur w hg (by simp [z3]; omega) (by simp [z3, Value.oneCell'])
  simp only [Nat.add_zero] at hst
  have hzc : (Builtin.zeroCells (Value.agg #[.int .i64 0, .int .i64 0, .int .i64 0]).cells 1).toList = z3 := by
    simp [Builtin.zeroCells, Value.cells, z3]
    rfl
  have hv := Try.zeroValue35
  unfold splL
  simp [Builtin.clear_, run_underlying Try.underlying39, hv, hzc, hst]
set_option maxHeartbeats 4000000 in
set_option maxRecDepth 100000 in
theorem delete_any (g cap : Nat) (S : Bx) (i : Nat) (w : World) (h : RowM w (.slice (some ⟨g, 0, none⟩) S.length cap) S) (hi : i < S.length) (hl : S.length ≤ 1000) :
    Calls Try.prog 28 #[.slice (some ⟨g, 0, none⟩) S.length cap, .int .i64 i, .int .i64 ((i : Int) + 1)] w fun e w' => e = .returned (.slice (some ⟨g, 0, none⟩) (S.length - 1) cap) ∧ RowM w' (.slice (some ⟨g, 0, none⟩) (S.length - 1) cap) (S.eraseIdx i) ∧ w.grownBy w' (some g) := by
  obtain ⟨_, _, e0, hcn, hc63, -⟩ := h.slice
  cases e0
  obtain ⟨Z, hg, hzl, -⟩ := row_parts h
  have fl := flatK_len cM_len S
  have flt : (flatK cM (S.take i)).length = i * 3 := by rw [flatK_len cM_len, List.length_take]; congr 1; omega
  have flt1 : (flatK cM (S.take (i + 1))).length = (i + 1) * 3 := by rw [flatK_len cM_len, List.length_take]; congr 1; omega
  have fld : (flatK cM (S.drop (i + 1))).length = (S.length - (i + 1)) * 3 := by rw [flatK_len cM_len, List.length_drop]
  have fsp : flatK cM S = flatK cM (S.take (i + 1)) ++ flatK cM (S.drop (i + 1)) := by rw [← flatK_app, List.take_append_drop]
  have fsp0 : flatK cM S = flatK cM (S.take i) ++ flatK cM (S.drop i) := by rw [← flatK_app, List.take_append_drop]
  have hcells : ∀ j v, (flatK cM (S.drop (i + 1)))[j]? = some v → w.cell? ((⟨g, (i + 1) * 3, none⟩ : Addr).add j) = some v := cells_at (A := flatK cM (S.take (i + 1))) (Z := Z) (by rw [fsp, List.append_assoc] at hg; exact hg) flt1
  obtain ⟨ti, hti, hz⟩ := Option.map_eq_some_iff.1 infoM
  simp only [Prod.mk.injEq] at hz
  obtain ⟨L1, hL1⟩ : ∃ L1, L1 = splL (flatK cM S ++ Z) (i * 3) (flatK cM (S.drop (i + 1))) := ⟨_, rfl⟩
  obtain ⟨ad, had, hsrc⟩ : ∃ A : Addr, (if cap = i + 1 then some (⟨g, 0, none⟩ : Addr) else some ⟨g, (i + 1) * 3, none⟩) = some A ∧ (∀ t u, (flatK cM (S.drop (i + 1)))[t]? = some u → w.drew.cell? (A.add t) = some u) := by
    by_cases hc : cap = i + 1
    · refine ⟨⟨g, 0, none⟩, by simp [hc], fun t u hu => ?_⟩
      have h0 : (flatK cM (S.drop (i + 1))).length = 0 := by rw [fld]; omega
      rw [List.length_eq_zero_iff.1 h0] at hu
      simp at hu
    · exact ⟨⟨g, (i + 1) * 3, none⟩, by simp [hc], hcells⟩
  have run1 : Hid (∀ ty sc, (Builtin.append_ #[39, 39] ty #[.slice (some ⟨g, 0, none⟩) i cap, .slice (some ad) (S.length - (i + 1)) sc]).run Try.prog w.drew = .ok (.slice (some ⟨g, 0, none⟩) (i + (S.length - (i + 1))) cap) (w.drew.setRow g L1.toArray)) := fun ty sc => by
    have r := run_append_room (P := Try.prog) w.drew 39 ty 35 ti Try.underlying39 hti g i cap (flatK cM S ++ Z).toArray hg ad (S.length - (i + 1)) sc (flatK cM (S.drop (i + 1))) (by rw [hz.2.1, fld]) hsrc (flatK_one cM_one _) (by omega) (by rw [hz.2.1, List.size_toArray, List.length_append, fl, fld]; omega)
    rw [hz.2.1] at r
    rw [hL1]
    exact r
  have e1 : i + (S.length - (i + 1)) = S.length - 1 := by omega
  rw [e1] at run1
  have l1 : L1.length = S.length * 3 + Z.length := by rw [hL1, splL_len _ _ _ (by rw [List.length_append, fl, fld]; omega), List.length_append, fl]
  have hg1 : (w.drew.setRow g L1.toArray).heap[g]? = some (.cells L1.toArray 35 (0, 0)) := setRow_heap w.drew g _ _ _ _ hg
  have run2 : Hid (∀ ty c, (Builtin.clear_ #[39] ty #[.slice (some ⟨g, (S.length - 1) * 3, none⟩) 1 c]).run Try.prog (w.drew.setRow g L1.toArray) = .ok (.tuple #[]) ((w.drew.setRow g L1.toArray).setRow g (splL L1 ((S.length - 1) * 3) z3).toArray)) := fun ty c =>
    clear_row _ ty g _ c L1.toArray hg1 (by rw [List.size_toArray, l1]; omega)
  have fin : splL L1 ((S.length - 1) * 3) z3 = flatK cM (S.eraseIdx i) ++ (z3 ++ ((flatK cM (S.drop i) ++ Z).drop (flatK cM (S.drop (i + 1))).length).drop z3.length) := by
    have e2 : L1 = flatK cM (S.eraseIdx i) ++ (flatK cM (S.drop i) ++ Z).drop (flatK cM (S.drop (i + 1))).length := by
      rw [hL1, fsp0, List.append_assoc, splL_at _ _ _ _ flt, List.eraseIdx_eq_take_drop_succ, flatK_app]
    have e3 : (flatK cM (S.eraseIdx i)).length = (S.length - 1) * 3 := by rw [flatK_len cM_len, List.length_eraseIdx, if_pos hi]
    rw [e2, splL_at _ _ _ _ e3, List.append_assoc]
  have HK : Hid (RowM ((w.drew.setRow g L1.toArray).setRow g (splL L1 ((S.length - 1) * 3) z3).toArray) (.slice (some ⟨g, 0, none⟩) (S.length - 1) cap) (S.eraseIdx i) ∧ w.grownBy ((w.drew.setRow g L1.toArray).setRow g (splL L1 ((S.length - 1) * 3) z3).toArray) (some g)) := by
    have hh := setRow_heap _ g _ (splL L1 ((S.length - 1) * 3) z3).toArray _ _ hg1
    refine ⟨?_, ⟨rfl, rfl, rfl, by simp, fun k _ hk => ?_⟩⟩
    · have el : (S.eraseIdx i).length = S.length - 1 := by rw [List.length_eraseIdx, if_pos hi]
      rw [fin] at hh
      have := own_parts (cap := cap) hh (by
        rw [List.length_append, List.length_drop, List.length_drop, List.length_append, fld, flatK_len cM_len, List.length_drop, hzl, el]
        simp only [z3, List.length_cons, List.length_nil]
        omega) (by rw [el]; omega) hc63
      rw [el] at this
      rw [fin]
      exact this
    · have hne : k ≠ g := fun e => hk (by rw [e])
      rw [setRow_other _ _ _ _ hne, setRow_other _ _ _ _ hne]
      rfl
  have mixed : Try.prog.follows Departure.mixedOrders = true := by kernel_rfl
  have hb1 : (i : Int) ≤ (i : Int) + 1 := by omega
  have hb2 : (i : Int) + 1 ≤ (S.length : Int) := by omega
  have htn : ((i : Int) + 1).toNat = i + 1 := by omega
  have hb3 : ¬ (cap = S.length - 1) := by omega
  have hb6 : S.length - (S.length - 1) = 1 := by omega
  have hb7 : ¬ ((i : Int) = (i : Int) + 1) := by omega
  have hb8 : (0 : Int) ≤ (i : Int) + 1 := by omega
  have hb9 : i ≤ cap := by omega
  have hb10 : i + 1 ≤ cap := by omega
  clear fin hL1 l1 hcells fsp fsp0 fld flt flt1 fl hzl hg h hg1 hsrc hti hz e1
  generalize splL L1 ((S.length - 1) * 3) z3 = L2 at *
  generalize hn : S.length = n at *
  generalize hm : n - 1 = m at *
  go_enter Try.func28, Try.ntmps28
  go_wp2_with fail
  go_region_law_o (refine step_append_run rfl (.tmp 22) (.tmp 25) 39 39 rfl (.slice (some ⟨g, 0, none⟩) i cap) (.slice (some ad) (n - (i + 1)) (cap - (i + 1))) _ _ (by simp [Act.eval, Act.put]) (by simp [Act.eval, Act.put]) (run1.out _ _) ?_)
  have run2' := run2.out
  go_wp2
  go_ret
  exact ⟨rfl, HK.out⟩
theorem clone_any (v : Value) (L : Bx) (w : World) (h : RowM w v L) (hl : L.length ≤ 1000) :
    Calls Try.prog 29 #[v] w fun e w' => ∃ v', e = .returned v' ∧ Sep w w.heap.size w' [lstM v' L] := by
  have q22 : ∀ (w : World) (a : Option Addr) (n c n' c' : Nat), (binOp .eql 39 (.slice a n c) (.slice none n' c')).run Try.prog w = .ok (.bool a.isNone) w := fun w a n c n' c' => Lib.run_eql_slice_nil w _ _ a n c n' c' Try.underlying39
  obtain ⟨ao, cap, rfl, -, -, -, hn⟩ := h.slice
  cases ao with
  | none =>
    obtain rfl := hn rfl
    have HK := hid ((sep_nil w).nil (E := elM))
    clear h hn
    simp only [List.length_nil] at *
    go_enter Try.func29, Try.ntmps29
    go_wp2
    go_ret
    exact ⟨_, rfl, HK.out⟩
  | some a =>
    obtain ⟨v', w', r1, s1⟩ := ((sep_nil w).made (E := elM)).onto okM (h.below (below_new w _)) 39 (by simp; omega)
    have HK := hid s1
    simp only [elM] at r1
    have hRun := hid r1
    clear r1 s1 h hn
    generalize L.length = n at *
    go_enter Try.func29, Try.ntmps29
    go_wp2_with (at_builtin; refine wpList_append_run rfl _ _ _ _ rfl _ _ _ _ rfl rfl hRun.out ?_)
    go_ret
    exact ⟨_, rfl, HK.out⟩
end Go.Proofs.Ytpapjdmnhgnpfaa

/-
  What the library's Insert, Delete and Clone do to a row of entries, put together; no condition but that the row is short.
-/
import Derived.Test.YthfoeppcageneaaTRow
namespace Go.Proofs.Ythfoeppcageneaa
set_option linter.unusedSectionVars false
variable [DecidableEq Sl]
open Go.RowKit Go.Deep Go.Shelf

theorem insert_any (v : Value) (S : St) (i : Nat) (x : En) (q : Nat) (w : World) (h : RowE w v S) (hq : AtE w q x) (hqv : v.ownBlock ≠ some q) (hi : i ≤ S.length) (hl : S.length ≤ 1000) :
    Calls Try.prog 37 #[v, .int .i64 i, .slice (some ⟨q, 0, none⟩) 1 1] w fun e w' => GoesR w v (putN S i x) e w' := by
  by_cases hin : i = S.length
  · subst hin
    exact insert_end v S x q w h hq hl
  · obtain ⟨ao, cap, rfl, _, _, hg⟩ := h.slice
    obtain ⟨g, rfl⟩ := hg i (by omega)
    have hqg : q ≠ g := fun e => hqv (by rw [e]; rfl)
    rcases Nat.lt_or_ge cap (S.length + 1) with hc | hc
    · exact insert_grow g cap S i x q w h hq (by omega) hl hc
    · exact insert_shift g cap S i x q w h hq hqg (by omega) hl hc

/-! ### Delete -/
def z3 : List Value := [.int .i64 0, .int .i64 0, .int .i64 0]
theorem clear_row (w : World) (ty : TypeId) (g o c : Nat) (cur : Array Value) (hg : w.heap[g]? = some (.cells cur 53 (0, 0))) (hfit : o + 3 ≤ cur.size) :
    (Builtin.clear_ #[48] ty #[.slice (some ⟨g, o, none⟩) 1 c]).run Try.prog w = .ok (.tuple #[]) (w.setRow g (splL cur.toList o z3).toArray) := by
  have hst := run_storeCells_at Try.prog g o 53 z3 0 cur w hg (by simp [z3]; omega) (by simp [z3, Value.oneCell'])
  simp only [Nat.add_zero] at hst
  have hzc : (Builtin.zeroCells (Value.agg #[.int .i64 0, .int .i64 0, .int .i64 0]).cells 1).toList = z3 := by
    simp [Builtin.zeroCells, Value.cells, z3]
    rfl
  have hv := Try.zeroValue53
  unfold splL
  simp [Builtin.clear_, run_underlying Try.underlying48, hv, hzc, hst]
set_option maxHeartbeats 4000000 in
set_option maxRecDepth 100000 in
theorem delete_any (g cap : Nat) (S : St) (i : Nat) (w : World) (h : RowE w (.slice (some ⟨g, 0, none⟩) S.length cap) S) (hi : i < S.length) (hl : S.length ≤ 1000) :
    Calls Try.prog 28 #[.slice (some ⟨g, 0, none⟩) S.length cap, .int .i64 i, .int .i64 ((i : Int) + 1)] w fun e w' => e = .returned (.slice (some ⟨g, 0, none⟩) (S.length - 1) cap) ∧ RowE w' (.slice (some ⟨g, 0, none⟩) (S.length - 1) cap) (S.eraseIdx i) ∧ w.grownBy w' (some g) := by
  obtain ⟨_, _, e0, hcn, hc63, -⟩ := h.slice
  cases e0
  obtain ⟨Z, hg, hzl, -⟩ := row_parts h
  have fl := flatK_len cE_len S
  have flt : (flatK cE (S.take i)).length = i * 3 := by rw [flatK_len cE_len, List.length_take]; congr 1; omega
  have flt1 : (flatK cE (S.take (i + 1))).length = (i + 1) * 3 := by rw [flatK_len cE_len, List.length_take]; congr 1; omega
  have fld : (flatK cE (S.drop (i + 1))).length = (S.length - (i + 1)) * 3 := by rw [flatK_len cE_len, List.length_drop]
  have fsp : flatK cE S = flatK cE (S.take (i + 1)) ++ flatK cE (S.drop (i + 1)) := by rw [← flatK_app, List.take_append_drop]
  have fsp0 : flatK cE S = flatK cE (S.take i) ++ flatK cE (S.drop i) := by rw [← flatK_app, List.take_append_drop]
  have hcells : ∀ j v, (flatK cE (S.drop (i + 1)))[j]? = some v → w.cell? ((⟨g, (i + 1) * 3, none⟩ : Addr).add j) = some v := cells_at (A := flatK cE (S.take (i + 1))) (Z := Z) (by rw [fsp, List.append_assoc] at hg; exact hg) flt1
  obtain ⟨ti, hti, hz⟩ := Option.map_eq_some_iff.1 infoE
  simp only [Prod.mk.injEq] at hz
  obtain ⟨L1, hL1⟩ : ∃ L1, L1 = splL (flatK cE S ++ Z) (i * 3) (flatK cE (S.drop (i + 1))) := ⟨_, rfl⟩
  obtain ⟨ad, had, hsrc⟩ : ∃ A : Addr, (if cap = i + 1 then some (⟨g, 0, none⟩ : Addr) else some ⟨g, (i + 1) * 3, none⟩) = some A ∧ (∀ t u, (flatK cE (S.drop (i + 1)))[t]? = some u → w.drew.cell? (A.add t) = some u) := by
    by_cases hc : cap = i + 1
    · refine ⟨⟨g, 0, none⟩, by simp [hc], fun t u hu => ?_⟩
      have h0 : (flatK cE (S.drop (i + 1))).length = 0 := by rw [fld]; omega
      rw [List.length_eq_zero_iff.1 h0] at hu
      simp at hu
    · exact ⟨⟨g, (i + 1) * 3, none⟩, by simp [hc], hcells⟩
  have run1 : Hid (∀ ty sc, (Builtin.append_ #[48, 48] ty #[.slice (some ⟨g, 0, none⟩) i cap, .slice (some ad) (S.length - (i + 1)) sc]).run Try.prog w.drew = .ok (.slice (some ⟨g, 0, none⟩) (i + (S.length - (i + 1))) cap) (w.drew.setRow g L1.toArray)) := fun ty sc => by
    have r := run_append_room (P := Try.prog) w.drew 48 ty 53 ti Try.underlying48 hti g i cap (flatK cE S ++ Z).toArray hg ad (S.length - (i + 1)) sc (flatK cE (S.drop (i + 1))) (by rw [hz.2.1, fld]) hsrc (flatK_one cE_one _) (by omega) (by rw [hz.2.1, List.size_toArray, List.length_append, fl, fld]; omega)
    rw [hz.2.1] at r
    rw [hL1]
    exact r
  have e1 : i + (S.length - (i + 1)) = S.length - 1 := by omega
  rw [e1] at run1
  have l1 : L1.length = S.length * 3 + Z.length := by rw [hL1, splL_len _ _ _ (by rw [List.length_append, fl, fld]; omega), List.length_append, fl]
  have hg1 : (w.drew.setRow g L1.toArray).heap[g]? = some (.cells L1.toArray 53 (0, 0)) := setRow_heap w.drew g _ _ _ _ hg
  have run2 : Hid (∀ ty c, (Builtin.clear_ #[48] ty #[.slice (some ⟨g, (S.length - 1) * 3, none⟩) 1 c]).run Try.prog (w.drew.setRow g L1.toArray) = .ok (.tuple #[]) ((w.drew.setRow g L1.toArray).setRow g (splL L1 ((S.length - 1) * 3) z3).toArray)) := fun ty c =>
    clear_row _ ty g _ c L1.toArray hg1 (by rw [List.size_toArray, l1]; omega)
  have fin : splL L1 ((S.length - 1) * 3) z3 = flatK cE (S.eraseIdx i) ++ (z3 ++ ((flatK cE (S.drop i) ++ Z).drop (flatK cE (S.drop (i + 1))).length).drop z3.length) := by
    have e2 : L1 = flatK cE (S.eraseIdx i) ++ (flatK cE (S.drop i) ++ Z).drop (flatK cE (S.drop (i + 1))).length := by
      rw [hL1, fsp0, List.append_assoc, splL_at _ _ _ _ flt, List.eraseIdx_eq_take_drop_succ, flatK_app]
    have e3 : (flatK cE (S.eraseIdx i)).length = (S.length - 1) * 3 := by rw [flatK_len cE_len, List.length_eraseIdx, if_pos hi]
    rw [e2, splL_at _ _ _ _ e3, List.append_assoc]
  have HK : Hid (RowE ((w.drew.setRow g L1.toArray).setRow g (splL L1 ((S.length - 1) * 3) z3).toArray) (.slice (some ⟨g, 0, none⟩) (S.length - 1) cap) (S.eraseIdx i) ∧ w.grownBy ((w.drew.setRow g L1.toArray).setRow g (splL L1 ((S.length - 1) * 3) z3).toArray) (some g)) := by
    have hh := setRow_heap _ g _ (splL L1 ((S.length - 1) * 3) z3).toArray _ _ hg1
    refine ⟨?_, ⟨rfl, rfl, rfl, by simp, fun k _ hk => ?_⟩⟩
    · have el : (S.eraseIdx i).length = S.length - 1 := by rw [List.length_eraseIdx, if_pos hi]
      rw [fin] at hh
      have := own_parts (cap := cap) hh (by
        rw [List.length_append, List.length_drop, List.length_drop, List.length_append, fld, flatK_len cE_len, List.length_drop, hzl, el]
        simp only [z3, List.length_cons, List.length_nil]
        omega) (by rw [el]; omega) hc63
      rw [el] at this
      rw [fin]
      exact this
    · have hne : k ≠ g := fun e => hk (by rw [e])
      rw [setRow_other _ _ _ _ hne, setRow_other _ _ _ _ hne]
      rfl
  have mixed : Try.prog.follows Departure.mixedOrders = true := by kernel_rfl
  have hb1 : (i : Int) ≤ (i : Int) + 1 := by omega
  have hb2 : (i : Int) + 1 ≤ (S.length : Int) := by omega
  have htn : ((i : Int) + 1).toNat = i + 1 := by omega
  have hb3 : ¬ (cap = S.length - 1) := by omega
  have hb6 : S.length - (S.length - 1) = 1 := by omega
  have hb7 : ¬ ((i : Int) = (i : Int) + 1) := by omega
  have hb8 : (0 : Int) ≤ (i : Int) + 1 := by omega
  have hb9 : i ≤ cap := by omega
  have hb10 : i + 1 ≤ cap := by omega
  clear fin hL1 l1 hcells fsp fsp0 fld flt flt1 fl hzl hg h hg1 hsrc hti hz e1
  generalize splL L1 ((S.length - 1) * 3) z3 = L2 at *
  generalize hn : S.length = n at *
  generalize hm : n - 1 = m at *
  go_enter Try.func28, Try.ntmps28
  go_wp2_with fail
  go_region_law_o (refine step_append_run rfl (.tmp 22) (.tmp 25) 48 48 rfl (.slice (some ⟨g, 0, none⟩) i cap) (.slice (some ad) (n - (i + 1)) (cap - (i + 1))) _ _ (by simp [Act.eval, Act.put]) (by simp [Act.eval, Act.put]) (run1.out _ _) ?_)
  have run2' := run2.out
  go_wp2
  go_ret
  exact ⟨rfl, HK.out⟩
end Go.Proofs.Ythfoeppcageneaa

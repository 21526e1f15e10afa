/-
  What Under of the document's own tree answers; no condition but that the tree is small.
-/
import Derived.Test.YthfoeppcageneaaTRTake
import Derived.Deep.RegionLaw
namespace Go.Proofs.Ythfoeppcageneaa
set_option linter.unusedSectionVars false
variable [DecidableEq Sl]
open Go.RowKit Go.Deep Go.Shelf

theorem under_part {S : St} {i : Nat} : allS (underN S i) = ((allS S).drop (i + 1)).take (endN S i - (i + 1)) := by
  rw [underN_eq]
  unfold allS
  rw [List.map_take, List.map_drop]
/-- The part of the slots' row is appended to a new list. -/
theorem app_under {w W : World} {p g ca q i : Nat} {b : Value} {S : St} {ad : Addr} (h : RtH p (.slice (some ⟨g, 0, none⟩) S.length ca) b S W) (hi : i < S.length) (hl : S.length ≤ 1000) (had : (if ca = i + 1 then some (⟨g, 0, none⟩ : Addr) else some ⟨g, (i + 1) * 2, none⟩) = some ad) (hc : S.length ≤ ca)
    (hq : W.heap[q]? = some (.cells #[] 31 (0, 0))) (hqr : w.heap.size ≤ q) (hW : Below w.heap.size w W) (hs : w.heap.size ≤ W.heap.size) :
    ∃ ao' n' c' w', (Builtin.append_ #[26, 26] 26 #[.slice (some ⟨q, 0, none⟩) 0 0, .slice (some ad) (endN S i - (i + 1)) (ca - (i + 1))]).run Try.prog W = .ok (.slice ao' n' c') w' ∧ OwnS w.heap.size w' (.slice ao' n' c') (allS (underN S i)) ∧ Below w.heap.size w w' := by
  obtain ⟨ti, hti, hz⟩ := Option.map_eq_some_iff.1 infoS
  simp only [Prod.mk.injEq] at hz
  have he := endN_le hi
  have hul : (allS (underN S i)).length = endN S i - (i + 1) := by rw [alls_len, underN_len hi]
  have hown : W.ownsRow w.heap.size 31 2 (.slice (some ⟨q, 0, none⟩) 0 0) 0 [] := ⟨rfl, .inr ⟨q, 0, #[], rfl, hqr, hq, Nat.le_refl _, by unfold maxLen; omega, rfl, rfl⟩⟩
  have hcell : ∀ j u, (flatK cS (allS (underN S i)))[j]? = some u → W.cell? (ad.add j) = some u := fun j u hj => by
    have hjl := (List.getElem?_eq_some_iff.1 hj).1
    rw [flatK_len cS_len, hul] at hjl
    rw [if_neg (by omega)] at had
    cases had
    have r := h.rowS
    have e : (flatK cS (allS S))[(i + 1) * 2 + j]? = some u := by
      rw [under_part, flatK_take cS_len, flatK_drop cS_len, List.getElem?_take, if_pos (by omega), List.getElem?_drop] at hj
      exact hj
    have := World.ownsRow.cells r (g := g) rfl _ _ e
    rw [add_none] at this ⊢
    rw [Nat.zero_add] at this
    exact this
  obtain ⟨v', w', r1, r2, r3, _, r5⟩ := run_append_own_at (P := Try.prog) W w.heap.size 26 26 31 ti _ 2 16 Try.underlying26 hti hz.1 hz.2.1 hz.2.2 rfl (by decide) (.slice (some ⟨q, 0, none⟩) 0 0) 0 [] hown ad (endN S i - (i + 1)) (ca - (i + 1)) (flatK cS (allS (underN S i))) (by rw [flatK_len cS_len, hul])
    hcell (flatK_one cS_one _) (by unfold maxLen; omega) (by omega) hs
  have o : OwnS w.heap.size w' v' (allS (underN S i)) := by
    unfold OwnS
    rw [hul]
    rw [Nat.zero_add, List.nil_append] at r2
    exact r2
  obtain ⟨ao', c', rfl⟩ := o.slice
  exact ⟨ao', _, c', w', r1, o, hW.grown r3 hs fun k hk => by
    have : q = k := by simpa [Value.ownBlock] using hk
    omega⟩
theorem bthen2 {u b c : World} (h : Below u.heap.size u b) (k : Below b.heap.size b c) : Below u.heap.size u c := Below.then h k h.size
theorem drew_size {w w3 : World} (m : Below w.drew.heap.size w.drew w3) : w.heap.size ≤ w3.heap.size := m.size
theorem keep_new {w w3 : World} {o : Obj} (m : Below (w.alloc o).drew.heap.size (w.alloc o).drew w3) : w3.heap[w.heap.size]? = some o := by
  rw [m.block _ (by show w.heap.size < (w.alloc o).heap.size; simp)]
  exact blk_alloc_new w o
set_option maxHeartbeats 16000000 in
set_option maxRecDepth 100000 in
theorem runder_any (p : Nat) (a b : Value) (S : St) (s : Sl) (w : World) (h : RtH p a b S w) (hl : S.length ≤ 1000) :
    Calls Try.prog 19 #[.pointer (some ⟨p, 0, none⟩), encS s] w fun e w' => ∃ v, e = .returned v ∧ OwnS w.heap.size w' v (underS S s) ∧ Below w.heap.size w w' := by
  have b1 := below_new w (objS s)
  have HP := rplace_any p a b S s (w.alloc (objS s)) (h.below b1) hl
  obtain ⟨s0, s1⟩ := (AtS.new w s).cells
  have B : Hid (Below w.heap.size w (w.alloc (objS s))) := b1
  have hI : Hid _ := HP
  have H : Hid (RtH p a b S w ∧ S.length ≤ 1000) := ⟨h, hl⟩
  have HX : Hid (plI S s = if hasB S s then ((pl S s : Nat) : Int) else -1) := rfl
  generalize plI S s = z at *
  have HU : Hid (underS S s = if hasB S s then allS (underN S (pl S s)) else []) := rfl
  generalize underS S s = us at *
  clear HP b1 h hl
  simp only [encS, objS] at *
  go_enter Try.func19, Try.ntmps19
  cases hh : hasB S s with
  | false =>
    rw [hh] at HU HX
    obtain rfl := HU.out
    obtain rfl : z = -1 := HX.out
    go_wp2_with (go_at_call 35; refine Calls.mono hI.out ?_; rintro e w' ⟨rfl, b2⟩)
    go_ret
    exact ⟨_, rfl, World.ownsRow_nil _ _ _ _, Below.then B.out b2 B.out.size⟩
  | true =>
    rw [hh] at HU HX
    obtain rfl : z = ((pl S s : Nat) : Int) := HX.out
    have HUS : Hid (us = allS (underN S (pl S s))) := HU.out
    obtain ⟨hp1, -⟩ := pl_slt hh
    have HP1 : Hid (pl S s < S.length) := hp1
    go_wp2_with fail
    refine Calls.mono hI.out ?_
    rintro e w2 ⟨rfl, b2⟩
    have B2 : Hid (Below w.heap.size w w2) := Below.then B.out b2 B.out.size
    have h2 := H.out.1.below B2.out
    obtain ⟨ao, ca, bo, cb, rfl, rfl, hca, hca2, c0, -, hx⟩ := h2.slices
    obtain ⟨g, g', rfl, rfl, -⟩ := hx _ hp1
    have H2 : Hid (RtH p (.slice (some ⟨g, 0, none⟩) S.length ca) (.slice (some ⟨g', 0, none⟩) S.length cb) S w2) := h2
    obtain ⟨ad, had⟩ : ∃ ad : Addr, (if ca = pl S s + 1 then some (⟨g, 0, none⟩ : Addr) else some ⟨g, (pl S s + 1) * 2, none⟩) = some ad := by split <;> exact ⟨_, rfl⟩
    have HAD : Hid ((if ca = pl S s + 1 then some (⟨g, 0, none⟩ : Addr) else some ⟨g, (pl S s + 1) * 2, none⟩) = some ad ∧ S.length ≤ ca) := ⟨had, hca⟩
    have he := endN_le hp1
    have C0 : Hid (∀ W, Below w2.heap.size w2 W → Calls Try.prog 36 #[.pointer (some ⟨p, 0, none⟩), .int .i64 ((pl S s : Nat) : Int)] W fun e w' => e = .returned (.int .i64 ((endN S (pl S s) : Nat) : Int)) ∧ Below W.heap.size W w') := fun W hW => rend_any p _ _ S (pl S s) W (H2.out.below hW) HP1.out H.out.2
    have AP : Hid (∀ W q, Below w2.heap.size w2 W → W.heap[q]? = some (.cells #[] 31 (0, 0)) → w2.heap.size ≤ q → ∃ ao' n' c' w', (Builtin.append_ #[26, 26] 26 #[.slice (some ⟨q, 0, none⟩) 0 0, .slice (some ad) (endN S (pl S s) - (pl S s + 1)) (ca - (pl S s + 1))]).run Try.prog W = .ok (.slice ao' n' c') w' ∧ OwnS w.heap.size w' (.slice ao' n' c') us ∧ Below w.heap.size w w') := fun W q hW hq hqr => by
      rw [HUS.out]
      exact app_under (H2.out.below hW) HP1.out H.out.2 HAD.out.1 HAD.out.2 hq (Nat.le_trans B2.out.size hqr) (Below.then B2.out hW B2.out.size) (Nat.le_trans B2.out.size hW.size)
    have c0' := fun o => cell_al c0 o
    have C3 : Hid (∀ W, Below w2.heap.size w2 W → W.cell? ⟨p, 0, none⟩ = some (.slice (some ⟨g, 0, none⟩) S.length ca)) := fun W hW => by simp [World.cell?, (H2.out.below hW).head]
    have mixed : Try.prog.follows Departure.mixedOrders = true := by kernel_rfl
    have hb1 : (0 : Int) ≤ ((pl S s : Nat) : Int) + 1 := by omega
    have htn : (((pl S s : Nat) : Int) + 1).toNat = pl S s + 1 := by omega
    have hw1 : IntKind.i64.wrap (((pl S s : Nat) : Int) + 1) = ((pl S s : Nat) : Int) + 1 := by rw [IntKind.wrap_i64]; have := H.out.2; omega
    have hle1 : ((pl S s : Nat) : Int) + 1 ≤ ((endN S (pl S s) : Nat) : Int) := by omega
    have hle2 : endN S (pl S s) ≤ ca := by omega
    clear hI s0 s1 B b2 hh HX HU hp1 h2 hx he hca
    generalize pl S s = i at *
    generalize endN S i = E at *
    go_wp2
    go_region_law_o (first | (go_simp; go_at_call 36; refine Calls.mono (C0.out _ (by first | exact (Below.refl _ _).drew | exact (below_new _ _).drew)) ?_; rintro e w3 ⟨rfl, m3⟩; have c3 := C3.out w3 (by first | exact bthen2 (Below.refl _ _).drew m3 | exact bthen2 (below_new _ _).drew m3); have c3' := fun o => cell_al c3 o) | (with_reducible obtain ⟨ao5, n5, c5, w5, r5, o5, b5⟩ := AP.out _ _ (bthen2 ((below_new _ _).drew) m3) (keep_new m3) (Nat.le_refl _); refine step_append_run rfl (.tmp 11) (.tmp 21) _ _ rfl (.slice (some ⟨w2.heap.size, 0, none⟩) 0 0) (.slice (some ad) (E - (i + 1)) (ca - (i + 1))) _ _ rfl rfl r5 ?_) | (with_reducible obtain ⟨ao5, n5, c5, w5, r5, o5, b5⟩ := AP.out _ _ (bthen2 (bthen2 ((Below.refl _ _).drew) m3) (below_new _ _)) (blk_alloc_new _ _) (drew_size m3); refine step_append_run rfl (.tmp 11) (.tmp 21) _ _ rfl (.slice (some ⟨w3.heap.size, 0, none⟩) 0 0) (.slice (some ad) (E - (i + 1)) (ca - (i + 1))) _ _ rfl rfl r5 ?_))
    all_goals go_wp2
    all_goals go_ret
    all_goals exact ⟨_, rfl, o5, b5⟩
end Go.Proofs.Ythfoeppcageneaa

/-
  What Take of package tree answers and leaves; no condition but that the tree is small.
-/
import Derived.Test.YthfoeppcageneaaTCalls
namespace Go.Proofs.Ythfoeppcageneaa
set_option linter.unusedSectionVars false
variable [DecidableEq Sl]
open Go.RowKit Go.Deep Go.Shelf

theorem lessN_zero (S : St) (i : Nat) : lessN S i 0 = S := by
  unfold lessN
  simp [List.take_append_drop]
theorem lessN_step {S : St} {i k : Nat} (h : i + 1 + k < S.length) : (lessN S i k).set (i + 1 + k) ⟨slt (lessN S i k) (i + 1 + k), dep (lessN S i k) (i + 1 + k) - 1⟩ = lessN S i (k + 1) := by
  have l1 := lessN_len (S := S) (i := i) (k := k) (by omega)
  have l2 := lessN_len (S := S) (i := i) (k := k + 1) (by omega)
  have e0 : atE (lessN S i k) (i + 1 + k) = atE S (i + 1 + k) := by rw [atE_lessN (by omega) (by omega), if_neg (by omega)]
  refine st_ext (by rw [List.length_set, l1, l2]) fun j hj => ?_
  rw [List.length_set, l1] at hj
  rw [atE_set, atE_lessN (by omega) hj, atE_lessN (by omega) hj]
  unfold slt dep
  rw [e0]
  by_cases e : i + 1 + k = j
  · subst e
    rw [if_pos ⟨rfl, by omega⟩, if_pos (by omega)]
    rfl
  · rw [if_neg (by omega)]
    by_cases c : i < j ∧ j < i + 1 + k
    · rw [if_pos c, if_pos (by omega)]
    · rw [if_neg c, if_neg (by omega)]
theorem dep_lessN {S : St} {i k : Nat} (h : i + 1 + k < S.length) : dep (lessN S i k) (i + 1 + k) = dep S (i + 1 + k) := by
  unfold dep
  rw [atE_lessN (by omega) (by omega), if_neg (by omega)]
/-- A struct at p that leads to the row v. -/
structure Mid (p : Nat) (v : Value) (T : St) (w w' : World) : Prop where
  head : w'.heap[p]? = some (.cells #[v] 50 (0, 0))
  row : RowE w' v T
  turn : Turn (fpT p v) w w'
theorem Mid.cell {p : Nat} {v : Value} {T : St} {w w' : World} (h : Mid p v T w w') : w'.cell? ⟨p, 0, none⟩ = some v := by simp [World.cell?, h.head]
theorem Mid.lower {p g cap : Nat} {S : St} {i k : Nat} {w w' : World} (h : Mid p (.slice (some ⟨g, 0, none⟩) S.length cap) (lessN S i k) w w') (hp : g ≠ p) (hk : i + 1 + k < S.length) : Mid p (.slice (some ⟨g, 0, none⟩) S.length cap) (lessN S i (k + 1)) w (w'.setCell ⟨g, (i + 1 + k) * 3 + 2, none⟩ (.int .i64 (dep S (i + 1 + k) - 1))) := by
  have l1 := lessN_len (S := S) (i := i) (k := k) (by omega)
  refine ⟨(blk_setCell_other _ _ _ _ (Ne.symm hp)).trans h.head, ?_, h.turn.trans (Turn.setCell (fpT p (.slice (some ⟨g, 0, none⟩) S.length cap)) w' ⟨g, (i + 1 + k) * 3 + 2, none⟩ _ (.inr rfl)) fun x hx => .inl hx⟩
  have := h.row.depth (i := i + 1 + k) (by omega) (dep S (i + 1 + k) - 1)
  rw [← dep_lessN hk] at this ⊢
  rw [lessN_step hk] at this
  exact this
set_option maxHeartbeats 2000000 in
theorem take_any (p : Nat) (v : Value) (S : St) (s : Sl) (w : World) (h : TrH p v S w) (hl : S.length ≤ 1000) :
    Calls Try.prog 11 #[.pointer (some ⟨p, 0, none⟩), encS s] w fun e w' => e = .returned (.int .i64 (takeE S s)) ∧ Goes w p v (takeS S s) w' := by
  have b1 := below_new w (objS s)
  have HP := place_any p v S s (w.alloc (objS s)) (h.below b1) hl
  obtain ⟨s0, s1⟩ := (AtS.new w s).cells
  have B : Hid (Below w.heap.size w (w.alloc (objS s))) := b1
  have hI : Hid _ := HP
  have H : Hid (TrH p v S w ∧ S.length ≤ 1000) := ⟨h, hl⟩
  have HX : Hid (plI S s = if hasB S s then ((pl S s : Nat) : Int) else -1) := rfl
  generalize plI S s = z at *
  have HE : Hid (takeE S s = (if hasB S s then 0 else 71) ∧ takeS S s = if hasB S s then takeN S (pl S s) else S) := ⟨rfl, rfl⟩
  generalize takeE S s = te at *
  generalize takeS S s = ts at *
  clear HP b1 h hl
  simp only [encS, objS] at *
  go_enter Try.func11, Try.ntmps11
  cases hh : hasB S s with
  | false =>
    rw [hh] at HE hI
    obtain ⟨e1, e2⟩ := HE.out
    obtain rfl : te = 71 := e1
    obtain rfl : ts = S := e2
    go_wp2_with (go_at_call 26; refine Calls.mono hI.out ?_; rintro e w' ⟨rfl, b2⟩)
    go_ret
    exact ⟨rfl, Goes.same H.out.1 (Below.then B.out b2 B.out.size)⟩
  | true =>
    rw [hh] at HE HX hI
    obtain rfl : z = ((pl S s : Nat) : Int) := HX.out
    obtain ⟨e1, e2⟩ := HE.out
    obtain rfl : te = 0 := e1
    have HT : Hid (ts = takeN S (pl S s)) := e2
    obtain ⟨hp1, -⟩ := pl_slt hh
    go_wp2_with fail
    refine Calls.mono hI.out ?_
    rintro e w2 ⟨rfl, b2⟩
    have B2 : Hid (Below w.heap.size w w2) := Below.then B.out b2 B.out.size
    obtain ⟨ao, cap, rfl, -, -, hg⟩ := H.out.1.row.slice
    obtain ⟨g, rfl⟩ := hg _ hp1
    have HP1 : Hid (pl S s < S.length) := hp1
    clear hI s0 s1 B b2 hg hh HX HE hp1 e2
    go_wp2_with fail
    refine Calls.mono (under_any p g cap S (pl S s) w2 (H.out.1.below B2.out) HP1.out H.out.2) ?_
    rintro e w3 ⟨ad, c, rfl, hd, b3⟩
    have B3 : Hid (Below w.heap.size w w3) := Below.then B2.out b3 B2.out.size
    have HD : Hid (0 < (underN S (pl S s)).length → ad = ⟨g, (pl S s + 1) * 3, none⟩) := hd
    have HU : Hid ((underN S (pl S s)).length + (pl S s + 1) ≤ S.length) := by
      have he := endN_le HP1.out
      have hul := underN_len HP1.out
      show _ ≤ _
      omega
    have hul : ((underN S (pl S s)).length : Int) ≤ 1000 := by have := HU.out; have := H.out.2; omega
    have HKN : Hid (ts = (lessN S (pl S s) (underN S (pl S s)).length).eraseIdx (pl S s)) := HT.out
    have HG : Hid (Good ts) := by
      rw [HT.out]
      exact H.out.1.good.took HP1.out
    have M3 : Hid (Mid p (.slice (some ⟨g, 0, none⟩) S.length cap) (lessN S (pl S s) 0) w w3) := by
      have h3 := H.out.1.below B3.out
      refine ⟨h3.head, ?_, Turn.of B3.out _⟩
      rw [lessN_zero]
      exact h3.row
    have hgp : Hid (g ≠ p) := fun e => H.out.1.ne (by rw [e]; rfl)
    clear hd b3 B3 B2 HT
    generalize hi : pl S s = i at *
    generalize hk : (underN S i).length = k at *
    clear hi hk
    go_wp2
    go_loopw [8, 22] (fun _ s22 wr => ∃ j : Nat, j ≤ k ∧ s22 = .int .i64 j ∧ Mid p (.slice (some ⟨g, 0, none⟩) S.length cap) (lessN S i j) w wr) (fun _ s22 _ => k - (intOf s22).toNat)
    case atStart => exact ⟨0, Nat.zero_le _, rfl, M3.out⟩
    case round =>
      obtain ⟨j, hj, rfl, hm⟩ := hrel
      clear M3
      have HM : Hid (Mid p (.slice (some ⟨g, 0, none⟩) S.length cap) (lessN S i j) w wr) := hm
      by_cases hlt : j < k
      · obtain rfl := HD.out (by omega)
        have hjl : i + 1 + j < S.length := by have := HU.out; omega
        obtain ⟨-, -, d2⟩ := hm.row.cells (i := i + 1 + j) (by rw [lessN_len (by omega)]; exact hjl)
        rw [dep_lessN hjl] at d2
        have fz := hm.row.frozen
        have hb0 : 0 ≤ dep S (i + 1 + j) ∧ dep S (i + 1 + j) ≤ 1000 := by
          have := H.out.1.good.pos _ hjl
          have := H.out.1.good.le _ hjl
          have := H.out.2
          omega
        have hw2 : IntKind.i64.wrap (dep S (i + 1 + j) - 1) = dep S (i + 1 + j) - 1 := by rw [IntKind.wrap_i64]; omega
        have hm' : Hid _ := hm.lower hgp.out hjl
        rw [show (i + 1 + j) * 3 = (i + 1) * 3 + j * 3 by omega] at d2 hm'
        have hltz : (j : Int) < (k : Int) := by omega
        have HJ : Hid (j < k) := hlt
        clear hm hlt hjl hb0 hj
        generalize dep S (i + 1 + j) = dj at *
        go_wp2
        go_roundw
        case rel => exact ⟨j + 1, by have := HJ.out; omega, by go_num, hm'.out⟩
        case measure => simp [intOf]; have := HJ.out; omega
      · have hltz : ¬ (j : Int) < (k : Int) := by omega
        obtain rfl : j = k := by omega
        have hll : (lessN S i j).length = S.length := lessN_len (by have := HU.out; omega)
        have c0 := hm.cell
        have HI : Hid (Calls Try.prog 28 #[.slice (some ⟨g, 0, none⟩) S.length cap, .int .i64 (i : Int), .int .i64 ((i : Int) + 1)] wr fun e w' => e = .returned (.slice (some ⟨g, 0, none⟩) (S.length - 1) cap) ∧ w'.cell? ⟨p, 0, none⟩ = some (.slice (some ⟨g, 0, none⟩) S.length cap) ∧ w'.frozen? ⟨p, 0, none⟩ = false ∧ Goes w p (.slice (some ⟨g, 0, none⟩) S.length cap) ts (w'.setCell ⟨p, 0, none⟩ (.slice (some ⟨g, 0, none⟩) (S.length - 1) cap))) := by
          have k1 := delete_any g cap (lessN S i j) i wr (by rw [hll]; exact hm.row) (by rw [hll]; exact HP1.out) (by rw [hll]; exact H.out.2)
          rw [hll] at k1
          refine Calls.mono k1 ?_
          rintro e w' ⟨rfl, r1, r2⟩
          have h6 : w'.heap[p]? = some (.cells #[.slice (some ⟨g, 0, none⟩) S.length cap] 50 (0, 0)) := (r2.block p (Array.getElem?_eq_some_iff.1 hm.head).1 fun e => hgp.out (Option.some.inj e).symm).trans hm.head
          refine ⟨rfl, by simp [World.cell?, h6], by simp [World.frozen?, h6], .slice (some ⟨g, 0, none⟩) (S.length - 1) cap, ⟨?_, ?_, fun e => hgp.out (by simpa [Value.ownBlock] using e), ?_⟩, ?_, fun x hx => .inl hx⟩
          · simp only [World.setCell, Array.getElem?_modify, h6, Option.map_some]
            simp
          · rw [HKN.out]
            exact own_of_block r1 fun q hq => blk_setCell_other _ _ _ _ fun e => hgp.out (by
              have : g = q := by simpa [Value.ownBlock] using hq
              rw [this, e])
          · exact HG.out
          · have t1 := hm.turn.trans (Turn.grown (F := fpT p (.slice (some ⟨g, 0, none⟩) S.length cap)) r2 fun x hx => .inl (.inr hx)) fun x hx => .inl hx
            exact t1.trans (Turn.setCell (fpT p (.slice (some ⟨g, 0, none⟩) S.length cap)) w' ⟨p, 0, none⟩ _ (.inl rfl)) fun x hx => .inl hx
        have hw1 : IntKind.i64.wrap ((i : Int) + 1) = (i : Int) + 1 := by rw [IntKind.wrap_i64]; have := HP1.out; have := H.out.2; omega
        clear hm hll hj hlt
        go_wp2_with (go_at_call 28; refine Calls.mono HI.out ?_; rintro e w' ⟨rfl, c5, f5, gg⟩)
        go_ret
        exact ⟨rfl, gg⟩
end Go.Proofs.Ythfoeppcageneaa

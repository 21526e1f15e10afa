/-
  What Take of package mailbox answers, and leaves, among things that lie apart; no condition.
-/
import Derived.Test.YtpapjdmnhgnpfaaMBMeth
namespace Go.Proofs.Ytpapjdmnhgnpfaa
open Go.RowKit Go.Deep Go.Shelf
section
variable {w0 w w' : World} {r p g n q : Nat} {V : List Sv} {L : St} {R : List Th}
theorem frozenM {w : World} {q : Nat} {x : Ml} (h : w.heap[q]? = some (objM x)) (j : Nat) : w.frozen? ⟨q, j, none⟩ = false := by
  unfold objM at h
  simp [World.frozen?, h]
theorem Sep.putM {x : Ml} (y : Ml) (h : Sep w0 r w (blk q (objM x) :: R)) : Sep w0 r (((w.setCell ⟨q, 0, none⟩ (.int .i64 y.f)).setCell ⟨q, 1, none⟩ (.int .i64 y.k)).setCell ⟨q, 2, none⟩ (.int .i64 y.a)) (blk q (objM y) :: R) := by
  have h1 : w.heap[q]? = some (objM x) := h.head
  unfold objM at h1
  have h2 := setBlock (j := 0) h1 (.int .i64 y.f)
  have h3 := setBlock (j := 1) h2 (.int .i64 y.k)
  have h4 := setBlock (j := 2) h3 (.int .i64 y.a)
  have F := (blk q (objM x)).F
  refine h.turn (t' := blk q (objM y)) h4 (((Turn.setCell (blk q (objM x)).F w ⟨q, 0, none⟩ _ rfl).trans (Turn.setCell (blk q (objM x)).F _ ⟨q, 1, none⟩ _ rfl) fun x hx => .inl hx).trans (Turn.setCell (blk q (objM x)).F _ ⟨q, 2, none⟩ _ rfl) fun x hx => .inl hx) fun x hx => .inl hx
/-- The first one of a box goes. -/
theorem Sep.tailBox (s : Sep w0 r w (bxT n p g V L :: R)) {i g2 cap : Nat} (hi : i < n) (hx : V[i]? = some ⟨some ⟨g2, 0, none⟩, (boxN L i).length, cap⟩) (row : RowM w' (.slice (some ⟨g2, 0, none⟩) ((boxN L i).length - 1) cap) (boxN L i).tail) (gr : w.grownBy w' (some g2)) :
    w'.cell? ⟨p, 0, none⟩ = some (ovS g n) ∧ w'.cell? ⟨g, i, none⟩ = some (.slice (some ⟨g2, 0, none⟩) (boxN L i).length cap) ∧ w'.frozen? ⟨g, i, none⟩ = false ∧
      Sep w0 r (w'.setCell ⟨g, i, none⟩ (.slice (some ⟨g2, 0, none⟩) ((boxN L i).length - 1) cap)) (bxT n p g (V.set i ⟨some ⟨g2, 0, none⟩, (boxN L i).length - 1, cap⟩) (L.set i (boxN L i).tail) :: R) := by
  obtain ⟨ao', cap', e1, hc, -⟩ := s.boxAt hi
  rw [hx] at e1
  simp only [Option.some.injEq, Sv.mk.injEq] at e1
  obtain ⟨rfl, -, rfl⟩ := e1
  have ne1 : g2 ≠ p ∧ g2 ≠ g := by
    have hq := List.mem_of_getElem? (bxs_at hx (s.goodB.at hi))
    obtain ⟨b1, b2⟩ := List.pairwise_cons.1 s.head.2.1
    obtain ⟨b3, b4⟩ := List.pairwise_cons.1 b2
    exact ⟨fun e => b1 _ (List.mem_cons_of_mem _ hq) p rfl (by rw [← e]; rfl), fun e => b3 _ hq g rfl (by rw [← e]; rfl)⟩
  have hp : w.heap[p]? = some (objB g n) := s.head.1 (blk p (objB g n)) (by simp [bxL])
  have hplt := (Array.getElem?_eq_some_iff.1 hp).1
  have hglt := Row.lt s.rowB (x := g) rfl
  have hp' := (gr.block p hplt fun e => ne1.1 (Option.some.inj e).symm).trans hp
  have hg' := gr.block g hglt fun e => ne1.2 (Option.some.inj e).symm
  refine ⟨by simp [World.cell?, hp'], ?_, ?_, s.turnBox (x' := ⟨some ⟨g2, 0, none⟩, (boxN L i).length - 1, cap⟩) hi hx row gr (.inl rfl) (s.goodB.tail hi)⟩
  · have : w'.cell? ⟨g, i, none⟩ = w.cell? ⟨g, i, none⟩ := by simp only [World.cell?, hg']
    rw [this]
    exact hc
  · have : w'.frozen? ⟨g, i, none⟩ = w.frozen? ⟨g, i, none⟩ := by simp only [World.frozen?, hg']
    rw [this]
    exact s.frozenB i
set_option maxHeartbeats 8000000 in
set_option maxRecDepth 100000 in
theorem take_sep (s : Sep w0 r w (bxT n p g V L :: R)) (c : Int) :
    Calls Try.prog 15 #[ptr p, .int .i64 c] w fun e w' => e = .returned (.tuple #[encM (takeM L c), .bool (takeB L c)]) ∧ ∃ V', Sep w0 r w' (bxT n p g V' (takeS L c) :: R) := by
  have s1 := s.box (objM ml0)
  have HF := hid (has_any s1.swap.drop2 c)
  have none_ : boxL L c = [] → encM (takeM L c) = .agg #[.int .i64 0, .int .i64 0, .int .i64 0] ∧ takeB L c = false := fun h => by
    unfold takeM takeB
    rw [h]
    exact ⟨rfl, rfl⟩
  have HP := hid s1.drop
  have cp := s1.drop.cellB
  rcases has_cases n c with h1 | ⟨i, rfl, hi, h1⟩
  · rw [h1] at HF
    have hb := boxL_no s.goodB.len h1
    have HN := hid (none_ hb)
    have HS : Hid (takeS L c = L) := by
      show takeS L c = L
      unfold takeS
      by_cases h0 : 0 ≤ c
      · rw [if_pos h0]
        have : L.length ≤ c.toNat := by
          rw [s.goodB.len]
          have : ¬ c < (n : Int) := fun h2 => by
            rw [has_iff.2 ⟨h0, h2⟩] at h1
            cases h1
          omega
        exact List.set_eq_of_length_le this
      · rw [if_neg h0]
    clear s s1 h1 hb none_ cp
    go_enter Try.func15, Try.ntmps15
    go_wp2_with fail
    have HFo := HF.out
    unfold objM ml0 at HFo
    refine Calls.mono HFo ?_
    rintro e w1 ⟨rfl, hw⟩
    subst hw
    go_wp2
    refine bodyPost_ret (v := .tuple #[.agg #[.int .i64 0, .int .i64 0, .int .i64 0], .bool false]) ?_ rfl ⟨by rw [HN.out.1, HN.out.2], V, by rw [HS.out]; exact HP.out⟩
    simp [results, Try.f15, go_sem]
  · rw [h1] at HF
    obtain ⟨ao, cap, hV, hcell, row⟩ := s1.drop.boxAt hi
    have hiz : (i : Int) < (n : Int) := by omega
    rcases hB : boxN L i with _ | ⟨x, T⟩
    · have HN := hid (none_ (by rw [boxL_nat, hB]))
      have HS : Hid (takeS L (i : Int) = L) := by
        show takeS L (i : Int) = L
        unfold takeS
        rw [if_pos (by omega), boxL_nat, Int.toNat_natCast, hB]
        have hat := s.goodB.at hi
        rw [hB] at hat
        have hl : i < L.length := by rw [s.goodB.len]; exact hi
        obtain ⟨_, e⟩ := List.getElem?_eq_some_iff.1 hat
        show L.set i [] = L
        conv => lhs; rw [← e]
        exact List.set_getElem_self hl
      rw [hB] at hcell
      simp only [List.length_nil] at hcell
      clear s s1 h1 hB none_ hV row
      go_enter Try.func15, Try.ntmps15
      go_wp2_with fail
      have HFo := HF.out
      unfold objM ml0 at HFo hcell cp
      refine Calls.mono HFo ?_
      rintro e w1 ⟨rfl, hw⟩
      subst hw
      go_wp2
      refine bodyPost_ret (v := .tuple #[.agg #[.int .i64 0, .int .i64 0, .int .i64 0], .bool false]) ?_ rfl ⟨by rw [HN.out.1, HN.out.2], V, by rw [HS.out]; exact HP.out⟩
      simp [results, Try.f15, go_sem]
    · have HN : Hid (encM (takeM L (i : Int)) = .agg #[.int .i64 x.f, .int .i64 x.k, .int .i64 x.a] ∧ takeB L (i : Int) = true ∧ takeS L (i : Int) = L.set i T) := by
        unfold takeM takeB takeS
        rw [boxL_nat, hB, if_pos (by omega), Int.toNat_natCast]
        exact ⟨rfl, rfl, rfl⟩
      have hfew : (boxN L i).length ≤ 64 := s.goodB.few i _ (s.goodB.at hi)
      have hpos : 0 < (boxN L i).length := by rw [hB]; simp
      obtain ⟨_, _, ev, -, -, hg, -⟩ := row.slice
      simp only [Value.slice.injEq] at ev
      obtain ⟨rfl, -, rfl⟩ := ev
      obtain ⟨g2, rfl⟩ := hg 0 hpos
      have hx : (boxN L i)[0]? = some x := by rw [hB]; rfl
      obtain ⟨x0, x1, x2⟩ := (RowM.at row hx).cells
      rw [Nat.zero_mul] at x0 x1 x2
      have s2 := s1.box (objM x)
      have e9 : (w.alloc (objM ml0)).heap.size = w.heap.size + 1 := by simp
      rw [e9] at s2
      have s3 := s2.third.third
      have TB := hid (fun W' => Sep.tailBox (w' := W') s3.drew hi hV)
      have hT : (boxN L i).eraseIdx 0 = (boxN L i).tail := by rw [hB]; rfl
      have HD : Hid (∀ W, RowM W (.slice (some ⟨g2, 0, none⟩) (boxN L i).length cap) (boxN L i) → Calls Try.prog 28 #[.slice (some ⟨g2, 0, none⟩) (boxN L i).length cap, .int .i64 0, .int .i64 1] W fun e w' => e = .returned (.slice (some ⟨g2, 0, none⟩) ((boxN L i).length - 1) cap) ∧ RowM w' (.slice (some ⟨g2, 0, none⟩) ((boxN L i).length - 1) cap) (boxN L i).tail ∧ W.grownBy w' (some g2)) := fun W hW => by
        have := delete_any g2 cap (boxN L i) 0 W hW hpos (by omega)
        rw [hT] at this
        exact this
      have HW : Hid (RowM ((w.alloc (objM ml0)).alloc (objM x)).drew (.slice (some ⟨g2, 0, none⟩) (boxN L i).length cap) (boxN L i)) := row.below ((below_new _ _).drew)
      have HB : Hid ((boxN L i).tail = T) := by
        show (boxN L i).tail = T
        rw [hB]
        rfl
      have cpa := cell_al cp (objM x)
      have hca := cell_al hcell (objM x)
      clear s s1 s2 s3 h1 none_ hV row hx hg hT hB HP
      generalize (boxN L i).length = b at *
      have hbz : ¬ ((b : Int) = 0) := by omega
      have hbz2 : (0 : Int) < (b : Int) := by omega
      go_enter Try.func15, Try.ntmps15
      go_wp2_with fail
      have HFo := HF.out
      unfold objM ml0 at HFo hcell cp x0 x1 x2 cpa hca HW TB
      refine Calls.mono HFo ?_
      rintro e w1 ⟨rfl, hw⟩
      subst hw
      clear HFo HF
      go_wp2_with fail
      go_region_with (go_at_call 28; refine Calls.mono (HD.out _ HW.out) ?_; rintro e w4 ⟨rfl, r4, g4⟩; obtain ⟨d1, d2, d3, s5⟩ := TB.out _ r4 g4; obtain ⟨y0, y1, y2⟩ := cellsM (x := x) (s5.third.head); obtain ⟨z0, z1, z2⟩ := cellsM (x := ml0) (s5.third.swap.head); have zf := fun j => frozenM (x := ml0) s5.third.swap.head j; simp only [ml0] at z0 z1 z2; have S6 := hid ((Sep.putM (x := ml0) x s5.third.swap).drop.drop); clear r4 g4 s5)
      all_goals
        go_wp2
        refine bodyPost_ret (v := .tuple #[.agg #[.int .i64 x.f, .int .i64 x.k, .int .i64 x.a], .bool true]) ?_ rfl ⟨by rw [HN.out.1, HN.out.2.1], _, by rw [HN.out.2.2, ← HB.out]; exact S6.out⟩
        simp [results, Try.f15, go_sem, z0, z1, z2]
end
end Go.Proofs.Ytpapjdmnhgnpfaa

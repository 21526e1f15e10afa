/-
  What Move of the document's own nodes answers and leaves; no condition of ours.
-/
import Derived.Test.YtkpoppgibempbaaNRMv0
namespace Go.Proofs.Ytkpoppgibempbaa
open Go.RowKit Go.Deep Go.MapKept Go.Maps
set_option linter.unusedSectionVars false
variable [dCp : DecidableEq Cp] [dLim : ∀ k, Decidable (Lim k)] [dBad : ∀ k, Decidable (Bad k)] [dFit : ∀ g z, Decidable (Fit g z)] [dFine : ∀ c, Decidable (Fine c)] [dMint : ∀ c v, Decidable (MintR c v)] [dWho : ∀ x y, Decidable (Whose x y)] [dSl : DecidableEq Sl] [dLt : ∀ a b, Decidable (ltS a b)] [iSl : Inhabited Sl] [iCp : Inhabited Cp]

set_option maxHeartbeats 4000000 in
set_option maxRecDepth 100000 in
theorem rmove_any (p : Nat) (F : Nat → Prop) (S : St) (s t : Sl) (w : World) (h : Rds w p F S) :
    Calls Try.prog 37 #[.pointer (some ⟨p, 0, none⟩), encS s, encS t] w fun e w' => e = .returned (.int .i64 (moveE S s t)) ∧ RLeaves w p F (moveS S s t) w' := by
  have h2 := ((RB.start h).alloc (objS s)).alloc (objS t)
  rw [World.size_alloc] at h2
  obtain ⟨s0, s1⟩ := h2.atS (q := w.heap.size) (s := s) (by simp)
  have H2 : Hid (RB w ((w.alloc (objS s)).alloc (objS t)) p F S [(w.heap.size + 1, objS t), (w.heap.size, objS s)]) := h2
  clear h h2
  cases hat : atS S s with
  | none =>
    have HB : Hid ((atS S s).isSome = false) := by rw [hat]; rfl
    have HE : Hid (moveE S s t = 50) := by unfold moveE; rw [hat]; first | rfl | simp [Hid]
    clear hat
    simp only [encS, objS] at s0 s1 H2 ⊢
    go_enter Try.func37, Try.ntmps37
    go_wp2_with fail
    refine (ris_rb s false H2.out HB.out).mono ?_
    rintro e w3 ⟨rfl, h3⟩
    have K : Hid _ := h3.leaves
    clear h3 s0 s1 H2
    go_wp2
    go_ret
    exact ⟨by rw [HE.out]; rfl, by unfold moveS; rw [HE.out]; exact K.out⟩
  | some c =>
    have HB : Hid ((atS S s).isSome = true) := by rw [hat]; rfl
    obtain ⟨n, i, rfl⟩ := Sl.nat hat
    have HA : Hid (atS S ⟨(n : Int), (i : Int)⟩ = some c) := hat
    clear hat
    simp only [encS, objS] at s0 s1 H2 ⊢
    go_enter Try.func37, Try.ntmps37
    go_wp2_with fail
    refine (ris_rb ⟨(n : Int), (i : Int)⟩ true H2.out HB.out).mono ?_
    rintro e w3 ⟨rfl, h3⟩
    clear s0 s1 H2
    have H3 : Hid (RB w w3 p F S [(w.heap.size + 1, objS t), (w.heap.size, objS ⟨(n : Int), (i : Int)⟩)]) := h3
    clear h3
    generalize w.heap.size = r at *
    obtain ⟨t0, t1⟩ := H3.out.atS (q := r + 1) (s := t) (by simp)
    go_wp2_with fail
    cases hat : atS S t with
    | none =>
      have HB2 : Hid ((atS S t).isSome = false) := by rw [hat]; rfl
      have HE : Hid (moveE S ⟨(n : Int), (i : Int)⟩ t = 50) := by unfold moveE; rw [HA.out, hat]; first | rfl | simp [Hid]
      clear hat
      refine (ris_rb t false H3.out HB2.out).mono ?_
      rintro e w4 ⟨rfl, h4⟩
      have K : Hid _ := h4.leaves
      clear h4 t0 t1 H3
      go_wp2
      go_ret
      exact ⟨by rw [HE.out]; rfl, by unfold moveS; rw [HE.out]; exact K.out⟩
    | some d =>
      have HB2 : Hid ((atS S t).isSome = true) := by rw [hat]; rfl
      obtain ⟨n2, i2, rfl⟩ := Sl.nat hat
      have HA2 : Hid (atS S ⟨(n2 : Int), (i2 : Int)⟩ = some d) := hat
      clear hat
      refine (ris_rb ⟨(n2 : Int), (i2 : Int)⟩ true H3.out HB2.out).mono ?_
      rintro e w4 ⟨rfl, h4⟩
      clear t0 t1 H3
      have H4 : Hid (RB w w4 p F S [(r + 1, objS ⟨(n2 : Int), (i2 : Int)⟩), (r, objS ⟨(n : Int), (i : Int)⟩)]) := h4
      clear h4
      obtain ⟨s0, s1⟩ := H4.out.atS (q := r) (s := ⟨(n : Int), (i : Int)⟩) (by simp)
      obtain ⟨t0, t1⟩ := H4.out.atS (q := r + 1) (s := ⟨(n2 : Int), (i2 : Int)⟩) (by simp)
      simp only at s0 s1 t0 t1
      obtain ⟨v, H, h5⟩ := H4.out.rds
      obtain ⟨g, cap, b, m, hp, hn, hi, hm, hh, -⟩ := h5.path HA.out
      obtain ⟨g2, cap2, b2, m2, hp2, hn2, hi2, hm2, hh2, -⟩ := h5.path HA2.out
      have hn' : (n : Int) < (S.length : Int) := by omega
      have hi' : (i : Int) < (m : Int) := by omega
      have hn2' : (n2 : Int) < (S.length : Int) := by omega
      have hi2' : (i2 : Int) < (m2 : Int) := by omega
      clear hn hi hn2 hi2
      obtain ⟨c0, c1, y0, y1, y2, y3, y4, y5, yf⟩ := id hp
      obtain ⟨c0', c1', x0, x1, x2, x3, x4, x5, xf⟩ := id hp2
      have eg := c0.symm.trans c0'
      simp only [Option.some.injEq, Value.slice.injEq, Addr.mk.injEq, true_and, and_true] at eg
      obtain ⟨rfl, rfl⟩ := eg
      clear c0'
      have HE : Hid (moveE S ⟨(n : Int), (i : Int)⟩ ⟨(n2 : Int), (i2 : Int)⟩ = if c.k = 0 then 52 else if d.k = 0 then 0 else 51) := by unfold moveE; rw [HA.out, HA2.out]; rfl
      by_cases hc : c.k = 0
      · have HE2 : Hid (moveE S ⟨(n : Int), (i : Int)⟩ ⟨(n2 : Int), (i2 : Int)⟩ = 52) := by rw [HE.out, if_pos hc]; rfl
        have hc' : (c.k == 0) = true := by simp [hc]
        clear hc h5 hp hp2 hh hh2
        generalize S.length = N at *
        clear x0 x1 x2 x3 x4 x5 xf t0 t1 c1' hn2' hi2'
        go_wp2
        go_region
        go_wp2
        go_ret
        exact ⟨by rw [HE2.out]; rfl, by unfold moveS; rw [HE2.out]; exact H4.out.drew.leaves⟩
      · have hc' : (c.k == 0) = false := by simp [hc]
        by_cases hd : d.k = 0
        · have HE2 : Hid (moveE S ⟨(n : Int), (i : Int)⟩ ⟨(n2 : Int), (i2 : Int)⟩ = 0) := by rw [HE.out, if_neg hc, if_pos hd]; rfl
          have hd' : (d.k != 0) = false := by simp [hd]
          have hne : (⟨(n : Int), (i : Int)⟩ : Sl) ≠ ⟨(n2 : Int), (i2 : Int)⟩ := fun e => hc (by
            have := HA.out
            rw [e, HA2.out] at this
            cases this
            exact hd)
          have HN : Hid (getC S ⟨(n : Int), (i : Int)⟩ = c ∧ atS (setS S ⟨(n2 : Int), (i2 : Int)⟩ c) ⟨(n : Int), (i : Int)⟩ = some c) := by
            refine ⟨by unfold getC; rw [HA.out]; rfl, ?_⟩
            rw [atS_set HA2.out, if_neg hne]
            exact HA.out
          have K6 : Hid (RB w (put6 w4.drew.drew b2 (i2 * 6) c).drew p F (setS S ⟨(n2 : Int), (i2 : Int)⟩ c) [(r + 1, objS ⟨(n2 : Int), (i2 : Int)⟩), (r, objS ⟨(n : Int), (i : Int)⟩)]) := (H4.out.drew.drew.put HA2.out h5.drew.drew hh2 (h5.ok.at HA.out).1 (h5.ok.at HA.out).2).drew
          have hlt : ∀ x, F x → x < r := fun x hx => Nat.lt_of_lt_of_le (H4.out.lt x hx) (H4.out.blk (r, objS ⟨(n : Int), (i : Int)⟩) (by simp)).2
          generalize hN : S.length = N at *
          have hS0 : w4.cell? ⟨p, 0, none⟩ = some (.slice (some ⟨g, 0, none⟩) N cap) ∧ w4.cell? ⟨g, n, none⟩ = some (.slice (some ⟨b, 0, none⟩) m m) ∧ w4.cell? ⟨g, n2, none⟩ = some (.slice (some ⟨b2, 0, none⟩) m2 m2) ∧ w4.cell? ⟨r, 0, none⟩ = some (.int .i64 (n : Int)) ∧ w4.cell? ⟨r, 1, none⟩ = some (.int .i64 (i : Int)) ∧ w4.cell? ⟨r + 1, 0, none⟩ = some (.int .i64 (n2 : Int)) ∧ w4.cell? ⟨r + 1, 1, none⟩ = some (.int .i64 (i2 : Int)) ∧ w4.cell? ⟨b, i * 6, none⟩ = some (.int .i64 c.k) ∧ w4.cell? ⟨b, i * 6 + 1, none⟩ = some (.int .i64 c.o) ∧ w4.cell? ⟨b, i * 6 + 2, none⟩ = some (.int .i64 c.r) ∧ w4.cell? ⟨b, i * 6 + 3, none⟩ = some (.int .u64 c.b) ∧ w4.cell? ⟨b, i * 6 + 4, none⟩ = some (.int .u64 c.g) ∧ w4.cell? ⟨b, i * 6 + 5, none⟩ = some (.int .i64 c.z) := ⟨c0, c1, c1', s0, s1, t0, t1, y0, y1, y2, y3, y4, y5⟩
          have HS1 : Hid (w4.drew.drew.cell? ⟨p, 0, none⟩ = some (.slice (some ⟨g, 0, none⟩) N cap) ∧ w4.drew.drew.cell? ⟨g, n, none⟩ = some (.slice (some ⟨b, 0, none⟩) m m) ∧ w4.drew.drew.cell? ⟨g, n2, none⟩ = some (.slice (some ⟨b2, 0, none⟩) m2 m2) ∧ w4.drew.drew.cell? ⟨r, 0, none⟩ = some (.int .i64 (n : Int)) ∧ w4.drew.drew.cell? ⟨r, 1, none⟩ = some (.int .i64 (i : Int)) ∧ w4.drew.drew.cell? ⟨r + 1, 0, none⟩ = some (.int .i64 (n2 : Int)) ∧ w4.drew.drew.cell? ⟨r + 1, 1, none⟩ = some (.int .i64 (i2 : Int)) ∧ w4.drew.drew.cell? ⟨b, i * 6, none⟩ = some (.int .i64 c.k) ∧ w4.drew.drew.cell? ⟨b, i * 6 + 1, none⟩ = some (.int .i64 c.o) ∧ w4.drew.drew.cell? ⟨b, i * 6 + 2, none⟩ = some (.int .i64 c.r) ∧ w4.drew.drew.cell? ⟨b, i * 6 + 3, none⟩ = some (.int .u64 c.b) ∧ w4.drew.drew.cell? ⟨b, i * 6 + 4, none⟩ = some (.int .u64 c.g) ∧ w4.drew.drew.cell? ⟨b, i * 6 + 5, none⟩ = some (.int .i64 c.z)) := n_drew (n_drew hS0)
          have KS : Hid ((put6 w4.drew.drew b2 (i2 * 6) c).drew.cell? ⟨p, 0, none⟩ = some (.slice (some ⟨g, 0, none⟩) N cap) ∧ (put6 w4.drew.drew b2 (i2 * 6) c).drew.cell? ⟨g, n, none⟩ = some (.slice (some ⟨b, 0, none⟩) m m) ∧ (put6 w4.drew.drew b2 (i2 * 6) c).drew.cell? ⟨g, n2, none⟩ = some (.slice (some ⟨b2, 0, none⟩) m2 m2) ∧ (put6 w4.drew.drew b2 (i2 * 6) c).drew.cell? ⟨r, 0, none⟩ = some (.int .i64 (n : Int)) ∧ (put6 w4.drew.drew b2 (i2 * 6) c).drew.cell? ⟨r, 1, none⟩ = some (.int .i64 (i : Int)) ∧ (put6 w4.drew.drew b2 (i2 * 6) c).drew.cell? ⟨r + 1, 0, none⟩ = some (.int .i64 (n2 : Int)) ∧ (put6 w4.drew.drew b2 (i2 * 6) c).drew.cell? ⟨r + 1, 1, none⟩ = some (.int .i64 (i2 : Int)) ∧ (put6 w4.drew.drew b2 (i2 * 6) c).drew.cell? ⟨b, i * 6, none⟩ = some (.int .i64 c.k) ∧ (put6 w4.drew.drew b2 (i2 * 6) c).drew.cell? ⟨b, i * 6 + 1, none⟩ = some (.int .i64 c.o) ∧ (put6 w4.drew.drew b2 (i2 * 6) c).drew.cell? ⟨b, i * 6 + 2, none⟩ = some (.int .i64 c.r) ∧ (put6 w4.drew.drew b2 (i2 * 6) c).drew.cell? ⟨b, i * 6 + 3, none⟩ = some (.int .u64 c.b) ∧ (put6 w4.drew.drew b2 (i2 * 6) c).drew.cell? ⟨b, i * 6 + 4, none⟩ = some (.int .u64 c.g) ∧ (put6 w4.drew.drew b2 (i2 * 6) c).drew.cell? ⟨b, i * 6 + 5, none⟩ = some (.int .i64 c.z)) := n_drew (after_put h5.drew.drew HA.out HA2.out hne hh hh2 hlt (h5.ok.at HA.out).1 (h5.ok.at HA.out).2 HS1.out)
          have HS2 : Hid (w4.drew.drew.cell? ⟨b2, i2 * 6, none⟩ = some (.int .i64 d.k) ∧ w4.drew.drew.cell? ⟨b2, i2 * 6 + 1, none⟩ = some (.int .i64 d.o) ∧ w4.drew.drew.cell? ⟨b2, i2 * 6 + 2, none⟩ = some (.int .i64 d.r) ∧ w4.drew.drew.cell? ⟨b2, i2 * 6 + 3, none⟩ = some (.int .u64 d.b) ∧ w4.drew.drew.cell? ⟨b2, i2 * 6 + 4, none⟩ = some (.int .u64 d.g) ∧ w4.drew.drew.cell? ⟨b2, i2 * 6 + 5, none⟩ = some (.int .i64 d.z) ∧ ∀ j, w4.drew.drew.frozen? ⟨b2, j, none⟩ = false) := ⟨x0, x1, x2, x3, x4, x5, xf⟩
          have HS : Hid (w4.cell? ⟨g, n2, none⟩ = some (.slice (some ⟨b2, 0, none⟩) m2 m2) ∧ w4.cell? ⟨r + 1, 0, none⟩ = some (.int .i64 (n2 : Int)) ∧ w4.cell? ⟨r + 1, 1, none⟩ = some (.int .i64 (i2 : Int)) ∧ w4.cell? ⟨b2, i2 * 6, none⟩ = some (.int .i64 d.k)) := ⟨c1', t0, t1, x0⟩
          clear hc hd h5 hp hp2 hh hh2 HE H4 hne hlt hN hS0 x0 x1 x2 x3 x4 x5 xf t0 t1 c1' y1 y2 y3 y4 y5 yf
          simp only [put6] at K6 KS
          go_wp2
          go_region
          clear s0 s1 c1 y0
          obtain ⟨c1', t0, t1, x0⟩ := HS.out
          go_wp2
          go_region
          clear c0 c1' t0 t1 x0 HS
          generalize w4.drew.drew = w5 at *
          have hS := HS1.out
          obtain ⟨x0, x1, x2, x3, x4, x5, xf⟩ := HS2.out
          clear HS1 HS2
          go_wp2
          go_region_held3 (fun W => W.cell? ⟨p, 0, none⟩ = some (.slice (some ⟨g, 0, none⟩) N cap) ∧ W.cell? ⟨g, n, none⟩ = some (.slice (some ⟨b, 0, none⟩) m m) ∧ W.cell? ⟨g, n2, none⟩ = some (.slice (some ⟨b2, 0, none⟩) m2 m2) ∧ W.cell? ⟨r, 0, none⟩ = some (.int .i64 (n : Int)) ∧ W.cell? ⟨r, 1, none⟩ = some (.int .i64 (i : Int)) ∧ W.cell? ⟨r + 1, 0, none⟩ = some (.int .i64 (n2 : Int)) ∧ W.cell? ⟨r + 1, 1, none⟩ = some (.int .i64 (i2 : Int)) ∧ W.cell? ⟨b, i * 6, none⟩ = some (.int .i64 c.k) ∧ W.cell? ⟨b, i * 6 + 1, none⟩ = some (.int .i64 c.o) ∧ W.cell? ⟨b, i * 6 + 2, none⟩ = some (.int .i64 c.r) ∧ W.cell? ⟨b, i * 6 + 3, none⟩ = some (.int .u64 c.b) ∧ W.cell? ⟨b, i * 6 + 4, none⟩ = some (.int .u64 c.g) ∧ W.cell? ⟨b, i * 6 + 5, none⟩ = some (.int .i64 c.z)) ((first | with_reducible assumption | with_reducible exact n_drew hS | with_reducible exact KS.out)) (fail)
          clear x0 x1 x2 x3 x4 x5 xf hS KS
          generalize (((((((w5.setCell ⟨b2, i2 * 6, none⟩ (.int .i64 c.k)).setCell ⟨b2, i2 * 6 + 1, none⟩ (.int .i64 c.o)).setCell ⟨b2, i2 * 6 + 2, none⟩ (.int .i64 c.r)).setCell ⟨b2, i2 * 6 + 3, none⟩ (.int .u64 c.b)).setCell ⟨b2, i2 * 6 + 4, none⟩ (.int .u64 c.g)).setCell ⟨b2, i2 * 6 + 5, none⟩ (.int .i64 c.z))).drew = w6 at *
          have H6 : Hid (RB w w6 p F (setS S ⟨(n2 : Int), (i2 : Int)⟩ c) [(r + 1, objS ⟨(n2 : Int), (i2 : Int)⟩), (r, objS ⟨(n : Int), (i : Int)⟩)]) := K6
          clear K6
          obtain ⟨s0, s1⟩ := H6.out.atS (q := r) (s := ⟨(n : Int), (i : Int)⟩) (by simp)
          simp only at s0 s1
          obtain ⟨v6, H6', h6⟩ := H6.out.rds
          obtain ⟨g6, cap6, b6, m6, hp6, hn6, hi6, hm6, hh6, -⟩ := h6.path HN.out.2
          have hb6 : b6 = b := by
            have hq : w6.cell? ⟨p, 0, none⟩ = some (.slice (some ⟨g, 0, none⟩) N cap) ∧ w6.cell? ⟨g, n, none⟩ = some (.slice (some ⟨b, 0, none⟩) m m) ∧ w6.cell? ⟨g, n2, none⟩ = some (.slice (some ⟨b2, 0, none⟩) m2 m2) ∧ w6.cell? ⟨r, 0, none⟩ = some (.int .i64 (n : Int)) ∧ w6.cell? ⟨r, 1, none⟩ = some (.int .i64 (i : Int)) ∧ w6.cell? ⟨r + 1, 0, none⟩ = some (.int .i64 (n2 : Int)) ∧ w6.cell? ⟨r + 1, 1, none⟩ = some (.int .i64 (i2 : Int)) ∧ w6.cell? ⟨b, i * 6, none⟩ = some (.int .i64 c.k) ∧ w6.cell? ⟨b, i * 6 + 1, none⟩ = some (.int .i64 c.o) ∧ w6.cell? ⟨b, i * 6 + 2, none⟩ = some (.int .i64 c.r) ∧ w6.cell? ⟨b, i * 6 + 3, none⟩ = some (.int .u64 c.b) ∧ w6.cell? ⟨b, i * 6 + 4, none⟩ = some (.int .u64 c.g) ∧ w6.cell? ⟨b, i * 6 + 5, none⟩ = some (.int .i64 c.z) := by assumption
            have q0 := hq.1.symm.trans hp6.c0
            simp only [Option.some.injEq, Value.slice.injEq, Addr.mk.injEq, and_true] at q0
            have q1 := hq.2.1
            rw [q0.1] at q1
            have q2 := q1.symm.trans hp6.c1
            simp only [Option.some.injEq, Value.slice.injEq, Addr.mk.injEq, and_true] at q2
            exact q2.1.symm
          subst hb6
          have hn6' : (n : Int) < ((setS S ⟨(n2 : Int), (i2 : Int)⟩ c).length : Int) := by omega
          have hi6' : (i : Int) < (m6 : Int) := by omega
          have K : Hid (RLeaves w p F (setS (setS S ⟨(n2 : Int), (i2 : Int)⟩ c) ⟨(n : Int), (i : Int)⟩ no) (put6 w6 b6 (i * 6) no).drew) := (H6.out.put HN.out.2 h6 hh6 no_fits fun _ => rfl).drew.leaves
          obtain ⟨c0, c1, y0, y1, y2, y3, y4, y5, yf⟩ := hp6
          clear H6 h6 hn6 hi6 hh6
          generalize (setS S ⟨(n2 : Int), (i2 : Int)⟩ c).length = N6 at *
          go_wp2
          go_region
          go_wp2
          go_ret
          exact ⟨by rw [HE2.out]; rfl, by unfold moveS; rw [HE2.out, if_pos rfl, HN.out.1]; exact K.out⟩
        · have HE2 : Hid (moveE S ⟨(n : Int), (i : Int)⟩ ⟨(n2 : Int), (i2 : Int)⟩ = 51) := by rw [HE.out, if_neg hc, if_neg hd]; rfl
          have hd' : (d.k != 0) = true := by simp [hd]
          have HS : Hid (w4.cell? ⟨g, n2, none⟩ = some (.slice (some ⟨b2, 0, none⟩) m2 m2) ∧ w4.cell? ⟨r + 1, 0, none⟩ = some (.int .i64 (n2 : Int)) ∧ w4.cell? ⟨r + 1, 1, none⟩ = some (.int .i64 (i2 : Int)) ∧ w4.cell? ⟨b2, i2 * 6, none⟩ = some (.int .i64 d.k)) := ⟨c1', t0, t1, x0⟩
          clear hc hd h5 hp hp2 hh hh2 x0 x1 x2 x3 x4 x5 xf t0 t1 c1' y1 y2 y3 y4 y5 yf
          generalize S.length = N at *
          go_wp2
          go_region
          clear s0 s1 c1 y0
          obtain ⟨c1', t0, t1, x0⟩ := HS.out
          go_wp2
          go_region
          go_wp2
          go_ret
          exact ⟨by rw [HE2.out]; rfl, by unfold moveS; rw [HE2.out]; exact H4.out.drew.drew.leaves⟩
end Go.Proofs.Ytkpoppgibempbaa

/-
  What Swap of the document's own nodes answers and leaves; no condition of ours.
-/
import Derived.Test.YtkpoppgibempbaaNRMv0
import Derived.Deep.Cut
import Derived.Deep.CutRange
namespace Go.Proofs.Ytkpoppgibempbaa
open Go.RowKit Go.Deep Go.MapKept Go.Maps
set_option linter.unusedSectionVars false
variable [dCp : DecidableEq Cp] [dLim : ∀ k, Decidable (Lim k)] [dBad : ∀ k, Decidable (Bad k)] [dFit : ∀ g z, Decidable (Fit g z)] [dFine : ∀ c, Decidable (Fine c)] [dMint : ∀ c v, Decidable (MintR c v)] [dWho : ∀ x y, Decidable (Whose x y)] [dSl : DecidableEq Sl] [dLt : ∀ a b, Decidable (ltS a b)] [iSl : Inhabited Sl] [iCp : Inhabited Cp]

theorem m_drew {W : World} {p g N cap n b m n2 b2 m2 r i i2 : Nat} {c d : Cp} (h : W.cell? ⟨p, 0, none⟩ = some (.slice (some ⟨g, 0, none⟩) N cap) ∧ W.cell? ⟨g, n, none⟩ = some (.slice (some ⟨b, 0, none⟩) m m) ∧ W.cell? ⟨g, n2, none⟩ = some (.slice (some ⟨b2, 0, none⟩) m2 m2) ∧ W.cell? ⟨r, 0, none⟩ = some (.int .i64 (n : Int)) ∧ W.cell? ⟨r, 1, none⟩ = some (.int .i64 (i : Int)) ∧ W.cell? ⟨r + 1, 0, none⟩ = some (.int .i64 (n2 : Int)) ∧ W.cell? ⟨r + 1, 1, none⟩ = some (.int .i64 (i2 : Int)) ∧ W.cell? ⟨b, i * 6, none⟩ = some (.int .i64 c.k) ∧ W.cell? ⟨b, i * 6 + 1, none⟩ = some (.int .i64 c.o) ∧ W.cell? ⟨b, i * 6 + 2, none⟩ = some (.int .i64 c.r) ∧ W.cell? ⟨b, i * 6 + 3, none⟩ = some (.int .u64 c.b) ∧ W.cell? ⟨b, i * 6 + 4, none⟩ = some (.int .u64 c.g) ∧ W.cell? ⟨b, i * 6 + 5, none⟩ = some (.int .i64 c.z) ∧ W.cell? ⟨b2, i2 * 6, none⟩ = some (.int .i64 d.k) ∧ W.cell? ⟨b2, i2 * 6 + 1, none⟩ = some (.int .i64 d.o) ∧ W.cell? ⟨b2, i2 * 6 + 2, none⟩ = some (.int .i64 d.r) ∧ W.cell? ⟨b2, i2 * 6 + 3, none⟩ = some (.int .u64 d.b) ∧ W.cell? ⟨b2, i2 * 6 + 4, none⟩ = some (.int .u64 d.g) ∧ W.cell? ⟨b2, i2 * 6 + 5, none⟩ = some (.int .i64 d.z)) : W.drew.cell? ⟨p, 0, none⟩ = some (.slice (some ⟨g, 0, none⟩) N cap) ∧ W.drew.cell? ⟨g, n, none⟩ = some (.slice (some ⟨b, 0, none⟩) m m) ∧ W.drew.cell? ⟨g, n2, none⟩ = some (.slice (some ⟨b2, 0, none⟩) m2 m2) ∧ W.drew.cell? ⟨r, 0, none⟩ = some (.int .i64 (n : Int)) ∧ W.drew.cell? ⟨r, 1, none⟩ = some (.int .i64 (i : Int)) ∧ W.drew.cell? ⟨r + 1, 0, none⟩ = some (.int .i64 (n2 : Int)) ∧ W.drew.cell? ⟨r + 1, 1, none⟩ = some (.int .i64 (i2 : Int)) ∧ W.drew.cell? ⟨b, i * 6, none⟩ = some (.int .i64 c.k) ∧ W.drew.cell? ⟨b, i * 6 + 1, none⟩ = some (.int .i64 c.o) ∧ W.drew.cell? ⟨b, i * 6 + 2, none⟩ = some (.int .i64 c.r) ∧ W.drew.cell? ⟨b, i * 6 + 3, none⟩ = some (.int .u64 c.b) ∧ W.drew.cell? ⟨b, i * 6 + 4, none⟩ = some (.int .u64 c.g) ∧ W.drew.cell? ⟨b, i * 6 + 5, none⟩ = some (.int .i64 c.z) ∧ W.drew.cell? ⟨b2, i2 * 6, none⟩ = some (.int .i64 d.k) ∧ W.drew.cell? ⟨b2, i2 * 6 + 1, none⟩ = some (.int .i64 d.o) ∧ W.drew.cell? ⟨b2, i2 * 6 + 2, none⟩ = some (.int .i64 d.r) ∧ W.drew.cell? ⟨b2, i2 * 6 + 3, none⟩ = some (.int .u64 d.b) ∧ W.drew.cell? ⟨b2, i2 * 6 + 4, none⟩ = some (.int .u64 d.g) ∧ W.drew.cell? ⟨b2, i2 * 6 + 5, none⟩ = some (.int .i64 d.z) := h
theorem m_alloc {W : World} {p g N cap n b m n2 b2 m2 r i i2 : Nat} {c d : Cp} (h : W.cell? ⟨p, 0, none⟩ = some (.slice (some ⟨g, 0, none⟩) N cap) ∧ W.cell? ⟨g, n, none⟩ = some (.slice (some ⟨b, 0, none⟩) m m) ∧ W.cell? ⟨g, n2, none⟩ = some (.slice (some ⟨b2, 0, none⟩) m2 m2) ∧ W.cell? ⟨r, 0, none⟩ = some (.int .i64 (n : Int)) ∧ W.cell? ⟨r, 1, none⟩ = some (.int .i64 (i : Int)) ∧ W.cell? ⟨r + 1, 0, none⟩ = some (.int .i64 (n2 : Int)) ∧ W.cell? ⟨r + 1, 1, none⟩ = some (.int .i64 (i2 : Int)) ∧ W.cell? ⟨b, i * 6, none⟩ = some (.int .i64 c.k) ∧ W.cell? ⟨b, i * 6 + 1, none⟩ = some (.int .i64 c.o) ∧ W.cell? ⟨b, i * 6 + 2, none⟩ = some (.int .i64 c.r) ∧ W.cell? ⟨b, i * 6 + 3, none⟩ = some (.int .u64 c.b) ∧ W.cell? ⟨b, i * 6 + 4, none⟩ = some (.int .u64 c.g) ∧ W.cell? ⟨b, i * 6 + 5, none⟩ = some (.int .i64 c.z) ∧ W.cell? ⟨b2, i2 * 6, none⟩ = some (.int .i64 d.k) ∧ W.cell? ⟨b2, i2 * 6 + 1, none⟩ = some (.int .i64 d.o) ∧ W.cell? ⟨b2, i2 * 6 + 2, none⟩ = some (.int .i64 d.r) ∧ W.cell? ⟨b2, i2 * 6 + 3, none⟩ = some (.int .u64 d.b) ∧ W.cell? ⟨b2, i2 * 6 + 4, none⟩ = some (.int .u64 d.g) ∧ W.cell? ⟨b2, i2 * 6 + 5, none⟩ = some (.int .i64 d.z)) (o : Obj) : (W.alloc o).cell? ⟨p, 0, none⟩ = some (.slice (some ⟨g, 0, none⟩) N cap) ∧ (W.alloc o).cell? ⟨g, n, none⟩ = some (.slice (some ⟨b, 0, none⟩) m m) ∧ (W.alloc o).cell? ⟨g, n2, none⟩ = some (.slice (some ⟨b2, 0, none⟩) m2 m2) ∧ (W.alloc o).cell? ⟨r, 0, none⟩ = some (.int .i64 (n : Int)) ∧ (W.alloc o).cell? ⟨r, 1, none⟩ = some (.int .i64 (i : Int)) ∧ (W.alloc o).cell? ⟨r + 1, 0, none⟩ = some (.int .i64 (n2 : Int)) ∧ (W.alloc o).cell? ⟨r + 1, 1, none⟩ = some (.int .i64 (i2 : Int)) ∧ (W.alloc o).cell? ⟨b, i * 6, none⟩ = some (.int .i64 c.k) ∧ (W.alloc o).cell? ⟨b, i * 6 + 1, none⟩ = some (.int .i64 c.o) ∧ (W.alloc o).cell? ⟨b, i * 6 + 2, none⟩ = some (.int .i64 c.r) ∧ (W.alloc o).cell? ⟨b, i * 6 + 3, none⟩ = some (.int .u64 c.b) ∧ (W.alloc o).cell? ⟨b, i * 6 + 4, none⟩ = some (.int .u64 c.g) ∧ (W.alloc o).cell? ⟨b, i * 6 + 5, none⟩ = some (.int .i64 c.z) ∧ (W.alloc o).cell? ⟨b2, i2 * 6, none⟩ = some (.int .i64 d.k) ∧ (W.alloc o).cell? ⟨b2, i2 * 6 + 1, none⟩ = some (.int .i64 d.o) ∧ (W.alloc o).cell? ⟨b2, i2 * 6 + 2, none⟩ = some (.int .i64 d.r) ∧ (W.alloc o).cell? ⟨b2, i2 * 6 + 3, none⟩ = some (.int .u64 d.b) ∧ (W.alloc o).cell? ⟨b2, i2 * 6 + 4, none⟩ = some (.int .u64 d.g) ∧ (W.alloc o).cell? ⟨b2, i2 * 6 + 5, none⟩ = some (.int .i64 d.z) :=
  ⟨cell_al (h.1) o, cell_al (h.2.1) o, cell_al (h.2.2.1) o, cell_al (h.2.2.2.1) o, cell_al (h.2.2.2.2.1) o, cell_al (h.2.2.2.2.2.1) o, cell_al (h.2.2.2.2.2.2.1) o, cell_al (h.2.2.2.2.2.2.2.1) o, cell_al (h.2.2.2.2.2.2.2.2.1) o, cell_al (h.2.2.2.2.2.2.2.2.2.1) o, cell_al (h.2.2.2.2.2.2.2.2.2.2.1) o, cell_al (h.2.2.2.2.2.2.2.2.2.2.2.1) o, cell_al (h.2.2.2.2.2.2.2.2.2.2.2.2.1) o, cell_al (h.2.2.2.2.2.2.2.2.2.2.2.2.2.1) o, cell_al (h.2.2.2.2.2.2.2.2.2.2.2.2.2.2.1) o, cell_al (h.2.2.2.2.2.2.2.2.2.2.2.2.2.2.2.1) o, cell_al (h.2.2.2.2.2.2.2.2.2.2.2.2.2.2.2.2.1) o, cell_al (h.2.2.2.2.2.2.2.2.2.2.2.2.2.2.2.2.2.1) o, cell_al (h.2.2.2.2.2.2.2.2.2.2.2.2.2.2.2.2.2.2) o⟩
set_option maxHeartbeats 4000000 in
set_option maxRecDepth 100000 in
theorem rswap_any (p : Nat) (F : Nat → Prop) (S : St) (s t : Sl) (w : World) (h : Rds w p F S) :
    Calls Try.prog 38 #[.pointer (some ⟨p, 0, none⟩), encS s, encS t] w fun e w' => e = .returned (.int .i64 (swapE S s t)) ∧ RLeaves w p F (swapS S s t) w' := by
  have h2 := ((RB.start h).alloc (objS s)).alloc (objS t)
  rw [World.size_alloc] at h2
  obtain ⟨s0, s1⟩ := h2.atS (q := w.heap.size) (s := s) (by simp)
  have H2 : Hid (RB w ((w.alloc (objS s)).alloc (objS t)) p F S [(w.heap.size + 1, objS t), (w.heap.size, objS s)]) := h2
  clear h h2
  cases hat : atS S s with
  | none =>
    have HB : Hid ((atS S s).isSome = false) := by rw [hat]; rfl
    have HE : Hid (swapE S s t = 50) := by unfold swapE; rw [hat]; first | rfl | simp [Hid]
    clear hat
    simp only [encS, objS] at s0 s1 H2 ⊢
    go_enter Try.func38, Try.ntmps38
    go_wp2_with fail
    refine (ris_rb s false H2.out HB.out).mono ?_
    rintro e w3 ⟨rfl, h3⟩
    have K : Hid _ := h3.leaves
    clear h3 s0 s1 H2
    go_wp2
    go_ret
    exact ⟨by rw [HE.out]; rfl, by unfold swapS; rw [HE.out]; exact K.out⟩
  | some c =>
    have HB : Hid ((atS S s).isSome = true) := by rw [hat]; rfl
    obtain ⟨n, i, rfl⟩ := Sl.nat hat
    have HA : Hid (atS S ⟨(n : Int), (i : Int)⟩ = some c) := hat
    clear hat
    simp only [encS, objS] at s0 s1 H2 ⊢
    go_enter Try.func38, Try.ntmps38
    go_wp2_with fail
    refine (ris_rb ⟨(n : Int), (i : Int)⟩ true H2.out HB.out).mono ?_
    rintro e w3 ⟨rfl, h3⟩
    clear s0 s1 H2
    have H3 : Hid (RB w w3 p F S [(w.heap.size + 1, objS t), (w.heap.size, objS ⟨(n : Int), (i : Int)⟩)]) := h3
    clear h3
    generalize w.heap.size = r at *
    obtain ⟨t0, t1⟩ := H3.out.atS (q := r + 1) (s := t) (by simp)
    go_wp2_with fail
    cases hat : atS S t with
    | none =>
      have HB2 : Hid ((atS S t).isSome = false) := by rw [hat]; rfl
      have HE : Hid (swapE S ⟨(n : Int), (i : Int)⟩ t = 50) := by unfold swapE; rw [HA.out, hat]; first | rfl | simp [Hid]
      clear hat
      refine (ris_rb t false H3.out HB2.out).mono ?_
      rintro e w4 ⟨rfl, h4⟩
      have K : Hid _ := h4.leaves
      clear h4 t0 t1 H3
      go_wp2
      go_ret
      exact ⟨by rw [HE.out]; rfl, by unfold swapS; rw [HE.out]; exact K.out⟩
    | some d =>
      have HB2 : Hid ((atS S t).isSome = true) := by rw [hat]; rfl
      obtain ⟨n2, i2, rfl⟩ := Sl.nat hat
      have HA2 : Hid (atS S ⟨(n2 : Int), (i2 : Int)⟩ = some d) := hat
      clear hat
      refine (ris_rb ⟨(n2 : Int), (i2 : Int)⟩ true H3.out HB2.out).mono ?_
      rintro e w4 ⟨rfl, h4⟩
      clear t0 t1 H3
      have H4 : Hid (RB w w4 p F S [(r + 1, objS ⟨(n2 : Int), (i2 : Int)⟩), (r, objS ⟨(n : Int), (i : Int)⟩)]) := h4
      clear h4
      obtain ⟨s0, s1⟩ := H4.out.atS (q := r) (s := ⟨(n : Int), (i : Int)⟩) (by simp)
      obtain ⟨t0, t1⟩ := H4.out.atS (q := r + 1) (s := ⟨(n2 : Int), (i2 : Int)⟩) (by simp)
      simp only at s0 s1 t0 t1
      obtain ⟨v, H, h5⟩ := H4.out.rds
      obtain ⟨g, cap, b, m, hp, hn, hi, hm, hh, -⟩ := h5.path HA.out
      obtain ⟨g2, cap2, b2, m2, hp2, hn2, hi2, hm2, hh2, -⟩ := h5.path HA2.out
      have hn' : (n : Int) < (S.length : Int) := by omega
      have hi' : (i : Int) < (m : Int) := by omega
      have hn2' : (n2 : Int) < (S.length : Int) := by omega
      have hi2' : (i2 : Int) < (m2 : Int) := by omega
      clear hn hi hn2 hi2
      obtain ⟨c0, c1, y0, y1, y2, y3, y4, y5, yf⟩ := id hp
      obtain ⟨c0', c1', x0, x1, x2, x3, x4, x5, xf⟩ := id hp2
      have eg := c0.symm.trans c0'
      simp only [Option.some.injEq, Value.slice.injEq, Addr.mk.injEq, true_and, and_true] at eg
      obtain ⟨rfl, rfl⟩ := eg
      clear c0'
      have HE : Hid (swapE S ⟨(n : Int), (i : Int)⟩ ⟨(n2 : Int), (i2 : Int)⟩ = 0 ∧ getC S ⟨(n : Int), (i : Int)⟩ = c ∧ getC S ⟨(n2 : Int), (i2 : Int)⟩ = d) := ⟨by unfold swapE; rw [HA.out, HA2.out]; rfl, by unfold getC; rw [HA.out]; rfl, by unfold getC; rw [HA2.out]; rfl⟩
      have T1 : Hid (RB w ((w4.alloc (objC c)).alloc (objC d)).drew p F S [(w4.heap.size + 1, objC d), (w4.heap.size, objC c), (r + 1, objS ⟨(n2 : Int), (i2 : Int)⟩), (r, objS ⟨(n : Int), (i : Int)⟩)]) := by
        have := ((H4.out.alloc (objC c)).alloc (objC d)).drew
        rw [World.size_alloc] at this
        exact this
      have T2 : Hid (RB w ((w4.alloc (objC d)).alloc (objC c)).drew p F S [(w4.heap.size + 1, objC c), (w4.heap.size, objC d), (r + 1, objS ⟨(n2 : Int), (i2 : Int)⟩), (r, objS ⟨(n : Int), (i : Int)⟩)]) := by
        have := ((H4.out.alloc (objC d)).alloc (objC c)).drew
        rw [World.size_alloc] at this
        exact this
      have FX : Hid (c.Fits ∧ d.Fits ∧ (c.k = 0 → c = no) ∧ (d.k = 0 → d = no)) := ⟨(h5.ok.at HA.out).1, (h5.ok.at HA2.out).1, (h5.ok.at HA.out).2, (h5.ok.at HA2.out).2⟩
      clear h5 hp hp2 hh hh2 yf xf H4
      generalize S.length = N at *
      have hS : w4.cell? ⟨p, 0, none⟩ = some (.slice (some ⟨g, 0, none⟩) N cap) ∧ w4.cell? ⟨g, n, none⟩ = some (.slice (some ⟨b, 0, none⟩) m m) ∧ w4.cell? ⟨g, n2, none⟩ = some (.slice (some ⟨b2, 0, none⟩) m2 m2) ∧ w4.cell? ⟨r, 0, none⟩ = some (.int .i64 (n : Int)) ∧ w4.cell? ⟨r, 1, none⟩ = some (.int .i64 (i : Int)) ∧ w4.cell? ⟨r + 1, 0, none⟩ = some (.int .i64 (n2 : Int)) ∧ w4.cell? ⟨r + 1, 1, none⟩ = some (.int .i64 (i2 : Int)) ∧ w4.cell? ⟨b, i * 6, none⟩ = some (.int .i64 c.k) ∧ w4.cell? ⟨b, i * 6 + 1, none⟩ = some (.int .i64 c.o) ∧ w4.cell? ⟨b, i * 6 + 2, none⟩ = some (.int .i64 c.r) ∧ w4.cell? ⟨b, i * 6 + 3, none⟩ = some (.int .u64 c.b) ∧ w4.cell? ⟨b, i * 6 + 4, none⟩ = some (.int .u64 c.g) ∧ w4.cell? ⟨b, i * 6 + 5, none⟩ = some (.int .i64 c.z) ∧ w4.cell? ⟨b2, i2 * 6, none⟩ = some (.int .i64 d.k) ∧ w4.cell? ⟨b2, i2 * 6 + 1, none⟩ = some (.int .i64 d.o) ∧ w4.cell? ⟨b2, i2 * 6 + 2, none⟩ = some (.int .i64 d.r) ∧ w4.cell? ⟨b2, i2 * 6 + 3, none⟩ = some (.int .u64 d.b) ∧ w4.cell? ⟨b2, i2 * 6 + 4, none⟩ = some (.int .u64 d.g) ∧ w4.cell? ⟨b2, i2 * 6 + 5, none⟩ = some (.int .i64 d.z) := ⟨c0, c1, c1', s0, s1, t0, t1, y0, y1, y2, y3, y4, y5, x0, x1, x2, x3, x4, x5⟩
      clear c0 c1 c1' s0 s1 t0 t1 y0 y1 y2 y3 y4 y5 x0 x1 x2 x3 x4 x5
      simp only [objC] at T1 T2
      go_wp2
      go_cut [7, 8] from 19 to 42 (fun x y wx => ∃ q q', x = .pointer (some ⟨q, 0, none⟩) ∧ y = .pointer (some ⟨q', 0, none⟩) ∧ RB w wx p F S [(q, objC c), (q', objC d), (r + 1, objS ⟨(n2 : Int), (i2 : Int)⟩), (r, objS ⟨(n : Int), (i : Int)⟩)])
      case first =>
        go_region_held3 (fun W => W.cell? ⟨p, 0, none⟩ = some (.slice (some ⟨g, 0, none⟩) N cap) ∧ W.cell? ⟨g, n, none⟩ = some (.slice (some ⟨b, 0, none⟩) m m) ∧ W.cell? ⟨g, n2, none⟩ = some (.slice (some ⟨b2, 0, none⟩) m2 m2) ∧ W.cell? ⟨r, 0, none⟩ = some (.int .i64 (n : Int)) ∧ W.cell? ⟨r, 1, none⟩ = some (.int .i64 (i : Int)) ∧ W.cell? ⟨r + 1, 0, none⟩ = some (.int .i64 (n2 : Int)) ∧ W.cell? ⟨r + 1, 1, none⟩ = some (.int .i64 (i2 : Int)) ∧ W.cell? ⟨b, i * 6, none⟩ = some (.int .i64 c.k) ∧ W.cell? ⟨b, i * 6 + 1, none⟩ = some (.int .i64 c.o) ∧ W.cell? ⟨b, i * 6 + 2, none⟩ = some (.int .i64 c.r) ∧ W.cell? ⟨b, i * 6 + 3, none⟩ = some (.int .u64 c.b) ∧ W.cell? ⟨b, i * 6 + 4, none⟩ = some (.int .u64 c.g) ∧ W.cell? ⟨b, i * 6 + 5, none⟩ = some (.int .i64 c.z) ∧ W.cell? ⟨b2, i2 * 6, none⟩ = some (.int .i64 d.k) ∧ W.cell? ⟨b2, i2 * 6 + 1, none⟩ = some (.int .i64 d.o) ∧ W.cell? ⟨b2, i2 * 6 + 2, none⟩ = some (.int .i64 d.r) ∧ W.cell? ⟨b2, i2 * 6 + 3, none⟩ = some (.int .u64 d.b) ∧ W.cell? ⟨b2, i2 * 6 + 4, none⟩ = some (.int .u64 d.g) ∧ W.cell? ⟨b2, i2 * 6 + 5, none⟩ = some (.int .i64 d.z)) ((first | with_reducible assumption | with_reducible exact m_drew hS | with_reducible exact m_drew (m_alloc hS _) | with_reducible exact m_drew (m_alloc (m_alloc hS _) _))) (fail)
        all_goals go_wp2_with fail
        all_goals go_meet
        all_goals first | exact ⟨_, _, rfl, rfl, { T1.out with blk := fun x hx => T1.out.blk x (by simp [objC] at hx ⊢; rcases hx with rfl | rfl | rfl | rfl <;> simp) }⟩ | exact ⟨_, _, rfl, rfl, { T2.out with blk := fun x hx => T2.out.blk x (by simp [objC] at hx ⊢; rcases hx with rfl | rfl | rfl | rfl <;> simp) }⟩
      case rest =>
        obtain ⟨q, q', rfl, rfl, h6⟩ := hcut
        clear T1 T2 hS
        have H6 : Hid (RB w _ p F S [(q, objC c), (q', objC d), (r + 1, objS ⟨(n2 : Int), (i2 : Int)⟩), (r, objS ⟨(n : Int), (i : Int)⟩)]) := h6
        clear h6
        obtain ⟨s0, s1⟩ := H6.out.atS (q := r) (s := ⟨(n : Int), (i : Int)⟩) (by simp)
        simp only at s0 s1
        obtain ⟨e0, e1, e2, e3, e4, e5⟩ := H6.out.atC (q := q') (c := d) (by simp)
        obtain ⟨v6, H6', h6⟩ := H6.out.rds
        obtain ⟨g6, cap6, b6, m6, hp6, hn6, hi6, hm6, hh6, -⟩ := h6.path HA.out
        have HAT : Hid (∃ z, atS (setS S ⟨(n : Int), (i : Int)⟩ d) ⟨(n2 : Int), (i2 : Int)⟩ = some z) := by
          rw [atS_set HA.out]
          split
          · exact ⟨_, rfl⟩
          · exact ⟨_, HA2.out⟩
        have hn6' : (n : Int) < (S.length : Int) := by omega
        have hi6' : (i : Int) < (m6 : Int) := by omega
        have K7 : Hid (RB w (put6 wc b6 (i * 6) d).drew p F (setS S ⟨(n : Int), (i : Int)⟩ d) [(q, objC c), (q', objC d), (r + 1, objS ⟨(n2 : Int), (i2 : Int)⟩), (r, objS ⟨(n : Int), (i : Int)⟩)]) := (H6.out.put HA.out h6 hh6 FX.out.2.1 FX.out.2.2.2).drew
        obtain ⟨c0, c1, y0, y1, y2, y3, y4, y5, yf⟩ := hp6
        clear H6 h6 hn6 hi6 hh6
        simp only [put6] at K7
        generalize S.length = N6 at *
        go_wp2
        go_region
        clear c0 c1 y0 y1 y2 y3 y4 y5 yf s0 s1 e0 e1 e2 e3 e4 e5
        generalize (((((((wc.setCell ⟨b6, i * 6, none⟩ (.int .i64 d.k)).setCell ⟨b6, i * 6 + 1, none⟩ (.int .i64 d.o)).setCell ⟨b6, i * 6 + 2, none⟩ (.int .i64 d.r)).setCell ⟨b6, i * 6 + 3, none⟩ (.int .u64 d.b)).setCell ⟨b6, i * 6 + 4, none⟩ (.int .u64 d.g)).setCell ⟨b6, i * 6 + 5, none⟩ (.int .i64 d.z))).drew = w7 at *
        have H7 : Hid (RB w w7 p F (setS S ⟨(n : Int), (i : Int)⟩ d) [(q, objC c), (q', objC d), (r + 1, objS ⟨(n2 : Int), (i2 : Int)⟩), (r, objS ⟨(n : Int), (i : Int)⟩)]) := K7
        clear K7
        obtain ⟨t0, t1⟩ := H7.out.atS (q := r + 1) (s := ⟨(n2 : Int), (i2 : Int)⟩) (by simp)
        simp only at t0 t1
        obtain ⟨e0, e1, e2, e3, e4, e5⟩ := H7.out.atC (q := q) (c := c) (by simp)
        obtain ⟨v7, H7', h7⟩ := H7.out.rds
        obtain ⟨z, hz⟩ := HAT.out
        obtain ⟨g7, cap7, b7, m7, hp7, hn7, hi7, hm7, hh7, -⟩ := h7.path hz
        have hn7' : (n2 : Int) < ((setS S ⟨(n : Int), (i : Int)⟩ d).length : Int) := by omega
        have hi7' : (i2 : Int) < (m7 : Int) := by omega
        have K : Hid (RLeaves w p F (setS (setS S ⟨(n : Int), (i : Int)⟩ d) ⟨(n2 : Int), (i2 : Int)⟩ c) (put6 w7 b7 (i2 * 6) c).drew) := (H7.out.put hz h7 hh7 FX.out.1 FX.out.2.2.1).drew.leaves
        obtain ⟨c0, c1, y0, y1, y2, y3, y4, y5, yf⟩ := hp7
        clear H7 h7 hn7 hi7 hh7 hz
        generalize (setS S ⟨(n : Int), (i : Int)⟩ d).length = N7 at *
        go_wp2
        go_region
        go_wp2
        go_ret
        exact ⟨by rw [HE.out.1]; rfl, by unfold swapS; rw [HE.out.1, if_pos rfl, HE.out.2.1, HE.out.2.2]; exact K.out⟩
end Go.Proofs.Ytkpoppgibempbaa

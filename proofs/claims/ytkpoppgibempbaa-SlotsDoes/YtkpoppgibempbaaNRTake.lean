/-
  What Take of the document's own nodes answers and leaves; no condition of ours.
-/
import Derived.Test.YtkpoppgibempbaaNRPut
namespace Go.Proofs.Ytkpoppgibempbaa
open Go.RowKit Go.Deep Go.MapKept Go.Maps
set_option linter.unusedSectionVars false
variable [dCp : DecidableEq Cp] [dLim : ∀ k, Decidable (Lim k)] [dBad : ∀ k, Decidable (Bad k)] [dFit : ∀ g z, Decidable (Fit g z)] [dFine : ∀ c, Decidable (Fine c)] [dMint : ∀ c v, Decidable (MintR c v)] [dWho : ∀ x y, Decidable (Whose x y)] [dSl : DecidableEq Sl] [dLt : ∀ a b, Decidable (ltS a b)] [iSl : Inhabited Sl] [iCp : Inhabited Cp]

set_option maxHeartbeats 1000000 in
set_option maxRecDepth 100000 in
theorem rtake_any (p : Nat) (F : Nat → Prop) (S : St) (s : Sl) (w : World) (h : Rds w p F S) :
    Calls Try.prog 36 #[.pointer (some ⟨p, 0, none⟩), encS s] w fun e w' => e = .returned (.tuple #[encC (takeC S s), .int .i64 (takeE S s)]) ∧ RLeaves w p F (takeS S s) w' := by
  have h2 := ((RB.start h).alloc (objS s)).alloc (objC no)
  rw [World.size_alloc] at h2
  obtain ⟨s0, s1⟩ := h2.atS (q := w.heap.size) (s := s) (by simp)
  have H2 : Hid (RB w ((w.alloc (objS s)).alloc (objC no)) p F S [(w.heap.size + 1, objC no), (w.heap.size, objS s)]) := h2
  clear h h2
  cases hat : atS S s with
  | none =>
    have HB : Hid ((atS S s).isSome = false) := by rw [hat]; rfl
    have HE : Hid (takeE S s = 50) := by unfold takeE; rw [hat]; rfl
    clear hat
    simp only [encS, encC, objS, objC, no] at s0 s1 H2 ⊢
    go_enter Try.func36, Try.ntmps36
    go_wp2_with fail
    refine (ris_rb s false H2.out HB.out).mono ?_
    rintro e w3 ⟨rfl, h3⟩
    clear s0 s1 H2
    have zf := h3.fr (q := w.heap.size + 1) (c := no) (by simp [objC, no])
    obtain ⟨z0, z1, z2, z3, z4, z5⟩ := h3.atC (q := w.heap.size + 1) (c := no) (by simp [objC, no])
    have K : Hid (RLeaves w p F S (put6 w3 (w.heap.size + 1) 0 no)) := (h3.box (q := w.heap.size + 1) (d := no) (by simp [objC, no]) no (L' := []) (fun b hb => by cases hb)).leaves
    clear h3
    simp only [no] at z0 z1 z2 z3 z4 z5
    go_wp2
    refine bodyPost_ret (v := .tuple #[encC no, .int .i64 50]) ?_ rfl ⟨by unfold takeC; rw [HE.out]; rfl, by unfold takeS; rw [HE.out]; exact K.out⟩
    simp [results, Try.f36, go_sem, encC, no, z0, z1, z2, z3, z4, z5]
  | some d =>
    have HB : Hid ((atS S s).isSome = true) := by rw [hat]; rfl
    have HE : Hid (takeE S s = if d.k = 0 then 52 else 0) := by unfold takeE; rw [hat]; rfl
    have HG : Hid (getC S s = d) := by unfold getC; rw [hat]; rfl
    obtain ⟨n, i, rfl⟩ := Sl.nat hat
    have HA : Hid (atS S ⟨(n : Int), (i : Int)⟩ = some d) := hat
    clear hat
    simp only [encS, encC, objS, objC, no] at s0 s1 H2 ⊢
    go_enter Try.func36, Try.ntmps36
    go_wp2_with fail
    refine (ris_rb ⟨(n : Int), (i : Int)⟩ true H2.out HB.out).mono ?_
    rintro e w3 ⟨rfl, h3⟩
    clear s0 s1 H2
    have H3 : Hid (RB w w3 p F S [(w.heap.size + 1, objC no), (w.heap.size, objS ⟨(n : Int), (i : Int)⟩)]) := h3
    clear h3
    generalize w.heap.size = r at *
    obtain ⟨s0, s1⟩ := H3.out.atS (q := r) (s := ⟨(n : Int), (i : Int)⟩) (by simp)
    simp only at s0 s1
    obtain ⟨v, H, h5⟩ := H3.out.rds
    obtain ⟨g, cap, b, m, hp, hn, hi, hm, hh, -⟩ := h5.path HA.out
    have hn' : (n : Int) < (S.length : Int) := by omega
    have hi' : (i : Int) < (m : Int) := by omega
    obtain ⟨c0, c1, y0, y1, y2, y3, y4, y5, yf⟩ := hp
    have s0' := cell_al s0
    have s1' := cell_al s1
    have c0' := cell_al c0
    have c1' := cell_al c1
    have y0' := cell_al y0
    have y1' := cell_al y1
    have y2' := cell_al y2
    have y3' := cell_al y3
    have y4' := cell_al y4
    have y5' := cell_al y5
    have g5 : Hid (RB w (w3.alloc (objC d)).drew p F S [(w3.heap.size, objC d), (r + 1, objC no), (r, objS ⟨(n : Int), (i : Int)⟩)]) := (H3.out.alloc (objC d)).drew
    have HL : Hid (r + 1 < w3.heap.size) := (Array.getElem?_eq_some_iff.1 (H3.out.blk (r + 1, objC no) (by simp)).1).1
    clear h5 hh hn hi H3 yf
    simp only [objC] at g5
    go_wp2
    go_region
    clear s0 s1 c0 c1 y0 y1 y2 y3 y4 y5 s0' s1' c0' c1' y0' y1' y2' y3' y4' y5'
    generalize (w3.alloc (.cells #[.int .i64 d.k, .int .i64 d.o, .int .i64 d.r, .int .u64 d.b, .int .u64 d.g, .int .i64 d.z] 33)).drew = w5 at *
    generalize w3.heap.size = q at *
    have H5 : Hid (RB w w5 p F S [(q, objC d), (r + 1, objC no), (r, objS ⟨(n : Int), (i : Int)⟩)]) := g5
    clear g5
    obtain ⟨d0, d1, d2, d3, d4, d5⟩ := H5.out.atC (q := q) (c := d) (by simp)
    by_cases hd : d.k = 0
    · have zf := H5.out.fr (q := r + 1) (c := no) (by simp)
      obtain ⟨z0, z1, z2, z3, z4, z5⟩ := H5.out.atC (q := r + 1) (c := no) (by simp)
      simp only [no] at z0 z1 z2 z3 z4 z5
      have hd' : (d.k == 0) = true := by simp [hd]
      have HE2 : Hid (takeE S ⟨(n : Int), (i : Int)⟩ = 52) := by rw [HE.out, if_pos hd]; rfl
      have K : Hid (RLeaves w p F S (put6 w5 (r + 1) 0 no)) := (H5.out.box (q := r + 1) (d := no) (by simp) no (L' := []) (fun b hb => by cases hb)).leaves
      clear hd HE H5
      go_wp2
      refine bodyPost_ret (v := .tuple #[encC no, .int .i64 52]) ?_ rfl ⟨by unfold takeC; rw [HE2.out]; rfl, by unfold takeS; rw [HE2.out]; exact K.out⟩
      simp [results, Try.f36, go_sem, encC, no, z0, z1, z2, z3, z4, z5]
    · have hd' : (d.k == 0) = false := by simp [hd]
      have HE2 : Hid (takeE S ⟨(n : Int), (i : Int)⟩ = 0) := by rw [HE.out, if_neg hd]; rfl
      obtain ⟨s0, s1⟩ := H5.out.atS (q := r) (s := ⟨(n : Int), (i : Int)⟩) (by simp)
      simp only at s0 s1
      obtain ⟨v, H, h6⟩ := H5.out.rds
      obtain ⟨g, cap, b, m, hp, hn, hi, hm, hh, -⟩ := h6.path HA.out
      have hn' : (n : Int) < (S.length : Int) := by omega
      have hi' : (i : Int) < (m : Int) := by omega
      have k6 : Hid (RB w (put6 w5 b (i * 6) no).drew p F (setS S ⟨(n : Int), (i : Int)⟩ no) [(q, objC d), (r + 1, objC no), (r, objS ⟨(n : Int), (i : Int)⟩)]) := (H5.out.set HA.out h6 hp hh no_fits fun _ => rfl).drew
      obtain ⟨c0, c1, y0, y1, y2, y3, y4, y5, yf⟩ := hp
      clear hd HE H5 hn hi hh h6
      simp only [put6, no] at k6
      generalize S.length = N at *
      go_wp2
      go_region
      clear s0 s1 c0 c1 y0 y1 y2 y3 y4 y5 yf d0 d1 d2 d3 d4 d5
      generalize (((((((w5.setCell ⟨b, i * 6, none⟩ (.int .i64 0)).setCell ⟨b, i * 6 + 1, none⟩ (.int .i64 0)).setCell ⟨b, i * 6 + 2, none⟩ (.int .i64 0)).setCell ⟨b, i * 6 + 3, none⟩ (.int .u64 0)).setCell ⟨b, i * 6 + 4, none⟩ (.int .u64 0)).setCell ⟨b, i * 6 + 5, none⟩ (.int .i64 0))).drew = w6 at *
      have H6 : Hid (RB w w6 p F (setS S ⟨(n : Int), (i : Int)⟩ no) [(q, objC d), (r + 1, objC no), (r, objS ⟨(n : Int), (i : Int)⟩)]) := k6
      clear k6
      obtain ⟨d0, d1, d2, d3, d4, d5⟩ := H6.out.atC (q := q) (c := d) (by simp)
      have zf := H6.out.fr (q := r + 1) (c := no) (by simp)
      obtain ⟨z0, z1, z2, z3, z4, z5⟩ := H6.out.atC (q := r + 1) (c := no) (by simp)
      simp only [no] at z0 z1 z2 z3 z4 z5
      have K : Hid (RLeaves w p F (setS S ⟨(n : Int), (i : Int)⟩ no) (put6 w6 (r + 1) 0 d)) := (H6.out.box (q := r + 1) (d := no) (by simp) d (L' := []) (fun b hb => by cases hb)).leaves
      clear H6
      go_wp2
      refine bodyPost_ret (v := .tuple #[encC d, .int .i64 0]) ?_ rfl ⟨by unfold takeC; rw [HE2.out, if_pos rfl, HG.out]; rfl, by unfold takeS; rw [HE2.out, if_pos rfl]; exact K.out⟩
      simp [results, Try.f36, go_sem, encC, z0, z1, z2, z3, z4, z5]
end Go.Proofs.Ytkpoppgibempbaa

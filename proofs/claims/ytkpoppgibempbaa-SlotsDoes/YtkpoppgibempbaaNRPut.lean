/-
  What Put of the document's own nodes answers and leaves; no condition but that the numbers fit.
-/
import Derived.Test.YtkpoppgibempbaaNRGet
namespace Go.Proofs.Ytkpoppgibempbaa
open Go.RowKit Go.Deep Go.MapKept Go.Maps
set_option linter.unusedSectionVars false
variable [dCp : DecidableEq Cp] [dLim : ∀ k, Decidable (Lim k)] [dBad : ∀ k, Decidable (Bad k)] [dFit : ∀ g z, Decidable (Fit g z)] [dFine : ∀ c, Decidable (Fine c)] [dMint : ∀ c v, Decidable (MintR c v)] [dWho : ∀ x y, Decidable (Whose x y)] [dSl : DecidableEq Sl] [dLt : ∀ a b, Decidable (ltS a b)] [iSl : Inhabited Sl] [iCp : Inhabited Cp]

theorem rcheck_rb {w0 W : World} {p : Nat} {F : Nat → Prop} {S : St} {L : List (Nat × Obj)} (c : Cp) (e0 : Int) (h : RB w0 W p F S L) (hf : c.Fits) (he : checkE c = e0) :
    Calls Try.prog 49 #[encC c] W fun e w' => e = .returned (.int .i64 e0) ∧ RB w0 w' p F S L := by
  subst he
  refine (rcheck_any c W hf).mono ?_
  rintro e w' ⟨rfl, k⟩
  exact ⟨rfl, h.below k⟩
set_option maxHeartbeats 1000000 in
set_option maxRecDepth 100000 in
theorem rput_any (p : Nat) (F : Nat → Prop) (S : St) (s : Sl) (c : Cp) (w : World) (h : Rds w p F S) (hf : c.Fits) :
    Calls Try.prog 35 #[.pointer (some ⟨p, 0, none⟩), encS s, encC c] w fun e w' => e = .returned (.int .i64 (putE S s c)) ∧ RLeaves w p F (putS S s c) w' := by
  have h2 := ((RB.start h).alloc (objS s)).alloc (objC c)
  rw [World.size_alloc] at h2
  obtain ⟨s0, s1⟩ := h2.atS (q := w.heap.size) (s := s) (by simp)
  have H2 : Hid (RB w ((w.alloc (objS s)).alloc (objC c)) p F S [(w.heap.size + 1, objC c), (w.heap.size, objS s)]) := h2
  have HF : Hid c.Fits := hf
  clear h h2 hf
  cases hat : atS S s with
  | none =>
    have HB : Hid ((atS S s).isSome = false) := by rw [hat]; rfl
    have HE : Hid (putE S s c = 50) := by unfold putE; rw [hat]; rfl
    clear hat
    simp only [encS, encC, objS, objC] at s0 s1 H2 ⊢
    go_enter Try.func35, Try.ntmps35
    go_wp2_with fail
    refine (ris_rb s false H2.out HB.out).mono ?_
    rintro e w3 ⟨rfl, h3⟩
    have K : Hid _ := h3.leaves
    clear h3 s0 s1 H2
    go_wp2
    go_ret
    exact ⟨by rw [HE.out]; rfl, by unfold putS; rw [HE.out]; exact K.out⟩
  | some d =>
    have HB : Hid ((atS S s).isSome = true) := by rw [hat]; rfl
    have HE : Hid (putE S s c = if Fine c then if c.k = 0 then 1 else if d.k = 0 then 0 else 51 else 40) := by unfold putE; rw [hat]; rfl
    obtain ⟨n, i, rfl⟩ := Sl.nat hat
    have HA : Hid (atS S ⟨(n : Int), (i : Int)⟩ = some d) := hat
    clear hat
    simp only [encS, encC, objS, objC] at s0 s1 H2 ⊢
    go_enter Try.func35, Try.ntmps35
    go_wp2_with fail
    refine (ris_rb ⟨(n : Int), (i : Int)⟩ true H2.out HB.out).mono ?_
    rintro e w3 ⟨rfl, h3⟩
    clear s0 s1 H2
    have H3 : Hid (RB w w3 p F S [(w.heap.size + 1, objC c), (w.heap.size, objS ⟨(n : Int), (i : Int)⟩)]) := h3
    clear h3
    generalize w.heap.size = r at *
    obtain ⟨z0, z1, z2, z3, z4, z5⟩ := H3.out.atC (q := r + 1) (c := c) (by simp)
    by_cases hc : Fine c
    · have HE2 : Hid (putE S ⟨(n : Int), (i : Int)⟩ c = if c.k = 0 then 1 else if d.k = 0 then 0 else 51) := by rw [HE.out, if_pos hc]; rfl
      have HC : Hid (checkE c = 0) := by unfold checkE; rw [if_pos hc]; rfl
      clear HE hc
      go_wp2_with fail
      refine (rcheck_rb c 0 H3.out HF.out HC.out).mono ?_
      rintro e w4 ⟨rfl, h4⟩
      have H4 : Hid (RB w w4 p F S [(r + 1, objC c), (r, objS ⟨(n : Int), (i : Int)⟩)]) := h4
      clear h4 z0 z1 z2 z3 z4 z5 H3
      obtain ⟨z0, z1, z2, z3, z4, z5⟩ := H4.out.atC (q := r + 1) (c := c) (by simp)
      by_cases hk : c.k = 0
      · have HE : Hid (putE S ⟨(n : Int), (i : Int)⟩ c = 1) := by rw [HE2.out, if_pos hk]; rfl
        have hk' : (c.k == 0) = true := by simp [hk]
        clear hk
        go_wp2
        go_ret
        exact ⟨by rw [HE.out]; rfl, by unfold putS; rw [HE.out]; exact H4.out.leaves⟩
      · have HE3 : Hid (putE S ⟨(n : Int), (i : Int)⟩ c = if d.k = 0 then 0 else 51) := by rw [HE2.out, if_neg hk]; rfl
        have HK : Hid (c.k ≠ 0) := hk
        have hk' : (c.k == 0) = false := by simp [hk]
        clear hk HE2
        obtain ⟨s0, s1⟩ := H4.out.atS (q := r) (s := ⟨(n : Int), (i : Int)⟩) (by simp)
        simp only at s0 s1
        obtain ⟨v, H, h5⟩ := H4.out.rds
        obtain ⟨g, cap, b, m, hp, hn, hi, hm, hh, -⟩ := h5.path HA.out
        have hn' : (n : Int) < (S.length : Int) := by omega
        have hi' : (i : Int) < (m : Int) := by omega
        clear hn hi
        obtain ⟨c0, c1, y0, y1, y2, y3, y4, y5, yf⟩ := id hp
        by_cases hd : d.k = 0
        · have HE : Hid (putE S ⟨(n : Int), (i : Int)⟩ c = 0) := by rw [HE3.out, if_pos hd]; rfl
          have hd' : (d.k == 0) = true := by simp [hd]
          have hd2 : (d.k != 0) = false := by simp [hd]
          have K : Hid (RLeaves w p F (putS S ⟨(n : Int), (i : Int)⟩ c) (put6 w4 b (i * 6) c).drew.drew) := by
            unfold putS
            rw [HE.out, if_pos rfl]
            exact (H4.out.set HA.out h5 hp hh HF.out fun e => absurd e HK.out).drew.drew.leaves
          clear hd h5 hp hh HE3 H4
          generalize S.length = N at *
          go_wp2
          go_region
          go_wp2
          go_region
          go_wp2
          go_ret
          exact ⟨by rw [HE.out]; rfl, K.out⟩
        · have HE : Hid (putE S ⟨(n : Int), (i : Int)⟩ c = 51) := by rw [HE3.out, if_neg hd]; rfl
          have hd' : (d.k == 0) = false := by simp [hd]
          have hd2 : (d.k != 0) = true := by simp [hd]
          have K : Hid (RLeaves w p F (putS S ⟨(n : Int), (i : Int)⟩ c) w4.drew) := by
            unfold putS
            rw [HE.out, if_neg (by decide)]
            exact H4.out.drew.leaves
          clear hd h5 hp hh HE3 H4
          generalize S.length = N at *
          go_wp2
          go_region
          go_wp2
          go_ret
          exact ⟨by rw [HE.out]; rfl, K.out⟩
    · have HE2 : Hid (putE S ⟨(n : Int), (i : Int)⟩ c = 40) := by rw [HE.out, if_neg hc]; rfl
      have HC : Hid (checkE c = 40) := by unfold checkE; rw [if_neg hc]; rfl
      clear HE hc
      go_wp2_with fail
      refine (rcheck_rb c 40 H3.out HF.out HC.out).mono ?_
      rintro e w4 ⟨rfl, h4⟩
      have K : Hid _ := h4.leaves
      clear h4 z0 z1 z2 z3 z4 z5 H3
      go_wp2
      go_ret
      exact ⟨by rw [HE2.out]; rfl, by unfold putS; rw [HE2.out]; exact K.out⟩
end Go.Proofs.Ytkpoppgibempbaa

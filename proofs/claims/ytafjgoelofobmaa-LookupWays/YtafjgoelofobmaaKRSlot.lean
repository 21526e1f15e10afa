/-
  What Slot and Cap of the document's answer answer: as the program's; no condition but that the numbers fit.
-/
import Derived.Test.YtafjgoelofobmaaKRef
import Derived.Deep.CutRange
namespace Go.Proofs.Ytafjgoelofobmaa
open Go.RowKit Go.Deep Go.MapKept Go.Maps
set_option linter.unusedSectionVars false
variable [dCp : DecidableEq Cp] [dLim : ∀ k, Decidable (Lim k)] [dBad : ∀ k, Decidable (Bad k)] [dFit : ∀ g z, Decidable (Fit g z)] [dFine : ∀ c, Decidable (Fine c)] [dMint : ∀ c v, Decidable (MintR c v)] [dWho : ∀ x y, Decidable (Whose x y)] [dSl : DecidableEq Sl] [dLt : ∀ a b, Decidable (ltS a b)] [dIsN : ∀ S c, Decidable (isN S c)] [dGuN : ∀ a c d, Decidable (GuardN a c d)]

theorem x_drew {W : World} {q i : Nat} {v : Value} (h : W.cell? ⟨q, i, none⟩ = some v) : W.drew.cell? ⟨q, i, none⟩ = some v := h
theorem x_alloc {W : World} {q i : Nat} {v : Value} (h : W.cell? ⟨q, i, none⟩ = some v) (o : Obj) : (W.alloc o).cell? ⟨q, i, none⟩ = some v := cell_al h o
theorem rslot_arg (p : Nat) (F : Nat → Prop) (S : St) (c : Cp) (a d : Int) (w : World) (h : Rds w p F S) (hd : ¬ (1 ≤ d ∧ d ≤ 64)) :
    Calls Try.prog 11 #[.pointer (some ⟨p, 0, none⟩), encC c, .int .u64 a, .int .i64 d] w fun e w' => e = .returned (.tuple #[encS (slotR S c a d).1, .int .i64 (slotR S c a d).2]) ∧ RLeaves w p F S w' := by
  have e : slotR S c a d = (sl0, 1) := by unfold slotR; rw [if_neg hd]
  rw [e]
  obtain ⟨x1, x2, x3, x4⟩ := box2 w (objC c) (objS sl0)
  have B : Hid (RLeaves w p F S ((w.alloc (objC c)).alloc (objS sl0))) := (((RB.start h).alloc _).alloc _).leaves
  obtain ⟨s0, s1⟩ := AtS.cells (s := sl0) x2
  have sf := AtS.frozen (s := sl0) x2
  clear e x1 x2 x3 x4 h
  simp only [encC, objC, objS, sl0] at *
  by_cases h1 : d < 1
  · clear hd
    go_enter Try.func11, Try.ntmps11
    go_wp2
    refine bodyPost_ret (v := .tuple #[encS sl0, .int .i64 1]) ?_ rfl ⟨rfl, B.out⟩
    simp [results, Try.f11, go_sem, encS, sl0, s0, s1]
  · have h2 : 64 < d := by omega
    clear hd
    go_enter Try.func11, Try.ntmps11
    go_wp2
    refine bodyPost_ret (v := .tuple #[encS sl0, .int .i64 1]) ?_ rfl ⟨rfl, B.out⟩
    simp [results, Try.f11, go_sem, encS, sl0, s0, s1]
/-- What holds at each round. -/
structure Rk (S : St) (a : Nat) (R : Sl × Int) (w : World) (p : Nat) (F : Nat → Prop) (q1 q2 : Nat) (D : Nat) (c : Cp) (t d f : Nat) (W : World) : Prop where
  rb : RB w W p F S [(q1, objS sl0), (q2, objC c)]
  fits : c.Fits
  sum : t + d = D
  lt : d < f
  look : look S a f c d = R
set_option maxHeartbeats 4000000 in
set_option maxRecDepth 100000 in
theorem rslot_in (p : Nat) (F : Nat → Prop) (S : St) (c : Cp) (a D : Nat) (w : World) (h : Rds w p F S) (hf : c.Fits) (ha : a < 18446744073709551616) (hd : 1 ≤ D ∧ D ≤ 64) :
    Calls Try.prog 11 #[.pointer (some ⟨p, 0, none⟩), encC c, .int .u64 a, .int .i64 D] w fun e w' => e = .returned (.tuple #[encS (look S a 65 c D).1, .int .i64 (look S a 65 c D).2]) ∧ RLeaves w p F S w' := by
  have H : Hid (Okay S ∧ a < 18446744073709551616 ∧ D ≤ 64) := ⟨h.ok, ha, hd.2⟩
  obtain ⟨R, HR0⟩ : ∃ R, Hid (look S a 65 c D = R) := ⟨_, rfl⟩
  rw [HR0.out]
  have rb3 := (((RB.start h).alloc (objC c)).alloc (objS sl0)).alloc (objC c)
  simp only [World.size_alloc] at rb3
  have Q : Hid (w.heap.size ≤ w.heap.size + 1 ∧ w.heap.size ≤ w.heap.size + 1 + 1 ∧ w.heap.size + 1 ≠ w.heap.size + 1 + 1) := (by omega : w.heap.size ≤ w.heap.size + 1 ∧ w.heap.size ≤ w.heap.size + 1 + 1 ∧ w.heap.size + 1 ≠ w.heap.size + 1 + 1)
  have K : Hid (Rk S a R w p F (w.heap.size + 1) (w.heap.size + 1 + 1) D c 0 D 65 (((w.alloc (objC c)).alloc (objS sl0)).alloc (objC c))) := ⟨rb3.fewer fun b hb => by simp at hb ⊢; rcases hb with rfl | rfl <;> simp, hf, by omega, by omega, HR0.out⟩
  have hd1 : (1 : Int) ≤ (D : Int) := by omega
  have hd2 : (D : Int) ≤ 64 := by omega
  clear h hf ha HR0 hd rb3
  simp only [encC, objC, objS, sl0] at *
  go_enter Try.func11, Try.ntmps11
  go_wp2_with fail
  generalize ((w.alloc (.cells #[.int .i64 c.k, .int .i64 c.o, .int .i64 c.r, .int .u64 c.b, .int .u64 c.g, .int .i64 c.z] 28)).alloc (.cells #[.int .i64 0, .int .i64 0] 36)).alloc (.cells #[.int .i64 c.k, .int .i64 c.o, .int .i64 c.r, .int .u64 c.b, .int .u64 c.g, .int .i64 c.z] 28) = w1 at *
  generalize w.heap.size + 1 + 1 = q2 at *
  generalize w.heap.size + 1 = q1 at *
  go_loopw [11] (fun t wr => ∃ (c : Cp) (tt d f : Nat), t = .int .i64 tt ∧ Rk S a R w p F q1 q2 D c tt d f wr) (fun t _ => D - (intOf t).toNat)
  case atStart => exact ⟨c, 0, D, 65, rfl, K.out⟩
  case round =>
    clear K
    obtain ⟨c', t, d, f, rfl, hl⟩ := hrel
    have L : Hid (Rk S a R w p F q1 q2 D c' t d f wr) := hl
    clear hl
    obtain ⟨z0, z1, z2, z3, z4, z5⟩ := L.out.rb.atC (q := q2) (c := c') (by simp)
    go_wp2_with fail
    refine (node_any p F S c' wr L.out.rb.rds L.out.fits).mono ?_
    rintro e w2 ⟨rfl, l2⟩
    obtain ⟨f, rfl⟩ : ∃ g, f = g + 1 := ⟨f - 1, by have := L.out.lt; omega⟩
    have HL : Hid ((if nameE S a c' d = 0 then if restN S c' d = 0 then (slotN S a c' d, 0) else if (getC S (slotN S a c' d)).k = 2 then look S a f (getC S (slotN S a c' d)) (restN S c' d) else (sl0, 62) else (sl0, nameE S a c' d)) = R) := by
      have := L.out.look
      unfold look at this
      exact this
    have RB2 : Hid (RB w w2 p F S [(q1, objS sl0), (q2, objC c')]) := L.out.rb.then l2
    have C : Hid (c'.Fits ∧ t + d = D ∧ d < f + 1) := ⟨L.out.fits, L.out.sum, L.out.lt⟩
    clear z0 z1 z2 z3 z4 z5 l2 L
    obtain ⟨z0, z1, z2, z3, z4, z5⟩ := RB2.out.atC (q := q2) (c := c') (by simp)
    obtain ⟨s0, s1⟩ := RB2.out.atS (q := q1) (s := sl0) (by simp)
    have sf := AtS.frozen (show AtS w2 q1 sl0 from (RB2.out.blk (q1, objS sl0) (by simp)).1)
    simp only [sl0] at s0 s1
    by_cases hN : isN S c'
    · have e1 : sizeC S c' = bitsN S c' := by unfold sizeC; rw [if_pos hN]
      have e2 : decide (isN S c') = true := by simp [hN]
      rw [e1, e2]
      obtain ⟨g1, g2, g3⟩ := fine_guard hN.2.1
      obtain ⟨r1, r2, r3, r4, r5, r6⟩ := node_row H.out.1 hN.2.2
      have hb1 : 1 ≤ bitsN S c' := r3
      have hb2 : bitsN S c' ≤ 8 := r4
      obtain ⟨Z, hZ⟩ := Int.eq_ofNat_of_zero_le g1
      have hZt : c'.z.toNat = Z := by omega
      have HE2 : Hid (nameE S a c' d = if GuardN a c' d then if bitsN S c' ≤ d - Z then 0 else 62 else 61) := by
        have e : nameE S a c' d = if GuardN a c' d then if bitsN S c' ≤ d - c'.z.toNat then 0 else 62 else 61 := by unfold nameE; rw [if_pos hN]
        rw [hZt] at e
        exact e
      have HZ : Hid (c'.z.toNat = Z ∧ restN S c' d = d - Z - bitsN S c' ∧ slotN S a c' d = ⟨c'.o, ((fieldN a (d - Z - bitsN S c') (bitsN S c') : Nat) : Int)⟩ ∧ c'.z = (Z : Int)) :=
        ⟨hZt, by unfold restN; rw [hZt], by unfold slotN restN; rw [hZt], hZ⟩
      have HS : Hid (nameE S a c' d = 0 → (atS S (slotN S a c' d)).isSome = true) := fun h0 => name_at H.out.1 h0
      clear e1 e2 g1 g3 r1 r2 r3 r4 r5 r6 hN hZt
      rw [hZ] at z5
      have cs := C.out.2.1
      have CS : Hid (t + d = D) := cs
      have hZ64 : (Z : Int) ≤ 64 := by omega
      have ht64 : (t : Int) ≤ 64 := by omega
      clear hZ g2
      generalize bitsN S c' = n at *
      clear cs
      obtain ⟨tz, HTZ⟩ : ∃ tz, Hid (tz = t + Z) := ⟨_, rfl⟩
      have hw : IntKind.i64.wrap (tz : Int) = (tz : Int) := by rw [IntKind.wrap_i64]; have := HTZ.out; omega
      have hw' : (t : Int) + (Z : Int) = (tz : Int) := by have := HTZ.out; omega
      by_cases hz : Z ≤ d
      · have bc := fun W => bits_any a D t Z W H.out.2.1 H.out.2.2 (by have := CS.out; omega)
        rw [show D - t - Z = d - Z by have := CS.out; omega] at bc
        have h1 : (tz : Int) ≤ (D : Int) := by have := CS.out; have := HTZ.out; omega
        have h1d : decide (D < tz) = false := by simp; omega
        have HZd : Hid (Z ≤ d) := hz
        clear hz
        by_cases hg : ((fieldN a (d - Z) Z : Nat) : Int) = c'.g
        · have HG : Hid (GuardN a c' d) := by
            unfold GuardN
            rw [HZ.out.1]
            exact ⟨HZd.out, hg⟩
          rw [hg] at bc
          have hne : (c'.g != c'.g) = false := by simp
          clear hg
          go_wp2
          go_quiet ((go_at_call 32; refine Calls.quiet_of_same (bc _)))
          clear bc
          have RB3 : Hid (RB w (w2.drewN nq) p F S [(q1, objS sl0), (q2, objC c')]) := RB2.out.drewN _
          clear RB2 z0 z1 z2 z3 z4 z5 s0 s1 sf hw
          generalize w2.drewN nq = w3 at *
          obtain ⟨z0, z1, z2, z3, z4, z5⟩ := RB3.out.atC (q := q2) (c := c') (by simp)
          obtain ⟨s0, s1⟩ := RB3.out.atS (q := q1) (s := sl0) (by simp)
          have sf := AtS.frozen (show AtS w3 q1 sl0 from (RB3.out.blk (q1, objS sl0) (by simp)).1)
          simp only [sl0] at s0 s1
          rw [HZ.out.2.2.2] at z5
          obtain ⟨tn, HTN⟩ : ∃ tn, Hid (tn = tz + n) := ⟨_, rfl⟩
          have hw2 : (tz : Int) + (n : Int) = (tn : Int) := by have := HTN.out; omega
          by_cases hn : n ≤ d - Z
          · have h2 : (tn : Int) ≤ (D : Int) := by have := CS.out; have := HTZ.out; have := HTN.out; have := HZd.out; omega
            have bc := fun W => bits_any a D tz n W H.out.2.1 H.out.2.2 (by omega)
            rw [show D - tz - n = d - Z - n by have := CS.out; have := HTZ.out; omega] at bc
            have en0 : nameE S a c' d = 0 := by rw [HE2.out, if_pos HG.out, if_pos hn]
            have HL1 := HL.out
            rw [if_pos en0] at HL1
            obtain ⟨ss, HSS⟩ : ∃ ss, Hid (slotN S a c' d = ss) := ⟨_, rfl⟩
            have HSI : Hid (ss.n = c'.o ∧ ss.i = ((fieldN a (d - Z - n) n : Nat) : Int)) := by rw [← HSS.out, HZ.out.2.2.1]; exact ⟨rfl, rfl⟩
            rw [HSS.out, HZ.out.2.1] at HL1
            have SF : Hid (0 ≤ ss.i ∧ ss.i < 256) := by
              rw [← HSS.out]
              have := sl_fits (HS.out en0) H.out.1
              exact ⟨this.2.2.1, this.2.2.2⟩
            obtain ⟨sf0, sf1⟩ := SF.out
            rw [← HSI.out.2] at bc
            have HNd : Hid (n ≤ d - Z) := hn
            clear hn en0 HL HS HE2 HG HZ
            have T1 : Hid (RB w (w3.alloc (.cells #[.int .i64 c'.o, .int .i64 (IntKind.i64.wrap ss.i)] 36)).drew p F S [(w3.heap.size, objS ss), (q1, objS sl0), (q2, objC c')]) := by
              have e : objS ss = .cells #[.int .i64 c'.o, .int .i64 (IntKind.i64.wrap ss.i)] 36 := by
                unfold objS
                rw [HSI.out.1, show IntKind.i64.wrap ss.i = ss.i by rw [IntKind.wrap_i64]; omega]
              rw [← e]
              exact (RB3.out.alloc (objS ss)).drew
            go_wp2
            go_cut [14] from 31 to 71 (fun u wx => ∃ q, u = .pointer (some ⟨q, 0, none⟩) ∧ RB w wx p F S [(q, objS ss), (q1, objS sl0), (q2, objC c')])
            case first =>
              have hS : w3.cell? ⟨q2, 1, none⟩ = some (.int .i64 c'.o) := z1
              clear z0 z1 z2 z3 z4 z5 s0 s1 sf
              go_region_held3 (fun W => W.cell? ⟨q2, 1, none⟩ = some (.int .i64 c'.o)) ((first | with_reducible assumption | with_reducible exact x_drew hS | with_reducible exact x_drew (x_drew hS) | with_reducible exact x_drew (x_alloc hS _) | with_reducible exact x_drew (x_alloc (x_drew hS) _) | with_reducible exact x_drew (x_drew (x_alloc hS _)))) ((go_at_call 32; refine (bc _).mono ?_; rintro e w' ⟨rfl, rfl⟩))
              all_goals go_wp2_with fail
              all_goals go_meet
              all_goals exact ⟨_, rfl, T1.out⟩
            case rest =>
              obtain ⟨q, rfl, h4⟩ := hcut
              have RB4 : Hid (RB w wc p F S [(q, objS ss), (q1, objS sl0), (q2, objC c')]) := h4
              clear h4 T1 RB3 z0 z1 z2 z3 z4 z5 s0 s1 sf
              obtain ⟨y0, y1⟩ := RB4.out.atS (q := q) (s := ss) (by simp)
              obtain ⟨s0, s1⟩ := RB4.out.atS (q := q1) (s := sl0) (by simp)
              have sf := AtS.frozen (show AtS wc q1 sl0 from (RB4.out.blk (q1, objS sl0) (by simp)).1)
              simp only [sl0] at s0 s1
              obtain ⟨rd, HRD⟩ : ∃ rd, Hid (rd = d - Z - n) := ⟨_, rfl⟩
              rw [← HRD.out] at HL1
              have HSum : Hid (tn + rd = D ∧ rd < d) := by
                have := CS.out; have := HTZ.out; have := HTN.out; have := HZd.out; have := HRD.out; have := HNd.out
                exact (by omega : tn + rd = D ∧ rd < d)
              by_cases hr : rd = 0
              · rw [if_pos hr] at HL1
                subst HL1
                have heq : (tn : Int) = (D : Int) := by have := HSum.out; omega
                have hb : ((tn : Int) == (D : Int)) = true := by simp [heq]
                clear hr heq
                go_wp2_with fail
                refine bodyPost_ret (v := .tuple #[encS ss, .int .i64 0]) ?_ rfl ⟨rfl, RB4.out.two q1 Q.out.1 _ _⟩
                simp [results, Try.f11, go_sem, encS, s0, s1]
              · rw [if_neg hr] at HL1
                have hb : ((tn : Int) == (D : Int)) = false := by have := HSum.out; simp; omega
                clear hr
                go_wp2_with fail
                refine (rget_any p F S ss wc RB4.out.rds).mono ?_
                rintro e w5 ⟨rfl, l5⟩
                have cf : Hid ((getC S ss).Fits) := getC_fits H.out.1 ss
                generalize getC S ss = gc at *
                generalize getE S ss = ge at *
                have RB6 : Hid (RB w (w5.alloc (objC gc)) p F S [(w5.heap.size, objC gc), (q, objS ss), (q1, objS sl0), (q2, objC c')]) := (RB4.out.then l5).alloc (objC gc)
                clear y0 y1 s0 s1 sf RB4 l5
                obtain ⟨g0, g1, g2, g3, g4, g5⟩ := RB6.out.atC (q := w5.heap.size) (c := gc) (by simp)
                obtain ⟨z0, z1, z2, z3, z4, z5⟩ := RB6.out.atC (q := q2) (c := c') (by simp)
                have zf := AtC.frozen (show AtC (w5.alloc (objC gc)) q2 c' from (RB6.out.blk (q2, objC c') (by simp)).1)
                obtain ⟨s0, s1⟩ := RB6.out.atS (q := q1) (s := sl0) (by simp)
                have sf := AtS.frozen (show AtS (w5.alloc (objC gc)) q1 sl0 from (RB6.out.blk (q1, objS sl0) (by simp)).1)
                simp only [sl0] at s0 s1
                simp only [encC]
                simp only [objC] at g0 g1 g2 g3 g4 g5 z0 z1 z2 z3 z4 z5 zf s0 s1 sf
                have RB7 : Hid (RB w (w5.alloc (.cells #[.int .i64 gc.k, .int .i64 gc.o, .int .i64 gc.r, .int .u64 gc.b, .int .u64 gc.g, .int .i64 gc.z] 28)) p F S [(w5.heap.size, objC gc), (q, objS ss), (q1, objS sl0), (q2, objC c')]) := RB6
                clear RB6
                by_cases hk : gc.k = 2
                · have hk' : (gc.k != 2) = false := by simp [hk]
                  rw [if_pos hk] at HL1
                  have HL2 : Hid (look S a f gc rd = R) := HL1
                  clear hk HL1
                  have K8 : Hid (RB w (six (w5.alloc (.cells #[.int .i64 gc.k, .int .i64 gc.o, .int .i64 gc.r, .int .u64 gc.b, .int .u64 gc.g, .int .i64 gc.z] 28)) q2 gc) p F S [(q1, objS sl0), (q2, objC gc)]) := RB7.out.six (q := q2) (d := c') (by simp) gc fun b hb => by
                    have hq := Q.out.2.2
                    rcases List.mem_cons.1 hb with rfl | hb
                    · exact .inr ⟨by simp, hq⟩
                    · rcases List.mem_cons.1 hb with rfl | hb
                      · exact .inl rfl
                      · cases hb
                  unfold six at K8
                  go_wp2
                  go_roundw
                  case rel => exact ⟨gc, tn, rd, f, rfl, K8.out, cf.out, HSum.out.1, by have := C.out; have := HSum.out; omega, HL2.out⟩
                  case measure => simp [intOf]; have := HSum.out; have := CS.out; omega
                · have hk' : (gc.k != 2) = true := by simp [hk]
                  rw [if_neg hk] at HL1
                  subst HL1
                  clear hk
                  go_wp2
                  refine bodyPost_ret (v := .tuple #[encS sl0, .int .i64 62]) ?_ rfl ⟨rfl, RB7.out.two q1 Q.out.1 _ _⟩
                  simp [results, Try.f11, go_sem, encS, sl0, s0, s1]
          · have en0 : nameE S a c' d = 62 := by rw [HE2.out, if_pos HG.out, if_neg hn]
            have hR := HL.out
            rw [en0, if_neg (by decide)] at hR
            subst hR
            have h2 : (D : Int) < (tn : Int) := by have := CS.out; have := HTZ.out; have := HTN.out; have := HZd.out; omega
            clear hn en0
            go_wp2
            refine bodyPost_ret (v := .tuple #[encS sl0, .int .i64 62]) ?_ rfl ⟨rfl, RB3.out.two q1 Q.out.1 _ _⟩
            simp [results, Try.f11, go_sem, encS, sl0, s0, s1]
        · have en0 : nameE S a c' d = 61 := by
            rw [HE2.out, if_neg]
            unfold GuardN
            rw [HZ.out.1]
            exact fun h => hg h.2
          have hR := HL.out
          rw [en0, if_neg (by decide)] at hR
          subst hR
          have hne : (((fieldN a (d - Z) Z : Nat) : Int) != c'.g) = true := by simp [hg]
          clear hg en0
          generalize ((fieldN a (d - Z) Z : Nat) : Int) = fi at *
          go_wp2
          go_quiet ((go_at_call 32; refine Calls.quiet_of_same (bc _)))
          have RB3 : Hid (RB w (w2.drewN nq) p F S [(q1, objS sl0), (q2, objC c')]) := RB2.out.drewN _
          go_wp2
          refine bodyPost_ret (v := .tuple #[encS sl0, .int .i64 61]) ?_ rfl ⟨rfl, RB3.out.two q1 Q.out.1 _ _⟩
          simp [results, Try.f11, go_sem, encS, sl0, s0, s1]
      · have en0 : nameE S a c' d = 61 := by
          rw [HE2.out, if_neg]
          unfold GuardN
          rw [HZ.out.1]
          exact fun h => hz h.1
        have hR := HL.out
        rw [en0, if_neg (by decide)] at hR
        subst hR
        have h1 : (D : Int) < (tz : Int) := by have := CS.out; have := HTZ.out; omega
        have h1d : decide (D < tz) = true := by simp; omega
        clear hz en0
        go_wp2
        go_quiet (fail)
        have RB3 : Hid (RB w (w2.drewN nq) p F S [(q1, objS sl0), (q2, objC c')]) := RB2.out.drewN _
        go_wp2
        refine bodyPost_ret (v := .tuple #[encS sl0, .int .i64 61]) ?_ rfl ⟨rfl, RB3.out.two q1 Q.out.1 _ _⟩
        simp [results, Try.f11, go_sem, encS, sl0, s0, s1]
    · have e1 : sizeC S c' = 0 := by unfold sizeC; rw [if_neg hN]
      have e2 : decide (isN S c') = false := by simp [hN]
      rw [e1, e2]
      have hR := HL.out
      rw [show nameE S a c' d = 60 by unfold nameE; rw [if_neg hN], if_neg (by decide)] at hR
      subst hR
      clear e1 e2 hN HL
      go_wp2
      refine bodyPost_ret (v := .tuple #[encS sl0, .int .i64 60]) ?_ rfl ⟨rfl, RB2.out.two q1 Q.out.1 _ _⟩
      simp [results, Try.f11, go_sem, encS, sl0, s0, s1]
theorem rslot_any (p : Nat) (F : Nat → Prop) (S : St) (c : Cp) (a d : Int) (w : World) (h : Rds w p F S) (hf : c.Fits) (ha : 0 ≤ a ∧ a ≤ 18446744073709551615) :
    Calls Try.prog 11 #[.pointer (some ⟨p, 0, none⟩), encC c, .int .u64 a, .int .i64 d] w fun e w' => e = .returned (.tuple #[encS (slotR S c a d).1, .int .i64 (slotR S c a d).2]) ∧ RLeaves w p F S w' := by
  by_cases hd : 1 ≤ d ∧ d ≤ 64
  · obtain ⟨A, rfl⟩ := Int.eq_ofNat_of_zero_le ha.1
    obtain ⟨D, rfl⟩ := Int.eq_ofNat_of_zero_le (show 0 ≤ d by omega)
    have e : slotR S c (A : Int) (D : Int) = look S A 65 c D := by unfold slotR; rw [if_pos hd]; simp
    rw [e]
    exact rslot_in p F S c A D w h hf (by omega) (by omega)
  · exact rslot_arg p F S c a d w h hd

/-! ### Cap -/
set_option maxHeartbeats 1000000 in
theorem rcap_any (p : Nat) (F : Nat → Prop) (S : St) (c : Cp) (a d : Int) (w : World) (h : Rds w p F S) (hf : c.Fits) (ha : 0 ≤ a ∧ a ≤ 18446744073709551615) :
    Calls Try.prog 13 #[.pointer (some ⟨p, 0, none⟩), encC c, .int .u64 a, .int .i64 d] w fun e w' => e = .returned (.tuple #[encC (capR S c a d).1, .int .i64 (capR S c a d).2]) ∧ RLeaves w p F S w' := by
  have OK : Hid (Okay S) := h.ok
  have h2 := ((RB.start h).alloc (objC c)).alloc (objC no)
  rw [World.size_alloc] at h2
  have H2 : Hid (RB w ((w.alloc (objC c)).alloc (objC no)) p F S [(w.heap.size + 1, objC no)]) := h2.fewer fun b hb => by simp at hb ⊢; simp [hb]
  clear h2
  have sc := fun W hW => rslot_any p F S c a d W hW hf ha
  obtain ⟨R, HR0⟩ : ∃ R, Hid (capR S c a d = R) := ⟨_, rfl⟩
  rw [HR0.out]
  have HQ : Hid ((if (slotR S c a d).2 = 0 then (getC S (slotR S c a d).1, getE S (slotR S c a d).1) else (no, (slotR S c a d).2)) = R) := HR0.out
  generalize slotR S c a d = T at *
  obtain ⟨ts, te⟩ := T
  simp only at HQ sc
  clear HR0
  clear h hf
  simp only [encC, objC] at *
  have H3 : Hid (RB w ((w.alloc (.cells #[.int .i64 c.k, .int .i64 c.o, .int .i64 c.r, .int .u64 c.b, .int .u64 c.g, .int .i64 c.z] 28)).alloc (.cells #[.int .i64 0, .int .i64 0, .int .i64 0, .int .u64 0, .int .u64 0, .int .i64 0] 28)) p F S [(w.heap.size + 1, objC no)]) := H2
  clear H2
  have Q : Hid (w.heap.size ≤ w.heap.size + 1) := Nat.le_succ _
  go_enter Try.func13, Try.ntmps13
  go_wp2_with fail
  refine (sc _ H3.out.rds).mono ?_
  rintro e w2 ⟨rfl, l2⟩
  have H4 : Hid (RB w (w2.alloc (objS ts)) p F S [(w2.heap.size, objS ts), (w.heap.size + 1, objC no)]) := (H3.out.then l2).alloc (objS ts)
  clear sc l2 H3
  generalize w.heap.size + 1 = q1 at *
  obtain ⟨s0, s1⟩ := H4.out.atS (q := w2.heap.size) (s := ts) (by simp)
  obtain ⟨z0, z1, z2, z3, z4, z5⟩ := H4.out.atC (q := q1) (c := no) (by simp)
  have zf := AtC.frozen (show AtC (w2.alloc (objS ts)) q1 no from (H4.out.blk (q1, objC no) (by simp)).1)
  simp only [no] at z0 z1 z2 z3 z4 z5
  simp only [encS]
  simp only [objS] at s0 s1 z0 z1 z2 z3 z4 z5 zf
  by_cases he : te = 0
  · subst he
    have HQ2 : Hid (R.1 = getC S ts ∧ R.2 = getE S ts) := by
      have := HQ.out
      rw [if_pos rfl] at this
      exact ⟨by rw [← this], by rw [← this]⟩
    go_wp2_with fail
    refine (rget_any p F S ts _ H4.out.rds).mono ?_
    rintro e w3 ⟨rfl, l3⟩
    have H5 : Hid (RB w w3 p F S [(w2.heap.size, objS ts), (q1, objC no)]) := H4.out.then l3
    clear s0 s1 z0 z1 z2 z3 z4 z5 zf l3 H4
    obtain ⟨z0, z1, z2, z3, z4, z5⟩ := H5.out.atC (q := q1) (c := no) (by simp)
    have zf := AtC.frozen (show AtC w3 q1 no from (H5.out.blk (q1, objC no) (by simp)).1)
    simp only [no] at z0 z1 z2 z3 z4 z5
    generalize getC S ts = gc at *
    generalize getE S ts = ge at *
    have K6 : Hid (RLeaves w p F S (six w3 q1 gc)) := (H5.out.six (q := q1) (d := no) (by simp) gc (L' := []) fun b hb => by cases hb).leaves
    unfold six at K6
    simp only [encC] at *
    go_wp2
    refine bodyPost_ret (v := .tuple #[encC gc, .int .i64 ge]) ?_ rfl ⟨by rw [HQ2.out.1, HQ2.out.2]; rfl, K6.out⟩
    simp [results, Try.f13, go_sem, encC, z0, z1, z2, z3, z4, z5]
  · have HQ2 := HQ.out
    rw [if_neg he] at HQ2
    subst HQ2
    have he' : (te != 0) = true := by simp [he]
    clear he
    have K6 : Hid (RLeaves w p F S (six (w2.alloc (objS ts)) q1 no)) := (H4.out.six (q := q1) (d := no) (by simp) no (L' := []) fun b hb => by cases hb).leaves
    unfold six at K6
    simp only [objS, no] at K6
    go_wp2
    refine bodyPost_ret (v := .tuple #[encC no, .int .i64 te]) ?_ rfl ⟨rfl, K6.out⟩
    simp [results, Try.f13, go_sem, encC, no, z0, z1, z2, z3, z4, z5]
end Go.Proofs.Ytafjgoelofobmaa

/-
  What named of package lookup answers: the slot of a node that the next bits name; no condition but that the numbers fit.
-/
import Derived.Test.YtafjgoelofobmabKTake
namespace Go.Proofs.Ytafjgoelofobmab
open Go.RowKit Go.Deep Go.MapKept Go.Maps
set_option linter.unusedSectionVars false
variable [dCp : DecidableEq Cp] [dLim : ∀ k, Decidable (Lim k)] [dBad : ∀ k, Decidable (Bad k)] [dFit : ∀ g z, Decidable (Fit g z)] [dFine : ∀ c, Decidable (Fine c)] [dMint : ∀ c v, Decidable (MintR c v)] [dWho : ∀ x y, Decidable (Whose x y)] [dSl : DecidableEq Sl] [dLt : ∀ a b, Decidable (ltS a b)] [dIsN : ∀ S c, Decidable (isN S c)] [dGuN : ∀ a c d, Decidable (GuardN a c d)]

section
variable {w w' u : World} {q x : Nat} {F : Nat → Prop}
theorem AtC.turn {c : Cp} (h : AtC w x c) (t : Turn F w w') (ne : ¬ F x) : AtC w' x c := (t.block _ h.lt ne).trans h
theorem AtS.turn {s : Sl} (h : AtS w x s) (t : Turn F w w') (ne : ¬ F x) : AtS w' x s := (t.block _ h.lt ne).trans h
theorem AtA.turn {a d : Int} (h : AtA w x a d) (t : Turn F w w') (ne : ¬ F x) : AtA w' x a d := (t.block _ h.lt ne).trans h
theorem Turn.put (t : Turn F w u) (hx : w.heap.size ≤ x) (i : Nat) (v : Value) : Turn F w (u.setCell ⟨x, i, none⟩ v) :=
  t.trans (Turn.setCell (One x) u ⟨x, i, none⟩ v rfl) fun y hy => .inr (by unfold One at hy; omega)
theorem Turn.low {q : Nat} (t : Turn (One q) w u) (h : Below q w' w) (hq : q ≤ w.heap.size) : Below q w' u := t.below h (fun x hx => by unfold One at hx; omega) hq
end
theorem AtS.frozen {w : World} {q : Nat} {s : Sl} (h : AtS w q s) (j : Nat) : w.frozen? ⟨q, j, none⟩ = false := by
  unfold AtS objS at h
  simp [World.frozen?, h]
theorem AtA.put {w : World} {q x : Nat} {a d : Int} (h : AtA w q a d) (ne : q ≠ x) (i : Nat) (v : Value) : AtA (w.setCell ⟨x, i, none⟩ v) q a d := (blk_setCell_other _ _ _ _ ne).trans h
theorem field_nat (a d b : Nat) (hb : b ≤ d) : fieldI (a : Int) ((d : Int) - (b : Int)) (b : Int) = ((fieldN a (d - b) b : Nat) : Int) := by
  unfold fieldI
  simp only [Int.toNat_natCast]
  rw [show ((d : Int) - (b : Int)).toNat = d - b by omega]
set_option maxHeartbeats 1000000 in
set_option maxRecDepth 100000 in
theorem named_any (p q : Nat) (F : Nat → Prop) (S : St) (c : Cp) (a d : Nat) (w : World) (h : Nds w p F S) (hA : AtA w q a d) (hq : ¬ F q) (hf : c.Fits) (ha : a < 18446744073709551616) (hd : d ≤ 64) :
    Calls Try.prog 14 #[.pointer (some ⟨p, 0, none⟩), encC c, .func (.func 13) #[.pointer (some ⟨q, 0, none⟩)] #[]] w fun e w' => e = .returned (.tuple #[encS (nameS S a c d), .int .i64 (nameE S a c d)]) ∧ Turn (One q) w w' ∧ (nameE S a c d = 0 → AtA w' q a (restN S c d)) := by
  have H : Hid (Nds w p F S ∧ c.Fits ∧ ¬ F q) := ⟨h, hf, hq⟩
  have OK := h.ok
  have hql := hA.lt
  obtain ⟨x1, x2, x3, x4⟩ := box2 w (objC c) (objS sl0)
  have sc := fun W hW => sizeOf_any p F S c W hW hf
  obtain ⟨es, HN⟩ : ∃ es, Hid (es = nameS S a c d) := ⟨_, rfl⟩
  obtain ⟨en, HE⟩ : ∃ en, Hid (en = nameE S a c d) := ⟨_, rfl⟩
  rw [← HN.out, ← HE.out]
  have z2 : ∀ W, AtS W (w.heap.size + 1) sl0 → W.cell? ⟨w.heap.size + 1, 0, none⟩ = some (.int .i64 0) ∧ W.cell? ⟨w.heap.size + 1, 1, none⟩ = some (.int .i64 0) := fun W hW => hW.cells
  have HA : Hid (AtA ((w.alloc (objC c)).alloc (objS sl0)) q a d) := hA.below x4
  clear h hq hA
  simp only [encC, objC, objS, sl0] at *
  go_enter Try.func14, Try.ntmps14
  go_wp2_with fail
  refine (sc _ (H.out.1.below x4)).mono ?_
  rintro e w3 ⟨rfl, b3⟩
  have a1 : AtC w3 w.heap.size c := (b3.block _ (by rw [x3]; omega)).trans x1
  have a2 : AtS w3 (w.heap.size + 1) sl0 := (b3.block _ (by rw [x3]; omega)).trans x2
  have B : Hid (Below w.heap.size w w3) := Below.then x4 b3 x4.size
  have A3 : Hid (AtA w3 q a d) := HA.out.below b3
  clear x1 x2 x3 x4 b3 HA sc
  have T3 : Hid (Turn (One q) w w3) := Turn.of B.out _
  obtain ⟨c0, c1, c2, c3, c4, c5⟩ := a1.cells
  obtain ⟨s0, s1⟩ := z2 _ a2
  have sf := a2.frozen
  have A1 : Hid (AtC w3 w.heap.size c) := a1
  have A2 : Hid (AtS w3 (w.heap.size + 1) sl0) := a2
  clear a1 a2
  generalize hr0 : w.heap.size = r at *
  have HR : Hid (w.heap.size = r) := hr0
  clear hr0
  by_cases hN : isN S c
  · have e1 : sizeC S c = bitsN S c := by unfold sizeC; rw [if_pos hN]
    have e2 : decide (isN S c) = true := by simp [hN]
    rw [e1, e2]
    obtain ⟨g1, g2, g3⟩ := fine_guard hN.2.1
    obtain ⟨r1, r2, r3, r4, r5, r6⟩ := node_row OK hN.2.2
    have hb1 : 1 ≤ bitsN S c := r3
    have hb2 : bitsN S c ≤ 8 := r4
    obtain ⟨Z, hZ⟩ := Int.eq_ofNat_of_zero_le g1
    have HE2 : Hid (en = if GuardN a c d then if bitsN S c ≤ d - c.z.toNat then 0 else 62 else 61) := by
      have := HE.out
      unfold nameE at this
      rw [if_pos hN] at this
      exact this
    have HNs : Hid (es = if en = 0 then slotN S a c d else sl0) := by rw [HE.out]; exact HN.out
    have HZ : Hid (c.z.toNat = Z ∧ restN S c d = d - Z - bitsN S c ∧ slotN S a c d = ⟨c.o, ((fieldN a (d - Z - bitsN S c) (bitsN S c) : Nat) : Int)⟩) := by
      have e : c.z.toNat = Z := by omega
      exact ⟨e, by unfold restN; rw [e], by unfold slotN restN; rw [e]⟩
    clear e1 e2 g1 g3 r1 r2 r3 r4 r5 r6 HE HN
    rw [hZ] at c5
    generalize bitsN S c = n at *
    by_cases hz : Z ≤ d
    · have tc := fun W hW => take_yes q a d Z W hW (by omega) (by omega) (by omega) (by omega) (by omega)
      rw [field_nat a d Z hz] at tc
      go_wp2_with fail
      refine (tc _ A3.out).mono ?_
      rintro e w4 ⟨rfl, k4, t4⟩
      clear tc
      have A4 : Hid (AtA w4 q a ((d : Int) - (Z : Int))) := k4
      have T4 : Hid (Turn (One q) w w4) := T3.out.trans t4 fun x hx => .inl hx
      have a1 := A1.out.turn t4 (by unfold One; omega)
      have a2 := A2.out.turn t4 (by unfold One; omega)
      clear c0 c1 c2 c3 c4 c5 s0 s1 sf A1 A2 A3 T3 t4 k4 B
      obtain ⟨c0, c1, c2, c3, c4, c5⟩ := a1.cells
      obtain ⟨s0, s1⟩ := z2 _ a2
      have sf := a2.frozen
      have A1 : Hid (AtC w4 r c) := a1
      have A2 : Hid (AtS w4 (r + 1) sl0) := a2
      clear a1 a2
      by_cases hg : ((fieldN a (d - Z) Z : Nat) : Int) = c.g
      · have HG : Hid (GuardN a c d) := by
          unfold GuardN
          rw [HZ.out.1]
          exact ⟨hz, hg⟩
        rw [hg]
        have hne : (c.g != c.g) = false := by simp
        clear hg
        by_cases hn : n ≤ d - Z
        · have en0 : en = 0 := by rw [HE2.out, if_pos HG.out, HZ.out.1, if_pos hn]
          have es0 : es = ⟨c.o, ((fieldN a (d - Z - n) n : Nat) : Int)⟩ := by rw [HNs.out, if_pos en0]; exact HZ.out.2.2
          subst en0
          have tc := fun W hW => take_yes q a ((d : Int) - (Z : Int)) n W hW (by omega) (by omega) (by omega) (by omega) (by omega)
          have ed : (d : Int) - (Z : Int) = ((d - Z : Nat) : Int) := by omega
          rw [ed] at tc A4
          rw [field_nat a (d - Z) n hn] at tc
          have hlt : ((fieldN a (d - Z - n) n : Nat) : Int) < 256 := by
            have := fieldN_lt a (d - Z - n) n
            have : 2 ^ n ≤ 2 ^ 8 := Nat.pow_le_pow_right (by omega) hb2
            omega
          have h0 : (0 : Int) ≤ ((fieldN a (d - Z - n) n : Nat) : Int) := by omega
          go_wp2_with fail
          refine (tc _ A4.out).mono ?_
          rintro e w5 ⟨rfl, k5, t5⟩
          clear tc
          have T5 : Hid (Turn (One q) w w5) := T4.out.trans t5 fun x hx => .inl hx
          have A5 : Hid (AtA w5 q a (((d - Z : Nat) : Int) - (n : Int))) := k5
          have a1 := A1.out.turn t5 (by unfold One; omega)
          have a2 := A2.out.turn t5 (by unfold One; omega)
          clear c0 c1 c2 c3 c4 c5 s0 s1 sf A1 A2 A4 T4 t5 k5
          obtain ⟨c0, c1, c2, c3, c4, c5⟩ := a1.cells
          obtain ⟨s0, s1⟩ := z2 _ a2
          have sf := a2.frozen
          clear a1 a2
          have ES : Hid (es = ⟨c.o, ((fieldN a (d - Z - n) n : Nat) : Int)⟩) := es0
          clear es0
          generalize ((fieldN a (d - Z - n) n : Nat) : Int) = fi at *
          go_wp2
          refine bodyPost_ret (v := .tuple #[encS es, .int .i64 0]) ?_ rfl ⟨rfl, (T5.out.put (by have := HR.out; omega) _ _).put (by have := HR.out; omega) _ _, ?_⟩
          · simp [results, Try.f14, go_sem, encS, ES.out, s0, s1]
          · have : ((restN S c d : Nat) : Int) = ((d - Z : Nat) : Int) - (n : Int) := by rw [HZ.out.2.1]; omega
            rw [this]
            exact (A5.out.put (by omega) _ _).put (by omega) _ _
        · have en0 : en = 62 := by rw [HE2.out, if_pos HG.out, HZ.out.1, if_neg hn]
          have es0 : es = sl0 := by rw [HNs.out, en0]; rfl
          subst en0 es0
          have tc := fun W hW => take_no q a ((d : Int) - (Z : Int)) n W hW (by omega)
          go_wp2_with fail
          refine (tc _ A4.out).mono ?_
          rintro e w5 ⟨rfl, rfl⟩
          clear tc
          go_wp2
          refine bodyPost_ret (v := .tuple #[encS sl0, .int .i64 62]) ?_ rfl ⟨rfl, (T4.out.put (by have := HR.out; omega) _ _).put (by have := HR.out; omega) _ _, fun h => by cases h⟩
          simp [results, Try.f14, go_sem, encS, sl0, s0, s1]
      · have HG : ¬ GuardN a c d := by
          unfold GuardN
          rw [HZ.out.1]
          exact fun h => hg h.2
        have en0 : en = 61 := by rw [HE2.out, if_neg HG]
        have es0 : es = sl0 := by rw [HNs.out, en0]; rfl
        subst en0 es0
        have hne : (((fieldN a (d - Z) Z : Nat) : Int) != c.g) = true := by simp [hg]
        clear hg HG
        generalize ((fieldN a (d - Z) Z : Nat) : Int) = fi at *
        go_wp2
        refine bodyPost_ret (v := .tuple #[encS sl0, .int .i64 61]) ?_ rfl ⟨rfl, (T4.out.put (by have := HR.out; omega) _ _).put (by have := HR.out; omega) _ _, fun h => by cases h⟩
        simp [results, Try.f14, go_sem, encS, sl0, s0, s1]
    · have HG : ¬ GuardN a c d := by
        unfold GuardN
        rw [HZ.out.1]
        exact fun h => hz h.1
      have en0 : en = 61 := by rw [HE2.out, if_neg HG]
      have es0 : es = sl0 := by rw [HNs.out, en0]; rfl
      subst en0 es0
      clear HG
      have tc := fun W hW => take_no q a d Z W hW (by omega)
      go_wp2_with fail
      refine (tc _ A3.out).mono ?_
      rintro e w5 ⟨rfl, rfl⟩
      clear tc
      go_wp2
      refine bodyPost_ret (v := .tuple #[encS sl0, .int .i64 61]) ?_ rfl ⟨rfl, (T3.out.put (by have := HR.out; omega) _ _).put (by have := HR.out; omega) _ _, fun h => by cases h⟩
      simp [results, Try.f14, go_sem, encS, sl0, s0, s1]
  · have e1 : sizeC S c = 0 := by unfold sizeC; rw [if_neg hN]
    have e2 : decide (isN S c) = false := by simp [hN]
    rw [e1, e2]
    have en0 : en = 60 := by rw [HE.out]; unfold nameE; rw [if_neg hN]
    have es0 : es = sl0 := by rw [HN.out]; unfold nameS; rw [← HE.out, en0]; rfl
    subst en0 es0
    clear e1 e2 hN
    go_wp2
    refine bodyPost_ret (v := .tuple #[encS sl0, .int .i64 60]) ?_ rfl ⟨rfl, (T3.out.put (by have := HR.out; omega) _ _).put (by have := HR.out; omega) _ _, fun h => by cases h⟩
    simp [results, Try.f14, go_sem, encS, sl0, s0, s1]
end Go.Proofs.Ytafjgoelofobmab

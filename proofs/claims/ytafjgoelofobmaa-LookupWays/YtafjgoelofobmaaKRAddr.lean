/-
  What Address of the document's answer answers: as the program's; no condition but that the numbers fit, and that the way lies elsewhere than the nodes.
-/
import Derived.Test.YtafjgoelofobmaaKRSlot
import Derived.Test.YtafjgoelofobmaaKAddr
import Derived.Deep.CutRange
namespace Go.Proofs.Ytafjgoelofobmaa
open Go.RowKit Go.Deep Go.MapKept Go.Maps
set_option linter.unusedSectionVars false
variable [dCp : DecidableEq Cp] [dLim : ∀ k, Decidable (Lim k)] [dBad : ∀ k, Decidable (Bad k)] [dFit : ∀ g z, Decidable (Fit g z)] [dFine : ∀ c, Decidable (Fine c)] [dMint : ∀ c v, Decidable (MintR c v)] [dWho : ∀ x y, Decidable (Whose x y)] [dSl : DecidableEq Sl] [dLt : ∀ a b, Decidable (ltS a b)] [dIsN : ∀ S c, Decidable (isN S c)] [dGuN : ∀ a c d, Decidable (GuardN a c d)]

theorem guard_step (G Z j : Nat) (hj : j < Z) : G / 2 ^ (Z - (j + 1)) = 2 * (G / 2 ^ (Z - j)) + (if G.testBit (Z - 1 - j) then 1 else 0) := by
  have e : Z - j = Z - (j + 1) + 1 := by omega
  rw [e, Nat.pow_succ, ← Nat.div_div_eq_div_mul, Nat.testBit_eq_decide_div_mod_eq, show Z - 1 - j = Z - (j + 1) by omega]
  generalize G / 2 ^ (Z - (j + 1)) = q
  by_cases h : q % 2 = 1
  · simp [h]; omega
  · simp [h]; omega
/-- What holds at each number of the way. -/
structure Vk (S : St) (R : Int × Int × Int) (L : List Int) (w : World) (p : Nat) (F : Nat → Prop) (q : Nat) (k : Nat) (c : Cp) (a d : Nat) (W : World) : Prop where
  rb : RB w W p F S [(q, objC c)]
  fits : c.Fits
  d64 : d ≤ 64
  lt : a < 2 ^ d
  way : way S c a d (L.drop k) = R
theorem RB.out {w0 W : World} {p : Nat} {F : Nat → Prop} {S : St} {L : List (Nat × Obj)} (h : RB w0 W p F S L) {b : Nat} (hb : b < w0.heap.size) (hF : ¬ F b) : W.heap[b]? = w0.heap[b]? := h.turn.block b hb hF
set_option maxHeartbeats 8000000 in
set_option maxRecDepth 100000 in
theorem raddr_any (p : Nat) (F : Nat → Prop) (S : St) (c : Cp) (ao : Option Addr) (L : List Int) (cap : Nat) (w : World) (h : Rds w p F S) (hf : c.Fits) (hL : Ints w ao L) (hl : L.length ≤ 9223372036854775807) (hA : ∀ b o, ao = some ⟨b, o, none⟩ → L ≠ [] → ¬ F b) :
    Calls Try.prog 19 #[.pointer (some ⟨p, 0, none⟩), encC c, .slice ao L.length cap] w fun e w' => e = .returned (.tuple #[.int .u64 (wayR S c L).1, .int .i64 (wayR S c L).2.1, .int .i64 (wayR S c L).2.2]) ∧ RLeaves w p F S w' := by
  have H : Hid (Okay S ∧ Ints w ao L ∧ L.length ≤ 9223372036854775807 ∧ ∀ b o, ao = some ⟨b, o, none⟩ → L ≠ [] → ¬ F b) := ⟨h.ok, hL, hl, hA⟩
  obtain ⟨R, HR0⟩ : ∃ R, Hid (way S c 0 0 L = R) := ⟨_, rfl⟩
  have HRW : Hid (wayR S c L = if L = [] then (0, 0, 1) else R) := by
    rw [← HR0.out]
    exact (rfl : wayR S c L = if L = [] then (0, 0, 1) else way S c 0 0 L)
  have rb1 := (RB.start h).alloc (objC c)
  have rb2 := rb1.alloc (objC c)
  simp only [World.size_alloc] at rb2
  have K1 : Hid (RB w (w.alloc (objC c)) p F S [(w.heap.size, objC c)]) := rb1
  have K : Hid (Vk S R L w p F (w.heap.size + 1) 0 c 0 0 ((w.alloc (objC c)).alloc (objC c)).drew) := ⟨rb2.drew.fewer fun b hb => by simp at hb ⊢; simp [hb], hf, by omega, by decide, HR0.out⟩
  have Q : Hid (w.heap.size ≤ w.heap.size + 1) := Nat.le_succ _
  obtain ⟨z0, z1, z2, z3, z4, z5⟩ := K1.out.atC (q := w.heap.size) (c := c) (by simp)
  clear h hf hL hA HR0 rb1 rb2 K1
  simp only [encC, objC] at *
  have K' : Hid (Vk S R L w p F (w.heap.size + 1) 0 c 0 0 ((w.alloc (.cells #[.int .i64 c.k, .int .i64 c.o, .int .i64 c.r, .int .u64 c.b, .int .u64 c.g, .int .i64 c.z] 28)).alloc (.cells #[.int .i64 c.k, .int .i64 c.o, .int .i64 c.r, .int .u64 c.b, .int .u64 c.g, .int .i64 c.z] 28)).drew) := K
  clear K
  go_enter Try.func19, Try.ntmps19
  go_wp2_with fail
  go_region
  go_wp2_with fail
  generalize ((w.alloc (.cells #[.int .i64 c.k, .int .i64 c.o, .int .i64 c.r, .int .u64 c.b, .int .u64 c.g, .int .i64 c.z] 28)).alloc (.cells #[.int .i64 c.k, .int .i64 c.o, .int .i64 c.r, .int .u64 c.b, .int .u64 c.g, .int .i64 c.z] 28)).drew = w1 at *
  generalize w.heap.size + 1 = q at *
  clear z0 z1 z2 z3 z4 z5
  go_loopw [9, 10, 12] (fun av dv kv wr => ∃ (k : Nat) (c : Cp) (a d : Nat), k ≤ L.length ∧ kv = .int .i64 k ∧ av = .int .u64 a ∧ dv = .int .i64 d ∧ Vk S R L w p F q k c a d wr) (fun _ _ kv _ => L.length - (intOf kv).toNat)
  case atStart => exact ⟨0, c, 0, 0, Nat.zero_le _, rfl, rfl, rfl, K'.out⟩
  case round =>
    clear K'
    obtain ⟨k, c', a, d, hk, rfl, rfl, rfl, hj⟩ := hrel
    have J : Hid (Vk S R L w p F q k c' a d wr) := hj
    clear hj
    by_cases hlt : k < L.length
    · obtain ⟨x, hx⟩ : ∃ x, L[k]? = some x := ⟨_, List.getElem?_eq_getElem hlt⟩
      obtain ⟨fx, b0, o0, rfl, hb, hcell⟩ := H.out.2.1 k x hx
      have HP : Hid (∀ W c, RB w W p F S [(q, objC c)] → W.cell? ⟨b0, o0 + k, none⟩ = some (.int .i64 x)) := fun W c hW => by
        have e := hW.out hb (H.out.2.2.2 b0 o0 rfl fun e => by rw [e] at hx; simp at hx)
        rw [← hcell]
        simp only [World.cell?, e]
      have hdrop : L.drop k = x :: L.drop (k + 1) := by
        rw [List.drop_eq_getElem_cons hlt]
        congr 1
        exact (List.getElem?_eq_some_iff.1 hx).2
      have HW : Hid (way S c' a d (x :: L.drop (k + 1)) = R ∧ I64 x ∧ k < L.length) := ⟨by rw [← hdrop]; exact J.out.way, fx, hlt⟩
      have hlt' : (k : Int) < (L.length : Int) := by omega
      have hl0 : ((L.length : Int) == 0) = false := beq_eq_false_iff_ne.2 (by omega)
      have HLe : Hid (L ≠ []) := fun e => by rw [e] at hlt; simp at hlt
      clear hlt hk hx hb hcell hdrop fx
      generalize hLl : L.length = n at *
      clear hLl
      obtain ⟨z0, z1, z2, z3, z4, z5⟩ := J.out.rb.atC (q := q) (c := c') (by simp)
      go_wp2_with fail
      refine (node_any p F S c' wr J.out.rb.rds J.out.fits).mono ?_
      rintro e w2 ⟨rfl, l2⟩
      have RB2 : Hid (RB w w2 p F S [(q, objC c')]) := J.out.rb.then l2
      have CF : Hid (c'.Fits ∧ d ≤ 64 ∧ a < 2 ^ d) := ⟨J.out.fits, J.out.d64, J.out.lt⟩
      clear z0 z1 z2 z3 z4 z5 J l2
      obtain ⟨z0, z1, z2, z3, z4, z5⟩ := RB2.out.atC (q := q) (c := c') (by simp)
      have y0 := HP.out _ _ RB2.out
      by_cases hN : isN S c'
      · have s1 : sizeC S c' = bitsN S c' := by unfold sizeC; rw [if_pos hN]
        have s2 : decide (isN S c') = true := by simp [hN]
        rw [s1, s2]
        have HN : Hid (isN S c') := hN
        clear s1 s2 hN
        obtain ⟨r1, r2, r3, r4, r5, r6⟩ := node_row H.out.1 HN.out.2.2
        have hb1 : 1 ≤ bitsN S c' := r3
        have hb2 : bitsN S c' ≤ 8 := r4
        obtain ⟨pn, HPN⟩ : ∃ pn, Hid (2 ^ bitsN S c' = pn) := ⟨2 ^ bitsN S c', rfl⟩
        have hpn : pn ≤ 256 := by rw [← HPN.out]; have : 2 ^ bitsN S c' ≤ 2 ^ 8 := Nat.pow_le_pow_right (by omega) hb2; omega
        have tc := fun W => r1two_any (bitsN S c' : Int) W (by omega) (by omega)
        rw [two_cast, HPN.out] at tc
        have hwp : IntKind.i64.wrap ((pn : Nat) : Int) = (pn : Int) := by rw [IntKind.wrap_i64]; omega
        clear r1 r2 r3 r4 r5 r6
        by_cases hat : (atS S ⟨c'.o, x⟩).isSome = true
        · have HAt : Hid ((atS S ⟨c'.o, x⟩).isSome = true) := hat
          obtain ⟨x0, x1⟩ := at_lt hat H.out.1 HN.out.2.2
          have xl : x.toNat < pn := by rw [← HPN.out]; exact x1
          have hx1 : decide (x < 0) = false := by simp; omega
          have hx2 : decide ((pn : Int) ≤ x) = false := by simp; omega
          clear hat x1
          go_wp2_with fail
          go_quiet ((go_at_call 39; refine Calls.quiet_of_same (tc _)))
          have RB3 : Hid (RB w (w2.drewN nq) p F S [(q, objC c')]) := RB2.out.drewN _
          clear RB2 z0 z1 z2 z3 z4 z5 y0 hx1 hx2
          generalize w2.drewN nq = w3 at *
          obtain ⟨z0, z1, z2, z3, z4, z5⟩ := RB3.out.atC (q := q) (c := c') (by simp)
          have y0 := HP.out _ _ RB3.out
          obtain ⟨v1, v2, v3⟩ := fine_guard HN.out.2.1
          have gl := guard_lt HN.out.2.1
          obtain ⟨Z, hZ⟩ := Int.eq_ofNat_of_zero_le v1
          obtain ⟨G, hG⟩ := Int.eq_ofNat_of_zero_le CF.out.1.g.1
          obtain ⟨X, rfl⟩ := Int.eq_ofNat_of_zero_le x0
          rw [hZ, hG] at gl
          simp only [Int.toNat_natCast] at gl xl
          have zt : c'.z.toNat = Z := by omega
          have gt : c'.g.toNat = G := by omega
          have HW2 : Hid (d + Z + bitsN S c' ≤ 64 → way S (getC S ⟨c'.o, (X : Int)⟩) ((a * 2 ^ Z + G) * 2 ^ bitsN S c' + X) (d + Z + bitsN S c') (L.drop (k + 1)) = R) := fun hd => by
            have := way_cons (a := a) (d := d) (l := L.drop (k + 1)) HN.out HAt.out (by rw [zt]; exact hd)
            rw [zt, gt, Int.toNat_natCast] at this
            rw [← this]
            exact HW.out.1
          have HW3 : Hid (¬ d + Z + bitsN S c' ≤ 64 → R = (0, 0, 62)) := fun hd => by
            rw [← HW.out.1, way, if_pos HN.out, if_pos HAt.out, zt, if_neg hd]
          have HK : Hid (k < n) := HW.out.2.2
          have cfit : Hid ((getC S ⟨c'.o, (X : Int)⟩).Fits) := getC_fits H.out.1 _
          have Z64 : Hid (Z ≤ 64) := (by omega : Z ≤ 64)
          have BX : Hid (G < 2 ^ Z ∧ X < pn ∧ G < 18446744073709551616) := ⟨gl, xl, by have := CF.out.1.g.2; omega⟩
          rw [hZ] at z5
          rw [hG] at z4
          clear v1 v2 v3 gl zt gt HW HN HAt x0 xl
          have hZ0 : (Z : Int) ≤ 64 := by have := Z64.out; omega
          have hd64 : (d : Int) ≤ 64 := by have := CF.out.2.1; omega
          clear hZ hG
          go_wp2_with fail
          go_loopw [9, 10, 15] (fun av dv iv wx => ∃ (j xv dd : Nat) (ii : Int), av = .int .u64 (xv : Int) ∧ dv = .int .i64 (dd : Int) ∧ iv = .int .i64 ii ∧ wx = w3 ∧ j ≤ Z ∧ ii = (Z : Int) - 1 - (j : Int) ∧ dd = d + j ∧ dd ≤ 65 ∧ xv < 18446744073709551616 ∧ (dd ≤ 64 → xv = a * 2 ^ j + G / 2 ^ (Z - j) ∧ xv < 2 ^ dd)) (fun _ _ iv _ => (intOf iv + 1).toNat)
          case atStart => exact ⟨0, a, d, (Z : Int) - 1, rfl, rfl, rfl, rfl, Nat.zero_le _, by omega, rfl, by have := CF.out.2.1; omega, by have := CF.out.2.2; have := pow_le d CF.out.2.1; omega, fun _ => ⟨by rw [Nat.pow_zero, Nat.mul_one, Nat.sub_zero, Nat.div_eq_of_lt BX.out.1, Nat.add_zero], CF.out.2.2⟩⟩
          case round =>
            obtain ⟨j, xv, dd, ii, rfl, rfl, rfl, rfl, g1, g2, g3, g4, g5, g6⟩ := hrel
            have GG : Hid (j ≤ Z ∧ ii = (Z : Int) - 1 - (j : Int) ∧ dd = d + j ∧ dd ≤ 65 ∧ xv < 18446744073709551616 ∧ (dd ≤ 64 → xv = a * 2 ^ j + G / 2 ^ (Z - j) ∧ xv < 2 ^ dd)) := ⟨g1, g2, g3, g4, g5, g6⟩
            have hi63 : ii ≤ 63 := by have := Z64.out; omega
            have hdd : (dd : Int) ≤ 65 := by omega
            clear g1 g2 g3 g4 g5 g6
            by_cases hgo : 0 ≤ ii ∧ dd ≤ 64
            · obtain ⟨y2, HY2⟩ : ∃ y2, Hid (y2 = 2 * xv % 18446744073709551616) := ⟨_, rfl⟩
              obtain ⟨y3, HY3⟩ : ∃ y3, Hid (y3 = (y2 + 1) % 18446744073709551616) := ⟨_, rfl⟩
              have hw1 : IntKind.u64.wrap (2 * (xv : Int)) = (y2 : Int) := by rw [IntKind.wrap_u64]; have := HY2.out; omega
              have hw2 : IntKind.u64.wrap ((y2 : Int) + 1) = (y3 : Int) := by rw [IntKind.wrap_u64]; have := HY3.out; omega
              have bb := fun W => bitR_any (G : Int) ii W (by omega) (by have := BX.out.2.2; omega) hgo.1 hi63
              rw [show ii.toNat = Z - 1 - j by have := GG.out; omega, Int.toNat_natCast] at bb
              have hi0 : 0 ≤ ii := hgo.1
              have hd1 : (dd : Int) ≤ 64 := by omega
              have NX : Hid (∀ bit : Bool, G.testBit (Z - 1 - j) = bit → ∀ v : Nat, v = (if bit then y3 else y2) → j + 1 ≤ Z ∧ ii - 1 = (Z : Int) - 1 - ((j + 1 : Nat) : Int) ∧ dd + 1 = d + (j + 1) ∧ dd + 1 ≤ 65 ∧ v < 18446744073709551616 ∧ (dd + 1 ≤ 64 → v = a * 2 ^ (j + 1) + G / 2 ^ (Z - (j + 1)) ∧ v < 2 ^ (dd + 1))) := by
                intro bit hbit v hv
                obtain ⟨g1, g2, g3, g4, g5, g6⟩ := GG.out
                have h2 := HY2.out
                have h3 := HY3.out
                have hj : j < Z := by omega
                refine ⟨by omega, by omega, by omega, by omega, by subst hv; split <;> omega, fun h64 => ?_⟩
                obtain ⟨e1, e2⟩ := g6 (by omega)
                have hp : 2 ^ dd ≤ 2 ^ 63 := Nat.pow_le_pow_right (by omega) (by omega)
                have gs := guard_step G Z j hj
                rw [hbit] at gs
                have e5 : 2 ^ (dd + 1) = 2 * 2 ^ dd := by rw [Nat.pow_succ, Nat.mul_comm]
                have e6 : a * 2 ^ (j + 1) = 2 * (a * 2 ^ j) := by rw [Nat.pow_succ, ← Nat.mul_assoc, Nat.mul_comm]
                rw [gs, e5, e6]
                cases bit with
                | true => simp at hv ⊢; omega
                | false => simp at hv ⊢; omega
              have ME : Hid (ii = (Z : Int) - 1 - (j : Int) ∧ 0 ≤ ii) := ⟨GG.out.2.1, hi0⟩
              clear hgo GG
              generalize hbit : G.testBit (Z - 1 - j) = bit at *
              cases bit with
              | true =>
                go_wp2_with (go_at_call 40; refine (bb _).mono ?_; rintro e w' ⟨rfl, rfl⟩)
                go_roundw
                case rel =>
                  obtain ⟨n1, n2, n3, n4, n5, n6⟩ := NX.out true rfl y3 rfl
                  exact ⟨j + 1, y3, dd + 1, ii - 1, rfl, by go_num, rfl, trivial, n1, n2, n3, n4, n5, n6⟩
                case measure => simp [intOf]; have := ME.out; omega
              | false =>
                go_wp2_with (go_at_call 40; refine (bb _).mono ?_; rintro e w' ⟨rfl, rfl⟩)
                go_roundw
                case rel =>
                  obtain ⟨n1, n2, n3, n4, n5, n6⟩ := NX.out false rfl y2 rfl
                  exact ⟨j + 1, y2, dd + 1, ii - 1, rfl, by go_num, rfl, trivial, n1, n2, n3, n4, n5, n6⟩
                case measure => simp [intOf]; have := ME.out; omega
            · have NY : Hid ((d + Z ≤ 64 → dd = d + Z ∧ xv = a * 2 ^ Z + G ∧ xv < 2 ^ dd) ∧ (¬ d + Z ≤ 64 → 64 < dd) ∧ dd ≤ 65 ∧ xv < 18446744073709551616) := by
                obtain ⟨g1, g2, g3, g4, g5, g6⟩ := GG.out
                refine ⟨fun h => ?_, fun h => ?_, g4, g5⟩
                · have hj : j = Z := by omega
                  obtain ⟨e1, e2⟩ := g6 (by omega)
                  rw [hj, Nat.sub_self, Nat.pow_zero, Nat.div_one] at e1
                  exact ⟨by omega, e1, e2⟩
                · omega
              have hge : ii < 0 ∨ (0 ≤ ii ∧ 64 < dd) := by omega
              clear hgo GG
              obtain ⟨z0, z1, z2, z3, z4, z5⟩ := RB3.out.atC (q := q) (c := c') (by simp)
              rcases hge with hge | hge
              · have hi0 : ii < 0 := hge
                clear hge
                have y0 := HP.out _ _ RB3.out
                go_wp2_with fail
                go_quiet ((go_at_call 39; refine Calls.quiet_of_same (tc _)))
                have RB4 : Hid (RB w (wr.drewN nq) p F S [(q, objC c')]) := RB3.out.drewN _
                clear z0 z1 z2 z3 z4 z5 y0
                generalize wr.drewN nq = w4 at *
                by_cases hdm : d + Z + bitsN S c' ≤ 64
                · obtain ⟨e1, e2, e3⟩ := NY.out.1 (by omega)
                  obtain ⟨yv, HY⟩ : ∃ yv, Hid (yv = xv * pn + X) := ⟨_, rfl⟩
                  have hval : IntKind.u64.wrap (IntKind.u64.wrap ((xv : Int) * (pn : Int)) + IntKind.u64.wrap (X : Int)) = (yv : Int) := by
                    have hp := HPN.out
                    have h1 : (xv + 1) * pn ≤ 2 ^ dd * pn := Nat.mul_le_mul_right _ e3
                    have h2 : 2 ^ dd * pn ≤ 18446744073709551616 := by rw [← hp, ← Nat.pow_add]; exact pow_le _ (by omega)
                    have h3 : (xv + 1) * pn = xv * pn + pn := by rw [Nat.add_mul, Nat.one_mul]
                    have h4 := BX.out.2.1
                    have h5 := HY.out
                    rw [show (xv : Int) * (pn : Int) = ((xv * pn : Nat) : Int) by simp, IntKind.wrap_u64, IntKind.wrap_u64, IntKind.wrap_u64]
                    generalize xv * pn = t at *
                    omega
                  rw [hval]
                  have HN2 : Hid (way S (getC S ⟨c'.o, (X : Int)⟩) yv (dd + bitsN S c') (L.drop (k + 1)) = R ∧ dd + bitsN S c' ≤ 64 ∧ yv < 2 ^ (dd + bitsN S c')) := by
                    have hw := HW2.out hdm
                    rw [← e2, ← e1, HPN.out, ← HY.out] at hw
                    refine ⟨hw, by omega, ?_⟩
                    have hp := HPN.out
                    have h1 : (xv + 1) * pn ≤ 2 ^ dd * pn := Nat.mul_le_mul_right _ e3
                    have h3 : (xv + 1) * pn = xv * pn + pn := by rw [Nat.add_mul, Nat.one_mul]
                    have h4 := BX.out.2.1
                    have h5 := HY.out
                    rw [Nat.pow_add, hp]
                    omega
                  clear hval e1 e2 e3 hdm
                  obtain ⟨dn, HDN⟩ : ∃ dn, Hid (dn = dd + bitsN S c') := ⟨_, rfl⟩
                  have hdn : (dd : Int) + (bitsN S c' : Int) = (dn : Int) := by have := HDN.out; omega
                  have hdn2 : (dn : Int) ≤ 64 := by have := HDN.out; have := HN2.out.2.1; omega
                  obtain ⟨z0, z1, z2, z3, z4, z5⟩ := RB4.out.atC (q := q) (c := c') (by simp)
                  have y0 := HP.out _ _ RB4.out
                  obtain ⟨gc, ge, HGC⟩ : ∃ gc ge, Hid (getC S ⟨c'.o, (X : Int)⟩ = gc ∧ getE S ⟨c'.o, (X : Int)⟩ = ge) := ⟨_, _, rfl, rfl⟩
                  have GC : Hid (∀ W, Rds W p F S → Calls Try.prog 22 #[.pointer (some ⟨p, 0, none⟩), .agg #[.int .i64 c'.o, .int .i64 (X : Int)]] W fun e w' => e = .returned (.tuple #[.agg #[.int .i64 gc.k, .int .i64 gc.o, .int .i64 gc.r, .int .u64 gc.b, .int .u64 gc.g, .int .i64 gc.z], .int .i64 ge]) ∧ RLeaves W p F S w') := fun W hW => by
                    have h := rget_any p F S ⟨c'.o, (X : Int)⟩ W hW
                    rw [HGC.out.1, HGC.out.2] at h
                    exact h
                  rw [HGC.out.1] at HN2 cfit
                  go_wp2_with fail
                  go_region_with (go_at_call 22; refine (GC.out _ (RB4.out.drew.rds)).mono ?_; rintro e u ⟨rfl, l5⟩; have RB5 : Hid (RB w u p F S [(q, objC c')]) := RB4.out.drew.then l5; obtain ⟨v0, v1, v2, v3, v4, v5⟩ := RB5.out.atC (q := q) (c := c') (by simp); have vf := AtC.frozen (show AtC u q c' from (RB5.out.blk (q, objC c') (by simp)).1))
                  · have K7 : Hid (RB w (six u q gc) p F S [(q, objC gc)]) := RB5.out.six (q := q) (d := c') (by simp) gc fun b hb => .inl (by simpa using hb)
                    unfold six at K7
                    have HV : Hid (dn ≤ 64 ∧ yv < 2 ^ dn ∧ way S gc yv dn (L.drop (k + 1)) = R) := by rw [HDN.out]; exact ⟨HN2.out.2.1, HN2.out.2.2, HN2.out.1⟩
                    clear RB5 v0 v1 v2 v3 v4 v5 vf l5
                    go_wp2
                    go_roundw
                    case rel => exact ⟨k + 1, gc, yv, dn, HK.out, by go_num, rfl, rfl, K7.out, cfit.out, HV.out.1, HV.out.2.1, HV.out.2.2⟩
                    case measure => simp [intOf]; have := HK.out; omega
                  · have K7 : Hid (RB w (six u q gc) p F S [(q, objC gc)]) := RB5.out.six (q := q) (d := c') (by simp) gc fun b hb => .inl (by simpa using hb)
                    unfold six at K7
                    have HV : Hid (dn ≤ 64 ∧ yv < 2 ^ dn ∧ way S gc yv dn (L.drop (k + 1)) = R) := by rw [HDN.out]; exact ⟨HN2.out.2.1, HN2.out.2.2, HN2.out.1⟩
                    clear RB5 v0 v1 v2 v3 v4 v5 vf l5
                    go_wp2
                    go_roundw
                    case rel => exact ⟨k + 1, gc, yv, dn, HK.out, by go_num, rfl, rfl, K7.out, cfit.out, HV.out.1, HV.out.2.1, HV.out.2.2⟩
                    case measure => simp [intOf]; have := HK.out; omega
                · have HR2 : Hid (R = (0, 0, 62)) := HW3.out hdm
                  have h64 : (64 : Int) < (dd : Int) + (bitsN S c' : Int) := by
                    have h1 := NY.out
                    by_cases hz : d + Z ≤ 64
                    · have := (h1.1 hz).1; omega
                    · have := h1.2.1 hz; omega
                  clear hdm
                  generalize IntKind.u64.wrap (IntKind.u64.wrap ((xv : Int) * (pn : Int)) + IntKind.u64.wrap (X : Int)) = yv at *
                  go_wp2
                  refine bodyPost_ret (v := .tuple #[.int .u64 0, .int .i64 0, .int .i64 62]) ?_ rfl ⟨?_, RB4.out.leaves⟩
                  · simp [results, Try.f19, go_sem]
                  · rw [HRW.out, if_neg HLe.out, HR2.out]
              · have hi0 : 0 ≤ ii := hge.1
                have hd1 : (64 : Int) < (dd : Int) := by omega
                clear hge
                have y0 := HP.out _ _ RB3.out
                go_wp2_with fail
                go_quiet ((go_at_call 39; refine Calls.quiet_of_same (tc _)))
                have RB4 : Hid (RB w (wr.drewN nq) p F S [(q, objC c')]) := RB3.out.drewN _
                clear z0 z1 z2 z3 z4 z5 y0
                generalize wr.drewN nq = w4 at *
                have hdm : ¬ d + Z + bitsN S c' ≤ 64 := fun h => by have := (NY.out.1 (by omega)).1; omega
                have HR2 : Hid (R = (0, 0, 62)) := HW3.out hdm
                have h64 : (64 : Int) < (dd : Int) + (bitsN S c' : Int) := by
                  have h1 := NY.out
                  by_cases hz : d + Z ≤ 64
                  · have := (h1.1 hz).1; omega
                  · have := h1.2.1 hz; omega
                clear hdm
                generalize IntKind.u64.wrap (IntKind.u64.wrap ((xv : Int) * (pn : Int)) + IntKind.u64.wrap (X : Int)) = yv at *
                go_wp2
                refine bodyPost_ret (v := .tuple #[.int .u64 0, .int .i64 0, .int .i64 62]) ?_ rfl ⟨?_, RB4.out.leaves⟩
                · simp [results, Try.f19, go_sem]
                · rw [HRW.out, if_neg HLe.out, HR2.out]
        · have hR : R = (0, 0, 50) := by rw [← HW.out.1, way, if_pos HN.out, if_neg hat]
          have ho := at_out hat H.out.1 HN.out.2.2
          have HR2 : Hid (R = (0, 0, 50)) := hR
          clear hR
          rw [show ((2 ^ bitsL (nodeS S c'.o) : Nat) : Int) = (pn : Int) by rw [← HPN.out]; rfl] at ho
          by_cases hx0 : x < 0
          · have hx1 : decide (x < 0) = true := by simp [hx0]
            clear ho hat
            go_wp2_with fail
            go_quiet (fail)
            have RB3 : Hid (RLeaves w p F S (w2.drewN nq)) := (RB2.out.drewN _).leaves
            go_wp2
            refine bodyPost_ret (v := .tuple #[.int .u64 0, .int .i64 0, .int .i64 50]) ?_ rfl ⟨?_, RB3.out⟩
            · simp [results, Try.f19, go_sem]
            · rw [HRW.out, if_neg HLe.out, HR2.out]
          · have hx1 : decide (x < 0) = false := by simp; omega
            have hx2 : decide ((pn : Int) ≤ x) = true := by simp; omega
            clear ho hat hx0
            go_wp2_with fail
            go_quiet ((go_at_call 39; refine Calls.quiet_of_same (tc _)))
            have RB3 : Hid (RLeaves w p F S (w2.drewN nq)) := (RB2.out.drewN _).leaves
            go_wp2
            refine bodyPost_ret (v := .tuple #[.int .u64 0, .int .i64 0, .int .i64 50]) ?_ rfl ⟨?_, RB3.out⟩
            · simp [results, Try.f19, go_sem]
            · rw [HRW.out, if_neg HLe.out, HR2.out]
      · have s1 : sizeC S c' = 0 := by unfold sizeC; rw [if_neg hN]
        have s2 : decide (isN S c') = false := by simp [hN]
        rw [s1, s2]
        have HR2 : Hid (R = (0, 0, 60)) := by rw [← HW.out.1, way, if_neg hN]; exact (rfl : ((0 : Int), (0 : Int), (60 : Int)) = (0, 0, 60))
        clear s1 s2 hN
        go_wp2
        refine bodyPost_ret (v := .tuple #[.int .u64 0, .int .i64 0, .int .i64 60]) ?_ rfl ⟨?_, RB2.out.leaves⟩
        · simp [results, Try.f19, go_sem]
        · rw [HRW.out, if_neg HLe.out, HR2.out]
    · have hlt' : ¬ ((k : Int) < (L.length : Int)) := by omega
      have hn : L.drop k = [] := List.drop_eq_nil_of_le (by omega)
      have HW : Hid (way S c' a d [] = R) := by rw [← hn]; exact J.out.way
      clear hn
      by_cases h0 : L = []
      · have hl0 : ((L.length : Int) == 0) = true := by rw [h0]; rfl
        have HE : Hid (wayR S c L = (0, 0, 1)) := by rw [HRW.out, if_pos h0]; exact (rfl : ((0 : Int), (0 : Int), (1 : Int)) = (0, 0, 1))
        clear hlt hk h0
        generalize hLl : L.length = n at *
        clear hLl
        go_wp2
        refine bodyPost_ret (v := .tuple #[.int .u64 0, .int .i64 0, .int .i64 1]) ?_ rfl ⟨by rw [HE.out], J.out.rb.leaves⟩
        simp [results, Try.f19, go_sem]
      · have hl0 : ((L.length : Int) == 0) = false := by
          cases L with
          | nil => exact absurd rfl h0
          | cons y l => simp; omega
        have HE : Hid (wayR S c L = ((a : Int), (d : Int), 0)) := by rw [HRW.out, if_neg h0, ← HW.out]; exact (rfl : ((a : Int), (d : Int), (0 : Int)) = ((a : Int), (d : Int), 0))
        clear hlt hk h0
        generalize hLl : L.length = n at *
        clear hLl
        go_wp2
        refine bodyPost_ret (v := .tuple #[.int .u64 a, .int .i64 d, .int .i64 0]) ?_ rfl ⟨by rw [HE.out], J.out.rb.leaves⟩
        simp [results, Try.f19, go_sem]
end Go.Proofs.Ytafjgoelofobmaa

/-
  What add and Address of package lookup answer: the address of a way through slots, and its depth, or what is wrong; no condition but that the numbers fit.
-/
import Derived.Test.YtafjgoelofobmaaKSlot
namespace Go.Proofs.Ytafjgoelofobmaa
open Go.RowKit Go.Deep Go.MapKept Go.Maps
set_option linter.unusedSectionVars false
variable [dCp : DecidableEq Cp] [dLim : ∀ k, Decidable (Lim k)] [dBad : ∀ k, Decidable (Bad k)] [dFit : ∀ g z, Decidable (Fit g z)] [dFine : ∀ c, Decidable (Fine c)] [dMint : ∀ c v, Decidable (MintR c v)] [dWho : ∀ x y, Decidable (Whose x y)] [dSl : DecidableEq Sl] [dLt : ∀ a b, Decidable (ltS a b)] [dIsN : ∀ S c, Decidable (isN S c)] [dGuN : ∀ a c d, Decidable (GuardN a c d)]

theorem add_no (q : Nat) (a d v b : Int) (w : World) (h : AtA w q a d) (d0 : 0 ≤ d) (d1 : d ≤ 64) (hb : 64 - d < b) :
    Calls Try.prog 38 #[.pointer (some ⟨q, 0, none⟩), .int .u64 v, .int .i64 b] w fun e w' => e = .returned (.bool false) ∧ w' = w := by
  obtain ⟨c0, c1, f0, f1⟩ := h.cells
  clear h
  go_enter Try.func38, Try.ntmps38
  go_wp2
  all_goals go_ret
  all_goals exact ⟨rfl, rfl⟩
theorem shl_nat {a d b : Nat} (ha : a < 2 ^ d) (hd : d + b ≤ 64) : a * 2 ^ b < 2 ^ (d + b) ∧ 2 ^ (d + b) ≤ 18446744073709551616 := by
  refine ⟨?_, pow_le _ hd⟩
  rw [Nat.pow_add]
  exact (Nat.mul_lt_mul_right (pow_pos b)).2 ha
theorem with_low (x b v : Nat) : withI ((x * 2 ^ b : Nat) : Int) 0 (b : Int) (v : Int) = ((x * 2 ^ b + v : Nat) : Int) := by
  unfold withI withN
  simp only [Int.toNat_natCast, show (0 : Int).toNat = 0 from rfl, Nat.pow_zero, Nat.zero_add, Nat.one_mul, Nat.mod_one, Nat.add_zero]
  rw [Nat.mul_div_cancel _ (pow_pos b), Nat.mul_comm]
theorem add_yes (q a d v b : Nat) (w : World) (h : AtA w q a d) (ha : a < 2 ^ d) (hd : d + b ≤ 64) (hv : v < 2 ^ b) :
    Calls Try.prog 38 #[.pointer (some ⟨q, 0, none⟩), .int .u64 v, .int .i64 b] w fun e w' => e = .returned (.bool true) ∧ AtA w' q ((a * 2 ^ b + v : Nat) : Int) ((d + b : Nat) : Int) ∧ Turn (One q) w w' := by
  obtain ⟨c0, c1, f0, f1⟩ := h.cells
  obtain ⟨l1, l2⟩ := shl_nat ha hd
  have k0 := h.set0 ((a * 2 ^ b + v : Nat) : Int)
  have k1 := k0.set1 ((d + b : Nat) : Int)
  have K : Hid (AtA ((w.setCell ⟨q, 0, none⟩ (.int .u64 ((a * 2 ^ b + v : Nat) : Int))).setCell ⟨q, 1, none⟩ (.int .i64 ((d + b : Nat) : Int))) q ((a * 2 ^ b + v : Nat) : Int) ((d + b : Nat) : Int) ∧ Turn (One q) w ((w.setCell ⟨q, 0, none⟩ (.int .u64 ((a * 2 ^ b + v : Nat) : Int))).setCell ⟨q, 1, none⟩ (.int .i64 ((d + b : Nat) : Int)))) :=
    ⟨k1, (Turn.setCell (One q) w ⟨q, 0, none⟩ _ rfl).trans (Turn.setCell (One q) _ ⟨q, 1, none⟩ _ rfl) fun x hx => .inl hx⟩
  clear h k0 k1
  have hw : IntKind.u64.wrap ((a : Int) * 2 ^ b) = ((a * 2 ^ b : Nat) : Int) := by
    rw [IntKind.wrap_u64]
    rw [show (a : Int) * 2 ^ b = ((a * 2 ^ b : Nat) : Int) by simp]
    omega
  have hon := ones_cast b
  have hbp := pow_pos b
  have wc := fun W => with_yes ((a * 2 ^ b : Nat) : Int) 0 (b : Int) (v : Int) W (by omega) (by omega) (by omega) (by omega) (by omega) (by omega) (by omega)
  rw [with_low] at wc
  have hb64 : (b : Int) ≤ 64 - (d : Int) := by omega
  have hs : (d : Int) + (b : Int) = ((d + b : Nat) : Int) := by omega
  have hdb : ((d + b : Nat) : Int) ≤ 64 := by omega
  have wc' : ∀ W, Calls Try.prog 53 #[.int .u64 (IntKind.u64.wrap ((a : Int) * 2 ^ b)), .int .i64 0, .int .i64 b, .int .u64 v] W fun e w' => e = .returned (.tuple #[.int .u64 ((a * 2 ^ b + v : Nat) : Int), .int .i64 0]) ∧ w' = W := fun W => by rw [hw]; exact wc W
  clear hw l1 l2 ha hv hon hbp hd wc
  generalize ((a * 2 ^ b + v : Nat) : Int) = nv at *
  generalize ((d + b : Nat) : Int) = nd at *
  go_enter Try.func38, Try.ntmps38
  go_wp2_with fail
  refine (wc' _).mono ?_
  rintro e w2 ⟨rfl, rfl⟩
  clear wc'
  go_wp2
  go_ret
  exact ⟨rfl, K.out⟩

/-! ### Address -/
/-- The numbers L lie where the slice leads to. -/
def Ints (w : World) (ao : Option Addr) (L : List Int) : Prop := ∀ k x, L[k]? = some x → I64 x ∧ ∃ b o, ao = some ⟨b, o, none⟩ ∧ b < w.heap.size ∧ w.cell? ⟨b, o + k, none⟩ = some (.int .i64 x)
theorem Ints.below {w w' : World} {ao : Option Addr} {L : List Int} (h : Ints w ao L) {B : Nat} (u : Below B w w') (hB : w.heap.size ≤ B) : Ints w' ao L := fun k x hx => by
  obtain ⟨h1, b, o, e, hb, hc⟩ := h k x hx
  exact ⟨h1, b, o, e, Nat.lt_of_lt_of_le hb u.size, (u.cell (p := ⟨b, o + k, none⟩) (by simp only; omega)).trans hc⟩
structure Wk (S : St) (R : Int × Int × Int) (L : List Int) (w : World) (r q1 q2 : Nat) (k : Nat) (c : Cp) (a d : Nat) (W : World) : Prop where
  low : Below r w W
  adr : AtA W q1 a d
  cap : AtC W q2 c
  fits : c.Fits
  d64 : d ≤ 64
  lt : a < 2 ^ d
  way : way S c a d (L.drop k) = R
theorem box3 (w : World) (o o1 o2 : Obj) : (((w.alloc o).alloc o1).alloc o2).heap[w.heap.size]? = some o ∧ (((w.alloc o).alloc o1).alloc o2).heap[w.heap.size + 1]? = some o1 ∧ (((w.alloc o).alloc o1).alloc o2).heap[w.heap.size + 2]? = some o2 ∧ Below w.heap.size w (((w.alloc o).alloc o1).alloc o2) := by
  refine ⟨?_, ?_, ?_, ?_⟩
  · rw [blk_alloc_lt _ _ _ (by simp; omega), blk_alloc_lt _ _ _ (by simp)]
    exact blk_alloc_new _ _
  · rw [blk_alloc_lt _ _ _ (by simp)]
    have := blk_alloc_new (w.alloc o) o1
    simpa using this
  · have := blk_alloc_new ((w.alloc o).alloc o1) o2
    simpa using this
  · exact ((two_new w o o1).alloc (by simp; omega) _)
theorem addr_arg (p : Nat) (S : St) (c : Cp) (ao : Option Addr) (cap : Nat) (w : World) :
    Calls Try.prog 18 #[.pointer (some ⟨p, 0, none⟩), encC c, .slice ao 0 cap] w fun e w' => e = .returned (.tuple #[.int .u64 (wayR S c []).1, .int .i64 (wayR S c []).2.1, .int .i64 (wayR S c []).2.2]) ∧ Below w.heap.size w w' := by
  have B : Hid (Below w.heap.size w (w.alloc (objC c))) := below_new w _
  simp only [encC, objC, wayR, if_true] at *
  go_enter Try.func18, Try.ntmps18
  go_wp2
  refine bodyPost_ret (v := .tuple #[.int .u64 0, .int .i64 0, .int .i64 1]) ?_ rfl ⟨rfl, B.out⟩
  simp [results, Try.f18, go_sem]
theorem way_cons {S : St} {c : Cp} {a d : Nat} {i : Int} {l : List Int} (h : isN S c) (hi : (atS S ⟨c.o, i⟩).isSome = true) (hd : d + c.z.toNat + bitsN S c ≤ 64) : way S c a d (i :: l) = way S (getC S ⟨c.o, i⟩) ((a * 2 ^ c.z.toNat + c.g.toNat) * 2 ^ bitsN S c + i.toNat) (d + c.z.toNat + bitsN S c) l := by
  rw [way, if_pos h, if_pos hi, if_pos hd]
theorem fits_mk {c : Cp} (h : c.Fits) {i : Int} (hi : I64 i) : (⟨c.o, i⟩ : Sl).Fits := ⟨h.o, hi⟩
set_option maxHeartbeats 2000000 in
set_option maxRecDepth 100000 in
theorem addr_in (p : Nat) (F : Nat → Prop) (S : St) (c : Cp) (ao : Option Addr) (L : List Int) (cap : Nat) (w : World) (h : Nds w p F S) (hf : c.Fits) (hL : Ints w ao L) (hl : L.length ≤ 9223372036854775807) (h0 : L ≠ []) :
    Calls Try.prog 18 #[.pointer (some ⟨p, 0, none⟩), encC c, .slice ao L.length cap] w fun e w' => e = .returned (.tuple #[.int .u64 (way S c 0 0 L).1, .int .i64 (way S c 0 0 L).2.1, .int .i64 (way S c 0 0 L).2.2]) ∧ Below w.heap.size w w' := by
  have H : Hid (Nds w p F S ∧ Okay S ∧ Ints w ao L ∧ (∀ x, F x → x < w.heap.size) ∧ L.length ≤ 9223372036854775807) := ⟨h, h.ok, hL, h.lt, hl⟩
  obtain ⟨x1, x2, x3, x4⟩ := box3 w (objC c) (objA 0 0) (objC c)
  obtain ⟨R, HR0⟩ : ∃ R, Hid (way S c 0 0 L = R) := ⟨_, rfl⟩
  rw [HR0.out]
  obtain ⟨r, HR⟩ : ∃ r, Hid (w.heap.size = r) := ⟨_, rfl⟩
  have hQ : r ≤ w.heap.size + 1 ∧ r ≤ w.heap.size + 1 + 1 ∧ w.heap.size + 1 ≠ w.heap.size + 1 + 1 := by have := HR.out; omega
  have Q : Hid (r ≤ w.heap.size + 1 ∧ r ≤ w.heap.size + 1 + 1 ∧ w.heap.size + 1 ≠ w.heap.size + 1 + 1) := hQ
  have K : Hid (Wk S R L w r (w.heap.size + 1) (w.heap.size + 1 + 1) 0 c 0 0 (((w.alloc (objC c)).alloc (objA 0 0)).alloc (objC c))) := ⟨by rw [← HR.out]; exact x4, x2, x3, hf, by omega, by decide, HR0.out⟩
  have hl0 : ((L.length : Int) == 0) = false := by
    cases L with
    | nil => exact absurd rfl h0
    | cons x l => simp; omega
  clear h hf hL h0 x1 x2 x3 x4 HR0 hQ
  simp only [encC, objC, objA] at *
  go_enter Try.func18, Try.ntmps18
  go_wp2_with fail
  generalize ((w.alloc (.cells #[.int .i64 c.k, .int .i64 c.o, .int .i64 c.r, .int .u64 c.b, .int .u64 c.g, .int .i64 c.z] 28)).alloc (.cells #[.int .u64 0, .int .i64 0] 68)).alloc (.cells #[.int .i64 c.k, .int .i64 c.o, .int .i64 c.r, .int .u64 c.b, .int .u64 c.g, .int .i64 c.z] 28) = w1 at *
  generalize w.heap.size + 1 + 1 = q2 at *
  generalize w.heap.size + 1 = q1 at *
  go_loopw [23] (fun i wr => ∃ (k : Nat) (c : Cp) (a d : Nat), k ≤ L.length ∧ i = .int .i64 k ∧ Wk S R L w r q1 q2 k c a d wr) (fun i _ => L.length - (intOf i).toNat)
  case atStart => exact ⟨0, c, 0, 0, Nat.zero_le _, rfl, K.out⟩
  case round =>
    clear K
    obtain ⟨k, c', a, d, hk, rfl, hl'⟩ := hrel
    have J : Hid (Wk S R L w r q1 q2 k c' a d wr) := hl'
    clear hl'
    by_cases hlt : k < L.length
    · obtain ⟨x, hx⟩ : ∃ x, L[k]? = some x := ⟨_, List.getElem?_eq_getElem hlt⟩
      obtain ⟨fx, b0, o0, rfl, hb, hcell⟩ := H.out.2.2.1 k x hx
      have y0 : wr.cell? ⟨b0, o0 + k, none⟩ = some (.int .i64 x) := (J.out.low.cell (p := ⟨b0, o0 + k, none⟩) (by rw [← HR.out]; exact hb)).trans hcell
      have hdrop : L.drop k = x :: L.drop (k + 1) := by
        rw [List.drop_eq_getElem_cons hlt]
        congr 1
        exact (List.getElem?_eq_some_iff.1 hx).2
      have HW : Hid (way S c' a d (x :: L.drop (k + 1)) = R ∧ I64 x ∧ k < L.length) := ⟨by rw [← hdrop]; exact J.out.way, fx, hlt⟩
      have hlt' : (k : Int) < (L.length : Int) := by omega
      clear hlt hk hx hb hcell hdrop fx
      generalize hLl : L.length = n at *
      have HLn : Hid (L.length = n) := hLl
      clear hLl
      obtain ⟨z0, z1, z2, z3, z4, z5⟩ := J.out.cap.cells
      go_wp2_with fail
      refine (sizeOf_any p F S c' wr (H.out.1.below (by rw [HR.out]; exact J.out.low)) J.out.fits).mono ?_
      rintro e w2 ⟨rfl, b2⟩
      have LO : Hid (Below r w w2) := Below.then J.out.low b2 (by have := J.out.low.size; have := HR.out; omega)
      have e1 : Hid (AtA w2 q1 a d) := J.out.adr.below b2
      have e2 : Hid (AtC w2 q2 c') := J.out.cap.below b2
      have CF : Hid (c'.Fits ∧ d ≤ 64 ∧ a < 2 ^ d) := ⟨J.out.fits, J.out.d64, J.out.lt⟩
      clear z0 z1 z2 z3 z4 z5 y0 J b2
      obtain ⟨z0, z1, z2, z3, z4, z5⟩ := e2.out.cells
      by_cases hN : isN S c'
      · have s1 : sizeC S c' = bitsN S c' := by unfold sizeC; rw [if_pos hN]
        have s2 : decide (isN S c') = true := by simp [hN]
        rw [s1, s2]
        have HN : Hid (isN S c') := hN
        clear s1 s2 hN
        go_wp2_with fail
        refine (get_any p F S ⟨c'.o, x⟩ w2 (H.out.1.below (by rw [HR.out]; exact LO.out)) (fits_mk CF.out.1 HW.out.2.1)).mono ?_
        rintro e w3 ⟨rfl, b3⟩
        have cf : Hid ((getC S ⟨c'.o, x⟩).Fits) := getC_fits H.out.2.1 _
        have LO3 : Below r w w3 := Below.then LO.out b3 (by have := LO.out.size; have := HR.out; omega)
        have bn := below_new w3 (objC (getC S ⟨c'.o, x⟩))
        have LO4 : Hid (Below r w (w3.alloc (objC (getC S ⟨c'.o, x⟩)))) := LO3.alloc (by have := LO3.size; have := HR.out; omega) _
        have g1 : Hid (AtA (w3.alloc (objC (getC S ⟨c'.o, x⟩))) q1 a d) := (e1.out.below b3).below bn
        have g2 : Hid (AtC (w3.alloc (objC (getC S ⟨c'.o, x⟩))) q2 c') := (e2.out.below b3).below bn
        have g3 : Hid (AtC (w3.alloc (objC (getC S ⟨c'.o, x⟩))) w3.heap.size (getC S ⟨c'.o, x⟩)) := AtC.new _ _
        have g4 : Hid (q1 ≠ w3.heap.size) := by have := (e1.out.below b3).lt; exact (by omega : q1 ≠ w3.heap.size)
        clear z0 z1 z2 z3 z4 z5 e1 e2 LO LO3 b3 bn
        by_cases hat : (atS S ⟨c'.o, x⟩).isSome = true
        · have ge : getE S ⟨c'.o, x⟩ = 0 := by unfold getE; rw [if_pos hat]
          rw [ge]
          have HA : Hid ((atS S ⟨c'.o, x⟩).isSome = true) := hat
          clear ge hat
          obtain ⟨v1, v2, v3⟩ := fine_guard HN.out.2.1
          obtain ⟨r1, r2, r3, r4, r5, r6⟩ := node_row H.out.2.1 HN.out.2.2
          have hb1 : 1 ≤ bitsN S c' := r3
          have hb2 : bitsN S c' ≤ 8 := r4
          obtain ⟨x0, x1⟩ := at_lt HA.out H.out.2.1 HN.out.2.2
          have xl : x.toNat < 2 ^ bitsN S c' := x1
          have gl := guard_lt HN.out.2.1
          obtain ⟨Z, hZ⟩ := Int.eq_ofNat_of_zero_le v1
          obtain ⟨G, hG⟩ := Int.eq_ofNat_of_zero_le CF.out.1.g.1
          obtain ⟨X, rfl⟩ := Int.eq_ofNat_of_zero_le x0
          rw [hZ, hG] at gl
          simp only [Int.toNat_natCast] at gl xl
          have hX8 : 2 ^ bitsN S c' ≤ 2 ^ 8 := Nat.pow_le_pow_right (by omega) hb2
          have hX : (X : Int) < 256 := by omega
          have hX0 : (0 : Int) ≤ (X : Int) := by omega
          have zt : c'.z.toNat = Z := by omega
          have gt : c'.g.toNat = G := by omega
          have HW2 : Hid (d + Z + bitsN S c' ≤ 64 → way S (getC S ⟨c'.o, (X : Int)⟩) ((a * 2 ^ Z + G) * 2 ^ bitsN S c' + X) (d + Z + bitsN S c') (L.drop (k + 1)) = R) := fun hd => by
            have := way_cons (a := a) (d := d) (l := L.drop (k + 1)) HN.out HA.out (by rw [zt]; exact hd)
            rw [zt, gt, Int.toNat_natCast] at this
            rw [← this]
            exact HW.out.1
          have HW3 : Hid (¬ d + Z + bitsN S c' ≤ 64 → R = (0, 0, 62)) := fun hd => by
            rw [← HW.out.1, way, if_pos HN.out, if_pos HA.out, zt, if_neg hd]
          have HK : Hid (k < n) := HW.out.2.2
          have ZG : Hid (c'.z = Z ∧ c'.g = G ∧ Z ≤ 64) := ⟨hZ, hG, by omega⟩
          have BX : Hid (G < 2 ^ Z ∧ X < 2 ^ bitsN S c') := ⟨gl, xl⟩
          clear v1 v2 v3 r1 r2 r3 r4 r5 r6 x0 x1 xl gl hZ hG hX8 zt gt HW HA HN
          generalize getC S ⟨c'.o, (X : Int)⟩ = gc at *
          generalize bitsN S c' = m at *
          obtain ⟨y0, y1, _, _⟩ := g1.out.cells
          obtain ⟨z0, z1, z2, z3, z4, z5⟩ := g2.out.cells
          rw [ZG.out.1] at z5
          rw [ZG.out.2.1] at z4
          simp only [encC, objC] at *
          by_cases hdz : d + Z ≤ 64
          · have L1 : Hid (a * 2 ^ Z + G < 2 ^ (d + Z)) := by
              have := BX.out.1
              have e : 2 ^ (d + Z) = 2 ^ d * 2 ^ Z := Nat.pow_add _ _ _
              have : (a + 1) * 2 ^ Z ≤ 2 ^ d * 2 ^ Z := Nat.mul_le_mul_right _ CF.out.2.2
              have e2 : (a + 1) * 2 ^ Z = a * 2 ^ Z + 2 ^ Z := by rw [Nat.add_mul, Nat.one_mul]
              show a * 2 ^ Z + G < 2 ^ (d + Z)
              omega
            have HD : Hid (d + Z ≤ 64) := hdz
            clear hdz
            go_wp2_with fail
            refine (add_yes q1 a d G Z _ g1.out CF.out.2.2 HD.out BX.out.1).mono ?_
            rintro e w5 ⟨rfl, k5, t5⟩
            have LO5 : Hid (Below r w w5) := t5.below LO4.out (fun x hx => by unfold One at hx; have := Q.out; omega) (by have := LO4.out.size; have := HR.out; omega)
            have A5 : Hid (AtA w5 q1 ((a * 2 ^ Z + G : Nat) : Int) ((d + Z : Nat) : Int)) := k5
            have C5 : Hid (AtC w5 q2 c') := g2.out.turn t5 (by unfold One; have := Q.out; omega)
            have N5 : Hid (AtC w5 w3.heap.size gc) := g3.out.turn t5 (by unfold One; have := g4.out; omega)
            clear y0 y1 z0 z1 z2 z3 z4 z5 k5 t5 g1 g2 g3
            by_cases hdm : d + Z + m ≤ 64
            · have HW4 : Hid _ := HW2.out hdm
              go_wp2_with fail
              refine (add_yes q1 (a * 2 ^ Z + G) (d + Z) X m _ A5.out L1.out hdm BX.out.2).mono ?_
              rintro e w6 ⟨rfl, k6, t6⟩
              have LO6 : Below r w w6 := t6.below LO5.out (fun x hx => by unfold One at hx; have := Q.out; omega) (by have := LO5.out.size; have := HR.out; omega)
              have C6 := C5.out.turn t6 (by unfold One; have := Q.out; omega)
              have N6 := N5.out.turn t6 (by unfold One; have := g4.out; omega)
              have L2 : Hid ((a * 2 ^ Z + G) * 2 ^ m + X < 2 ^ (d + Z + m)) := by
                have := BX.out.2
                have e : 2 ^ (d + Z + m) = 2 ^ (d + Z) * 2 ^ m := Nat.pow_add _ _ _
                have : (a * 2 ^ Z + G + 1) * 2 ^ m ≤ 2 ^ (d + Z) * 2 ^ m := Nat.mul_le_mul_right _ L1.out
                have e2 : (a * 2 ^ Z + G + 1) * 2 ^ m = (a * 2 ^ Z + G) * 2 ^ m + 2 ^ m := by rw [Nat.add_mul, Nat.one_mul]
                show (a * 2 ^ Z + G) * 2 ^ m + X < 2 ^ (d + Z + m)
                omega
              have K6 : Hid (Wk S R L w r q1 q2 (k + 1) gc ((a * 2 ^ Z + G) * 2 ^ m + X) (d + Z + m) (six w6 q2 gc)) :=
                ⟨six_below LO6 (by have := Q.out; omega) gc, (six_other _ _ _ _ (by have := Q.out; omega)).trans k6, C6.six gc, cf.out, hdm, L2.out, HW4.out⟩
              have SIX : Hid (six w6 q2 gc = (((((w6.setCell ⟨q2, 0, none⟩ (.int .i64 gc.k)).setCell ⟨q2, 1, none⟩ (.int .i64 gc.o)).setCell ⟨q2, 2, none⟩ (.int .i64 gc.r)).setCell ⟨q2, 3, none⟩ (.int .u64 gc.b)).setCell ⟨q2, 4, none⟩ (.int .u64 gc.g)).setCell ⟨q2, 5, none⟩ (.int .i64 gc.z)) := rfl
              obtain ⟨z0, z1, z2, z3, z4, z5⟩ := C6.cells
              have zf := C6.frozen
              obtain ⟨y0, y1, y2, y3, y4, y5⟩ := N6.cells
              clear k6 t6 C6 N6 LO6 hdm A5 C5 N5 LO5
              go_wp2
              go_roundw
              case rel => exact ⟨k + 1, gc, _, _, HK.out, by go_num, by rw [← SIX.out]; exact K6.out⟩
              case measure => simp [intOf]; have := HK.out; omega
            · have hR := HW3.out hdm
              subst hR
              have hdm' : Hid (¬ d + Z + m ≤ 64) := hdm
              clear hdm
              go_wp2_with fail
              refine (add_no q1 _ _ X m _ A5.out (by omega) (by have := HD.out; omega) (by have := hdm'.out; omega)).mono ?_
              rintro e w6 ⟨rfl, rfl⟩
              go_wp2
              refine bodyPost_ret (v := .tuple #[.int .u64 0, .int .i64 0, .int .i64 62]) ?_ rfl ⟨rfl, ?_⟩
              · simp [results, Try.f18, go_sem]
              · rw [HR.out]; exact LO5.out
          · have hR := HW3.out (by omega)
            subst hR
            have HD : Hid (¬ d + Z ≤ 64) := hdz
            clear hdz
            go_wp2_with fail
            refine (add_no q1 a d G Z _ g1.out (by omega) (by have := CF.out.2.1; omega) (by have := HD.out; omega)).mono ?_
            rintro e w6 ⟨rfl, rfl⟩
            go_wp2
            refine bodyPost_ret (v := .tuple #[.int .u64 0, .int .i64 0, .int .i64 62]) ?_ rfl ⟨rfl, ?_⟩
            · simp [results, Try.f18, go_sem]
            · rw [HR.out]; exact LO4.out
        · have ge : getE S ⟨c'.o, x⟩ = 50 := by unfold getE; rw [if_neg hat]
          rw [ge]
          have hR : R = (0, 0, 50) := by rw [← HW.out.1, way, if_pos HN.out, if_neg hat]
          subst hR
          clear ge hat
          generalize getC S ⟨c'.o, x⟩ = gc at *
          simp only [encC, objC] at *
          go_wp2
          refine bodyPost_ret (v := .tuple #[.int .u64 0, .int .i64 0, .int .i64 50]) ?_ rfl ⟨rfl, ?_⟩
          · simp [results, Try.f18, go_sem]
          · rw [HR.out]; exact LO4.out
      · have s1 : sizeC S c' = 0 := by unfold sizeC; rw [if_neg hN]
        have s2 : decide (isN S c') = false := by simp [hN]
        rw [s1, s2]
        have hR : R = (0, 0, 60) := by rw [← HW.out.1, way, if_neg hN]
        subst hR
        clear s1 s2 hN
        go_wp2
        refine bodyPost_ret (v := .tuple #[.int .u64 0, .int .i64 0, .int .i64 60]) ?_ rfl ⟨rfl, ?_⟩
        · simp [results, Try.f18, go_sem]
        · rw [HR.out]; exact LO.out
    · have hlt' : ¬ ((k : Int) < (L.length : Int)) := by omega
      have hn : L.drop k = [] := List.drop_eq_nil_of_le (by omega)
      have HW : Hid (way S c' a d [] = R) := by rw [← hn]; exact J.out.way
      clear hn hlt hk
      generalize hLl : L.length = n at *
      obtain ⟨y0, y1, _, _⟩ := J.out.adr.cells
      go_wp2_with fail
      go_quiet (fail)
      go_wp2
      refine bodyPost_ret (v := .tuple #[.int .u64 a, .int .i64 d, .int .i64 0]) ?_ rfl ⟨?_, ?_⟩
      · simp [results, Try.f18, go_sem]
      · rw [← HW.out]; rfl
      · rw [HR.out]; exact below_drewN J.out.low _
theorem addr_any (p : Nat) (F : Nat → Prop) (S : St) (c : Cp) (ao : Option Addr) (L : List Int) (cap : Nat) (w : World) (h : Nds w p F S) (hf : c.Fits) (hL : Ints w ao L) (hl : L.length ≤ 9223372036854775807) :
    Calls Try.prog 18 #[.pointer (some ⟨p, 0, none⟩), encC c, .slice ao L.length cap] w fun e w' => e = .returned (.tuple #[.int .u64 (wayR S c L).1, .int .i64 (wayR S c L).2.1, .int .i64 (wayR S c L).2.2]) ∧ Below w.heap.size w w' := by
  by_cases h0 : L = []
  · subst h0
    exact addr_arg p S c ao cap w
  · have e : wayR S c L = way S c 0 0 L := by unfold wayR; rw [if_neg h0]
    rw [e]
    exact addr_in p F S c ao L cap w h hf hL hl h0
end Go.Proofs.Ytafjgoelofobmaa

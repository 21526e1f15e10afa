/-
  What Slot of package lookup answers: the slot that an address names, or what is wrong; no condition but that the numbers fit.
-/
import Derived.Test.YtafjgoelofobmabKNamed
namespace Go.Proofs.Ytafjgoelofobmab
open Go.RowKit Go.Deep Go.MapKept Go.Maps
set_option linter.unusedSectionVars false
variable [dCp : DecidableEq Cp] [dLim : ∀ k, Decidable (Lim k)] [dBad : ∀ k, Decidable (Bad k)] [dFit : ∀ g z, Decidable (Fit g z)] [dFine : ∀ c, Decidable (Fine c)] [dMint : ∀ c v, Decidable (MintR c v)] [dWho : ∀ x y, Decidable (Whose x y)] [dSl : DecidableEq Sl] [dLt : ∀ a b, Decidable (ltS a b)] [dIsN : ∀ S c, Decidable (isN S c)] [dGuN : ∀ a c d, Decidable (GuardN a c d)]

def six (w : World) (q : Nat) (c : Cp) : World := (((((w.setCell ⟨q, 0, none⟩ (.int .i64 c.k)).setCell ⟨q, 1, none⟩ (.int .i64 c.o)).setCell ⟨q, 2, none⟩ (.int .i64 c.r)).setCell ⟨q, 3, none⟩ (.int .u64 c.b)).setCell ⟨q, 4, none⟩ (.int .u64 c.g)).setCell ⟨q, 5, none⟩ (.int .i64 c.z)
theorem AtC.six {w : World} {q : Nat} {c : Cp} (h : AtC w q c) (d : Cp) : AtC (six w q d) q d := by
  unfold AtC objC at h ⊢
  unfold Go.Proofs.Ytafjgoelofobmab.six
  simp [World.setCell, Array.getElem?_modify, h]
theorem six_other (w : World) (q : Nat) (c : Cp) (k : Nat) (hk : k ≠ q) : (six w q c).heap[k]? = w.heap[k]? := by
  unfold six
  rw [blk_setCell_other _ _ _ _ hk, blk_setCell_other _ _ _ _ hk, blk_setCell_other _ _ _ _ hk, blk_setCell_other _ _ _ _ hk, blk_setCell_other _ _ _ _ hk, blk_setCell_other _ _ _ _ hk]
theorem six_below {B q : Nat} {w u : World} (h : Below B w u) (hq : B ≤ q) (c : Cp) : Below B w (six u q c) := six_sets h hq _ _ _ _ _ _
def depthOf (w : World) (q : Nat) : Nat := match w.cell? ⟨q, 1, none⟩ with
  | some (.int _ d) => d.toNat
  | _ => 0
theorem AtA.depth {w : World} {q : Nat} {a : Int} {d : Nat} (h : AtA w q a d) : depthOf w q = d := by
  unfold depthOf
  rw [h.cells.2.1]
  simp
theorem box4 (w : World) (o o1 o2 o3 : Obj) : ((((w.alloc o).alloc o1).alloc o2).alloc o3).heap[w.heap.size]? = some o ∧ ((((w.alloc o).alloc o1).alloc o2).alloc o3).heap[w.heap.size + 1]? = some o1 ∧ ((((w.alloc o).alloc o1).alloc o2).alloc o3).heap[w.heap.size + 2]? = some o2 ∧ ((((w.alloc o).alloc o1).alloc o2).alloc o3).heap[w.heap.size + 3]? = some o3 ∧ Below w.heap.size w ((((w.alloc o).alloc o1).alloc o2).alloc o3) := by
  refine ⟨?_, ?_, ?_, ?_, ?_⟩
  · rw [blk_alloc_lt _ _ _ (by simp; omega), blk_alloc_lt _ _ _ (by simp; omega), blk_alloc_lt _ _ _ (by simp)]
    exact blk_alloc_new _ _
  · rw [blk_alloc_lt _ _ _ (by simp), blk_alloc_lt _ _ _ (by simp)]
    have := blk_alloc_new (w.alloc o) o1
    simpa using this
  · rw [blk_alloc_lt _ _ _ (by simp)]
    have := blk_alloc_new ((w.alloc o).alloc o1) o2
    simpa using this
  · have := blk_alloc_new (((w.alloc o).alloc o1).alloc o2) o3
    simpa using this
  · exact (((two_new w o o1).alloc (by simp; omega) _).alloc (by simp; omega) _)
theorem fits_small {s : Sl} (h : 0 ≤ s.n ∧ s.n < 64 ∧ 0 ≤ s.i ∧ s.i < 256) : s.Fits := by
  constructor <;> constructor <;> omega
theorem slot_arg (p : Nat) (S : St) (c : Cp) (a d : Int) (w : World) (hd : ¬ (1 ≤ d ∧ d ≤ 64)) :
    Calls Try.prog 5 #[.pointer (some ⟨p, 0, none⟩), encC c, .int .u64 a, .int .i64 d] w fun e w' => e = .returned (.tuple #[encS (slotR S c a d).1, .int .i64 (slotR S c a d).2]) ∧ Below w.heap.size w w' := by
  have e : slotR S c a d = (sl0, 1) := by unfold slotR; rw [if_neg hd]
  rw [e]
  obtain ⟨x1, x2, x3, x4⟩ := box2 w (objC c) (objS sl0)
  have B : Hid (Below w.heap.size w ((w.alloc (objC c)).alloc (objS sl0))) := x4
  obtain ⟨s0, s1⟩ := AtS.cells (s := sl0) x2
  have sf := AtS.frozen (s := sl0) x2
  clear e x1 x2 x3 x4
  simp only [encC, objC, objS, sl0] at *
  by_cases h1 : d < 1
  · clear hd
    go_enter Try.func5, Try.ntmps5
    go_wp2
    refine bodyPost_ret (v := .tuple #[encS sl0, .int .i64 1]) ?_ rfl ⟨rfl, B.out⟩
    simp [results, Try.f5, go_sem, encS, sl0, s0, s1]
  · have h2 : 64 < d := by omega
    clear hd
    go_enter Try.func5, Try.ntmps5
    go_wp2
    refine bodyPost_ret (v := .tuple #[encS sl0, .int .i64 1]) ?_ rfl ⟨rfl, B.out⟩
    simp [results, Try.f5, go_sem, encS, sl0, s0, s1]
/-- What holds at each round: the node's capability, the bits that are left, and that the rest leads to R. -/
structure Lk (S : St) (a : Nat) (R : Sl × Int) (w : World) (r q1 q2 q3 : Nat) (c : Cp) (d f : Nat) (W : World) : Prop where
  low : Below r w W
  res : AtS W q1 sl0
  adr : AtA W q2 a d
  cap : AtC W q3 c
  fits : c.Fits
  d64 : d ≤ 64
  lt : d < f
  look : look S a f c d = R
theorem two_sets {B q : Nat} {w u : World} (h : Below B w u) (hq : B ≤ q) (a b : Value) : Below B w ((u.setCell ⟨q, 0, none⟩ a).setCell ⟨q, 1, none⟩ b) :=
  (h.setCell (p := ⟨q, 0, none⟩) hq a).setCell (p := ⟨q, 1, none⟩) hq b
set_option maxHeartbeats 2000000 in
set_option maxRecDepth 100000 in
theorem slot_in (p : Nat) (F : Nat → Prop) (S : St) (c : Cp) (a d : Nat) (w : World) (h : Nds w p F S) (hf : c.Fits) (ha : a < 18446744073709551616) (hd : 1 ≤ d ∧ d ≤ 64) :
    Calls Try.prog 5 #[.pointer (some ⟨p, 0, none⟩), encC c, .int .u64 a, .int .i64 d] w fun e w' => e = .returned (.tuple #[encS (look S a 65 c d).1, .int .i64 (look S a 65 c d).2]) ∧ Below w.heap.size w w' := by
  have H : Hid (Nds w p F S ∧ Okay S ∧ a < 18446744073709551616 ∧ ∀ x, F x → x < w.heap.size) := ⟨h, h.ok, ha, h.lt⟩
  obtain ⟨x1, x2, x3, x4, x5⟩ := box4 w (objC c) (objS sl0) (objA a d) (objC c)
  obtain ⟨R, HR0⟩ : ∃ R, Hid (look S a 65 c d = R) := ⟨_, rfl⟩
  rw [HR0.out]
  obtain ⟨r, HR⟩ : ∃ r, Hid (w.heap.size = r) := ⟨_, rfl⟩
  have hQ : r ≤ w.heap.size + 1 ∧ r ≤ w.heap.size + 1 + 1 ∧ r ≤ w.heap.size + 1 + 1 + 1 ∧ w.heap.size + 1 ≠ w.heap.size + 1 + 1 ∧ w.heap.size + 1 ≠ w.heap.size + 1 + 1 + 1 ∧ w.heap.size + 1 + 1 ≠ w.heap.size + 1 + 1 + 1 := by have := HR.out; omega
  have Q : Hid (r ≤ w.heap.size + 1 ∧ r ≤ w.heap.size + 1 + 1 ∧ r ≤ w.heap.size + 1 + 1 + 1 ∧ w.heap.size + 1 ≠ w.heap.size + 1 + 1 ∧ w.heap.size + 1 ≠ w.heap.size + 1 + 1 + 1 ∧ w.heap.size + 1 + 1 ≠ w.heap.size + 1 + 1 + 1) := hQ
  have K : Hid (Lk S a R w r (w.heap.size + 1) (w.heap.size + 1 + 1) (w.heap.size + 1 + 1 + 1) c d 65 ((((w.alloc (objC c)).alloc (objS sl0)).alloc (objA a d)).alloc (objC c))) := ⟨by rw [← HR.out]; exact x5, x2, x3, x4, hf, hd.2, by omega, HR0.out⟩
  have hmf : ∀ (fn : Fn) (first cap : Array Value) (w : World), (Instr.makeFunc fn first cap).run Try.prog w = .ok (.func fn first cap) w := fun _ _ _ _ => rfl
  have hd1 : (1 : Int) ≤ (d : Int) := by omega
  have hd2 : (d : Int) ≤ 64 := by omega
  clear h hf ha x1 x2 x3 x4 x5 HR0 hd hQ
  simp only [encC, objC, objS, objA, sl0] at *
  go_enter Try.func5, Try.ntmps5
  go_wp2_with fail
  generalize (((w.alloc (.cells #[.int .i64 c.k, .int .i64 c.o, .int .i64 c.r, .int .u64 c.b, .int .u64 c.g, .int .i64 c.z] 28)).alloc (.cells #[.int .i64 0, .int .i64 0] 36)).alloc (.cells #[.int .u64 (a : Int), .int .i64 (d : Int)] 55)).alloc (.cells #[.int .i64 c.k, .int .i64 c.o, .int .i64 c.r, .int .u64 c.b, .int .u64 c.g, .int .i64 c.z] 28) = w1 at *
  generalize w.heap.size + 1 + 1 + 1 = q3 at *
  generalize w.heap.size + 1 + 1 = q2 at *
  generalize w.heap.size + 1 = q1 at *
  go_loopw [14] (fun _ wr => ∃ (c : Cp) (d f : Nat), Lk S a R w r q1 q2 q3 c d f wr) (fun _ wr => depthOf wr q2)
  case atStart => exact ⟨c, d, 65, K.out⟩
  case round =>
    clear K
    obtain ⟨c', d', f, hl⟩ := hrel
    have L : Hid (Lk S a R w r q1 q2 q3 c' d' f wr) := hl
    clear hl
    obtain ⟨z0, z1, z2, z3, z4, z5⟩ := L.out.cap.cells
    go_wp2_with fail
    refine (named_any p q2 F S c' a d' wr (H.out.1.below (by rw [HR.out]; exact L.out.low)) L.out.adr (fun hF => by have := H.out.2.2.2 _ hF; have := HR.out; have := Q.out; omega) L.out.fits H.out.2.2.1 L.out.d64).mono ?_
    rintro e w2 ⟨rfl, t2, k2⟩
    obtain ⟨f, rfl⟩ : ∃ g, f = g + 1 := ⟨f - 1, by have := L.out.lt; omega⟩
    have HL : Hid ((if nameE S a c' d' = 0 then if restN S c' d' = 0 then (slotN S a c' d', 0) else if (getC S (slotN S a c' d')).k = 2 then look S a f (getC S (slotN S a c' d')) (restN S c' d') else (sl0, 62) else (sl0, nameE S a c' d')) = R ∧ (nameE S a c' d' = 0 → restN S c' d' < d')) := by
      refine ⟨?_, fun h0 => rest_lt H.out.2.1 h0⟩
      have := L.out.look
      unfold look at this
      exact this
    obtain ⟨ss, HS⟩ : ∃ ss, Hid (nameS S a c' d' = ss) := ⟨_, rfl⟩
    obtain ⟨en, HE⟩ : ∃ en, Hid (nameE S a c' d' = en) := ⟨_, rfl⟩
    rw [HS.out, HE.out]
    rw [HE.out] at k2 HL
    have sfit : Hid (ss.Fits) := by rw [← HS.out]; exact fits_small (name_small H.out.2.1)
    have low2 : Below r w w2 := t2.below L.out.low (fun x hx => by unfold One at hx; have := Q.out; omega) (by have := L.out.low.size; have := HR.out; omega)
    have LO : Hid (Below r w (w2.alloc (objS ss))) := low2.alloc (by have := low2.size; have := HR.out; omega) _
    have bn := below_new w2 (objS ss)
    have e1 : Hid (AtS (w2.alloc (objS ss)) q1 sl0) := (L.out.res.turn t2 (by unfold One; have := Q.out; omega)).below bn
    have e3 : Hid (AtC (w2.alloc (objS ss)) q3 c') := (L.out.cap.turn t2 (by unfold One; have := Q.out; omega)).below bn
    have e2 : Hid (en = 0 → AtA (w2.alloc (objS ss)) q2 a (restN S c' d')) := fun h0 => (k2 h0).below bn
    have e4 : Hid (AtS (w2.alloc (objS ss)) w2.heap.size ss) := AtS.new w2 ss
    have D : Hid (d' ≤ 64 ∧ depthOf wr q2 = d' ∧ d' < f + 1) := ⟨L.out.d64, L.out.adr.depth, L.out.lt⟩
    have hq4 : Hid (r ≤ w2.heap.size) := by have := low2.size; have := HR.out; exact (by omega : r ≤ w2.heap.size)
    clear z0 z1 z2 z3 z4 z5 t2 k2 L low2 bn
    simp only [encS, objS] at *
    by_cases he : en = 0
    · subst he
      have HL1 := HL.out.1
      rw [if_pos rfl] at HL1
      have HLt : Hid (restN S c' d' < d') := HL.out.2 rfl
      have A2 : Hid (AtA (w2.alloc (.cells #[.int .i64 ss.n, .int .i64 ss.i] 36)) q2 a (restN S c' d')) := e2.out rfl
      have HSS : Hid (ss = slotN S a c' d') := by
        have h1 : nameS S a c' d' = slotN S a c' d' := by unfold nameS; rw [if_pos HE.out]
        exact HS.out.symm.trans h1
      rw [← HSS.out] at HL1
      clear e2 HL HE HS
      obtain ⟨y0, y1, _, _⟩ := A2.out.cells
      obtain ⟨s0, s1⟩ := e4.out.cells
      obtain ⟨t0, t1⟩ := e1.out.cells
      have tf := e1.out.frozen
      generalize restN S c' d' = rd at *
      by_cases hr : rd = 0
      · subst hr
        rw [if_pos rfl] at HL1
        subst HL1
        simp only [sl0] at t0 t1
        go_wp2_with fail
        refine bodyPost_ret (v := .tuple #[encS ss, .int .i64 0]) ?_ rfl ⟨rfl, ?_⟩
        · simp [results, Try.f5, go_sem, encS, t0, t1]
        · rw [HR.out]; exact two_sets LO.out (by have := Q.out; omega) _ _
      · rw [if_neg hr] at HL1
        have hr' : (((rd : Nat) : Int) == 0) = false := by simp; omega
        have HRd : Hid (¬ rd = 0) := hr
        clear hr
        go_wp2_with fail
        refine (get_any p F S ss _ (H.out.1.below (by rw [HR.out]; exact LO.out)) sfit.out).mono ?_
        rintro e w3 ⟨rfl, b3⟩
        have cf : Hid ((getC S ss).Fits) := getC_fits H.out.2.1 ss
        have LO3 : Hid (Below r w w3) := Below.then LO.out b3 (by have := LO.out.size; have := HR.out; omega)
        have e1' : Hid (AtS w3 q1 sl0) := e1.out.below b3
        have e2' : Hid (AtA w3 q2 a rd) := A2.out.below b3
        have e3' : Hid (AtC w3 q3 c') := e3.out.below b3
        clear y0 y1 s0 s1 t0 t1 tf e1 e3 e4 A2 LO b3 sfit
        generalize getC S ss = gc at *
        generalize getE S ss = ge at *
        have LO4 : Hid (Below r w (six w3 q3 gc)) := six_below LO3.out (by have := Q.out; omega) gc
        have f1 : Hid (AtS (six w3 q3 gc) q1 sl0) := (six_other _ _ _ _ (by have := Q.out; omega)).trans e1'.out
        have f2 : Hid (AtA (six w3 q3 gc) q2 a rd) := (six_other _ _ _ _ (by have := Q.out; omega)).trans e2'.out
        have f3 : Hid (AtC (six w3 q3 gc) q3 gc) := e3'.out.six gc
        obtain ⟨z0, z1, z2, z3, z4, z5⟩ := e3'.out.cells
        have zf := e3'.out.frozen
        obtain ⟨g0, g1, g2, g3, g4, g5⟩ := f3.out.cells
        obtain ⟨t0, t1⟩ := f1.out.cells
        have tf := f1.out.frozen
        simp only [sl0] at t0 t1
        clear e1' e2' e3' LO3
        simp only [encC] at *
        have SIX : Hid (six w3 q3 gc = (((((w3.setCell ⟨q3, 0, none⟩ (.int .i64 gc.k)).setCell ⟨q3, 1, none⟩ (.int .i64 gc.o)).setCell ⟨q3, 2, none⟩ (.int .i64 gc.r)).setCell ⟨q3, 3, none⟩ (.int .u64 gc.b)).setCell ⟨q3, 4, none⟩ (.int .u64 gc.g)).setCell ⟨q3, 5, none⟩ (.int .i64 gc.z)) := rfl
        go_upto_region 12 with fail
        rw [← SIX.out]
        clear SIX z0 z1 z2 z3 z4 z5 zf
        generalize six w3 q3 gc = w4 at *
        by_cases hk : gc.k = 2
        · have hk' : (gc.k != 2) = false := by simp [hk]
          rw [if_pos hk] at HL1
          have HL2 : Hid (look S a f gc rd = R) := HL1
          clear hk HL1
          go_wp2
          go_roundw
          case rel => exact ⟨gc, rd, f, LO4.out, f1.out, f2.out, f3.out, cf.out, by have := D.out; have := HLt.out; omega, by have := D.out; have := HLt.out; omega, HL2.out⟩
          case measure => rw [f2.out.depth, D.out.2.1]; exact HLt.out
        · have hk' : (gc.k != 2) = true := by simp [hk]
          rw [if_neg hk] at HL1
          subst HL1
          clear hk
          go_wp2
          refine bodyPost_ret (v := .tuple #[encS sl0, .int .i64 62]) ?_ rfl ⟨rfl, ?_⟩
          · simp [results, Try.f5, go_sem, encS, sl0, t0, t1]
          · rw [HR.out]; exact two_sets LO4.out (by have := Q.out; omega) _ _
    · have HL1 := HL.out.1
      rw [if_neg he] at HL1
      have he' : (en != 0) = true := by simp [he]
      subst HL1
      clear he e2 HL HE
      obtain ⟨t0, t1⟩ := e1.out.cells
      have tf := e1.out.frozen
      simp only [sl0] at t0 t1
      go_wp2_with fail
      refine bodyPost_ret (v := .tuple #[encS sl0, .int .i64 en]) ?_ rfl ⟨rfl, ?_⟩
      · simp [results, Try.f5, go_sem, encS, sl0, t0, t1]
      · rw [HR.out]; exact two_sets LO.out (by have := Q.out; omega) _ _
theorem slot_any (p : Nat) (F : Nat → Prop) (S : St) (c : Cp) (a d : Int) (w : World) (h : Nds w p F S) (hf : c.Fits) (ha : 0 ≤ a ∧ a ≤ 18446744073709551615) :
    Calls Try.prog 5 #[.pointer (some ⟨p, 0, none⟩), encC c, .int .u64 a, .int .i64 d] w fun e w' => e = .returned (.tuple #[encS (slotR S c a d).1, .int .i64 (slotR S c a d).2]) ∧ Below w.heap.size w w' := by
  by_cases hd : 1 ≤ d ∧ d ≤ 64
  · obtain ⟨A, rfl⟩ := Int.eq_ofNat_of_zero_le ha.1
    obtain ⟨D, rfl⟩ := Int.eq_ofNat_of_zero_le (show 0 ≤ d by omega)
    have e : slotR S c (A : Int) (D : Int) = look S A 65 c D := by unfold slotR; rw [if_pos hd]; simp
    rw [e]
    exact slot_in p F S c A D w h hf (by omega) (by omega)
  · exact slot_arg p S c a d w hd

/-! ### Cap -/
set_option maxHeartbeats 1000000 in
theorem cap_any (p : Nat) (F : Nat → Prop) (S : St) (c : Cp) (a d : Int) (w : World) (h : Nds w p F S) (hf : c.Fits) (ha : 0 ≤ a ∧ a ≤ 18446744073709551615) :
    Calls Try.prog 17 #[.pointer (some ⟨p, 0, none⟩), encC c, .int .u64 a, .int .i64 d] w fun e w' => e = .returned (.tuple #[encC (capR S c a d).1, .int .i64 (capR S c a d).2]) ∧ Below w.heap.size w w' := by
  have H : Hid (Nds w p F S ∧ Okay S) := ⟨h, h.ok⟩
  obtain ⟨x1, x2, x3, x4⟩ := box2 w (objC c) (objC no)
  have sc := fun W hW => slot_any p F S c a d W hW hf ha
  obtain ⟨R, HR0⟩ : ∃ R, Hid (capR S c a d = R) := ⟨_, rfl⟩
  rw [HR0.out]
  have HQ : Hid ((slotR S c a d).1.Fits ∧ (if (slotR S c a d).2 = 0 then (getC S (slotR S c a d).1, getE S (slotR S c a d).1) else (no, (slotR S c a d).2)) = R) := ⟨fits_small (slotR_small h.ok), HR0.out⟩
  generalize slotR S c a d = T at *
  obtain ⟨ts, te⟩ := T
  simp only at HQ sc
  clear HR0
  clear h hf
  simp only [encC, objC, no] at *
  go_enter Try.func17, Try.ntmps17
  go_wp2_with fail
  refine (sc _ (H.out.1.below x4)).mono ?_
  rintro e w2 ⟨rfl, b2⟩
  obtain ⟨y1, y2⟩ : AtS (w2.alloc (objS ts)) w2.heap.size ts ∧ Below w2.heap.size w2 (w2.alloc (objS ts)) := ⟨AtS.new w2 ts, below_new w2 _⟩
  have a2 : AtC (w2.alloc (objS ts)) (w.heap.size + 1) no := AtC.below ((b2.block _ (by rw [x3]; omega)).trans x2 : AtC w2 (w.heap.size + 1) no) y2
  have B2 : Below w.heap.size w w2 := Below.then x4 b2 x4.size
  have B : Hid (Below w.heap.size w (w2.alloc (objS ts))) := Below.then B2 y2 B2.size
  clear x1 x2 x3 x4 b2 sc B2 y2
  obtain ⟨s0, s1⟩ := y1.cells
  obtain ⟨z0, z1, z2, z3, z4, z5⟩ := a2.cells
  have zf := a2.frozen
  have Y : Hid (AtS (w2.alloc (objS ts)) w2.heap.size ts ∧ AtC (w2.alloc (objS ts)) (w.heap.size + 1) no) := ⟨y1, a2⟩
  clear a2 y1
  simp only [encS, objS, no] at *
  generalize hr0 : w.heap.size = r at *
  have HR : Hid (w.heap.size = r) := hr0
  clear hr0
  by_cases he : te = 0
  · subst he
    have HQ2 : Hid (R.1 = getC S ts ∧ R.2 = getE S ts) := by
      have := HQ.out.2
      rw [if_pos rfl] at this
      exact ⟨by rw [← this], by rw [← this]⟩
    go_wp2_with fail
    refine (get_any p F S ts _ (H.out.1.below (by rw [HR.out]; exact B.out)) HQ.out.1).mono ?_
    rintro e w3 ⟨rfl, b3⟩
    have B3 : Hid (Below r w w3) := Below.then B.out b3 (by have := B.out.size; have := HR.out; omega)
    have a3 : AtC w3 (r + 1) no := Y.out.2.below b3
    clear s0 s1 z0 z1 z2 z3 z4 z5 zf Y B b3
    obtain ⟨z0, z1, z2, z3, z4, z5⟩ := a3.cells
    have zf := a3.frozen
    clear a3
    simp only [no] at z0 z1 z2 z3 z4 z5
    generalize getC S ts = gc at *
    generalize getE S ts = ge at *
    simp only [encC] at *
    go_wp2
    refine bodyPost_ret (v := .tuple #[encC gc, .int .i64 ge]) ?_ rfl ⟨by rw [HQ2.out.1, HQ2.out.2]; rfl, ?_⟩
    · simp [results, Try.f17, go_sem, encC, z0, z1, z2, z3, z4, z5]
    · rw [HR.out]; exact six_sets B3.out (by omega) _ _ _ _ _ _
  · have HQ2 := HQ.out.2
    rw [if_neg he] at HQ2
    subst HQ2
    have he' : (te != 0) = true := by simp [he]
    clear he
    go_wp2
    refine bodyPost_ret (v := .tuple #[encC no, .int .i64 te]) ?_ rfl ⟨rfl, ?_⟩
    · simp [results, Try.f17, go_sem, encC, no, z0, z1, z2, z3, z4, z5]
    · rw [HR.out]; exact six_sets B.out (by omega) _ _ _ _ _ _
end Go.Proofs.Ytafjgoelofobmab

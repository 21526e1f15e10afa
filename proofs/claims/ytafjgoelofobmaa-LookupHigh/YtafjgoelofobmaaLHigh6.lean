/-
  LookupHigh answers true for every input, and leaves it; no condition of ours.
-/
import Derived.Test.YtafjgoelofobmaaKCalls
import Derived.Deep.CutRange
namespace Go.Proofs.Ytafjgoelofobmaa.lookupHigh
open Go.RowKit Go.Deep Go.MapKept Go.Maps
set_option linter.unusedSectionVars false
section
variable [dCp : DecidableEq Cp] [dLim : ∀ k, Decidable (Lim k)] [dBad : ∀ k, Decidable (Bad k)] [dFit : ∀ g z, Decidable (Fit g z)] [dFine : ∀ c, Decidable (Fine c)] [dMint : ∀ c v, Decidable (MintR c v)] [dWho : ∀ x y, Decidable (Whose x y)] [dSl : DecidableEq Sl] [dLt : ∀ a b, Decidable (ltS a b)] [dIsN : ∀ S c, Decidable (isN S c)] [dGuN : ∀ a c d, Decidable (GuardN a c d)]
theorem rem63 (a : Nat) : ((a : Int) % 63) = ((a % 63 : Nat) : Int) ∧ (a : Int).tmod 63 = ((a % 63 : Nat) : Int) := ⟨by omega, by rw [Int.tmod_eq_emod_of_nonneg (by omega)]; omega⟩
theorem high_addr (a m : Int) (D : Nat) (ha : 0 ≤ a ∧ a ≤ 18446744073709551615) (hm : 0 ≤ m ∧ m ≤ 18446744073709551615) (hD : D ≤ 63) :
    (0 ≤ bits BinOp.or IntKind.u64 (bits BinOp.and IntKind.u64 a (IntKind.u64.wrap (IntKind.u64.wrap (2 ^ D) - 1))) (IntKind.u64.wrap (m * 2 ^ D)) ∧ bits BinOp.or IntKind.u64 (bits BinOp.and IntKind.u64 a (IntKind.u64.wrap (IntKind.u64.wrap (2 ^ D) - 1))) (IntKind.u64.wrap (m * 2 ^ D)) ≤ 18446744073709551615) ∧ (bits BinOp.or IntKind.u64 (bits BinOp.and IntKind.u64 a (IntKind.u64.wrap (IntKind.u64.wrap (2 ^ D) - 1))) (IntKind.u64.wrap (m * 2 ^ D))).toNat % 2 ^ D = a.toNat % 2 ^ D := by
  obtain ⟨A, rfl⟩ := Int.eq_ofNat_of_zero_le ha.1
  obtain ⟨M, rfl⟩ := Int.eq_ofNat_of_zero_le hm.1
  have hp := pow_pos D
  have hl := pow_le D (by omega)
  have e1 : IntKind.u64.wrap (IntKind.u64.wrap (2 ^ D) - 1) = ((2 ^ D - 1 : Nat) : Int) := by
    have := ones_wrap (D : Int) (by omega) (by omega)
    rw [ones_cast] at this
    simpa using this
  have e2 : IntKind.u64.wrap ((M : Int) * 2 ^ D) = ((M * 2 ^ D % 18446744073709551616 : Nat) : Int) := by
    rw [IntKind.wrap_u64, show (M : Int) * 2 ^ D = ((M * 2 ^ D : Nat) : Int) by simp]
    omega
  have hlt : A % 2 ^ D < 2 ^ D := Nat.mod_lt _ hp
  have hm2 : M * 2 ^ D % 18446744073709551616 < 18446744073709551616 := Nat.mod_lt _ (by omega)
  rw [e1, e2, u64_and_nat _ _ (by omega) (by omega), Nat.and_two_pow_sub_one_eq_mod, u64_or_nat _ _ (by omega) hm2]
  have hor : A % 2 ^ D ||| M * 2 ^ D % 18446744073709551616 < 2 ^ 64 := Nat.or_lt_two_pow (by omega) (by omega)
  refine ⟨⟨by omega, by omega⟩, ?_⟩
  simp only [Int.toNat_natCast]
  apply Nat.eq_of_testBit_eq
  intro i
  rw [Nat.testBit_mod_two_pow, Nat.testBit_or, Nat.testBit_mod_two_pow]
  by_cases hi : i < D
  · have h2 : (M * 2 ^ D % 2 ^ 64).testBit i = false := by
      rw [Nat.testBit_mod_two_pow, Nat.testBit_mul_two_pow]
      have : ¬ D ≤ i := by omega
      simp [this]
    have h3 : (M * 2 ^ D % 18446744073709551616).testBit i = false := h2
    rw [h3]
    simp [hi]
  · simp [hi]
theorem put_slot {w0 : World} {r : Nat} {w : World} {p : Nat} {F : Nat → Prop} {p2 : Nat} {F2 : Nat → Prop} {S T : St} {L L' : List (Nat × Obj)} (h : Bk w0 r w p F p2 F2 S T L) {q : Nat} {s0 : Sl} (hb : (q, objS s0) ∈ L) (hr : r ≤ q) (s : Sl) (hL : ∀ b ∈ L', b = (q, objS s) ∨ (b ∈ L ∧ b.1 ≠ q)) : Bk w0 r ((w.setCell ⟨q, 0, none⟩ (.int .i64 s.n)).setCell ⟨q, 1, none⟩ (.int .i64 s.i)) p F p2 F2 S T L' := by
  obtain ⟨h1, h2, h3⟩ := h.blk _ hb
  have t : Turn (One q) w ((w.setCell ⟨q, 0, none⟩ (.int .i64 s.n)).setCell ⟨q, 1, none⟩ (.int .i64 s.i)) := (Turn.setCell (One q) w ⟨q, 0, none⟩ _ rfl).trans (Turn.setCell (One q) _ ⟨q, 1, none⟩ _ rfl) fun x hx => .inl hx
  refine ⟨h.nds.turn t fun x hx e => h2 (by unfold One at e; exact e ▸ hx), h.rds.turn t fun x hx e => h3 (by unfold One at e; exact e ▸ hx), t.below h.low (fun x hx => by unfold One at hx; omega) h.size, h.own, h.own2, Nat.le_trans h.size t.size, h.ap, fun b hb' => ?_⟩
  rcases hL b hb' with rfl | ⟨k1, k2⟩
  · refine ⟨?_, h2, h3⟩
    have h1' : AtS w q s0 := h1
    unfold AtS objS at h1'
    unfold objS
    simp [World.setCell, Array.getElem?_modify, h1']
  · obtain ⟨g1, g2, g3⟩ := h.blk b k1
    exact ⟨(t.block _ (Array.getElem?_eq_some_iff.1 g1).1 (by unfold One; exact k2)).trans g1, g2, g3⟩
theorem fewer3 {a b c x : Nat × Obj} (h : x ∈ [a, b]) : x ∈ [a, b, c] := by
  rcases List.mem_cons.1 h with rfl | h
  · simp
  · rcases List.mem_cons.1 h with rfl | h
    · simp
    · cases h
theorem slot_high {S : St} {c : Cp} {a b : Int} {D : Nat} {R : Sl × Int} (h : a.toNat % 2 ^ D = b.toNat % 2 ^ D) (hv : slotR S c a D = R) : slotR S c b D = R := by
  rw [← hv]
  unfold slotR
  by_cases hd : 1 ≤ (D : Int) ∧ (D : Int) ≤ 64
  · rw [if_pos hd, if_pos hd]
    exact (look_high h 65 c (D : Int).toNat (by simp)).symm
  · rw [if_neg hd, if_neg hd]

set_option maxHeartbeats 8000000 in
set_option maxRecDepth 100000 in
theorem walk (ao : Option Addr) (B : List Int) (cap : Nat) (ho : Option Addr) (H : List (Sl × Cp)) (cap2 : Nat) (x : Ak) (m : Int) (w : World) (hb : Bd w ao B ho H) (hx : x.Fits) (hm : 0 ≤ m ∧ m ≤ 18446744073709551615) :
    Calls Try.prog 7 #[encB ao B.length cap ho H.length cap2, encA x, .int .u64 m] w fun e w' => e = .returned (.bool true) ∧ Below w.heap.size w w' := by
  have HX : Hid (x.Fits ∧ 0 ≤ m ∧ m ≤ 18446744073709551615) := ⟨hx, hm⟩
  clear hx hm
  obtain ⟨r, HR⟩ : ∃ r, Hid (w.heap.size = r) := ⟨_, rfl⟩
  obtain ⟨x1, x2, _, xb⟩ := box2 w (objB ao B.length cap ho H.length cap2) (objK x)
  have BD : Hid (Ints ((w.alloc (objB ao B.length cap ho H.length cap2)).alloc (objK x)) ao B ∧ Helds ((w.alloc (objB ao B.length cap ho H.length cap2)).alloc (objK x)) ho H ∧ B.length ≤ 9223372036854775807 ∧ H.length ≤ 9223372036854775807) := ⟨hb.ints.below xb (Nat.le_refl _), hb.helds.below xb (Nat.le_refl _), hb.lb, hb.lh⟩
  obtain ⟨y0, y1⟩ := bld_cells x1
  have Y : Hid (Below w.heap.size w ((w.alloc (objB ao B.length cap ho H.length cap2)).alloc (objK x)) ∧ ((w.alloc (objB ao B.length cap ho H.length cap2)).alloc (objK x)).heap[w.heap.size + 1]? = some (objK x)) := ⟨xb, x2⟩
  clear xb x1 x2 hb
  simp only [encB, objB, encA, objK] at BD Y y0 y1 ⊢
  go_enter Try.func7, Try.ntmps7
  go_wp2_with fail
  refine (built_any ao B cap ho H cap2 _ BD.out.1 BD.out.2.1 BD.out.2.2.1 BD.out.2.2.2).mono ?_
  rintro e w1 ⟨p, F, p2, F2, rfl, h1⟩
  have H1 : Hid (Bk w w.heap.size w1 p F p2 F2 (builtS B H) (builtS B H) [(w.heap.size + 1, objK x)]) := h1.rebase Y.out.1 Y.out.1.size fun z hz => by
    rcases List.mem_cons.1 hz with rfl | hz
    · exact Y.out.2
    · cases hz
  clear h1 Y y0 y1 BD
  obtain ⟨T, HT⟩ : ∃ T, Hid (builtS B H = T) := ⟨_, rfl⟩
  rw [HT.out] at H1
  generalize w.heap.size + 1 = r1 at *
  rw [HR.out] at H1 ⊢
  obtain ⟨a16, h16, e16⟩ := mask16 x.d
  obtain ⟨m63, H63⟩ : ∃ m63, Hid (a16 % 63 = m63) := ⟨_, rfl⟩
  obtain ⟨rm1, rm2⟩ := rem63 a16
  rw [H63.out] at rm1 rm2
  have hm63 : (m63 : Int) ≤ 62 := by have := H63.out; omega
  obtain ⟨D, HD⟩ : ∃ D, Hid (D = m63 + 1) := ⟨_, rfl⟩
  have hD : (1 : Int) + (m63 : Int) = (D : Int) := by have := HD.out; omega
  have hD1 : (1 : Int) ≤ (D : Int) := by have := HD.out; omega
  have hD2 : (D : Int) ≤ 63 := by have := HD.out; omega
  obtain ⟨s, en, HV⟩ : ∃ s en, Hid (slotR T x.c x.a D = (s, en)) := ⟨_, _, rfl⟩
  clear h16
  obtain ⟨a0, a1, a2, a3, a4, a5, a6, a7⟩ := ak_cells (H1.out.blk (r1, objK x) (by simp)).1
  go_wp2_with fail
  refine (slot_is H1.out.nds HX.out.1.c HX.out.1.a HV.out).mono ?_
  rintro e w2 ⟨he, b2⟩
  obtain rfl : e = .returned (.tuple #[.agg #[.int .i64 s.n, .int .i64 s.i], .int .i64 en]) := he
  have K2 : Hid (Bk w r (w2.alloc (Obj.cells #[.int .i64 s.n, .int .i64 s.i] 36)) p F p2 F2 T T [(w2.heap.size, objS s), (r1, objK x)]) := (H1.out.below b2).alloc (objS s)
  clear b2 H1 a0 a1 a2 a3 a4 a5 a6 a7
  obtain ⟨a0, a1, a2, a3, a4, a5, a6, a7⟩ := ak_cells (K2.out.blk (r1, objK x) (by simp)).1
  go_wp2
  generalize w2.alloc (Obj.cells #[.int .i64 s.n, .int .i64 s.i] 36) = v2 at *
  generalize w2.heap.size = q2 at *
  have hS : v2.cell? ⟨r1, 0, none⟩ = some (.int .i64 x.c.k) ∧ v2.cell? ⟨r1, 1, none⟩ = some (.int .i64 x.c.o) ∧ v2.cell? ⟨r1, 2, none⟩ = some (.int .i64 x.c.r) ∧ v2.cell? ⟨r1, 3, none⟩ = some (.int .u64 x.c.b) ∧ v2.cell? ⟨r1, 4, none⟩ = some (.int .u64 x.c.g) ∧ v2.cell? ⟨r1, 5, none⟩ = some (.int .i64 x.c.z) ∧ v2.cell? ⟨r1, 6, none⟩ = some (.int .u64 x.a) := ⟨a0, a1, a2, a3, a4, a5, a6⟩
  clear a0 a1 a2 a3 a4 a5 a6 a7
  have HP : Hid (∀ W q0, Bk w r W p F p2 F2 T T [q0, (q2, objS s), (r1, objK x)] → W.cell? ⟨r1, 0, none⟩ = some (.int .i64 x.c.k) ∧ W.cell? ⟨r1, 1, none⟩ = some (.int .i64 x.c.o) ∧ W.cell? ⟨r1, 2, none⟩ = some (.int .i64 x.c.r) ∧ W.cell? ⟨r1, 3, none⟩ = some (.int .u64 x.c.b) ∧ W.cell? ⟨r1, 4, none⟩ = some (.int .u64 x.c.g) ∧ W.cell? ⟨r1, 5, none⟩ = some (.int .i64 x.c.z) ∧ W.cell? ⟨r1, 6, none⟩ = some (.int .u64 x.a)) := fun W q0 hW => by
    obtain ⟨a0, a1, a2, a3, a4, a5, a6, a7⟩ := ak_cells (hW.blk (r1, objK x) (by simp)).1
    exact ⟨a0, a1, a2, a3, a4, a5, a6⟩
  have HP1 : Hid (∀ W, Bk w r W p F p2 F2 T T [(q2, objS s), (r1, objK x)] → W.cell? ⟨r1, 0, none⟩ = some (.int .i64 x.c.k) ∧ W.cell? ⟨r1, 1, none⟩ = some (.int .i64 x.c.o) ∧ W.cell? ⟨r1, 2, none⟩ = some (.int .i64 x.c.r) ∧ W.cell? ⟨r1, 3, none⟩ = some (.int .u64 x.c.b) ∧ W.cell? ⟨r1, 4, none⟩ = some (.int .u64 x.c.g) ∧ W.cell? ⟨r1, 5, none⟩ = some (.int .i64 x.c.z) ∧ W.cell? ⟨r1, 6, none⟩ = some (.int .u64 x.a)) := fun W hW => by
    obtain ⟨a0, a1, a2, a3, a4, a5, a6, a7⟩ := ak_cells (hW.blk (r1, objK x) (by simp)).1
    exact ⟨a0, a1, a2, a3, a4, a5, a6⟩
  have zm : AtS (v2.alloc (.cells #[.int .i64 0, .int .i64 0] 36)).drew v2.heap.size ⟨0, 0⟩ := AtS.new v2 ⟨0, 0⟩
  have K2a : Hid (Bk w r (v2.alloc (.cells #[.int .i64 0, .int .i64 0] 36)).drew p F p2 F2 T T [(v2.heap.size, objS ⟨0, 0⟩), (q2, objS s), (r1, objK x)]) := (K2.out.alloc (objS ⟨0, 0⟩)).drew
  obtain ⟨hA1, hA2⟩ := high_addr x.a m D HX.out.1.a HX.out.2 (by omega)
  have SC : Hid (∀ W, Nds W p F T → Calls Try.prog 10 #[.pointer (some ⟨p, 0, none⟩), .agg #[.int .i64 x.c.k, .int .i64 x.c.o, .int .i64 x.c.r, .int .u64 x.c.b, .int .u64 x.c.g, .int .i64 x.c.z], .int .u64 (bits BinOp.or IntKind.u64 (bits BinOp.and IntKind.u64 x.a (IntKind.u64.wrap (IntKind.u64.wrap (2 ^ D) - 1))) (IntKind.u64.wrap (m * 2 ^ D))), .int .i64 (D : Int)] W fun e w' => e = .returned (.tuple #[.agg #[.int .i64 s.n, .int .i64 s.i], .int .i64 en]) ∧ Below W.heap.size W w') := fun W hW => slot_is hW HX.out.1.c hA1 (slot_high hA2.symm HV.out)
  clear hA1 hA2
  have hq3 : Hid (r ≤ v2.heap.size ∧ q2 ≠ v2.heap.size ∧ r1 ≠ v2.heap.size) := by
    have h1 := K2.out.size
    have h2 := (Array.getElem?_eq_some_iff.1 (K2.out.blk (q2, objS s) (by simp)).1).1
    have h3 := (Array.getElem?_eq_some_iff.1 (K2.out.blk (r1, objK x) (by simp)).1).1
    simp only at h2 h3
    exact (by omega : r ≤ v2.heap.size ∧ q2 ≠ v2.heap.size ∧ r1 ≠ v2.heap.size)
  have KS : Hid (∀ u, Below (v2.alloc (.cells #[.int .i64 0, .int .i64 0] 36)).drew.heap.size (v2.alloc (.cells #[.int .i64 0, .int .i64 0] 36)).drew u → Bk w r ((u.setCell ⟨v2.heap.size, 0, none⟩ (.int .i64 s.n)).setCell ⟨v2.heap.size, 1, none⟩ (.int .i64 s.i)) p F p2 F2 T T [(v2.heap.size, objS s), (q2, objS s), (r1, objK x)]) := fun u hu => by
    refine put_slot (K2a.out.below hu) (q := v2.heap.size) (s0 := ⟨0, 0⟩) (by simp) hq3.out.1 s fun b hb => ?_
    rcases List.mem_cons.1 hb with rfl | hb
    · exact .inl rfl
    · rcases List.mem_cons.1 hb with rfl | hb
      · exact .inr ⟨by simp, hq3.out.2.1⟩
      · rcases List.mem_cons.1 hb with rfl | hb
        · exact .inr ⟨by simp, hq3.out.2.2⟩
        · cases hb
  go_cut [12, 13] from 15 to 54 (fun u v wx => v = .int .i64 en ∧ ∃ q, u = .pointer (some ⟨q, 0, none⟩) ∧ Bk w r wx p F p2 F2 T T [(q, objS s), (q2, objS s)])
  case first =>
    go_region_held3 (fun W => W.cell? ⟨r1, 0, none⟩ = some (.int .i64 x.c.k) ∧ W.cell? ⟨r1, 1, none⟩ = some (.int .i64 x.c.o) ∧ W.cell? ⟨r1, 2, none⟩ = some (.int .i64 x.c.r) ∧ W.cell? ⟨r1, 3, none⟩ = some (.int .u64 x.c.b) ∧ W.cell? ⟨r1, 4, none⟩ = some (.int .u64 x.c.g) ∧ W.cell? ⟨r1, 5, none⟩ = some (.int .i64 x.c.z) ∧ W.cell? ⟨r1, 6, none⟩ = some (.int .u64 x.a)) ((first | with_reducible assumption | with_reducible exact HP1.out _ (K2.out.drew) | with_reducible exact HP.out _ _ K2a.out | with_reducible exact HP1.out _ (K2.out.drew.below b2) | with_reducible exact HP.out _ _ (K2a.out.below b2) | with_reducible exact HP1.out _ ((K2.out.drew.below b2).below (below_new _ _)) | with_reducible exact HP.out _ _ (KS.out _ b2)))
      ((go_at_call 10; refine (SC.out _ (by first | with_reducible exact K2.out.drew.nds | with_reducible exact K2a.out.nds)).mono ?_; rintro e u ⟨rfl, b2⟩; (first | (with_reducible have zz := AtS.below zm b2; obtain ⟨z0, z1⟩ := zz.cells; have zf := zz.frozen) | skip)))
    all_goals go_wp2_with fail
    all_goals go_meet
    all_goals first
      | with_reducible exact ⟨rfl, _, rfl, ((K2.out.drew.below b2).alloc (objS s)).fewer fun b hb => fewer3 hb⟩
      | with_reducible exact ⟨rfl, _, rfl, (KS.out _ b2).fewer fun b hb => fewer3 hb⟩
      | exact ⟨rfl, _, rfl, ((K2.out.drew.below b2).alloc (objS s)).fewer fun b hb => fewer3 hb⟩
  case rest =>
    obtain ⟨rfl, q, rfl, h3⟩ := hcut
    have K3 : Hid (Bk w r wc p F p2 F2 T T [(q, objS s), (q2, objS s)]) := h3
    clear h3 hS zm KS K2a K2 HP HP1 SC hq3
    obtain ⟨s0, s1⟩ := (K3.out.atS (q := q) (s := s) (by simp)).cells
    obtain ⟨t0, t1⟩ := (K3.out.atS (q := q2) (s := s) (by simp)).cells
    have HQs : ∀ W, (Op.equalIn 10000 36 (.agg #[.int .i64 s.n, .int .i64 s.i]) (.agg #[.int .i64 s.n, .int .i64 s.i])).run Try.prog W = .ok true W := fun W => by
      have h := eq_slots W s s
      simpa using h
    have hee : (en == en) = true := by simp
    go_wp2_with fail
    refine (fixed_any _).mono ?_
    rintro e w9 ⟨rfl, b9⟩
    have KL : Hid (Below r w w9) := (K3.out.below b9).low
    clear b9 K3 s0 s1 t0 t1
    go_wp2
    go_ret
    exact ⟨rfl, by rw [HR.out]; exact KL.out⟩
end
open Go.ChangeShapes Go.WideShapes Go.ChangeAt Go.RowKit Go.Joins

/-! ### From the walk to the statement -/
set_option maxRecDepth 100000 in
theorem lifted (os : Os) (started : os.Started) (H : Type) (enc : TypeId × Value → H) :
    ReturnsInHanded {} Try.checked os 7 .any (Rows.lookupHighSpec.pre6 enc Try.prog Try.f7 Rows.lookupHighRow.domain false) (Rows.lookupHighSpec.post enc Try.prog Try.f7 false true false false) := by
  have dCp : DecidableEq Cp := fun a b => Classical.propDecidable (a = b)
  have dLim : ∀ k, Decidable (Lim k) := fun k => Classical.propDecidable (Lim k)
  have dBad : ∀ k, Decidable (Bad k) := fun k => Classical.propDecidable (Bad k)
  have dFit : ∀ g z, Decidable (Fit g z) := fun g z => Classical.propDecidable (Fit g z)
  have dFine : ∀ c, Decidable (Fine c) := fun c => Classical.propDecidable (Fine c)
  have dMint : ∀ c v, Decidable (MintR c v) := fun c v => Classical.propDecidable (MintR c v)
  have dWho : ∀ x y, Decidable (Whose x y) := fun x y => Classical.propDecidable (Whose x y)
  have dSl : DecidableEq Sl := fun a b => Classical.propDecidable (a = b)
  have dLt : ∀ a b, Decidable (ltS a b) := fun a b => Classical.propDecidable (ltS a b)
  have dIsN : ∀ S c, Decidable (isN S c) := fun S c => Classical.propDecidable (isN S c)
  have dGuN : ∀ a c d, Decidable (GuardN a c d) := fun a c d => Classical.propDecidable (GuardN a c d)
  refine returnsInHanded_of_change (C := Try.checked) own started (by kernel_rfl) Try.func7
    (ChangeSpec.witness6 (enc := enc) (C := Try.checked) false ⟨#[], #[.agg #[.slice none 0 0, .slice none 0 0], .agg #[.int .i64 0, .int .i64 0, .int .i64 0, .int .u64 0, .int .u64 0, .int .i64 0, .int .u64 0, .int .i64 0], .int .u64 0], []⟩ 8 (by kernel_rfl) (by kernel_rfl) (by kernel_rfl) (by kernel_rfl)) ?_
  intro W base args ds gs before hval0 hW hcnd _
  have hval : ∀ (j : Nat) t v, Try.f7.params[j]? = some t → args[j]? = some v → Value.okWide Try.prog W .any base t v := hval0
  have hW' := hW
  obtain ⟨p, q, hA0, hV, rfl, hfz, hnd⟩ := hW
  have hA : DataW.TrodAll enc Try.prog W 0 (fun _ => true) true Try.f7.params.toList args.toList ds p := hA0
  rw [Try.params7] at hA hval
  obtain ⟨v0, vs0, d0, ds0, p0, q0, hargs, rfl, rfl, h0, r0⟩ := trodAll_cons hA
  obtain ⟨v1, vs1, d1, ds1, p1, q1, rfl, rfl, rfl, h1, r1⟩ := trodAll_cons r0
  obtain ⟨v2, vs2, d2, ds2, p2, q2, rfl, rfl, rfl, h2, r2⟩ := trodAll_cons r1
  obtain ⟨rfl, rfl, rfl⟩ := trodAll_nil r2
  obtain rfl : args = #[v0, v1, v2] := by cases args; simp_all
  obtain ⟨rfl, rfl⟩ := trodVars_none hV
  have k0 := h0
  have lt0 : ∀ x ∈ p0, x.block < W.heap.size := by obtain ⟨m, hm⟩ := k0; exact DataW.trod_lt m _ _ _ hm
  obtain ⟨a0, l0, c0, g0, m0, e0, rfl, w0⟩ := open_build (hval 0 25 v0 rfl rfl) h0
  have k1 := h1
  have lt1 : ∀ x ∈ p1, x.block < W.heap.size := by obtain ⟨m, hm⟩ := k1; exact DataW.trod_lt m _ _ _ hm
  obtain ⟨a1, rfl, w1⟩ := open_ask (hval 1 30 v1 rfl rfl) h1
  have k2 := h2
  have lt2 : ∀ x ∈ p2, x.block < W.heap.size := by obtain ⟨m, hm⟩ := k2; exact DataW.trod_lt m _ _ _ hm
  obtain ⟨a2, rfl, _, _, w2⟩ := open_int Try.underlying26 (hval 2 26 v2 rfl rfl) h2
  clear hA0 hval0
  refine (walk a0 l0 c0 g0 m0 e0 a1 a2 W w0 w1 (bounds_u64 w2)).mono fun e W' ⟨he, bel⟩ => ?_
  subst he
  exact ⟨_, rfl, _, _, _, [], _, [], hW', trodAll_mk1 (shut_bool Try.underlying4 _), (trodAll_cons_mk (Below.trod laidOut (by kernel_rfl) (of_decide_eq_true (by kernel_rfl)) k0 bel lt0) (trodAll_cons_mk (Below.trod laidOut (by kernel_rfl) (of_decide_eq_true (by kernel_rfl)) k1 bel lt1) (trodAll_cons_mk (Below.trod laidOut (by kernel_rfl) (of_decide_eq_true (by kernel_rfl)) k2 bel lt2) trodAll_mk0))), rfl, bel.frame _, fun h => by cases h⟩
theorem over : Rows.lookupHighRow.holds Try.pinned (OpenSpec.ofChange Rows.lookupHighSpec) :=
  OpenClaim.holds_of_wide 7 Try.f7 rfl rfl rfl rfl rfl rfl rfl ⟨rfl, rfl, rfl, rfl, rfl⟩ rfl rfl rfl rfl rfl (by kernel_rfl) Try.func7 (by kernel_rfl)
    (of_decide_eq_true (by kernel_rfl)) (by unfold Func.isWrapper; first | (rw [if_pos (by decide +kernel)]; kernel_rfl) | (rw [if_neg (by decide +kernel)]; exact ⟨rfl, rfl⟩))
    (fun os started H enc _ => lifted os started H enc)
end Go.Proofs.Ytafjgoelofobmaa.lookupHigh
namespace Go.Proofs.Ytafjgoelofobmaa
/-- THE STATEMENT. -/
theorem lookupHigh_said : Rows.LookupHighSaid := lookupHigh.over
#print axioms lookupHigh_said
end Go.Proofs.Ytafjgoelofobmaa

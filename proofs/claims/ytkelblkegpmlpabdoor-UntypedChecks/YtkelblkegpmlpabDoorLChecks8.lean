/-
  The statement UntypedChecks: for every memory, whatever is asked for, and every number the law returns true and what was handed in reads as it did; the table of sizes lies as the program's text lays it, and the card ties that to the text.
-/
import Derived.Test.YtkelblkegpmlpabDoorUSay
namespace Go.Proofs.YtkelblkegpmlpabDoor.untypedChecks
open Go.RowKit Go.Deep
theorem more_is (m : Int) (h0 : 0 ≤ m) (h1 : m ≤ 18446744073709551615) : ∃ y : Int, bits .and .u64 m 65535 = y ∧ 0 ≤ y ∧ y ≤ 65535 := by
  have e : (65535 : Int) = onesI 16 := by decide
  refine ⟨_, rfl, ?_⟩
  rw [e, and_ones m 16 h0 h1 (by decide) (by decide)]
  have := fieldI_bd m 0 16 (by decide)
  exact this
theorem chk_over {u : Un} (y : Int) (hy : 0 ≤ y) : chkE ⟨u.base, u.bits, twoI u.bits + 1 + y⟩ = 1 := by
  unfold chkE
  rw [if_neg]
  intro x
  have : twoI u.bits + 1 + y ≤ twoI u.bits := x.2.2.2
  omega
theorem chk_none {u : Un} (h : okU u) : chkE ⟨u.base, u.bits, 0⟩ = 0 := by
  unfold chkE
  rw [if_pos]
  exact ⟨h.1, h.2.1, h.2.2.1, by show (0 : Int) ≤ twoI u.bits; have := twoI_20 u.bits h.1.1 h.1.2; omega⟩
theorem check_is (u : Un) (e : Int) {w0 : World} {r : Nat} {w : World} {L : List (Nat × Obj)} {M : List (Option Addr × List Int)} (h : Kp w0 r w L M) (hf : u.Fits) (he : chkE u = e) :
    Calls Tryd.prog 5 #[encU u] w fun e' w' => e' = .returned (.int .i64 e) ∧ Kp w0 r w' L M := by
  have := check_kp u h hf
  rwa [he] at this
set_option maxHeartbeats 2000000 in
theorem bad (u : Un) (k b n m : Int) (w : World) (hT : Tab w) (hf : u.Fits) (hb : -9223372036854775808 ≤ b ∧ b ≤ 9223372036854775807) (hn : -9223372036854775808 ≤ n ∧ n ≤ 9223372036854775807) (_hm : 0 ≤ m ∧ m ≤ 18446744073709551615) (h1 : ¬ okU u) :
    Calls Tryd.prog 3 #[encU u, encO k b n, .int .u64 m] w fun e w' => e = .returned (.bool true) ∧ Below w.heap.size w w' := by
  have HE : Hid (plE u k b n = 1) := by show plE u k b n = 1; unfold plE; rw [if_pos h1]
  have HC : Hid (chkE u = 1) := by show chkE u = 1; unfold chkE; rw [if_neg h1]
  clear h1
  have HF : Hid u.Fits := hf
  have HB : Hid (-9223372036854775808 ≤ b ∧ b ≤ 9223372036854775807) := hb
  have HN : Hid (-9223372036854775808 ≤ n ∧ n ≤ 9223372036854775807) := hn
  clear hf hb hn
  have h1 := ((Kp.start hT).alloc (objU u)).alloc (objO k b n)
  rw [World.size_alloc] at h1
  clear hT
  simp only [encU, encO, objU, objO] at *
  go_enter Tryd.func3, Tryd.ntmps3
  go_wp2_with fail
  generalize (w.alloc (Obj.cells #[.int .u64 u.base, .int .i64 u.bits, .int .u64 u.used] 24)).alloc (Obj.cells #[.int .i64 k, .int .i64 b, .int .i64 n] 26) = W1 at *
  generalize hr0 : w.heap.size = r at *
  have HR : Hid (w.heap.size = r) := hr0
  clear hr0
  have k1 : Hid (Kp w r W1 [(r + 1, objO k b n), (r, objU u)] []) := h1
  clear h1
  refine (place_kp u k b n k1.out HF.out HB.out HN.out).mono ?_
  rintro e w2 ⟨ao2, cap2, rfl, h2⟩
  have k2 : Hid (Kp w r w2 [(r + 1, objO k b n), (r, objU u)] [(ao2, plL u k b n)]) := h2
  clear k1 h2
  have hz : (plE u k b n == 0) = false := by rw [HE.out]; rfl
  have he := HE.out
  rw [he] at hz ⊢
  clear he
  generalize plU u k b n = v at *
  have g3 := k2.out.alloc (objU v)
  have G3 : Hid (Kp w r (w2.alloc (objU v)) [(w2.heap.size, objU v), (r + 1, objO k b n), (r, objU u)] [(ao2, plL u k b n)]) := g3
  clear k2
  clear g3
  obtain ⟨c0, c1, c2⟩ := (G3.out.atU r u (by simp)).cells
  simp only [encU, objU] at *
  go_wp2_with fail
  generalize w2.alloc (Obj.cells #[.int .u64 v.base, .int .i64 v.bits, .int .u64 v.used] 24) = v3 at *
  generalize w2.heap.size = q3 at *
  have k3 : Hid (Kp w r v3 [(q3, objU v), (r + 1, objO k b n), (r, objU u)] [(ao2, plL u k b n)]) := G3
  clear G3
  refine (check_is u 1 k3.out HF.out HC.out).mono ?_
  rintro e w4 ⟨rfl, h4⟩
  clear c0 c1 c2
  have k4 : Hid (Kp w r w4 [(q3, objU v), (r + 1, objO k b n), (r, objU u)] [(ao2, plL u k b n)]) := h4
  clear k3 h4
  go_wp2_with fail
  refine (fixed_kp k4.out).mono ?_
  rintro e w5 ⟨rfl, h5⟩
  have k5 : Hid (Kp w r w5 [(q3, objU v), (r + 1, objO k b n), (r, objU u)] [(ao2, plL u k b n)]) := h5
  clear k4 h5
  have B : Hid (Below r w w5) := k5.out.bel
  go_wp2_with fail
  go_ret
  refine ⟨rfl, ?_⟩
  rw [HR.out]
  exact B.out
set_option maxHeartbeats 2000000 in
theorem good (u : Un) (k b n m : Int) (w : World) (hT : Tab w) (hf : u.Fits) (hb : -9223372036854775808 ≤ b ∧ b ≤ 9223372036854775807) (hn : -9223372036854775808 ≤ n ∧ n ≤ 9223372036854775807) (hm : 0 ≤ m ∧ m ≤ 18446744073709551615) (h1 : Found u k b n) :
    Calls Tryd.prog 3 #[encU u, encO k b n, .int .u64 m] w fun e w' => e = .returned (.bool true) ∧ Below w.heap.size w w' := by
  have FD : Hid (Found u k b n) := h1
  have HE : Hid (plE u k b n = 0) := (found_iff _ _ _ _).2 h1
  have HC : Hid (chkE u = 0) := by show chkE u = 0; unfold chkE; rw [if_pos h1.ok]
  have OK : Hid (okU u) := h1.ok
  have HM : Hid (0 ≤ m ∧ m ≤ 18446744073709551615) := hm
  clear h1 hm
  have HF : Hid u.Fits := hf
  have HB : Hid (-9223372036854775808 ≤ b ∧ b ≤ 9223372036854775807) := hb
  have HN : Hid (-9223372036854775808 ≤ n ∧ n ≤ 9223372036854775807) := hn
  clear hf hb hn
  have h1 := ((Kp.start hT).alloc (objU u)).alloc (objO k b n)
  rw [World.size_alloc] at h1
  clear hT
  simp only [encU, encO, objU, objO] at *
  go_enter Tryd.func3, Tryd.ntmps3
  go_wp2_with fail
  generalize (w.alloc (Obj.cells #[.int .u64 u.base, .int .i64 u.bits, .int .u64 u.used] 24)).alloc (Obj.cells #[.int .i64 k, .int .i64 b, .int .i64 n] 26) = W1 at *
  generalize hr0 : w.heap.size = r at *
  have HR : Hid (w.heap.size = r) := hr0
  clear hr0
  have k1 : Hid (Kp w r W1 [(r + 1, objO k b n), (r, objU u)] []) := h1
  clear h1
  refine (place_kp u k b n k1.out HF.out HB.out HN.out).mono ?_
  rintro e w2 ⟨ao2, cap2, rfl, h2⟩
  have k2 : Hid (Kp w r w2 [(r + 1, objO k b n), (r, objU u)] [(ao2, plL u k b n)]) := h2
  clear k1 h2
  have he := HE.out
  rw [he]
  clear he
  have hlt : Hid (u.used < (plU u k b n).used) := (place_ok HF.out FD.out).2.2
  have HV : Hid (plU u k b n).Fits := (place_ok HF.out FD.out).2.1
  have HO : Hid (chkE (plU u k b n) = 0) := by show chkE _ = 0; unfold chkE; rw [if_pos (place_ok HF.out FD.out).1]
  generalize plU u k b n = v at *
  have g3 := k2.out.alloc (objU v)
  have G3 : Hid (Kp w r (w2.alloc (objU v)) [(w2.heap.size, objU v), (r + 1, objO k b n), (r, objU u)] [(ao2, plL u k b n)]) := g3
  clear k2
  clear g3
  obtain ⟨c0, c1, c2⟩ := (G3.out.atU r u (by simp)).cells
  simp only [encU, objU] at *
  go_wp2_with fail
  generalize w2.alloc (Obj.cells #[.int .u64 v.base, .int .i64 v.bits, .int .u64 v.used] 24) = v3 at *
  generalize w2.heap.size = q3 at *
  have k3 : Hid (Kp w r v3 [(q3, objU v), (r + 1, objO k b n), (r, objU u)] [(ao2, plL u k b n)]) := G3
  clear G3
  refine (check_is u 0 k3.out HF.out HC.out).mono ?_
  rintro e w4 ⟨rfl, h4⟩
  clear c0 c1 c2
  have k4 : Hid (Kp w r w4 [(q3, objU v), (r + 1, objO k b n), (r, objU u)] [(ao2, plL u k b n)]) := h4
  clear k3 h4
  obtain ⟨c0, c1, c2⟩ := (k4.out.atU q3 v (by simp)).cells
  go_wp2_with fail
  refine (check_is v 0 k4.out HV.out HO.out).mono ?_
  rintro e w5 ⟨rfl, h5⟩
  clear c0 c1 c2
  have k5 : Hid (Kp w r w5 [(q3, objU v), (r + 1, objO k b n), (r, objU u)] [(ao2, plL u k b n)]) := h5
  clear k4 h5
  obtain ⟨c0, c1, c2⟩ := (k5.out.atU q3 v (by simp)).cells
  obtain ⟨c3, c4, c5⟩ := (k5.out.atU r u (by simp)).cells
  have hl := hlt.out
  go_wp2_with fail
  refine (check_is u 0 k5.out HF.out HC.out).mono ?_
  rintro e w6 ⟨rfl, h6⟩
  clear c0 c1 c2 c3 c4 c5
  have k6 : Hid (Kp w r w6 [(q3, objU v), (r + 1, objO k b n), (r, objU u)] [(ao2, plL u k b n)]) := h6
  clear k5 h6
  clear hl
  obtain ⟨c0, c1, c2⟩ := (k6.out.atU r u (by simp)).cells
  obtain ⟨y, hy, y0, y1⟩ := more_is m HM.out.1 HM.out.2
  have hbits := OK.out.1
  have hsh := twoI_wrap u.bits hbits.1 (by omega)
  have htw := twoI_20 u.bits hbits.1 hbits.2
  have C1 : Hid (chkE ⟨u.base, u.bits, twoI u.bits + 1 + y⟩ = 1) := chk_over y y0
  have C2 : Hid (chkE ⟨u.base, u.bits, 0⟩ = 0) := chk_none OK.out
  obtain ⟨d0, d1, d2⟩ := ((k6.out.alloc (objU u)).atU r u (by simp)).cells
  have g7 := k6.out.alloc (objU ⟨u.base, u.bits, twoI u.bits + 1 + y⟩)
  have G7 : Hid (Kp w r (w6.alloc (objU ⟨u.base, u.bits, twoI u.bits + 1 + y⟩)) [(w6.heap.size, objU ⟨u.base, u.bits, twoI u.bits + 1 + y⟩), (q3, objU v), (r + 1, objO k b n), (r, objU u)] [(ao2, plL u k b n)]) := g7
  clear k6 g7
  simp only [objU] at *
  go_wp2_with fail
  generalize w6.alloc (Obj.cells #[.int .u64 u.base, .int .i64 u.bits, .int .u64 (twoI u.bits + 1 + y)] 24) = v7 at *
  clear d0 d1 d2 hsh hy
  clear c0 c1 c2
  generalize w6.heap.size = q7 at *
  have k7 : Hid (Kp w r v7 [(q7, objU ⟨u.base, u.bits, twoI u.bits + 1 + y⟩), (q3, objU v), (r + 1, objO k b n), (r, objU u)] [(ao2, plL u k b n)]) := G7
  clear G7
  have HW : Hid (0 ≤ twoI u.bits + 1 + y ∧ twoI u.bits + 1 + y ≤ 18446744073709551615) := by show _ ∧ _; omega
  clear y0 y1 hbits htw
  refine (check_is ⟨u.base, u.bits, twoI u.bits + 1 + y⟩ 1 k7.out ⟨HF.out.base, HF.out.bits, HW.out⟩ C1.out).mono ?_
  rintro e w8 ⟨rfl, h8⟩
  have k8 : Hid (Kp w r w8 [(q7, objU ⟨u.base, u.bits, twoI u.bits + 1 + y⟩), (q3, objU v), (r + 1, objO k b n), (r, objU u)] [(ao2, plL u k b n)]) := h8
  clear k7 h8
  obtain ⟨c0, c1, c2⟩ := (k8.out.atU q7 ⟨u.base, u.bits, twoI u.bits + 1 + y⟩ (by simp)).cells
  go_wp2_with fail
  refine (reset_kp ⟨u.base, u.bits, twoI u.bits + 1 + y⟩ k8.out).mono ?_
  rintro e w9 ⟨rfl, h9⟩
  clear c0 c1 c2
  have k9 : Hid (Kp w r w9 [(q7, objU ⟨u.base, u.bits, twoI u.bits + 1 + y⟩), (q3, objU v), (r + 1, objO k b n), (r, objU u)] [(ao2, plL u k b n)]) := h9
  clear k8 h9
  simp only [encU]
  go_wp2_with fail
  refine (check_is ⟨u.base, u.bits, 0⟩ 0 k9.out ⟨HF.out.base, HF.out.bits, (show (0 : Int) ≤ 0 ∧ (0 : Int) ≤ 18446744073709551615 by decide)⟩ C2.out).mono ?_
  rintro e w10 ⟨rfl, h10⟩
  have k10 : Hid (Kp w r w10 [(q7, objU ⟨u.base, u.bits, twoI u.bits + 1 + y⟩), (q3, objU v), (r + 1, objO k b n), (r, objU u)] [(ao2, plL u k b n)]) := h10
  clear k9 h10
  go_wp2_with fail
  refine (fixed_kp k10.out).mono ?_
  rintro e w11 ⟨rfl, h11⟩
  have k11 : Hid (Kp w r w11 [(q7, objU ⟨u.base, u.bits, twoI u.bits + 1 + y⟩), (q3, objU v), (r + 1, objO k b n), (r, objU u)] [(ao2, plL u k b n)]) := h11
  clear k10 h11
  have B : Hid (Below r w w11) := k11.out.bel
  go_wp2_with fail
  go_ret
  refine ⟨rfl, ?_⟩
  rw [HR.out]
  exact B.out
set_option maxHeartbeats 2000000 in
theorem room (u : Un) (k b n m : Int) (w : World) (hT : Tab w) (hf : u.Fits) (hb : -9223372036854775808 ≤ b ∧ b ≤ 9223372036854775807) (hn : -9223372036854775808 ≤ n ∧ n ≤ 9223372036854775807) (hm : 0 ≤ m ∧ m ≤ 18446744073709551615) (h1 : okU u) (h2 : plE u k b n ≠ 0) :
    Calls Tryd.prog 3 #[encU u, encO k b n, .int .u64 m] w fun e w' => e = .returned (.bool true) ∧ Below w.heap.size w w' := by
  have HE : Hid (plE u k b n ≠ 0) := h2
  have HC : Hid (chkE u = 0) := by show chkE u = 0; unfold chkE; rw [if_pos h1]
  have OK : Hid (okU u) := h1
  have HM : Hid (0 ≤ m ∧ m ≤ 18446744073709551615) := hm
  clear h1 h2 hm
  have HF : Hid u.Fits := hf
  have HB : Hid (-9223372036854775808 ≤ b ∧ b ≤ 9223372036854775807) := hb
  have HN : Hid (-9223372036854775808 ≤ n ∧ n ≤ 9223372036854775807) := hn
  clear hf hb hn
  have h1 := ((Kp.start hT).alloc (objU u)).alloc (objO k b n)
  rw [World.size_alloc] at h1
  clear hT
  simp only [encU, encO, objU, objO] at *
  go_enter Tryd.func3, Tryd.ntmps3
  go_wp2_with fail
  generalize (w.alloc (Obj.cells #[.int .u64 u.base, .int .i64 u.bits, .int .u64 u.used] 24)).alloc (Obj.cells #[.int .i64 k, .int .i64 b, .int .i64 n] 26) = W1 at *
  generalize hr0 : w.heap.size = r at *
  have HR : Hid (w.heap.size = r) := hr0
  clear hr0
  have k1 : Hid (Kp w r W1 [(r + 1, objO k b n), (r, objU u)] []) := h1
  clear h1
  refine (place_kp u k b n k1.out HF.out HB.out HN.out).mono ?_
  rintro e w2 ⟨ao2, cap2, rfl, h2⟩
  have k2 : Hid (Kp w r w2 [(r + 1, objO k b n), (r, objU u)] [(ao2, plL u k b n)]) := h2
  clear k1 h2
  have hz : (plE u k b n == 0) = false := by have := HE.out; simpa using this
  generalize plE u k b n = pe at *
  generalize plU u k b n = v at *
  have g3 := k2.out.alloc (objU v)
  have G3 : Hid (Kp w r (w2.alloc (objU v)) [(w2.heap.size, objU v), (r + 1, objO k b n), (r, objU u)] [(ao2, plL u k b n)]) := g3
  clear k2
  clear g3
  obtain ⟨c0, c1, c2⟩ := (G3.out.atU r u (by simp)).cells
  simp only [encU, objU] at *
  go_wp2_with fail
  generalize w2.alloc (Obj.cells #[.int .u64 v.base, .int .i64 v.bits, .int .u64 v.used] 24) = v3 at *
  generalize w2.heap.size = q3 at *
  have k3 : Hid (Kp w r v3 [(q3, objU v), (r + 1, objO k b n), (r, objU u)] [(ao2, plL u k b n)]) := G3
  clear G3
  refine (check_is u 0 k3.out HF.out HC.out).mono ?_
  rintro e w4 ⟨rfl, h4⟩
  clear c0 c1 c2
  have k4 : Hid (Kp w r w4 [(q3, objU v), (r + 1, objO k b n), (r, objU u)] [(ao2, plL u k b n)]) := h4
  clear k3 h4
  clear hz
  obtain ⟨c0, c1, c2⟩ := (k4.out.atU r u (by simp)).cells
  obtain ⟨y, hy, y0, y1⟩ := more_is m HM.out.1 HM.out.2
  have hbits := OK.out.1
  have hsh := twoI_wrap u.bits hbits.1 (by omega)
  have htw := twoI_20 u.bits hbits.1 hbits.2
  have C1 : Hid (chkE ⟨u.base, u.bits, twoI u.bits + 1 + y⟩ = 1) := chk_over y y0
  have C2 : Hid (chkE ⟨u.base, u.bits, 0⟩ = 0) := chk_none OK.out
  obtain ⟨d0, d1, d2⟩ := ((k4.out.alloc (objU u)).atU r u (by simp)).cells
  have g5 := k4.out.alloc (objU ⟨u.base, u.bits, twoI u.bits + 1 + y⟩)
  have G5 : Hid (Kp w r (w4.alloc (objU ⟨u.base, u.bits, twoI u.bits + 1 + y⟩)) [(w4.heap.size, objU ⟨u.base, u.bits, twoI u.bits + 1 + y⟩), (q3, objU v), (r + 1, objO k b n), (r, objU u)] [(ao2, plL u k b n)]) := g5
  clear k4 g5
  simp only [objU] at *
  go_wp2_with fail
  generalize w4.alloc (Obj.cells #[.int .u64 u.base, .int .i64 u.bits, .int .u64 (twoI u.bits + 1 + y)] 24) = v5 at *
  clear d0 d1 d2 hsh hy
  clear c0 c1 c2
  generalize w4.heap.size = q5 at *
  have k5 : Hid (Kp w r v5 [(q5, objU ⟨u.base, u.bits, twoI u.bits + 1 + y⟩), (q3, objU v), (r + 1, objO k b n), (r, objU u)] [(ao2, plL u k b n)]) := G5
  clear G5
  have HW : Hid (0 ≤ twoI u.bits + 1 + y ∧ twoI u.bits + 1 + y ≤ 18446744073709551615) := by show _ ∧ _; omega
  clear y0 y1 hbits htw
  refine (check_is ⟨u.base, u.bits, twoI u.bits + 1 + y⟩ 1 k5.out ⟨HF.out.base, HF.out.bits, HW.out⟩ C1.out).mono ?_
  rintro e w6 ⟨rfl, h6⟩
  have k6 : Hid (Kp w r w6 [(q5, objU ⟨u.base, u.bits, twoI u.bits + 1 + y⟩), (q3, objU v), (r + 1, objO k b n), (r, objU u)] [(ao2, plL u k b n)]) := h6
  clear k5 h6
  obtain ⟨c0, c1, c2⟩ := (k6.out.atU q5 ⟨u.base, u.bits, twoI u.bits + 1 + y⟩ (by simp)).cells
  go_wp2_with fail
  refine (reset_kp ⟨u.base, u.bits, twoI u.bits + 1 + y⟩ k6.out).mono ?_
  rintro e w7 ⟨rfl, h7⟩
  clear c0 c1 c2
  have k7 : Hid (Kp w r w7 [(q5, objU ⟨u.base, u.bits, twoI u.bits + 1 + y⟩), (q3, objU v), (r + 1, objO k b n), (r, objU u)] [(ao2, plL u k b n)]) := h7
  clear k6 h7
  simp only [encU]
  go_wp2_with fail
  refine (check_is ⟨u.base, u.bits, 0⟩ 0 k7.out ⟨HF.out.base, HF.out.bits, (show (0 : Int) ≤ 0 ∧ (0 : Int) ≤ 18446744073709551615 by decide)⟩ C2.out).mono ?_
  rintro e w8 ⟨rfl, h8⟩
  have k8 : Hid (Kp w r w8 [(q5, objU ⟨u.base, u.bits, twoI u.bits + 1 + y⟩), (q3, objU v), (r + 1, objO k b n), (r, objU u)] [(ao2, plL u k b n)]) := h8
  clear k7 h8
  go_wp2_with fail
  refine (fixed_kp k8.out).mono ?_
  rintro e w9 ⟨rfl, h9⟩
  have k9 : Hid (Kp w r w9 [(q5, objU ⟨u.base, u.bits, twoI u.bits + 1 + y⟩), (q3, objU v), (r + 1, objO k b n), (r, objU u)] [(ao2, plL u k b n)]) := h9
  clear k8 h9
  have B : Hid (Below r w w9) := k9.out.bel
  go_wp2_with fail
  go_ret
  refine ⟨rfl, ?_⟩
  rw [HR.out]
  exact B.out
theorem walk (u : Un) (k b n m : Int) (w : World) (hT : Tab w) (hf : u.Fits) (_hk : -9223372036854775808 ≤ k ∧ k ≤ 9223372036854775807) (hb : -9223372036854775808 ≤ b ∧ b ≤ 9223372036854775807) (hn : -9223372036854775808 ≤ n ∧ n ≤ 9223372036854775807) (hm : 0 ≤ m ∧ m ≤ 18446744073709551615) :
    Calls Tryd.prog 3 #[encU u, encO k b n, .int .u64 m] w fun e w' => e = .returned (.bool true) ∧ Below w.heap.size w w' := by
  by_cases h1 : okU u
  · by_cases h2 : plE u k b n = 0
    · exact good u k b n m w hT hf hb hn hm ((found_iff _ _ _ _).1 h2)
    · exact room u k b n m w hT hf hb hn hm h1 h2
  · exact bad u k b n m w hT hf hb hn hm h1
open Go.ChangeShapes Go.WideShapes Go.ChangeAt Go.RowKit Go.Joins

/-! ### From the walk to the statement -/
theorem contract (H : Type) (enc : TypeId × Value → H) (W : World) (base : Nat) (args : Array Value) (ds gs : List (DataW H)) (before : List MemPlace)
    (hval : ∀ (j : Nat) t v, Tryd.f3.params[j]? = some t → args[j]? = some v → Value.okWide Tryd.prog W .any base t v)
    (hW : DataW.Whole enc Tryd.prog Tryd.f3.params.toList Rows.untypedChecksSpec.vars false W args.toList ds gs before) (hL : laidMetH Tryd.prog Rows.untypedChecksRow.laid W) :
    Calls Tryd.prog 3 args W fun e W' => ∃ v, e = .returned v ∧ Rows.untypedChecksSpec.post enc Tryd.prog Tryd.f3 false true false false W args v W' := by
  have hW' := hW
  obtain ⟨p, q, hA0, hV, rfl, hfz, hnd⟩ := hW
  have hA : DataW.TrodAll enc Tryd.prog W 0 (fun _ => true) true Tryd.f3.params.toList args.toList ds p := hA0
  rw [Tryd.params3] at hA hval
  obtain ⟨v0, vs0, d0, ds0, p0, q0, hargs, rfl, rfl, h0, r0⟩ := trodAll_cons hA
  obtain ⟨v1, vs1, d1, ds1, p1, q1, rfl, rfl, rfl, h1, r1⟩ := trodAll_cons r0
  obtain ⟨v2, vs2, d2, ds2, p2, q2, rfl, rfl, rfl, h2, r2⟩ := trodAll_cons r1
  obtain ⟨rfl, rfl, rfl⟩ := trodAll_nil r2
  obtain rfl : args = #[v0, v1, v2] := by cases args; simp_all
  obtain ⟨rfl, rfl⟩ := trodVars_none hV
  have k0 := h0
  have lt0 : ∀ x ∈ p0, x.block < W.heap.size := by obtain ⟨m, hm⟩ := k0; exact DataW.trod_lt m _ _ _ hm
  have k1 := h1
  have lt1 : ∀ x ∈ p1, x.block < W.heap.size := by obtain ⟨m, hm⟩ := k1; exact DataW.trod_lt m _ _ _ hm
  have k2 := h2
  have lt2 : ∀ x ∈ p2, x.block < W.heap.size := by obtain ⟨m, hm⟩ := k2; exact DataW.trod_lt m _ _ _ hm
  obtain ⟨a0, rfl, w0⟩ := open_un (hval 0 24 v0 rfl rfl) h0
  obtain ⟨a1k, a1b, a1n, rfl, w1k, w1b, w1n⟩ := open_what (hval 1 26 v1 rfl rfl) h1
  obtain ⟨a2, rfl, _, _, w2⟩ := open_int Tryd.underlying22 (hval 2 22 v2 rfl rfl) h2
  clear hA0
  refine (walk a0 a1k a1b a1n a2 W (table hL) w0 w1k w1b w1n (bounds_u64 w2)).mono fun e W' ⟨he, bel⟩ => ?_
  subst he
  exact ⟨_, rfl, _, _, _, [], _, [], hW', trodAll_mk1 (shut_bool Tryd.underlying4 _), (trodAll_cons_mk (Below.trod laidOut (by kernel_rfl) (of_decide_eq_true (by kernel_rfl)) k0 bel lt0) (trodAll_cons_mk (Below.trod laidOut (by kernel_rfl) (of_decide_eq_true (by kernel_rfl)) k1 bel lt1) (trodAll_cons_mk (Below.trod laidOut (by kernel_rfl) (of_decide_eq_true (by kernel_rfl)) k2 bel lt2) trodAll_mk0))), rfl, bel.frame _, fun h => by cases h⟩

theorem laid_met (os : Os) : laidMet Tryd.prog Rows.untypedChecksRow.laid ((World.doorLaid Tryd.prog 40 os).forCall (fun _ _ => 0) ⟨#[], #[.agg #[.int .u64 0, .int .i64 0, .int .u64 0], .agg #[.int .i64 0, .int .i64 0, .int .i64 0], .int .u64 0], []⟩).memory :=
  laidMet_of_run' 8 (by kernel_rfl) (by kernel_rfl)
theorem reads (os : Os) {H : Type} (enc : TypeId × Value → H) : ∃ places, DataW.whole enc Tryd.prog ((World.doorLaid Tryd.prog 40 os).forCall (fun _ _ => 0) ⟨#[], #[.agg #[.int .u64 0, .int .i64 0, .int .u64 0], .agg #[.int .i64 0, .int .i64 0, .int .i64 0], .int .u64 0], []⟩).memory Tryd.f3.params.toList Rows.untypedChecksSpec.vars false (#[.agg #[.int .u64 0, .int .i64 0, .int .u64 0], .agg #[.int .i64 0, .int .i64 0, .int .i64 0], .int .u64 0] : Array Value).toList 8 = some ([.agg [.lit (.int .u64 0), .lit (.int .i64 0), .lit (.int .u64 0)], .agg [.lit (.int .i64 0), .lit (.int .i64 0), .lit (.int .i64 0)], .lit (.int .u64 0)], [], places) :=
  ⟨[], by kernel_rfl⟩
set_option maxRecDepth 100000 in
theorem lifted (os : Os) (started : os.Started) (H : Type) (enc : TypeId × Value → H) (F : Stop.Interp) :
    ReturnsInHanded {} Tryd.checked os 3 .any ((OpenSpec.ofChange Rows.untypedChecksSpec).preRow enc Tryd.prog Tryd.f3 Rows.untypedChecksRow.domain false Rows.untypedChecksRow.laid) (((OpenSpec.ofChange Rows.untypedChecksSpec).at F).post enc Tryd.prog Tryd.f3 false true false false) := by
  obtain ⟨places, hx⟩ := reads os enc
  refine returnsInHanded_of_row (C := Tryd.checked) (s := OpenSpec.ofChange Rows.untypedChecksSpec) own started (by kernel_rfl) Tryd.func3
    (witness_row_at (enc := enc) (C := Tryd.checked) false (World.doorLaid Tryd.prog 40 os) #[.agg #[.int .u64 0, .int .i64 0, .int .u64 0], .agg #[.int .i64 0, .int .i64 0, .int .i64 0], .int .u64 0] rfl (by kernel_rfl) (by kernel_rfl) (by kernel_rfl)
      (OpenSpec.preRow_of_cond 8 hx (by kernel_rfl) (fun k hk => by cases hk) (by kernel_rfl) (laid_met os))) ?_
  intro W base args ds gs before hval hW _ _ _ hL _ _
  exact contract H enc W base args ds gs before hval hW hL
theorem said : Rows.UntypedChecksSaid :=
  OpenClaim.holds_of_cond 3 Tryd.f3 rfl rfl rfl rfl rfl rfl rfl ⟨rfl, rfl, rfl, rfl, rfl⟩ rfl rfl rfl rfl rfl (by kernel_rfl) Tryd.func3 (by kernel_rfl)
    (of_decide_eq_true (by kernel_rfl)) (by unfold Func.isWrapper; first | (rw [if_pos (by decide +kernel)]; kernel_rfl) | (rw [if_neg (by decide +kernel)]; exact ⟨rfl, rfl⟩))
    (fun os started H enc _ F => by rw [OpenClaim.pre_eq_preRow]; exact lifted os started H enc F)
theorem plain (f : FuncId) (fn : Func) (hf : Tryd.pinned.checked.prog.funcNamed "buttress/buttresslaw08.UntypedChecks" = some f) (hfn : Tryd.pinned.checked.prog.funcs[f]? = some fn) :
    false = Tryd.pinned.checked.prog.looks [] ∧ ∀ (j : Nat) t, fn.params[j]? = some t → Tryd.pinned.checked.prog.wantsStandIn t = false := by
  obtain rfl : f = 3 := Option.some.inj ((show Tryd.prog.funcNamed "buttress/buttresslaw08.UntypedChecks" = some 3 by kernel_rfl).symm.trans hf) |>.symm
  obtain rfl : fn = Tryd.f3 := (Option.some.inj (Tryd.func3.symm.trans hfn)).symm
  refine ⟨by kernel_rfl, fun j t ht => ?_⟩
  rw [Tryd.params3] at ht
  have hm : t ∈ [24, 26, 22] := by simpa using Array.mem_of_getElem? ht
  have hall : ([24, 26, 22].all fun u => !Tryd.prog.wantsStandIn u) = true := by kernel_rfl
  exact (show Tryd.prog.wantsStandIn t = false by simpa using List.all_eq_true.1 hall t hm)
end Go.Proofs.YtkelblkegpmlpabDoor.untypedChecks
namespace Go.Proofs.YtkelblkegpmlpabDoor
/-- THE CARD. -/
theorem untypedChecks_card : Rows.UntypedChecksCardSaid :=
  Claim7.holds_tied_plain_at .later [] _ _ _ _ untypedChecks.said (fun _ h => by cases h) (by kernel_rfl) (fun _ h => by cases h) untypedChecks_row_tie rfl ⟨rfl, rfl⟩ (by kernel_rfl) rfl untypedChecks.plain (by kernel_rfl)
#print axioms untypedChecks_card
end Go.Proofs.YtkelblkegpmlpabDoor

/-
  The statement UntypedResets: for every memory and whatever is asked for the law returns true and what was handed in reads as it did; the table of sizes lies as the program's text lays it, and the card ties that to the text.
-/
import Derived.Test.YtkelblkegpmlpaaDoorUCut
namespace Go.Proofs.YtkelblkegpmlpaaDoor.untypedResets
open Go.RowKit Go.Deep
open Classical
set_option maxHeartbeats 4000000 in
theorem bad (u : Un) (k b n : Int) (w : World) (hT : Tab w) (hf : u.Fits) (hb : -9223372036854775808 ≤ b ∧ b ≤ 9223372036854775807) (hn : -9223372036854775808 ≤ n ∧ n ≤ 9223372036854775807) (h1 : plE ⟨u.base, u.bits, 0⟩ k b n ≠ 0) :
    Calls Tryd.prog 7 #[encU u, encO k b n] w fun e w' => e = .returned (.bool true) ∧ Below w.heap.size w w' := by
  have HNZ : Hid (plE ⟨u.base, u.bits, 0⟩ k b n ≠ 0) := h1
  have HA : Hid (plL ⟨u.base, u.bits, 0⟩ k b n = []) := by show plL _ k b n = []; unfold plL; rw [if_neg h1]
  have HV : Hid (plU ⟨u.base, u.bits, 0⟩ k b n).Fits := by show Un.Fits _; unfold plU; rw [if_neg h1]; exact zero_fits
  clear h1
  obtain ⟨v, hw⟩ : ∃ v, plU ⟨u.base, u.bits, 0⟩ k b n = v := ⟨_, rfl⟩
  rw [hw] at HV
  have HW : Hid (plU ⟨u.base, u.bits, 0⟩ k b n = v) := hw
  clear hw
  obtain ⟨pe, he⟩ : ∃ pe, plE ⟨u.base, u.bits, 0⟩ k b n = pe := ⟨_, rfl⟩
  rw [he] at HNZ
  have HE : Hid (plE ⟨u.base, u.bits, 0⟩ k b n = pe) := he
  clear he
  obtain ⟨A2, ha⟩ : ∃ A2, plL ⟨v.base, v.bits, 0⟩ k b n = A2 := ⟨_, rfl⟩
  have GA : Hid (plL ⟨v.base, v.bits, 0⟩ k b n = A2) := ha
  clear ha
  obtain ⟨v2, hw⟩ : ∃ v2, plU ⟨v.base, v.bits, 0⟩ k b n = v2 := ⟨_, rfl⟩
  have GW : Hid (plU ⟨v.base, v.bits, 0⟩ k b n = v2) := hw
  clear hw
  obtain ⟨e2, he⟩ : ∃ e2, plE ⟨v.base, v.bits, 0⟩ k b n = e2 := ⟨_, rfl⟩
  have GE : Hid (plE ⟨v.base, v.bits, 0⟩ k b n = e2) := he
  clear he
  have HF : Hid u.Fits := hf
  have HB : Hid (-9223372036854775808 ≤ b ∧ b ≤ 9223372036854775807) := hb
  have HN : Hid (-9223372036854775808 ≤ n ∧ n ≤ 9223372036854775807) := hn
  clear hf hb hn
  have HF0 : Hid (Un.Fits ⟨u.base, u.bits, 0⟩) := ⟨HF.out.base, HF.out.bits, (show (0 : Int) ≤ 0 ∧ (0 : Int) ≤ 18446744073709551615 by decide)⟩
  have h1 := ((Kp.start hT).alloc (objU ⟨u.base, u.bits, 0⟩)).alloc (objO k b n)
  rw [World.size_alloc] at h1
  clear hT
  simp only [encU, encO, objU, objO] at *
  go_enter Tryd.func7, Tryd.ntmps7
  go_wp2_with fail
  generalize (w.alloc (Obj.cells #[.int .u64 u.base, .int .i64 u.bits, .int .u64 0] 24)).alloc (Obj.cells #[.int .i64 k, .int .i64 b, .int .i64 n] 26) = W1 at *
  generalize hr0 : w.heap.size = r at *
  have HR : Hid (w.heap.size = r) := hr0
  clear hr0
  have k1 : Hid (Kp w r W1 [(r + 1, objO k b n), (r, objU ⟨u.base, u.bits, 0⟩)] []) := h1
  clear h1
  refine (place_is ⟨u.base, u.bits, 0⟩ v k b n pe [] k1.out HF0.out HB.out HN.out HA.out HW.out HE.out).mono ?_
  rintro e w2 ⟨ao2, cap2, rfl, h2⟩
  have k2 : Hid (Kp w r w2 [(r + 1, objO k b n), (r, objU ⟨u.base, u.bits, 0⟩)] [(ao2, [])]) := h2
  clear k1 h2
  have g3 := k2.out.alloc (objU v)
  have G3 : Hid (Kp w r (w2.alloc (objU v)) [(w2.heap.size, objU v), (r + 1, objO k b n), (r, objU ⟨u.base, u.bits, 0⟩)] [(ao2, [])]) := g3
  clear k2
  clear g3
  obtain ⟨c0, c1, c2⟩ := (G3.out.atO (r + 1) k b n (by simp)).cells
  simp only [encU, objU] at *
  go_wp2_with fail
  generalize w2.alloc (Obj.cells #[.int .u64 v.base, .int .i64 v.bits, .int .u64 v.used] 24) = v3 at *
  generalize w2.heap.size = q3 at *
  have k3 : Hid (Kp w r v3 [(q3, objU v), (r + 1, objO k b n), (r, objU ⟨u.base, u.bits, 0⟩)] [(ao2, [])]) := G3
  clear G3
  clear c0 c1 c2
  obtain ⟨c0, c1, c2⟩ := (k3.out.atU (q3) (v) (by simp)).cells
  obtain ⟨c3, c4, c5⟩ := (k3.out.atO (r + 1) k b n (by simp)).cells
  go_cut [8, 9, 10] from 25 to 37 (fun s8 s9 s10 wx => ∃ ao cap q, s8 = .slice ao (A2).length cap ∧ s9 = .pointer (some ⟨q, 0, none⟩) ∧ s10 = .int .i64 e2 ∧ Kp w r wx [(q, objU v2), (q3, objU v), (r + 1, objO k b n), (r, objU ⟨u.base, u.bits, 0⟩)] [(ao, A2), (ao2, [])])
  case first =>
    have HP : Hid (∀ W, Below v3.heap.size v3 W → W.cell? ⟨q3, 0, none⟩ = some (.int .u64 v.base) ∧ W.cell? ⟨q3, 1, none⟩ = some (.int .i64 v.bits) ∧ W.cell? ⟨q3, 2, none⟩ = some (.int .u64 v.used) ∧ W.cell? ⟨r + 1, 0, none⟩ = some (.int .i64 k) ∧ W.cell? ⟨r + 1, 1, none⟩ = some (.int .i64 b) ∧ W.cell? ⟨r + 1, 2, none⟩ = some (.int .i64 n)) := fun W hW => by
      obtain ⟨x0, x1, x2⟩ := ((k3.out.below hW).atU q3 v (by simp)).cells
      obtain ⟨y0, y1, y2⟩ := ((k3.out.below hW).atO (r + 1) k b n (by simp)).cells
      exact ⟨x0, x1, x2, y0, y1, y2⟩
    have hS := HP.out v3 (Below.refl _ _)
    clear c0 c1 c2 c3 c4 c5
    go_region_held3 (fun W => W.cell? ⟨q3, 0, none⟩ = some (.int .u64 v.base) ∧ W.cell? ⟨q3, 1, none⟩ = some (.int .i64 v.bits) ∧ W.cell? ⟨q3, 2, none⟩ = some (.int .u64 v.used) ∧ W.cell? ⟨r + 1, 0, none⟩ = some (.int .i64 k) ∧ W.cell? ⟨r + 1, 1, none⟩ = some (.int .i64 b) ∧ W.cell? ⟨r + 1, 2, none⟩ = some (.int .i64 n)) ((first | with_reducible assumption | with_reducible exact HP.out _ (bw_drew v3) | with_reducible exact HP.out _ (bw_ad v3 _) | with_reducible exact HP.out _ BP.out | with_reducible exact HP.out _ (bw_alloc BP.out _) | with_reducible exact HP.out _ BR.out | with_reducible exact HP.out _ (bw_alloc BR.out _) | with_reducible exact HP.out _ (three_sets BP.out QP.out _ _ _))) ((first | (go_at_call 17; refine (reset_agg v _).mono ?_; rintro e wR ⟨rfl, bR⟩; (first | (have BR : Hid (Below v3.heap.size v3 wR) := (at_firstd bR).1; have ZR : Hid (wR.heap[v3.heap.size]? = some (objU Un.zero)) := (at_firstd bR).2) | (have BR : Hid (Below v3.heap.size v3 wR) := at_none bR)); clear bR) | (go_at_call 9; refine (place_aggis ⟨v.base, v.bits, 0⟩ v2 k b n e2 A2 _ (by first | exact (k3.out.below BR.out).tab | exact ((k3.out.below BR.out).alloc _).tab) ⟨HV.out.base, HV.out.bits, (show (0 : Int) ≤ 0 ∧ (0 : Int) ≤ 18446744073709551615 by decide)⟩ HB.out HN.out GA.out GW.out GE.out).mono ?_; rintro e wP ⟨aP, cP, rfl, tP, xP, bP⟩; have TP : Hid (Told wP aP A2) := tP; (first | (have BP : Hid (Below v3.heap.size v3 wP) := (at_next BR.out ZR.out bP).1; have ZP : Hid (AtU wP v3.heap.size ⟨0, 0, 0⟩) := (at_next BR.out ZR.out bP).2; have QP : Hid (v3.heap.size ≤ v3.heap.size) := Nat.le_refl _; have XP : Hid (∀ x, aP = some x → x.block ≠ v3.heap.size) := far_block (Array.getElem?_eq_some_iff.1 ZR.out).1 xP; obtain ⟨z0, z1, z2⟩ := ZP.out.cells; have zf := ZP.out.frozen) | (have BP : Hid (Below v3.heap.size v3 wP) := (at_mid BR.out bP).1; have ZP : Hid (AtU wP wR.heap.size ⟨0, 0, 0⟩) := (at_mid BR.out bP).2.1; have QP : Hid (v3.heap.size ≤ wR.heap.size) := (at_mid BR.out bP).2.2; have XP : Hid (∀ x, aP = some x → x.block ≠ wR.heap.size) := far_block (by rw [World.size_alloc]; exact Nat.lt_succ_self _) xP; obtain ⟨z0, z1, z2⟩ := ZP.out.cells; have zf := ZP.out.frozen) | (have BP : Hid (Below v3.heap.size v3 wP) := at_on BR.out bP)); clear tP xP bP)))
    all_goals go_wp2_with fail
    all_goals go_meet
    all_goals first | exact ⟨aP, cP, _, rfl, rfl, rfl, k3.out.boxed0 BP.out TP.out v2⟩ | exact ⟨aP, cP, _, rfl, rfl, rfl, k3.out.boxed3 BP.out ZP.out QP.out TP.out XP.out v2⟩
  case rest =>
    obtain ⟨ao7, cap7, q7, rfl, rfl, rfl, h7⟩ := hcut
    have k7 : Hid (Kp w r wc [(q7, objU v2), (q3, objU v), (r + 1, objO k b n), (r, objU ⟨u.base, u.bits, 0⟩)] [(ao7, A2), (ao2, [])]) := h7
    clear h7 k3 c0 c1 c2 c3 c4 c5
    have hpe : (pe != 0) = true := by have := HNZ.out; simpa using this
    go_wp2_with fail
    refine (fixed_kp k7.out).mono ?_
    rintro e w8 ⟨rfl, h8⟩
    have k8 : Hid (Kp w r w8 [(q7, objU v2), (q3, objU v), (r + 1, objO k b n), (r, objU ⟨u.base, u.bits, 0⟩)] [(ao7, A2), (ao2, [])]) := h8
    clear k7 h8
    have B : Hid (Below r w w8) := k8.out.bel
    go_wp2_with fail
    go_ret
    refine ⟨rfl, ?_⟩
    rw [HR.out]
    exact B.out
set_option maxHeartbeats 4000000 in
theorem good (u : Un) (k b n : Int) (w : World) (hT : Tab w) (hf : u.Fits) (hb : -9223372036854775808 ≤ b ∧ b ≤ 9223372036854775807) (hn : -9223372036854775808 ≤ n ∧ n ≤ 9223372036854775807) (h1 : Found ⟨u.base, u.bits, 0⟩ k b n) :
    Calls Tryd.prog 7 #[encU u, encO k b n] w fun e w' => e = .returned (.bool true) ∧ Below w.heap.size w w' := by
  have hf0 : Un.Fits ⟨u.base, u.bits, 0⟩ := ⟨hf.base, hf.bits, (show (0 : Int) ≤ 0 ∧ (0 : Int) ≤ 18446744073709551615 by decide)⟩
  have hE := (found_iff _ _ _ _).2 h1
  have HE : Hid (plE ⟨u.base, u.bits, 0⟩ k b n = 0) := hE
  have HV : Hid (plU ⟨u.base, u.bits, 0⟩ k b n).Fits := (place_ok hf0 h1).2.1
  have hV0 : (⟨(plU ⟨u.base, u.bits, 0⟩ k b n).base, (plU ⟨u.base, u.bits, 0⟩ k b n).bits, 0⟩ : Un) = ⟨u.base, u.bits, 0⟩ := by unfold plU; rw [if_pos hE]
  have hL : 1 ≤ (plL ⟨u.base, u.bits, 0⟩ k b n).length ∧ (plL ⟨u.base, u.bits, 0⟩ k b n).length ≤ 64 := by
    have := h1.n0
    unfold plL
    rw [if_pos hE, runL_len]
    omega
  clear hE h1 hf0
  obtain ⟨A, ha⟩ : ∃ A, plL ⟨u.base, u.bits, 0⟩ k b n = A := ⟨_, rfl⟩
  obtain ⟨v, hw⟩ : ∃ v, plU ⟨u.base, u.bits, 0⟩ k b n = v := ⟨_, rfl⟩
  rw [hw] at HV hV0
  rw [ha] at hL
  have HL : Hid (1 ≤ A.length ∧ A.length ≤ 64) := hL
  have HA : Hid (plL ⟨u.base, u.bits, 0⟩ k b n = A) := ha
  have HW : Hid (plU ⟨u.base, u.bits, 0⟩ k b n = v) := hw
  have GA : Hid (plL ⟨v.base, v.bits, 0⟩ k b n = A) := by show _ = A; rw [hV0]; exact ha
  have GW : Hid (plU ⟨v.base, v.bits, 0⟩ k b n = v) := by show _ = v; rw [hV0]; exact hw
  have GE : Hid (plE ⟨v.base, v.bits, 0⟩ k b n = 0) := by show _ = (0 : Int); rw [hV0]; exact HE.out
  clear ha hw hL hV0
  have HF : Hid u.Fits := hf
  have HB : Hid (-9223372036854775808 ≤ b ∧ b ≤ 9223372036854775807) := hb
  have HN : Hid (-9223372036854775808 ≤ n ∧ n ≤ 9223372036854775807) := hn
  clear hf hb hn
  have HF0 : Hid (Un.Fits ⟨u.base, u.bits, 0⟩) := ⟨HF.out.base, HF.out.bits, (show (0 : Int) ≤ 0 ∧ (0 : Int) ≤ 18446744073709551615 by decide)⟩
  have h1 := ((Kp.start hT).alloc (objU ⟨u.base, u.bits, 0⟩)).alloc (objO k b n)
  rw [World.size_alloc] at h1
  clear hT
  simp only [encU, encO, objU, objO] at *
  go_enter Tryd.func7, Tryd.ntmps7
  go_wp2_with fail
  generalize (w.alloc (Obj.cells #[.int .u64 u.base, .int .i64 u.bits, .int .u64 0] 24)).alloc (Obj.cells #[.int .i64 k, .int .i64 b, .int .i64 n] 26) = W1 at *
  generalize hr0 : w.heap.size = r at *
  have HR : Hid (w.heap.size = r) := hr0
  clear hr0
  have k1 : Hid (Kp w r W1 [(r + 1, objO k b n), (r, objU ⟨u.base, u.bits, 0⟩)] []) := h1
  clear h1
  refine (place_is ⟨u.base, u.bits, 0⟩ v k b n 0 A k1.out HF0.out HB.out HN.out HA.out HW.out HE.out).mono ?_
  rintro e w2 ⟨ao2, cap2, rfl, h2⟩
  have k2 : Hid (Kp w r w2 [(r + 1, objO k b n), (r, objU ⟨u.base, u.bits, 0⟩)] [(ao2, A)]) := h2
  clear k1 h2
  have g3 := k2.out.alloc (objU v)
  have G3 : Hid (Kp w r (w2.alloc (objU v)) [(w2.heap.size, objU v), (r + 1, objO k b n), (r, objU ⟨u.base, u.bits, 0⟩)] [(ao2, A)]) := g3
  clear k2
  clear g3
  obtain ⟨c0, c1, c2⟩ := (G3.out.atO (r + 1) k b n (by simp)).cells
  simp only [encU, objU] at *
  go_wp2_with fail
  generalize w2.alloc (Obj.cells #[.int .u64 v.base, .int .i64 v.bits, .int .u64 v.used] 24) = v3 at *
  generalize w2.heap.size = q3 at *
  have k3 : Hid (Kp w r v3 [(q3, objU v), (r + 1, objO k b n), (r, objU ⟨u.base, u.bits, 0⟩)] [(ao2, A)]) := G3
  clear G3
  clear c0 c1 c2
  obtain ⟨c0, c1, c2⟩ := (k3.out.atU (q3) (v) (by simp)).cells
  obtain ⟨c3, c4, c5⟩ := (k3.out.atO (r + 1) k b n (by simp)).cells
  go_cut [8, 9, 10] from 25 to 37 (fun s8 s9 s10 wx => ∃ ao cap q, s8 = .slice ao (A).length cap ∧ s9 = .pointer (some ⟨q, 0, none⟩) ∧ s10 = .int .i64 0 ∧ Kp w r wx [(q, objU v), (q3, objU v), (r + 1, objO k b n), (r, objU ⟨u.base, u.bits, 0⟩)] [(ao, A), (ao2, A)])
  case first =>
    have HP : Hid (∀ W, Below v3.heap.size v3 W → W.cell? ⟨q3, 0, none⟩ = some (.int .u64 v.base) ∧ W.cell? ⟨q3, 1, none⟩ = some (.int .i64 v.bits) ∧ W.cell? ⟨q3, 2, none⟩ = some (.int .u64 v.used) ∧ W.cell? ⟨r + 1, 0, none⟩ = some (.int .i64 k) ∧ W.cell? ⟨r + 1, 1, none⟩ = some (.int .i64 b) ∧ W.cell? ⟨r + 1, 2, none⟩ = some (.int .i64 n)) := fun W hW => by
      obtain ⟨x0, x1, x2⟩ := ((k3.out.below hW).atU q3 v (by simp)).cells
      obtain ⟨y0, y1, y2⟩ := ((k3.out.below hW).atO (r + 1) k b n (by simp)).cells
      exact ⟨x0, x1, x2, y0, y1, y2⟩
    have hS := HP.out v3 (Below.refl _ _)
    clear c0 c1 c2 c3 c4 c5
    go_region_held3 (fun W => W.cell? ⟨q3, 0, none⟩ = some (.int .u64 v.base) ∧ W.cell? ⟨q3, 1, none⟩ = some (.int .i64 v.bits) ∧ W.cell? ⟨q3, 2, none⟩ = some (.int .u64 v.used) ∧ W.cell? ⟨r + 1, 0, none⟩ = some (.int .i64 k) ∧ W.cell? ⟨r + 1, 1, none⟩ = some (.int .i64 b) ∧ W.cell? ⟨r + 1, 2, none⟩ = some (.int .i64 n)) ((first | with_reducible assumption | with_reducible exact HP.out _ (bw_drew v3) | with_reducible exact HP.out _ (bw_ad v3 _) | with_reducible exact HP.out _ BP.out | with_reducible exact HP.out _ (bw_alloc BP.out _) | with_reducible exact HP.out _ BR.out | with_reducible exact HP.out _ (bw_alloc BR.out _) | with_reducible exact HP.out _ (three_sets BP.out QP.out _ _ _))) ((first | (go_at_call 17; refine (reset_agg v _).mono ?_; rintro e wR ⟨rfl, bR⟩; (first | (have BR : Hid (Below v3.heap.size v3 wR) := (at_firstd bR).1; have ZR : Hid (wR.heap[v3.heap.size]? = some (objU Un.zero)) := (at_firstd bR).2) | (have BR : Hid (Below v3.heap.size v3 wR) := at_none bR)); clear bR) | (go_at_call 9; refine (place_aggis ⟨v.base, v.bits, 0⟩ v k b n 0 A _ (by first | exact (k3.out.below BR.out).tab | exact ((k3.out.below BR.out).alloc _).tab) ⟨HV.out.base, HV.out.bits, (show (0 : Int) ≤ 0 ∧ (0 : Int) ≤ 18446744073709551615 by decide)⟩ HB.out HN.out GA.out GW.out GE.out).mono ?_; rintro e wP ⟨aP, cP, rfl, tP, xP, bP⟩; have TP : Hid (Told wP aP A) := tP; (first | (have BP : Hid (Below v3.heap.size v3 wP) := (at_next BR.out ZR.out bP).1; have ZP : Hid (AtU wP v3.heap.size ⟨0, 0, 0⟩) := (at_next BR.out ZR.out bP).2; have QP : Hid (v3.heap.size ≤ v3.heap.size) := Nat.le_refl _; have XP : Hid (∀ x, aP = some x → x.block ≠ v3.heap.size) := far_block (Array.getElem?_eq_some_iff.1 ZR.out).1 xP; obtain ⟨z0, z1, z2⟩ := ZP.out.cells; have zf := ZP.out.frozen) | (have BP : Hid (Below v3.heap.size v3 wP) := (at_mid BR.out bP).1; have ZP : Hid (AtU wP wR.heap.size ⟨0, 0, 0⟩) := (at_mid BR.out bP).2.1; have QP : Hid (v3.heap.size ≤ wR.heap.size) := (at_mid BR.out bP).2.2; have XP : Hid (∀ x, aP = some x → x.block ≠ wR.heap.size) := far_block (by rw [World.size_alloc]; exact Nat.lt_succ_self _) xP; obtain ⟨z0, z1, z2⟩ := ZP.out.cells; have zf := ZP.out.frozen) | (have BP : Hid (Below v3.heap.size v3 wP) := at_on BR.out bP)); clear tP xP bP)))
    all_goals go_wp2_with fail
    all_goals go_meet
    all_goals first | exact ⟨aP, cP, _, rfl, rfl, rfl, k3.out.boxed0 BP.out TP.out v⟩ | exact ⟨aP, cP, _, rfl, rfl, rfl, k3.out.boxed3 BP.out ZP.out QP.out TP.out XP.out v⟩
  case rest =>
    obtain ⟨ao7, cap7, q7, rfl, rfl, rfl, h7⟩ := hcut
    have k7 : Hid (Kp w r wc [(q7, objU v), (q3, objU v), (r + 1, objO k b n), (r, objU ⟨u.base, u.bits, 0⟩)] [(ao7, A), (ao2, A)]) := h7
    clear h7 k3 c0 c1 c2 c3 c4 c5
    have hq := fun W => eq_un W v v
    rw [decide_eq_true rfl] at hq
    obtain ⟨c0, c1, c2⟩ := (k7.out.atU (q3) (v) (by simp)).cells
    obtain ⟨c3, c4, c5⟩ := (k7.out.atU (q7) (v) (by simp)).cells
    obtain ⟨m, hm⟩ : ∃ m, A.length = m := ⟨_, rfl⟩
    rw [hm]
    have HM : Hid (A.length = m) := hm
    clear hm
    have hm64 : m ≤ 64 := by rw [← HM.out]; exact HL.out.2
    have hmi : (m : Int) < 9223372036854775807 := by omega
    go_wp2_with fail
    clear c0 c1 c2 c3 c4 c5
    have H1 : Hid (∃ b o, ao2 = some ⟨b, o, none⟩ ∧ ∀ W, Below wc.heap.size wc W → ∀ j, j < m → W.cell? ⟨b, o + j, none⟩ = some (.int .u64 (A.getD j 0))) := told_in HM.out HL.out.1 (k7.out.tld (ao2, A) (by simp))
    have H2 : Hid (∃ b o, ao7 = some ⟨b, o, none⟩ ∧ ∀ W, Below wc.heap.size wc W → ∀ j, j < m → W.cell? ⟨b, o + j, none⟩ = some (.int .u64 (A.getD j 0))) := told_in HM.out HL.out.1 (k7.out.tld (ao7, A) (by simp))
    obtain ⟨b1, o1, rfl, hc1⟩ := H1.out
    obtain ⟨b2, o2, rfl, hc2⟩ := H2.out
    have G1 : Hid (∀ W, Below wc.heap.size wc W → ∀ j, j < m → W.cell? ⟨b1, o1 + j, none⟩ = some (.int .u64 (A.getD j 0))) := hc1
    have G2 : Hid (∀ W, Below wc.heap.size wc W → ∀ j, j < m → W.cell? ⟨b2, o2 + j, none⟩ = some (.int .u64 (A.getD j 0))) := hc2
    clear H1 H2 hc1 hc2 hq
    go_loopw [11] (fun i wr => ∃ j : Nat, j ≤ m ∧ i = .int .i64 j ∧ Below wc.heap.size wc wr) (fun i _ => m - (intOf i).toNat)
    case atStart => exact ⟨0, Nat.zero_le _, rfl, Below.refl _ _⟩
    case round =>
      obtain ⟨j, hj, rfl, hb⟩ := hrel
      have HB2 : Hid (Below wc.heap.size wc wr) := hb
      clear hb
      by_cases hjm : j < m
      · have hx := G1.out wr HB2.out j hjm
        have hy := G2.out wr HB2.out j hjm
        generalize A.getD j 0 = x at *
        have hji : (j : Int) < (m : Int) := by omega
        go_wp2
        go_quiet (fail)
        go_wp2
        go_roundw
        case rel => exact ⟨j + 1, by omega, by go_num, below_drewN HB2.out _⟩
        case measure => simp [intOf]; omega
      · have hjm' : j = m := by omega
        subst hjm'
        go_wp2_with fail
        refine (fixed_kp (k7.out.below HB2.out)).mono ?_
        rintro e w9 ⟨rfl, h9⟩
        have B : Hid (Below r w w9) := h9.bel
        clear h9
        go_wp2_with fail
        go_ret
        refine ⟨rfl, ?_⟩
        rw [HR.out]
        exact B.out
theorem walk (u : Un) (k b n : Int) (w : World) (hT : Tab w) (hf : u.Fits) (_hk : -9223372036854775808 ≤ k ∧ k ≤ 9223372036854775807) (hb : -9223372036854775808 ≤ b ∧ b ≤ 9223372036854775807) (hn : -9223372036854775808 ≤ n ∧ n ≤ 9223372036854775807) :
    Calls Tryd.prog 7 #[encU u, encO k b n] w fun e w' => e = .returned (.bool true) ∧ Below w.heap.size w w' := by
  by_cases h1 : plE ⟨u.base, u.bits, 0⟩ k b n = 0
  · exact good u k b n w hT hf hb hn ((found_iff _ _ _ _).1 h1)
  · exact bad u k b n w hT hf hb hn h1
open Go.ChangeShapes Go.WideShapes Go.ChangeAt Go.RowKit Go.Joins

/-! ### From the walk to the statement -/
theorem contract (H : Type) (enc : TypeId × Value → H) (W : World) (base : Nat) (args : Array Value) (ds gs : List (DataW H)) (before : List MemPlace)
    (hval : ∀ (j : Nat) t v, Tryd.f7.params[j]? = some t → args[j]? = some v → Value.okWide Tryd.prog W .any base t v)
    (hW : DataW.Whole enc Tryd.prog Tryd.f7.params.toList Rows.untypedResetsSpec.vars false W args.toList ds gs before) (hL : laidMetH Tryd.prog Rows.untypedResetsRow.laid W) :
    Calls Tryd.prog 7 args W fun e W' => ∃ v, e = .returned v ∧ Rows.untypedResetsSpec.post enc Tryd.prog Tryd.f7 false true false false W args v W' := by
  have hW' := hW
  obtain ⟨p, q, hA0, hV, rfl, hfz, hnd⟩ := hW
  have hA : DataW.TrodAll enc Tryd.prog W 0 (fun _ => true) true Tryd.f7.params.toList args.toList ds p := hA0
  rw [Tryd.params7] at hA hval
  obtain ⟨v0, vs0, d0, ds0, p0, q0, hargs, rfl, rfl, h0, r0⟩ := trodAll_cons hA
  obtain ⟨v1, vs1, d1, ds1, p1, q1, rfl, rfl, rfl, h1, r1⟩ := trodAll_cons r0
  obtain ⟨rfl, rfl, rfl⟩ := trodAll_nil r1
  obtain rfl : args = #[v0, v1] := by cases args; simp_all
  obtain ⟨rfl, rfl⟩ := trodVars_none hV
  have k0 := h0
  have lt0 : ∀ x ∈ p0, x.block < W.heap.size := by obtain ⟨m, hm⟩ := k0; exact DataW.trod_lt m _ _ _ hm
  have k1 := h1
  have lt1 : ∀ x ∈ p1, x.block < W.heap.size := by obtain ⟨m, hm⟩ := k1; exact DataW.trod_lt m _ _ _ hm
  obtain ⟨a0, rfl, w0⟩ := open_un (hval 0 24 v0 rfl rfl) h0
  obtain ⟨a1k, a1b, a1n, rfl, w1k, w1b, w1n⟩ := open_what (hval 1 26 v1 rfl rfl) h1
  clear hA0
  refine (walk a0 a1k a1b a1n W (table hL) w0 w1k w1b w1n).mono fun e W' ⟨he, bel⟩ => ?_
  subst he
  exact ⟨_, rfl, _, _, _, [], _, [], hW', trodAll_mk1 (shut_bool Tryd.underlying4 _), (trodAll_cons_mk (Below.trod laidOut (by kernel_rfl) (of_decide_eq_true (by kernel_rfl)) k0 bel lt0) (trodAll_cons_mk (Below.trod laidOut (by kernel_rfl) (of_decide_eq_true (by kernel_rfl)) k1 bel lt1) trodAll_mk0)), rfl, bel.frame _, fun h => by cases h⟩

theorem laid_met (os : Os) : laidMet Tryd.prog Rows.untypedResetsRow.laid ((World.doorLaid Tryd.prog 40 os).forCall (fun _ _ => 0) ⟨#[], #[.agg #[.int .u64 0, .int .i64 0, .int .u64 0], .agg #[.int .i64 0, .int .i64 0, .int .i64 0]], []⟩).memory :=
  laidMet_of_run' 8 (by kernel_rfl) (by kernel_rfl)
theorem reads (os : Os) {H : Type} (enc : TypeId × Value → H) : ∃ places, DataW.whole enc Tryd.prog ((World.doorLaid Tryd.prog 40 os).forCall (fun _ _ => 0) ⟨#[], #[.agg #[.int .u64 0, .int .i64 0, .int .u64 0], .agg #[.int .i64 0, .int .i64 0, .int .i64 0]], []⟩).memory Tryd.f7.params.toList Rows.untypedResetsSpec.vars false (#[.agg #[.int .u64 0, .int .i64 0, .int .u64 0], .agg #[.int .i64 0, .int .i64 0, .int .i64 0]] : Array Value).toList 8 = some ([.agg [.lit (.int .u64 0), .lit (.int .i64 0), .lit (.int .u64 0)], .agg [.lit (.int .i64 0), .lit (.int .i64 0), .lit (.int .i64 0)]], [], places) :=
  ⟨[], by kernel_rfl⟩
set_option maxRecDepth 100000 in
theorem lifted (os : Os) (started : os.Started) (H : Type) (enc : TypeId × Value → H) (F : Stop.Interp) :
    ReturnsInHanded {} Tryd.checked os 7 .any ((OpenSpec.ofChange Rows.untypedResetsSpec).preRow enc Tryd.prog Tryd.f7 Rows.untypedResetsRow.domain false Rows.untypedResetsRow.laid) (((OpenSpec.ofChange Rows.untypedResetsSpec).at F).post enc Tryd.prog Tryd.f7 false true false false) := by
  obtain ⟨places, hx⟩ := reads os enc
  refine returnsInHanded_of_row (C := Tryd.checked) (s := OpenSpec.ofChange Rows.untypedResetsSpec) own started (by kernel_rfl) Tryd.func7
    (witness_row_at (enc := enc) (C := Tryd.checked) false (World.doorLaid Tryd.prog 40 os) #[.agg #[.int .u64 0, .int .i64 0, .int .u64 0], .agg #[.int .i64 0, .int .i64 0, .int .i64 0]] rfl (by kernel_rfl) (by kernel_rfl) (by kernel_rfl)
      (OpenSpec.preRow_of_cond 8 hx (by kernel_rfl) (fun k hk => by cases hk) (by kernel_rfl) (laid_met os))) ?_
  intro W base args ds gs before hval hW _ _ _ hL _ _
  exact contract H enc W base args ds gs before hval hW hL
theorem said : Rows.UntypedResetsSaid :=
  OpenClaim.holds_of_cond 7 Tryd.f7 rfl rfl rfl rfl rfl rfl rfl ⟨rfl, rfl, rfl, rfl, rfl⟩ rfl rfl rfl rfl rfl (by kernel_rfl) Tryd.func7 (by kernel_rfl)
    (of_decide_eq_true (by kernel_rfl)) (by unfold Func.isWrapper; first | (rw [if_pos (by decide +kernel)]; kernel_rfl) | (rw [if_neg (by decide +kernel)]; exact ⟨rfl, rfl⟩))
    (fun os started H enc _ F => by rw [OpenClaim.pre_eq_preRow]; exact lifted os started H enc F)
theorem plain (f : FuncId) (fn : Func) (hf : Tryd.pinned.checked.prog.funcNamed "buttress/buttresslaw08.UntypedResets" = some f) (hfn : Tryd.pinned.checked.prog.funcs[f]? = some fn) :
    false = Tryd.pinned.checked.prog.looks [] ∧ ∀ (j : Nat) t, fn.params[j]? = some t → Tryd.pinned.checked.prog.wantsStandIn t = false := by
  obtain rfl : f = 7 := Option.some.inj ((show Tryd.prog.funcNamed "buttress/buttresslaw08.UntypedResets" = some 7 by kernel_rfl).symm.trans hf) |>.symm
  obtain rfl : fn = Tryd.f7 := (Option.some.inj (Tryd.func7.symm.trans hfn)).symm
  refine ⟨by kernel_rfl, fun j t ht => ?_⟩
  rw [Tryd.params7] at ht
  have hm : t ∈ [24, 26] := by simpa using Array.mem_of_getElem? ht
  have hall : ([24, 26].all fun u => !Tryd.prog.wantsStandIn u) = true := by kernel_rfl
  exact (show Tryd.prog.wantsStandIn t = false by simpa using List.all_eq_true.1 hall t hm)
end Go.Proofs.YtkelblkegpmlpaaDoor.untypedResets
namespace Go.Proofs.YtkelblkegpmlpaaDoor
/-- THE CARD. -/
theorem untypedResets_card : Rows.UntypedResetsCardSaid :=
  Claim7.holds_tied_plain_at .later [] _ _ _ _ untypedResets.said (fun _ h => by cases h) (by kernel_rfl) (fun _ h => by cases h) untypedResets_row_tie rfl ⟨rfl, rfl⟩ (by kernel_rfl) rfl untypedResets.plain (by kernel_rfl)
#print axioms untypedResets_card
end Go.Proofs.YtkelblkegpmlpaaDoor

/-
  The statement UntypedOnes: for every memory and whatever is asked for the law returns true and what was handed in reads as it did; the table of sizes lies as the program's text lays it, and the card ties that to the text.
-/
import Derived.Test.YtkelblkegpmlpaaDoorUCut
namespace Go.Proofs.YtkelblkegpmlpaaDoor.untypedOnes
open Go.RowKit Go.Deep
open Classical
/-! ### One by one -/
/-- The memory behind i objects. -/
def Wi (u : Un) (F S : Int) (i : Nat) : Un := if i = 0 then u else ⟨u.base, u.bits, F + (i : Int) * S - u.base⟩
/-- So many go in. -/
def Ok (u : Un) (k b : Int) (i : Nat) : Prop := i = 0 ∨ (okU u ∧ szE k b = 0 ∧ firstI u (szN k b) + (i : Int) * twoI (szN k b) ≤ u.base + twoI u.bits)
theorem Wi_fits {u : Un} (hf : u.Fits) {k b : Int} {i : Nat} (h : Ok u k b i) : (Wi u (firstI u (szN k b)) (twoI (szN k b)) i).Fits := by
  unfold Wi
  split
  · exact hf
  · rcases h with h | ⟨h1, h2, h3⟩
    · exact absurd h ‹_›
    · have N := nums hf h1 h2
      have a1 := N.F0
      have a2 := N.P1
      have a3 := N.S1
      have a4 := hf.base
      have a5 := hf.used
      have a6 : 0 ≤ (i : Int) * twoI (szN k b) := Int.mul_nonneg (by omega) (by omega)
      exact ⟨hf.base, hf.bits, by show 0 ≤ _ - _ ∧ _ - _ ≤ _; omega⟩
theorem err_one {u : Un} {k b : Int} (m : Int) (hm : 1 ≤ m ∧ m ≤ 64) (h : ¬ (okU u ∧ szE k b = 0)) : plE u k b m = plE u k b 1 ∧ plE u k b m ≠ 0 := by
  have e : ∀ n : Int, 1 ≤ n ∧ n ≤ 64 → plE u k b n = if ¬ okU u then 1 else szE k b := fun n hn => by
    unfold plE
    by_cases h1 : okU u
    · rw [if_neg (not_not_intro h1), if_pos (fun x => h ⟨h1, x⟩), if_neg (not_not_intro h1)]
    · rw [if_pos h1, if_pos h1]
  refine ⟨(e m hm).trans (e 1 (by decide)).symm, ?_⟩
  rw [e m hm]
  by_cases h1 : okU u
  · rw [if_neg (not_not_intro h1)]
    exact fun x => h ⟨h1, x⟩
  · rw [if_pos h1]
    decide
theorem err_room {u : Un} {k b m : Int} (h1 : okU u) (h2 : szE k b = 0) (hm : 1 ≤ m ∧ m ≤ 64) : plE u k b m = if roomB u (szN k b) m then 0 else 81 := by
  unfold plE
  rw [if_neg (not_not_intro h1), if_neg (by simpa using h2), if_neg (by simpa using hm)]
theorem first_i {u : Un} (hf : u.Fits) {k b : Int} (h1 : okU u) (h2 : szE k b = 0) (i : Nat) : firstI (Wi u (firstI u (szN k b)) (twoI (szN k b)) i) (szN k b) = firstI u (szN k b) + (i : Int) * twoI (szN k b) := by
  unfold Wi
  split
  · subst_vars
    simp
  · exact next_first hf h1 h2 (by omega)
theorem ok_i {u : Un} {k b : Int} (h1 : okU u) {i : Nat} (h : Ok u k b i) : okU (Wi u (firstI u (szN k b)) (twoI (szN k b)) i) := by
  unfold Wi
  split
  · exact h1
  · rcases h with h | ⟨_, _, h3⟩
    · exact absurd h ‹_›
    · exact ⟨h1.1, h1.2.1, h1.2.2.1, by show _ - _ ≤ twoI u.bits; omega⟩
/-- One more goes in, or none does, for the same reason as all together. -/
theorem step {u : Un} (hf : u.Fits) {k b : Int} {m i : Nat} (hm : 1 ≤ m ∧ m ≤ 64) (hi : i < m) (h : Ok u k b i) :
    (plE (Wi u (firstI u (szN k b)) (twoI (szN k b)) i) k b 1 = 0 ∧ plL (Wi u (firstI u (szN k b)) (twoI (szN k b)) i) k b 1 = [firstI u (szN k b) + (i : Int) * twoI (szN k b)] ∧
      plU (Wi u (firstI u (szN k b)) (twoI (szN k b)) i) k b 1 = Wi u (firstI u (szN k b)) (twoI (szN k b)) (i + 1) ∧ Ok u k b (i + 1)) ∨
    (plE (Wi u (firstI u (szN k b)) (twoI (szN k b)) i) k b 1 = plE u k b m ∧ plE u k b m ≠ 0) := by
  by_cases hg : okU u ∧ szE k b = 0
  · obtain ⟨h1, h2⟩ := hg
    have fi := first_i hf h1 h2 i
    have oi := ok_i h1 h
    have ei := err_room (m := 1) oi h2 (by decide)
    have em := err_room (m := (m : Int)) h1 h2 (by omega)
    have bi : (Wi u (firstI u (szN k b)) (twoI (szN k b)) i).base = u.base ∧ (Wi u (firstI u (szN k b)) (twoI (szN k b)) i).bits = u.bits := by
      unfold Wi
      split <;> exact ⟨rfl, rfl⟩
    have N := nums hf h1 h2
    have hS := N.S1
    have ea : ((i + 1 : Nat) : Int) * twoI (szN k b) = (i : Int) * twoI (szN k b) + twoI (szN k b) := by
      rw [show ((i + 1 : Nat) : Int) = (i : Int) + 1 by omega, Int.add_mul, Int.one_mul]
    have hle : ((i + 1 : Nat) : Int) * twoI (szN k b) ≤ (m : Int) * twoI (szN k b) := Int.mul_le_mul_of_nonneg_right (by omega) (by omega)
    by_cases hr : firstI u (szN k b) + ((i + 1 : Nat) : Int) * twoI (szN k b) ≤ u.base + twoI u.bits
    · left
      have hR : roomB (Wi u (firstI u (szN k b)) (twoI (szN k b)) i) (szN k b) 1 := by
        unfold roomB
        rw [fi, bi.1, bi.2]
        omega
      rw [if_pos hR] at ei
      refine ⟨ei, ?_, ?_, .inr ⟨h1, h2, hr⟩⟩
      · unfold plL
        rw [if_pos ei, fi]
        simp [runL]
      · unfold plU
        rw [if_pos ei, fi, bi.1, bi.2]
        unfold Wi
        rw [if_neg (by omega)]
        simp only [Un.mk.injEq, true_and]
        omega
    · right
      have hR : ¬ roomB (Wi u (firstI u (szN k b)) (twoI (szN k b)) i) (szN k b) 1 := by
        unfold roomB
        rw [fi, bi.1, bi.2]
        omega
      have hM : ¬ roomB u (szN k b) (m : Int) := by
        unfold roomB
        omega
      rw [if_neg hR] at ei
      rw [if_neg hM] at em
      rw [ei, em]
      exact ⟨rfl, by decide⟩
  · right
    have h0 : i = 0 := by
      rcases h with h | ⟨h1, h2, _⟩
      · exact h
      · exact absurd ⟨h1, h2⟩ hg
    subst h0
    obtain ⟨e1, e2⟩ := err_one (m : Int) (by omega) hg
    exact ⟨e1.symm, e2⟩
theorem all_in {u : Un} {k b : Int} {m : Nat} (hm : 1 ≤ m ∧ m ≤ 64) (h : Ok u k b m) :
    plE u k b m = 0 ∧ plL u k b m = runL (firstI u (szN k b)) (twoI (szN k b)) m ∧ plU u k b m = Wi u (firstI u (szN k b)) (twoI (szN k b)) m := by
  rcases h with h | ⟨h1, h2, h3⟩
  · omega
  · have e : plE u k b m = 0 := (found_iff _ _ _ _).2 ⟨h1, h2, by omega, h3⟩
    refine ⟨e, ?_, ?_⟩
    · unfold plL
      rw [if_pos e]
      simp
    · unfold plU Wi
      rw [if_pos e, if_neg (by omega)]

/-! ### The loop's own things -/
structure Lp (V : World) (q : Nat) (w : World) (x : Un) (v : Value) (A : List Int) : Prop where
  hq : V.heap.size = q
  bel : Below q V w
  at_ : AtU w q x
  own : Own (q + 1) w v A
section
variable {V : World} {q : Nat} {w w' : World} {x : Un} {v : Value} {A : List Int}
theorem Lp.lt (h : Lp V q w x v A) : q < w.heap.size := h.at_.lt
theorem own_block {B : Nat} {w w' : World} {v : Value} {A : List Int} (h : Own B w v A) (q : ∀ g, v.ownBlock = some g → w'.heap[g]? = w.heap[g]?) : Own B w' v A := by
  refine ⟨h.1, ?_⟩
  rcases h.2 with hn | ⟨g, cap, cur, rfl, hb, hg, r⟩
  · exact .inl hn
  · exact .inr ⟨g, cap, cur, rfl, hb, (q g rfl).trans hg, r⟩
theorem Lp.below (h : Lp V q w x v A) (b : Below w.heap.size w w') : Lp V q w' x v A :=
  ⟨h.hq, h.bel.trans (b.mono (Nat.le_of_lt h.lt)), h.at_.below b, own_block h.own fun g hg => b.block g (World.ownsRow.lt h.own g hg).2⟩
theorem Lp.start (V : World) (u : Un) : Lp V V.heap.size ((V.alloc (objU u)).alloc (.cells #[] 22)) u (.slice (some ⟨V.heap.size + 1, 0, none⟩) 0 0) [] := by
  have o := own_new (V.heap.size + 1) (V.alloc (objU u)) (by rw [World.size_alloc]; exact Nat.le_refl _)
  rw [World.size_alloc] at o
  exact ⟨rfl, two_new _ _ _, (AtU.new V u).below (below_new _ _), o⟩
theorem Lp.append (h : Lp V q w x v A) (ty : TypeId) {cs : List Int} {ad : Addr} {cap : Nat} (ht : Told w (some ad) cs) (hl : A.length + cs.length ≤ 1000) :
    ∃ v' w', (Builtin.append_ #[27, 27] ty #[v, .slice (some ad) cs.length cap]).run Tryd.prog w = .ok v' w' ∧ Lp V q w' x v' (A ++ cs) ∧ ∀ z, z < w.heap.size → v.ownBlock ≠ some z → w'.heap[z]? = w.heap[z]? := by
  obtain ⟨v', w', r1, r2, r3⟩ := append_words (q + 1) w ty v A cs ad cap h.own ht (by omega) h.lt
  have b : Below (q + 1) w w' := Below.grown (Below.refl _ _) r3 h.lt fun k hk => (World.ownsRow.lt h.own k hk).1
  refine ⟨v', w', r1, ⟨h.hq, h.bel.trans (b.mono (Nat.le_succ _)), h.at_.of_block (b.block q (Nat.lt_succ_self _)), r2⟩, fun z hz hne => r3.block z hz fun e => hne e.symm⟩
theorem Lp.store (h : Lp V q w x v A) (y : Un) : Lp V q (((w.setCell ⟨q, 0, none⟩ (.int .u64 y.base)).setCell ⟨q, 1, none⟩ (.int .i64 y.bits)).setCell ⟨q, 2, none⟩ (.int .u64 y.used)) y v A :=
  ⟨h.hq, three_sets h.bel (Nat.le_refl _) _ _ _, h.at_.set3 _ _ _, own_block h.own fun g hg => by
    have := (World.ownsRow.lt h.own g hg).1
    rw [blk_setCell_other _ _ _ _ (by show g ≠ q; omega), blk_setCell_other _ _ _ _ (by show g ≠ q; omega), blk_setCell_other _ _ _ _ (by show g ≠ q; omega)]⟩
end
set_option maxHeartbeats 4000000 in
theorem walk_m (u : Un) (k b n : Int) (m : Nat) (w : World) (hT : Tab w) (hf : u.Fits) (hb : -9223372036854775808 ≤ b ∧ b ≤ 9223372036854775807) (hm : bits .and .i64 n 31 = (m : Int) - 1) (hm1 : 1 ≤ m) (hm2 : m ≤ 32) :
    Calls Tryd.prog 5 #[encU u, encO k b n] w fun e w' => e = .returned (.bool true) ∧ Below w.heap.size w w' := by
  have HF : Hid u.Fits := hf
  have HB : Hid (-9223372036854775808 ≤ b ∧ b ≤ 9223372036854775807) := hb
  have HMB : Hid (1 ≤ m ∧ m ≤ 64) := ⟨hm1, by omega⟩
  have HM2 : Hid (m ≤ 32) := hm2
  clear hf hb
  have hme : 1 + ((m : Int) - 1) = (m : Int) := by omega
  have h1 := ((Kp.start hT).alloc (objU u)).alloc (objO k b n)
  rw [World.size_alloc] at h1
  clear hT
  simp only [encU, encO, objU, objO] at *
  go_enter Tryd.func5, Tryd.ntmps5
  go_wp2_with fail
  generalize (w.alloc (Obj.cells #[.int .u64 u.base, .int .i64 u.bits, .int .u64 u.used] 24)).alloc (Obj.cells #[.int .i64 k, .int .i64 b, .int .i64 n] 26) = W1 at *
  generalize hr0 : w.heap.size = r at *
  have HR : Hid (w.heap.size = r) := hr0
  clear hr0
  have k1 : Hid (Kp w r W1 [(r + 1, objO k b n), (r, objU u)] []) := h1
  clear h1
  clear hm hme
  obtain ⟨v, hv⟩ : ∃ v, plU u k b (m : Int) = v := ⟨_, rfl⟩
  obtain ⟨A, hA⟩ : ∃ A, plL u k b (m : Int) = A := ⟨_, rfl⟩
  obtain ⟨E, hE⟩ : ∃ E, plE u k b (m : Int) = E := ⟨_, rfl⟩
  have HV : Hid (plU u k b (m : Int) = v) := hv
  have HA : Hid (plL u k b (m : Int) = A) := hA
  have HE : Hid (plE u k b (m : Int) = E) := hE
  clear hv hA hE
  refine (place_is u v k b (m : Int) E A k1.out HF.out HB.out ⟨by omega, by omega⟩ HA.out HV.out HE.out).mono ?_
  rintro e w2 ⟨ao2, cap2, rfl, h2⟩
  have k2 : Hid (Kp w r w2 [(r + 1, objO k b n), (r, objU u)] [(ao2, A)]) := h2
  clear k1 h2
  have g3 := k2.out.alloc (objU v)
  have G3 : Hid (Kp w r (w2.alloc (objU v)) [(w2.heap.size, objU v), (r + 1, objO k b n), (r, objU u)] [(ao2, A)]) := g3
  clear k2
  clear g3
  obtain ⟨c0, c1, c2⟩ := (G3.out.atU (r) (u) (by simp)).cells
  simp only [encU, objU] at *
  go_wp2_with fail
  have hsz3 := World.size_alloc w2 (Obj.cells #[.int .u64 v.base, .int .i64 v.bits, .int .u64 v.used] 24)
  generalize w2.alloc (Obj.cells #[.int .u64 v.base, .int .i64 v.bits, .int .u64 v.used] 24) = v3 at *
  generalize w2.heap.size = q3 at *
  have k3 : Hid (Kp w r v3 [(q3, objU v), (r + 1, objO k b n), (r, objU u)] [(ao2, A)]) := G3
  clear G3
  clear c0 c1 c2
  have hl0 := Lp.start v3 u
  rw [hsz3] at hl0
  simp only [objU] at hl0
  generalize (v3.alloc (Obj.cells #[.int .u64 u.base, .int .i64 u.bits, .int .u64 u.used] 24)).alloc (Obj.cells #[] 22) = W4 at *
  have HQ : Hid (v3.heap.size = q3 + 1) := hsz3
  have HL0 : Hid (Lp v3 (q3 + 1) W4 u (.slice (some ⟨q3 + 1 + 1, 0, none⟩) 0 0) []) := hl0
  clear hl0 hsz3
  have HST : Hid (∀ i : Nat, i < m → Ok u k b i → _) := fun i hi h => step HF.out HMB.out hi h
  have HWF : Hid (∀ i : Nat, Ok u k b i → _) := fun i h => Wi_fits HF.out h
  have HAI : Hid (Ok u k b m → _) := fun h => all_in HMB.out h
  generalize firstI u (szN k b) = F at *
  generalize twoI (szN k b) = S at *
  go_loopw [10, 11, 12] (fun s10 s11 s12 wr => ∃ (i : Nat) (f : Int) (x : Un) (L : List Int), i ≤ m ∧ s12 = .int .i64 i ∧ s11 = .int .i64 f ∧ Lp v3 (q3 + 1) wr x s10 L ∧ Hid ((f = 0 ∧ L = runL F S i ∧ x = Wi u F S i ∧ Ok u k b i) ∨ (f ≠ 0 ∧ f = E))) (fun _ _ s12 _ => m - (intOf s12).toNat)
  case atStart => exact ⟨0, 0, u, [], Nat.zero_le _, rfl, rfl, HL0.out, .inl ⟨rfl, rfl, rfl, .inl rfl⟩⟩
  case round =>
    clear HL0
    obtain ⟨i, f, x, L, hi, rfl, rfl, hL, hd⟩ := hrel
    have LP : Hid (Lp v3 (q3 + 1) wr x u10 L) := hL
    have KR : Hid (Kp w r wr [(q3, objU v), (r + 1, objO k b n), (r, objU u)] [(ao2, A)]) := k3.out.below (by rw [HQ.out]; exact hL.bel)
    clear hL
    rcases hd with ⟨rfl, rfl, rfl, hok⟩ | ⟨hf0, rfl⟩
    · by_cases him : i < m
      · have UF : Hid (Wi u F S i).Fits := HWF.out i hok
        obtain ⟨d0, d1, d2⟩ := LP.out.at_.cells
        obtain ⟨c0, c1, c2⟩ := (KR.out.atO (r + 1) k b n (by simp)).cells
        have himI : (i : Int) < (m : Int) := by omega
        have HIM : Hid (i < m) := him
        rcases HST.out i him hok with ⟨e1, e2, e3, hok2⟩ | ⟨e1, e2⟩
        · have E1 : Hid (plE (Wi u F S i) k b 1 = 0) := e1
          have E2 : Hid (plL (Wi u F S i) k b 1 = [F + (i : Int) * S]) := e2
          have E3 : Hid (plU (Wi u F S i) k b 1 = Wi u F S (i + 1)) := e3
          have OK2 : Hid (Ok u k b (i + 1)) := hok2
          clear e1 e2 e3 hok2 hok him
          generalize Wi u F S i = x at *
          obtain ⟨y, hy⟩ : ∃ y, Wi u F S (i + 1) = y := ⟨_, rfl⟩
          have HY : Hid (y = Wi u F S (i + 1)) := hy.symm
          rw [hy] at E3
          clear hy
          go_wp2_with fail
          refine (place_aggis x y k b 1 0 [F + (i : Int) * S] wr KR.out.tab UF.out HB.out (by decide) E2.out E3.out E1.out).mono ?_
          rintro e w5 ⟨ao5, cap5, rfl, t5, -, b5⟩
          obtain ⟨g5, o5, rfl⟩ : ∃ g5 o5, ao5 = some ⟨g5, o5, none⟩ := by
            rcases t5 with h | ⟨g5, o5, h, _⟩
            · cases h
            · exact ⟨_, _, h⟩
          have L5 := LP.out.below b5
          obtain ⟨v7, w7, hrun, L7, keep⟩ := (L5.below (below_new w5 (objU y))).append 27 (cap := cap5) (t5.below (below_new w5 (objU y))) (by rw [runL_len]; have := HIM.out; simp; omega)
          have Z7 : Hid (AtU w7 w5.heap.size y) := (keep w5.heap.size (by rw [World.size_alloc]; exact Nat.lt_succ_self _) (fun e => by have := (World.ownsRow.lt L5.own _ e).2; omega)).trans (AtU.new w5 y)
          rw [← runL_succ] at L7
          have HL7 : Hid (Lp v3 (q3 + 1) w7 x v7 (runL F S (i + 1))) := L7
          have HRun : Hid _ := hrun
          clear hrun L7 keep L5 t5 b5 d0 d1 d2 c0 c1 c2
          obtain ⟨d0, d1, d2⟩ := HL7.out.at_.cells
          have df := HL7.out.at_.frozen
          obtain ⟨c0, c1, c2⟩ := Z7.out.cells
          simp only [objU] at HRun
          go_wp2_with (at_builtin; refine wpList_append_words rfl (.tmp 55) (.tmp 56) rfl _ _ v7 w7 rfl rfl (by exact HRun.out) ?_)
          go_roundw
          case rel => exact ⟨i + 1, 0, y, _, by have := HIM.out; omega, by go_num, rfl, HL7.out.store y, .inl ⟨rfl, rfl, HY.out, OK2.out⟩⟩
          case measure => simp [intOf]; have := HIM.out; omega
        · rw [HE.out] at e1 e2
          have E1 : Hid (plE (Wi u F S i) k b 1 = E) := e1
          have NE : Hid (E ≠ 0) := e2
          have hne : (E == 0) = false := by simpa using e2
          clear e1 e2 hok him
          obtain ⟨y, hy⟩ : ∃ y, plU (Wi u F S i) k b 1 = y := ⟨_, rfl⟩
          have E3 : Hid (plU (Wi u F S i) k b 1 = y) := hy
          clear hy
          generalize Wi u F S i = x at *
          go_wp2_with fail
          refine (place_aggis x y k b 1 E _ wr KR.out.tab UF.out HB.out (by decide) rfl E3.out E1.out).mono ?_
          rintro e w5 ⟨ao5, cap5, rfl, -, -, b5⟩
          have HL7 : Hid (Lp v3 (q3 + 1) (w5.alloc (objU y)) x u10 (runL F S i)) := (LP.out.below b5).below (below_new w5 (objU y))
          simp only [objU] at HL7
          clear b5 d0 d1 d2 c0 c1 c2
          go_wp2
          go_roundw
          case rel => exact ⟨i + 1, E, x, _, by have := HIM.out; omega, by go_num, rfl, HL7.out, .inr ⟨NE.out, rfl⟩⟩
          case measure => simp [intOf]; have := HIM.out; omega
      · obtain rfl : i = m := by omega
        obtain ⟨a1, a2, a3⟩ := HAI.out hok
        rw [HE.out] at a1
        rw [HA.out] at a2
        rw [HV.out] at a3
        rw [← a2, ← a3] at LP
        have HLL : Hid (A.length ≤ 65536) := by show A.length ≤ 65536; rw [a2, runL_len]; omega
        subst a1
        clear hok a2 a3 HAI HST HWF HV HA HE
        obtain ⟨ao6, cap6, rfl, t6, -⟩ := LP.out.own.told
        have KS : Hid (Kp w r wr [(q3, objU v), (r + 1, objO k b n), (r, objU u)] [(ao6, A), (ao2, A)]) := KR.out.told t6
        have L6 : Hid (Below (q3 + 1) v3 wr) := LP.out.bel
        have AT : Hid (AtU wr (q3 + 1) v) := LP.out.at_
        clear t6
        go_wp2_with fail
        refine (same_yes _ _ A _ _ wr (KS.out.tld (ao2, A) (by simp)) (KS.out.tld (ao6, A) (by simp)) HLL.out).mono ?_
        rintro e w8 ⟨rfl, m8, rfl⟩
        have K8 : Hid (Kp w r (wr.drewN m8) [(q3, objU v), (r + 1, objO k b n), (r, objU u)] [(ao6, A), (ao2, A)]) := KS.out.drew m8
        have A8 : Hid (AtU (wr.drewN m8) (q3 + 1) v) := AT.out.of_block rfl
        generalize wr.drewN m8 = W8 at *
        obtain ⟨c0, c1, c2⟩ := (K8.out.atU q3 v (by simp)).cells
        obtain ⟨d0, d1, d2⟩ := A8.out.cells
        have hq := fun W => eq_un W v v
        rw [decide_eq_true rfl] at hq
        go_wp2_with fail
        refine (fixed_kp K8.out).mono ?_
        rintro e w9 ⟨rfl, h9⟩
        have B : Hid (Below r w w9) := h9.bel
        clear h9
        go_wp2_with fail
        go_ret
        refine ⟨rfl, ?_⟩
        rw [HR.out]
        exact B.out
    · have hne : (f == 0) = false := by simpa using hf0
      have hne2 : (f != 0) = true := by simpa using hf0
      clear hf0
      by_cases him : (i : Int) < (m : Int)
      all_goals
        go_wp2_with fail
        refine (fixed_kp KR.out).mono ?_
        rintro e w9 ⟨rfl, h9⟩
        have B : Hid (Below r w w9) := h9.bel
        clear h9
        go_wp2_with fail
        go_ret
        refine ⟨rfl, ?_⟩
        rw [HR.out]
        exact B.out
theorem walk (u : Un) (k b n : Int) (w : World) (hT : Tab w) (hf : u.Fits) (_hk : -9223372036854775808 ≤ k ∧ k ≤ 9223372036854775807) (hb : -9223372036854775808 ≤ b ∧ b ≤ 9223372036854775807) (_hn : -9223372036854775808 ≤ n ∧ n ≤ 9223372036854775807) :
    Calls Tryd.prog 5 #[encU u, encO k b n] w fun e w' => e = .returned (.bool true) ∧ Below w.heap.size w w' := by
  have h : bits .and .i64 n 31 = n % 32 := i64_mask n 5 (by decide)
  exact walk_m u k b n (n % 32 + 1).toNat w hT hf hb (by rw [h]; omega) (by omega) (by omega)
open Go.ChangeShapes Go.WideShapes Go.ChangeAt Go.RowKit Go.Joins

/-! ### From the walk to the statement -/
theorem contract (H : Type) (enc : TypeId × Value → H) (W : World) (base : Nat) (args : Array Value) (ds gs : List (DataW H)) (before : List MemPlace)
    (hval : ∀ (j : Nat) t v, Tryd.f5.params[j]? = some t → args[j]? = some v → Value.okWide Tryd.prog W .any base t v)
    (hW : DataW.Whole enc Tryd.prog Tryd.f5.params.toList Rows.untypedOnesSpec.vars false W args.toList ds gs before) (hL : laidMetH Tryd.prog Rows.untypedOnesRow.laid W) :
    Calls Tryd.prog 5 args W fun e W' => ∃ v, e = .returned v ∧ Rows.untypedOnesSpec.post enc Tryd.prog Tryd.f5 false true false false W args v W' := by
  have hW' := hW
  obtain ⟨p, q, hA0, hV, rfl, hfz, hnd⟩ := hW
  have hA : DataW.TrodAll enc Tryd.prog W 0 (fun _ => true) true Tryd.f5.params.toList args.toList ds p := hA0
  rw [Tryd.params5] at hA hval
  obtain ⟨v0, vs0, d0, ds0, p0, q0, hargs, rfl, rfl, h0, r0⟩ := trodAll_cons hA
  obtain ⟨v1, vs1, d1, ds1, p1, q1, rfl, rfl, rfl, h1, r1⟩ := trodAll_cons r0
  obtain ⟨rfl, rfl, rfl⟩ := trodAll_nil r1
  obtain rfl : args = #[v0, v1] := by cases args; simp_all
  obtain ⟨rfl, rfl⟩ := trodVars_none hV
  have k0 := h0
  have lt0 : ∀ x ∈ p0, x.block < W.heap.size := by obtain ⟨m, hm⟩ := k0; exact DataW.trod_lt m _ _ _ hm
  have k1 := h1
  have lt1 : ∀ x ∈ p1, x.block < W.heap.size := by obtain ⟨m, hm⟩ := k1; exact DataW.trod_lt m _ _ _ hm
  obtain ⟨a0, rfl, w0⟩ := open_un (hval 0 24 v0 rfl rfl) h0
  obtain ⟨a1k, a1b, a1n, rfl, w1k, w1b, w1n⟩ := open_what (hval 1 26 v1 rfl rfl) h1
  clear hA0
  refine (walk a0 a1k a1b a1n W (table hL) w0 w1k w1b w1n).mono fun e W' ⟨he, bel⟩ => ?_
  subst he
  exact ⟨_, rfl, _, _, _, [], _, [], hW', trodAll_mk1 (shut_bool Tryd.underlying4 _), (trodAll_cons_mk (Below.trod laidOut (by kernel_rfl) (of_decide_eq_true (by kernel_rfl)) k0 bel lt0) (trodAll_cons_mk (Below.trod laidOut (by kernel_rfl) (of_decide_eq_true (by kernel_rfl)) k1 bel lt1) trodAll_mk0)), rfl, bel.frame _, fun h => by cases h⟩

theorem laid_met (os : Os) : laidMet Tryd.prog Rows.untypedOnesRow.laid ((World.doorLaid Tryd.prog 40 os).forCall (fun _ _ => 0) ⟨#[], #[.agg #[.int .u64 0, .int .i64 0, .int .u64 0], .agg #[.int .i64 0, .int .i64 0, .int .i64 0]], []⟩).memory :=
  laidMet_of_run' 8 (by kernel_rfl) (by kernel_rfl)
theorem reads (os : Os) {H : Type} (enc : TypeId × Value → H) : ∃ places, DataW.whole enc Tryd.prog ((World.doorLaid Tryd.prog 40 os).forCall (fun _ _ => 0) ⟨#[], #[.agg #[.int .u64 0, .int .i64 0, .int .u64 0], .agg #[.int .i64 0, .int .i64 0, .int .i64 0]], []⟩).memory Tryd.f5.params.toList Rows.untypedOnesSpec.vars false (#[.agg #[.int .u64 0, .int .i64 0, .int .u64 0], .agg #[.int .i64 0, .int .i64 0, .int .i64 0]] : Array Value).toList 8 = some ([.agg [.lit (.int .u64 0), .lit (.int .i64 0), .lit (.int .u64 0)], .agg [.lit (.int .i64 0), .lit (.int .i64 0), .lit (.int .i64 0)]], [], places) :=
  ⟨[], by kernel_rfl⟩
set_option maxRecDepth 100000 in
theorem lifted (os : Os) (started : os.Started) (H : Type) (enc : TypeId × Value → H) (F : Stop.Interp) :
    ReturnsInHanded {} Tryd.checked os 5 .any ((OpenSpec.ofChange Rows.untypedOnesSpec).preRow enc Tryd.prog Tryd.f5 Rows.untypedOnesRow.domain false Rows.untypedOnesRow.laid) (((OpenSpec.ofChange Rows.untypedOnesSpec).at F).post enc Tryd.prog Tryd.f5 false true false false) := by
  obtain ⟨places, hx⟩ := reads os enc
  refine returnsInHanded_of_row (C := Tryd.checked) (s := OpenSpec.ofChange Rows.untypedOnesSpec) own started (by kernel_rfl) Tryd.func5
    (witness_row_at (enc := enc) (C := Tryd.checked) false (World.doorLaid Tryd.prog 40 os) #[.agg #[.int .u64 0, .int .i64 0, .int .u64 0], .agg #[.int .i64 0, .int .i64 0, .int .i64 0]] rfl (by kernel_rfl) (by kernel_rfl) (by kernel_rfl)
      (OpenSpec.preRow_of_cond 8 hx (by kernel_rfl) (fun k hk => by cases hk) (by kernel_rfl) (laid_met os))) ?_
  intro W base args ds gs before hval hW _ _ _ hL _ _
  exact contract H enc W base args ds gs before hval hW hL
theorem said : Rows.UntypedOnesSaid :=
  OpenClaim.holds_of_cond 5 Tryd.f5 rfl rfl rfl rfl rfl rfl rfl ⟨rfl, rfl, rfl, rfl, rfl⟩ rfl rfl rfl rfl rfl (by kernel_rfl) Tryd.func5 (by kernel_rfl)
    (of_decide_eq_true (by kernel_rfl)) (by unfold Func.isWrapper; first | (rw [if_pos (by decide +kernel)]; kernel_rfl) | (rw [if_neg (by decide +kernel)]; exact ⟨rfl, rfl⟩))
    (fun os started H enc _ F => by rw [OpenClaim.pre_eq_preRow]; exact lifted os started H enc F)
theorem plain (f : FuncId) (fn : Func) (hf : Tryd.pinned.checked.prog.funcNamed "buttress/buttresslaw08.UntypedOnes" = some f) (hfn : Tryd.pinned.checked.prog.funcs[f]? = some fn) :
    false = Tryd.pinned.checked.prog.looks [] ∧ ∀ (j : Nat) t, fn.params[j]? = some t → Tryd.pinned.checked.prog.wantsStandIn t = false := by
  obtain rfl : f = 5 := Option.some.inj ((show Tryd.prog.funcNamed "buttress/buttresslaw08.UntypedOnes" = some 5 by kernel_rfl).symm.trans hf) |>.symm
  obtain rfl : fn = Tryd.f5 := (Option.some.inj (Tryd.func5.symm.trans hfn)).symm
  refine ⟨by kernel_rfl, fun j t ht => ?_⟩
  rw [Tryd.params5] at ht
  have hm : t ∈ [24, 26] := by simpa using Array.mem_of_getElem? ht
  have hall : ([24, 26].all fun u => !Tryd.prog.wantsStandIn u) = true := by kernel_rfl
  exact (show Tryd.prog.wantsStandIn t = false by simpa using List.all_eq_true.1 hall t hm)
end Go.Proofs.YtkelblkegpmlpaaDoor.untypedOnes
namespace Go.Proofs.YtkelblkegpmlpaaDoor
/-- THE CARD. -/
theorem untypedOnes_card : Rows.UntypedOnesCardSaid :=
  Claim7.holds_tied_plain_at .later [] _ _ _ _ untypedOnes.said (fun _ h => by cases h) (by kernel_rfl) (fun _ h => by cases h) untypedOnes_row_tie rfl ⟨rfl, rfl⟩ (by kernel_rfl) rfl untypedOnes.plain (by kernel_rfl)
#print axioms untypedOnes_card
end Go.Proofs.YtkelblkegpmlpaaDoor

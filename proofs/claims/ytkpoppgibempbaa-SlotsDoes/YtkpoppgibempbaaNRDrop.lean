/-
  What Drop of the document's own nodes answers and leaves; no condition of ours.
-/
import Derived.Test.YtkpoppgibempbaaNRSize
import Derived.Test.YtkpoppgibempbaaNDrop
namespace Go.Proofs.Ytkpoppgibempbaa
open Go.RowKit Go.Deep Go.MapKept Go.Maps
set_option linter.unusedSectionVars false
variable [dCp : DecidableEq Cp] [dLim : ∀ k, Decidable (Lim k)] [dBad : ∀ k, Decidable (Bad k)] [dFit : ∀ g z, Decidable (Fit g z)] [dFine : ∀ c, Decidable (Fine c)] [dMint : ∀ c v, Decidable (MintR c v)] [dWho : ∀ x y, Decidable (Whose x y)] [dSl : DecidableEq Sl] [dLt : ∀ a b, Decidable (ltS a b)] [iSl : Inhabited Sl] [iCp : Inhabited Cp]

theorem own_set {w : World} {B : Nat} {e : TypeId} {g N cap : Nat} {H : List Value} (h : w.ownsRow B e 1 (.slice (some ⟨g, 0, none⟩) N cap) N H) (j : Nat) (x : Value) : (w.setCell ⟨g, j, none⟩ x).ownsRow B e 1 (.slice (some ⟨g, 0, none⟩) N cap) N (H.set j x) := by
  refine ⟨by rw [List.length_set]; exact h.1, ?_⟩
  rcases h.2 with ⟨hn, _⟩ | ⟨g', cap', cur, hv, hb, hg, h1, h2, h3, h4⟩
  · cases hn
  · cases hv
    refine .inr ⟨g, cap, _, rfl, hb, blk_setCell_same hg, h1, h2, by rw [Array.size_setIfInBounds]; exact h3, ?_⟩
    rw [Array.toList_setIfInBounds, List.take_set, h4]
theorem RN.drop {w : World} {p g N cap : Nat} {H : List Value} {F : Nat → Prop} {S : St} (h : RN w p (.slice (some ⟨g, 0, none⟩) N cap) H F S) (hN : S.length = N) {j : Nat} (hj : j < S.length) : RN (w.setCell ⟨g, j, none⟩ (.slice none 0 0)) p (.slice (some ⟨g, 0, none⟩) N cap) (H.set j (.slice none 0 0)) F (S.set j []) := by
  have hgF := h.fv g rfl
  have hl : H.length = S.length := by have := h.row.1; omega
  exact {
    head := (blk_setCell_other _ _ _ _ (Ne.symm hgF.2)).trans h.head
    row := by
      rw [List.length_set, hN]
      have := h.row
      rw [hN] at this
      exact own_set this j _
    each := fun k l hk => by
      rw [List.getElem?_set] at hk
      by_cases e : j = k
      · subst e
        rw [if_pos rfl, if_pos hj] at hk
        cases hk
        exact .inl ⟨rfl, by rw [List.getElem?_set, if_pos rfl, if_pos (by omega)]⟩
      · rw [if_neg e] at hk
        rw [List.getElem?_set, if_neg e]
        refine (h.each k l hk).imp id fun ⟨b, h1, h2, h3, h4, h5, h6⟩ => ⟨b, h1, h2, h3.of_block (blk_setCell_other _ _ _ _ fun e => h6 (by rw [e]; rfl)), h4, h5, h6⟩
    apart := fun a b c m m' h1 h2 => by
      rw [List.getElem?_set] at h1 h2
      by_cases e1 : j = a
      · rw [if_pos e1] at h1
        split at h1 <;> cases h1
      · by_cases e2 : j = b
        · rw [if_pos e2] at h2
          split at h2 <;> cases h2
        · rw [if_neg e1] at h1
          rw [if_neg e2] at h2
          exact h.apart a b c m m' h1 h2
    fp := h.fp
    fv := h.fv
    lt := fun x hx => by rw [nblk_setCell]; exact h.lt x hx
    ok := okay_drop h.ok j }
set_option maxHeartbeats 1000000 in
set_option maxRecDepth 100000 in
theorem rdrop_in (p : Nat) (F : Nat → Prop) (S : St) (j : Nat) (w : World) (h : Rds w p F S) (hj : j < S.length) (hb : S.getD j [] ≠ []) :
    Calls Try.prog 34 #[.pointer (some ⟨p, 0, none⟩), .int .i64 (j : Nat)] w fun e w' => e = .returned (.int .i64 (dropE S (j : Int))) ∧ RLeaves w p F (dropS S (j : Int)) w' := by
  have HH : Hid (Rds w p F S ∧ j < S.length ∧ S.getD j [] ≠ []) := ⟨h, hj, hb⟩
  obtain ⟨z, HZ⟩ : ∃ z, Hid (sizeN S (j : Int) = z ∧ sizeB S (j : Int) = true) := ⟨_, rfl, by unfold sizeB; rw [nodeS_nat]; cases hl : S.getD j [] with | nil => exact absurd hl hb | cons => rfl⟩
  have hn' : (j : Int) < (S.length : Int) := by omega
  obtain ⟨l, HL⟩ : ∃ l, Hid (S.getD j [] = l ∧ l.length ≤ 256) := ⟨_, rfl, row_256 h.ok (node_mem hj)⟩
  have hl8 : (l.length : Int) ≤ 256 := by have := HL.out.2; omega
  have HE : Hid (dropE S (j : Int) = if ∃ c ∈ l, c.k ≠ 0 then 51 else 0) := by unfold dropE; rw [nodeS_nat, if_neg hb, HL.out.1]; rfl
  clear h hj hb
  generalize hN : S.length = N at *
  have HN : Hid (S.length = N) := hN
  clear hN
  go_enter Try.func34, Try.ntmps34
  go_wp2_with fail
  refine (rsize_any p F S (j : Int) _ HH.out.1).mono ?_
  rw [HZ.out.1, HZ.out.2]
  rintro e w1 ⟨rfl, h1⟩
  have H1 : Hid (RB w w1 p F S []) := h1
  clear h1
  go_wp2
  go_loopw [7] (fun i wr => ∃ k : Nat, k ≤ l.length ∧ i = .int .i64 k ∧ RB w wr p F S [] ∧ ∀ c ∈ l.take k, c.k = 0) (fun i _ => l.length - (intOf i).toNat)
  case atStart => exact ⟨0, Nat.zero_le _, rfl, H1.out, fun c hc => by simp at hc⟩
  case round =>
    obtain ⟨k, hk, rfl, hr, hz⟩ := hrel
    have HR : Hid (RB w wr p F S [] ∧ ∀ c ∈ l.take k, c.k = 0) := ⟨hr, hz⟩
    obtain ⟨v, H, h⟩ := hr.rds
    have HX := h
    obtain ⟨ao, cap', rfl, d0, -, hx⟩ := h.slice
    obtain ⟨g', bo', rfl, d1, df, -, hrow⟩ := hx j (by rw [HN.out]; exact HH.out.2.1)
    rw [HN.out] at d0 HX
    rw [HL.out.1] at d1 hrow
    clear h hx hr hz
    by_cases hkl : k < l.length
    · obtain ⟨c, hc⟩ : ∃ c, l[k]? = some c := ⟨_, List.getElem?_eq_getElem hkl⟩
      obtain ⟨b, rfl, hrw⟩ := hrow k c hc
      obtain ⟨z0, _, _, _, _, _⟩ := hrw.cells hc
      have HC : Hid (l[k]? = some c ∧ k < l.length) := ⟨hc, hkl⟩
      have hk1 : (k : Int) < (l.length : Int) := by omega
      clear hrow hrw hc hkl hk HX
      generalize hM : l.length = m at *
      have HM : Hid (l.length = m) := hM
      clear hM
      by_cases hk0 : c.k = 0
      · have hk' : (c.k != 0) = false := by simp [hk0]
        have HK : Hid (c.k = 0) := hk0
        clear hk0
        go_wp2
        go_roundw
        case rel => exact ⟨k + 1, by have := HC.out.2; omega, by go_num, HR.out.1, fun x hx => by
          rw [List.take_add_one, List.mem_append] at hx
          rcases hx with hx | hx
          · exact HR.out.2 x hx
          · rw [HC.out.1] at hx
            simp at hx
            rw [hx]; exact HK.out⟩
        case measure => simp [intOf]; have := HC.out.2; omega
      · have hk' : (c.k != 0) = true := by simp [hk0]
        have HK : Hid (dropE S (j : Int) = 51) := by rw [HE.out, if_pos ⟨c, List.mem_of_getElem? HC.out.1, hk0⟩]; rfl
        clear hk0
        go_wp2
        go_ret
        exact ⟨by rw [HK.out]; rfl, by unfold dropS; rw [HK.out]; exact HR.out.1.leaves⟩
    · have hkk : k = l.length := by omega
      have HK : Hid (dropE S (j : Int) = 0) := by
        have hz := HR.out.2
        rw [hkk, List.take_length] at hz
        rw [HE.out, if_neg (by rintro ⟨c, hc, h0⟩; exact h0 (hz c hc))]
        rfl
      have K : Hid (RLeaves w p F (S.set j []) (wr.setCell ⟨g', j, none⟩ (.slice none 0 0))) := by
        have hg := HX.fv g' rfl
        exact ⟨⟨_, _, HX.drop HN.out (by rw [HN.out]; exact HH.out.2.1)⟩, HR.out.1.turn.trans (Turn.setCell F wr ⟨g', j, none⟩ _ hg.1) fun x hx => .inl hx⟩
      have hk1 : ¬ ((k : Int) < (l.length : Int)) := by omega
      clear hkk hkl hk hrow HX
      generalize l.length = m at *
      go_wp2
      go_ret
      exact ⟨by rw [HK.out]; rfl, by unfold dropS; rw [HK.out, if_pos rfl, Int.toNat_natCast]; exact K.out⟩
theorem rdrop_none (p : Nat) (F : Nat → Prop) (S : St) (n : Int) (w : World) (h : Rds w p F S) (hb : nodeS S n = []) :
    Calls Try.prog 34 #[.pointer (some ⟨p, 0, none⟩), .int .i64 n] w fun e w' => e = .returned (.int .i64 50) ∧ w' = w := by
  have H : Hid (Rds w p F S ∧ nodeS S n = []) := ⟨h, hb⟩
  clear h hb
  go_enter Try.func34, Try.ntmps34
  go_wp2_with (go_at_call 19; refine (rsize_out p F S n _ H.out.1 H.out.2).mono ?_; rintro e w' ⟨rfl, rfl⟩)
  go_ret
  exact ⟨rfl, rfl⟩
theorem rdrop_any (p : Nat) (F : Nat → Prop) (S : St) (n : Int) (w : World) (h : Rds w p F S) :
    Calls Try.prog 34 #[.pointer (some ⟨p, 0, none⟩), .int .i64 n] w fun e w' => e = .returned (.int .i64 (dropE S n)) ∧ RLeaves w p F (dropS S n) w' := by
  by_cases hb : nodeS S n = []
  · refine (rdrop_none p F S n w h hb).mono ?_
    rintro e w' ⟨rfl, rfl⟩
    have e1 : dropE S n = 50 := by unfold dropE; rw [if_pos hb]
    refine ⟨by rw [e1], ?_⟩
    rw [dropS, e1, if_neg (by decide)]
    exact (RB.start h).leaves
  · by_cases ho : 0 ≤ n ∧ n < S.length
    · obtain ⟨j, rfl⟩ := Int.eq_ofNat_of_zero_le ho.1
      rw [nodeS_nat] at hb
      exact rdrop_in p F S j w h (by omega) hb
    · exact absurd (nodeS_out S n ho) hb
end Go.Proofs.Ytkpoppgibempbaa

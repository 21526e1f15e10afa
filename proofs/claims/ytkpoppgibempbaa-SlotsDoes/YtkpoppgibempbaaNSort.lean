/-
  What the library's sort does to a list of what is held: in order, the same ones; no condition but the list's length.
-/
import Derived.Test.YtkpoppgibempbaaNLays
import Derived.Shelf.SlSortCmp.NoneTotal
namespace Go.Proofs.Ytkpoppgibempbaa
open Go.RowKit Go.Deep Go.Sort Go.Shelf Go.Lib
set_option linter.unusedSectionVars false
variable [dCp : DecidableEq Cp] [dLim : ∀ k, Decidable (Lim k)] [dBad : ∀ k, Decidable (Bad k)] [dFit : ∀ g z, Decidable (Fit g z)] [dFine : ∀ c, Decidable (Fine c)] [dMint : ∀ c v, Decidable (MintR c v)] [dWho : ∀ x y, Decidable (Whose x y)] [dSl : DecidableEq Sl] [dLt : ∀ a b, Decidable (ltS a b)]
variable [iSl : Inhabited Sl] [iCp : Inhabited Cp]

/-! ### A list of what is held, as cells -/
def flatH (A : List (Sl × Cp)) : List Value := A.flatMap encH
theorem encH_len (x : Sl × Cp) : (encH x).length = 8 := rfl
theorem encH_one (x : Sl × Cp) : ∀ v ∈ encH x, v.oneCell' = true := by
  intro v hv
  simp only [encH, List.mem_cons, List.not_mem_nil, or_false] at hv
  rcases hv with rfl | rfl | rfl | rfl | rfl | rfl | rfl | rfl <;> rfl
theorem flatH_one (A : List (Sl × Cp)) : ∀ v ∈ flatH A, v.oneCell' = true := by
  intro v hv
  obtain ⟨x, _, hx⟩ := List.mem_flatMap.1 hv
  exact encH_one x v hx
theorem flatH_len : ∀ A : List (Sl × Cp), (flatH A).length = A.length * 8
  | [] => rfl
  | x :: A => by
    have := flatH_len A
    simp only [flatH, List.flatMap_cons, List.length_append, encH_len, List.length_cons] at this ⊢
    omega
theorem flatH_app (A B : List (Sl × Cp)) : flatH (A ++ B) = flatH A ++ flatH B := by simp [flatH]
theorem flatH_get : ∀ (A : List (Sl × Cp)) (t : Nat), t < A.length * 8 → (flatH A)[t]? = some ((encH (A.getD (t / 8) default))[t % 8]!)
  | [], t, h => by simp at h
  | x :: A, t, h => by
    simp only [flatH, List.flatMap_cons]
    rw [List.getElem?_append, encH_len]
    by_cases h8 : t < 8
    · rw [if_pos h8]
      have e1 : t / 8 = 0 := by omega
      have e2 : t % 8 = t := by omega
      rw [e1, e2]
      have hx : t < (encH x).length := by rw [encH_len]; exact h8
      rw [List.getElem?_eq_getElem hx, getElem!_pos _ t hx]
      simp
    · rw [if_neg h8]
      have ih := flatH_get A (t - 8) (by simp at h; omega)
      unfold flatH at ih
      rw [ih]
      have e1 : t / 8 = (t - 8) / 8 + 1 := by omega
      have e2 : t % 8 = (t - 8) % 8 := by omega
      rw [e1, e2]
      simp
theorem flat_flat (A : List (Sl × Cp)) : (flatK encH 8 A.toArray).toList = flatH A := by
  apply List.ext_getElem?
  intro t
  by_cases h : t < A.length * 8
  · rw [flatH_get A t h]
    have hs : t < (flatK encH 8 A.toArray).size := by simpa using h
    have := get_flatK encH 8 A.toArray t (by simpa using h)
    rw [Array.getElem?_toList, Array.getElem?_eq_getElem hs]
    rw [getElem!_pos _ t hs] at this
    rw [this]
    have ht : t / 8 < A.length := by omega
    simp [ht]
  · rw [List.getElem?_eq_none (by simp; omega), List.getElem?_eq_none (by rw [flatH_len]; omega)]
/-- The slice value v, of the call's own making from block B on, holds A. -/
def OwnH (B : Nat) (w : World) (v : Value) (A : List (Sl × Cp)) : Prop := w.ownsRow B 50 8 v A.length (flatH A)

/-! ### The order -/
theorem lt_cmp (x y : Sl × Cp) : ltOf cmpH x y = decide (ltS x.1 y.1) := by
  unfold ltOf
  exact decide_eq_decide.2 (cmpH_lt x y)
theorem swo : SWO (ltOf cmpH) where
  irrefl x := by rw [lt_cmp]; simp [ltS_irrefl]
  trans x y z h1 h2 := by
    rw [lt_cmp] at *
    simp only [decide_eq_true_eq] at *
    exact ltS_trans h1 h2
  ntrans x y z h1 h2 := by
    rw [lt_cmp] at *
    simp only [decide_eq_false_iff_not] at *
    unfold ltS at *
    omega

/-! ### The sort -/
theorem take_put (cur F : Array Value) (h : F.size ≤ cur.size) : (putCells id 0 F cur).toList.take F.size = F.toList := by
  apply List.ext_getElem?
  intro j
  by_cases hj : j < F.size
  · rw [List.getElem?_take_of_lt hj, Array.getElem?_toList]
    simp [putCells, hj, show j < cur.size by omega]
  · rw [List.getElem?_take_eq_none (by omega), List.getElem?_eq_none (by simp; omega)]
theorem sort_some (B g cap : Nat) (A : List (Sl × Cp)) (w : World) (h : OwnH B w (.slice (some ⟨g, 0, none⟩) A.length cap) A) (hl : A.length ≤ 1000000) :
    Calls Try.prog 41 #[.slice (some ⟨g, 0, none⟩) A.length cap, .func (.func 42) #[] #[]] w fun e w' =>
      e = .returned (.tuple #[]) ∧ ∃ A', A'.Perm A ∧ A'.Pairwise (fun p q => ¬ ltS q.1 p.1) ∧ OwnH B w' (.slice (some ⟨g, 0, none⟩) A.length cap) A' ∧ w.grownBy w' (some g) := by
  obtain ⟨h0, ⟨h1, _⟩ | ⟨g', cap', cur, hv, hb, hg, hn, hc, hs, ht⟩⟩ := h
  · cases h1
  · simp only [Value.slice.injEq, Option.some.injEq, Addr.mk.injEq, and_true, true_and] at hv
    obtain ⟨rfl, rfl⟩ := hv
    have hlt : g < w.heap.size := (Array.getElem?_eq_some_iff.1 hg).1
    have hH : HoldsK encH 8 w g 0 A.toArray := by
      intro j hj
      have hj' : j < A.length * 8 := by simpa using hj
      have e1 : (flatH A)[j]? = some (flatK encH 8 A.toArray)[j]! := by
        rw [← flat_flat, Array.getElem?_toList, getElem!_pos _ j hj, Array.getElem?_eq_getElem hj]
      rw [← ht, List.getElem?_take, if_pos (by omega)] at e1
      refine ⟨?_, by simp [World.frozen?, hg]⟩
      simpa [World.cell?, hg] using e1
    have eg : ∀ args w, (callFunc 42 args).run Try.prog w = .ok (.enter 42 args) w := enters_of Try.func42 (by kernel_rfl) rfl
    have hc2 := AnyQ.slices_SortFunc sort_lays 8 Try.isAgg50 Try.sizeOf50 encH encH_len encH_one cmpH swo 42 #[] g 0 cap A.toArray w eg (fun m os dk hd x y => closure_any x y _) hH hlt (by simp; omega)
    refine hc2.mono ?_
    rintro e w' ⟨rfl, d', n, os, hp, hso, rfl⟩
    refine ⟨rfl, d'.toList, ?_, ?_, ?_, ?_⟩
    · obtain ⟨hsz, _, hperm⟩ := hp
      have e1 : d'.extract 0 A.toArray.size = d' := by rw [← hsz]; exact Array.extract_size
      rw [e1, Array.extract_size] at hperm
      simpa using hperm
    · rw [List.pairwise_iff_getElem]
      intro i j hi hj hij
      have hi' : i < d'.size := by simpa using hi
      have hj' : j < d'.size := by simpa using hj
      have := hso i j (Nat.zero_le _) hij (by rw [← hp.1]; exact hj')
      rw [getElem!_pos d' j hj', getElem!_pos d' i hi', lt_cmp] at this
      simpa using this
    · have hsz : d'.size = A.length := by simpa using hp.1
      have hl2 : d'.toList.length = A.length := by simpa using hsz
      refine ⟨by rw [flatH_len, hl2], .inr ⟨g, cap, putCells id 0 (flatK encH 8 d') cur, by rw [hl2], hb, ?_, by rw [hl2]; exact hn, hc, by simp [putCells, hs], ?_⟩⟩
      · unfold sortWorldK putRowK
        rw [heap_grow_old _ _ (by simpa using hlt)]
        simp [putRow, mapBlock, Sort.ahead, Array.getElem?_modify, hg, onCells]
      · have e1 : d'.toList.length * 8 = (flatK encH 8 d').size := by simp
        rw [e1, take_put _ _ (by simp [hs, hsz]; omega)]
        simpa using flat_flat d'.toList
    · unfold sortWorldK putRowK
      refine ⟨rfl, rfl, rfl, by simp, fun k hk hne => ?_⟩
      rw [heap_grow_old _ _ (by simpa using hk)]
      have : g ≠ k := fun e => hne (by rw [e])
      simp [putRow, mapBlock, Sort.ahead, Array.getElem?_modify, this]
theorem sort_none (w : World) : Calls Try.prog 41 #[.slice none 0 0, .func (.func 42) #[] #[]] w fun e w' => e = .returned (.tuple #[]) ∧ w' = w :=
  AnyF.slices_SortFunc_none sort_lays none 0 _ w
/-- What is handed to the sort, nil or not. -/
theorem sort_any (B : Nat) (v : Value) (A : List (Sl × Cp)) (w : World) (h : OwnH B w v A) (hl : A.length ≤ 1000000) :
    Calls Try.prog 41 #[v, .func (.func 42) #[] #[]] w fun e w' =>
      e = .returned (.tuple #[]) ∧ ∃ A', A'.Perm A ∧ A'.Pairwise (fun p q => ¬ ltS q.1 p.1) ∧ OwnH B w' v A' ∧ w.grownBy w' v.ownBlock := by
  have h' := h
  obtain ⟨h0, ⟨rfl, hn⟩ | ⟨g, cap, cur, rfl, _⟩⟩ := h'
  · refine (sort_none w).mono ?_
    rintro e w' ⟨rfl, rfl⟩
    obtain rfl : A = [] := List.eq_nil_of_length_eq_zero hn
    exact ⟨rfl, [], List.Perm.refl _, List.Pairwise.nil, h, ⟨rfl, rfl, rfl, Nat.le_refl _, fun _ _ _ => rfl⟩⟩
  · exact sort_some B g cap A w h hl
end Go.Proofs.Ytkpoppgibempbaa

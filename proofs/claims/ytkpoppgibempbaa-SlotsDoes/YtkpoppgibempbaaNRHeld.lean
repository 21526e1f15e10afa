/-
  What Held of the document's own nodes answers; no condition of ours.
-/
import Derived.Test.YtkpoppgibempbaaNRSize
namespace Go.Proofs.Ytkpoppgibempbaa
open Go.RowKit Go.Deep Go.MapKept Go.Maps
set_option linter.unusedSectionVars false
variable [dCp : DecidableEq Cp] [dLim : ∀ k, Decidable (Lim k)] [dBad : ∀ k, Decidable (Bad k)] [dFit : ∀ g z, Decidable (Fit g z)] [dFine : ∀ c, Decidable (Fine c)] [dMint : ∀ c v, Decidable (MintR c v)] [dWho : ∀ x y, Decidable (Whose x y)] [dSl : DecidableEq Sl] [dLt : ∀ a b, Decidable (ltS a b)] [iSl : Inhabited Sl] [iCp : Inhabited Cp]

theorem row_app (n : Nat) (c : Cp) : ∀ (l : List Cp) (i : Nat), heldRow n i (l ++ [c]) = heldRow n i l ++ (if c.k = 0 then [] else [(⟨(n : Int), ((i + l.length : Nat) : Int)⟩, c)])
  | [], i => by simp [heldRow]
  | d :: l, i => by
    have ih := row_app n c l (i + 1)
    have e : i + 1 + l.length = i + (d :: l).length := by simp; omega
    rw [e] at ih
    simp only [List.cons_append, heldRow]
    split
    · exact ih
    · rw [ih]; rfl
theorem from_app (l : List Cp) : ∀ (S : St) (n : Nat), heldFrom n (S ++ [l]) = heldFrom n S ++ heldRow (n + S.length) 0 l
  | [], n => by simp [heldFrom]
  | d :: S, n => by
    have ih := from_app l S (n + 1)
    have e : n + 1 + S.length = n + (d :: S).length := by simp; omega
    rw [e] at ih
    simp only [List.cons_append, heldFrom, ih, List.append_assoc]
theorem hrow_le (n : Nat) : ∀ (l : List Cp) (i : Nat), (heldRow n i l).length ≤ l.length
  | [], i => by simp [heldRow]
  | d :: l, i => by
    have ih := hrow_le n l (i + 1)
    unfold heldRow
    split
    · simp; omega
    · simp; omega
theorem hfrom_le : ∀ (S : St) (n : Nat), (∀ l ∈ S, l.length ≤ 256) → (heldFrom n S).length ≤ S.length * 256
  | [], n, _ => by simp [heldFrom]
  | d :: S, n, h => by
    have ih := hfrom_le S (n + 1) fun l hl => h l (List.mem_cons_of_mem _ hl)
    have h1 := hrow_le n d 0
    have h2 := h d (by simp)
    unfold heldFrom
    rw [List.length_append, List.length_cons]
    omega
theorem upto_le {S : St} (ok : Okay S) (k i : Nat) (l : List Cp) (hl : l.length ≤ 256) : (heldFrom 0 (S.take k) ++ heldRow k 0 (l.take i)).length ≤ 20000 := by
  have h1 := hfrom_le (S.take k) 0 fun l hl => row_256 ok (List.mem_of_mem_take hl)
  have h2 := hrow_le k (l.take i) 0
  have h3 := ok.len
  rw [List.length_append]
  simp only [List.length_take] at h1 h2
  have : min k S.length ≤ 64 := by omega
  have : min k S.length * 256 ≤ 64 * 256 := Nat.mul_le_mul_right _ this
  omega
theorem row_step {l : List Cp} {i : Nat} {c : Cp} (k : Nat) (h : l[i]? = some c) : heldRow k 0 (l.take (i + 1)) = heldRow k 0 (l.take i) ++ (if c.k = 0 then [] else [(⟨(k : Int), (i : Int)⟩, c)]) := by
  have hi := (List.getElem?_eq_some_iff.1 h).1
  rw [List.take_add_one, h]
  have : (l.take i).length = i := by simp; omega
  simp only [Option.toList, row_app, this, Nat.zero_add]
theorem from_step {S : St} {k : Nat} (h : k < S.length) : heldFrom 0 (S.take (k + 1)) = heldFrom 0 (S.take k) ++ heldRow k 0 (S.getD k []) := by
  have e : S[k]? = some (S.getD k []) := by rw [List.getD_eq_getElem?_getD, List.getElem?_eq_getElem h]; rfl
  have : (S.take k).length = k := by simp; omega
  rw [List.take_add_one, e]
  simp only [Option.toList, from_app, this, Nat.zero_add]
set_option maxHeartbeats 2000000 in
set_option maxRecDepth 100000 in
theorem rheld_any (p : Nat) (F : Nat → Prop) (S : St) (w : World) (h : Rds w p F S) :
    Calls Try.prog 22 #[.pointer (some ⟨p, 0, none⟩)] w fun e w' => ∃ v, e = .returned v ∧ OwnH w.heap.size w' v (held S) ∧ Below w.heap.size w w' := by
  obtain ⟨v, H, h⟩ := h
  have HH : Hid (RN w p v H F S) := h
  have hN64 : (S.length : Int) ≤ 64 := by have := h.ok.len; omega
  clear h
  go_enter Try.func22, Try.ntmps22
  go_wp2
  go_loopw [3, 4] (fun o i wr => ∃ k : Nat, k ≤ S.length ∧ i = .int .i64 k ∧ OwnH w.heap.size wr o (heldFrom 0 (S.take k)) ∧ Below w.heap.size w wr) (fun _ i _ => S.length - (intOf i).toNat)
  case atStart => exact ⟨0, Nat.zero_le _, rfl, World.ownsRow_made w #[] 0 (Nat.le_refl _) (by unfold maxLen; omega) rfl, below_new w _⟩
  case round =>
    obtain ⟨k, hk, rfl, hown, hbel⟩ := hrel
    have HR : Hid (OwnH w.heap.size wr u3 (heldFrom 0 (S.take k)) ∧ Below w.heap.size w wr) := ⟨hown, hbel⟩
    have h1 := HH.out.below hbel
    obtain ⟨ao, cap, hv, c0, -, hx⟩ := h1.slice
    clear h1 hown hbel
    by_cases hkl : k < S.length
    · obtain ⟨g, bo, rfl, c1, -⟩ := hx k hkl
      obtain ⟨l, HL⟩ : ∃ l, Hid (S.getD k [] = l ∧ l.length ≤ 256 ∧ k < S.length) := ⟨_, rfl, row_256 HH.out.ok (node_mem hkl), hkl⟩
      have hl8 : (l.length : Int) ≤ 256 := by have := HL.out.2.1; omega
      have hk1 : (k : Int) < (S.length : Int) := by omega
      rw [HL.out.1] at c1
      clear hx hkl hv hk
      generalize hN : S.length = N at *
      have HN : Hid (S.length = N) := hN
      clear hN
      go_wp2
      go_loopw [3, 5] (fun o i wr => ∃ j : Nat, j ≤ l.length ∧ i = .int .i64 j ∧ OwnH w.heap.size wr o (heldFrom 0 (S.take k) ++ heldRow k 0 (l.take j)) ∧ Below w.heap.size w wr) (fun _ i _ => l.length - (intOf i).toNat)
      case atStart => exact ⟨0, Nat.zero_le _, rfl, by simpa [heldRow] using HR.out.1, HR.out.2⟩
      case round =>
        clear c0 c1
        obtain ⟨j, hj, rfl, hown, hbel⟩ := hrel
        have h1 := HH.out.below hbel
        obtain ⟨ao, cap, hv, c0, -, hx⟩ := h1.slice
        obtain ⟨g, bo, rfl, c1, -, -, hrow⟩ := hx k (by rw [HN.out]; exact HL.out.2.2)
        rw [HN.out] at c0
        rw [HL.out.1] at c1 hrow
        clear h1 hx hv
        by_cases hjl : j < l.length
        · obtain ⟨c, hc⟩ : ∃ c, l[j]? = some c := ⟨_, List.getElem?_eq_getElem hjl⟩
          obtain ⟨b, rfl, hrw⟩ := hrow j c hc
          obtain ⟨z0, z1, z2, z3, z4, z5⟩ := hrw.cells hc
          have HC : Hid (l[j]? = some c ∧ j < l.length) := ⟨hc, hjl⟩
          have hj1 : (j : Int) < (l.length : Int) := by omega
          have hA := upto_le HH.out.ok k j l HL.out.2.1
          have hst := row_step k hc
          clear hrow hrw hc hjl hj
          by_cases hk0 : c.k = 0
          · have hk' : (c.k != 0) = false := by simp [hk0]
            rw [if_pos hk0, List.append_nil] at hst
            have HD : Hid (OwnH w.heap.size _ _ (heldFrom 0 (S.take k) ++ heldRow k 0 (l.take (j + 1))) ∧ Below w.heap.size w _) := ⟨by rw [hst]; exact hown, hbel⟩
            clear hk0 hst hA hown hbel HR
            generalize hM : l.length = m at *
            have HM : Hid (l.length = m) := hM
            clear hM
            go_wp2
            go_roundw
            case rel => exact ⟨j + 1, by have := HC.out.2; omega, by go_num, HD.out.1, HD.out.2⟩
            case measure => simp [intOf]; have := HC.out.2; omega
          · have hk' : (c.k != 0) = true := by simp [hk0]
            rw [if_neg hk0] at hst
            obtain ⟨v', w5, hrun, own5, g5, -⟩ := append_held w.heap.size wr 46 _ (heldFrom 0 (S.take k) ++ heldRow k 0 (l.take j)) (⟨(k : Int), (j : Int)⟩, c) hown (by omega) hbel.size
            rw [List.append_assoc, ← hst] at own5
            have HD : Hid (OwnH w.heap.size w5 v' (heldFrom 0 (S.take k) ++ heldRow k 0 (l.take (j + 1))) ∧ Below w.heap.size w w5) := ⟨own5, hbel.grown g5 hbel.size fun q hq => (World.ownsRow.lt hown q hq).1⟩
            have HRun : Hid _ := hrun
            clear hk0 hst hA hown hbel own5 g5 hrun HR
            simp only [objH, encH] at HRun
            generalize hM : l.length = m at *
            have HM : Hid (l.length = m) := hM
            clear hM
            go_wp2_with (at_builtin; refine wpList_append_run rfl (.tmp 40) (.tmp 55) 46 rfl _ _ _ _ rfl rfl HRun.out ?_)
            go_roundw
            case rel => exact ⟨j + 1, by have := HC.out.2; omega, by go_num, HD.out.1, HD.out.2⟩
            case measure => simp [intOf]; have := HC.out.2; omega
        · have hjj : j = l.length := by omega
          have HD : Hid (OwnH w.heap.size wr u3 (heldFrom 0 (S.take (k + 1))) ∧ Below w.heap.size w wr) := by
            refine ⟨?_, hbel⟩
            rw [from_step (by rw [HN.out]; exact HL.out.2.2), HL.out.1]
            rw [hjj, List.take_length] at hown
            exact hown
          have hj1 : ¬ ((j : Int) < (l.length : Int)) := by omega
          clear hjj hjl hj hrow hown hbel HR
          generalize l.length = m at *
          go_wp2
          go_roundw
          case rel => exact ⟨k + 1, by have := HL.out.2.2; have := HN.out; omega, by go_num, HD.out.1, HD.out.2⟩
          case measure => simp [intOf]; have := HL.out.2.2; have := HN.out; omega
    · have hkk : k = S.length := by omega
      have HD : Hid (OwnH w.heap.size wr u3 (held S) ∧ Below w.heap.size w wr) := by
        have := HR.out
        rw [hkk, List.take_length] at this
        exact this
      have hk1 : ¬ ((k : Int) < (S.length : Int)) := by omega
      clear hkk hkl hk hx hv HR
      generalize S.length = N at *
      go_wp2
      go_ret
      exact ⟨_, rfl, HD.out.1, HD.out.2⟩
end Go.Proofs.Ytkpoppgibempbaa

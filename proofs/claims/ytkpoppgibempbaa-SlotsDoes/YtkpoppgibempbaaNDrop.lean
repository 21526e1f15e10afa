/-
  What Drop of package slots answers and leaves; no condition of ours.
-/
import Derived.Test.YtkpoppgibempbaaNMake
namespace Go.Proofs.Ytkpoppgibempbaa
open Go.RowKit Go.Deep Go.MapKept Go.Maps
set_option linter.unusedSectionVars false
variable [dCp : DecidableEq Cp] [dLim : ∀ k, Decidable (Lim k)] [dBad : ∀ k, Decidable (Bad k)] [dFit : ∀ g z, Decidable (Fit g z)] [dFine : ∀ c, Decidable (Fine c)] [dMint : ∀ c v, Decidable (MintR c v)] [dWho : ∀ x y, Decidable (Whose x y)] [dSl : DecidableEq Sl] [dLt : ∀ a b, Decidable (ltS a b)] [iSl : Inhabited Sl] [iCp : Inhabited Cp]

theorem atS_drop (S : St) (j : Nat) (s : Sl) : atS (S.set j []) s = if s.n = (j : Int) then none else atS S s := by
  unfold atS
  rw [getD_set]
  by_cases hn : s.n = (j : Int)
  · have e : s.n.toNat = j := by omega
    rw [if_pos hn, e]
    by_cases hl : j < S.length
    · simp [hl]
    · have e2 : S.getD j [] = [] := by rw [List.getD_eq_getElem?_getD, List.getElem?_eq_none (by omega)]; rfl
      rw [e2]
      simp [hl]
  · rw [if_neg hn]
    by_cases hp : 0 ≤ s.n ∧ 0 ≤ s.i
    · have e : ¬ s.n.toNat = j := by omega
      simp [hp, e]
    · simp [hp]
theorem hold_drop {S : St} {j : Nat} (h : ∀ c ∈ S.getD j [], c.k = 0) (s : Sl) : holdS (S.set j []) s = holdS S s := by
  unfold holdS
  rw [atS_drop]
  by_cases hn : s.n = (j : Int)
  · rw [if_pos hn]
    cases hq : atS S s with
    | none => rfl
    | some c =>
      have := (atS_mem hq).2.2.2.2.1
      have e : s.n.toNat = j := by omega
      rw [e] at this
      simp [h c (List.mem_of_getElem? this)]
  · rw [if_neg hn]
theorem okay_drop {S : St} (h : Okay S) (j : Nat) : Okay (S.set j []) := by
  refine ⟨by simpa using h.len, fun l hl => ?_, fun l hl c hc => ?_⟩
  · rcases List.mem_or_eq_of_mem_set hl with hl | rfl
    · exact h.row l hl
    · exact .inl rfl
  · rcases List.mem_or_eq_of_mem_set hl with hl | rfl
    · exact h.cap l hl c hc
    · cases hc
theorem PN.drop {w : World} {p m : Nat} {v : Value} {F : Nat → Prop} {S : St} (h : PN w p m v F S) {g j : Nat} (hg : v.ownBlock = some g) (_hj : j < S.length) (hk : ∀ c ∈ S.getD j [], c.k = 0) : PN (w.setCell ⟨g, j, none⟩ (.int .i64 0)) p m v F (S.set j []) where
  head := (blk_setCell_other _ _ _ _ fun e => (h.fv g hg).2.1 e.symm).trans h.head
  row := by
    have hr := h.row
    obtain ⟨h0, ⟨rfl, _⟩ | ⟨g', cap, cur, rfl, hb, hc, h1, h2, h3, h4⟩⟩ := hr
    · cases hg
    · obtain rfl : g' = g := by simpa [Value.ownBlock] using hg
      refine ⟨by simp, .inr ⟨g', cap, cur.setIfInBounds j (.int .i64 0), by rw [List.length_set], hb, ?_, by rw [List.length_set]; exact h1, h2, by simpa using h3, ?_⟩⟩
      · simp only [World.setCell, Array.getElem?_modify, hc, Option.map_some]
        simp
      · rw [List.map_set, ← h4, List.length_set, Array.toList_setIfInBounds, List.take_set]
        rfl
  map := (h.map.of_block (blk_setCell_other _ _ _ _ fun e => (h.fv g hg).2.2 e.symm)).congr fun s => hold_drop hk s
  fp := h.fp
  fm := h.fm
  fv := h.fv
  pm := h.pm
  lt := fun x hx => by rw [nblk_setCell]; exact h.lt x hx
  ok := okay_drop h.ok j
theorem drop_none (p : Nat) (F : Nat → Prop) (S : St) (n : Int) (w : World) (h : Nds w p F S) (hb : sizeB S n = false) :
    Calls Try.prog 24 #[.pointer (some ⟨p, 0, none⟩), .int .i64 n] w fun e w' => e = .returned (.int .i64 50) ∧ w' = w := by
  have sc := size_any p F S n w h
  rw [hb] at sc
  clear h
  go_enter Try.func24, Try.ntmps24
  go_wp2_with (go_at_call 18; refine sc.mono ?_; rintro e w' ⟨rfl, rfl⟩)
  go_ret
  exact ⟨rfl, rfl⟩
theorem hold_row (S : St) (j k : Nat) : holdS S ⟨j, k⟩ = match (S.getD j [])[k]? with | some c => if c.k = 0 then none else some c | none => none := by
  unfold holdS atS
  have : (0 : Int) ≤ (j : Int) ∧ (0 : Int) ≤ (k : Int) := by omega
  simp only [this, and_self, if_true, Int.toNat_natCast]
  cases (S.getD j [])[k]? <;> rfl
set_option maxHeartbeats 1000000 in
set_option maxRecDepth 100000 in
theorem drop_in (p : Nat) (F : Nat → Prop) (S : St) (j : Nat) (w : World) (h : Nds w p F S) (hj : j < S.length) (hb : S.getD j [] ≠ []) :
    Calls Try.prog 24 #[.pointer (some ⟨p, 0, none⟩), .int .i64 (j : Nat)] w fun e w' => e = .returned (.int .i64 (dropE S (j : Nat))) ∧ Leaves w p F (dropS S (j : Nat)) w' := by
  have H : Hid (Nds w p F S ∧ j < S.length) := ⟨h, hj⟩
  have HE : Hid ((dropE S (j : Int) = if ∃ c ∈ S.getD j [], c.k ≠ 0 then 51 else 0) ∧ dropS S (j : Int) = if dropE S (j : Int) = 0 then S.set j [] else S) := by
    refine ⟨?_, ?_⟩
    · unfold dropE
      rw [nodeS_nat, if_neg hb]
    · unfold dropS
      simp
  generalize dropE S (j : Int) = de at *
  generalize dropS S (j : Int) = ds at *
  rcases h.ok.bits (node_mem hj) with ⟨e1, _⟩ | ⟨_, q1, q8, ql⟩
  · exact absurd e1 hb
  have sc := size_any p F S (j : Int) w h
  have eb : sizeB S (j : Int) = true := by
    unfold sizeB
    rw [nodeS_nat]
    cases hS : S.getD j [] with
    | nil => exact absurd hS hb
    | cons => rfl
  have en : sizeN S (j : Int) = (bitsL (S.getD j []) : Nat) := by unfold sizeN; rw [nodeS_nat, if_neg hb]
  rw [eb, en] at sc
  have so := fun W => slotsOf_any (bitsL (S.getD j [])) W q8
  rw [← ql] at so
  have HL : Hid ((S.getD j []).length ≤ 256) := row_256 h.ok (node_mem hj)
  obtain ⟨l, HLl⟩ : ∃ l, Hid (S.getD j [] = l) := ⟨_, rfl⟩
  rw [HLl.out] at HL HE sc so
  generalize bitsL l = bq at *
  clear h eb en q1 ql q8 hb hj
  go_enter Try.func24, Try.ntmps24
  go_wp2_with (first | (go_at_call 18; refine sc.mono ?_; rintro e w' ⟨rfl, hw⟩; obtain rfl := hw.symm) | (go_at_call 45; refine (so _).mono ?_; rintro e w' ⟨rfl, hw⟩; obtain rfl := hw.symm))
  clear sc so
  go_loopw [18] (fun i wr => ∃ k : Nat, k ≤ l.length ∧ i = .int .i64 k ∧ Below w.heap.size w wr ∧ ∀ c ∈ l.take k, c.k = 0) (fun i _ => l.length - (intOf i).toNat)
  case atStart => exact ⟨0, Nat.zero_le _, rfl, Below.refl _ _, by simp⟩
  case round =>
    obtain ⟨k, hk, rfl, hB, hz⟩ := hrel
    have hB' : Hid (Below w.heap.size w wr) := hB
    have HZ : Hid (∀ c ∈ l.take k, c.k = 0) := hz
    clear hB hz
    by_cases hlt : k < l.length
    · have hlt' : (k : Int) < (l.length : Int) := by omega
      obtain ⟨c, hc⟩ : ∃ c, l[k]? = some c := ⟨_, List.getElem?_eq_getElem hlt⟩
      have HC : Hid (l[k]? = some c) := hc
      have HLT : Hid (k < l.length) := hlt
      have hk2 : (k : Int) ≤ 256 := by have := HL.out; omega
      have fits : Hid (Sl.Fits ⟨(j : Int), (k : Int)⟩) := by
        have := H.out.1.ok.len
        have := H.out.2
        exact ⟨⟨by simp only; omega, by simp only; omega⟩, ⟨by simp only; omega, by simp only; omega⟩⟩
      clear hc hlt hk
      generalize hlen : l.length = len at *
      have HLen : Hid (l.length = len) := hlen
      clear hlen
      go_wp2_with fail
      refine (free_any p F S ⟨(j : Int), (k : Int)⟩ _ (H.out.1.below hB'.out) fits.out).mono ?_
      rintro e w3 ⟨rfl, b3⟩
      rw [hold_row, HLl.out, HC.out]
      have B3 : Hid (Below w.heap.size w w3) := Below.then hB'.out b3 hB'.out.size
      clear b3
      by_cases hc0 : c.k = 0
      · have e1 : (!(match some c with | some c => if c.k = 0 then (none : Option Cp) else some c | none => none).isSome) = true := by simp [hc0]
        rw [e1]
        clear e1
        go_wp2
        go_roundw
        case rel =>
          refine ⟨k + 1, HLT.out, by go_num, B3.out, ?_⟩
          rw [List.take_add_one, HC.out]
          intro x hx
          rcases List.mem_append.1 hx with hx | hx
          · exact HZ.out x hx
          · have : x = c := by simpa using hx
            rw [this]; exact hc0
        case measure => simp [intOf]; have := HLT.out; have := HLen.out; omega
      · have e1 : (!(match some c with | some c => if c.k = 0 then (none : Option Cp) else some c | none => none).isSome) = false := by simp [hc0]
        rw [e1]
        clear e1
        obtain ⟨e2, e3⟩ := HE.out
        rw [if_pos ⟨c, List.mem_of_getElem? HC.out, hc0⟩] at e2
        subst e2
        obtain rfl : ds = S := e3.trans (if_neg (show ¬ (51 : Int) = 0 by decide))
        clear e3 HE hc0
        go_wp2
        go_ret
        exact ⟨rfl, Leaves.same H.out.1 B3.out⟩
    · have hke : k = l.length := by omega
      have hz : ∀ c ∈ l, c.k = 0 := by
        have := HZ.out
        rw [hke, List.take_length] at this
        exact this
      obtain ⟨e2, e3⟩ := HE.out
      rw [if_neg (by rintro ⟨c, hc, h0⟩; exact h0 (hz c hc))] at e2
      subst e2
      obtain rfl : ds = S.set j [] := e3.trans (if_pos rfl)
      obtain ⟨m, v, h3⟩ : Nds wr p F S := H.out.1.below hB'.out
      obtain ⟨ao, cap, rfl, hs⟩ := h3.slice
      obtain ⟨g, rfl, hg, hf⟩ := hs j H.out.2
      obtain ⟨c0, c1⟩ := h3.cells
      have K : Hid (Leaves w p F (S.set j []) (wr.setCell ⟨g, j, none⟩ (.int .i64 0))) := ⟨⟨m, _, h3.drop rfl H.out.2 (by rw [HLl.out]; exact hz)⟩, (Turn.of hB'.out F).trans (Turn.setCell F wr ⟨g, j, none⟩ _ (h3.fv g rfl).1) fun x hx => .inl hx⟩
      have hj' : (j : Int) < (S.length : Int) := by have := H.out.2; omega
      clear e3 HE hz HZ hs h3
      have hlt' : ¬ ((k : Int) < (l.length : Int)) := by omega
      clear hlt hke hk
      generalize l.length = len at *
      generalize hSl : S.length = sl at *
      clear hSl
      go_wp2
      go_ret
      exact ⟨rfl, K.out⟩
theorem drop_any (p : Nat) (F : Nat → Prop) (S : St) (n : Int) (w : World) (h : Nds w p F S) :
    Calls Try.prog 24 #[.pointer (some ⟨p, 0, none⟩), .int .i64 n] w fun e w' => e = .returned (.int .i64 (dropE S n)) ∧ Leaves w p F (dropS S n) w' := by
  by_cases hb : nodeS S n = []
  · refine (drop_none p F S n w h (by unfold sizeB; rw [hb]; rfl)).mono ?_
    rintro e w' ⟨rfl, rfl⟩
    have e1 : dropE S n = 50 := by unfold dropE; rw [if_pos hb]
    refine ⟨by rw [e1], ?_⟩
    rw [dropS, e1, if_neg (by decide)]
    exact Leaves.same h (Below.refl _ _)
  · by_cases ho : 0 ≤ n ∧ n < S.length
    · obtain ⟨j, rfl⟩ := Int.eq_ofNat_of_zero_le ho.1
      rw [nodeS_nat] at hb
      exact drop_in p F S j w h (by omega) hb
    · exact absurd (nodeS_out S n ho) hb
end Go.Proofs.Ytkpoppgibempbaa

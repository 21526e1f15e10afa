/-
  What the library's DeleteFunc does to a row of ints: those of which the closure says no stay, in order, in the row's own block; no condition but that the row is short.
-/
import Derived.Test.YtbkkpfmhcfkfbaaVRow
namespace Go.Proofs.Ytbkkpfmhcfkfbaa
open Go.RowKit Go.Deep Go.Shelf

def zI (n : Nat) : List Value := List.replicate n (.int .i64 0)
theorem zeros_int (n : Nat) : (Builtin.zeroCells (Value.int .i64 0).cells n).toList = zI n := by
  rw [show (Value.int .i64 0).cells = #[Value.int .i64 0] from rfl]
  simp [Builtin.zeroCells, zI]
  apply List.ext_getElem
  · simp
  · intro i h1 h2
    simp [Nat.mod_one]
theorem clear_tail {w : World} (ty : TypeId) {g cap i : Nat} {M : List Int} (c : Nat) (h : RowI w (.slice (some ⟨g, 0, none⟩) M.length cap) M) (hi : i < M.length) :
    ∃ C : Array Value, (Builtin.clear_ #[27] ty #[.slice (some ⟨g, i, none⟩) (M.length - i) c]).run Try.prog w = .ok (.tuple #[]) (w.setRow g C) ∧ RowI (w.setRow g C) (.slice (some ⟨g, 0, none⟩) i cap) (M.take i) := by
  obtain ⟨h0, ⟨e, _⟩ | ⟨g', cap', cur, e, _, hg, h1, h2, h3, h4⟩⟩ := h
  · cases e
  · cases e
    have k1 : elI.k = 1 := rfl
    rw [k1, Nat.mul_one] at h3 h4 h0
    have hst := run_storeCells_at Try.prog g i 3 (zI (M.length - i)) 0 cur w hg (by simp [zI]; omega) (by simp [zI, Value.oneCell'])
    simp only [Nat.add_zero] at hst
    obtain ⟨m, hm⟩ : ∃ m, M.length - i = m + 1 := ⟨M.length - i - 1, by omega⟩
    rw [hm] at hst ⊢
    have hzc := zeros_int (m + 1)
    have hv := Try.zeroValue3
    refine ⟨_, by simp [Builtin.clear_, run_underlying Try.underlying27, hv, hzc, hst]; rfl, ?_⟩
    have hh := setRow_heap w g cur (cur.toList.take i ++ (zI (m + 1) ++ cur.toList.drop (i + (zI (m + 1)).length))).toArray _ _ hg
    have hzl : (zI (m + 1)).length = m + 1 := by simp [zI]
    have ht : (M.take i).length = i := by rw [List.length_take]; omega
    refine ⟨by rw [ht]; exact (flatK_len okI.len _).trans (by rw [ht]), .inr ⟨g, cap, _, by rw [ht], Nat.zero_le _, hh, by rw [ht]; omega, h2, ?_, ?_⟩⟩
    · rw [k1, Nat.mul_one, List.size_toArray, List.length_append, List.length_append, List.length_take, List.length_drop, hzl, Array.length_toList]
      omega
    · rw [k1, Nat.mul_one, ht, flatK_take okI.len, k1, Nat.mul_one, ← h4, List.take_take, Nat.min_eq_left (by omega)]
      show List.take i (cur.toList.take i ++ _) = _
      have hl : (cur.toList.take i).length = i := by rw [List.length_take, Array.length_toList]; omega
      rw [List.take_append_of_le_length (by omega), List.take_take, Nat.min_self]
theorem set_take {M : List Int} {i : Nat} (x : Int) (h : i < M.length) : (M.set i x).take (i + 1) = M.take i ++ [x] := by
  rw [List.set_eq_take_append_cons_drop, if_pos h, List.take_append]
  have : (M.take i).length = i := by rw [List.length_take]; omega
  rw [this, List.take_of_length_le (by omega)]
  have e : i + 1 - i = 1 := by omega
  rw [e]
  rfl
theorem set_drop {M : List Int} {i j : Nat} (x : Int) (h : i < j) : (M.set i x).drop j = M.drop j := by
  rw [List.drop_set, if_pos h]
/-- What the loop has made of the row behind j of L: i stay. -/
structure Kept (p : Int → Bool) (L M : List Int) (i j : Nat) : Prop where
  len : M.length = L.length
  lt : i < j
  le : j ≤ L.length
  head : M.take i = (L.take j).filter (fun x => !p x)
  rest : M.drop j = L.drop j
theorem Kept.first {p : Int → Bool} {L : List Int} {i : Nat} {x : Int} (hi : L[i]? = some x) (hx : p x = true) (ha : ∀ j y, j < i → L[j]? = some y → p y = false) : Kept p L L i (i + 1) := by
  have hlt := (List.getElem?_eq_some_iff.1 hi).1
  refine ⟨rfl, by omega, by omega, ?_, rfl⟩
  rw [List.take_add_one, hi, List.filter_append]
  simp [hx]
  symm
  rw [List.filter_eq_self]
  intro y hy
  obtain ⟨j, hj, e⟩ := List.mem_iff_getElem.1 hy
  rw [List.length_take] at hj
  rw [List.getElem_take] at e
  have := ha j y (by omega) (by rw [List.getElem?_eq_getElem (by omega), e])
  simp [this]
theorem Kept.at {p : Int → Bool} {L M : List Int} {i j : Nat} {x : Int} (h : Kept p L M i j) (hj : L[j]? = some x) : M[j]? = some x := by
  have e := congrArg (fun l => l[0]?) h.rest
  simp only [List.getElem?_drop, Nat.add_zero] at e
  rw [e, hj]
theorem Kept.skip {p : Int → Bool} {L M : List Int} {i j : Nat} {x : Int} (h : Kept p L M i j) (hj : L[j]? = some x) (hp : p x = true) : Kept p L M i (j + 1) := by
  have hl := (List.getElem?_eq_some_iff.1 hj).1
  refine ⟨h.len, by have := h.lt; omega, by omega, ?_, ?_⟩
  · rw [List.take_add_one, hj, List.filter_append, h.head]
    simp [hp]
  · have := congrArg (List.drop 1) h.rest
    simpa [List.drop_drop] using this
theorem Kept.put {p : Int → Bool} {L M : List Int} {i j : Nat} {x : Int} (h : Kept p L M i j) (hj : L[j]? = some x) (hp : p x = false) : Kept p L (M.set i x) (i + 1) (j + 1) := by
  have hl := (List.getElem?_eq_some_iff.1 hj).1
  have hlt := h.lt
  have hlen := h.len
  refine ⟨by rw [List.length_set, hlen], by omega, by omega, ?_, ?_⟩
  · rw [set_take _ (by omega), h.head, List.take_add_one, hj, List.filter_append]
    simp [hp]
  · rw [set_drop _ (by omega)]
    have := congrArg (List.drop 1) h.rest
    simpa [List.drop_drop] using this
theorem idxP_cases (p : Int → Bool) (L : List Int) : (idxP p L = -1 ∧ L.filter (fun x => !p x) = L) ∨ ∃ i : Nat, idxP p L = (i : Int) ∧ i < L.length ∧ Kept p L L i (i + 1) := by
  by_cases h : L.findIdx p < L.length
  · right
    refine ⟨L.findIdx p, by unfold idxP; rw [if_pos h], h, Kept.first (List.getElem?_eq_getElem h) (List.findIdx_getElem (w := h)) fun j y hj hy => ?_⟩
    have := List.not_of_lt_findIdx hj
    obtain ⟨hj2, e⟩ := List.getElem?_eq_some_iff.1 hy
    rw [e] at this
    simpa using this
  · left
    refine ⟨by unfold idxP; rw [if_neg h], ?_⟩
    rw [List.filter_eq_self]
    intro x hx
    rw [List.findIdx_lt_length] at h
    cases hp : p x
    · rfl
    · exact absurd ⟨x, hx, hp⟩ h
theorem grown_turn {w w' : World} {g : Nat} (h : Turn (fun k => k = g) w w') : w.grownBy w' (some g) := ⟨h.os, h.tape, h.output, h.size, fun k hk hn => h.block k hk fun e => hn (by rw [e])⟩
set_option maxHeartbeats 4000000 in
theorem deleteF_any (c : Value) (p : Int → Bool) (v : Value) (L : List Int) (w : World) (hp : Clo (fun k => v.ownBlock = some k) w c p) (h : RowI w v L) (hl : L.length ≤ 1000) :
    Calls Try.prog 23 #[v, c] w fun e w' => ∃ v', e = .returned v' ∧ RowI w' v' (L.filter fun x => !p x) ∧ w.grownBy w' v.ownBlock ∧ v'.ownBlock = v.ownBlock := by
  have HI := hid (indexF_any _ c p v L w hp h hl)
  obtain ⟨g, lb, rfl, eg, hc⟩ := hp
  obtain ⟨ao, cap, rfl, hcn, hc63, hg, -⟩ := h.slice
  rcases idxP_cases p L with ⟨e1, e2⟩ | ⟨i, e1, hi, kp⟩
  · rw [e1] at HI
    rw [e2]
    have HR := hid h
    clear h hg hc e1 e2
    generalize L.length = n at *
    go_enter Try.func23, Try.ntmps23
    go_wp2_with (go_at_call 27; refine Calls.mono HI.out ?_; rintro e w' ⟨rfl, rfl⟩)
    go_ret
    exact ⟨_, rfl, HR.out, ⟨rfl, rfl, rfl, Nat.le_refl _, fun _ _ _ => rfl⟩, rfl⟩
  · rw [e1] at HI
    obtain ⟨b, rfl⟩ := hg i hi
    have HR := hid h
    have HP := hid hc
    have HK := hid kp
    have hi1 : ¬ ((i : Int) = -1) := by omega
    have hi2 : ((i : Int) == -1) = false := by simp
    clear h hg hc e1 kp
    generalize hn : L.length = n at *
    have HN := hid hn
    clear hn
    go_enter Try.func23, Try.ntmps23
    go_wp2_with (go_at_call 27; refine Calls.mono HI.out ?_; rintro e w' ⟨rfl, hw⟩; obtain rfl := hw.symm)
    go_loopw [5, 6, 7] (fun s5 s6 _ wr => ∃ (i j : Nat) (M : List Int), s5 = .int .i64 i ∧ s6 = .int .i64 j ∧ i < j ∧ j ≤ n ∧ Hid (Kept p L M i j ∧ RowI wr (.slice (some ⟨b, 0, none⟩) n cap) M ∧ Turn (fun k => k = b) w wr)) (fun _ s6 _ _ => n - (intOf s6).toNat)
    case atStart => exact ⟨i, i + 1, L, rfl, by go_num, by omega, by omega, HK.out, HR.out, Turn.refl _ _⟩
    case round =>
      obtain ⟨i, j, M, rfl, rfl, hij, hjn, HM⟩ := hrel
      clear HI HR HK hi hi1 hi2
      by_cases hlt : j < n
      · have hltz : (j : Int) < (n : Int) := by omega
        have hjL : j < L.length := by have := HN.out; omega
        obtain ⟨x, hx⟩ : ∃ x, L[j]? = some x := ⟨_, List.getElem?_eq_getElem hjL⟩
        have HX := hid hx
        have c0 := RowI.cell HM.out.2.1 (HM.out.1.at hx)
        clear hjL hx
        have hin : i < n := by omega
        have hinz : (i : Int) < (n : Int) := by omega
        have hiM : i < M.length := by have := HM.out.1.len; have := HN.out; omega
        obtain ⟨y, hy⟩ : ∃ y, M[i]? = some y := ⟨_, List.getElem?_eq_getElem hiM⟩
        have c1 := RowI.cell HM.out.2.1 hy
        have f1 := Row.frozen HM.out.2.1 i
        have hcall := HP.out wr x (HM.out.2.2.mono fun k hk => by subst hk; rfl)
        have HY := hid hy
        clear hy hiM hlt
        cases hq : p x with
        | true =>
          have HQ := hid hq
          rw [hq] at hcall
          clear hq
          have HM2 := hid (And.intro (HM.out.1.skip HX.out HQ.out) HM.out.2)
          go_wp2_with (go_at_fn g; refine hcall.mono ?_; rintro e w' ⟨rfl, rfl⟩)
          go_roundw
          case rel => exact ⟨i, j + 1, M, rfl, by go_num, by omega, by omega, HM2.out⟩
          case measure => simp [intOf]; omega
        | false =>
          have HQ := hid hq
          rw [hq] at hcall
          clear hq
          have hrow := Row.set okI HM.out.2.1 HY.out (j := 0) (c := .int .i64 x) (y := x) (by decide) rfl
          rw [show elI.k = 1 from rfl, Nat.mul_one, Nat.add_zero] at hrow
          have HM2 : Hid (Kept p L (M.set i x) (i + 1) (j + 1) ∧ RowI (wr.setCell ⟨b, i, none⟩ (.int .i64 x)) (.slice (some ⟨b, 0, none⟩) n cap) (M.set i x) ∧ Turn (fun k => k = b) w (wr.setCell ⟨b, i, none⟩ (.int .i64 x))) := ⟨HM.out.1.put HX.out HQ.out, hrow, HM.out.2.2.trans (Turn.setCell (fun k => k = b) wr ⟨b, i, none⟩ _ rfl) fun x hx => .inl hx⟩
          clear hrow
          go_wp2_with (go_at_fn g; refine hcall.mono ?_; rintro e w' ⟨rfl, rfl⟩)
          go_roundw
          case rel => exact ⟨i + 1, j + 1, _, by go_num, by go_num, by omega, by omega, HM2.out⟩
          case measure => simp [intOf]; omega
      · have hltz : ¬ (j : Int) < (n : Int) := by omega
        have hjL : j = L.length := by have := HN.out; have := HM.out.1.le; omega
        have hlen : M.length = n := by have := HM.out.1.len; have := HN.out; omega
        have hrow := HM.out.2.1
        rw [← hlen] at hrow
        have hcl := fun ty c => clear_tail ty c hrow (i := i) (by omega)
        have hd := HM.out.1.head
        rw [hjL, List.take_length] at hd
        have HD := hid hd
        have hin : i < n := by omega
        have hinz : (i : Int) ≤ (n : Int) := by omega
        have hic : i ≤ cap := by omega
        have hic2 : ¬ (cap = i) := by omega
        rw [hlen] at hcl
        obtain ⟨C, hrun, hr2⟩ := hcl 0 (cap - i)
        have HF : Hid (RowI (wr.setRow b C) (.slice (some ⟨b, 0, none⟩) i cap) (M.take i) ∧ w.grownBy (wr.setRow b C) (some b)) := ⟨hr2, grown_turn (HM.out.2.2.trans (Turn.setRow (fun k => k = b) wr b C rfl) fun x hx => .inl hx)⟩
        clear hr2 hcl hrow hd hjL hlen hlt
        go_wp2
        go_ret
        exact ⟨_, rfl, by rw [← HD.out]; exact HF.out.1, HF.out.2, rfl⟩
end Go.Proofs.Ytbkkpfmhcfkfbaa

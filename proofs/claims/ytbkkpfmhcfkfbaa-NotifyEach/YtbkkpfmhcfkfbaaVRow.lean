/-
  What the library's Index, Contains, IndexFunc, DeleteFunc and Clone do to a row of ints; a closure that says yes or no of an int; no condition but that the row is short.
-/
import Derived.Test.YtbkkpfmhcfkfbaaVBase
namespace Go.Proofs.Ytbkkpfmhcfkfbaa
open Go.RowKit Go.Deep Go.Shelf

/-! ### Index, Contains -/
def idxP (p : Int → Bool) (L : List Int) : Int := if L.findIdx p < L.length then ((L.findIdx p : Nat) : Int) else -1
theorem idxP_hit {p : Int → Bool} {L : List Int} {k : Nat} {x : Int} (hk : L[k]? = some x) (h : p x = true) (ha : ∀ j y, j < k → L[j]? = some y → p y = false) : idxP p L = (k : Int) := by
  obtain ⟨hl, e⟩ := List.getElem?_eq_some_iff.1 hk
  have : L.findIdx p = k := by
    rw [List.findIdx_eq hl]
    exact ⟨by rw [e]; exact h, fun j hj => ha j _ hj (List.getElem?_eq_getElem (by omega))⟩
  unfold idxP
  rw [this, if_pos hl]
theorem idxP_miss {p : Int → Bool} {L : List Int} (ha : ∀ (j : Nat) (y : Int), L[j]? = some y → p y = false) : idxP p L = -1 := by
  unfold idxP
  rw [if_neg]
  rw [List.findIdx_lt_length]
  rintro ⟨x, hx, hn⟩
  obtain ⟨j, hj, e⟩ := List.mem_iff_getElem.1 hx
  have := ha j x (by rw [List.getElem?_eq_getElem hj, e])
  rw [hn] at this
  cases this
theorem idxP_mem (L : List Int) (n : Int) : decide (0 ≤ idxP (· == n) L) = L.contains n := by
  unfold idxP
  by_cases h : L.findIdx (· == n) < L.length
  · rw [if_pos h]
    obtain ⟨x, hx, e⟩ := List.findIdx_lt_length.1 h
    have e' : x = n := by simpa using e
    have : n ∈ L := e' ▸ hx
    simp [this]
  · rw [if_neg h]
    have : n ∉ L := fun hm => h (List.findIdx_lt_length.2 ⟨n, hm, by simp⟩)
    simp [this]
set_option maxHeartbeats 1000000 in
theorem index_any (v : Value) (L : List Int) (n : Int) (w : World) (h : RowI w v L) (hl : L.length ≤ 1000) :
    Calls Try.prog 26 #[v, .int .i64 n] w fun e w' => e = .returned (.int .i64 (idxP (· == n) L)) ∧ w' = w := by
  obtain ⟨ao, cap, rfl, -, -, hg, -⟩ := h.slice
  have HC : Hid (∀ k x, L[k]? = some x → ∃ g, ao = some ⟨g, 0, none⟩ ∧ w.cell? ⟨g, k, none⟩ = some (.int .i64 x)) := fun k x hx => by
    obtain ⟨g, rfl⟩ := hg k (List.getElem?_eq_some_iff.1 hx).1
    exact ⟨g, rfl, RowI.cell h hx⟩
  clear h hg
  generalize hm : L.length = m at *
  go_enter Try.func26, Try.ntmps26
  go_wp2
  go_loop [5, 8] (fun _ s8 => ∃ k : Nat, k ≤ m ∧ s8 = .int .i64 k ∧ Hid (∀ j y, j < k → L[j]? = some y → (y == n) = false)) (fun _ s8 => m - (intOf s8).toNat)
  case atStart => exact ⟨0, Nat.zero_le _, rfl, fun j y hj => by omega⟩
  case round =>
    obtain ⟨k, hk, rfl, HJ⟩ := hrel
    by_cases hlt : k < m
    · have hkl : k < L.length := by omega
      obtain ⟨g, rfl, hx⟩ := HC.out k _ (List.getElem?_eq_getElem hkl)
      have HX := hid (List.getElem?_eq_getElem hkl)
      generalize L[k] = x at *
      have hltz : (k : Int) < (m : Int) := by omega
      by_cases hxn : n = x
      · subst hxn
        have HR := hid (idxP_hit (p := (· == n)) HX.out (by simp) HJ.out)
        go_wp2
        go_ret
        exact ⟨ret_int HR.out.symm, rfl⟩
      · have hne : (n == x) = false := by simpa using hxn
        have HN : Hid ((x == n) = false) := by show (x == n) = false; simpa using fun e => hxn e.symm
        clear hxn
        go_wp2
        go_round
        case rel =>
          refine ⟨k + 1, by omega, by go_num, fun j y hj hy => ?_⟩
          by_cases e : j = k
          · subst e
            rw [HX.out] at hy
            cases hy
            exact HN.out
          · exact HJ.out j y (by omega) hy
        case measure => simp [intOf]; omega
    · have hltz : ¬ (k : Int) < (m : Int) := by omega
      have HR := hid (idxP_miss (p := (· == n)) (L := L) fun j y hy => HJ.out j y (by have := (List.getElem?_eq_some_iff.1 hy).1; omega) hy)
      clear hlt
      go_wp2
      go_ret
      exact ⟨ret_int HR.out.symm, rfl⟩
theorem contains_any (v : Value) (L : List Int) (n : Int) (w : World) (h : RowI w v L) (hl : L.length ≤ 1000) :
    Calls Try.prog 22 #[v, .int .i64 n] w fun e w' => e = .returned (.bool (L.contains n)) ∧ w' = w := by
  have HI := hid (index_any v L n w h hl)
  have hd := idxP_mem L n
  obtain ⟨ao, cap, rfl, -⟩ := h.slice
  clear h
  generalize L.length = N at *
  generalize idxP (· == n) L = z at *
  generalize L.contains n = b at *
  go_enter Try.func22, Try.ntmps22
  go_wp2_with (go_at_call 26; refine Calls.mono HI.out ?_; rintro e w' ⟨rfl, rfl⟩)
  go_ret
  exact ⟨rfl, rfl⟩
/-! ### A closure, IndexFunc -/
/-- The function value c says p of an int in every world where all old blocks outside F are as they were, and leaves it. -/
def Clo (F : Nat → Prop) (w : World) (c : Value) (p : Int → Bool) : Prop := ∃ g lb, c = .func (.func g) #[] lb ∧ (∀ args w, (callFunc g args).run Try.prog w = .ok (.enter g args) w) ∧ ∀ W x, Turn F w W → Calls Try.prog g (#[.int .i64 x] ++ lb) W fun e w' => e = .returned (.bool (p x)) ∧ w' = W
theorem Clo.form {F : Nat → Prop} {w : World} {c : Value} {p : Int → Bool} (h : Clo F w c p) : ∃ g lb, c = .func (.func g) #[] lb := by
  obtain ⟨g, lb, e1, _⟩ := h
  exact ⟨g, lb, e1⟩
theorem is_any (q : Nat) (n x : Int) (w : World) (h : Var w q (.int .i64 n)) :
    Calls Try.prog 24 #[.int .i64 x, ptr q] w fun e w' => e = .returned (.bool (x == n)) ∧ w' = w := by
  have c0 := h.2
  clear h
  go_enter Try.func24, Try.ntmps24
  go_wp2
  go_ret
  exact ⟨rfl, rfl⟩
set_option maxHeartbeats 1000000 in
theorem indexF_any (F : Nat → Prop) (c : Value) (p : Int → Bool) (v : Value) (L : List Int) (w : World) (hp : Clo F w c p) (h : RowI w v L) (hl : L.length ≤ 1000) :
    Calls Try.prog 27 #[v, c] w fun e w' => e = .returned (.int .i64 (idxP p L)) ∧ w' = w := by
  obtain ⟨g, lb, rfl, eg, hc⟩ := hp
  obtain ⟨ao, cap, rfl, -, -, hg, -⟩ := h.slice
  have HC : Hid (∀ k x, L[k]? = some x → ∃ g, ao = some ⟨g, 0, none⟩ ∧ w.cell? ⟨g, k, none⟩ = some (.int .i64 x)) := fun k x hx => by
    obtain ⟨g, rfl⟩ := hg k (List.getElem?_eq_some_iff.1 hx).1
    exact ⟨g, rfl, RowI.cell h hx⟩
  have HP := hid hc
  clear h hg hc
  generalize hm : L.length = m at *
  go_enter Try.func27, Try.ntmps27
  go_wp2
  go_loop [5, 8] (fun _ s8 => ∃ k : Nat, k ≤ m ∧ s8 = .int .i64 k ∧ Hid (∀ j y, j < k → L[j]? = some y → p y = false)) (fun _ s8 => m - (intOf s8).toNat)
  case atStart => exact ⟨0, Nat.zero_le _, rfl, fun j y hj => by omega⟩
  case round =>
    obtain ⟨k, hk, rfl, HJ⟩ := hrel
    by_cases hlt : k < m
    · have hkl : k < L.length := by omega
      obtain ⟨b, rfl, hx⟩ := HC.out k _ (List.getElem?_eq_getElem hkl)
      have HX := hid (List.getElem?_eq_getElem hkl)
      generalize L[k] = x at *
      have hltz : (k : Int) < (m : Int) := by omega
      have hcall := HP.out w x (Turn.refl _ _)
      cases hq : p x with
      | true =>
        rw [hq] at hcall
        have HR := hid (idxP_hit HX.out hq HJ.out)
        clear hq
        go_wp2_with (go_at_fn g; refine hcall.mono ?_; rintro e w' ⟨rfl, rfl⟩)
        go_ret
        exact ⟨ret_int HR.out.symm, rfl⟩
      | false =>
        rw [hq] at hcall
        have HQ := hid hq
        clear hq
        go_wp2_with (go_at_fn g; refine hcall.mono ?_; rintro e w' ⟨rfl, rfl⟩)
        go_round
        case rel =>
          refine ⟨k + 1, by omega, by go_num, fun j y hj hy => ?_⟩
          by_cases e : j = k
          · subst e
            rw [HX.out] at hy
            cases hy
            exact HQ.out
          · exact HJ.out j y (by omega) hy
        case measure => simp [intOf]; omega
    · have hltz : ¬ (k : Int) < (m : Int) := by omega
      have HR := hid (idxP_miss (p := p) (L := L) fun j y hy => HJ.out j y (by have := (List.getElem?_eq_some_iff.1 hy).1; omega) hy)
      clear hlt
      go_wp2
      go_ret
      exact ⟨ret_int HR.out.symm, rfl⟩
/-! ### Clone -/
theorem clone_any (v : Value) (L : List Int) (w : World) (h : RowI w v L) (hl : L.length ≤ 1000) :
    Calls Try.prog 25 #[v] w fun e w' => ∃ v', e = .returned v' ∧ Sep w w.heap.size w' [lstI v' L] := by
  have q22 : ∀ (w : World) (a : Option Addr) (n c n' c' : Nat), (binOp .eql 27 (.slice a n c) (.slice none n' c')).run Try.prog w = .ok (.bool a.isNone) w := fun w a n c n' c' => Lib.run_eql_slice_nil w _ _ a n c n' c' Try.underlying27
  obtain ⟨ao, cap, rfl, -, -, -, hn⟩ := h.slice
  cases ao with
  | none =>
    obtain rfl := hn rfl
    have HK := hid ((sep_nil w).nil (E := elI))
    clear h hn
    simp only [List.length_nil] at *
    go_enter Try.func25, Try.ntmps25
    go_wp2
    go_ret
    exact ⟨_, rfl, HK.out⟩
  | some a =>
    obtain ⟨v', w', r1, s1⟩ := ((sep_nil w).made (E := elI)).onto okI (h.below (below_new w _)) 27 (by simp; omega)
    have HK := hid s1
    simp only [elI] at r1
    have hRun := hid r1
    clear r1 s1 h hn
    generalize L.length = n at *
    go_enter Try.func25, Try.ntmps25
    go_wp2_with (at_builtin; refine wpList_append_run rfl _ _ _ _ rfl _ _ _ _ rfl rfl hRun.out ?_)
    go_ret
    exact ⟨_, rfl, HK.out⟩
end Go.Proofs.Ytbkkpfmhcfkfbaa

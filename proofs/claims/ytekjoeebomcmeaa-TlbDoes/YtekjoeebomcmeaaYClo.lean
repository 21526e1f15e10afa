/-
  Closures of package tlb that say yes or no of a line, and several of them together; no condition.
-/
import Derived.Test.YtekjoeebomcmeaaYBase
namespace Go.Proofs.Ytekjoeebomcmeaa
open Go.RowKit Go.Deep Go.Shelf

theorem Turn.then {F : Nat → Prop} {a b c : World} (h : Turn F a b) (k : Turn F b c) : Turn F a c := h.trans k fun _ hx => .inl hx
theorem Var.turn {F : Nat → Prop} {w w' : World} {q : Nat} {v : Value} (h : Var w q v) (n : ¬ F q) (u : Turn F w w') : Var w' q v := by
  refine ⟨Nat.lt_of_lt_of_le h.1 u.size, ?_⟩
  have := h.2
  simp only [World.cell?] at *
  rw [u.block q h.1 n]
  exact this
/-- The function value c says q of a line in every world where all old blocks outside F are as they were, and lays new blocks alone. -/
def Clo (F : Nat → Prop) (w : World) (c : Value) (q : Lr → Bool) : Prop := ∃ g lb, c = .func (.func g) #[] lb ∧ (∀ args w, (callFunc g args).run Try.prog w = .ok (.enter g args) w) ∧ ∀ W x, Turn F w W → Calls Try.prog g (#[encL x] ++ lb) W fun e w' => e = .returned (.bool (q x)) ∧ Below W.heap.size W w'
theorem Clo.turn {F : Nat → Prop} {w w' : World} {c : Value} {q : Lr → Bool} (h : Clo F w c q) (u : Turn F w w') : Clo F w' c q := by
  obtain ⟨g, lb, e1, e2, h3⟩ := h
  exact ⟨g, lb, e1, e2, fun W x k => h3 W x (u.then k)⟩
theorem Clo.below {F : Nat → Prop} {w w' : World} {c : Value} {q : Lr → Bool} (h : Clo F w c q) (b : Below w.heap.size w w') : Clo F w' c q := h.turn (Turn.of b F)
theorem Clo.form {F : Nat → Prop} {w : World} {c : Value} {q : Lr → Bool} (h : Clo F w c q) : ∃ g lb, c = .func (.func g) #[] lb := by
  obtain ⟨g, lb, e1, _⟩ := h
  exact ⟨g, lb, e1⟩
theorem Clo.ext {F : Nat → Prop} {w : World} {c : Value} {q q' : Lr → Bool} (h : Clo F w c q) (e : ∀ x, q x = q' x) : Clo F w c q' := by
  have : q = q' := funext e
  rw [← this]
  exact h
theorem isS_any (q : Nat) (n : Int) (x : Lr) (w : World) (h : Var w q (.int .i64 n)) :
    Calls Try.prog 33 #[encL x, ptr q] w fun e w' => e = .returned (.bool (isS n x)) ∧ Below w.heap.size w w' := by
  have b1 := below_new w (objL x)
  have c1 := (h.below b1).2
  obtain ⟨d0, -⟩ := newL w x
  have B := hid b1
  clear b1 h
  simp only [objL, encL, isS] at *
  go_enter Try.func33, Try.ntmps33
  go_wp2
  go_ret
  exact ⟨rfl, B.out⟩
theorem isP_any (q : Nat) (n : Int) (x : Lr) (w : World) (h : Var w q (.int .i64 n)) :
    Calls Try.prog 34 #[encL x, ptr q] w fun e w' => e = .returned (.bool (isP n x)) ∧ Below w.heap.size w w' := by
  have b1 := below_new w (objL x)
  have c1 := (h.below b1).2
  obtain ⟨-, d1, -⟩ := newL w x
  have B := hid b1
  clear b1 h
  simp only [objL, encL, isP] at *
  go_enter Try.func34, Try.ntmps34
  go_wp2
  go_ret
  exact ⟨rfl, B.out⟩
theorem isF_any (q : Nat) (n : Int) (x : Lr) (w : World) (h : Var w q (.int .i64 n)) :
    Calls Try.prog 35 #[encL x, ptr q] w fun e w' => e = .returned (.bool (isF n x)) ∧ Below w.heap.size w w' := by
  have b1 := below_new w (objL x)
  have c1 := (h.below b1).2
  obtain ⟨-, -, d2, -⟩ := newL w x
  have B := hid b1
  clear b1 h
  simp only [objL, encL, isF] at *
  go_enter Try.func35, Try.ntmps35
  go_wp2
  go_ret
  exact ⟨rfl, B.out⟩
theorem space_any {F : Nat → Prop} (n : Int) (w : World) (hF : ∀ x, F x → x < w.heap.size) : Calls Try.prog 26 #[.int .i64 n] w fun e w' => ∃ c, e = .returned c ∧ Clo F w' c (isS n) ∧ Below w.heap.size w w' := by
  have hmf : ∀ (fn : Fn) (first cap : Array Value) (w : World), (Instr.makeFunc fn first cap).run Try.prog w = .ok (.func fn first cap) w := fun _ _ _ _ => rfl
  have HV := hid (And.intro (below_new w (.cells #[.int .i64 n] 3)) (Var.new w (.int .i64 n) 3))
  have HF := hid hF
  clear hF
  go_enter Try.func26, Try.ntmps26
  go_wp2
  go_ret
  exact ⟨_, rfl, ⟨_, _, rfl, enters_of Try.func33 (by kernel_rfl) rfl, fun W x k => isS_any w.heap.size n x W (HV.out.2.turn (fun h => Nat.lt_irrefl _ (HF.out _ h)) k)⟩, HV.out.1⟩
theorem page_any {F : Nat → Prop} (n : Int) (w : World) (hF : ∀ x, F x → x < w.heap.size) : Calls Try.prog 27 #[.int .i64 n] w fun e w' => ∃ c, e = .returned c ∧ Clo F w' c (isP n) ∧ Below w.heap.size w w' := by
  have hmf : ∀ (fn : Fn) (first cap : Array Value) (w : World), (Instr.makeFunc fn first cap).run Try.prog w = .ok (.func fn first cap) w := fun _ _ _ _ => rfl
  have HV := hid (And.intro (below_new w (.cells #[.int .i64 n] 3)) (Var.new w (.int .i64 n) 3))
  have HF := hid hF
  clear hF
  go_enter Try.func27, Try.ntmps27
  go_wp2
  go_ret
  exact ⟨_, rfl, ⟨_, _, rfl, enters_of Try.func34 (by kernel_rfl) rfl, fun W x k => isP_any w.heap.size n x W (HV.out.2.turn (fun h => Nat.lt_irrefl _ (HF.out _ h)) k)⟩, HV.out.1⟩
theorem frame_any {F : Nat → Prop} (n : Int) (w : World) (hF : ∀ x, F x → x < w.heap.size) : Calls Try.prog 28 #[.int .i64 n] w fun e w' => ∃ c, e = .returned c ∧ Clo F w' c (isF n) ∧ Below w.heap.size w w' := by
  have hmf : ∀ (fn : Fn) (first cap : Array Value) (w : World), (Instr.makeFunc fn first cap).run Try.prog w = .ok (.func fn first cap) w := fun _ _ _ _ => rfl
  have HV := hid (And.intro (below_new w (.cells #[.int .i64 n] 3)) (Var.new w (.int .i64 n) 3))
  have HF := hid hF
  clear hF
  go_enter Try.func28, Try.ntmps28
  go_wp2
  go_ret
  exact ⟨_, rfl, ⟨_, _, rfl, enters_of Try.func35 (by kernel_rfl) rfl, fun W x k => isF_any w.heap.size n x W (HV.out.2.turn (fun h => Nat.lt_irrefl _ (HF.out _ h)) k)⟩, HV.out.1⟩
/-! ### Several -/
/-- A list of closures in block g, outside F. -/
structure Arg (F : Nat → Prop) (w : World) (g : Nat) (cs : List Value) (qs : List (Lr → Bool)) : Prop where
  len : cs.length = qs.length
  few : cs.length ≤ 1000
  lt : g < w.heap.size
  out : ¬ F g
  cell : ∀ (k : Nat) (c : Value), cs[k]? = some c → w.cell? ⟨g, k, none⟩ = some c
  clo : ∀ (k : Nat) (c : Value) (q : Lr → Bool), cs[k]? = some c → qs[k]? = some q → Clo F w c q
def allB (qs : List (Lr → Bool)) (x : Lr) : Bool := qs.all fun q => q x
theorem Arg.turn {F : Nat → Prop} {w w' : World} {g : Nat} {cs : List Value} {qs : List (Lr → Bool)} (h : Arg F w g cs qs) (u : Turn F w w') : Arg F w' g cs qs := by
  refine ⟨h.len, h.few, Nat.lt_of_lt_of_le h.lt u.size, h.out, fun k c hc => ?_, fun k c q hc hq => (h.clo k c q hc hq).turn u⟩
  have := h.cell k c hc
  simp only [World.cell?] at *
  rw [u.block g h.lt h.out]
  exact this
theorem allB_no : ∀ (qs : List (Lr → Bool)) (x : Lr) (k : Nat) (q : Lr → Bool), qs[k]? = some q → q x = false → allB qs x = false := by
  intro qs x k q hk hq
  unfold allB
  rw [List.all_eq_false]
  exact ⟨q, List.mem_of_getElem? hk, by simp [hq]⟩
theorem allB_yes (qs : List (Lr → Bool)) (x : Lr) (h : ∀ (k : Nat) (q : Lr → Bool), qs[k]? = some q → q x = true) : allB qs x = true := by
  unfold allB
  rw [List.all_eq_true]
  intro q hq
  obtain ⟨k, hk, e⟩ := List.mem_iff_getElem.1 hq
  exact h k q (by rw [List.getElem?_eq_getElem hk, e])
set_option maxHeartbeats 2000000 in
theorem allC {F : Nat → Prop} (p g cap : Nat) (cs : List Value) (qs : List (Lr → Bool)) (x : Lr) (w : World) (ha : Arg F w g cs qs) (hv : Var w p (.slice (some ⟨g, 0, none⟩) cs.length cap)) :
    Calls Try.prog 36 #[encL x, ptr p] w fun e w' => e = .returned (.bool (allB qs x)) ∧ Below w.heap.size w w' := by
  have b1 := below_new w (objL x)
  have c1 := (hv.below b1).2
  have HX := hid (blk_alloc_new w (objL x))
  have B := hid b1
  have HA := hid ha
  have hs := ha.few
  clear b1 hv ha
  generalize hn : cs.length = n at *
  have HN := hid hn
  clear hn
  simp only [objL, encL] at *
  go_enter Try.func36, Try.ntmps36
  go_wp2
  generalize hr : w.heap.size = r at *
  go_loopw [5, 8] (fun _ s8 wr => ∃ k : Nat, k ≤ n ∧ s8 = .int .i64 k ∧ Hid (Below r w wr ∧ wr.heap[r]? = some (objL x) ∧ r < wr.heap.size) ∧ Hid (∀ (j : Nat) (q : Lr → Bool), j < k → qs[j]? = some q → q x = true)) (fun _ s8 _ => n - (intOf s8).toNat)
  case atStart => exact ⟨0, Nat.zero_le _, rfl, ⟨B.out, HX.out, by rw [nblk_alloc, hr]; omega⟩, fun j q hj => by omega⟩
  case round =>
    obtain ⟨k, hk, rfl, HW, HJ⟩ := hrel
    clear c1 B HX
    by_cases hlt : k < n
    · have hk1 : k < cs.length := by have := HN.out; omega
      have hk2 : k < qs.length := by have := HA.out.len; omega
      have u : Turn F w wr := Turn.of (by rw [hr]; exact HW.out.1) F
      have A2 := HA.out.turn u
      have hcell := A2.cell k _ (List.getElem?_eq_getElem hk1)
      obtain ⟨f, lb, e1, e2, h3⟩ := A2.clo k _ _ (List.getElem?_eq_getElem hk1) (List.getElem?_eq_getElem hk2)
      have HE := hid (List.getElem?_eq_getElem hk2)
      rw [e1] at hcell
      have hcall := h3 wr x (Turn.refl _ _)
      obtain ⟨d0, d1, d2, d3⟩ := cellsL HW.out.2.1
      clear h3 e1 A2 u
      generalize qs[k] = q at *
      have hltz : (k : Int) < (n : Int) := by omega
      simp only [encL] at hcall
      have HL := hid hlt
      clear hk1 hk2 hlt
      cases hq : q x with
      | true =>
        rw [hq] at hcall
        have HQ := hid hq
        clear hq
        go_wp2_with (go_at_fn f; refine hcall.mono ?_; rintro e w' ⟨rfl, hb'⟩)
        go_roundw
        case rel =>
          refine ⟨k + 1, by have := HL.out; omega, by go_num, ⟨Below.then HW.out.1 hb' (by have := HW.out.2.2; omega), (hb'.block r HW.out.2.2).trans HW.out.2.1, Nat.lt_of_lt_of_le HW.out.2.2 hb'.size⟩, fun j q' hj hq' => ?_⟩
          by_cases ej : j = k
          · subst ej
            rw [HE.out] at hq'
            cases hq'
            exact HQ.out
          · exact HJ.out j q' (by omega) hq'
        case measure => simp [intOf]; have := HL.out; omega
      | false =>
        rw [hq] at hcall
        have HR := hid (allB_no qs x k q HE.out hq)
        clear hq
        go_wp2_with (go_at_fn f; refine hcall.mono ?_; rintro e w' ⟨rfl, hb'⟩)
        go_ret
        exact ⟨by rw [HR.out]; rfl, by rw [hr]; exact Below.then HW.out.1 hb' (by have := HW.out.2.2; omega)⟩
    · have hltz : ¬ (k : Int) < (n : Int) := by omega
      have HR := hid (allB_yes qs x fun j q hj => HJ.out j q (by have := (List.getElem?_eq_some_iff.1 hj).1; have := HA.out.len; have := HN.out; omega) hj)
      clear hlt
      go_wp2
      go_ret
      exact ⟨by rw [HR.out]; rfl, HW.out.1⟩
theorem all_any {F : Nat → Prop} (g cap : Nat) (cs : List Value) (qs : List (Lr → Bool)) (w : World) (ha : Arg F w g cs qs) (hF : ∀ x, F x → x < w.heap.size) :
    Calls Try.prog 30 #[.slice (some ⟨g, 0, none⟩) cs.length cap] w fun e w' => ∃ c, e = .returned c ∧ Clo F w' c (allB qs) ∧ Below w.heap.size w w' := by
  have hmf : ∀ (fn : Fn) (first cap : Array Value) (w : World), (Instr.makeFunc fn first cap).run Try.prog w = .ok (.func fn first cap) w := fun _ _ _ _ => rfl
  have HV := hid (And.intro (below_new w (.cells #[.slice (some ⟨g, 0, none⟩) cs.length cap] 62)) (Var.new w (.slice (some ⟨g, 0, none⟩) cs.length cap) 62))
  have HF := hid hF
  have HA := hid ha
  clear hF ha
  generalize hn : cs.length = n at *
  have HN := hid hn
  clear hn
  go_enter Try.func30, Try.ntmps30
  go_wp2
  go_ret
  refine ⟨_, rfl, ⟨_, _, rfl, enters_of Try.func36 (by kernel_rfl) rfl, fun W x k => ?_⟩, HV.out.1⟩
  refine allC w.heap.size g cap cs qs x W ((HA.out.turn (Turn.of HV.out.1 F)).turn k) ?_
  rw [HN.out]
  exact HV.out.2.turn (fun h => Nat.lt_irrefl _ (HF.out _ h)) k
end Go.Proofs.Ytekjoeebomcmeaa

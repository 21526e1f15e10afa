/-
  Checks of package threads: closures that answer an error, and what first answers of some of them; no condition but what a check itself asks.
-/
import Derived.Test.YtchamgecalfmpaaDoorHBase
import Derived.Shelf.Abstract
import Derived.Lib.Walk
namespace Go.Proofs.YtchamgecalfmpaaDoor
open Go.RowKit Go.Deep Go.Shelf

/-- The function value c answers e, whatever new blocks there are, and lays new blocks alone. -/
def Chk (w : World) (c : Value) (e : Int) : Prop := ∃ g lb, c = .func (.func g) #[] lb ∧ (∀ args w, (callFunc g args).run Tryd.prog w = .ok (.enter g args) w) ∧ ∀ W, Below w.heap.size w W → Calls Tryd.prog g lb W fun x w' => x = .returned (.int .i64 e) ∧ Below W.heap.size W w'
theorem Chk.below {w w' : World} {c : Value} {e : Int} (h : Chk w c e) (b : Below w.heap.size w w') : Chk w' c e := by
  obtain ⟨g, lb, e1, e2, h3⟩ := h
  exact ⟨g, lb, e1, e2, fun W k => h3 W (Below.then b k b.size)⟩
def firstE : List Int → Int
  | [] => 0
  | e :: es => if e = 0 then firstE es else e
/-- Those ahead of k are no errors. -/
def Free (es : List Int) (k : Nat) : Prop := ∀ j, j < k → es[j]? = some 0
theorem firstE_at : ∀ (es : List Int) (k : Nat) (e : Int), Free es k → es[k]? = some e → e ≠ 0 → firstE es = e
  | [], k, e, _, h, _ => by simp at h
  | x :: es, 0, e, _, h, h0 => by
    obtain rfl : x = e := by simpa using h
    simp [firstE, h0]
  | x :: es, k + 1, e, hf, h, h0 => by
    have hx : x = 0 := by simpa using hf 0 (by omega)
    simp only [firstE, hx, if_true]
    exact firstE_at es k e (fun j hj => by have := hf (j + 1) (by omega); simpa using this) (by simpa using h) h0
theorem firstE_no : ∀ (es : List Int), Free es es.length → firstE es = 0
  | [], _ => rfl
  | x :: es, hf => by
    have hx : x = 0 := by simpa using hf 0 (by simp)
    simp only [firstE, hx, if_true]
    exact firstE_no es fun j hj => by have := hf (j + 1) (by simpa using hj); simpa using this
/-- Is n a number below m? -/
def inB (n m : Int) : Bool := decide (0 ≤ n ∧ n < m)
def unE (b : Bool) (e : Int) : Int := if b = true then 0 else e
def inE (n m e : Int) : Int := unE (inB n m) e
theorem inE_yes {n m e : Int} (h : 0 ≤ n ∧ n < m) : inE n m e = 0 := by simp [inE, unE, inB, h]
theorem inE_no {n m e : Int} (h : ¬ (0 ≤ n ∧ n < m)) : inE n m e = e := by simp [inE, unE, inB, h]
theorem within_any (n m : Int) (w : World) : Calls Tryd.prog 39 #[.int .i64 n, .int .i64 m] w fun e w' => e = .returned (.bool (inB n m)) ∧ w' = w := by
  unfold inB
  by_cases c : 0 ≤ n
  · have e : decide (0 ≤ n ∧ n < m) = decide (n < m) := by simp [c]
    rw [e]
    generalize hb : decide (n < m) = b at *
    go_enter Tryd.func39, Tryd.ntmps39
    go_wp2
    go_ret
    exact ⟨rfl, rfl⟩
  · have e : decide (0 ≤ n ∧ n < m) = false := by simp [c]
    have c3 : decide (0 ≤ n) = false := by simpa using c
    rw [e]
    clear e
    go_enter Tryd.func39, Tryd.ntmps39
    go_wp2
    go_ret
    exact ⟨rfl, rfl⟩
theorem unless_any (b : Bool) (e0 : Int) (w : World) : Calls Tryd.prog 62 #[.bool b, .int .i64 e0] w fun e w' => e = .returned (.int .i64 (unE b e0)) ∧ w' = w := by
  cases b
  · go_enter Tryd.func62, Tryd.ntmps62
    go_wp2
    go_ret
    exact ⟨rfl, rfl⟩
  · go_enter Tryd.func62, Tryd.ntmps62
    go_wp2
    go_ret
    exact ⟨rfl, rfl⟩
set_option maxHeartbeats 2000000 in
theorem firsts_any (g cap : Nat) (cs : List Value) (es : List Int) (w : World) (hl : cs.length = es.length) (hs : cs.length ≤ 1000) (hb : g < w.heap.size) (hc : ∀ k c, cs[k]? = some c → w.cell? ⟨g, k, none⟩ = some c)
    (hp : ∀ k c e, cs[k]? = some c → es[k]? = some e → Free es k → Chk w c e) :
    Calls Tryd.prog 33 #[.slice (some ⟨g, 0, none⟩) cs.length cap] w fun e w' => e = .returned (.int .i64 (firstE es)) ∧ Below w.heap.size w w' := by
  have HC := hid hc
  have HP := hid hp
  have HB := hid hb
  have HL := hid hl
  clear hc hp hb hl
  generalize hn : cs.length = n at *
  go_enter Tryd.func33, Tryd.ntmps33
  go_wp2
  go_loopw [4, 5, 8] (fun _ _ s8 wr => ∃ k : Nat, k ≤ n ∧ s8 = .int .i64 k ∧ Below w.heap.size w wr ∧ Hid (Free es k)) (fun _ _ s8 _ => n - (intOf s8).toNat)
  case atStart => exact ⟨0, Nat.zero_le _, rfl, Below.refl _ _, fun j hj => by omega⟩
  case round =>
    obtain ⟨k, hk, rfl, bel, HF⟩ := hrel
    have HW := hid bel
    by_cases hlt : k < n
    · have hk1 : k < cs.length := by omega
      have hk2 : k < es.length := by have := HL.out; omega
      have hcell := (bel.cell (p := ⟨g, k, none⟩) HB.out).trans (HC.out k _ (List.getElem?_eq_getElem hk1))
      obtain ⟨f, lb, e1, e2, h3⟩ := (HP.out k _ _ (List.getElem?_eq_getElem hk1) (List.getElem?_eq_getElem hk2) HF.out)
      have HE := hid (List.getElem?_eq_getElem hk2)
      rw [e1] at hcell
      have hcall := h3 wr bel
      clear bel h3 e1
      generalize es[k] = e at *
      have hltz : (k : Int) < (n : Int) := by omega
      by_cases h0 : e = 0
      · subst h0
        go_wp2_with (go_at_fn f; refine hcall.mono ?_; rintro e w' ⟨rfl, hb'⟩)
        go_roundw
        case rel =>
          refine ⟨k + 1, by omega, by go_num, Below.then HW.out hb' HW.out.size, fun j hj => ?_⟩
          by_cases ej : j = k
          · rw [ej]
            exact HE.out
          · exact HF.out j (by omega)
        case measure => simp [intOf]; omega
      · have hne : (e == 0) = false := by simpa using h0
        have hne2 : (e != 0) = true := by simpa using h0
        have HR := hid (firstE_at es k e HF.out HE.out h0)
        go_wp2_with (go_at_fn f; refine hcall.mono ?_; rintro e w' ⟨rfl, hb'⟩)
        go_ret
        exact ⟨ret_int HR.out.symm, Below.then HW.out hb' HW.out.size⟩
    · obtain rfl : k = n := by omega
      have HR := hid (firstE_no es (by rw [← HL.out]; exact HF.out))
      clear bel
      go_wp2
      go_ret
      exact ⟨ret_int HR.out.symm, HW.out⟩
end Go.Proofs.YtchamgecalfmpaaDoor

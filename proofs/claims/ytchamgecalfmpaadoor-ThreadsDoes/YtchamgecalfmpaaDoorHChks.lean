/-
  What below, there, room and among of package threads answer: checks; no condition but what they read.
-/
import Derived.Test.YtchamgecalfmpaaDoorHChk
namespace Go.Proofs.YtchamgecalfmpaaDoor
open Go.RowKit Go.Deep Go.Shelf

abbrev ptr (q : Nat) : Value := .pointer (some ⟨q, 0, none⟩)
/-- A variable's block. -/
def Var (w : World) (q : Nat) (v : Value) : Prop := q < w.heap.size ∧ w.cell? ⟨q, 0, none⟩ = some v
theorem Var.below {w w' : World} {q : Nat} {v : Value} (h : Var w q v) (b : Below w.heap.size w w') : Var w' q v := ⟨Nat.lt_of_lt_of_le h.1 b.size, (b.cell (p := ⟨q, 0, none⟩) h.1).trans h.2⟩
theorem Var.new (w : World) (v : Value) (t : TypeId) : Var (w.alloc (.cells #[v] t)) w.heap.size v := ⟨by simp, by have := blk_alloc_new w (.cells #[v] t); simp only [World.cell?]; rw [this]; rfl⟩
/-! ### below -/
theorem belowC (q1 q2 : Nat) (n m : Int) (w : World) (h1 : Var w q1 (.int .i64 n)) (h2 : Var w q2 (.int .i64 m)) :
    Calls Tryd.prog 66 #[ptr q1, ptr q2] w fun e w' => e = .returned (.int .i64 (inE n m 1)) ∧ Below w.heap.size w w' := by
  have c1 := h1.2
  have c2 := h2.2
  clear h1 h2
  go_enter Tryd.func66, Tryd.ntmps66
  go_wp2_with (first | (go_at_call 39; refine Calls.mono (within_any _ _ _) ?_; rintro e w' ⟨rfl, rfl⟩) | (go_at_call 62; refine Calls.mono (unless_any _ _ _) ?_; rintro e w' ⟨rfl, rfl⟩))
  go_ret
  exact ⟨rfl, Below.refl _ _⟩
theorem two_vars (w : World) (v1 v2 : Value) (t1 t2 : TypeId) : Below w.heap.size w ((w.alloc (.cells #[v1] t1)).alloc (.cells #[v2] t2)) ∧ Var ((w.alloc (.cells #[v1] t1)).alloc (.cells #[v2] t2)) w.heap.size v1 ∧ Var ((w.alloc (.cells #[v1] t1)).alloc (.cells #[v2] t2)) (w.heap.size + 1) v2 := by
  refine ⟨Below.then (below_new _ _) (below_new _ _) (by simp), (Var.new w v1 t1).below (below_new _ _), ?_⟩
  have := Var.new (w.alloc (.cells #[v1] t1)) v2 t2
  simpa using this
theorem below_any (n m : Int) (w : World) : Calls Tryd.prog 37 #[.int .i64 n, .int .i64 m] w fun e w' => ∃ c, e = .returned c ∧ Chk w' c (inE n m 1) ∧ Below w.heap.size w w' := by
  have hmf : ∀ (fn : Fn) (first cap : Array Value) (w : World), (Instr.makeFunc fn first cap).run Tryd.prog w = .ok (.func fn first cap) w := fun _ _ _ _ => rfl
  have HV := hid (two_vars w (.int .i64 n) (.int .i64 m) 3 3)
  go_enter Tryd.func37, Tryd.ntmps37
  go_wp2
  go_ret
  obtain ⟨b, v1, v2⟩ := HV.out
  exact ⟨_, rfl, ⟨_, _, rfl, enters_of Tryd.func66 (by kernel_rfl) rfl, fun W k => belowC _ _ n m W (v1.below k) (v2.below k)⟩, b⟩
/-! ### there -/
set_option maxHeartbeats 1000000 in
theorem thereC (q1 q2 p : Nat) (i : Int) (ao : Option Addr) (n cap : Nat) (w : World) (h1 : Var w q1 (.int .i64 i)) (h2 : Var w q2 (ptr p)) (h3 : Var w p (.slice ao n cap)) :
    Calls Tryd.prog 61 #[ptr q1, ptr q2] w fun e w' => e = .returned (.int .i64 (inE i n 100)) ∧ Below w.heap.size w w' := by
  have c1 := h1.2
  have c2 := h2.2
  have c3 := h3.2
  clear h1 h2 h3
  go_enter Tryd.func61, Tryd.ntmps61
  go_wp2_with fail
  go_quiet ((first | (go_at_call 39; exact Calls.quiet_of_same (within_any _ _ _)) | (go_at_call 62; exact Calls.quiet_of_same (unless_any _ _ _))))
  go_wp2
  go_ret
  exact ⟨rfl, below_drewN (Below.refl _ _) _⟩
theorem there_any (p : Nat) (i : Int) (ao : Option Addr) (n cap : Nat) (w : World) (h3 : Var w p (.slice ao n cap)) : Calls Tryd.prog 34 #[ptr p, .int .i64 i] w fun e w' => ∃ c, e = .returned c ∧ Chk w' c (inE i n 100) ∧ Below w.heap.size w w' := by
  have hmf : ∀ (fn : Fn) (first cap : Array Value) (w : World), (Instr.makeFunc fn first cap).run Tryd.prog w = .ok (.func fn first cap) w := fun _ _ _ _ => rfl
  have HV := hid (two_vars w (ptr p) (.int .i64 i) 23 3)
  have H3 := hid h3
  clear h3
  go_enter Tryd.func34, Tryd.ntmps34
  go_wp2
  go_ret
  obtain ⟨b, v1, v2⟩ := HV.out
  exact ⟨_, rfl, ⟨_, _, rfl, enters_of Tryd.func61 (by kernel_rfl) rfl, fun W k => thereC _ _ p i ao n cap W (v2.below k) (v1.below k) ((H3.out.below b).below k)⟩, b⟩
/-! ### room -/
theorem roomC (q1 p : Nat) (ao : Option Addr) (n cap : Nat) (w : World) (h1 : Var w q1 (ptr p)) (h3 : Var w p (.slice ao n cap)) :
    Calls Tryd.prog 67 #[ptr q1] w fun e w' => e = .returned (.int .i64 (inE n 64 2)) ∧ Below w.heap.size w w' := by
  have c1 := h1.2
  have c3 := h3.2
  have hb : decide ((n : Int) < 64) = inB n 64 := by simp [inB]
  clear h1 h3
  unfold inE
  generalize inB n 64 = b at *
  go_enter Tryd.func67, Tryd.ntmps67
  go_wp2_with (go_at_call 62; refine Calls.mono (unless_any _ _ _) ?_; rintro e w' ⟨rfl, rfl⟩)
  go_ret
  exact ⟨rfl, Below.refl _ _⟩
theorem room_any (p : Nat) (ao : Option Addr) (n cap : Nat) (w : World) (h3 : Var w p (.slice ao n cap)) : Calls Tryd.prog 38 #[ptr p] w fun e w' => ∃ c, e = .returned c ∧ Chk w' c (inE n 64 2) ∧ Below w.heap.size w w' := by
  have hmf : ∀ (fn : Fn) (first cap : Array Value) (w : World), (Instr.makeFunc fn first cap).run Tryd.prog w = .ok (.func fn first cap) w := fun _ _ _ _ => rfl
  have H3 := hid h3
  have HV := hid (And.intro (below_new w (.cells #[ptr p] 23)) (Var.new w (ptr p) 23))
  clear h3
  go_enter Tryd.func38, Tryd.ntmps38
  go_wp2
  go_ret
  obtain ⟨b, v1⟩ := HV.out
  exact ⟨_, rfl, ⟨_, _, rfl, enters_of Tryd.func67 (by kernel_rfl) rfl, fun W k => roomC _ p ao n cap W (v1.below k) ((H3.out.below b).below k)⟩, b⟩
/-! ### some of them in a list -/
theorem first1 (w : World) (c1 : Value) (e1 : Int) (h1 : Chk w c1 e1) :
    Calls Tryd.prog 33 #[.slice (some ⟨w.heap.size, 0, none⟩) 1 1] (w.alloc (.cells #[c1] 73)) fun e w' => e = .returned (.int .i64 (firstE [e1])) ∧ Below w.heap.size w w' := by
  have b := below_new w (.cells #[c1] 73)
  have hb := blk_alloc_new w (.cells #[c1] 73)
  refine Calls.mono (firsts_any w.heap.size 1 [c1] [e1] _ rfl (by simp) (by simp) (fun k c hk => ?_) (fun k c e hk he hf => ?_)) fun e w' ⟨he, k⟩ => ⟨he, Below.then b k b.size⟩
  · simp only [World.cell?, hb]
    simpa using hk
  · match k, hk, he with
    | 0, hk, he =>
      obtain rfl : c1 = c := by simpa using hk
      obtain rfl : e1 = e := by simpa using he
      exact h1.below b
    | k + 1, hk, _ => simp at hk
theorem first2 (w : World) (c1 c2 : Value) (e1 e2 : Int) (h1 : Chk w c1 e1) (h2 : e1 = 0 → Chk w c2 e2) :
    Calls Tryd.prog 33 #[.slice (some ⟨w.heap.size, 0, none⟩) 2 2] (w.alloc (.cells #[c1, c2] 73)) fun e w' => e = .returned (.int .i64 (firstE [e1, e2])) ∧ Below w.heap.size w w' := by
  have b := below_new w (.cells #[c1, c2] 73)
  have hb := blk_alloc_new w (.cells #[c1, c2] 73)
  refine Calls.mono (firsts_any w.heap.size 2 [c1, c2] [e1, e2] _ rfl (by simp) (by simp) (fun k c hk => ?_) (fun k c e hk he hf => ?_)) fun e w' ⟨he, k⟩ => ⟨he, Below.then b k b.size⟩
  · simp only [World.cell?, hb]
    simpa using hk
  · match k, hk, he with
    | 0, hk, he =>
      obtain rfl : c1 = c := by simpa using hk
      obtain rfl : e1 = e := by simpa using he
      exact h1.below b
    | 1, hk, he =>
      obtain rfl : c2 = c := by simpa using hk
      obtain rfl : e2 = e := by simpa using he
      exact (h2 (by simpa using hf 0 (by omega))).below b
    | k + 2, hk, _ => simp at hk
theorem first3 (w : World) (c1 c2 c3 : Value) (e1 e2 e3 : Int) (h1 : Chk w c1 e1) (h2 : Chk w c2 e2) (h3 : Chk w c3 e3) :
    Calls Tryd.prog 33 #[.slice (some ⟨w.heap.size, 0, none⟩) 3 3] (w.alloc (.cells #[c1, c2, c3] 73)) fun e w' => e = .returned (.int .i64 (firstE [e1, e2, e3])) ∧ Below w.heap.size w w' := by
  have b := below_new w (.cells #[c1, c2, c3] 73)
  have hb := blk_alloc_new w (.cells #[c1, c2, c3] 73)
  refine Calls.mono (firsts_any w.heap.size 3 [c1, c2, c3] [e1, e2, e3] _ rfl (by simp) (by simp) (fun k c hk => ?_) (fun k c e hk he hf => ?_)) fun e w' ⟨he, k⟩ => ⟨he, Below.then b k b.size⟩
  · simp only [World.cell?, hb]
    simpa using hk
  · match k, hk, he with
    | 0, hk, he =>
      obtain rfl : c1 = c := by simpa using hk
      obtain rfl : e1 = e := by simpa using he
      exact h1.below b
    | 1, hk, he =>
      obtain rfl : c2 = c := by simpa using hk
      obtain rfl : e2 = e := by simpa using he
      exact h2.below b
    | 2, hk, he =>
      obtain rfl : c3 = c := by simpa using hk
      obtain rfl : e3 = e := by simpa using he
      exact h3.below b
    | k + 3, hk, _ => simp at hk
end Go.Proofs.YtchamgecalfmpaaDoor

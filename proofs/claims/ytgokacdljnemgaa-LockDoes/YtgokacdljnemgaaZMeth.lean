/-
  What has, stands, first, New, Enter, Probe, Leave and Holder of package lock answer, and leave, among things that lie apart; no condition.
-/
import Derived.Test.YtgokacdljnemgaaZFind
namespace Go.Proofs.Ytgokacdljnemgaa
open Go.RowKit Go.Deep Go.Shelf
theorem Var.lt {w : World} {q : Nat} {v : Value} (h : Var w q v) : q < w.heap.size := h.1
theorem heap_below {w w' : World} {p : Nat} {o : Obj} (h : w.heap[p]? = some o) (b : Below w.heap.size w w') : w'.heap[p]? = some o := (b.block p (Array.getElem?_eq_some_iff.1 h).1).trans h
section
variable {w0 w w' : World} {r p n : Nat} {L : St} {R : List Th} {C : Array Value} {t : Int} {a : Int → Int}
theorem has_any (hC : w.heap[p]? = some (objK C)) (lk : LkIs n L C t a) (c : Int) :
    Calls Try.prog 25 #[ptr p, .int .i64 c] w fun e w' => e = .returned (.bool (hasB n c)) ∧ w' = w := by
  have c0 := cellK hC lk.c0
  clear hC lk
  unfold hasB
  by_cases h : 0 ≤ c
  · have h1 : decide (0 ≤ c) = true := by simpa using h
    rw [h1]
    go_enter Try.func25, Try.ntmps25
    go_wp2
    go_ret
    exact ⟨by simp, rfl⟩
  · have h1 : decide (0 ≤ c) = false := by simpa using h
    rw [h1]
    go_enter Try.func25, Try.ntmps25
    go_wp2
    go_ret
    exact ⟨by simp, rfl⟩
theorem stands1_any {W : World} {q : Nat} (c x : Int) (h : Var W q (.int .i64 c)) :
    Calls Try.prog 33 #[.int .i64 x, ptr q] W fun e w' => e = .returned (.bool (x == c)) ∧ Below W.heap.size W w' := by
  have c1 := h.2
  clear h
  go_enter Try.func33, Try.ntmps33
  go_wp2
  go_ret
  exact ⟨rfl, Below.refl _ _⟩
theorem first1_any {W : World} {q c : Nat} (h : Var W q (ptr p)) (hC : W.heap[p]? = some (objK C)) (lk : LkIs n L C t a) (hc : c < 8) :
    Calls Try.prog 34 #[.int .i64 (c : Int), ptr q] W fun e w' => e = .returned (.bool (a (c : Int) == -1)) ∧ Below W.heap.size W w' := by
  have c1 := h.2
  have c2 := cellK hC (lk.ca c hc)
  have hcz : (c : Int) < 8 := by omega
  clear h hC lk
  generalize a (c : Int) = z at *
  go_enter Try.func34, Try.ntmps34
  go_wp2
  go_ret
  exact ⟨rfl, Below.refl _ _⟩
theorem leave1_any {W : World} {q q2 c : Nat} {k : Int} (h : Var W q (ptr p)) (h2 : Var W q2 (.int .i64 k)) (hC : W.heap[p]? = some (objK C)) (lk : LkIs n L C t a) (hc : c < 8) :
    Calls Try.prog 29 #[.int .i64 (c : Int), ptr q, ptr q2] W fun e w' => e = .returned (.bool (a (c : Int) == k)) ∧ Below W.heap.size W w' := by
  have c1 := h.2
  have c3 := h2.2
  have c2 := cellK hC (lk.ca c hc)
  have hcz : (c : Int) < 8 := by omega
  clear h hC lk h2
  generalize a (c : Int) = z at *
  go_enter Try.func29, Try.ntmps29
  go_wp2_with fail
  go_quiet (fail)
  go_wp2
  go_ret
  exact ⟨rfl, below_drewN (Below.refl _ _) _⟩
/-- What a question along the line gives, that only reads. -/
theorem find_read {q : Int → Bool} {g : FuncId} {lb : Array Value} (eg : ∀ args w, (callFunc g args).run Try.prog w = .ok (.enter g args) w) (hC : w.heap[p]? = some (objK C)) (lk : LkIs n L C t a)
    (hc : ∀ (c : Nat) W, c < 8 → Below w.heap.size w W → Calls Try.prog g (#[.int .i64 (c : Int)] ++ lb) W fun e W' => e = .returned (.bool (q (c : Int))) ∧ Below W.heap.size W W') :
    Calls Try.prog 28 #[ptr p, .func (.func g) #[] lb] w fun e w' => e = .returned (.int .i64 (findI q L.reverse)) ∧ Below w.heap.size w w' := by
  refine find_any g lb eg q (fun _ W => Below w.heap.size w W) lk (fun _ W h => heap_below hC h) (fun k x W hx hW => ?_) (Below.refl _ _)
  have hm := lk.good.all x (List.mem_reverse.1 (List.mem_of_getElem? hx))
  have ht := lk.good.top
  obtain ⟨c, rfl⟩ : ∃ c : Nat, x = (c : Int) := ⟨x.toNat, by omega⟩
  exact (hc c W (by omega) hW).mono fun _ _ ⟨he, b⟩ => ⟨he, Below.then hW b hW.size⟩
theorem stands_any (hC : w.heap[p]? = some (objK C)) (lk : LkIs n L C t a) (c : Int) :
    Calls Try.prog 26 #[ptr p, .int .i64 c] w fun e w' => e = .returned (.bool (inB L c)) ∧ Below w.heap.size w w' := by
  have b1 := below_new w (.cells #[.int .i64 c] 3)
  have v1 := Var.new w (.int .i64 c) 3
  have hf := find_read (q := fun x => x == c) (g := 33) (lb := #[ptr w.heap.size]) (fun _ _ => by kernel_rfl) (heap_below hC b1) lk fun k W _ hW => stands1_any c (k : Int) (v1.below hW)
  have he := find_in (M := L.reverse) (fun x hx => (lk.good.all x (List.mem_reverse.1 hx)).1) c
  have hin : inB L c = L.reverse.contains c := by
    unfold inB
    rw [List.contains_reverse]
  rw [hin, ← he]
  have HF := hid hf
  have B1 := hid b1
  clear hf hC lk b1 v1 he hin
  generalize findI (fun x => x == c) L.reverse = z at *
  go_enter Try.func26, Try.ntmps26
  go_wp2_with (go_at_call 28; refine Calls.mono HF.out ?_; rintro e w2 ⟨rfl, b2⟩)
  go_ret
  exact ⟨rfl, Below.then B1.out b2 B1.out.size⟩
theorem first_any (hC : w.heap[p]? = some (objK C)) (lk : LkIs n L C t a) :
    Calls Try.prog 27 #[ptr p] w fun e w' => e = .returned (.int .i64 (firstI L)) ∧ Below w.heap.size w w' := by
  have b1 := below_new w (.cells #[ptr p] 23)
  have v1 := Var.new w (ptr p) 23
  have hf := find_read (q := fun x => a x == -1) (g := 34) (lb := #[ptr w.heap.size]) (fun _ _ => by kernel_rfl) (heap_below hC b1) lk fun k W hk hW => first1_any (v1.below hW) (heap_below (heap_below hC b1) hW) lk hk
  have he := chain_first lk.chain fun x hx => (lk.good.all x (List.mem_reverse.1 hx)).1
  rw [List.reverse_reverse] at he
  rw [he] at hf
  have HF := hid hf
  have B1 := hid b1
  have c1 := v1.2
  clear hf hC lk b1 v1 he
  generalize firstI L = z at *
  go_enter Try.func27, Try.ntmps27
  go_wp2_with (go_at_call 28; refine Calls.mono HF.out ?_; rintro e w2 ⟨rfl, b2⟩)
  go_ret
  exact ⟨rfl, Below.then B1.out b2 B1.out.size⟩
end
end Go.Proofs.Ytgokacdljnemgaa

/-
  Closures of package endpoint that say yes or no of one that waits; what the library's IndexFunc and ContainsFunc answer of them, and has and there; no condition but that rows are short.
-/
import Derived.Test.YtddeiglcbnemfaaJBase
namespace Go.Proofs.Ytddeiglcbnemfaa
open Go.RowKit Go.Deep Go.Shelf

/-- The function value c says p of one that waits, whatever new blocks there are, and lays new blocks alone. -/
def Clo (w : World) (c : Value) (p : Wt → Bool) : Prop := ∃ g lb, c = .func (.func g) #[] lb ∧ (∀ args w, (callFunc g args).run Try.prog w = .ok (.enter g args) w) ∧ ∀ W x, Below w.heap.size w W → Calls Try.prog g (#[encW x] ++ lb) W fun e w' => e = .returned (.bool (p x)) ∧ Below W.heap.size W w'
theorem Clo.below {w w' : World} {c : Value} {p : Wt → Bool} (h : Clo w c p) (b : Below w.heap.size w w') : Clo w' c p := by
  obtain ⟨g, lb, e1, e2, h3⟩ := h
  exact ⟨g, lb, e1, e2, fun W x k => h3 W x (Below.then b k b.size)⟩
theorem Clo.form {w : World} {c : Value} {p : Wt → Bool} (h : Clo w c p) : ∃ g lb, c = .func (.func g) #[] lb := by
  obtain ⟨g, lb, e1, _⟩ := h
  exact ⟨g, lb, e1⟩
theorem isW_any (q : Nat) (n : Int) (x : Wt) (w : World) (h : Var w q (.int .i64 n)) :
    Calls Try.prog 27 #[encW x, ptr q] w fun e w' => e = .returned (.bool (isW n x)) ∧ Below w.heap.size w w' := by
  have b1 := below_new w (objW x)
  have c1 := (h.below b1).2
  obtain ⟨d0, -⟩ := (atW_of (blk_alloc_new w (objW x))).cells
  have B := hid b1
  clear b1 h
  unfold isW
  by_cases e : x.n = n
  · have he : (x.n == n) = true := by simpa using e
    have hd : decide (x.n = n) = true := by simpa using e
    rw [hd]
    clear e hd
    simp only [objW, encW] at *
    go_enter Try.func27, Try.ntmps27
    go_wp2
    go_ret
    exact ⟨rfl, B.out⟩
  · have he : (x.n == n) = false := by simpa using e
    have hd : decide (x.n = n) = false := by simpa using e
    rw [hd]
    clear e hd
    simp only [objW, encW] at *
    go_enter Try.func27, Try.ntmps27
    go_wp2
    go_ret
    exact ⟨rfl, B.out⟩
theorem isG_any (q : Nat) (n : Int) (x : Wt) (w : World) (h : Var w q (.int .u64 n)) :
    Calls Try.prog 23 #[encW x, ptr q] w fun e w' => e = .returned (.bool (isG n x)) ∧ Below w.heap.size w w' := by
  obtain ⟨n', s, m⟩ := x
  cases s with
  | false =>
    have b1 := below_new w (objW ⟨n', false, m⟩)
    obtain ⟨-, d1, -⟩ := (atW_of (blk_alloc_new w (objW ⟨n', false, m⟩))).cells
    have B := hid b1
    clear b1 h
    simp only [objW, encW, isG, Bool.false_and] at *
    go_enter Try.func23, Try.ntmps23
    go_wp2
    go_ret
    exact ⟨rfl, B.out⟩
  | true =>
    have b1 := below_new w (objW ⟨n', true, m⟩)
    have c1 := (h.below b1).2
    obtain ⟨-, d1, -, -, -, -, -, d7, -⟩ := (atW_of (blk_alloc_new w (objW ⟨n', true, m⟩))).cells
    have B := hid b1
    have hb : isG n ⟨n', true, m⟩ = (m.g == n) := by
      simp only [isG, Bool.true_and]
      by_cases e : m.g = n <;> simp [e]
    rw [hb]
    clear b1 h hb
    simp only [objW, encW] at *
    go_enter Try.func23, Try.ntmps23
    go_wp2
    go_ret
    exact ⟨rfl, B.out⟩
theorem named_any (n : Int) (w : World) : Calls Try.prog 22 #[.int .i64 n] w fun e w' => ∃ c, e = .returned c ∧ Clo w' c (isW n) ∧ Below w.heap.size w w' := by
  have hmf : ∀ (fn : Fn) (first cap : Array Value) (w : World), (Instr.makeFunc fn first cap).run Try.prog w = .ok (.func fn first cap) w := fun _ _ _ _ => rfl
  have HV := hid (And.intro (below_new w (.cells #[.int .i64 n] 3)) (Var.new w (.int .i64 n) 3))
  go_enter Try.func22, Try.ntmps22
  go_wp2
  go_ret
  exact ⟨_, rfl, ⟨_, _, rfl, enters_of Try.func27 (by kernel_rfl) rfl, fun W x k => isW_any w.heap.size n x W (HV.out.2.below k)⟩, HV.out.1⟩

/-! ### IndexFunc, ContainsFunc -/
def idx (p : Wt → Bool) (Z : St) : Int := if Z.findIdx p < Z.length then ((Z.findIdx p : Nat) : Int) else -1
theorem idx_hit {p : Wt → Bool} {Z : St} {k : Nat} {x : Wt} (hk : Z[k]? = some x) (h : p x = true) (ha : ∀ j y, j < k → Z[j]? = some y → p y = false) : idx p Z = (k : Int) := by
  obtain ⟨hl, e⟩ := List.getElem?_eq_some_iff.1 hk
  have : Z.findIdx p = k := by
    rw [List.findIdx_eq hl]
    exact ⟨by rw [e]; exact h, fun j hj => ha j _ hj (List.getElem?_eq_getElem (by omega))⟩
  unfold idx
  rw [this, if_pos hl]
theorem idx_miss {p : Wt → Bool} {Z : St} (ha : ∀ (j : Nat) (y : Wt), Z[j]? = some y → p y = false) : idx p Z = -1 := by
  unfold idx
  rw [if_neg]
  rw [List.findIdx_lt_length]
  rintro ⟨x, hx, hn⟩
  obtain ⟨j, hj, e⟩ := List.mem_iff_getElem.1 hx
  have := ha j x (by rw [List.getElem?_eq_getElem hj, e])
  rw [hn] at this
  cases this
theorem idx_any (p : Wt → Bool) (Z : St) : decide (0 ≤ idx p Z) = Z.any p := by
  unfold idx
  by_cases h : Z.findIdx p < Z.length
  · rw [if_pos h]
    obtain ⟨x, hx, e⟩ := List.findIdx_lt_length.1 h
    have : Z.any p = true := List.any_eq_true.2 ⟨x, hx, e⟩
    rw [this]
    simp
  · rw [if_neg h]
    have : Z.any p = false := by
      cases hz : Z.any p
      · rfl
      · obtain ⟨x, hx, e⟩ := List.any_eq_true.1 hz
        exact absurd (List.findIdx_lt_length.2 ⟨x, hx, e⟩) h
    rw [this]
    simp
set_option maxHeartbeats 2000000 in
theorem index_any (c : Value) (p : Wt → Bool) (v : Value) (Z : St) (w : World) (hp : Clo w c p) (hz : RowW w v Z) (hl : Z.length ≤ 1000) :
    Calls Try.prog 28 #[v, c] w fun e w' => e = .returned (.int .i64 (idx p Z)) ∧ Below w.heap.size w w' := by
  obtain ⟨g, lb, rfl, eg, hc⟩ := hp
  obtain ⟨ao, cap, rfl, -, -, hg, -⟩ := hz.slice
  have HZ := hid hz
  have HP := hid hc
  have HG := hid hg
  clear hz hc hg
  generalize hN : Z.length = N at *
  have HN := hid hN
  clear hN
  go_enter Try.func28, Try.ntmps28
  go_wp2
  go_loopw [5, 8] (fun _ s8 wr => ∃ kk : Nat, kk ≤ N ∧ s8 = .int .i64 kk ∧ Below w.heap.size w wr ∧ Hid (∀ j y, j < kk → Z[j]? = some y → p y = false)) (fun _ s8 _ => N - (intOf s8).toNat)
  case atStart => exact ⟨0, Nat.zero_le _, rfl, Below.refl _ w, fun j y hj => absurd hj (Nat.not_lt_zero _)⟩
  case round =>
    obtain ⟨kk, hkk, rfl, BW, A⟩ := hrel
    have HB := hid BW
    by_cases hlt : kk < N
    · have hltz : (kk : Int) < (N : Int) := by omega
      obtain ⟨b, rfl⟩ := HG.out kk hlt
      have hk1 : kk < Z.length := by have := HN.out; omega
      have HX := hid (List.getElem?_eq_getElem hk1)
      obtain ⟨c0, c1, c2, c3, c4, c5, c6, c7, c8⟩ := (RowW.at (HZ.out.below BW) HX.out).cells
      have hcall := HP.out wr Z[kk] BW
      have HL := hid hlt
      clear hlt BW
      generalize Z[kk] = y at *
      clear hk1
      simp only [encW] at hcall
      cases hq : p y with
      | true =>
        rw [hq] at hcall
        have HR := hid (idx_hit HX.out hq A.out)
        go_wp2_with (go_at_fn g; refine hcall.mono ?_; rintro e w' ⟨rfl, hb'⟩)
        go_ret
        exact ⟨ret_int HR.out.symm, Below.then HB.out hb' HB.out.size⟩
      | false =>
        rw [hq] at hcall
        have HQ := hid hq
        clear hq
        go_wp2_with (go_at_fn g; refine hcall.mono ?_; rintro e w' ⟨rfl, hb'⟩)
        go_roundw
        case rel =>
          refine ⟨kk + 1, by have := HL.out; omega, by go_num, Below.then HB.out hb' HB.out.size, fun j z hj hz => ?_⟩
          by_cases e : j = kk
          · subst e
            rw [HX.out] at hz
            cases hz
            exact HQ.out
          · exact A.out j z (by omega) hz
        case measure => simp [intOf]; have := HL.out; omega
    · have hltz : ¬ (kk : Int) < (N : Int) := by omega
      have HE := hid (idx_miss (p := p) (Z := Z) fun j y hj => A.out j y (by have := (List.getElem?_eq_some_iff.1 hj).1; have := HN.out; omega) hj)
      clear hlt hkk A BW
      go_wp2
      go_ret
      exact ⟨ret_int HE.out.symm, HB.out⟩
theorem contains_any (c : Value) (p : Wt → Bool) (v : Value) (Z : St) (w : World) (hp : Clo w c p) (hz : RowW w v Z) (hl : Z.length ≤ 1000) :
    Calls Try.prog 26 #[v, c] w fun e w' => e = .returned (.bool (Z.any p)) ∧ Below w.heap.size w w' := by
  have HI := hid (index_any c p v Z w hp hz hl)
  have hd := idx_any p Z
  obtain ⟨ao, cap, rfl, -, -, -, -⟩ := hz.slice
  obtain ⟨g, lb, rfl⟩ := hp.form
  clear hp hz
  generalize Z.length = N at *
  generalize idx p Z = z at *
  generalize Z.any p = b at *
  go_enter Try.func26, Try.ntmps26
  go_wp2_with (go_at_call 28; refine Calls.mono HI.out ?_; rintro e w' ⟨rfl, hb⟩)
  go_ret
  exact ⟨rfl, hb⟩

/-! ### has, there -/
theorem has_any (p : Nat) (v : Value) (S : St) (b : Bool) (w : World) (h : EpH p v S w) :
    Calls Try.prog 25 #[ptr p, .bool b] w fun e w' => e = .returned (.bool (hasB S b)) ∧ w' = w := by
  have c0 := h.cell
  obtain ⟨ao, cap, rfl, -, -, hg, -⟩ := h.row.slice
  rcases S with _ | ⟨x, S⟩
  · clear h hg
    simp only [List.length_nil, hasB] at *
    go_enter Try.func25, Try.ntmps25
    go_wp2
    go_ret
    exact ⟨rfl, rfl⟩
  · obtain ⟨g, rfl⟩ := hg 0 (by simp)
    obtain ⟨-, d1, -⟩ := (RowW.at h.row (i := 0) (x := x) rfl).cells
    simp only [Nat.zero_mul, Nat.zero_add] at d1
    clear h hg
    simp only [hasB] at *
    generalize hn : (x :: S).length = n at *
    have hn0 : 0 < n := by rw [← hn]; simp
    have hnz : (0 : Int) < (n : Int) := by omega
    clear hn
    go_enter Try.func25, Try.ntmps25
    go_wp2
    go_ret
    exact ⟨rfl, rfl⟩
end Go.Proofs.Ytddeiglcbnemfaa

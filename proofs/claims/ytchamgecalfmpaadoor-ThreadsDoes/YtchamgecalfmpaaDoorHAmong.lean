/-
  What among of package threads answers: a check whether a thread's state is one of some; no condition but that the thread is there.
-/
import Derived.Test.YtchamgecalfmpaaDoorHChks
namespace Go.Proofs.YtchamgecalfmpaaDoor
open Go.RowKit Go.Deep Go.Shelf

theorem Chk.form {w : World} {c : Value} {e : Int} (h : Chk w c e) : ∃ g lb, c = .func (.func g) #[] lb := by
  obtain ⟨g, lb, e1, _⟩ := h
  exact ⟨g, lb, e1⟩
def idxI (L : List Int) (n : Int) : Int := if L.findIdx (· == n) < L.length then ((L.findIdx (· == n) : Nat) : Int) else -1
theorem idxI_hit {L : List Int} {n : Int} {k : Nat} (hk : L[k]? = some n) (ha : ∀ j, j < k → L[j]? ≠ some n) : idxI L n = (k : Int) := by
  obtain ⟨hl, e⟩ := List.getElem?_eq_some_iff.1 hk
  have : L.findIdx (· == n) = k := by
    rw [List.findIdx_eq hl]
    refine ⟨by simpa using e, fun j hj => ?_⟩
    have := ha j hj
    rw [List.getElem?_eq_getElem (by omega)] at this
    simpa using this
  unfold idxI
  rw [this, if_pos hl]
theorem idxI_miss {L : List Int} {n : Int} (ha : ∀ j, j < L.length → L[j]? ≠ some n) : idxI L n = -1 := by
  unfold idxI
  rw [if_neg]
  rw [List.findIdx_lt_length]
  rintro ⟨x, hx, hn⟩
  obtain ⟨j, hj, e⟩ := List.mem_iff_getElem.1 hx
  refine ha j hj ?_
  rw [List.getElem?_eq_getElem hj, e]
  simpa using hn
theorem idxI_mem (L : List Int) (n : Int) : decide (0 ≤ idxI L n) = L.contains n := by
  unfold idxI
  by_cases h : L.findIdx (· == n) < L.length
  · rw [if_pos h]
    have := List.findIdx_lt_length.1 h
    obtain ⟨x, hx, e⟩ := this
    have e' : x = n := by simpa using e
    have : n ∈ L := e' ▸ hx
    simp [this]
  · rw [if_neg h]
    have : n ∉ L := fun hm => h (List.findIdx_lt_length.2 ⟨n, hm, by simp⟩)
    simp [this]
set_option maxHeartbeats 1000000 in
theorem indexI_any (g cap : Nat) (L : List Int) (n : Int) (w : World) (hc : ∀ k x, L[k]? = some x → w.cell? ⟨g, k, none⟩ = some (.int .i64 x)) (hl : L.length ≤ 1000) :
    Calls Tryd.prog 77 #[.slice (some ⟨g, 0, none⟩) L.length cap, .int .i64 n] w fun e w' => e = .returned (.int .i64 (idxI L n)) ∧ w' = w := by
  have HC := hid hc
  clear hc
  generalize hm : L.length = m at *
  go_enter Tryd.func77, Tryd.ntmps77
  go_wp2
  go_loop [5, 8] (fun _ s8 => ∃ k : Nat, k ≤ m ∧ s8 = .int .i64 k ∧ Hid (∀ j, j < k → L[j]? ≠ some n)) (fun _ s8 => m - (intOf s8).toNat)
  case atStart => exact ⟨0, Nat.zero_le _, rfl, fun j hj => by omega⟩
  case round =>
    obtain ⟨k, hk, rfl, HJ⟩ := hrel
    by_cases hlt : k < m
    · have hkl : k < L.length := by omega
      have hx := HC.out k _ (List.getElem?_eq_getElem hkl)
      have HX := hid (List.getElem?_eq_getElem hkl)
      generalize L[k] = x at *
      have hltz : (k : Int) < (m : Int) := by omega
      by_cases e : n = x
      · subst e
        have HR := hid (idxI_hit HX.out HJ.out)
        go_wp2
        go_ret
        exact ⟨ret_int HR.out.symm, rfl⟩
      · have hne : (n == x) = false := by simpa using e
        have HN := hid e
        clear e
        go_wp2
        go_round
        case rel => exact ⟨k + 1, by omega, by go_num, fun j hj hj2 => by
          by_cases ej : j = k
          · subst ej
            rw [HX.out] at hj2
            exact HN.out (Option.some.inj hj2).symm
          · exact HJ.out j (by omega) hj2⟩
        case measure => simp [intOf]; omega
    · obtain rfl : k = m := by omega
      have HR := hid (idxI_miss (by rw [hm]; exact HJ.out))
      go_wp2
      go_ret
      exact ⟨ret_int HR.out.symm, rfl⟩
theorem contains_any (g cap : Nat) (L : List Int) (n : Int) (w : World) (hc : ∀ k x, L[k]? = some x → w.cell? ⟨g, k, none⟩ = some (.int .i64 x)) (hl : L.length ≤ 1000) :
    Calls Tryd.prog 64 #[.slice (some ⟨g, 0, none⟩) L.length cap, .int .i64 n] w fun e w' => e = .returned (.bool (L.contains n)) ∧ w' = w := by
  have HI := hid (indexI_any g cap L n w hc hl)
  have hd := idxI_mem L n
  clear hc
  generalize idxI L n = z at *
  generalize L.contains n = b at *
  go_enter Tryd.func64, Tryd.ntmps64
  go_wp2_with (go_at_call 77; refine Calls.mono HI.out ?_; rintro e w' ⟨rfl, rfl⟩)
  go_ret
  exact ⟨rfl, rfl⟩
theorem three_vars (w : World) (v1 v2 v3 : Value) (t1 t2 t3 : TypeId) : Below w.heap.size w (((w.alloc (.cells #[v1] t1)).alloc (.cells #[v2] t2)).alloc (.cells #[v3] t3)) ∧ Var (((w.alloc (.cells #[v1] t1)).alloc (.cells #[v2] t2)).alloc (.cells #[v3] t3)) w.heap.size v1 ∧ Var (((w.alloc (.cells #[v1] t1)).alloc (.cells #[v2] t2)).alloc (.cells #[v3] t3)) (w.heap.size + 1) v2 ∧ Var (((w.alloc (.cells #[v1] t1)).alloc (.cells #[v2] t2)).alloc (.cells #[v3] t3)) (w.heap.size + 1 + 1) v3 := by
  obtain ⟨b, h1, h2⟩ := two_vars w v1 v2 t1 t2
  refine ⟨Below.then b (below_new _ _) b.size, h1.below (below_new _ _), h2.below (below_new _ _), ?_⟩
  have := Var.new ((w.alloc (.cells #[v1] t1)).alloc (.cells #[v2] t2)) v3 t3
  simpa using this
set_option maxHeartbeats 1000000 in
theorem amongC (q0 q1 q2 p g cap n gs i : Nat) (st : Int) (sts : List Int) (w : World) (h0 : Var w q0 (.slice (some ⟨gs, 0, none⟩) sts.length sts.length)) (h1 : Var w q1 (ptr p)) (h2 : Var w q2 (.int .i64 i)) (h3 : Var w p (.slice (some ⟨g, 0, none⟩) n cap)) (hi : i < n)
    (h4 : w.cell? ⟨g, i * 12, none⟩ = some (.int .i64 st)) (h5 : ∀ k x, sts[k]? = some x → w.cell? ⟨gs, k, none⟩ = some (.int .i64 x)) (hl : sts.length ≤ 1000) :
    Calls Tryd.prog 63 #[ptr q0, ptr q1, ptr q2] w fun e w' => e = .returned (.int .i64 (unE (sts.contains st) 101)) ∧ Below w.heap.size w w' := by
  have c0 := h0.2
  have c1 := h1.2
  have c2 := h2.2
  have c3 := h3.2
  have H5 := hid (fun (nq : Nat) => contains_any gs sts.length sts st (w.drewN nq) h5 hl)
  have hiz : (i : Int) < (n : Int) := by omega
  clear h0 h1 h2 h3 h5
  generalize sts.contains st = b at *
  generalize sts.length = m at *
  go_enter Tryd.func63, Tryd.ntmps63
  go_wp2_with fail
  go_quiet ((first | (go_at_call 64; exact Calls.quiet_of_same (H5.out _)) | (go_at_call 62; exact Calls.quiet_of_same (unless_any _ _ _))))
  go_wp2
  go_ret
  exact ⟨rfl, below_drewN (Below.refl _ _) _⟩
theorem among_any (p g cap n gs i : Nat) (st : Int) (sts : List Int) (w : World) (h3 : Var w p (.slice (some ⟨g, 0, none⟩) n cap)) (hi : i < n) (hg : g < w.heap.size) (hgs : gs < w.heap.size)
    (h4 : w.cell? ⟨g, i * 12, none⟩ = some (.int .i64 st)) (h5 : ∀ k x, sts[k]? = some x → w.cell? ⟨gs, k, none⟩ = some (.int .i64 x)) (hl : sts.length ≤ 1000) :
    Calls Tryd.prog 35 #[ptr p, .int .i64 i, .slice (some ⟨gs, 0, none⟩) sts.length sts.length] w fun e w' => ∃ c, e = .returned c ∧ Chk w' c (unE (sts.contains st) 101) ∧ Below w.heap.size w w' := by
  have hmf : ∀ (fn : Fn) (first cap : Array Value) (w : World), (Instr.makeFunc fn first cap).run Tryd.prog w = .ok (.func fn first cap) w := fun _ _ _ _ => rfl
  have H3 := hid h3
  have H4 := hid h4
  have H5 := hid h5
  have HG := hid (And.intro hg hgs)
  have HV := hid (three_vars w (ptr p) (.int .i64 i) (.slice (some ⟨gs, 0, none⟩) sts.length sts.length) 23 3 50)
  clear h3 h4 h5 hg hgs
  go_enter Tryd.func35, Tryd.ntmps35
  go_wp2
  go_ret
  obtain ⟨b, v1, v2, v3⟩ := HV.out
  refine ⟨_, rfl, ⟨_, _, rfl, enters_of Tryd.func63 (by kernel_rfl) rfl, fun W k => ?_⟩, b⟩
  have k2 := Below.then b k b.size
  exact amongC _ _ _ p g cap n gs i st sts W (v3.below k) (v1.below k) (v2.below k) (H3.out.below k2) hi ((k2.cell (p := ⟨g, i * 12, none⟩) HG.out.1).trans H4.out) (fun j x hx => (k2.cell (p := ⟨gs, j, none⟩) HG.out.2).trans (H5.out j x hx)) hl
/-- It is made, whatever it is asked. -/
theorem among_raw (p : Nat) (i : Int) (ao : Option Addr) (n cap : Nat) (w : World) : Calls Tryd.prog 35 #[ptr p, .int .i64 i, .slice ao n cap] w fun e w' => ∃ g lb, e = .returned (.func (.func g) #[] lb) ∧ Below w.heap.size w w' := by
  have hmf : ∀ (fn : Fn) (first cap : Array Value) (w : World), (Instr.makeFunc fn first cap).run Tryd.prog w = .ok (.func fn first cap) w := fun _ _ _ _ => rfl
  have HV := hid (three_vars w (ptr p) (.int .i64 i) (.slice ao n cap) 23 3 50)
  go_enter Tryd.func35, Tryd.ntmps35
  go_wp2
  go_ret
  exact ⟨_, _, rfl, HV.out.1⟩
end Go.Proofs.YtchamgecalfmpaaDoor

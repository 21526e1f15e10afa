/-
  What find of package lock does: it asks along the chain, from who entered last on, until one is said yes of; no condition.
-/
import Derived.Test.YtgokacdljnemgaaZBase
namespace Go.Proofs.Ytgokacdljnemgaa
open Go.RowKit Go.Deep Go.Shelf
theorem idx_at {M : St} (hn : M.Nodup) {k : Nat} {x : Int} (hk : M[k]? = some x) : M.findIdx (fun y => y == x) = k := by
  obtain ⟨hl, e⟩ := List.getElem?_eq_some_iff.1 hk
  rw [List.findIdx_eq hl]
  refine ⟨by simp [e], fun j hj => ?_⟩
  have := List.pairwise_iff_getElem.1 hn j k (by omega) hl hj
  rw [e] at this
  simpa using this
theorem idx_none {M : St} (hp : ∀ x ∈ M, 0 ≤ x) : M.findIdx (fun y => y == (-1 : Int)) = M.length := by
  rw [List.findIdx_eq_length]
  intro x hx
  have := hp x hx
  simp
  omega
theorem Chain.at {a : Int → Int} : ∀ {M : St} {t : Int} {k : Nat} {x : Int}, Chain a t (M.drop k) → M[k]? = some x → t = x ∧ Chain a (a x) (M.drop (k + 1))
  | M, t, k, x, h, hx => by
    obtain ⟨hl, e⟩ := List.getElem?_eq_some_iff.1 hx
    rw [List.drop_eq_getElem_cons hl, e] at h
    exact h
theorem find_hit {q : Int → Bool} {M : St} {k : Nat} {x : Int} (hk : M[k]? = some x) (hq : q x = true) (hb : ∀ j y, j < k → M[j]? = some y → q y = false) : findI q M = x ∧ askN q M = k + 1 := by
  obtain ⟨hl, e⟩ := List.getElem?_eq_some_iff.1 hk
  have h1 : M.findIdx q = k := by
    rw [List.findIdx_eq hl]
    exact ⟨by rw [e]; exact hq, fun j hj => hb j _ hj (List.getElem?_eq_getElem (by omega))⟩
  refine ⟨?_, ?_⟩
  · unfold findI
    have : M.find? q = some x := by
      rw [List.find?_eq_some_iff_getElem]
      exact ⟨hq, k, hl, e, fun j hj => by rw [hb j M[j] hj (List.getElem?_eq_getElem (by omega))]; rfl⟩
    rw [this]
    rfl
  · unfold askN
    rw [h1]
    omega
theorem find_miss {q : Int → Bool} {M : St} (hb : ∀ (j : Nat) (y : Int), M[j]? = some y → q y = false) : findI q M = -1 ∧ askN q M = M.length := by
  have h : ∀ x ∈ M, q x = false := fun x hx => by
    obtain ⟨j, hj, e⟩ := List.mem_iff_getElem.1 hx
    exact hb j x (by rw [List.getElem?_eq_getElem hj, e])
  refine ⟨?_, ?_⟩
  · unfold findI
    have : M.find? q = none := by
      rw [List.find?_eq_none]
      intro x hx
      rw [h x hx]
      simp
    rw [this]
    rfl
  · unfold askN
    have : M.findIdx q = M.length := by
      rw [List.findIdx_eq_length]
      exact h
    omega
set_option maxHeartbeats 4000000 in
theorem find_any {w : World} {p n : Nat} {L : St} {C : Array Value} {t : Int} {a : Int → Int} (g : FuncId) (lb : Array Value) (eg : ∀ args w, (callFunc g args).run Try.prog w = .ok (.enter g args) w) (q : Int → Bool) (I : Nat → World → Prop)
    (lk : LkIs n L C t a) (hI : ∀ k W, I k W → W.heap[p]? = some (objK C)) (hc : ∀ k x W, L.reverse[k]? = some x → I k W → Calls Try.prog g (#[.int .i64 x] ++ lb) W fun e W' => e = .returned (.bool (q x)) ∧ I (k + 1) W') (h0 : I 0 w) :
    Calls Try.prog 28 #[ptr p, .func (.func g) #[] lb] w fun e w' => e = .returned (.int .i64 (findI q L.reverse)) ∧ I (askN q L.reverse) w' := by
  obtain ⟨M, hM⟩ : ∃ M, L.reverse = M := ⟨_, rfl⟩
  have hn : M.Nodup := by rw [← hM]; exact nodup_rev lk.good.one
  have hp : ∀ x ∈ M, 0 ≤ x ∧ x < (n : Int) := fun x hx => lk.good.all x (by rw [← hM] at hx; exact List.mem_reverse.1 hx)
  have hchain : Chain a t M := by rw [← hM]; exact lk.chain
  have htop := lk.good.top
  rw [hM] at hc ⊢
  have HI := hid hI
  have HC := hid hc
  have HN := hid hn
  have HP := hid hp
  have LK := hid lk
  have H0 := hid h0
  have HCh := hid hchain
  have c1 := cellK (hI 0 w h0) lk.c1
  clear hI hc hn hp h0 hM lk hchain
  go_enter Try.func28, Try.ntmps28
  go_wp2_with fail
  go_loopw [5] (fun s5 wr => ∃ (k : Nat) (z : Int), k ≤ M.length ∧ s5 = .int .i64 z ∧ Chain a z (M.drop k) ∧ I k wr ∧ Hid (∀ j y, j < k → M[j]? = some y → q y = false)) (fun s5 _ => M.length - M.findIdx (fun y => y == intOf s5))
  case atStart => exact ⟨0, t, Nat.zero_le _, rfl, HCh.out, H0.out, fun j y hj => absurd hj (Nat.not_lt_zero _)⟩
  case round =>
    clear c1 H0 HCh
    obtain ⟨k, z, hk, rfl, hz, hik, HB⟩ := hrel
    by_cases hlt : k < M.length
    · have hx := List.getElem?_eq_getElem hlt
      generalize M[k] = x at *
      obtain ⟨rfl, hz2⟩ := hz.at hx
      have hx0 := HP.out z (List.mem_of_getElem? hx)
      obtain ⟨c, rfl⟩ : ∃ c : Nat, z = (c : Int) := ⟨z.toNat, by omega⟩
      have hc8 : c < 8 := by omega
      have hcall := HC.out k (c : Int) wr hx hik
      have HX := hid hx
      have HZ := hid hz2
      have hne : ((c : Int) == (-1 : Int)) = false := beq_eq_false_iff_ne.2 (by omega)
      have hne2 : ((c : Int) != (-1 : Int)) = true := by rw [bne, hne]; rfl
      clear hx hz2 hz hik hlt hx0
      cases hq : q (c : Int) with
      | true =>
        rw [hq] at hcall
        have HR := hid (find_hit HX.out hq HB.out)
        clear hq
        go_wp2_with (go_at_fn g; refine hcall.mono ?_; rintro e w' ⟨rfl, hi'⟩)
        go_ret
        exact ⟨ret_int HR.out.1.symm, by rw [HR.out.2]; exact hi'⟩
      | false =>
        rw [hq] at hcall
        have HQ := hid hq
        clear hq
        have hcz : (c : Int) < 8 := by omega
        go_wp2_with (go_at_fn g; refine hcall.mono ?_; rintro e w' ⟨rfl, hi'⟩; have cc := cellK (HI.out _ _ hi') (LK.out.ca c hc8))
        go_roundw
        case rel =>
          refine ⟨k + 1, _, by have := (List.getElem?_eq_some_iff.1 HX.out).1; omega, rfl, HZ.out, hi', fun j y hj hy => ?_⟩
          by_cases e : j = k
          · subst e
            rw [HX.out] at hy
            cases hy
            exact HQ.out
          · exact HB.out j y (by omega) hy
        case measure =>
          have hl := (List.getElem?_eq_some_iff.1 HX.out).1
          have e1 := idx_at HN.out HX.out
          simp only [intOf]
          rw [e1]
          by_cases hk1 : k + 1 < M.length
          · have e2 := List.getElem?_eq_getElem hk1
            have e3 := (HZ.out.at e2).1
            rw [idx_at HN.out (e3 ▸ e2)]
            omega
          · have : M.drop (k + 1) = [] := List.drop_of_length_le (by omega)
            have h1 := HZ.out
            rw [this] at h1
            have h2 : a (c : Int) = -1 := h1
            rw [h2, idx_none fun x hx => (HP.out x hx).1]
            omega
    · have hd : M.drop k = [] := List.drop_of_length_le (by omega)
      rw [hd] at hz
      obtain rfl : z = -1 := hz
      have HR := hid (find_miss (q := q) (M := M) fun j y hj => HB.out j y (by have := (List.getElem?_eq_some_iff.1 hj).1; omega) hj)
      obtain rfl : k = M.length := by omega
      have HK := hid hik
      clear hd hik hlt hk
      go_wp2
      go_ret
      exact ⟨ret_int HR.out.1.symm, by rw [HR.out.2]; exact HK.out⟩
end Go.Proofs.Ytgokacdljnemgaa

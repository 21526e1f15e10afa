/-
  What among answers, once more: and what blocks it lays; no condition but that the list is short.
-/
import Derived.Test.YthfoeppcageneaaTLaw2
import Derived.Sort.Grow
namespace Go.Proofs.Ythfoeppcageneaa
set_option linter.unusedSectionVars false
variable [DecidableEq Sl]
open Go.RowKit Go.Deep Go.Shelf
theorem grown_drew {w W : World} (h : ∃ q os', W = Sort.grow (w.drewN q) os') (n : Nat) : ∃ q os', W.drewN n = Sort.grow (w.drewN q) os' := by
  obtain ⟨q, os, rfl⟩ := h
  refine ⟨q + n, os, ?_⟩
  unfold Sort.grow World.drewN
  simp [Nat.add_assoc]
theorem below_grown (w : World) (n : Nat) (os : Array Obj) : Below w.heap.size w (Sort.grow (w.drewN n) os) :=
  ⟨rfl, rfl, rfl, by show w.heap.size ≤ (w.heap ++ os).size; simp, fun k hk => Sort.heap_grow_old (w.drewN n) os hk⟩
set_option maxHeartbeats 1000000 in
theorem among_grown (ao : Option Addr) (cap : Nat) (A : List Sl) (s : Sl) (w : World) (h : SeeS w ao A) (hl : A.length ≤ 1000) :
    Calls Try.prog 22 #[.slice ao A.length cap, encS s] w fun e w' => e = .returned (.bool (amongB A s)) ∧ ∃ q os', w' = Sort.grow (w.drewN q) os' := by
  have b1 := below_new w (objS s)
  have HS : Hid (SeeS (w.alloc (objS s)) ao A) := h.below b1
  have HA : Hid (AtS (w.alloc (objS s)) w.heap.size s) := AtS.new w s
  have HB : Hid (∃ q os', w.alloc (objS s) = Sort.grow (w.drewN q) os') := ⟨0, #[objS s], by rw [Sort.alloc_eq_grow]; rfl⟩
  clear b1 h
  simp only [encS, objS] at *
  go_enter Try.func22, Try.ntmps22
  go_wp2
  generalize w.alloc (Obj.cells _ _) = w1 at *
  generalize hr0 : w.heap.size = r at *
  clear hr0
  go_loopw [5] (fun s5 wr => ∃ k : Nat, k ≤ A.length ∧ s5 = .int .i64 k ∧ SeeS wr ao A ∧ AtS wr r s ∧ (∃ q os', wr = Sort.grow (w.drewN q) os') ∧ Hid (∀ j, j < k → A[j]? ≠ some s)) (fun s5 _ => A.length - (intOf s5).toNat)
  case atStart => exact ⟨0, Nat.zero_le _, rfl, HS.out, HA.out, HB.out, fun j hj => by omega⟩
  case round =>
    clear HS HA HB
    obtain ⟨k, hk, rfl, hs, ha, hb, hn⟩ := hrel
    have HK : Hid (SeeS wr ao A ∧ AtS wr r s ∧ ∃ q os', wr = Sort.grow (w.drewN q) os') := ⟨hs, ha, hb⟩
    by_cases hlt : k < A.length
    · obtain ⟨y, hy⟩ : ∃ y, A[k]? = some y := ⟨_, List.getElem?_eq_getElem hlt⟩
      obtain ⟨b, rfl, -, c0, c1⟩ := hs k y hy
      obtain ⟨s0, s1⟩ := ha.cells
      have HY : Hid (A[k]? = some y ∧ k < A.length) := ⟨hy, hlt⟩
      have hkz : (k : Int) < (A.length : Int) := by omega
      have hq := fun W => eq_slots W y s
      clear hy hlt hk hs ha hb
      by_cases hys : y = s
      · have hd : decide (y = s) = true := by simp [hys]
        rw [hd] at hq
        have HE : Hid (amongB A s = true) := decide_eq_true (List.mem_of_getElem? (hys ▸ HY.out.1))
        clear hys hd
        go_wp2
        go_quiet (fail)
        go_wp2
        go_ret
        refine ⟨by rw [HE.out]; rfl, ?_⟩
        exact grown_drew HK.out.2.2 _
      · have hd : decide (y = s) = false := by simp [hys]
        rw [hd] at hq
        have HN : Hid (∀ j, j < k + 1 → A[j]? ≠ some s) := fun j hj => by
          by_cases e : j = k
          · subst e
            rw [HY.out.1]
            exact fun e => hys (Option.some.inj e)
          · exact hn.out j (by omega)
        clear hys hd hn
        go_wp2
        go_quiet (fail)
        go_wp2
        go_roundw
        case rel => exact ⟨k + 1, by have := HY.out.2; omega, by go_num, HK.out.1.below (below_drewN (Below.refl _ _) _), HK.out.2.1.below (below_drewN (Below.refl _ _) _), grown_drew HK.out.2.2 _, HN.out⟩
        case measure => simp [intOf]; have := HY.out.2; omega
    · have hkz : ¬ (k : Int) < (A.length : Int) := by omega
      have HE : Hid (amongB A s = false) := decide_eq_false fun hm => by
        obtain ⟨j, hj⟩ := List.mem_iff_getElem?.1 hm
        have := (List.getElem?_eq_some_iff.1 hj).1
        exact hn.out j (by omega) hj
      clear hlt hk hn hs ha hb
      go_wp2
      go_ret
      exact ⟨by rw [HE.out]; rfl, HK.out.2.2⟩
end Go.Proofs.Ythfoeppcageneaa

/-
  The library's iterator over a slice, at items; no condition of ours.
-/
import Derived.Test.YtkbbjpnkfmegnaaSIter
namespace Go.Proofs.Ytkbbjpnkfmegnaa
open Go.RowKit Go.Deep
attribute [local go_sem] Oper.semAt_some
theorem values_any (ao : Option Addr) (n cap : Nat) (w : World) : Calls Try.prog 20 #[.slice ao n cap] w fun e w' => e = .returned (.func (.func 24) #[] #[.pointer (some ⟨w.heap.size, 0, none⟩)]) ∧ w' = w.alloc (.cells #[.slice ao n cap] 24) := by
  go_enter Try.func20, Try.ntmps20
  go_wp2
  go_ret
  exact ⟨rfl, rfl⟩
theorem values_gives (q : Nat) (ao : Option Addr) (cap : Nat) (L : List It) (hl : L.length ≤ 1000000) : Gives Try.prog 24 #[.pointer (some ⟨q, 0, none⟩)] L encI 0 (fun A => A.cell? ⟨q, 0, none⟩ = some (.slice ao L.length cap) ∧ ToldI A ao L) := by
  intro lp J W hst hneed hy h0
  have h00 := (hneed _ _ h0).1
  generalize hn : L.length = n at *
  have HN : Hid (L.length = n) := hn
  clear hn
  refine callsIn_of_wp Try.func24 rfl trivial ?_ rfl
  simp only [Try.ntmps24, List.size_toArray, List.length_cons, List.length_nil, Nat.reduceAdd, Nat.reduceSub, Array.replicate_succ, Array.replicate_zero, List.push_toArray, List.append_toArray, List.nil_append, List.cons_append]
  gi_wp2
  gi_loopw [7] (fun i wr => ∃ k : Nat, k ≤ n ∧ i = .int .i64 (k : Int) ∧ W.heap.size ≤ wr.heap.size ∧ J (L.take k) wr) (fun i _ => n - (intOf i).toNat)
  case atStart => exact ⟨0, by omega, rfl, Nat.le_refl _, by simpa using h0⟩
  case round =>
    obtain ⟨k, hk, rfl, hs, hJ⟩ := hrel
    by_cases hkn : k < n
    · obtain ⟨x, hx⟩ : ∃ x, L[k]? = some x := ⟨_, List.getElem?_eq_getElem (by have := HN.out; omega)⟩
      obtain ⟨_, ht⟩ := hneed _ _ hJ
      obtain ⟨b, o, rfl, hb, hc⟩ : ∃ b o, ao = some ⟨b, o, none⟩ ∧ b < wr.heap.size ∧ _ := ht.resolve_left (by intro h; rw [h] at hx; simp at hx)
      obtain ⟨c0, c1, c2, c3⟩ := hc k x hx
      have hki : (k : Int) < (n : Int) := by omega
      clear hc
      have b1 := below_new wr (objI x)
      have hJ1 := hst _ _ _ hJ (Turns.of_below b1)
      obtain ⟨fn, tmps, assign, body, hy1, hR⟩ := hy _ _ _ _ (take_drop_at hx) (by have := b1.size; omega) hJ1
      have hJ1' : Hid (J (L.take k) (wr.alloc (objI x))) := hJ1
      simp only [encI, fourI, objI] at hy1 hR b1 ⊢
      gi_wp2
      refine ⟨rfl, hR.mono ?_⟩
      rintro e w2 ⟨rfl, hJ2, st2⟩
      gi_wp2
      go_roundw
      case rel => exact ⟨k + 1, by omega, by go_num, by have := b1.size; have := st2.size; omega, by rw [take_snoc hx]; exact hJ2⟩
      case measure => simp [intOf]; omega
    · have hk4 : k = n := by omega
      subst hk4
      gi_wp2
      go_end0
      refine ⟨⟨_, rfl⟩, ?_⟩
      rw [List.take_of_length_le (by have := HN.out; omega)] at hJ
      exact hJ
end Go.Proofs.Ytkbbjpnkfmegnaa

/-
  One item of four bytes, and whether two lists of items are the same; no condition of ours.
-/
import Derived.Test.YtkbbjpnkfmegnaaSRight
namespace Go.Proofs.Ytkbbjpnkfmegnaa
open Go.RowKit Go.Deep
theorem item_of (s : ByteArray) (a b c d : Int) (hs : s = strOfNums [a, b, c, d]) (hb : Bytes8 [a, b, c, d]) (w : World) :
    Calls Try.prog 23 #[.string s] w fun e w' => e = .returned (encI ⟨a, b, c, d⟩) ∧ Below w.heap.size w w' := by
  have h4 : s.size = 4 := by rw [hs, strOfNums_size]; rfl
  have g : ∀ (i : Nat) (hi : i < s.size), ((s[i]'hi).toNat : Int) = [a, b, c, d].getD i 0 := by subst hs; exact fun i hi => str_get _ hb i hi
  have g0 := g 0 (by omega)
  have g1 := g 1 (by omega)
  have g2 := g 2 (by omega)
  have g3 := g 3 (by omega)
  simp only [List.getD_cons_zero, List.getD_cons_succ] at g0 g1 g2 g3
  have B0 := hb a (by simp)
  have B1 := hb b (by simp)
  have B2 := hb c (by simp)
  have B3 := hb d (by simp)
  clear hb g hs
  go_enter Try.func23, Try.ntmps23
  go_wp2
  go_region
  all_goals go_wp2
  have hB : Below w.heap.size w (w.alloc (objI ⟨a, b, c, d⟩)) := below_new _ _
  obtain ⟨c0, c1, c2, c3⟩ := (AtI.new w ⟨a, b, c, d⟩).cells
  simp only [objI, fourI] at hB c0 c1 c2 c3
  refine bodyPost_ret (v := encI ⟨a, b, c, d⟩) ?_ rfl ⟨rfl, hB.drew⟩
  simp [results, Try.f23, go_sem, encI, fourI]
theorem same_yes (p q : Option Addr) (L : List It) (cp cq : Nat) (w : World) (hp : ToldI w p L) (hq : ToldI w q L) (hl : L.length ≤ 1000000) :
    Calls Try.prog 10 #[.slice p L.length cp, .slice q L.length cq] w fun e w' => e = .returned (.bool true) ∧ w'.heap = w.heap ∧ Below w.heap.size w w' := by
  have HP : Hid (ToldI w p L) := hp
  have HQ : Hid (ToldI w q L) := hq
  clear hp hq
  generalize hn : L.length = n at *
  have HN : Hid (L.length = n) := hn
  clear hn
  go_enter Try.func10, Try.ntmps10
  go_wp2
  go_loopw [5] (fun i wr => ∃ k : Nat, k ≤ n ∧ i = .int .i64 k ∧ wr.heap = w.heap ∧ Below w.heap.size w wr) (fun i _ => n - (intOf i).toNat)
  case atStart => exact ⟨0, Nat.zero_le _, rfl, rfl, Below.refl _ _⟩
  case round =>
    obtain ⟨k, hk, rfl, hh, br⟩ := hrel
    by_cases hkn : k < n
    · obtain ⟨x, hx⟩ : ∃ x, L[k]? = some x := ⟨_, List.getElem?_eq_getElem (by have := HN.out; omega)⟩
      obtain ⟨b, o, rfl, hb, hc⟩ : ∃ b o, p = some ⟨b, o, none⟩ ∧ b < w.heap.size ∧ _ := HP.out.resolve_left (by intro h; rw [h] at hx; simp at hx)
      obtain ⟨b', o', rfl, hb', hc'⟩ : ∃ b o, q = some ⟨b, o, none⟩ ∧ b < w.heap.size ∧ _ := HQ.out.resolve_left (by intro h; rw [h] at hx; simp at hx)
      obtain ⟨c0, c1, c2, c3⟩ := hc k x hx
      obtain ⟨d0, d1, d2, d3⟩ := hc' k x hx
      clear hc hc' HP HQ
      have hki : (k : Int) < (n : Int) := by omega
      have e : ∀ z, wr.cell? z = w.cell? z := fun z => by simp [World.cell?, hh]
      rw [← e] at c0 c1 c2 c3 d0 d1 d2 d3
      clear e
      go_wp2
      go_quiet (fail)
      go_wp2
      go_roundw
      case rel => exact ⟨k + 1, by omega, by go_num, hh, ⟨br.os, br.tape, br.output, br.size, br.block⟩⟩
      case measure => simp [intOf]; omega
    · have hk4 : k = n := by omega
      subst hk4
      go_wp2
      go_ret
      exact ⟨rfl, hh, br⟩
end Go.Proofs.Ytkbbjpnkfmegnaa

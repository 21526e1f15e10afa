/-
  What set of package slots leaves; no condition of ours.
-/
import Derived.Test.YtkpoppgibempbaaNTake
namespace Go.Proofs.Ytkpoppgibempbaa
open Go.RowKit Go.Deep Go.MapKept Go.Maps
set_option linter.unusedSectionVars false
variable [dCp : DecidableEq Cp] [dLim : ∀ k, Decidable (Lim k)] [dBad : ∀ k, Decidable (Bad k)] [dFit : ∀ g z, Decidable (Fit g z)] [dFine : ∀ c, Decidable (Fine c)] [dMint : ∀ c v, Decidable (MintR c v)] [dWho : ∀ x y, Decidable (Whose x y)] [dSl : DecidableEq Sl] [dLt : ∀ a b, Decidable (ltS a b)]

theorem Leaves.trans {a b c : World} {p : Nat} {F : Nat → Prop} {S T : St} (h : Leaves a p F S b) (k : Leaves b p F T c) : Leaves a p F T c := ⟨k.1, h.2.trans k.2 fun _ hx => .inl hx⟩
theorem Leaves.behind {a b c : World} {p : Nat} {F : Nat → Prop} {S : St} (h : Below a.heap.size a b) (k : Leaves b p F S c) : Leaves a p F S c := ⟨k.1, (Turn.of h F).trans k.2 fun _ hx => .inl hx⟩
set_option maxHeartbeats 1000000 in
theorem set_any (p : Nat) (F : Nat → Prop) (S : St) (s : Sl) (d c : Cp) (w : World) (h : Nds w p F S) (hs : s.Fits) (hd : atS S s = some d) (hc : c.Fits) (h0 : c.k = 0 → c = no) :
    Calls Try.prog 46 #[.pointer (some ⟨p, 0, none⟩), encS s, encC c] w fun e w' => e = .returned (.tuple #[]) ∧ Leaves w p F (setS S s c) w' := by
  have HS : Hid (s.Fits ∧ c.Fits ∧ atS S s = some d) := ⟨hs, hc, hd⟩
  have H : Hid (Nds w p F S) := h
  obtain ⟨x1, x2, x3, x4⟩ := box2 w (objS s) (objC c)
  obtain ⟨m, v, h2⟩ := h.below x4
  have a1 : AtS _ w.heap.size s := x1
  have a2 : AtC _ (w.heap.size + 1) c := x2
  obtain ⟨s0, s1⟩ := a1.cells
  obtain ⟨z0, z1, z2, z3, z4, z5⟩ := a2.cells
  obtain ⟨c0, c1⟩ := h2.cells
  have X4 : Hid (Below w.heap.size w ((w.alloc (objS s)).alloc (objC c))) := x4
  by_cases hk : c.k = 0
  · obtain rfl := h0 hk
    obtain ⟨w6, hrun, k1, k2, k3⟩ := (h2.map.of_block (w' := ((w.alloc (objS s)).alloc (objC no)).drew) rfl).drop hs 0
    have g := drew_grown k2
    have K : Hid (Leaves w p F (setS S s no) w6) := Leaves.behind x4 ⟨⟨m, v, h2.del hd g k1⟩, map_turn h2 g⟩
    clear k1 k2 k3 h2 g a1 a2 x1 x2 x3 x4 h hd hc h0 hk
    simp only [encS, objS, objC, encC, no] at *
    go_enter Try.func46, Try.ntmps46
    go_wp2
    generalize (w.alloc (.cells #[.int .i64 s.n, .int .i64 s.i] 30)).alloc (.cells #[.int .i64 0, .int .i64 0, .int .i64 0, .int .u64 0, .int .u64 0, .int .i64 0] 33) = w2 at *
    generalize w.heap.size = r at *
    go_region
    go_wp2
    (try simp only [Exit.inBlock, Exit.then]); refine bodyPost_ret (results_none rfl _ _ _) rfl ?_
    exact ⟨rfl, K.out⟩
  · obtain ⟨w6, hrun, k1, k2, k3⟩ := (h2.map.of_block (w' := ((w.alloc (objS s)).alloc (objC c)).drew) rfl).store hs c
    have g := drew_grown k2
    have K : Hid (Leaves w p F (setS S s c) w6) := Leaves.behind x4 ⟨⟨m, v, h2.put hd hc hk g k1⟩, map_turn h2 g⟩
    have hk' : (c.k == 0) = false := by simp [hk]
    clear k1 k2 k3 h2 g a1 a2 x1 x2 x3 x4 h hd hc h0 hk
    simp only [encS, objS, objC, encC] at *
    go_enter Try.func46, Try.ntmps46
    go_wp2
    generalize (w.alloc (.cells #[.int .i64 s.n, .int .i64 s.i] 30)).alloc (.cells #[.int .i64 c.k, .int .i64 c.o, .int .i64 c.r, .int .u64 c.b, .int .u64 c.g, .int .i64 c.z] 33) = w2 at *
    generalize w.heap.size = r at *
    go_region
    go_wp2
    go_end0
    exact ⟨rfl, K.out⟩
end Go.Proofs.Ytkpoppgibempbaa

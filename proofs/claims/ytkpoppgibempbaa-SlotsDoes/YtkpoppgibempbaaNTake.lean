/-
  What Take of package slots answers and leaves; no condition of ours.
-/
import Derived.Test.YtkpoppgibempbaaNPut
namespace Go.Proofs.Ytkpoppgibempbaa
open Go.RowKit Go.Deep Go.MapKept Go.Maps
set_option linter.unusedSectionVars false
variable [dCp : DecidableEq Cp] [dLim : ∀ k, Decidable (Lim k)] [dBad : ∀ k, Decidable (Bad k)] [dFit : ∀ g z, Decidable (Fit g z)] [dFine : ∀ c, Decidable (Fine c)] [dMint : ∀ c v, Decidable (MintR c v)] [dWho : ∀ x y, Decidable (Whose x y)] [dSl : DecidableEq Sl] [dLt : ∀ a b, Decidable (ltS a b)]

theorem six_turn (q : Nat) (u : World) (a b c d e f : Value) : Turn (fun x => x = q) u ((((((u.setCell ⟨q, 0, none⟩ a).setCell ⟨q, 1, none⟩ b).setCell ⟨q, 2, none⟩ c).setCell ⟨q, 3, none⟩ d).setCell ⟨q, 4, none⟩ e).setCell ⟨q, 5, none⟩ f) := by
  have s : ∀ (w : World) (i : Nat) (v : Value), Turn (fun x => x = q) w (w.setCell ⟨q, i, none⟩ v) := fun w i v => Turn.setCell _ w ⟨q, i, none⟩ v rfl
  have t : ∀ {a b c : World}, Turn (fun x => x = q) a b → Turn (fun x => x = q) b c → Turn (fun x => x = q) a c := fun h k => h.trans k fun x hx => .inl hx
  exact t (t (t (t (t (s _ _ _) (s _ _ _)) (s _ _ _)) (s _ _ _)) (s _ _ _)) (s _ _ _)
/-- Behind a call that left the nodes S, a block of one's own is written. -/
theorem Leaves.then {w w' w'' : World} {p q : Nat} {F : Nat → Prop} {S : St} (h : Leaves w p F S w') (t : Turn (fun x => x = q) w' w'') (hF : ∀ x, F x → x < w.heap.size) (hq : w.heap.size ≤ q) : Leaves w p F S w'' :=
  ⟨h.1.turn t fun x hx e => by have := hF x hx; omega, h.2.trans t fun x hx => .inr (by omega)⟩
theorem Leaves.drew {w w' : World} {p : Nat} {F : Nat → Prop} {S : St} (h : Leaves w p F S w') : Leaves w p F S w'.drew :=
  ⟨h.1.below ⟨rfl, rfl, rfl, Nat.le_refl _, fun _ _ => rfl⟩, ⟨h.2.os, h.2.tape, h.2.output, h.2.size, h.2.block⟩⟩
/-- Old blocks that are not the map's. -/
theorem grown_block {w w' : World} {m k : Nat} (g : w.grownBy w' (some m)) (h : k < w.heap.size) (hn : k ≠ m) : w'.heap[k]? = w.heap[k]? := g.block k h fun e => hn (Option.some.inj e)
theorem drew_grown {w w' : World} {r : Option Nat} (g : w.drew.grownBy w' r) : w.grownBy w' r := ⟨g.os, g.tape, g.output, g.size, g.block⟩
set_option maxHeartbeats 1000000 in
theorem take_any (p : Nat) (F : Nat → Prop) (S : St) (s : Sl) (w : World) (h : Nds w p F S) (hs : s.Fits) :
    Calls Try.prog 14 #[.pointer (some ⟨p, 0, none⟩), encS s] w fun e w' => e = .returned (.tuple #[encC (takeC S s), .int .i64 (takeE S s)]) ∧ Leaves w p F (takeS S s) w' := by
  have HS : Hid s.Fits := hs
  have H : Hid (Nds w p F S) := h
  obtain ⟨x1, x2, x3, x4⟩ := box2 w (objS s) (objC no)
  have HE : Hid (takeE S s = (match atS S s with | none => 50 | some d => if d.k = 0 then 52 else 0) ∧ takeC S s = (if takeE S s = 0 then getC S s else no) ∧ takeS S s = if takeE S s = 0 then setS S s no else S) := ⟨rfl, rfl, rfl⟩
  generalize takeE S s = te at *
  generalize takeC S s = tc at *
  generalize takeS S s = ts at *
  simp only [encS, objS, objC, encC, no] at x1 x2 x3 x4 ⊢
  go_enter Try.func14, Try.ntmps14
  go_wp2_with fail
  refine (there_any p F S s _ (H.out.below x4)).mono ?_
  rintro e w3 ⟨rfl, b3⟩
  clear h hs
  have a1 : AtS w3 w.heap.size s := (b3.block _ (by rw [x3]; omega)).trans x1
  have a2 : AtC w3 (w.heap.size + 1) no := (b3.block _ (by rw [x3]; omega)).trans x2
  have B : Hid (Below w.heap.size w w3) := Below.then x4 b3 x4.size
  clear x1 x2 x3 x4 b3
  have A1 : Hid (AtS w3 w.heap.size s) := a1
  have A2 : Hid (AtC w3 (w.heap.size + 1) no) := a2
  obtain ⟨s0, s1⟩ := a1.cells
  obtain ⟨z0, z1, z2, z3, z4, z5⟩ := a2.cells
  have zf := a2.frozen
  clear a1 a2
  generalize hr0 : w.heap.size = r at *
  have HR : Hid (w.heap.size = r) := hr0
  clear hr0
  cases hq : atS S s with
  | none =>
    rw [hq] at HE
    obtain ⟨rfl, e2, e3⟩ := HE.out
    obtain rfl : ts = S := e3.trans (if_neg (show ¬ (50 : Int) = 0 by decide))
    obtain rfl : tc = no := e2.trans (if_neg (show ¬ (50 : Int) = 0 by decide))
    clear e2 e3 HE
    simp only [no] at z0 z1 z2 z3 z4 z5
    go_wp2
    refine bodyPost_ret (v := .tuple #[encC no, .int .i64 50]) ?_ rfl ⟨rfl, ?_⟩
    · simp [results, Try.f14, go_sem, encC, no, z0, z1, z2, z3, z4, z5]
    · exact Leaves.same H.out (by rw [HR.out]; exact six_sets B.out (by omega) _ _ _ _ _ _)
  | some d =>
    rw [hq] at HE
    have HQ : Hid (atS S s = some d) := hq
    clear hq
    go_wp2_with fail
    refine (free_any p F S s _ (H.out.below (by rw [HR.out]; exact B.out)) HS.out).mono ?_
    rintro e w4 ⟨rfl, b4⟩
    have a1 := A1.out.below b4
    have a2 := A2.out.below b4
    have B4 : Hid (Below r w w4) := Below.then B.out b4 (by have := B.out.size; have := HR.out; omega)
    clear s0 s1 z0 z1 z2 z3 z4 z5 zf A1 A2 B b4
    have A1 : Hid (AtS w4 r s) := a1
    have A2 : Hid (AtC w4 (r + 1) no) := a2
    obtain ⟨s0, s1⟩ := a1.cells
    rw [hold_some HQ.out]
    by_cases hd : d.k = 0
    · obtain ⟨z0, z1, z2, z3, z4, z5⟩ := a2.cells
      have zf := a2.frozen
      have hdd : (!decide (d.k ≠ 0)) = true := by simp [hd]
      rw [hdd]
      obtain ⟨e1, e2, e3⟩ := HE.out
      simp only [hd, if_true] at e1
      subst e1
      obtain rfl : ts = S := e3.trans (if_neg (show ¬ (52 : Int) = 0 by decide))
      obtain rfl : tc = no := e2.trans (if_neg (show ¬ (52 : Int) = 0 by decide))
      clear e2 e3 HE hdd hd a1 a2
      simp only [no] at z0 z1 z2 z3 z4 z5
      go_wp2
      refine bodyPost_ret (v := .tuple #[encC no, .int .i64 52]) ?_ rfl ⟨rfl, ?_⟩
      · simp [results, Try.f14, go_sem, encC, no, z0, z1, z2, z3, z4, z5]
      · exact Leaves.same H.out (by rw [HR.out]; exact six_sets B4.out (by omega) _ _ _ _ _ _)
    · have hdd : (!decide (d.k ≠ 0)) = false := by simp [hd]
      rw [hdd]
      obtain ⟨e1, e2, e3⟩ := HE.out
      simp only [hd, if_false] at e1
      subst e1
      obtain rfl : ts = setS S s no := e3.trans (if_pos rfl)
      obtain rfl : tc = d := (e2.trans (if_pos rfl)).trans (by unfold getC; rw [HQ.out]; rfl)
      clear e2 e3 HE hdd hd
      obtain ⟨m, v, h4⟩ : Nds w4 p F S := H.out.below (by rw [HR.out]; exact B4.out)
      have hl1 : Sem.run Try.prog _ w4.drew = _ := (h4.map.of_block (w' := w4.drew) rfl).look HS.out false
      have hl2 : ∀ o, Sem.run Try.prog _ (w4.alloc o).drew = _ := fun o => (h4.map.of_block (w' := (w4.alloc o).drew) (blk_alloc_lt _ _ _ h4.map.lt)).look HS.out false
      rw [hold_get h4.ok HQ.out] at hl1 hl2
      obtain ⟨c0, c1⟩ := h4.cells
      have c1' := cell_al c1
      have s0' := cell_al s0
      have s1' := cell_al s1
      have H4 : Hid (PN w4 p m v F S) := h4
      clear h4 a1 a2
      simp only [encS, encC] at hl1 hl2
      go_wp2
      go_region
      clear hl1 hl2 c0 c1 c1' s0 s0' s1 s1'
      have bb : Below w4.heap.size w4 (w4.alloc (objC tc)).drew := (below_new w4 (objC tc)).drew
      have h5 := H4.out.below bb
      have a1 : AtS (w4.alloc (objC tc)).drew r s := A1.out.below bb
      have a2 : AtC (w4.alloc (objC tc)).drew (r + 1) no := A2.out.below bb
      have a3 : AtC (w4.alloc (objC tc)).drew w4.heap.size tc := AtC.new w4 tc
      have B5 : Hid (Below r w (w4.alloc (objC tc)).drew) := Below.then B4.out bb (by have := B4.out.size; have := HR.out; omega)
      have L4 : Hid (r + 1 < w4.heap.size) := A2.out.lt
      clear bb A1 A2 B4 H4
      simp only [objC] at h5 a1 a2 a3 B5
      generalize (w4.alloc (.cells #[.int .i64 tc.k, .int .i64 tc.o, .int .i64 tc.r, .int .u64 tc.b, .int .u64 tc.g, .int .i64 tc.z] 33)).drew = w5 at *
      generalize hq0 : w4.heap.size = q at *
      clear hq0
      obtain ⟨c0, c1⟩ := h5.cells
      obtain ⟨s0, s1⟩ := a1.cells
      obtain ⟨w6, hrun, k1, k2, k3⟩ := (h5.map.of_block (w' := w5.drew) rfl).drop HS.out 0
      have g := drew_grown k2
      have hm : m < r := by have := H.out.lt m h5.fm; have := HR.out; omega
      have d2 : AtC w6 (r + 1) no := (grown_block g a2.lt (by omega)).trans a2
      have d3 : AtC w6 q tc := (grown_block g a3.lt (by have := L4.out; omega)).trans a3
      have K : Hid (Leaves w p F (setS S s no) w6) := ⟨⟨m, v, h5.del HQ.out g k1⟩, by
        have t1 : Turn F w w5 := Turn.of (by rw [HR.out]; exact B5.out) F
        exact t1.trans (G := F) (map_turn h5 g) fun x hx => .inl hx⟩
      have ne : Hid (q ≠ r + 1) := (by have := L4.out; omega : q ≠ r + 1)
      clear k1 k2 k3 h5 g a1 a2 a3 hm
      obtain ⟨z0, z1, z2, z3, z4, z5⟩ := d2.cells
      have zf := d2.frozen
      obtain ⟨y0, y1, y2, y3, y4, y5⟩ := d3.cells
      clear d2 d3
      simp only [encS, no] at *
      go_wp2
      go_region
      clear hrun c0 c1 s0 s1
      go_wp2
      refine bodyPost_ret (v := .tuple #[encC tc, .int .i64 0]) ?_ rfl ⟨rfl, ?_⟩
      · simp [results, Try.f14, go_sem, encC, z0, z1, z2, z3, z4, z5]
      · exact K.out.then (six_turn (r + 1) w6 _ _ _ _ _ _) H.out.lt (by have := HR.out; omega)
end Go.Proofs.Ytkpoppgibempbaa

/-
  How nodes of slots lie in the world: a struct that leads to a row of bits and to a map; what stays while calls write to some blocks alone; what Size, slotsOf, there and free of package slots answer; no condition of ours.
-/
import Derived.Test.YtkpoppgibempbaaNMap
import Derived.Test.YtkpoppgibempbaaNFormed
import Derived.Maps.AppendAt
import Derived.Laws.CopyOwn
import Derived.Lib.SliceRun
namespace Go.Proofs.Ytkpoppgibempbaa
open Go.RowKit Go.Deep Go.MapKept Go.Maps
set_option linter.unusedSectionVars false
variable [dCp : DecidableEq Cp] [dLim : ∀ k, Decidable (Lim k)] [dBad : ∀ k, Decidable (Bad k)] [dFit : ∀ g z, Decidable (Fit g z)] [dFine : ∀ c, Decidable (Fine c)] [dMint : ∀ c v, Decidable (MintR c v)] [dWho : ∀ x y, Decidable (Whose x y)] [dSl : DecidableEq Sl] [dLt : ∀ a b, Decidable (ltS a b)]

/-! ### What stays -/
/-- Old blocks outside F, and the streams, are as they were. -/
structure Turn (F : Nat → Prop) (w w' : World) : Prop where
  os : w'.os = w.os
  tape : w'.tape = w.tape
  output : w'.output = w.output
  size : w.heap.size ≤ w'.heap.size
  block : ∀ k, k < w.heap.size → ¬ F k → w'.heap[k]? = w.heap[k]?
theorem Turn.refl (F : Nat → Prop) (w : World) : Turn F w w := ⟨rfl, rfl, rfl, Nat.le_refl _, fun _ _ _ => rfl⟩
theorem Turn.trans {F G : Nat → Prop} {a b c : World} (h : Turn F a b) (k : Turn G b c) (s : ∀ x, G x → F x ∨ a.heap.size ≤ x) : Turn F a c :=
  ⟨k.os.trans h.os, k.tape.trans h.tape, k.output.trans h.output, Nat.le_trans h.size k.size, fun i hi hF =>
    (k.block i (Nat.lt_of_lt_of_le hi h.size) fun hG => (s i hG).elim hF fun h1 => absurd hi (by omega)).trans (h.block i hi hF)⟩
theorem Turn.of {w w' : World} (h : Below w.heap.size w w') (F : Nat → Prop) : Turn F w w' := ⟨h.os, h.tape, h.output, h.size, fun k hk _ => h.block k hk⟩
theorem Turn.grown {w w' : World} {F : Nat → Prop} {r : Option Nat} (h : w.grownBy w' r) (hF : ∀ k, r = some k → F k ∨ w.heap.size ≤ k) : Turn F w w' :=
  ⟨h.os, h.tape, h.output, h.size, fun k hk hn => h.block k hk fun e => (hF k e.symm).elim hn fun h1 => absurd hk (by omega)⟩
theorem Turn.setCell (F : Nat → Prop) (w : World) (a : Addr) (v : Value) (h : F a.block) : Turn F w (w.setCell a v) :=
  ⟨rfl, rfl, rfl, by rw [nblk_setCell]; exact Nat.le_refl _, fun k _ hk => blk_setCell_other _ _ _ _ fun e => hk (e ▸ h)⟩
theorem Turn.below {B : Nat} {F : Nat → Prop} {w0 w w' : World} (h : Turn F w w') (hb : Below B w0 w) (hF : ∀ x, F x → B ≤ x) (hB : B ≤ w.heap.size) : Below B w0 w' :=
  ⟨h.os.trans hb.os, h.tape.trans hb.tape, h.output.trans hb.output, Nat.le_trans hb.size h.size, fun k hk => (h.block k (by omega) fun hf => by have := hF k hf; omega).trans (hb.block k hk)⟩
/-- What is new, or was there. -/
def Out (F F' : Nat → Prop) (w : World) : Prop := ∀ x, F' x → F x ∨ w.heap.size ≤ x
theorem Out.refl (F : Nat → Prop) (w : World) : Out F F w := fun _ h => .inl h
def Apart (F G : Nat → Prop) : Prop := ∀ x, F x → ¬ G x

/-! ### Nodes -/
def bitV (l : List Cp) : Value := .int .i64 (bitsL l : Nat)
structure PN (w : World) (p m : Nat) (v : Value) (F : Nat → Prop) (S : St) : Prop where
  head : w.heap[p]? = some (.cells #[v, .map (some m)] 61 (0, 0))
  row : w.ownsRow 0 3 1 v S.length (S.map bitV)
  map : MapIs w m (holdS S)
  fp : F p
  fm : F m
  fv : ∀ k, v.ownBlock = some k → F k ∧ k ≠ p ∧ k ≠ m
  pm : p ≠ m
  lt : ∀ x, F x → x < w.heap.size
  ok : Okay S
/-- A struct at block p that leads to the nodes S, all in the blocks F. -/
def Nds (w : World) (p : Nat) (F : Nat → Prop) (S : St) : Prop := ∃ m v, PN w p m v F S
theorem PN.cells {w : World} {p m : Nat} {v : Value} {F : Nat → Prop} {S : St} (h : PN w p m v F S) : w.cell? ⟨p, 0, none⟩ = some v ∧ w.cell? ⟨p, 1, none⟩ = some (.map (some m)) := by
  constructor <;> simp [World.cell?, h.head]
theorem PN.frozen {w : World} {p m : Nat} {v : Value} {F : Nat → Prop} {S : St} (h : PN w p m v F S) (j : Nat) : w.frozen? ⟨p, j, none⟩ = false := by
  simp [World.frozen?, h.head]
theorem own_of_block {w w' : World} {B : Nat} {e : TypeId} {k : Nat} {v : Value} {n : Nat} {xs : List Value} (h : w.ownsRow B e k v n xs) (q : ∀ g, v.ownBlock = some g → w'.heap[g]? = w.heap[g]?) : w'.ownsRow B e k v n xs := by
  refine ⟨h.1, ?_⟩
  rcases h.2 with hn | ⟨g, cap, cur, rfl, hb, hg, r⟩
  · exact .inl hn
  · exact .inr ⟨g, cap, cur, rfl, hb, (q g rfl).trans hg, r⟩
theorem PN.turn {w w' : World} {p m : Nat} {v : Value} {F G : Nat → Prop} {S : St} (h : PN w p m v F S) (t : Turn G w w') (a : Apart F G) : PN w' p m v F S where
  head := (t.block _ (h.lt _ h.fp) (a _ h.fp)).trans h.head
  row := own_of_block h.row fun g hg => t.block _ (h.lt _ (h.fv g hg).1) (a _ (h.fv g hg).1)
  map := h.map.of_block (t.block _ (h.lt _ h.fm) (a _ h.fm))
  fp := h.fp
  fm := h.fm
  fv := h.fv
  pm := h.pm
  lt := fun x hx => Nat.lt_of_lt_of_le (h.lt x hx) t.size
  ok := h.ok
theorem PN.below {w w' : World} {p m : Nat} {v : Value} {F : Nat → Prop} {S : St} (h : PN w p m v F S) (t : Below w.heap.size w w') : PN w' p m v F S := h.turn (Turn.of t fun _ => False) fun _ _ h => h
theorem Nds.turn {w w' : World} {p : Nat} {F G : Nat → Prop} {S : St} (h : Nds w p F S) (t : Turn G w w') (a : Apart F G) : Nds w' p F S := by
  obtain ⟨m, v, h⟩ := h
  exact ⟨m, v, h.turn t a⟩
theorem Nds.below {w w' : World} {p : Nat} {F : Nat → Prop} {S : St} (h : Nds w p F S) (t : Below w.heap.size w w') : Nds w' p F S := h.turn (Turn.of t fun _ => False) fun _ _ h => h
theorem Nds.ok {w : World} {p : Nat} {F : Nat → Prop} {S : St} (h : Nds w p F S) : Okay S := by obtain ⟨_, _, h⟩ := h; exact h.ok
theorem Nds.lt {w : World} {p : Nat} {F : Nat → Prop} {S : St} (h : Nds w p F S) : ∀ x, F x → x < w.heap.size := by obtain ⟨_, _, h⟩ := h; exact h.lt
/-- The bits' slice, and its cells. -/
theorem PN.slice {w : World} {p m : Nat} {v : Value} {F : Nat → Prop} {S : St} (h : PN w p m v F S) : ∃ ao cap, v = .slice ao S.length cap ∧ ∀ j, j < S.length → ∃ g, ao = some ⟨g, 0, none⟩ ∧ w.cell? ⟨g, j, none⟩ = some (.int .i64 (bitsL (S.getD j []) : Nat)) ∧ w.frozen? ⟨g, j, none⟩ = false := by
  rcases h.row.2 with ⟨rfl, h0⟩ | ⟨g, cap, cur, rfl, hb, hg, h1, h2, h3, h4⟩
  · exact ⟨none, 0, by rw [h0], fun j hj => by omega⟩
  · refine ⟨some ⟨g, 0, none⟩, cap, rfl, fun j hj => ⟨g, rfl, ?_, ?_⟩⟩
    · have e : (S.map bitV)[j]? = some (.int .i64 (bitsL (S.getD j []) : Nat)) := by simp [hj, bitV]
      rw [← h4, List.getElem?_take, if_pos (by omega)] at e
      simpa [World.cell?, hg] using e
    · simp [World.frozen?, hg]
theorem nodeS_nat (S : St) (j : Nat) : nodeS S (j : Int) = S.getD j [] := by simp [nodeS]
theorem nodeS_out (S : St) (n : Int) (h : ¬ (0 ≤ n ∧ n < S.length)) : nodeS S n = [] := by
  unfold nodeS
  split
  · rw [List.getD_eq_getElem?_getD, List.getElem?_eq_none (by omega)]; rfl
  · rfl
theorem node_mem {S : St} {j : Nat} (h : j < S.length) : S.getD j [] ∈ S := by
  rw [List.getD_eq_getElem?_getD, List.getElem?_eq_getElem h]
  exact List.getElem_mem h
/-- No bits, no slots; else as many as these. -/
theorem Okay.bits {S : St} (h : Okay S) {l : List Cp} (hl : l ∈ S) : (l = [] ∧ bitsL l = 0) ∨ (l ≠ [] ∧ 1 ≤ bitsL l ∧ bitsL l ≤ 8 ∧ l.length = 2 ^ bitsL l) := by
  rcases h.row l hl with rfl | ⟨b, b1, b2, e⟩
  · exact .inl ⟨rfl, by simp [bitsL]⟩
  · have hb : bitsL l = b := by unfold bitsL; rw [e, Nat.log2_two_pow]
    refine .inr ⟨fun h0 => ?_, by omega, by omega, by rw [hb]; exact e⟩
    rw [h0] at e
    have := Nat.two_pow_pos b
    simp at e
    omega

/-! ### What is asked of them -/
theorem slotsOf_any (b : Nat) (w : World) (h : b ≤ 8) : Calls Try.prog 45 #[.int .i64 (b : Nat)] w fun e w' => e = .returned (.int .i64 ((2 ^ b : Nat) : Int)) ∧ w' = w := by
  have : b = 0 ∨ b = 1 ∨ b = 2 ∨ b = 3 ∨ b = 4 ∨ b = 5 ∨ b = 6 ∨ b = 7 ∨ b = 8 := by omega
  rcases this with rfl | rfl | rfl | rfl | rfl | rfl | rfl | rfl | rfl
  all_goals
    go_enter Try.func45, Try.ntmps45
    go_wp2
    go_ret
    exact ⟨rfl, rfl⟩
theorem size_out (p m : Nat) (v : Value) (F : Nat → Prop) (S : St) (n : Int) (w : World) (h : PN w p m v F S) (ho : ¬ (0 ≤ n ∧ n < S.length)) :
    Calls Try.prog 18 #[.pointer (some ⟨p, 0, none⟩), .int .i64 n] w fun e w' => e = .returned (.tuple #[.int .i64 0, .bool false]) ∧ w' = w := by
  obtain ⟨c0, c1⟩ := h.cells
  obtain ⟨ao, cap, rfl, _⟩ := h.slice
  clear h
  by_cases h0 : n < 0
  · go_enter Try.func18, Try.ntmps18
    go_wp2
    all_goals go_ret2
    all_goals exact ⟨rfl, rfl⟩
  · have h1 : (S.length : Int) ≤ n := by omega
    clear ho
    go_enter Try.func18, Try.ntmps18
    go_wp2
    all_goals go_ret2
    all_goals exact ⟨rfl, rfl⟩
theorem size_in (p m : Nat) (v : Value) (F : Nat → Prop) (S : St) (j : Nat) (w : World) (h : PN w p m v F S) (hj : j < S.length) :
    Calls Try.prog 18 #[.pointer (some ⟨p, 0, none⟩), .int .i64 (j : Nat)] w fun e w' => e = .returned (.tuple #[.int .i64 (bitsL (S.getD j []) : Nat), .bool (decide (bitsL (S.getD j []) ≠ 0))]) ∧ w' = w := by
  obtain ⟨c0, c1⟩ := h.cells
  obtain ⟨ao, cap, rfl, hc⟩ := h.slice
  obtain ⟨g, rfl, hg, _⟩ := hc j hj
  clear hc h
  have hj' : (j : Int) < (S.length : Int) := by omega
  generalize bitsL (S.getD j []) = q at *
  generalize S.length = len at *
  by_cases hq : q = 0
  · subst hq
    go_enter Try.func18, Try.ntmps18
    go_wp2
    all_goals go_ret2
    all_goals exact ⟨rfl, rfl⟩
  · have hq' : ((q : Int) == 0) = false := by simp; omega
    have e : decide (q ≠ 0) = true := by simp [hq]
    rw [e]
    clear e hq
    go_enter Try.func18, Try.ntmps18
    go_wp2
    all_goals go_ret2
    all_goals exact ⟨rfl, rfl⟩
theorem size_any (p : Nat) (F : Nat → Prop) (S : St) (n : Int) (w : World) (h : Nds w p F S) :
    Calls Try.prog 18 #[.pointer (some ⟨p, 0, none⟩), .int .i64 n] w fun e w' => e = .returned (.tuple #[.int .i64 (sizeN S n), .bool (sizeB S n)]) ∧ w' = w := by
  obtain ⟨m, v, h⟩ := h
  by_cases ho : 0 ≤ n ∧ n < S.length
  · obtain ⟨j, rfl⟩ := Int.eq_ofNat_of_zero_le ho.1
    have hj : j < S.length := by omega
    refine (size_in p m v F S j w h hj).mono ?_
    rintro e w' ⟨rfl, rfl⟩
    refine ⟨?_, rfl⟩
    unfold sizeN sizeB
    rw [nodeS_nat]
    rcases h.ok.bits (node_mem hj) with ⟨e1, e2⟩ | ⟨e1, e2, _⟩
    · rw [e2, e1]; rfl
    · rw [if_neg e1, decide_eq_true (by omega)]
      congr 4
      cases hS : S.getD j [] with
      | nil => exact absurd hS e1
      | cons => rfl
  · refine (size_out p m v F S n w h ho).mono ?_
    rintro e w' ⟨rfl, rfl⟩
    refine ⟨?_, rfl⟩
    unfold sizeN sizeB
    rw [nodeS_out S n ho]
    rfl
end Go.Proofs.Ytkpoppgibempbaa

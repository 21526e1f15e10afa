/-
  How the document's own notification lies in memory: a struct of two slices, what was signalled and those that wait, each in a row of its own; what its Word, Signal, Wait and Cancel answer, and leave; no condition but that rows are short.
-/
import Derived.Test.YtbkkpfmhcfkfbaaVSep
namespace Go.Proofs.Ytbkkpfmhcfkfbaa
open Go.RowKit Go.Deep Go.Shelf

/-! ### Words in a row -/
def cU (n : Int) : List Value := [.int .u64 n]
def elU : El Int := ⟨30, 26, 1, 8, cU⟩
theorem infoU : (Try.prog.info? 30).map (fun i => (i.zero, i.size, i.bytes)) = some (some (.int .u64 0), 1, 8) := by kernel_rfl
theorem okU : El.Ok elU := ⟨Try.underlying26, info_of infoU rfl, by decide, by decide, fun _ => rfl, by simp [elU, cU, Value.oneCell']⟩
abbrev lstU (v : Value) (L : List Int) : Th := lst elU v L
theorem RowU.cell {w : World} {g cap n : Nat} {L : List Int} (h : Row elU w (.slice (some ⟨g, 0, none⟩) n cap) L) {i : Nat} {x : Int} (hi : L[i]? = some x) : w.cell? ⟨g, i, none⟩ = some (.int .u64 x) := by
  have := Row.cell okU h hi (j := 0) (c := .int .u64 x) rfl
  simpa [elU] using this
/-- All bits of all. -/
def orL (B : List Int) : Int := B.foldl orI 0
theorem orL_app (B : List Int) (g : Int) : orL (B ++ [g]) = orI (orL B) g := by simp [orL]
theorem orL_take {B : List Int} {i : Nat} {x : Int} (h : B[i]? = some x) : orL (B.take (i + 1)) = orI (orL (B.take i)) x := by
  rw [List.take_add_one, h, Option.toList_some, orL_app]
/-- What the document's own one holds of a state. -/
structure Rel (B : List Int) (S : Ns) : Prop where
  w : orL B = S.w
  b : decide (0 < B.length) = S.b
section
variable {α : Type} {E : El α} {w0 w : World} {r : Nat} {R : List Th}
theorem Sep.ontoAt (ok : El.Ok E) {u : Value} {A B : List α} (h : Sep w0 r w (lst E u A :: R)) (ad : Addr) (c : Nat) (hsrc : ∀ j v, (flatK E.enc B)[j]? = some v → w.cell? (ad.add j) = some v) (ty : TypeId) (hl : A.length + B.length ≤ 1000000) :
    ∃ v' w', (Builtin.append_ #[E.sl, E.sl] ty #[u, .slice (some ad) B.length c]).run Try.prog w = .ok v' w' ∧ Sep w0 r w' (lst E v' (A ++ B) :: R) := by
  obtain ⟨i, z, hi, z1, z2, z3, z4⟩ := ok.info
  have hs := ok.small
  obtain ⟨v', w', r1, r2, r3, _, r5⟩ := run_append_own_at (P := Try.prog) (w := w) 0 E.sl ty E.e i z E.k E.by' ok.hu hi z1 z2 z3 z4 ok.pos u A.length (flatK E.enc A) h.head ad B.length c (flatK E.enc B) (flatK_len ok.len B) hsrc (flatK_one ok.one _) (by unfold maxLen; omega) (Nat.le_trans (Nat.mul_le_mul hl hs) (by decide)) (Nat.zero_le _)
  have row : Row E w' v' (A ++ B) := by
    unfold Row
    rw [List.length_append, flatK_app]
    exact r2
  refine ⟨v', w', r1, h.turn (t := lst E u A) (t' := lst E v' (A ++ B)) row (Turn.grown r3 fun k hk => .inl hk) fun x hx => ?_⟩
  rcases r5 with e | e
  · exact .inl (e.symm.trans hx)
  · have : some w.heap.size = some x := e.symm.trans hx
    cases this
    exact .inr (Nat.le_refl _)
theorem Row.tailAt (ok : El.Ok E) {g n cap : Nat} {x : α} {B : List α} (h : Row E w (.slice (some ⟨g, 0, none⟩) n cap) (x :: B)) : ∀ j v, (flatK E.enc B)[j]? = some v → w.cell? ((⟨g, E.k, none⟩ : Addr).add j) = some v := fun j v hj => by
  have := World.ownsRow.cells h (g := g) rfl (E.k + j) v (by
    rw [flatK_cons, List.getElem?_append_right (by rw [ok.len]; omega), ok.len, Nat.add_sub_cancel_left]
    exact hj)
  rw [add_none] at this ⊢
  rw [Nat.zero_add] at this
  exact this
theorem Sep.in2 {a b c : Th} (h : Sep w0 r w (a :: b :: c :: R)) : Sep w0 r w (a :: c :: b :: R) := h.perm (List.Perm.cons _ (List.Perm.swap _ _ _))
end
/-! ### The struct -/
def objR (a b : Value) : Obj := .cells #[a, b] 29
section
variable {w0 w : World} {r k : Nat} {a b : Value} {B L : List Int} {R : List Th}
theorem Sep.cellR (s : Sep w0 r w (blk k (objR a b) :: R)) : w.cell? ⟨k, 0, none⟩ = some a ∧ w.cell? ⟨k, 1, none⟩ = some b ∧ w.frozen? ⟨k, 0, none⟩ = false ∧ w.frozen? ⟨k, 1, none⟩ = false := by
  have h : w.heap[k]? = some (objR a b) := s.head
  unfold objR at h
  refine ⟨?_, ?_, ?_, ?_⟩ <;> simp [World.cell?, World.frozen?, h]
theorem Sep.setA (s : Sep w0 r w (blk k (objR a b) :: R)) (a' : Value) : Sep w0 r (w.setCell ⟨k, 0, none⟩ a') (blk k (objR a' b) :: R) :=
  s.turn (t' := blk k (objR a' b)) (by
    have h : w.heap[k]? = some (objR a b) := s.head
    unfold objR at h
    show (w.setCell ⟨k, 0, none⟩ a').heap[k]? = some (objR a' b)
    rw [setBlock h]
    rfl) (Turn.setCell _ _ _ _ rfl) fun _ hx => .inl hx
theorem Sep.setB (s : Sep w0 r w (blk k (objR a b) :: R)) (b' : Value) : Sep w0 r (w.setCell ⟨k, 1, none⟩ b') (blk k (objR a b') :: R) :=
  s.turn (t' := blk k (objR a b')) (by
    have h : w.heap[k]? = some (objR a b) := s.head
    unfold objR at h
    show (w.setCell ⟨k, 1, none⟩ b').heap[k]? = some (objR a b')
    rw [setBlock h]
    rfl) (Turn.setCell _ _ _ _ rfl) fun _ hx => .inl hx
set_option maxHeartbeats 2000000 in
theorem rword_any (s : Sep w0 r w (blk k (objR a b) :: lstU a B :: R)) (hB : B.length ≤ 1000) :
    Calls Try.prog 18 #[ptr k] w fun e w' => e = .returned (.tuple #[.int .u64 (orL B), .bool (decide (0 < B.length))]) ∧ Below w.heap.size w w' := by
  obtain ⟨aa, ca, rfl⟩ := s.listIs (E := elU) (v := a) (A := B) (by simp)
  obtain ⟨c0, -, -, -⟩ := s.cellR
  have HS := hid s
  clear s
  generalize hNB : B.length = NB at *
  have HNB := hid hNB
  clear hNB
  go_enter Try.func18, Try.ntmps18
  go_wp2
  go_loop [4, 5] (fun s4 s5 => ∃ i : Nat, i ≤ NB ∧ s5 = .int .i64 i ∧ s4 = .int .u64 (orL (B.take i))) (fun _ s5 => NB - (intOf s5).toNat)
  case atStart => exact ⟨0, Nat.zero_le _, rfl, by simp [orL]⟩
  case round =>
    obtain ⟨i, hi, rfl, rfl⟩ := hrel
    by_cases hlt : i < NB
    · have hltz : (i : Int) < (NB : Int) := by omega
      have hi1 : i < B.length := by have := HNB.out; omega
      obtain ⟨x, hx⟩ : ∃ x, B[i]? = some x := ⟨_, List.getElem?_eq_getElem hi1⟩
      obtain ⟨g, rfl, hc⟩ := HS.out.listAt okU (ao := aa) (n := NB) (cap := ca) (A := B) (by simp) hx
      have d0 : w.cell? ⟨g, i, none⟩ = some (.int .u64 x) := by have := hc 0 _ rfl; simpa [elU] using this
      have HT := hid (orL_take hx)
      clear hc hx hi1
      generalize orL (B.take i) = y at *
      unfold orI at HT
      go_wp2
      go_round
      case rel => exact ⟨i + 1, by omega, by go_num, by rw [HT.out]⟩
      case measure => simp [intOf]; omega
    · have hltz : ¬ (i : Int) < (NB : Int) := by omega
      have e1 : B.take i = B := List.take_of_length_le (by have := HNB.out; omega)
      have HY : Hid (orL (B.take i) = orL B) := by show _ = _; rw [e1]
      clear e1 HS
      generalize orL (B.take i) = y at *
      go_wp2_with fail
      go_quiet (fail)
      go_wp2
      go_ret2
      exact ⟨by rw [← HY.out]; simp, below_drewN (Below.refl _ _) _⟩
end
end Go.Proofs.Ytbkkpfmhcfkfbaa

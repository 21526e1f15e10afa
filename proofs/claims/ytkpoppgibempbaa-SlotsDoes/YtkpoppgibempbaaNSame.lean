/-
  What Same of the document's answer answers of two lists that hold the same; no condition but their length.
-/
import Derived.Test.YtkpoppgibempbaaNHas
namespace Go.Proofs.Ytkpoppgibempbaa
open Go.RowKit Go.Deep Go.MapKept Go.Maps
set_option linter.unusedSectionVars false
variable [dCp : DecidableEq Cp] [dLim : ∀ k, Decidable (Lim k)] [dBad : ∀ k, Decidable (Bad k)] [dFit : ∀ g z, Decidable (Fit g z)] [dFine : ∀ c, Decidable (Fine c)] [dMint : ∀ c v, Decidable (MintR c v)] [dWho : ∀ x y, Decidable (Whose x y)] [dSl : DecidableEq Sl] [dLt : ∀ a b, Decidable (ltS a b)] [iSl : Inhabited Sl] [iCp : Inhabited Cp]

theorem eq_slot_at (d : Nat) (w : World) (s : Sl) : (Op.equalIn (d + 2) 30 (.agg #[.int .i64 s.n, .int .i64 s.i]) (.agg #[.int .i64 s.n, .int .i64 s.i])).run Try.prog w = .ok true w := by
  have u3 := Try.underlying3
  have a3 := Try.isAgg3
  have z3 := Try.sizeOf3
  have hS : Try.prog.underlying 30 = some (.struct (Try.prog.fieldsOf 30)) := by kernel_rfl
  have hp : Try.prog.stoodInHeld 30 = false := by kernel_rfl
  rw [run_equalIn_agg w (d + 1) 30 _ _ hS hp]
  simp only [Program.fieldsOf, Try.underlying30]
  go_simp
theorem eq_cap_at (d : Nat) (w : World) (a : Cp) : (Op.equalIn (d + 2) 33 (.agg #[.int .i64 a.k, .int .i64 a.o, .int .i64 a.r, .int .u64 a.b, .int .u64 a.g, .int .i64 a.z]) (.agg #[.int .i64 a.k, .int .i64 a.o, .int .i64 a.r, .int .u64 a.b, .int .u64 a.g, .int .i64 a.z])).run Try.prog w = .ok true w := by
  have u3 := Try.underlying3
  have u4 := Try.underlying31
  have a3 := Try.isAgg3
  have a4 := Try.isAgg31
  have z3 := Try.sizeOf3
  have z4 := Try.sizeOf31
  have hS : Try.prog.underlying 33 = some (.struct (Try.prog.fieldsOf 33)) := by kernel_rfl
  have hp : Try.prog.stoodInHeld 33 = false := by kernel_rfl
  rw [run_equalIn_agg w (d + 1) 33 _ _ hS hp]
  simp only [Program.fieldsOf, Try.underlying33]
  go_simp
theorem eq_held (w : World) (x : Sl × Cp) : (Op.equalIn 10000 50 (.agg (encH x).toArray) (.agg (encH x).toArray)).run Try.prog w = .ok true w := by
  have a1 := Try.isAgg30
  have a2 := Try.isAgg33
  have z1 := Try.sizeOf30
  have z2 := Try.sizeOf33
  have hS : Try.prog.underlying 50 = some (.struct (Try.prog.fieldsOf 50)) := by kernel_rfl
  have hp : Try.prog.stoodInHeld 50 = false := by kernel_rfl
  have e1 := fun W => eq_slot_at 9997 W x.1
  have e2 := fun W => eq_cap_at 9997 W x.2
  rw [show (10000 : Nat) = 9999 + 1 from rfl, run_equalIn_agg w 9999 50 _ _ hS hp]
  simp only [Program.fieldsOf, Try.underlying50, encH]
  go_simp
theorem OwnH.cells {B : Nat} {w : World} {ao : Option Addr} {n cap : Nat} {A : List (Sl × Cp)} (h : OwnH B w (.slice ao n cap) A) : n = A.length ∧ ∀ k x, A[k]? = some x → ∃ g, ao = some ⟨g, 0, none⟩ ∧ w.cell? ⟨g, k * 8, none⟩ = some (.int .i64 x.1.n) ∧ w.cell? ⟨g, k * 8 + 1, none⟩ = some (.int .i64 x.1.i) ∧ w.cell? ⟨g, k * 8 + 2, none⟩ = some (.int .i64 x.2.k) ∧ w.cell? ⟨g, k * 8 + 3, none⟩ = some (.int .i64 x.2.o) ∧ w.cell? ⟨g, k * 8 + 4, none⟩ = some (.int .i64 x.2.r) ∧ w.cell? ⟨g, k * 8 + 5, none⟩ = some (.int .u64 x.2.b) ∧ w.cell? ⟨g, k * 8 + 6, none⟩ = some (.int .u64 x.2.g) ∧ w.cell? ⟨g, k * 8 + 7, none⟩ = some (.int .i64 x.2.z) ∧ ∀ j, w.frozen? ⟨g, j, none⟩ = false := by
  have h' := h
  obtain ⟨_, ⟨e, h0⟩ | ⟨g, cap', cur, e, hb, hg, h1, h2, h3, h4⟩⟩ := h'
  · simp only [Value.slice.injEq] at e
    refine ⟨by omega, fun k x hk => ?_⟩
    obtain rfl : A = [] := List.eq_nil_of_length_eq_zero h0
    cases hk
  · simp only [Value.slice.injEq] at e
    obtain ⟨rfl, rfl, rfl⟩ := e
    refine ⟨rfl, fun k x hk => ⟨g, rfl, ?_⟩⟩
    have hkl : k < A.length := (List.getElem?_eq_some_iff.1 hk).1
    have key : ∀ c, c < 8 → w.cell? ⟨g, k * 8 + c, none⟩ = some ((encH x)[c]!) := fun c hc => by
      have e1 := flatH_get A (k * 8 + c) (by omega)
      have e2 : (k * 8 + c) / 8 = k := by omega
      have e3 : (k * 8 + c) % 8 = c := by omega
      rw [e2, e3, ← h4, List.getElem?_take, if_pos (by omega), List.getD_eq_getElem?_getD, hk] at e1
      simpa [World.cell?, hg] using e1
    exact ⟨key 0 (by omega), key 1 (by omega), key 2 (by omega), key 3 (by omega), key 4 (by omega), key 5 (by omega), key 6 (by omega), key 7 (by omega), fun j => by simp [World.frozen?, hg]⟩
set_option maxHeartbeats 1000000 in
theorem same_true (B B' : Nat) (ao ao' : Option Addr) (cap cap' : Nat) (A : List (Sl × Cp)) (w : World) (h : OwnH B w (.slice ao A.length cap) A) (h' : OwnH B' w (.slice ao' A.length cap') A) (hl : A.length ≤ 1000000) :
    Calls Try.prog 21 #[.slice ao A.length cap, .slice ao' A.length cap'] w fun e w' => e = .returned (.bool true) ∧ Below w.heap.size w w' := by
  have h1 := h.cells.2
  have h2 := h'.cells.2
  have HQ : ∀ W x, (Op.equalIn 10000 50 (.agg (encH x).toArray) (.agg (encH x).toArray)).run Try.prog W = .ok true W := eq_held
  clear h h'
  have H1 : Hid _ := h1
  have H2 : Hid _ := h2
  clear h1 h2
  have hl' : (A.length : Int) ≤ 1000000 := by omega
  have hne : ((A.length : Int) != (A.length : Int)) = false := by simp
  simp only [encH] at HQ
  go_enter Try.func21, Try.ntmps21
  go_wp2
  go_loopw [5] (fun i wr => ∃ k j : Nat, k ≤ A.length ∧ i = .int .i64 k ∧ wr = w.drewN j) (fun i _ => A.length - (intOf i).toNat)
  case atStart => exact ⟨0, 0, Nat.zero_le _, rfl, rfl⟩
  case round =>
    obtain ⟨k, j, hk, rfl, rfl⟩ := hrel
    by_cases hlt : k < A.length
    · obtain ⟨x, hx⟩ : ∃ x, A[k]? = some x := ⟨_, List.getElem?_eq_getElem hlt⟩
      obtain ⟨g, rfl, c0, c1, c2, c3, c4, c5, c6, c7, _⟩ := H1.out k x hx
      obtain ⟨g', rfl, d0, d1, d2, d3, d4, d5, d6, d7, _⟩ := H2.out k x hx
      have hlt' : (k : Int) < (A.length : Int) := by omega
      have HL : Hid (k < A.length) := hlt
      clear hlt hk hx H1 H2
      generalize hAl : A.length = n at *
      have HA : Hid (A.length = n) := hAl
      clear hAl
      go_wp2
      go_quiet (fail)
      go_wp2
      go_roundw
      case rel => exact ⟨k + 1, _, HL.out, by go_num, rfl⟩
      case measure => simp [intOf]; have := HL.out; omega
    · have hlt' : ¬ ((k : Int) < (A.length : Int)) := by omega
      clear hlt hk
      go_wp2
      go_ret
      exact ⟨rfl, ⟨rfl, rfl, rfl, Nat.le_refl _, fun _ _ => rfl⟩⟩
end Go.Proofs.Ytkpoppgibempbaa

/-
  What laid of the statements makes of a script of calls: a small good tree; no condition of ours.
-/
import Derived.Test.YthfoeppcageneaaTSep
namespace Go.Proofs.Ythfoeppcageneaa
set_option linter.unusedSectionVars false
variable [DecidableEq Sl]
open Go.RowKit Go.Deep Go.Shelf

/-- One call of a script. -/
structure Oc where
  k : Int
  a : Sl
  b : Sl
def objO (x : Oc) : Obj := .cells #[.int .i64 x.k, .int .i64 x.a.n, .int .i64 x.a.i, .int .i64 x.b.n, .int .i64 x.b.i] 33
def encO (x : Oc) : List Value := [.int .i64 x.k, .int .i64 x.a.n, .int .i64 x.a.i, .int .i64 x.b.n, .int .i64 x.b.i]
/-- The calls X lie where the slice leads to. -/
def Script (w : World) (ao : Option Addr) (X : List Oc) : Prop := ∀ (i : Nat) (x : Oc), X[i]? = some x → ∃ b o, ao = some ⟨b, o, none⟩ ∧ b < w.heap.size ∧ ∀ j, j < 5 → w.cell? ⟨b, o + i * 5 + j, none⟩ = some ((encO x)[j]!)
theorem op_cells {w : World} {q : Nat} {x : Oc} (h : w.heap[q]? = some (objO x)) : w.cell? ⟨q, 0, none⟩ = some (.int .i64 x.k) ∧ w.cell? ⟨q, 1, none⟩ = some (.int .i64 x.a.n) ∧ w.cell? ⟨q, 2, none⟩ = some (.int .i64 x.a.i) ∧ w.cell? ⟨q, 3, none⟩ = some (.int .i64 x.b.n) ∧ w.cell? ⟨q, 4, none⟩ = some (.int .i64 x.b.i) := by
  unfold objO at h
  refine ⟨?_, ?_, ?_, ?_, ?_⟩ <;> simp [World.cell?, h]
theorem Script.at {w w' : World} {ao : Option Addr} {X : List Oc} {i : Nat} {x : Oc} (h : Script w ao X) (hx : X[i]? = some x) {B : Nat} (u : Below B w w') (hB : w.heap.size = B) : ∃ b o, ao = some ⟨b, o, none⟩ ∧ w'.cell? ⟨b, o + i * 5, none⟩ = some (.int .i64 x.k) ∧ w'.cell? ⟨b, o + i * 5 + 1, none⟩ = some (.int .i64 x.a.n) ∧ w'.cell? ⟨b, o + i * 5 + 2, none⟩ = some (.int .i64 x.a.i) ∧ w'.cell? ⟨b, o + i * 5 + 3, none⟩ = some (.int .i64 x.b.n) ∧ w'.cell? ⟨b, o + i * 5 + 4, none⟩ = some (.int .i64 x.b.i) := by
  obtain ⟨b, o, e, hb, hc⟩ := h i x hx
  have k : ∀ j, j < 5 → w'.cell? ⟨b, o + i * 5 + j, none⟩ = some ((encO x)[j]!) := fun j hj => (u.cell (p := ⟨b, o + i * 5 + j, none⟩) (by simp only; omega)).trans (hc j hj)
  exact ⟨b, o, e, k 0 (by omega), k 1 (by omega), k 2 (by omega), k 3 (by omega), k 4 (by omega)⟩
theorem Sep.drop' {w0 : World} {r : Nat} {w : World} {p : Nat} {S : St} {t : Th} {R : List Th} (h : ∃ v', Sep w0 r w (trT p v' S :: t :: R)) : ∃ v', Sep w0 r w (trT p v' S :: R) := by
  obtain ⟨v', h⟩ := h
  exact ⟨v', h.drop2⟩
set_option maxHeartbeats 4000000 in
theorem laid_any (ao : Option Addr) (X : List Oc) (cap : Nat) (w : World) (hX : Script w ao X) :
    Calls Try.prog 21 #[.slice ao X.length cap] w fun e w' => ∃ p v S, e = .returned (.pointer (some ⟨p, 0, none⟩)) ∧ S.length ≤ 40 ∧ Good S ∧ Sep w w.heap.size w' [trT p v S] := by
  have HX : Hid (Script w ao X) := hX
  obtain ⟨r, HR⟩ : ∃ r, Hid (w.heap.size = r) := ⟨_, rfl⟩
  clear hX
  go_enter Try.func21, Try.ntmps21
  go_wp2_with fail
  refine (new_any w).mono ?_
  rintro e w1 ⟨rfl, hw1⟩
  have h1 : Hid (Sep w r w1 [trT w.heap.size (.slice none 0 0) []]) := by
    rw [hw1, ← HR.out]
    exact (sep_nil w).new (t := trT w.heap.size (.slice none 0 0) []) (new_tree w) (below_new _ _) fun x hx => hx.elim (fun e => by omega) fun e => by simp [Value.ownBlock] at e
  clear hw1
  generalize hp0 : w.heap.size = p at h1
  have HP0 : Hid (w.heap.size = p) := hp0
  clear hp0
  go_wp2
  go_loopw [4] (fun s4 wr => ∃ (k : Nat) (v : Value) (S : St), k ≤ 40 ∧ s4 = .int .i64 k ∧ S.length ≤ k ∧ Sep w r wr [trT p v S]) (fun s4 _ => 40 - (intOf s4).toNat)
  case atStart => exact ⟨0, _, [], by omega, rfl, Nat.le_refl _, h1.out⟩
  case round =>
    clear h1
    obtain ⟨k, v, S, hk, rfl, hS, hh⟩ := hrel
    by_cases hlt : k < X.length ∧ k < 40
    · obtain ⟨x, hx⟩ : ∃ x, X[k]? = some x := ⟨_, List.getElem?_eq_getElem hlt.1⟩
      obtain ⟨b, o, rfl, c0, c1, c2, c3, c4⟩ := HX.out.at hx hh.low HR.out
      have h2 : Hid (Sep w r (wr.alloc (objO x)) [trT p v S, blk wr.heap.size (objO x)]) := (hh.box (objO x)).swap
      obtain ⟨d0, d1, d2, d3, d4⟩ := op_cells (blk_alloc_new wr (objO x))
      have hk1 : (k : Int) < (X.length : Int) := by omega
      have hk2 : (k : Int) < 40 := by omega
      have HK : Hid (k < 40 ∧ S.length ≤ k ∧ S.length ≤ 1000) := ⟨hlt.2, hS, by omega⟩
      clear hlt hx hk hS hh
      simp only [objO] at *
      by_cases q0 : x.k = 0
      · have e0 : (x.k == 0) = true := by simp [q0]
        have HC : Hid _ := root_sep x.a h2.out HK.out.2.2
        clear q0
        simp only [encS] at HC
        go_wp2_with (go_at_call 12; refine Calls.mono HC.out ?_; rintro e w' ⟨rfl, g⟩)
        go_roundw
        case rel =>
          obtain ⟨v', g⟩ := Sep.drop' g
          exact ⟨k + 1, v', _, by have := HK.out; omega, by go_num, by have := rootS_len S x.a; have := HK.out; omega, g⟩
        case measure => simp [intOf]; have := HK.out; omega
      · have e0 : (x.k == 0) = false := by simp [q0]
        by_cases q1 : x.k = 1
        · have e1 : (x.k == 1) = true := by simp [q1]
          have HC : Hid _ := add_sep x.a x.b h2.out HK.out.2.2
          clear q0 q1
          simp only [encS] at HC
          go_wp2_with (go_at_call 24; refine Calls.mono HC.out ?_; rintro e w' ⟨rfl, g⟩)
          go_roundw
          case rel =>
            obtain ⟨v', g⟩ := Sep.drop' g
            exact ⟨k + 1, v', _, by have := HK.out; omega, by go_num, by have := addS_len S x.a x.b; have := HK.out; omega, g⟩
          case measure => simp [intOf]; have := HK.out; omega
        · have e1 : (x.k == 1) = false := by simp [q1]
          by_cases q2 : x.k = 2
          · have e2 : (x.k == 2) = true := by simp [q2]
            have HC : Hid _ := take_sep x.a h2.out HK.out.2.2
            clear q0 q1 q2
            simp only [encS] at HC
            go_wp2_with (go_at_call 11; refine Calls.mono HC.out ?_; rintro e w' ⟨rfl, g⟩)
            go_roundw
            case rel =>
              obtain ⟨v', g⟩ := Sep.drop' g
              exact ⟨k + 1, v', _, by have := HK.out; omega, by go_num, by have := takeS_len S x.a; have := HK.out; omega, g⟩
            case measure => simp [intOf]; have := HK.out; omega
          · have e2 : (x.k == 2) = false := by simp [q2]
            by_cases q3 : x.k = 3
            · have e3 : (x.k == 3) = true := by simp [q3]
              have HC : Hid _ := move_sep x.a x.b h2.out HK.out.2.2
              clear q0 q1 q2 q3
              simp only [encS] at HC
              go_wp2_with (go_at_call 23; refine Calls.mono HC.out ?_; rintro e w' ⟨rfl, g⟩)
              go_roundw
              case rel =>
                obtain ⟨v', g⟩ := Sep.drop' g
                exact ⟨k + 1, v', _, by have := HK.out; omega, by go_num, by have := moveS_len S x.a x.b; have := HK.out; omega, g⟩
              case measure => simp [intOf]; have := HK.out; omega
            · have e3 : (x.k == 3) = false := by simp [q3]
              clear q0 q1 q2 q3
              go_wp2
              go_roundw
              case rel => exact ⟨k + 1, v, S, by have := HK.out; omega, by go_num, by have := HK.out; omega, h2.out.drop2⟩
              case measure => simp [intOf]; have := HK.out; omega
    · have HD : Hid (S.length ≤ 40 ∧ Good S ∧ Sep w r wr [trT p v S]) := ⟨by omega, hh.head.good, hh⟩
      by_cases hk1 : k < X.length
      · have hkz : (k : Int) < (X.length : Int) := by omega
        have hkz2 : ¬ (k : Int) < 40 := by omega
        clear hlt hk1 hk hS hh
        go_wp2
        go_ret
        exact ⟨_, rfl, _, _, HD.out.1, HD.out.2.1, by rw [HR.out]; exact HD.out.2.2⟩
      · have hkz : ¬ (k : Int) < (X.length : Int) := by omega
        clear hlt hk1 hk hS hh
        go_wp2
        go_ret
        exact ⟨_, rfl, _, _, HD.out.1, HD.out.2.1, by rw [HR.out]; exact HD.out.2.2⟩
end Go.Proofs.Ythfoeppcageneaa

/-
  A row of calls, and what there of the statements says of some of them; how those that wait to send come of the calls; no condition but that rows are short.
-/
import Derived.Test.YtnondgeengjbpaaJLaw
import Derived.Test.YtnondgeengjbpaaJOdds
namespace Go.Proofs.Ytnondgeengjbpaa
open Go.RowKit Go.Deep Go.Shelf

def elO : El Oc := ⟨35, 22, 10, 80, cO⟩
theorem infoO : (Try.prog.info? 35).map (fun i => (i.zero, i.size, i.bytes)) = some (some (.agg #[.int .i64 0, .int .i64 0, .int .i64 0, .int .u64 0, .int .u64 0, .int .u64 0, .int .u64 0, .int .u64 0, .bool false, .bool false]), 10, 80) := by kernel_rfl
theorem okO : El.Ok elO := ⟨Try.underlying22, info_of infoO rfl, by decide, by decide, fun _ => rfl, by simp [elO, cO, Value.oneCell']⟩
/-- One that waits to send, as a call made it. -/
def toW (x : Oc) : Wt := ⟨x.n, true, x.m⟩
theorem sn_map (D : List Oc) : Sn (D.map toW) := by
  intro x hx
  obtain ⟨y, _, rfl⟩ := List.mem_map.1 hx
  rfl
def anO (D : List Oc) (n : Int) : Bool := D.any fun x => decide (x.n = n)
theorem anO_thB (D : List Oc) (n : Int) : thB (D.map toW) n = anO D n := by
  unfold thB anO
  rw [List.any_map]
  rfl
def cnt (D : List Oc) (n : Int) : Nat := (D.filter fun x => decide (n ≤ x.n)).length
theorem cnt_le (D : List Oc) (n : Int) : cnt D n ≤ D.length := List.length_filter_le _ _
theorem cnt_mono : ∀ (D : List Oc) (n : Int), cnt D (n + 1) ≤ cnt D n
  | [], _ => Nat.le_refl _
  | x :: D, n => by
    have := cnt_mono D n
    unfold cnt at *
    by_cases h1 : n + 1 ≤ x.n
    · have h2 : n ≤ x.n := by omega
      simp only [List.filter_cons, h1, h2, decide_true, if_true, List.length_cons]
      omega
    · by_cases h2 : n ≤ x.n
      · simp only [List.filter_cons, h1, h2, decide_true, decide_false, if_true, Bool.false_eq_true, if_false, List.length_cons]
        omega
      · simp only [List.filter_cons, h1, h2, decide_false, Bool.false_eq_true, if_false]
        exact this
theorem cnt_less : ∀ (D : List Oc) (n : Int), anO D n = true → cnt D (n + 1) < cnt D n
  | [], _, h => by simp [anO] at h
  | x :: D, n, h => by
    have hm := cnt_mono D n
    by_cases hx : x.n = n
    · have h1 : ¬ n + 1 ≤ x.n := by omega
      have h2 : n ≤ x.n := by omega
      unfold cnt at *
      simp only [List.filter_cons, h1, h2, decide_true, decide_false, if_true, Bool.false_eq_true, if_false, List.length_cons]
      omega
    · have h' : anO D n = true := by
        unfold anO at *
        simpa [hx] using h
      have hl := cnt_less D n h'
      unfold cnt at *
      by_cases h1 : n + 1 ≤ x.n
      · have h2 : n ≤ x.n := by omega
        simp only [List.filter_cons, h1, h2, decide_true, if_true, List.length_cons]
        omega
      · have h2 : ¬ n ≤ x.n := by omega
        simp only [List.filter_cons, h1, h2, decide_false, Bool.false_eq_true, if_false]
        exact hl
/-- The numbers of the calls D lie where the slice leads to. -/
def SeeO (w : World) (ao : Option Addr) (D : List Oc) : Prop := ∀ i x, D[i]? = some x → ∃ b o, ao = some ⟨b, o, none⟩ ∧ w.cell? ⟨b, o + i * 10 + 1, none⟩ = some (.int .i64 x.n)
set_option maxHeartbeats 2000000 in
theorem thereL_any (ao : Option Addr) (cap : Nat) (D : List Oc) (n : Int) (w : World) (h : SeeO w ao D) (hl : D.length ≤ 1000) :
    Calls Try.prog 23 #[.slice ao D.length cap, .int .i64 n] w fun e w' => e = .returned (.bool (anO D n)) ∧ w' = w := by
  have HS := hid h
  clear h
  generalize hN : D.length = N at *
  have HN := hid hN
  clear hN
  go_enter Try.func23, Try.ntmps23
  go_wp2
  go_loop [5] (fun s5 => ∃ k : Nat, k ≤ N ∧ s5 = .int .i64 k ∧ Hid (∀ (j : Nat) (y : Oc), j < k → D[j]? = some y → y.n ≠ n)) (fun s5 => N - (intOf s5).toNat)
  case atStart => exact ⟨0, Nat.zero_le _, rfl, fun j y hj => absurd hj (Nat.not_lt_zero _)⟩
  case round =>
    obtain ⟨k, hk, rfl, HJ⟩ := hrel
    by_cases hlt : k < N
    · have hltz : (k : Int) < (N : Int) := by omega
      have hk1 : k < D.length := by have := HN.out; omega
      have HX := hid (List.getElem?_eq_getElem hk1)
      obtain ⟨b, o, rfl, c1⟩ := HS.out k _ HX.out
      generalize D[k] = y at *
      clear hk1
      by_cases hy : y.n = n
      · have hq : (y.n == n) = true := by simpa using hy
        have HR : Hid (anO D n = true) := List.any_eq_true.2 ⟨y, List.mem_of_getElem? HX.out, by simpa using hy⟩
        clear hy
        go_wp2
        go_ret
        exact ⟨ret_one (congrArg Value.bool HR.out.symm), rfl⟩
      · have hq : (y.n == n) = false := by simpa using hy
        have HY := hid hy
        clear hy
        go_wp2
        go_round
        case rel => exact ⟨k + 1, by omega, by go_num, fun j z hj hz => by
          by_cases e : j = k
          · subst e
            rw [HX.out] at hz
            cases hz
            exact HY.out
          · exact HJ.out j z (by omega) hz⟩
        case measure => simp [intOf]; omega
    · have HR : Hid (anO D n = false) := by
        show anO D n = false
        cases hb : anO D n
        · rfl
        · obtain ⟨y, hy, e⟩ := List.any_eq_true.1 hb
          obtain ⟨j, hj, e'⟩ := List.mem_iff_getElem.1 hy
          exact absurd (by simpa using e) (HJ.out j y (by have := HN.out; omega) (by rw [List.getElem?_eq_getElem hj, e']))
      have hltz : ¬ (k : Int) < (N : Int) := by omega
      go_wp2
      go_ret
      exact ⟨ret_one (congrArg Value.bool HR.out.symm), rfl⟩
end Go.Proofs.Ytnondgeengjbpaa

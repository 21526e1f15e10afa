/-
  How the document's own space lies in memory: a struct of two slices, tables and pages, each in a row of its own; what its Has, place, Table and Walk answer; no condition but that they are few.
-/
import Derived.Test.YthjcodkgcffamaaPRel
import Derived.Test.YthjcodkgcffamaaPSep
namespace Go.Proofs.Ythjcodkgcffamaa
open Go.RowKit Go.Deep Go.Shelf
def cT (x : Ta) : List Value := [.int .i64 x.1, .int .i64 x.2]
def elT : El Ta := ⟨66, 26, 2, 16, cT⟩
theorem infoT : (Try.prog.info? 66).map (fun i => (i.zero, i.size, i.bytes)) = some (some (.agg #[.int .i64 0, .int .i64 0]), 2, 16) := by kernel_rfl
theorem okT : El.Ok elT := ⟨Try.underlying26, info_of infoT rfl, by decide, by decide, fun _ => rfl, by simp [elT, cT, Value.oneCell']⟩
abbrev lstT (v : Value) (L : List Ta) : Th := lst elT v L
def objR (a b : Value) : Obj := .cells #[a, b] 29
section
variable {w0 w : World} {r k : Nat} {a b : Value} {A : List Ta} {B : List La} {S : Sp} {R : List Th}
theorem Sep.cellR (s : Sep w0 r w (blk k (objR a b) :: R)) : w.cell? ⟨k, 0, none⟩ = some a ∧ w.cell? ⟨k, 1, none⟩ = some b ∧ w.frozen? ⟨k, 0, none⟩ = false ∧ w.frozen? ⟨k, 1, none⟩ = false := by
  have h : w.heap[k]? = some (objR a b) := s.head
  unfold objR at h
  refine ⟨?_, ?_, ?_, ?_⟩ <;> simp [World.cell?, World.frozen?, h]
theorem Sep.setA (s : Sep w0 r w (blk k (objR a b) :: R)) (a' : Value) : Sep w0 r (w.setCell ⟨k, 0, none⟩ a') (blk k (objR a' b) :: R) :=
  s.turn (t' := blk k (objR a' b)) (by
    have h : w.heap[k]? = some (objR a b) := s.head
    unfold objR at h
    show (w.setCell ⟨k, 0, none⟩ a').heap[k]? = some (objR a' b)
    rw [setBlock h]
    rfl) (Turn.setCell _ _ _ _ rfl) fun _ hx => .inl hx
theorem Sep.setB (s : Sep w0 r w (blk k (objR a b) :: R)) (b' : Value) : Sep w0 r (w.setCell ⟨k, 1, none⟩ b') (blk k (objR a b') :: R) :=
  s.turn (t' := blk k (objR a b')) (by
    have h : w.heap[k]? = some (objR a b) := s.head
    unfold objR at h
    show (w.setCell ⟨k, 1, none⟩ b').heap[k]? = some (objR a b')
    rw [setBlock h]
    rfl) (Turn.setCell _ _ _ _ rfl) fun _ hx => .inl hx
set_option maxHeartbeats 2000000 in
theorem rhas_p (s : Sep w0 r w (blk k (objR a b) :: lstT a A :: lstL b B :: R)) (i : Int) (hA : A.length ≤ 1000) : Calls Try.prog 24 #[ptr k, .int .i64 i] w fun e w' => e = .returned (.tuple #[.int .i64 ((look A i).getD 0), .bool (look A i).isSome]) ∧ w' = w := by
  obtain ⟨aa, ca, rfl⟩ := s.listIs (E := elT) (v := a) (A := A) (by simp)
  obtain ⟨c0, -, -, -⟩ := s.cellR
  have HS := hid s
  clear s
  generalize hN : A.length = N at *
  have HN := hid hN
  clear hN
  go_enter Try.func24, Try.ntmps24
  go_wp2
  go_loopw [6] (fun s6 wr => ∃ t : Nat, t ≤ N ∧ s6 = .int .i64 t ∧ wr = w ∧ Hid (∀ (j : Nat) (y : Ta), j < t → A[j]? = some y → y.1 ≠ i)) (fun s6 _ => N - (intOf s6).toNat)
  case atStart => exact ⟨0, Nat.zero_le _, rfl, rfl, fun j y hj => absurd hj (Nat.not_lt_zero _)⟩
  case round =>
    obtain ⟨t, ht, rfl, rfl, HJ⟩ := hrel
    by_cases hlt : t < N
    · have hltz : (t : Int) < (N : Int) := by omega
      have ht1 : t < A.length := by have := HN.out; omega
      obtain ⟨x, hx⟩ : ∃ x, A[t]? = some x := ⟨_, List.getElem?_eq_getElem ht1⟩
      obtain ⟨q, rfl, hc⟩ := HS.out.listAt okT (ao := aa) (n := N) (cap := ca) (A := A) (by simp) hx
      have d0 : wr.cell? ⟨q, t * 2, none⟩ = some (.int .i64 x.1) := hc 0 _ rfl
      have d1 : wr.cell? ⟨q, t * 2 + 1, none⟩ = some (.int .i64 x.2) := hc 1 _ rfl
      by_cases hxi : x.1 = i
      · have hq : (x.1 == i) = true := by simpa using hxi
        have HF : Hid (look A i = some x.2) := by
          show look A i = some x.2
          have h1 : A.find? (isAt i) = some x := by
            rw [List.find?_eq_some_iff_getElem]
            refine ⟨by simpa [isAt] using hxi, t, ht1, (List.getElem?_eq_some_iff.1 hx).2, fun j hj => ?_⟩
            have := HJ.out j A[j] hj (List.getElem?_eq_getElem (by omega))
            simpa [isAt] using this
          unfold look
          rw [h1]
          rfl
        clear hx hc ht1 hxi
        generalize x.1 = x1 at *
        generalize x.2 = x2 at *
        go_wp2
        go_ret2
        exact ⟨by rw [HF.out]; rfl, rfl⟩
      · have hq : (x.1 == i) = false := by simpa using hxi
        have HJ2 : Hid (∀ (j : Nat) (y : Ta), j < t + 1 → A[j]? = some y → y.1 ≠ i) := fun j y hj hy => by
          by_cases e : j = t
          · subst e
            rw [hx] at hy
            cases hy
            exact hxi
          · exact HJ.out j y (by omega) hy
        clear hx hc ht1 hxi
        generalize x.1 = x1 at *
        generalize x.2 = x2 at *
        go_wp2
        go_roundw
        case rel => exact ⟨t + 1, by omega, by go_num, trivial, HJ2.out⟩
        case measure => simp [intOf]; omega
    · have hltz : ¬ (t : Int) < (N : Int) := by omega
      have HF : Hid (look A i = none) := look_none.2 fun x hx => by
        obtain ⟨j, hj⟩ := List.getElem?_of_mem hx
        have := (List.getElem?_eq_some_iff.1 hj).1
        exact HJ.out j x (by have := HN.out; omega) hj
      go_wp2
      go_ret2
      exact ⟨by rw [HF.out]; rfl, rfl⟩
set_option maxHeartbeats 2000000 in
theorem rplace_none (s : Sep w0 r w (blk k (objR a b) :: lstT a A :: lstL b B :: R)) {n : Int} (hB : B.length ≤ 1000) (h : look B n = none) : Calls Try.prog 37 #[ptr k, .int .i64 n] w fun e w' => e = .returned (.int .i64 (-1)) ∧ w' = w := by
  obtain ⟨ab, cb, rfl⟩ := s.listIs (E := elL) (v := b) (A := B) (by simp)
  obtain ⟨-, c1, -, -⟩ := s.cellR
  have HS := hid s
  have HF := hid (look_none.1 h)
  clear s h
  generalize hN : B.length = N at *
  have HN := hid hN
  clear hN
  go_enter Try.func37, Try.ntmps37
  go_wp2
  go_loopw [5] (fun s5 wr => ∃ t : Nat, t ≤ N ∧ s5 = .int .i64 t ∧ wr = w) (fun s5 _ => N - (intOf s5).toNat)
  case atStart => exact ⟨0, Nat.zero_le _, rfl, rfl⟩
  case round =>
    obtain ⟨t, ht, rfl, rfl⟩ := hrel
    by_cases hlt : t < N
    · have hltz : (t : Int) < (N : Int) := by omega
      have ht1 : t < B.length := by have := HN.out; omega
      obtain ⟨x, hx⟩ : ∃ x, B[t]? = some x := ⟨_, List.getElem?_eq_getElem ht1⟩
      obtain ⟨q, rfl, hc⟩ := HS.out.listAt okL (ao := ab) (n := N) (cap := cb) (A := B) (by simp) hx
      have d0 : wr.cell? ⟨q, t * 3, none⟩ = some (.int .i64 x.1) := hc 0 _ rfl
      have hq : (x.1 == n) = false := by simpa using HF.out x (List.mem_of_getElem? hx)
      clear hx hc ht1
      generalize x.1 = x1 at *
      go_wp2
      go_roundw
      case rel => exact ⟨t + 1, by omega, by go_num, trivial⟩
      case measure => simp [intOf]; omega
    · have hltz : ¬ (t : Int) < (N : Int) := by omega
      go_wp2
      go_ret
      exact ⟨rfl, rfl⟩
set_option maxHeartbeats 2000000 in
theorem rplace_some (s : Sep w0 r w (blk k (objR a b) :: lstT a A :: lstL b B :: R)) {n : Int} {p : Pg} {z : Nat} (hB : B.length ≤ 1000) (hz : B[z]? = some (n, p)) (hb : ∀ j : Nat, j < z → ∀ y, B[j]? = some y → y.1 ≠ n) : Calls Try.prog 37 #[ptr k, .int .i64 n] w fun e w' => e = .returned (.int .i64 (z : Int)) ∧ w' = w := by
  obtain ⟨ab, cb, rfl⟩ := s.listIs (E := elL) (v := b) (A := B) (by simp)
  obtain ⟨-, c1, -, -⟩ := s.cellR
  have HS := hid s
  have HF := hid (And.intro hz hb)
  have hzl := (List.getElem?_eq_some_iff.1 hz).1
  clear s hz hb
  generalize hN : B.length = N at *
  have HN := hid hN
  clear hN
  go_enter Try.func37, Try.ntmps37
  go_wp2
  go_loopw [5] (fun s5 wr => ∃ t : Nat, t ≤ z ∧ s5 = .int .i64 t ∧ wr = w) (fun s5 _ => N - (intOf s5).toNat)
  case atStart => exact ⟨0, Nat.zero_le _, rfl, rfl⟩
  case round =>
    obtain ⟨t, ht, rfl, rfl⟩ := hrel
    have hltz : (t : Int) < (N : Int) := by omega
    have ht1 : t < B.length := by have := HN.out; omega
    obtain ⟨x, hx⟩ : ∃ x, B[t]? = some x := ⟨_, List.getElem?_eq_getElem ht1⟩
    obtain ⟨q, rfl, hc⟩ := HS.out.listAt okL (ao := ab) (n := N) (cap := cb) (A := B) (by simp) hx
    have d0 : wr.cell? ⟨q, t * 3, none⟩ = some (.int .i64 x.1) := hc 0 _ rfl
    by_cases hlt : t < z
    · have hq : (x.1 == n) = false := by simpa using HF.out.2 t hlt x hx
      clear hx hc ht1
      generalize x.1 = x1 at *
      go_wp2
      go_roundw
      case rel => exact ⟨t + 1, by omega, by go_num, trivial⟩
      case measure => simp [intOf]; omega
    · obtain rfl : t = z := by omega
      have hxn : x.1 = n := by
        have := HF.out.1
        rw [hx] at this
        cases this
        rfl
      have hq : (x.1 == n) = true := by simpa using hxn
      clear hx hc ht1 hxn
      generalize x.1 = x1 at *
      go_wp2
      go_ret
      exact ⟨rfl, rfl⟩
end
end Go.Proofs.Ythjcodkgcffamaa

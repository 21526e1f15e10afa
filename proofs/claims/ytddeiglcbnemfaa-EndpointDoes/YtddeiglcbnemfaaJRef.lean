/-
  How the document's own endpoint lies in memory: a struct of two slices, those that send and those that receive, each in a row of its own; whether one waits there; no condition but that few wait.
-/
import Derived.Test.YtddeiglcbnemfaaJRecv
namespace Go.Proofs.Ytddeiglcbnemfaa
open Go.RowKit Go.Deep Go.Shelf

def cS (x : Wt) : List Value := [.int .i64 x.n, .int .i64 x.m.l, .int .u64 x.m.a, .int .u64 x.m.b, .int .u64 x.m.c, .int .u64 x.m.d, .int .u64 x.m.g, .bool x.m.q]
def objS (x : Wt) : Obj := .cells #[.int .i64 x.n, .int .i64 x.m.l, .int .u64 x.m.a, .int .u64 x.m.b, .int .u64 x.m.c, .int .u64 x.m.d, .int .u64 x.m.g, .bool x.m.q] 57
def elS : El Wt := ⟨57, 26, 8, 64, cS⟩
theorem infoS : (Try.prog.info? 57).map (fun i => (i.zero, i.size, i.bytes)) = some (some (.agg #[.int .i64 0, .int .i64 0, .int .u64 0, .int .u64 0, .int .u64 0, .int .u64 0, .int .u64 0, .bool false]), 8, 64) := by kernel_rfl
theorem okS : El.Ok elS := ⟨Try.underlying26, info_of infoS rfl, by decide, by decide, fun _ => rfl, by simp [elS, cS, Value.oneCell']⟩
abbrev lstS (v : Value) (L : List Wt) : Th := lst elS v L
/-- The struct. -/
def objR (a b : Value) : Obj := .cells #[a, b] 29
/-- One that sends lies at o in block g. -/
def AtS (w : World) (g o : Nat) (x : Wt) : Prop := ∀ j c, (cS x)[j]? = some c → w.cell? ⟨g, o + j, none⟩ = some c
theorem AtS.cells {w : World} {g o : Nat} {x : Wt} (h : AtS w g o x) : w.cell? ⟨g, o, none⟩ = some (.int .i64 x.n) ∧ w.cell? ⟨g, o + 1, none⟩ = some (.int .i64 x.m.l) ∧ w.cell? ⟨g, o + 2, none⟩ = some (.int .u64 x.m.a) ∧ w.cell? ⟨g, o + 3, none⟩ = some (.int .u64 x.m.b) ∧ w.cell? ⟨g, o + 4, none⟩ = some (.int .u64 x.m.c) ∧ w.cell? ⟨g, o + 5, none⟩ = some (.int .u64 x.m.d) ∧ w.cell? ⟨g, o + 6, none⟩ = some (.int .u64 x.m.g) ∧ w.cell? ⟨g, o + 7, none⟩ = some (.bool x.m.q) :=
  ⟨h 0 _ rfl, h 1 _ rfl, h 2 _ rfl, h 3 _ rfl, h 4 _ rfl, h 5 _ rfl, h 6 _ rfl, h 7 _ rfl⟩
section
variable {w0 w : World} {r k : Nat} {a b : Value} {A : List Wt} {B : List Int} {R : List Th}
theorem Sep.cellR (s : Sep w0 r w (blk k (objR a b) :: R)) : w.cell? ⟨k, 0, none⟩ = some a ∧ w.cell? ⟨k, 1, none⟩ = some b ∧ w.frozen? ⟨k, 0, none⟩ = false ∧ w.frozen? ⟨k, 1, none⟩ = false := by
  have h : w.heap[k]? = some (objR a b) := s.head
  unfold objR at h
  refine ⟨?_, ?_, ?_, ?_⟩ <;> simp [World.cell?, World.frozen?, h]
theorem Sep.setA (s : Sep w0 r w (blk k (objR a b) :: R)) (a' : Value) : Sep w0 r (w.setCell ⟨k, 0, none⟩ a') (blk k (objR a' b) :: R) :=
  s.turn (t' := blk k (objR a' b)) (by
    have h : w.heap[k]? = some (objR a b) := s.head
    unfold objR at h
    show (w.setCell ⟨k, 0, none⟩ a').heap[k]? = some (objR a' b)
    rw [setBlock h]
    rfl) (Turn.setCell _ _ _ _ rfl) fun _ hx => .inl hx
theorem Sep.setB (s : Sep w0 r w (blk k (objR a b) :: R)) (b' : Value) : Sep w0 r (w.setCell ⟨k, 1, none⟩ b') (blk k (objR a b') :: R) :=
  s.turn (t' := blk k (objR a b')) (by
    have h : w.heap[k]? = some (objR a b) := s.head
    unfold objR at h
    show (w.setCell ⟨k, 1, none⟩ b').heap[k]? = some (objR a b')
    rw [setBlock h]
    rfl) (Turn.setCell _ _ _ _ rfl) fun _ hx => .inl hx
def rthB (A : List Wt) (B : List Int) (n : Int) : Bool := A.any (isW n) || B.any fun x => decide (x = n)
set_option maxHeartbeats 4000000 in
theorem rthere_sep (s : Sep w0 r w (blk k (objR a b) :: lstS a A :: lstI b B :: R)) (n : Int) (hA : A.length ≤ 1000) (hB : B.length ≤ 1000) :
    Calls Try.prog 20 #[ptr k, .int .i64 n] w fun e w' => e = .returned (.bool (rthB A B n)) ∧ w' = w := by
  obtain ⟨aa, ca, rfl⟩ := s.listIs (E := elS) (v := a) (A := A) (by simp)
  obtain ⟨ab, cb, rfl⟩ := s.listIs (E := elI) (v := b) (A := B) (by simp)
  obtain ⟨c0, c1, -, -⟩ := s.cellR
  have HS := hid s
  clear s
  generalize hNA : A.length = NA at *
  generalize hNB : B.length = NB at *
  have HNA := hid hNA
  have HNB := hid hNB
  clear hNA hNB
  go_enter Try.func20, Try.ntmps20
  go_wp2
  go_loop [5] (fun s5 => ∃ i : Nat, i ≤ NA ∧ s5 = .int .i64 i ∧ Hid (∀ (j : Nat) (y : Wt), j < i → A[j]? = some y → isW n y = false)) (fun s5 => NA - (intOf s5).toNat)
  case atStart => exact ⟨0, Nat.zero_le _, rfl, fun j y hj => absurd hj (Nat.not_lt_zero _)⟩
  case round =>
    obtain ⟨i, hi, rfl, HJ⟩ := hrel
    by_cases hlt : i < NA
    · have hltz : (i : Int) < (NA : Int) := by omega
      have hi1 : i < A.length := by have := HNA.out; omega
      have HX := hid (List.getElem?_eq_getElem hi1)
      obtain ⟨g, rfl, hc⟩ := HS.out.listAt okS (ao := aa) (n := NA) (cap := ca) (A := A) (by simp) HX.out
      have d0 := hc 0 _ rfl
      have d0' : w.cell? ⟨g, i * 8, none⟩ = some (.int .i64 A[i].n) := d0
      clear hc d0
      generalize A[i] = y at *
      clear hi1
      by_cases hy : y.n = n
      · have hq : (y.n == n) = true := by simpa using hy
        have HR : Hid (rthB A B n = true) := by
          show rthB A B n = true
          have : A.any (isW n) = true := List.any_eq_true.2 ⟨y, List.mem_of_getElem? HX.out, by simpa [isW] using hy⟩
          simp [rthB, this]
        clear hy
        go_wp2
        go_ret
        exact ⟨ret_one (congrArg Value.bool HR.out.symm), rfl⟩
      · have hq : (y.n == n) = false := by simpa using hy
        have HY := hid hy
        clear hy
        go_wp2
        go_round
        case rel => exact ⟨i + 1, by omega, by go_num, fun j z hj hz => by
          by_cases e : j = i
          · subst e
            rw [HX.out] at hz
            cases hz
            simpa [isW] using HY.out
          · exact HJ.out j z (by omega) hz⟩
        case measure => simp [intOf]; omega
    · have HA0 : Hid (A.any (isW n) = false) := by
        show A.any (isW n) = false
        cases hb : A.any (isW n)
        · rfl
        · obtain ⟨y, hy, e⟩ := List.any_eq_true.1 hb
          obtain ⟨j, hj, e'⟩ := List.mem_iff_getElem.1 hy
          have := HJ.out j y (by have := HNA.out; omega) (by rw [List.getElem?_eq_getElem hj, e'])
          rw [e] at this
          cases this
      have hltz : ¬ (i : Int) < (NA : Int) := by omega
      clear HJ
      go_wp2
      go_loop [6] (fun s6 => ∃ i : Nat, i ≤ NB ∧ s6 = .int .i64 i ∧ Hid (∀ (j : Nat) (y : Int), j < i → B[j]? = some y → y ≠ n)) (fun s6 => NB - (intOf s6).toNat)
      case atStart => exact ⟨0, Nat.zero_le _, rfl, fun j y hj => absurd hj (Nat.not_lt_zero _)⟩
      case round =>
        obtain ⟨i', hi', rfl, HJ⟩ := hrel
        by_cases hlt' : i' < NB
        · have hltz' : (i' : Int) < (NB : Int) := by omega
          have hi1 : i' < B.length := by have := HNB.out; omega
          have HX := hid (List.getElem?_eq_getElem hi1)
          obtain ⟨g, rfl, hc⟩ := HS.out.listAt okI (ao := ab) (n := NB) (cap := cb) (A := B) (by simp) HX.out
          have d0 := hc 0 _ rfl
          have d0' : w.cell? ⟨g, i', none⟩ = some (.int .i64 B[i']) := by simpa [elI] using d0
          clear hc d0
          generalize B[i'] = y at *
          clear hi1
          by_cases hy : y = n
          · have hq : (y == n) = true := by simpa using hy
            have HR : Hid (rthB A B n = true) := by
              show rthB A B n = true
              have : (B.any fun x => decide (x = n)) = true := List.any_eq_true.2 ⟨y, List.mem_of_getElem? HX.out, by simpa using hy⟩
              simp only [rthB, this, Bool.or_true]
            clear hy
            go_wp2
            go_ret
            exact ⟨ret_one (congrArg Value.bool HR.out.symm), rfl⟩
          · have hq : (y == n) = false := by simpa using hy
            have HY := hid hy
            clear hy
            go_wp2
            go_round
            case rel => exact ⟨i' + 1, by omega, by go_num, fun j z hj hz => by
              by_cases e : j = i'
              · subst e
                rw [HX.out] at hz
                cases hz
                exact HY.out
              · exact HJ.out j z (by omega) hz⟩
            case measure => simp [intOf]; omega
        · have HB0 : Hid (rthB A B n = false) := by
            show rthB A B n = false
            have : (B.any fun x => decide (x = n)) = false := by
              cases hb : B.any fun x => decide (x = n)
              · rfl
              · obtain ⟨y, hy, e⟩ := List.any_eq_true.1 hb
                obtain ⟨j, hj, e'⟩ := List.mem_iff_getElem.1 hy
                exact absurd (by simpa using e) (HJ.out j y (by have := HNB.out; omega) (by rw [List.getElem?_eq_getElem hj, e']))
            simp only [rthB, this, HA0.out, Bool.or_false]
          have hltz' : ¬ (i' : Int) < (NB : Int) := by omega
          go_wp2
          go_ret
          exact ⟨ret_one (congrArg Value.bool HB0.out.symm), rfl⟩
end
end Go.Proofs.Ytddeiglcbnemfaa

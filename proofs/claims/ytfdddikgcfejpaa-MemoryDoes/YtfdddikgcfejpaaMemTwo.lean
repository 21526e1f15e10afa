/-
  A memory and the document's own answer, side by side, and one call on both (the law's own function same): they answer alike, and hold the same words behind it; no condition of ours.
-/
import Derived.Test.YtfdddikgcfejpaaMemRefM
namespace Go.Proofs.Ytfdddikgcfejpaa
open Go.RowKit Go.Deep
/-- A memory and the document's answer that hold the same words, each in blocks of its own, from block B on. -/
structure Two (B : Nat) (w : World) (b c b' c' : Nat) (L : List Int) : Prop where
  mem : Mem 55 w b c L
  ref : Mem 42 w b' c' L
  lo : B ≤ c
  lo' : B ≤ c'
  ne : c ≠ c'
  n1 : b ≠ c'
  n2 : b' ≠ c
  hl : L.length ≤ 65536
theorem Two.below {B : Nat} {w w' : World} {b c b' c' : Nat} {L : List Int} (h : Two B w b c b' c' L) (u : Below w.heap.size w w') : Two B w' b c b' c' L := ⟨h.mem.below u, h.ref.below u, h.lo, h.lo', h.ne, h.n1, h.n2, h.hl⟩
theorem Two.upto {B d : Nat} {w w' : World} {b c b' c' : Nat} {L : List Int} (h : Two B w b c b' c' L) (u : Upto d w w') (h1 : w.heap.size ≤ d) : Two B w' b c b' c' L := by
  have q1 := h.mem.lt
  have q2 := h.mem.c_lt
  have q3 := h.ref.lt
  have q4 := h.ref.c_lt
  exact ⟨h.mem.upto u (by omega) (by omega), h.ref.upto u (by omega) (by omega), h.lo, h.lo', h.ne, h.n1, h.n2, h.hl⟩
theorem Two.size {B : Nat} {w : World} {b c b' c' : Nat} {L : List Int} (h : Two B w b c b' c' L) : B ≤ w.heap.size := by have := h.mem.c_lt; have := h.lo; omega
theorem Two.mk2 {B : Nat} {w w' : World} {b c b' c' : Nat} {L L' : List Int} (h : Two B w b c b' c' L) (m : Mem 55 w' b c L') (r : Mem 42 w' b' c' L') (e : L'.length = L.length) : Two B w' b c b' c' L' :=
  ⟨m, r, h.lo, h.lo', h.ne, h.n1, h.n2, by rw [e]; exact h.hl⟩
/-- What one call on both leaves. -/
def Left2 (B : Nat) (w w' : World) (b c b' c' : Nat) (L : List Int) : Prop := (∃ L', L'.length = L.length ∧ Two B w' b c b' c' L') ∧ Below B w w'
theorem Left2.of {B : Nat} {w w' : World} {b c b' c' : Nat} {L : List Int} (h : Two B w b c b' c' L) (u : Below w.heap.size w w') : Left2 B w w' b c b' c' L := ⟨⟨L, rfl, h.below u⟩, u.mono h.size⟩
/-- A number that is below 0, or a natural one. -/
theorem nat_of {x : Int} (h : 0 ≤ x) : ∃ n : Nat, x = n := ⟨x.toNat, by omega⟩

theorem same_read (B b c b' c' : Nat) (L : List Int) (a f n y : Int) (w : World) (h : Two B w b c b' c' L) (ha : a ≤ 9223372036854775807) :
    Calls Try.prog 13 #[.pointer (some ⟨b, 0, none⟩), .pointer (some ⟨b', 0, none⟩), .agg #[.int .i64 0, .int .i64 a, .int .i64 f, .int .i64 n, .int .u64 y]] w fun e w' => e = .returned (.bool true) ∧ Left2 B w w' b c b' c' L := by
  have B0 := below_new w (opObj 0 a f n y)
  have o1 := At.new w (opObj 0 a f n y)
  have h1 := h.below B0
  have R := Left2.of h B0
  obtain ⟨p0, p1, p2, p3, p4⟩ := o1.op
  by_cases ht : thereB L.length a 1 = true
  · obtain ⟨g1, _, g3⟩ := thereB_of ht
    obtain ⟨a, rfl⟩ := nat_of g1
    have c1 := read_yes b c L a _ h1.mem h.hl (by omega)
    have c2 := rread_yes b' c' L a _ h1.ref (by omega)
    clear h h1 o1 B0 g1 g3 ht
    generalize L.getD a 0 = x at *
    go_enter Try.func13, Try.ntmps13
    go_wp2_with fail
    refine c1.mono ?_
    rintro e w' ⟨rfl, rfl⟩
    go_wp2_with fail
    refine c2.mono ?_
    rintro e w' ⟨rfl, rfl⟩
    go_wp2
    go_ret
    exact ⟨rfl, R⟩
  · have ht' : thereB L.length a 1 = false := by simpa using ht
    have c1 := read_no b c L a _ h1.mem h.hl ha ht'
    have c2 := rread_no b' c' L a _ h1.ref ht'
    clear h h1 o1 B0 ht ht'
    go_enter Try.func13, Try.ntmps13
    go_wp2_with fail
    refine c1.mono ?_
    rintro e w' ⟨rfl, rfl⟩
    go_wp2_with fail
    refine c2.mono ?_
    rintro e w' ⟨rfl, rfl⟩
    go_wp2
    go_ret
    exact ⟨rfl, R⟩
theorem same_rest (B b c b' c' : Nat) (L : List Int) (k a f n y : Int) (w : World) (h : Two B w b c b' c' L) (h0 : (k == 0) = false) (h1 : (k == 1) = false) (h2 : (k == 2) = false) (h3 : (k == 3) = false) (h4 : (k == 4) = false) :
    Calls Try.prog 13 #[.pointer (some ⟨b, 0, none⟩), .pointer (some ⟨b', 0, none⟩), .agg #[.int .i64 k, .int .i64 a, .int .i64 f, .int .i64 n, .int .u64 y]] w fun e w' => e = .returned (.bool true) ∧ Left2 B w w' b c b' c' L := by
  have B0 := below_new w (opObj k a f n y)
  have o1 := At.new w (opObj k a f n y)
  have R := Left2.of h B0
  obtain ⟨p0, p1, p2, p3, p4⟩ := o1.op
  clear h o1 B0
  go_enter Try.func13, Try.ntmps13
  go_wp2
  go_ret
  exact ⟨rfl, R⟩
end Go.Proofs.Ytfdddikgcfejpaa

/-
  Write, Fill, Move and Words on a memory and on the document's own answer: they answer alike, and hold the same words behind it; no condition of ours.
-/
import Derived.Test.YtfdddikgcfejpaaMemTwo
namespace Go.Proofs.Ytfdddikgcfejpaa
open Go.RowKit Go.Deep
/-- Two calls, one behind the other, that turn both rows alike. -/
theorem Two.both {B b c b' c' : Nat} {L L' : List Int} {w w1 w2 w3 : World} (h : Two B w b c b' c' L) (B0 : Below w.heap.size w w1) (m2 : Mem 55 w2 b c L') (u2 : Upto c w1 w2) (e : L'.length = L.length)
    (r3 : Mem 42 w3 b' c' L') (u3 : Upto c' w2 w3) : Left2 B w w3 b c b' c' L := by
  have m3 := m2.upto u3 h.n1 h.ne
  have s1 : B ≤ w1.heap.size := Nat.le_trans h.size B0.size
  have b1 := B0.mono h.size
  have b2 := u2.below b1 s1 h.lo
  exact ⟨⟨L', e, h.mk2 m3 r3 e⟩, u3.below b2 (Nat.le_trans s1 u2.size) h.lo'⟩
theorem same_write (B b c b' c' : Nat) (L : List Int) (a f n y : Int) (w : World) (h : Two B w b c b' c' L) (ha : a ≤ 9223372036854775807) :
    Calls Try.prog 13 #[.pointer (some ⟨b, 0, none⟩), .pointer (some ⟨b', 0, none⟩), .agg #[.int .i64 1, .int .i64 a, .int .i64 f, .int .i64 n, .int .u64 y]] w fun e w' => e = .returned (.bool true) ∧ Left2 B w w' b c b' c' L := by
  have B0 := below_new w (opObj 1 a f n y)
  have o1 := At.new w (opObj 1 a f n y)
  have h1 := h.below B0
  have R := Left2.of h B0
  have q : w.heap.size ≠ c := by have := h.mem.c_lt; omega
  obtain ⟨p0, p1, p2, p3, p4⟩ := o1.op
  by_cases ht : thereB L.length a 1 = true
  · obtain ⟨g1, _, g3⟩ := thereB_of ht
    obtain ⟨a, rfl⟩ := nat_of g1
    have c1 := write_yes b c L a y _ h1.mem h.hl (by omega)
    clear ht R
    go_enter Try.func13, Try.ntmps13
    go_wp2_with fail
    refine c1.mono ?_
    rintro e w2 ⟨rfl, m2, u2⟩
    have r2 := h1.ref.upto u2 h.n2 (Ne.symm h.ne)
    obtain ⟨t0, t1, t2, t3, t4⟩ := (o1.upto u2 q).op
    clear c1 o1 p0 p1 p2 p3 p4
    have c2 := rwrite_yes b' c' L a y w2 r2 (by omega)
    go_wp2_with fail
    refine c2.mono ?_
    rintro e w3 ⟨rfl, r3, u3⟩
    have R := h.both B0 m2 u2 (by simp) r3 u3
    clear c2 m2 u2 r3 u3 h1 h B0 r2 t0 t1 t2 t3 t4
    go_wp2
    go_ret
    exact ⟨rfl, R⟩
  · have ht' : thereB L.length a 1 = false := by simpa using ht
    have c1 := write_no b c L a y _ h1.mem h.hl ha ht'
    have c2 := rwrite_no b' c' L a y _ h1.ref ht'
    clear h h1 o1 B0 ht ht'
    go_enter Try.func13, Try.ntmps13
    go_wp2_with fail
    refine c1.mono ?_
    rintro e w' ⟨rfl, rfl⟩
    go_wp2_with fail
    refine c2.mono ?_
    rintro e w' ⟨rfl, rfl⟩
    go_wp2
    go_ret
    exact ⟨rfl, R⟩
theorem same_fill (B b c b' c' : Nat) (L : List Int) (a f n y : Int) (w : World) (h : Two B w b c b' c' L) (ha : a ≤ 9223372036854775807) :
    Calls Try.prog 13 #[.pointer (some ⟨b, 0, none⟩), .pointer (some ⟨b', 0, none⟩), .agg #[.int .i64 3, .int .i64 a, .int .i64 f, .int .i64 n, .int .u64 y]] w fun e w' => e = .returned (.bool true) ∧ Left2 B w w' b c b' c' L := by
  have B0 := below_new w (opObj 3 a f n y)
  have o1 := At.new w (opObj 3 a f n y)
  have h1 := h.below B0
  have R := Left2.of h B0
  have q : w.heap.size ≠ c := by have := h.mem.c_lt; omega
  obtain ⟨p0, p1, p2, p3, p4⟩ := o1.op
  by_cases ht : thereB L.length a n = true
  · obtain ⟨g1, g2, g3⟩ := thereB_of ht
    obtain ⟨a, rfl⟩ := nat_of g1
    obtain ⟨n, rfl⟩ := nat_of g2
    have c1 := fill_yes b c L a n y _ h1.mem h.hl (by omega)
    clear ht R
    go_enter Try.func13, Try.ntmps13
    go_wp2_with fail
    refine c1.mono ?_
    rintro e w2 ⟨rfl, m2, u2⟩
    have r2 := h1.ref.upto u2 h.n2 (Ne.symm h.ne)
    obtain ⟨t0, t1, t2, t3, t4⟩ := (o1.upto u2 q).op
    clear c1 o1 p0 p1 p2 p3 p4
    have c2 := rfill_yes b' c' L a n y w2 r2 h.hl (by omega)
    go_wp2_with fail
    refine c2.mono ?_
    rintro e w3 ⟨rfl, r3, u3⟩
    have R := h.both B0 m2 u2 (fillL_len L a n y (by omega)) r3 u3
    clear c2 m2 u2 r3 u3 h1 h B0 r2 t0 t1 t2 t3 t4
    go_wp2
    go_ret
    exact ⟨rfl, R⟩
  · have ht' : thereB L.length a n = false := by simpa using ht
    have c1 := fill_no b c L a n y _ h1.mem h.hl ha ht'
    have c2 := rfill_no b' c' L a n y _ h1.ref h.hl ht'
    clear h h1 o1 B0 ht ht'
    go_enter Try.func13, Try.ntmps13
    go_wp2_with fail
    refine c1.mono ?_
    rintro e w' ⟨rfl, rfl⟩
    go_wp2_with fail
    refine c2.mono ?_
    rintro e w' ⟨rfl, rfl⟩
    go_wp2
    go_ret
    exact ⟨rfl, R⟩
theorem same_move (B b c b' c' : Nat) (L : List Int) (a f n y : Int) (w : World) (h : Two B w b c b' c' L) (ha : a ≤ 9223372036854775807) (hf : f ≤ 9223372036854775807) :
    Calls Try.prog 13 #[.pointer (some ⟨b, 0, none⟩), .pointer (some ⟨b', 0, none⟩), .agg #[.int .i64 4, .int .i64 a, .int .i64 f, .int .i64 n, .int .u64 y]] w fun e w' => e = .returned (.bool true) ∧ Left2 B w w' b c b' c' L := by
  have B0 := below_new w (opObj 4 a f n y)
  have o1 := At.new w (opObj 4 a f n y)
  have h1 := h.below B0
  have R := Left2.of h B0
  have q : w.heap.size ≠ c := by have := h.mem.c_lt; omega
  obtain ⟨p0, p1, p2, p3, p4⟩ := o1.op
  by_cases ht : thereB L.length a n = true ∧ thereB L.length f n = true
  · obtain ⟨g1, g2, g3⟩ := thereB_of ht.1
    obtain ⟨g4, _, g5⟩ := thereB_of ht.2
    obtain ⟨a, rfl⟩ := nat_of g1
    obtain ⟨f, rfl⟩ := nat_of g4
    obtain ⟨n, rfl⟩ := nat_of g2
    have c1 := move_yes b c L a f n _ h1.mem h.hl (by omega) (by omega)
    clear ht R
    go_enter Try.func13, Try.ntmps13
    go_wp2_with fail
    refine c1.mono ?_
    rintro e w2 ⟨rfl, m2, u2⟩
    have r2 := h1.ref.upto u2 h.n2 (Ne.symm h.ne)
    obtain ⟨t0, t1, t2, t3, t4⟩ := (o1.upto u2 q).op
    clear c1 o1 p0 p1 p2 p3 p4
    have c2 := rmove_yes b' c' L a f n w2 r2 h.hl (by omega) (by omega)
    go_wp2_with fail
    refine c2.mono ?_
    rintro e w3 ⟨rfl, r3, u3⟩
    have R := h.both B0 m2 u2 (moveL_len L a f n (by omega) (by omega)) r3 u3
    clear c2 m2 u2 r3 u3 h1 h B0 r2 t0 t1 t2 t3 t4
    go_wp2
    go_ret
    exact ⟨rfl, R⟩
  · have ht' : thereB L.length a n = false ∨ (thereB L.length a n = true ∧ thereB L.length f n = false) := by
      by_cases g : thereB L.length a n = true
      · exact .inr ⟨g, by simpa [g] using ht⟩
      · exact .inl (by simpa using g)
    have c1 := move_no b c L a f n _ h1.mem h.hl ha hf (ht'.imp id And.right)
    have c2 := rmove_no b' c' L a f n _ h1.ref h.hl ht'
    clear h h1 o1 B0 ht ht'
    go_enter Try.func13, Try.ntmps13
    go_wp2_with fail
    refine c1.mono ?_
    rintro e w' ⟨rfl, rfl⟩
    go_wp2_with fail
    refine c2.mono ?_
    rintro e w' ⟨rfl, rfl⟩
    go_wp2
    go_ret
    exact ⟨rfl, R⟩
theorem same_words (B b c b' c' : Nat) (L : List Int) (a f n y : Int) (w : World) (h : Two B w b c b' c' L) (ha : a ≤ 9223372036854775807) :
    Calls Try.prog 13 #[.pointer (some ⟨b, 0, none⟩), .pointer (some ⟨b', 0, none⟩), .agg #[.int .i64 2, .int .i64 a, .int .i64 f, .int .i64 n, .int .u64 y]] w fun e w' => e = .returned (.bool true) ∧ Left2 B w w' b c b' c' L := by
  have B0 := below_new w (opObj 2 a f n y)
  have o1 := At.new w (opObj 2 a f n y)
  have h1 := h.below B0
  have sB := h1.size
  obtain ⟨p0, p1, p2, p3, p4⟩ := o1.op
  have B1 := B0.mono h.size
  by_cases ht : thereB L.length a n = true
  · obtain ⟨g1, g2, g3⟩ := thereB_of ht
    obtain ⟨a, rfl⟩ := nat_of g1
    obtain ⟨n, rfl⟩ := nat_of g2
    have hlen := h.hl
    have el := wordsL_len L a n (by omega)
    have c1 := words_yes b c L a n _ h1.mem h.hl (by omega)
    have es : (w.alloc (opObj 2 a f n y)).heap.size = w.heap.size + 1 := by simp
    rw [es] at c1
    clear ht
    go_enter Try.func13, Try.ntmps13
    go_wp2_with fail
    refine c1.mono ?_
    rintro e w2 ⟨rfl, r2, b2'⟩
    have b2 : Below (w.alloc (opObj 2 a f n y)).heap.size (w.alloc (opObj 2 a f n y)) w2 := by rw [es]; exact b2'
    have h2 := h1.below b2
    have B2 := Below.then B1 b2 sB
    have q1 := h1.mem.lt
    have q2 := h1.mem.c_lt
    have q3 := h1.ref.lt
    have q4 := h1.ref.c_lt
    rw [es] at q1 q2 q3 q4 sB
    obtain ⟨t0, t1, t2, t3, t4⟩ := (o1.below b2).op
    clear c1 o1 p0 p1 p2 p3 p4 h1 B1 b2 b2' B0 h es
    generalize w.heap.size + 1 = r at *
    have c2 := rwords_yes b' c' L a n w2 h2.ref hlen (by omega)
    go_wp2_with fail
    refine c2.mono ?_
    rintro e w3 ⟨ao, cap, rfl, s3, b3⟩
    have h3 := h2.below b3
    have r3 := r2.below b3
    have B3 := Below.then B2 b3 h2.size
    clear c2 h2 r2 b3 B2 t0 t1 t2 t3 t4
    have c3 := same_yes (some ⟨r, 0, none⟩) ao (wordsL L a n) n cap w3 r3.told s3 (by omega)
    rw [el] at c3
    go_wp2_with fail
    refine c3.mono ?_
    rintro e w4 ⟨rfl, j, rfl⟩
    clear c3 s3
    have h4 := h3.below (below_drewN w3 j)
    have r4 := r3.below (below_drewN w3 j)
    have B4 := Below.then B3 (below_drewN w3 j) h3.size
    clear h3 r3 B3
    generalize w3.drewN j = w4 at *
    generalize wordsL L a n = A at *
    go_wp2
    go_loopw [16] (fun i wr => ∃ k : Nat, k ≤ n ∧ i = .int .i64 k ∧ (∃ A, A.length = n ∧ Row wr r A) ∧ Two B wr b c b' c' L ∧ Below B w wr) (fun i _ => n - (intOf i).toNat)
    case atStart => exact ⟨0, Nat.zero_le _, rfl, ⟨A, el, r4⟩, h4, B4⟩
    case round =>
      obtain ⟨k, hk, rfl, ⟨A', hA, rr⟩, hh, br⟩ := hrel
      clear h4 r4 B4
      by_cases hkn : k < n
      · have hx := rr.cell (j := k) (by omega)
        have hf := rr.frozen k
        have rr2 := rr.set k 99
        have u := (Upto.refl r wr).setCell k (.int .u64 99)
        have br2 := u.below br hh.size sB
        have hh2 : Two B (wr.setCell ⟨r, k, none⟩ (.int .u64 99)) b c b' c' L := ⟨hh.mem.upto u (by omega) (by omega), hh.ref.upto u (by omega) (by omega), hh.lo, hh.lo', hh.ne, hh.n1, hh.n2, hh.hl⟩
        have hA2 : (A'.set k 99).length = n := by simpa using hA
        generalize A'.getD k 0 = x at *
        have g3 : (k : Int) < (n : Int) := by omega
        clear rr hh br u
        go_wp2
        go_roundw
        case rel => exact ⟨k + 1, by omega, by go_num, ⟨_, hA2, rr2⟩, hh2, br2⟩
        case measure => simp [intOf]; omega
      · have hkn' : k = n := by omega
        subst hkn'
        go_wp2
        go_ret
        exact ⟨rfl, ⟨L, rfl, hh⟩, br⟩
  · have ht' : thereB L.length a n = false := by simpa using ht
    have R : ∀ j, Left2 B w ((w.alloc (opObj 2 a f n y)).drewN j) b c b' c' L := fun j => Left2.of h (Below.then B0 (below_drewN _ j) B0.size)
    have c1 := words_no b c L a n _ h1.mem h.hl ha ht'
    have c2 := rwords_no b' c' L a n _ h1.ref h.hl ht'
    clear h h1 o1 B0 ht ht' sB B1
    go_enter Try.func13, Try.ntmps13
    go_wp2_with fail
    refine c1.mono ?_
    rintro e w' ⟨rfl, rfl⟩
    go_wp2_with fail
    refine c2.mono ?_
    rintro e w' ⟨rfl, rfl⟩
    go_wp2_with fail
    refine (same_yes none none [] 0 0 _ (.inl rfl) (.inl rfl) (by simp)).mono ?_
    rintro e w' ⟨rfl, j, rfl⟩
    go_wp2
    refine wp_loop_rounds 1 ?_
    rw [rounds_succ]
    go_wp2
    go_ret
    exact ⟨rfl, R j⟩
end Go.Proofs.Ytfdddikgcfejpaa

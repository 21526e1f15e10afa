/-
  What Has, anywhere, Walk, Map, Rights, Unmap, Table, Drop, Pages and Frames of package tables answer, and leave; no condition.
-/
import Derived.Test.YthjcodkgcffamaaPMeth
namespace Go.Proofs.Ythjcodkgcffamaa
open Go.RowKit Go.Deep Go.Shelf

section
variable {w0 w : World} {r p : Nat} {m : Nat → Option Nat} {S : Sp} {R : List Th}
set_option maxRecDepth 100000 in
theorem has_p (h : SpP p m S w) (i : Int) : Calls Try.prog 23 #[ptr p, .int .i64 i] w fun e w' => e = .returned (.tuple #[.int .i64 (hasN S i), .bool (hasB S i)]) ∧ w' = w := by
  by_cases hi : 0 ≤ i ∧ i < 64
  · obtain ⟨h0, h1⟩ := hi
    obtain ⟨k, rfl⟩ := Int.eq_ofNat_of_zero_le h0
    have hk : k < 64 := by omega
    have hc := h.cell hk
    have hn := h.cellN hk
    have his := h.is k hk
    have HP := hid (isPlace_yes (k : Int) w h0 h1)
    clear h
    cases hm : m k with
    | none =>
      rw [hm] at hc his
      have hq := map_nil
      have hb : hasB S k = false := by rw [← his]; rfl
      have he : hasN S k = 0 := by
        unfold hasB at hb
        unfold hasN
        rw [Option.isSome_eq_false_iff, Option.isNone_iff_eq_none] at hb
        rw [hb]
        rfl
      rw [he, hb]
      clear his hb he hn
      go_enter Try.func23, Try.ntmps23
      go_wp2_with (go_at_call 32; refine Calls.mono HP.out ?_; rintro e w' ⟨rfl, rfl⟩)
      go_ret2
      exact ⟨rfl, rfl⟩
    | some b =>
      rw [hm] at hc his
      have hq := fun w => map_is w b
      have hb : hasB S k = true := by rw [← his]; rfl
      rw [hb]
      clear his hb
      generalize hasN S k = n at *
      go_enter Try.func23, Try.ntmps23
      go_wp2_with (go_at_call 32; refine Calls.mono HP.out ?_; rintro e w' ⟨rfl, rfl⟩)
      go_ret2
      exact ⟨rfl, rfl⟩
  · have hn := h.good.outT (i := i) (by omega)
    have HP := hid (isPlace_no i w (by omega))
    have e1 : hasN S i = 0 := by unfold hasN; rw [hn]; rfl
    have e2 : hasB S i = false := by unfold hasB; rw [hn]; rfl
    rw [e1, e2]
    clear h hi hn e1 e2
    go_enter Try.func23, Try.ntmps23
    go_wp2_with (go_at_call 32; refine Calls.mono HP.out ?_; rintro e w' ⟨rfl, rfl⟩)
    go_ret2
    exact ⟨rfl, rfl⟩
theorem has_sep (s : Sep w0 r w (spT p m S :: R)) (i : Int) : Calls Try.prog 23 #[ptr p, .int .i64 i] w fun e w' => e = .returned (.tuple #[.int .i64 (hasN S i), .bool (hasB S i)]) ∧ Sep w0 r w' (spT p m S :: R) := by
  refine Calls.mono (has_p s.head i) ?_
  rintro e w' ⟨rfl, rfl⟩
  exact ⟨rfl, s⟩
theorem any_here {S : Sp} {n : Int} {k : Nat} (hk : k < 64) (h : S.t k = some n) : anyT S n = true := anyT_true.2 ⟨k, hk, h⟩
theorem any_no {S : Sp} {n : Int} (h : ∀ k : Nat, k < 64 → S.t k ≠ some n) : anyT S n = false := by
  cases e : anyT S n with
  | false => rfl
  | true =>
    obtain ⟨k, hk, h2⟩ := anyT_true.1 e
    exact absurd h2 (h k hk)
set_option maxRecDepth 100000 in
set_option maxHeartbeats 1000000 in
theorem anywhere_p (h : SpP p m S w) (n : Int) : Calls Try.prog 33 #[ptr p, .int .i64 n] w fun e w' => e = .returned (.bool (anyT S n)) ∧ w' = w := by
  have HP := hid (fun i => has_p h i)
  have HY : Hid (∀ k : Nat, k < 64 → S.t k = some n → anyT S n = true) := fun k hk h => any_here hk h
  have HN : Hid ((∀ k : Nat, k < 64 → S.t k ≠ some n) → anyT S n = false) := any_no
  clear h
  generalize anyT S n = q at *
  go_enter Try.func33, Try.ntmps33
  go_wp2
  go_loopw [8] (fun v8 wr => ∃ k : Nat, k ≤ 64 ∧ v8 = .int .i64 k ∧ wr = w ∧ Hid (∀ j : Nat, j < k → S.t j ≠ some n)) (fun v8 _ => 64 - (intOf v8).toNat)
  case atStart => exact ⟨0, Nat.zero_le _, rfl, rfl, fun j hj => absurd hj (by omega)⟩
  case round =>
    obtain ⟨k, hk, rfl, rfl, HJ⟩ := hrel
    by_cases hlt : k < 64
    · have hltz : (k : Int) < 64 := by omega
      have HC := hid (HP.out (k : Int))
      have HYk := hid (HY.out k hlt)
      have hstep : Hid (S.t k ≠ some n → ∀ j : Nat, j < k + 1 → S.t j ≠ some n) := fun h j hj => by
        by_cases e : j = k
        · rw [e]; exact h
        · exact HJ.out j (by omega)
      unfold hasN hasB at HC
      cases ht : S.t (k : Int) with
      | none =>
        rw [ht] at HC
        simp only [Option.getD_none, Option.isSome_none] at HC
        have HR := hid (hstep.out (by rw [ht]; simp))
        clear HYk hstep
        go_wp2_with (go_at_call 23; refine Calls.mono HC.out ?_; rintro e w' ⟨rfl, rfl⟩)
        go_roundw
        case rel => exact ⟨k + 1, by omega, by go_num, trivial, HR.out⟩
        case measure => simp [intOf]; omega
      | some x =>
        rw [ht] at HC HYk
        simp only [Option.getD_some, Option.isSome_some] at HC
        by_cases hx : x = n
        · have hx2 : (x == n) = true := by simpa using hx
          have HQ : Hid (q = true) := HYk.out (by rw [hx])
          have HX := hid hx
          clear hx hstep HYk
          go_wp2_with (go_at_call 23; refine Calls.mono HC.out ?_; rintro e w' ⟨rfl, rfl⟩)
          go_ret
          exact ⟨by rw [HQ.out]; rfl, rfl⟩
        · have hx2 : (x == n) = false := by simpa using hx
          have HR := hid (hstep.out (by rw [ht]; simpa using hx))
          clear hx hstep HYk
          go_wp2_with (go_at_call 23; refine Calls.mono HC.out ?_; rintro e w' ⟨rfl, rfl⟩)
          go_roundw
          case rel => exact ⟨k + 1, by omega, by go_num, trivial, HR.out⟩
          case measure => simp [intOf]; omega
    · have hltz : ¬ (k : Int) < 64 := by omega
      have HQ : Hid (q = false) := HN.out fun j hj => HJ.out j (by omega)
      go_wp2
      go_ret
      exact ⟨by rw [HQ.out]; rfl, rfl⟩
/-- A result of two cells, in a block of its own. -/
structure Bx (q : Nat) (u : World) : Prop where
  lt : q < u.heap.size
  c0 : ∃ v, u.cell? ⟨q, 0, none⟩ = some v
  c1 : ∃ v, u.cell? ⟨q, 1, none⟩ = some v
  fz : ∀ j, u.frozen? ⟨q, j, none⟩ = false
theorem Bx.new (w : World) (a b : Value) (t : TypeId) : Bx w.heap.size (w.alloc (.cells #[a, b] t)) :=
  ⟨by simp, ⟨a, by simp [go_sem]⟩, ⟨b, by simp [go_sem]⟩, fun j => by simp [go_sem]⟩
theorem Bx.keep {q : Nat} {u u' : World} (h : Bx q u) (hs : u.heap.size ≤ u'.heap.size) (k : u'.heap[q]? = u.heap[q]?) : Bx q u' := by
  obtain ⟨lt, ⟨a, ha⟩, ⟨b, hb⟩, fz⟩ := h
  exact ⟨Nat.lt_of_lt_of_le lt hs, ⟨a, by simp only [World.cell?, k] at *; exact ha⟩, ⟨b, by simp only [World.cell?, k] at *; exact hb⟩, fun j => by have := fz j; simp only [World.frozen?, k] at *; exact this⟩
theorem Bx.below {q : Nat} {u u' : World} (h : Bx q u) (k : Below u.heap.size u u') : Bx q u' := h.keep k.size (k.block q h.lt)
theorem below_two {B q : Nat} {w u : World} (h : Below B w u) (hq : B ≤ q) (a b : Value) : Below B w ((u.setCell ⟨q, 0, none⟩ a).setCell ⟨q, 1, none⟩ b) :=
  ⟨h.os, h.tape, h.output, by rw [nblk_setCell, nblk_setCell]; exact h.size, fun k hk => (blk_setCell_other _ _ _ _ (by simp only; omega)).trans ((blk_setCell_other _ _ _ _ (by simp only; omega)).trans (h.block k hk))⟩
theorem Turn.two {F : Nat → Prop} {q : Nat} {w u : World} (h : Turn F w u) (hq : w.heap.size ≤ q) (a b : Value) : Turn F w ((u.setCell ⟨q, 0, none⟩ a).setCell ⟨q, 1, none⟩ b) :=
  ⟨h.os, h.tape, h.output, by rw [nblk_setCell, nblk_setCell]; exact h.size, fun k hk hF => (blk_setCell_other _ _ _ _ (by simp only; omega)).trans ((blk_setCell_other _ _ _ _ (by simp only; omega)).trans (h.block k hk hF))⟩
theorem SpP.two {q : Nat} {u : World} (h : SpP p m S u) (hq : ∀ x, fpS p m x → x ≠ q) (a b : Value) : SpP p m S ((u.setCell ⟨q, 0, none⟩ a).setCell ⟨q, 1, none⟩ b) :=
  h.keep fun x hx => (blk_setCell_other _ _ _ _ (hq x hx)).trans (blk_setCell_other _ _ _ _ (hq x hx))
/-- What mapped answers, one text. -/
def mpE (S : Sp) (n : Int) : Int := if n < 0 ∨ 4096 ≤ n then 1 else if (S.f n).isSome = true then 0 else 141
def mpM (m : Nat → Option Nat) (S : Sp) (n : Int) : Option Nat := if mpE S n = 0 then m (n / 64).toNat else none
theorem mapped_p (h : SpP p m S w) (n : Int) : Calls Try.prog 38 #[ptr p, .int .i64 n] w fun e w' => e = .returned (.tuple #[.map (mpM m S n), .agg #[.int .i64 (wlkP S n).fr, .int .i64 (wlkP S n).rt], .int .i64 (mpE S n)]) ∧ Below w.heap.size w w' := by
  by_cases hn : n < 0 ∨ 4096 ≤ n
  · have h0 := h.good.out hn
    have e1 : mpE S n = 1 := by unfold mpE; rw [if_pos hn]
    have e2 : mpM m S n = none := by unfold mpM; rw [e1]; rfl
    have e3 : wlkP S n = pg0 := by unfold wlkP; rw [h0]; rfl
    rw [e1, e2, e3]
    exact mapped_bad n hn w
  · obtain ⟨N, rfl⟩ := Int.eq_ofNat_of_zero_le (show 0 ≤ n by omega)
    have hN : N < 4096 := by omega
    cases hf : S.f N with
    | none =>
      have e1 : mpE S N = 141 := by unfold mpE; rw [if_neg hn, hf]; rfl
      have e2 : mpM m S N = none := by unfold mpM; rw [e1]; rfl
      have e3 : wlkP S N = pg0 := by unfold wlkP; rw [hf]; rfl
      rw [e1, e2, e3]
      exact mapped_none h N hN hf
    | some x =>
      have e1 : mpE S N = 0 := by unfold mpE; rw [if_neg hn, hf]; rfl
      have e2 : mpM m S N = m (N / 64) := by unfold mpM; rw [e1, if_pos rfl]; congr 1
      have e3 : wlkP S N = x := by unfold wlkP; rw [hf]; rfl
      rw [e1, e2, e3]
      exact mapped_some h N hN hf
theorem mpE_b (h : SpP p m S w) (n : Int) : (mpE S n == 0) = wlkB S n := by
  unfold mpE wlkB
  by_cases hn : n < 0 ∨ 4096 ≤ n
  · rw [if_pos hn, h.good.out hn]; rfl
  · rw [if_neg hn]
    cases S.f n <;> rfl
set_option maxRecDepth 100000 in
set_option maxHeartbeats 1000000 in
theorem walk_p (h : SpP p m S w) (n : Int) : Calls Try.prog 21 #[ptr p, .int .i64 n] w fun e w' => e = .returned (.tuple #[.agg #[.int .i64 (wlkP S n).fr, .int .i64 (wlkP S n).rt], .bool (wlkB S n)]) ∧ Below w.heap.size w w' := by
  have HP := hid (mapped_p (h.below (below_new w (.cells #[.int .i64 0, .int .i64 0] 31))) n)
  have hb := mpE_b h n
  clear h
  rw [← hb]
  clear hb
  generalize mpE S n = E at *
  generalize (wlkP S n).fr = a at *
  generalize (wlkP S n).rt = c at *
  go_enter Try.func21, Try.ntmps21
  go_wp2_with (go_at_call 38; refine Calls.mono HP.out ?_; rintro e w1 ⟨rfl, b1⟩; have bx := ((Bx.new w (.int .i64 0) (.int .i64 0) 31).below b1).below (below_new w1 (.cells #[.int .i64 a, .int .i64 c] 31)); obtain ⟨v0, c0⟩ := bx.c0; obtain ⟨v1, c1⟩ := bx.c1; have f0 := bx.fz; have HB : Hid (Below w.heap.size w (w1.alloc (.cells #[.int .i64 a, .int .i64 c] 31))) := Below.then (Below.then (below_new _ _) b1 (by simp)) (below_new _ _) (Nat.le_trans (by simp) b1.size); clear b1 bx)
  exact bodyPost_ret (v := .tuple #[.agg #[.int .i64 a, .int .i64 c], .bool (E == 0)]) (by simp [results, Try.results21, go_sem, c0, c1]) rfl ⟨rfl, below_two HB.out (Nat.le_refl _) _ _⟩
theorem walk_sep (s : Sep w0 r w (spT p m S :: R)) (n : Int) : Calls Try.prog 21 #[ptr p, .int .i64 n] w fun e w' => e = .returned (.tuple #[.agg #[.int .i64 (wlkP S n).fr, .int .i64 (wlkP S n).rt], .bool (wlkB S n)]) ∧ Sep w0 r w' (spT p m S :: R) := by
  refine Calls.mono (walk_p s.head n) ?_
  rintro e w' ⟨rfl, b⟩
  exact ⟨rfl, s.below b⟩
/-! ### A page is written -/
theorem at_del (f : Int → Option Pg) (N i : Int) (n : Int) : atPl (upd f N none) i n = delF (atPl f i) N n := by
  unfold atPl upd delF
  by_cases h : n = N
  · simp [h]
  · simp [h]
theorem at_put (f : Int → Option Pg) {N i : Int} (h : N / 64 = i) (c : Pg) (n : Int) : atPl (upd f N (some c)) i n = updF (atPl f i) N c n := by
  unfold atPl upd updF
  by_cases e : n = N
  · simp [e, h]
  · simp [e]
theorem at_other (f : Int → Option Pg) {N i : Int} (h : N / 64 ≠ i) (c : Option Pg) (n : Int) : atPl (upd f N c) i n = atPl f i n := by
  unfold atPl upd
  by_cases e : n = N
  · simp [e, h]
  · simp [e]
theorem SpP.sep {w' : World} {m' : Nat → Option Nat} {T : Sp} (s : Sep w0 r w (spT p m S :: R)) (h : SpP p m' T w') (k : Turn (fpS p m) w w') (o : Out (fpS p m) (fpS p m') w) : Sep w0 r w' (spT p m' T :: R) :=
  s.turn (t := spT p m S) (t' := spT p m' T) h k o
set_option maxRecDepth 100000 in
set_option maxHeartbeats 1000000 in
theorem unmap_p (h : SpP p m S w) (n : Int) : Calls Try.prog 18 #[ptr p, .int .i64 n] w fun e w' => e = .returned (.tuple #[.agg #[.int .i64 (wlkP S n).fr, .int .i64 (wlkP S n).rt], .int .i64 (unmE S n)]) ∧ SpP p m (unmS S n) w' ∧ Turn (fpS p m) w w' := by
  have HP := hid (mapped_p (h.below (below_new w (.cells #[.int .i64 0, .int .i64 0] 31))) n)
  have HS := hid h
  have hE : unmE S n = mpE S n := rfl
  by_cases h0 : mpE S n = 0
  · have hS : unmS S n = ⟨S.t, upd S.f n none⟩ := by unfold unmS; rw [hE, if_pos h0]
    obtain ⟨n0, n1, x, hx⟩ := unmE_ok (hE.trans h0)
    have hi : (n / 64).toNat < 64 := by omega
    have hin : (((n / 64).toNat : Nat) : Int) = n / 64 := by omega
    obtain ⟨b, hb⟩ : ∃ b, m (n / 64).toNat = some b := by
      have h1 := h.is _ hi
      unfold hasB at h1
      rw [hin, (h.good.f _ _ hx).2.2] at h1
      exact Option.isSome_iff_exists.1 h1
    have hM : mpM m S n = some b := by unfold mpM; rw [if_pos h0, hb]
    have HG := hid (good_unm h.good n)
    rw [hS] at HG ⊢
    rw [hE, h0]
    rw [h0, hM] at HP
    have hbw : b < w.heap.size := h.fp_lt b (.inr ⟨_, hi, hb⟩)
    clear hE h0 hM hx h
    generalize hi2 : (n / 64).toNat = i at *
    have HI := hid (And.intro hi (And.intro hb hin))
    clear hi hb hin hi2
    generalize (wlkP S n).fr = a at *
    generalize (wlkP S n).rt = c at *
    go_enter Try.func18, Try.ntmps18
    go_wp2_with (go_at_call 38; refine Calls.mono HP.out ?_; rintro e w1 ⟨rfl, b1⟩; have bel : Below w.heap.size w (w1.alloc (.cells #[.int .i64 a, .int .i64 c] 31)) := Below.then (Below.then (below_new _ _) b1 (by simp)) (below_new _ _) (Nat.le_trans (by simp) b1.size); have bx := ((Bx.new w (.int .i64 0) (.int .i64 0) 31).below b1).below (below_new w1 (.cells #[.int .i64 a, .int .i64 c] 31)); have b0 : w1.heap.size < (w1.alloc (.cells #[.int .i64 a, .int .i64 c] 31)).heap.size := (by simp); have bw : w.heap.size < w1.heap.size := Nat.lt_of_lt_of_le (by simp) b1.size; have h2 := HS.out.below bel; have hm2 := h2.maps i HI.out.1; rw [HI.out.2.1] at hm2; obtain ⟨w3, hst, m3, g3, z3⟩ := hm2.is.drop (s := n) (by unfold I64; omega) 0; obtain ⟨h3, t3⟩ := h2.mapped HI.out.1 HI.out.2.1 m3 g3 (fun k => at_del S.f n i k) (fun j k hj => at_other S.f (by have := HI.out.2.2; omega) none k) HG.out; have k3 := bx.keep (by omega) (g3.block _ bx.lt (fun e => by cases e; omega)); have q3 : w3.heap[w1.heap.size]? = some (.cells #[.int .i64 a, .int .i64 c] 31 (0, 0)) := (g3.block _ b0 (fun e => by cases e; omega)).trans (blk_alloc_new _ _); have d0 : w3.cell? ⟨w1.heap.size, 0, none⟩ = some (.int .i64 a) := (by simp [World.cell?, q3]); have d1 : w3.cell? ⟨w1.heap.size, 1, none⟩ = some (.int .i64 c) := (by simp [World.cell?, q3]); obtain ⟨v0, c0⟩ := k3.c0; obtain ⟨v1, c1⟩ := k3.c1; have f0 := k3.fz; have HK := hid (And.intro h3 ((Turn.of bel (fpS p m)).trans t3 (fun x hx => .inl hx))); clear b1 bel bx h2 hm2 m3 g3 z3 h3 t3 k3 q3 b0 bw)
    exact bodyPost_ret (v := .tuple #[.agg #[.int .i64 a, .int .i64 c], .int .i64 0]) (by simp [results, Try.results18, go_sem, c0, c1]) rfl ⟨rfl, HK.out.1.two (fun x hx => Nat.ne_of_lt (HS.out.fp_lt x hx)) _ _, HK.out.2.two (Nat.le_refl _) _ _⟩
  · have hS : unmS S n = S := by unfold unmS; rw [hE, if_neg h0]
    have hW : wlkP S n = pg0 := by
      have := mpE_b h n
      have h1 : (mpE S n == 0) = false := by simpa using h0
      rw [h1] at this
      unfold wlkB at this
      unfold wlkP
      have h2 : S.f n = none := by
        cases e : S.f n with
        | none => rfl
        | some x => rw [e] at this; cases this
      rw [h2]
      rfl
    rw [hS, hW, hE]
    rw [hW] at HP
    simp only [pg0] at HP ⊢
    clear h hS hW hE
    generalize mpE S n = E at *
    have h1 : (E != 0) = true := by simpa using h0
    go_enter Try.func18, Try.ntmps18
    go_wp2_with (go_at_call 38; refine Calls.mono HP.out ?_; rintro e w1 ⟨rfl, b1⟩; have bx := ((Bx.new w (.int .i64 0) (.int .i64 0) 31).below b1).below (below_new w1 (.cells #[.int .i64 0, .int .i64 0] 31)); obtain ⟨v0, c0⟩ := bx.c0; obtain ⟨v1, c1⟩ := bx.c1; have f0 := bx.fz; have HB : Hid (Below w.heap.size w (w1.alloc (.cells #[.int .i64 0, .int .i64 0] 31))) := Below.then (Below.then (below_new _ _) b1 (by simp)) (below_new _ _) (Nat.le_trans (by simp) b1.size); clear b1 bx)
    exact bodyPost_ret (v := .tuple #[.agg #[.int .i64 0, .int .i64 0], .int .i64 E]) (by simp [results, Try.results18, go_sem, c0, c1]) rfl ⟨rfl, HS.out.below (below_two HB.out (Nat.le_refl _) _ _), Turn.of (below_two HB.out (Nat.le_refl _) _ _) _⟩
theorem unmap_sep (s : Sep w0 r w (spT p m S :: R)) (n : Int) : Calls Try.prog 18 #[ptr p, .int .i64 n] w fun e w' => e = .returned (.tuple #[.agg #[.int .i64 (wlkP S n).fr, .int .i64 (wlkP S n).rt], .int .i64 (unmE S n)]) ∧ Sep w0 r w' (spT p m (unmS S n) :: R) := by
  refine Calls.mono (unmap_p s.head n) ?_
  rintro e w' ⟨rfl, h, k⟩
  exact ⟨rfl, SpP.sep s h k (Out.refl _ _)⟩
end
end Go.Proofs.Ythjcodkgcffamaa

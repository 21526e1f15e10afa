/-
  What Recv of package endpoint answer, and leave; no condition but that few wait.
-/
import Derived.Test.YtddeiglcbnemfaaJNext
import Derived.Test.YtddeiglcbnemfaaJMeth
namespace Go.Proofs.Ytddeiglcbnemfaa
open Go.RowKit Go.Deep Go.Shelf

def put10 (w : World) (q : Nat) (x : Mt) : World := ((((((((((w.setCell ⟨q, 0, none⟩ (.bool x.i)).setCell ⟨q, 1, none⟩ (.int .i64 x.f)).setCell ⟨q, 2, none⟩ (.int .i64 x.t)).setCell ⟨q, 3, none⟩ (.int .i64 x.m.l)).setCell ⟨q, 4, none⟩ (.int .u64 x.m.a)).setCell ⟨q, 5, none⟩ (.int .u64 x.m.b)).setCell ⟨q, 6, none⟩ (.int .u64 x.m.c)).setCell ⟨q, 7, none⟩ (.int .u64 x.m.d)).setCell ⟨q, 8, none⟩ (.int .u64 x.m.g)).setCell ⟨q, 9, none⟩ (.bool x.m.q))
theorem turn_put10 (F : Nat → Prop) (w : World) (q : Nat) (x : Mt) (h : F q) : Turn F w (put10 w q x) := by
  unfold put10
  have st : ∀ {a b : World} (k : Turn F a b) (o : Nat) (v : Value), Turn F a (b.setCell ⟨q, o, none⟩ v) := fun k o v => k.trans (Turn.setCell F _ ⟨q, o, none⟩ v h) fun x hx => .inl hx
  exact st (st (st (st (st (st (st (st (st (st (Turn.refl F w) _ _) _ _) _ _) _ _) _ _) _ _) _ _) _ _) _ _) _ _
theorem put10_at {w : World} {q : Nat} {y : Mt} (h : w.heap[q]? = some (objT y)) (x : Mt) : (put10 w q x).heap[q]? = some (objT x) := by
  unfold put10
  unfold objT at *
  rw [setBlock (setBlock (setBlock (setBlock (setBlock (setBlock (setBlock (setBlock (setBlock (setBlock h _) _) _) _) _) _) _) _) _) _]
  simp
theorem nextX_yes {S : St} {b : Bool} (h : hasB S b = true) : ∃ x T, S = x :: T ∧ x.s = b ∧ nextX S b = x ∧ nextS S b = T := by
  match S, h with
  | x :: T, h =>
    have hx : (x.s == b) = true := h
    exact ⟨x, T, rfl, by simpa using hx, by simp [nextX, hx], by simp [nextS, h]⟩
theorem nextX_no {S : St} {b : Bool} (h : hasB S b = false) : nextX S b = wt0 ∧ nextS S b = S := by
  refine ⟨?_, by simp [nextS, h]⟩
  match S, h with
  | [], _ => rfl
  | x :: T, hb =>
    have : (x.s == b) = false := hb
    simp [nextX, this]
section
variable {w0 w : World} {r p : Nat} {v : Value} {S : St} {R : List Th}
theorem Sep.putT {q : Nat} {y : Mt} (h : Sep w0 r w (blk q (objT y) :: R)) (x : Mt) : Sep w0 r (put10 w q x) (blk q (objT x) :: R) :=
  h.turn (t' := blk q (objT x)) (put10_at h.head x) (turn_put10 _ _ _ _ rfl) fun _ hx => .inl hx
/-- One more waits. -/
theorem Sep.moreW (s : Sep w0 r w (epT p v S :: R)) (x : Wt) (g : Good (S ++ [x])) (hl : S.length ≤ 1000) {C : Array Value} (hC : C.toList = cW x) :
    ∃ a n c w', (Builtin.append_ #[49, 49] 49 #[v, .slice (some ⟨w.heap.size, 0, none⟩) 1 1]).run Try.prog (w.alloc (.cells C 53)) = .ok (.slice a n c) w' ∧ w'.cell? ⟨p, 0, none⟩ = some v ∧ w'.frozen? ⟨p, 0, none⟩ = false ∧ Sep w0 r (w'.setCell ⟨p, 0, none⟩ (.slice a n c)) (epT p (.slice a n c) (S ++ [x]) :: R) := by
  have s1 := s.below (below_new w (.cells C 53))
  obtain ⟨v', w', r1, r2, r3, r4⟩ := append_one (E := elW) okW 49 x w.heap.size (EpH.row s1.head) (fun j c hj => by
    have := blk_alloc_new w (.cells C 53)
    simp only [World.cell?]
    rw [this]
    have hj' : (cW x)[j]? = some c := hj
    rw [← hC] at hj'
    simpa using hj') (by omega)
  obtain ⟨a, c, rfl, -⟩ := r2.slice
  have h1 : EpH p v S (w.alloc (.cells C 53)) := s1.head
  have hb := r3.block p (Array.getElem?_eq_some_iff.1 h1.head).1 fun e => h1.ne e.symm
  refine ⟨a, _, c, w', r1, ?_, ?_, s1.regrow r3 r2 ?_ g⟩
  · simp only [World.cell?, hb, h1.head]
    rfl
  · simp only [World.frozen?, hb, h1.head]
    rfl
  · rcases r4 with e | e
    · exact .inl e
    · refine .inr fun x hx => ?_
      have : some (w.alloc (.cells C 53)).heap.size = some x := e.symm.trans hx
      cases this
      exact Nat.le_refl _
set_option maxHeartbeats 8000000 in
theorem recv_sep (s : Sep w0 r w (epT p v S :: R)) (n : Int) (z : Bool) (hl : S.length ≤ 1000) :
    Calls Try.prog 7 #[ptr p, .int .i64 n, .bool z] w fun e w' => e = .returned (.tuple #[encT (recvM S n), .int .i64 (sendE S n)]) ∧ ∃ v', Sep w0 r w' (epT p v' (recvS S n z) :: R) := by
  have HL := hid hl
  have HG := hid s.good
  have S1 := hid (s.box (objT mt0)).swap
  clear s hl
  have hobj : objT mt0 = .cells #[.bool false, .int .i64 0, .int .i64 0, .int .i64 0, .int .u64 0, .int .u64 0, .int .u64 0, .int .u64 0, .int .u64 0, .bool false] 37 := rfl
  have HC1 := hid (there_sep S1.out n HL.out)
  rw [hobj] at HC1
  go_enter Try.func7, Try.ntmps7
  go_wp2_with fail
  refine Calls.mono HC1.out ?_
  rintro e w1 ⟨rfl, s1⟩
  rw [← hobj] at s1
  have S2 := hid s1
  clear s1 S1 HC1
  generalize w.heap.size = q at *
  cases ht : thB S n with
  | true =>
    have HR : Hid (recvM S n = mt0 ∧ sendE S n = 110 ∧ recvS S n z = S) := ⟨by simp [recvM, ht], by simp [sendE, ht], by simp [recvS, ht]⟩
    have Z := (S2.out.each (blk (q) (objT mt0)) (by simp)).1
    obtain ⟨z0, z1, z2, z3, z4, z5, z6, z7, z8, z9⟩ := (atT_of (x := mt0) Z).cells
    have zf := frozenT (x := mt0) Z
    have S3 := hid ((S2.out.swap.putT mt0).drop)
    clear Z S2 ht
    unfold put10 at S3
    simp only [mt0, ms0] at z0 z1 z2 z3 z4 z5 z6 z7 z8 z9 S3
    go_wp2
    refine bodyPost_ret (v := .tuple #[.agg #[.bool false, .int .i64 0, .int .i64 0, .int .i64 0, .int .u64 0, .int .u64 0, .int .u64 0, .int .u64 0, .int .u64 0, .bool false], .int .i64 110]) ?_ rfl ⟨by rw [HR.out.1, HR.out.2.1]; rfl, v, by rw [HR.out.2.2]; exact S3.out⟩
    simp [results, Try.f7, go_sem, z0, z1, z2, z3, z4, z5, z6, z7, z8, z9]
  | false =>
    have HT := hid ht
    clear ht
    go_wp2_with fail
    refine Calls.mono (next_sep S2.out true HL.out) ?_
    rintro e w2 ⟨rfl, v2, s2⟩
    have S3 := hid (s2.box (objW (nextX S true))).swap
    clear s2 S2
    cases hb : hasB S true with
    | true =>
      obtain ⟨x, T, hS, hxs, hX, hT⟩ := nextX_yes hb
      have HR : Hid (recvM S n = ⟨true, x.n, n, x.m⟩ ∧ sendE S n = 0 ∧ recvS S n z = T) := by
        have ht := HT.out
        refine ⟨?_, by simp [sendE, ht], ?_⟩
        · subst hS
          simp [recvM, ht, hxs]
        · subst hS
          simp [recvS, ht, hb]
      rw [hX, hT] at S3
      rw [hX]
      clear hb hS hxs hX hT HT
      obtain ⟨d0, d1, d2, d3, d4, d5, d6, d7, d8⟩ := (atW_of (x := x) (S3.out.each (blk w2.heap.size (objW x)) (by simp)).1).cells
      have Z := (S3.out.each (blk (q) (objT mt0)) (by simp)).1
      obtain ⟨z0, z1, z2, z3, z4, z5, z6, z7, z8, z9⟩ := (atT_of (x := mt0) Z).cells
      have zf := frozenT (x := mt0) Z
      have S4 := hid ((S3.out.third.swap.putT ⟨true, x.n, n, x.m⟩).drop.drop)
      clear Z S3
      unfold put10 at S4
      simp only [mt0, ms0] at z0 z1 z2 z3 z4 z5 z6 z7 z8 z9
      simp only [Nat.zero_add] at *
      have hobW : objW x = .cells #[.int .i64 x.n, .bool x.s, .int .i64 x.m.l, .int .u64 x.m.a, .int .u64 x.m.b, .int .u64 x.m.c, .int .u64 x.m.d, .int .u64 x.m.g, .bool x.m.q] 53 := rfl
      generalize hw3 : w2.alloc (objW x) = w3 at *
      rw [hobW] at hw3
      unfold encW
      go_wp2_with (rw [hw3]; generalize w2.heap.size = q2 at *; clear hw3)
      refine bodyPost_ret (v := .tuple #[encT ⟨true, x.n, n, x.m⟩, .int .i64 0]) ?_ rfl ⟨by rw [HR.out.1, HR.out.2.1], v2, by rw [HR.out.2.2]; exact S4.out⟩
      simp [results, Try.f7, go_sem, encT, z0, z1, z2, z3, z4, z5, z6, z7, z8, z9]
    | false =>
      obtain ⟨-, hT⟩ := nextX_no hb
      rw [hT] at S3
      clear hT
      generalize nextX S true = x at *
      have HR : Hid (recvM S n = mt0 ∧ sendE S n = 0) := by
        have ht := HT.out
        refine ⟨?_, by simp [sendE, ht]⟩
        rcases S with _ | ⟨x, T⟩
        · simp [recvM]
        · have hx : (x.s == true) = false := hb
          have hx' : x.s = !true := by cases h : x.s <;> rw [h] at hx <;> simp_all
          simp [recvM, hx']
      have hobW : objW x = .cells #[.int .i64 x.n, .bool x.s, .int .i64 x.m.l, .int .u64 x.m.a, .int .u64 x.m.b, .int .u64 x.m.c, .int .u64 x.m.d, .int .u64 x.m.g, .bool x.m.q] 53 := rfl
      unfold encW
      cases z with
      | true =>
        have HS := hid (show recvS S n true = S ++ [⟨n, false, ms0⟩] by simp [recvS, HT.out, hb])
        have HA := hid (good_add HG.out ⟨n, false, ms0⟩ HT.out hb (by simp))
        clear HT hb HG
        generalize hw3 : w2.alloc (objW x) = w3 at *
        rw [hobW] at hw3
        obtain ⟨a, k, c, w4, r4, c4, f4, s4⟩ := S3.out.moreW ⟨n, false, ms0⟩ HA.out HL.out (C := #[.int .i64 n, .bool false, .int .i64 0, .int .u64 0, .int .u64 0, .int .u64 0, .int .u64 0, .int .u64 0, .bool false]) rfl
        have R4 := hid r4
        have c3 := S3.out.cellP
        have Z := (s4.each (blk (q) (objT mt0)) (by simp)).1
        obtain ⟨z0, z1, z2, z3, z4, z5, z6, z7, z8, z9⟩ := (atT_of (x := mt0) Z).cells
        have zf := frozenT (x := mt0) Z
        have S5 := hid ((s4.third.swap.putT mt0).drop.drop)
        obtain ⟨av, cv, rfl, -⟩ := S3.out.sliceP
        generalize S.length = nS at *
        generalize hw5 : w4.setCell ⟨p, 0, none⟩ (.slice a k c) = w5 at *
        clear Z S3 s4 r4 HA
        unfold put10 at S5
        simp only [mt0, ms0] at z0 z1 z2 z3 z4 z5 z6 z7 z8 z9 S5
        go_wp2_with (first | (at_builtin; refine wpList_append_run rfl _ _ _ _ rfl _ _ _ _ rfl rfl R4.out ?_) | (rw [hw3]; generalize w2.heap.size = q2 at *; clear hw3) | (rw [hw5]; clear hw5))
        refine bodyPost_ret (v := .tuple #[.agg #[.bool false, .int .i64 0, .int .i64 0, .int .i64 0, .int .u64 0, .int .u64 0, .int .u64 0, .int .u64 0, .int .u64 0, .bool false], .int .i64 0]) ?_ rfl ⟨by rw [HR.out.1, HR.out.2]; rfl, _, by rw [HS.out]; exact S5.out⟩
        simp [results, Try.f7, go_sem, z0, z1, z2, z3, z4, z5, z6, z7, z8, z9]
      | false =>
        have HS := hid (show recvS S n false = S by simp [recvS, HT.out, hb])
        have Z := (S3.out.each (blk (q) (objT mt0)) (by simp)).1
        obtain ⟨z0, z1, z2, z3, z4, z5, z6, z7, z8, z9⟩ := (atT_of (x := mt0) Z).cells
        have zf := frozenT (x := mt0) Z
        have S5 := hid ((S3.out.third.swap.putT mt0).drop.drop)
        clear Z S3 HT hb HG
        unfold put10 at S5
        generalize hw3 : w2.alloc (objW x) = w3 at *
        rw [hobW] at hw3
        simp only [mt0, ms0] at z0 z1 z2 z3 z4 z5 z6 z7 z8 z9 S5
        go_wp2_with (rw [hw3]; generalize w2.heap.size = q2 at *; clear hw3)
        refine bodyPost_ret (v := .tuple #[.agg #[.bool false, .int .i64 0, .int .i64 0, .int .i64 0, .int .u64 0, .int .u64 0, .int .u64 0, .int .u64 0, .int .u64 0, .bool false], .int .i64 0]) ?_ rfl ⟨by rw [HR.out.1, HR.out.2]; rfl, _, by rw [HS.out]; exact S5.out⟩
        simp [results, Try.f7, go_sem, z0, z1, z2, z3, z4, z5, z6, z7, z8, z9]
end
end Go.Proofs.Ytddeiglcbnemfaa

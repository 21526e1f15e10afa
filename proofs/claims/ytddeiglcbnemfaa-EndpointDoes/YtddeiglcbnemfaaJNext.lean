/-
  What next of package endpoint answers, and leaves; no condition but that few wait.
-/
import Derived.Test.YtddeiglcbnemfaaJTake
namespace Go.Proofs.Ytddeiglcbnemfaa
open Go.RowKit Go.Deep Go.Shelf

def put9 (w : World) (q : Nat) (x : Wt) : World := (((((((((w.setCell ⟨q, 0, none⟩ (.int .i64 x.n)).setCell ⟨q, 1, none⟩ (.bool x.s)).setCell ⟨q, 2, none⟩ (.int .i64 x.m.l)).setCell ⟨q, 3, none⟩ (.int .u64 x.m.a)).setCell ⟨q, 4, none⟩ (.int .u64 x.m.b)).setCell ⟨q, 5, none⟩ (.int .u64 x.m.c)).setCell ⟨q, 6, none⟩ (.int .u64 x.m.d)).setCell ⟨q, 7, none⟩ (.int .u64 x.m.g)).setCell ⟨q, 8, none⟩ (.bool x.m.q))
theorem turn_put9 (F : Nat → Prop) (w : World) (q : Nat) (x : Wt) (h : F q) : Turn F w (put9 w q x) := by
  unfold put9
  have st : ∀ {a b : World} (k : Turn F a b) (o : Nat) (v : Value), Turn F a (b.setCell ⟨q, o, none⟩ v) := fun k o v => k.trans (Turn.setCell F _ ⟨q, o, none⟩ v h) fun x hx => .inl hx
  exact st (st (st (st (st (st (st (st (st (Turn.refl F w) _ _) _ _) _ _) _ _) _ _) _ _) _ _) _ _) _ _
theorem put9_at {w : World} {q : Nat} {y : Wt} (h : w.heap[q]? = some (objW y)) (x : Wt) : (put9 w q x).heap[q]? = some (objW x) := by
  unfold put9
  unfold objW at *
  rw [setBlock (setBlock (setBlock (setBlock (setBlock (setBlock (setBlock (setBlock (setBlock h _) _) _) _) _) _) _) _) _]
  simp
theorem frozenW {w : World} {q : Nat} {x : Wt} (h : w.heap[q]? = some (objW x)) (j : Nat) : w.frozen? ⟨q, j, none⟩ = false := by
  unfold objW at h
  simp [World.frozen?, h]
def nextX (S : St) (b : Bool) : Wt := match S with
  | [] => wt0
  | x :: _ => if x.s == b then x else wt0
def nextS (S : St) (b : Bool) : St := if hasB S b = true then S.tail else S
section
variable {w0 w : World} {r p : Nat} {v : Value} {S : St} {R : List Th}
theorem Sep.putW {q : Nat} {y : Wt} (h : Sep w0 r w (blk q (objW y) :: R)) (x : Wt) : Sep w0 r (put9 w q x) (blk q (objW x) :: R) :=
  h.turn (t' := blk q (objW x)) (put9_at h.head x) (turn_put9 _ _ _ _ rfl) fun _ hx => .inl hx
theorem has_sep (s : Sep w0 r w (epT p v S :: R)) (b : Bool) : Calls Try.prog 25 #[ptr p, .bool b] w fun e w' => e = .returned (.bool (hasB S b)) ∧ w' = w := has_any p v S b w s.head
theorem there_sep (s : Sep w0 r w (epT p v S :: R)) (n : Int) (hl : S.length ≤ 1000) : Calls Try.prog 18 #[ptr p, .int .i64 n] w fun e w' => e = .returned (.bool (thB S n)) ∧ Sep w0 r w' (epT p v S :: R) :=
  (there_any p v S n w s.head hl).mono fun _ _ ⟨he, b⟩ => ⟨he, s.below b⟩
set_option maxHeartbeats 4000000 in
theorem next_sep (s : Sep w0 r w (epT p v S :: R)) (b : Bool) (hl : S.length ≤ 1000) :
    Calls Try.prog 19 #[ptr p, .bool b] w fun e w' => e = .returned (.tuple #[encW (nextX S b), .bool (hasB S b)]) ∧ ∃ v', Sep w0 r w' (epT p v' (nextS S b) :: R) := by
  have S1 := hid (s.box (objW wt0)).swap
  have HL := hid hl
  have hobj : objW wt0 = .cells #[.int .i64 0, .bool false, .int .i64 0, .int .u64 0, .int .u64 0, .int .u64 0, .int .u64 0, .int .u64 0, .bool false] 53 := rfl
  cases hb : hasB S b with
  | false =>
    have HR : Hid (nextX S b = wt0 ∧ nextS S b = S) := by
      refine ⟨?_, by simp [nextS, hb]⟩
      match S, hb with
      | [], _ => rfl
      | x :: T, hb =>
        have : (x.s == b) = false := hb
        simp [nextX, this]
    have HC := hid (has_sep S1.out b)
    rw [hb] at HC
    clear s hl hb
    rw [hobj] at HC
    go_enter Try.func19, Try.ntmps19
    go_wp2_with fail
    refine Calls.mono HC.out ?_
    rintro e w1 ⟨rfl, rfl⟩
    rw [← hobj]
    have Z := S1.out.swap.head
    obtain ⟨z0, z1, z2, z3, z4, z5, z6, z7, z8⟩ := (atW_of (x := wt0) Z).cells
    have zf := frozenW (x := wt0) Z
    have S2 := hid (S1.out.swap.putW wt0)
    clear Z HC S1
    unfold put9 at S2
    simp only [Nat.zero_add] at *
    generalize w.alloc (objW wt0) = w1 at *
    simp only [wt0, ms0] at z0 z1 z2 z3 z4 z5 z6 z7 z8 S2
    generalize w.heap.size = q at *
    go_wp2
    refine bodyPost_ret (v := .tuple #[.agg #[.int .i64 0, .bool false, .int .i64 0, .int .u64 0, .int .u64 0, .int .u64 0, .int .u64 0, .int .u64 0, .bool false], .bool false]) ?_ rfl ⟨by rw [HR.out.1]; rfl, v, by rw [HR.out.2]; exact S2.out.drop⟩
    simp [results, Try.f19, go_sem, z0, z1, z2, z3, z4, z5, z6, z7, z8]
  | true =>
    rcases S with _ | ⟨x, T⟩
    · cases hb
    · have hx : (x.s == b) = true := hb
      have HR : Hid (nextX (x :: T) b = x ∧ nextS (x :: T) b = T) := ⟨by simp [nextX, hx], by simp [nextS, hb]⟩
      have HO := hid (out_first s.good)
      have HC := hid (has_sep S1.out b)
      rw [hb] at HC
      obtain ⟨ao, cap, rfl, hg⟩ := S1.out.sliceP
      obtain ⟨g, rfl⟩ := hg 0 (by simp)
      have c0 := S1.out.cellP
      obtain ⟨d0, d1, d2, d3, d4, d5, d6, d7, d8⟩ := (RowW.at (EpH.row S1.out.head) (i := 0) (x := x) rfl).cells
      have S2 := hid ((S1.out.box (objW x)).third.swap)
      have hn0 : 0 < (x :: T).length := by simp
      clear s hl hb hg hx
      rw [hobj] at HC
      simp only [Nat.zero_mul, Nat.zero_add] at d0 d1 d2 d3 d4 d5 d6 d7 d8
      generalize hn : (x :: T).length = n at *
      have hnz : (0 : Int) < (n : Int) := by omega
      go_enter Try.func19, Try.ntmps19
      go_wp2_with fail
      refine Calls.mono HC.out ?_
      rintro e w1 ⟨rfl, rfl⟩
      rw [← hobj]
      clear HC S1
      generalize hw1 : w.alloc (objW wt0) = w1 at *
      have e1 : w1.heap.size = w.heap.size + 1 := by rw [← hw1]; simp
      clear hw1
      go_wp2_with fail
      refine Calls.mono (named_any _ _) ?_
      rintro e w2 ⟨c, rfl, k2, b2⟩
      obtain ⟨gc, lc, rfl⟩ := k2.form
      have S3 := hid (S2.out.swap.below b2)
      have K2 := hid k2
      clear S2 k2 b2
      go_wp2_with fail
      refine Calls.mono (takeOut_sep S3.out _ _ K2.out (by rw [hn]; exact HL.out)) ?_
      rintro e w3 ⟨u, v3, rfl, s3⟩
      rw [HO.out] at s3
      obtain ⟨e0, e1', e2, e3, e4, e5, e6, e7, e8⟩ := (atW_of (x := x) (s3.each (blk w1.heap.size (objW x)) (by simp)).1).cells
      have Z := (s3.each (blk w.heap.size (objW wt0)) (by simp)).1
      obtain ⟨z0, z1, z2, z3, z4, z5, z6, z7, z8⟩ := (atW_of (x := wt0) Z).cells
      have zf := frozenW (x := wt0) Z
      have S4 := hid ((s3.drop2.swap.putW x).drop.drop2)
      clear Z S3 K2 s3 HO hobj c0 d0 d1 d2 d3 d4 d5 d6 d7 d8
      unfold put9 at S4
      rw [e1] at e0 e1' e2 e3 e4 e5 e6 e7 e8
      clear e1
      simp only [Nat.zero_add] at *
      simp only [wt0, ms0] at z0 z1 z2 z3 z4 z5 z6 z7 z8
      generalize hq : w.heap.size = q at *
      clear hq
      go_wp2
      refine bodyPost_ret (v := .tuple #[encW x, .bool true]) ?_ rfl ⟨by rw [HR.out.1], v3, by rw [HR.out.2]; exact S4.out⟩
      simp [results, Try.f19, go_sem, encW, z0, z1, z2, z3, z4, z5, z6, z7, z8]
end
end Go.Proofs.Ytddeiglcbnemfaa

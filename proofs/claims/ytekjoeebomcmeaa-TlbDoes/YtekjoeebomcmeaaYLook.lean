/-
  What Look of package tlb answers, among things that lie apart; no condition.
-/
import Derived.Test.YtekjoeebomcmeaaYCalls
namespace Go.Proofs.Ytekjoeebomcmeaa
open Go.RowKit Go.Deep Go.Shelf
def objP (f r : Int) : Obj := .cells #[.int .i64 f, .int .i64 r] 31
theorem cellsG {w : World} {q : Nat} {f r : Int} (h : w.heap[q]? = some (objP f r)) : w.cell? ⟨q, 0, none⟩ = some (.int .i64 f) ∧ w.cell? ⟨q, 1, none⟩ = some (.int .i64 r) := by
  unfold objP at h
  exact ⟨by simp [World.cell?, h], by simp [World.cell?, h]⟩
theorem frozenG {w : World} {q : Nat} {f r : Int} (h : w.heap[q]? = some (objP f r)) (j : Nat) : w.frozen? ⟨q, j, none⟩ = false := by
  unfold objP at h
  simp [World.frozen?, h]
theorem all_two {F : Nat → Prop} {w : World} {g1 g2 : FuncId} {l1 l2 : Array Value} {a b : Int} (k1 : Clo F w (.func (.func g1) #[] l1) (isS a)) (k2 : Clo F w (.func (.func g2) #[] l2) (isP b)) (hF : ∀ x, F x → x < w.heap.size) :
    Calls Try.prog 30 #[.slice (some ⟨w.heap.size, 0, none⟩) 2 2] (w.alloc (.cells #[.func (.func g1) #[] l1, .func (.func g2) #[] l2] 56)) fun e w' => ∃ c, e = .returned c ∧ Clo F w' c (isK a b) ∧ Below w.heap.size w w' := by
  have hq : allB [isS a, isP b] = isK a b := funext (allB_two a b)
  have bn := below_new w (.cells #[.func (.func g1) #[] l1, .func (.func g2) #[] l2] 56)
  have := all_any w.heap.size 2 _ _ _ (arg_two k1 k2 hF) (fun x hx => Nat.lt_of_lt_of_le (hF x hx) bn.size)
  rw [hq] at this
  refine Calls.mono this ?_
  rintro e w' ⟨c, rfl, k, b⟩
  exact ⟨c, rfl, k, Below.then bn b bn.size⟩
section
variable {w0 w w' : World} {r p n q : Nat} {v : Value} {S : St} {R : List Th}
/-- What is read in Look. -/
abbrev Lk (w0 : World) (r q p n : Nat) (v : Value) (S : St) (R : List Th) (W : World) : Prop := W.cell? ⟨p, 1, none⟩ = some v ∧ Sep w0 r W (blk q (objP 0 0) :: tbT kP n p v S :: R)
theorem lk_next (h : Lk w0 r q p n v S R w) (b : Below w.heap.size w w') : Lk w0 r q p n v S R w' := ⟨Sep.cellP (h.2.below b).drop, h.2.below b⟩
theorem lk_lt (h : Lk w0 r q p n v S R w) : ∀ x, own v x → x < w.heap.size := h.2.drop.ownLt
theorem lk_row (h : Lk w0 r q p n v S R w) : RowL w v S := h.2.drop.rowP
theorem Sep.putG {f r' f' r'' : Int} (h : Sep w0 r w (blk q (objP f r') :: R)) : Sep w0 r ((w.setCell ⟨q, 0, none⟩ (.int .i64 f')).setCell ⟨q, 1, none⟩ (.int .i64 r'')) (blk q (objP f' r'') :: R) := by
  have h1 : w.heap[q]? = some (objP f r') := h.head
  unfold objP at h1
  have h2 := setBlock (j := 0) h1 (.int .i64 f')
  have h3 := setBlock (j := 1) h2 (.int .i64 r'')
  refine h.turn (t' := blk q (objP f' r'')) h3 ((Turn.setCell (blk q (objP f r')).F w ⟨q, 0, none⟩ _ rfl).trans (Turn.setCell (blk q (objP f r')).F _ ⟨q, 1, none⟩ _ rfl) fun x hx => .inl hx) fun x hx => .inl hx
set_option maxHeartbeats 8000000 in
set_option maxRecDepth 100000 in
theorem look_sep (s : Sep w0 r w (tbT kP n p v S :: R)) (a b : Int) :
    Calls Try.prog 20 #[ptr p, .int .i64 a, .int .i64 b] w fun e w' => e = .returned (.tuple #[.agg #[.int .i64 (lookF S a b), .int .i64 (lookR S a b)], .bool (lookB S a b)]) ∧ Sep w0 r w' (tbT kP n p v S :: R) := by
  have s1 := s.box (objP 0 0)
  have hS : (w.alloc (.cells #[.int .i64 0, .int .i64 0] 31)).drew.cell? ⟨p, 1, none⟩ = some v ∧ Sep w0 r (w.alloc (.cells #[.int .i64 0, .int .i64 0] 31)).drew (blk w.heap.size (objP 0 0) :: tbT kP n p v S :: R) := ⟨s1.drew.drop.cellP, s1.drew⟩
  have HL := hid s.good.few
  have hl256 : S.length ≤ 256 := by have := s.good.le; have := s.good.top; omega
  have HX := hid (idx_look S a b)
  obtain ⟨ao, sc, rfl, hg⟩ := s.sliceP
  have HG := hid hg
  clear s s1 hg
  generalize hN : S.length = N at *
  have HN := hid hN
  clear hN
  go_enter Try.func20, Try.ntmps20
  go_wp2_with fail
  generalize hz : w.heap.size = z at *
  clear hz
  generalize (w.alloc (.cells #[.int .i64 0, .int .i64 0] 31)) = w1 at *
  go_region_held3 (fun W => W.cell? ⟨p, 1, none⟩ = some (.slice ao N sc) ∧ Sep w0 r W (blk z (objP 0 0) :: tbT kP n p (.slice ao N sc) S :: R)) ((first | with_reducible assumption | with_reducible exact lk_next (by with_reducible assumption) (below_new _ _)))
    (first
    | (go_at_call 26; refine Calls.mono (space_any (F := own (.slice ao N sc)) _ _ (lk_lt (by with_reducible assumption))) ?_; rintro e w2 ⟨c1, rfl, k1, b1⟩; obtain ⟨g1, l1, rfl⟩ := k1.form; have s2 := lk_next hS b1; have K1 := hid k1; clear k1 b1)
    | (go_at_call 27; refine Calls.mono (page_any (F := own (.slice ao N sc)) _ _ (lk_lt s2)) ?_; rintro e w3 ⟨c2, rfl, k2, b2⟩; obtain ⟨g2, l2, rfl⟩ := k2.form; have s3 := lk_next s2 b2; have HA := hid (all_two (K1.out.below b2) k2 (lk_lt s3)); clear k2 b2 K1)
    | (go_at_call 30; refine Calls.mono HA.out ?_; rintro e w4 ⟨c3, rfl, k3, b3⟩; obtain ⟨g3, l3, rfl⟩ := k3.form; have s4 := lk_next s3 b3; have HI := hid (index_any _ _ _ _ _ k3 (lk_row s4) (by rw [HN.out]; exact HL.out)); clear k3 b3 HA)
    | (go_at_call 29; refine Calls.mono HI.out ?_; rintro e w5 ⟨rfl, b4⟩; have s5 := lk_next s4 b4; clear b4 HI))
  rename_i hH
  obtain ⟨c5, h5⟩ := s5
  obtain ⟨z0, z1⟩ := cellsG h5.head
  have zf := fun j => frozenG h5.head j
  have H5 := hid h5
  clear hH hS s2 s3 s4 h5 HL
  rcases HX.out with ⟨e1, e2⟩ | ⟨k, x, e1, hk, hx, ho⟩
  · have HR := hid (look_none e2)
    rw [e1]
    clear e1 e2 HX
    have HF := hid (H5.out.putG (f' := 0) (r'' := 0)).drop
    go_wp2
    refine bodyPost_ret (v := .tuple #[.agg #[.int .i64 0, .int .i64 0], .bool false]) ?_ rfl ⟨by rw [HR.out.1, HR.out.2.1, HR.out.2.2], HF.out⟩
    simp [results, Try.f20, go_sem, z0, z1]
  · have HR := hid (look_some ho)
    rw [e1]
    clear e1 ho HX
    obtain ⟨g, rfl⟩ := HG.out k hk
    obtain ⟨y0, y1, y2, y3⟩ := (RowL.at (Sep.rowP H5.out.drop) hx).cells
    have hkz : (k : Int) < (N : Int) := by omega
    have hk0 : ¬ ((k : Int) < 0) := by omega
    have HF := hid (H5.out.putG (f' := x.f) (r'' := x.r)).drop
    clear hx y0 y1
    go_wp2
    refine bodyPost_ret (v := .tuple #[.agg #[.int .i64 x.f, .int .i64 x.r], .bool true]) ?_ rfl ⟨by rw [HR.out.1, HR.out.2.1, HR.out.2.2], HF.out⟩
    simp [results, Try.f20, go_sem, z0, z1]
end
end Go.Proofs.Ytekjoeebomcmeaa

/-
  Both spaces side by side, in blocks of their own, and each one's calls; no condition but that tables and pages are few.
-/
import Derived.Test.YthjcodkgcffamaaPCopy
import Derived.Test.YthjcodkgcffamaaPRDrop
import Derived.Test.YthjcodkgcffamaaPLaw
import Derived.Test.YthjcodkgcffamaaPSay
namespace Go.Proofs.Ythjcodkgcffamaa
open Go.RowKit Go.Deep Go.Shelf
section
variable {w0 w w' : World} {r k p N : Nat} {m : Nat → Option Nat} {S T : Sp} {R Q : List Th} {x y : Th}
/-- What the program's space is turned to, the document's beside it. -/
theorem Rs.turn (h : Rs w0 r w k S N (spT p m T :: R)) : ∃ a b A B, Sep w0 r w (spT p m T :: blk k (objR a b) :: lstT a A :: lstL b B :: R) ∧ ∀ (w' : World) (X : List Th), Sep w0 r w' (X ++ (blk k (objR a b) :: lstT a A :: lstL b B :: R)) → Rs w0 r w' k S N (X ++ R) := by
  obtain ⟨a, b, A, B, s, h1⟩ := h
  refine ⟨a, b, A, B, s.fourth, fun w' X s' => ⟨a, b, A, B, s'.perm ?_, h1⟩⟩
  have e1 : X ++ (blk k (objR a b) :: lstT a A :: lstL b B :: R) = X ++ ([blk k (objR a b), lstT a A, lstL b B] ++ R) := rfl
  have e2 : (blk k (objR a b) :: lstT a A :: lstL b B :: (X ++ R)) = [blk k (objR a b), lstT a A, lstL b B] ++ (X ++ R) := rfl
  rw [e1, e2, ← List.append_assoc, ← List.append_assoc]
  exact List.Perm.append_right R List.perm_append_comm
theorem Rs.sep (h : Rs w0 r w k S N R) : Sep w0 r w R := by
  obtain ⟨a, b, A, B, s, _⟩ := h
  exact s.drop.drop.drop
theorem Rs.perm (h : Rs w0 r w k S N R) (q : R.Perm Q) : Rs w0 r w k S N Q := by
  obtain ⟨a, b, A, B, s, h1⟩ := h
  exact ⟨a, b, A, B, s.perm (.cons _ (.cons _ (.cons _ q))), h1⟩
theorem Rs.swap (h : Rs w0 r w k S N (x :: y :: R)) : Rs w0 r w k S N (y :: x :: R) := h.perm (List.Perm.swap _ _ _)
theorem Rs.sub (h : Rs w0 r w k S N R) (q : Q.Sublist R) : Rs w0 r w k S N Q := by
  obtain ⟨a, b, A, B, s, h1⟩ := h
  exact ⟨a, b, A, B, s.sub (.cons_cons _ (.cons_cons _ (.cons_cons _ q))), h1⟩
theorem Rs.low (h : Rs w0 r w k S N R) : Below r w0 w := h.sep.low
theorem Rs.join (h : Rs w0 r w k S N R) (j : Sep w w.heap.size w' Q) : Rs w0 r w' k S N (Q ++ R) := by
  obtain ⟨a, b, A, B, s, h1⟩ := h
  refine ⟨a, b, A, B, (s.join j).perm ?_, h1⟩
  have e1 : Q ++ (blk k (objR a b) :: lstT a A :: lstL b B :: R) = Q ++ ([blk k (objR a b), lstT a A, lstL b B] ++ R) := rfl
  have e2 : (blk k (objR a b) :: lstT a A :: lstL b B :: (Q ++ R)) = [blk k (objR a b), lstT a A, lstL b B] ++ (Q ++ R) := rfl
  rw [e1, e2, ← List.append_assoc, ← List.append_assoc]
  exact List.Perm.append_right R List.perm_append_comm
theorem Rs.box (h : Rs w0 r w k S N R) (o : Obj) : Rs w0 r (w.alloc o) k S N (blk w.heap.size o :: R) := h.join ((sep_nil w).box o)
theorem Rs.drew (h : Rs w0 r w k S N R) : Rs w0 r w.drew k S N R := h.below ((Below.refl _ _).drew)
theorem d_tab (h : Rs w0 r w k S N (spT p m T :: R)) (i n : Int) : Calls Try.prog 10 #[ptr p, .int .i64 i, .int .i64 n] w fun e w' => e = .returned (.int .i64 (tabE T i n)) ∧ ∃ m', Rs w0 r w' k S N (spT p m' (tabS T i n) :: R) := by
  obtain ⟨a, b, A, B, s, f⟩ := h.turn
  refine (table_sep s i n).mono ?_
  rintro e w' ⟨rfl, m', s'⟩
  exact ⟨rfl, m', f w' [spT p m' (tabS T i n)] s'⟩
theorem d_drp (h : Rs w0 r w k S N (spT p m T :: R)) (i : Int) : Calls Try.prog 12 #[ptr p, .int .i64 i] w fun e w' => ∃ v m', e = .returned (.tuple #[v, .int .i64 (drpE T i)]) ∧ Rs w0 r w' k S N (spT p m' (drpS T i) :: lstL v (drpL T i) :: R) := by
  obtain ⟨a, b, A, B, s, f⟩ := h.turn
  refine (drop_sep s i).mono ?_
  rintro e w' ⟨v, m', rfl, s'⟩
  exact ⟨v, m', rfl, f w' [spT p m' (drpS T i), lstL v (drpL T i)] s'⟩
theorem d_map (h : Rs w0 r w k S N (spT p m T :: R)) (n a c : Int) : Calls Try.prog 14 #[ptr p, .int .i64 n, .agg #[.int .i64 a, .int .i64 c]] w fun e w' => e = .returned (.int .i64 (mapE T n ⟨a, c⟩)) ∧ Rs w0 r w' k S N (spT p m (mapS T n ⟨a, c⟩) :: R) := by
  obtain ⟨a', b, A, B, s, f⟩ := h.turn
  refine (map_sep s n ⟨a, c⟩).mono ?_
  rintro e w' ⟨rfl, s'⟩
  exact ⟨rfl, f w' [spT p m (mapS T n ⟨a, c⟩)] s'⟩
theorem d_rgt (h : Rs w0 r w k S N (spT p m T :: R)) (n t : Int) : Calls Try.prog 16 #[ptr p, .int .i64 n, .int .i64 t] w fun e w' => e = .returned (.int .i64 (rgtE T n t)) ∧ Rs w0 r w' k S N (spT p m (rgtS T n t) :: R) := by
  obtain ⟨a, b, A, B, s, f⟩ := h.turn
  refine (rights_sep s n t).mono ?_
  rintro e w' ⟨rfl, s'⟩
  exact ⟨rfl, f w' [spT p m (rgtS T n t)] s'⟩
theorem d_unm (h : Rs w0 r w k S N (spT p m T :: R)) (n : Int) : Calls Try.prog 18 #[ptr p, .int .i64 n] w fun e w' => e = .returned (.tuple #[.agg #[.int .i64 (wlkP T n).fr, .int .i64 (wlkP T n).rt], .int .i64 (unmE T n)]) ∧ Rs w0 r w' k S N (spT p m (unmS T n) :: R) := by
  obtain ⟨a, b, A, B, s, f⟩ := h.turn
  refine (unmap_sep s n).mono ?_
  rintro e w' ⟨rfl, s'⟩
  exact ⟨rfl, f w' [spT p m (unmS T n)] s'⟩
theorem d_copy (h : Rs w0 r w k S N (spT p m T :: R)) : Calls Try.prog 20 #[ptr p] w fun e w' => ∃ q m', e = .returned (ptr q) ∧ Rs w0 r w' k S N (spT q m' T :: spT p m T :: R) := by
  obtain ⟨a, b, A, B, s, f⟩ := h.turn
  refine (copy_sep s).mono ?_
  rintro e w' ⟨q, m', rfl, s'⟩
  exact ⟨q, m', rfl, f w' [spT q m' T, spT p m T] s'⟩
theorem Rs.spP (h : Rs w0 r w k S N (spT p m T :: R)) : SpP p m T w := h.sep.head
theorem d_wlk (h : Rs w0 r w k S N (spT p m T :: R)) (n : Int) : Calls Try.prog 21 #[ptr p, .int .i64 n] w fun e w' => e = .returned (.tuple #[.agg #[.int .i64 (wlkP T n).fr, .int .i64 (wlkP T n).rt], .bool (wlkB T n)]) ∧ Rs w0 r w' k S N (spT p m T :: R) :=
  (walk_p h.spP n).mono fun _ _ ⟨he, b⟩ => ⟨he, h.below b⟩
theorem d_has (h : Rs w0 r w k S N (spT p m T :: R)) (n : Int) : Calls Try.prog 23 #[ptr p, .int .i64 n] w fun e w' => e = .returned (.tuple #[.int .i64 (hasN T n), .bool (hasB T n)]) ∧ Rs w0 r w' k S N (spT p m T :: R) :=
  (has_p h.spP n).mono fun _ _ ⟨he, b⟩ => ⟨he, by rw [b]; exact h⟩
theorem r_wlk (h : Rs w0 r w k S N R) (n : Int) (hN : N ≤ 900) : Calls Try.prog 22 #[ptr k, .int .i64 n] w fun e w' => e = .returned (.tuple #[.agg #[.int .i64 (wlkP S n).fr, .int .i64 (wlkP S n).rt], .bool (wlkB S n)]) ∧ Rs w0 r w' k S N R :=
  (rwalk_rs h n hN).mono fun _ _ ⟨he, b⟩ => ⟨he, h.below b⟩
theorem r_has (h : Rs w0 r w k S N R) (n : Int) (hN : N ≤ 900) : Calls Try.prog 24 #[ptr k, .int .i64 n] w fun e w' => e = .returned (.tuple #[.int .i64 (hasN S n), .bool (hasB S n)]) ∧ Rs w0 r w' k S N R :=
  (rhas_rs h n hN).mono fun _ _ ⟨he, b⟩ => ⟨he, by rw [b]; exact h⟩
theorem d_pgs (h : Rs w0 r w k S N (spT p m T :: R)) : Calls Try.prog 26 #[ptr p] w fun e w' => ∃ v, e = .returned v ∧ Rs w0 r w' k S N (spT p m T :: lstL v (allP T.f) :: R) :=
  (pages_any h.spP).mono fun _ _ ⟨v, he, j⟩ => ⟨v, he, (h.join j).swap⟩
theorem r_pgs (h : Rs w0 r w k S N (x :: R)) (g : Good S) (hN : N ≤ 900) : Calls Try.prog 27 #[ptr k] w fun e w' => ∃ v, e = .returned v ∧ Rs w0 r w' k S N (x :: lstL v (allP S.f) :: R) :=
  (rpages_rs h g hN).mono fun _ _ ⟨v, he, j⟩ => ⟨v, he, (h.join j).swap⟩
theorem d_frm (h : Rs w0 r w k S N (spT p m T :: R)) (fr : Int) : Calls Try.prog 29 #[ptr p, .int .i64 fr] w fun e w' => ∃ v, e = .returned v ∧ Rs w0 r w' k S N (spT p m T :: lstI v (frmL T.f fr) :: R) :=
  (frames_any h.spP fr).mono fun _ _ ⟨v, he, j⟩ => ⟨v, he, (h.join j).swap⟩
theorem r_frm (h : Rs w0 r w k S N (x :: R)) (g : Good S) (fr : Int) (hN : N ≤ 900) : Calls Try.prog 30 #[ptr k, .int .i64 fr] w fun e w' => ∃ v, e = .returned v ∧ Rs w0 r w' k S N (x :: lstI v (frmL S.f fr) :: R) :=
  (rframes_rs h g fr hN).mono fun _ _ ⟨v, he, j⟩ => ⟨v, he, (h.join j).swap⟩
theorem d_same {u v : Value} {A : List La} (h : Rs w0 r w k S N R) (hu : lstL u A ∈ R) (hv : lstL v A ∈ R) (hl : A.length ≤ 5000) : Calls Try.prog 25 #[u, v] w fun e w' => e = .returned (.bool true) ∧ Rs w0 r w' k S N R :=
  (same_any true u v A A w (h.sep.each _ hu).1 (h.sep.each _ hv).1 hl ⟨fun _ => rfl, fun _ => rfl⟩).mono fun _ _ ⟨he, b⟩ => ⟨he, h.below b⟩
theorem d_nums {u v : Value} {A : List Int} (h : Rs w0 r w k S N R) (hu : lstI u A ∈ R) (hv : lstI v A ∈ R) (hl : A.length ≤ 5000) : Calls Try.prog 28 #[u, v] w fun e w' => e = .returned (.bool true) ∧ Rs w0 r w' k S N R := by
  have := nums_any u v A A w (h.sep.each _ hu).1 (h.sep.each _ hv).1 hl
  rw [decide_eq_true rfl] at this
  exact this.mono fun _ _ ⟨he, b⟩ => ⟨he, h.below b⟩
theorem drp_len (S : Sp) (i : Int) : (drpL S i).length ≤ 5000 := by
  unfold drpL
  split
  · have := seg_len S.f (64 * i.toNat) 64
    unfold plP
    omega
  · simp
theorem frm_len (f : Int → Option Pg) (fr : Int) : (frmL f fr).length ≤ 5000 := by
  unfold frmL
  rw [List.length_map]
  have := List.length_filter_le (frmB fr) (allP f)
  have := all_len f
  omega
theorem d_fix (h : Rs w0 r w k S N R) : Calls Try.prog 31 #[] w fun e w' => e = .returned (.bool true) ∧ Rs w0 r w' k S N R :=
  (fixed_any w).mono fun _ _ ⟨he, b⟩ => ⟨he, h.below b⟩
end
end Go.Proofs.Ythjcodkgcffamaa

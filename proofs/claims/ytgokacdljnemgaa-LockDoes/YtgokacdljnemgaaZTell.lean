/-
  What Line and Ahead of package lock answer, among things that lie apart; no condition.
-/
import Derived.Test.YtgokacdljnemgaaZLine
namespace Go.Proofs.Ytgokacdljnemgaa
open Go.RowKit Go.Deep Go.Shelf
section
variable {w0 w w' : World} {r p n q : Nat} {L A : St} {R : List Th} {v : Value}
abbrev bxS (q : Nat) (v : Value) : Th := blk q (.cells #[v] 38)
theorem Sep.putS {v' : Value} (h : Sep w0 r w (bxS q v :: R)) : Sep w0 r (w.setCell ⟨q, 0, none⟩ v') (bxS q v' :: R) := by
  have h1 : w.heap[q]? = some (.cells #[v] 38) := h.head
  exact h.turn (t' := bxS q v') (setBlock (j := 0) h1 v') (Turn.setCell (bxS q v).F w ⟨q, 0, none⟩ _ rfl) fun x hx => .inl hx
theorem Sep.cellS (h : Sep w0 r w (bxS q v :: R)) : w.cell? ⟨q, 0, none⟩ = some v ∧ ∀ j, w.frozen? ⟨q, j, none⟩ = false := by
  have h1 : w.heap[q]? = some (.cells #[v] 38) := h.head
  exact ⟨by simp [World.cell?, h1], fun j => by simp [World.frozen?, h1]⟩
theorem line1_any {W : World} (s : Sep w0 r W (lstI v A :: bxS q v :: R)) (x : Int) (hl : A.length ≤ 100) :
    Calls Try.prog 30 #[.int .i64 x, ptr q] W fun e W' => e = .returned (.bool false) ∧ ∃ v', Sep w0 r W' (lstI v' (A ++ [x]) :: bxS q v' :: R) := by
  obtain ⟨a0, k0, rfl⟩ := s.listIs (E := elI) (v := v) (A := A) (by simp)
  obtain ⟨c1, f1⟩ := s.swap.cellS
  obtain ⟨v4, w4, r4, s4⟩ := s.more okI 38 x (C := #[.int .i64 x]) rfl (by omega)
  obtain ⟨a4, k4, rfl⟩ := s4.listIs (E := elI) (v := v4) (A := A ++ [x]) (by simp)
  obtain ⟨c2, f2⟩ := s4.swap.cellS
  have S5 := hid (s4.swap.putS (v' := .slice a4 (A ++ [x]).length k4)).swap
  simp only [elI] at r4
  have R4 := hid r4
  have c3 := cell_al c1 (.cells #[.int .i64 x] 3)
  clear s s4 r4
  generalize (A ++ [x]).length = m4 at *
  generalize A.length = m at *
  go_enter Try.func30, Try.ntmps30
  go_wp2_with (at_builtin; refine wpList_append_run rfl _ _ _ _ rfl _ _ _ _ rfl rfl R4.out ?_; clear R4)
  go_ret
  exact ⟨rfl, _, S5.out⟩
/-- The lock's own block, its cells named. -/
theorem Sep.openK {C : Array Value} (h : Sep w0 r w (lkT n p L :: R)) (hC : w.heap[p]? = some (objK C)) : Sep w0 r w (blk p (objK C) :: R) :=
  h.turn (t' := blk p (objK C)) hC (Turn.refl _ _) fun _ hx => .inl hx
theorem Sep.shutK {C : Array Value} {t : Int} {a : Int → Int} (h : Sep w0 r w (blk p (objK C) :: R)) (lk : LkIs n L C t a) : Sep w0 r w (lkT n p L :: R) :=
  h.turn (t' := lkT n p L) ⟨C, t, a, h.head, lk⟩ (Turn.refl _ _) fun _ hx => .inl hx
theorem ask_none (M : St) : askN (fun _ => false) M = M.length := (find_miss (fun _ _ _ => rfl)).2
set_option maxHeartbeats 4000000 in
theorem line_sep (s : Sep w0 r w (lkT n p L :: R)) :
    Calls Try.prog 20 #[ptr p] w fun e w' => ∃ a c, e = .returned (.slice a L.length c) ∧ Sep w0 r w' (lkT n p L :: lstI (.slice a L.length c) L :: R) := by
  obtain ⟨C, t, a, hC, lk⟩ := s.lk
  have hfew := lk.good.few
  have s1 := ((s.openK hC).box (.cells #[.slice none 0 0] 38))
  have s2 : Sep w0 r (w.alloc (.cells #[.slice none 0 0] 38)) (lstI (.slice none 0 0) (L.reverse.take 0) :: bxS w.heap.size (.slice none 0 0) :: blk p (objK C) :: R) := Sep.nil s1
  have hf := find_any (p := p) (w := w.alloc (.cells #[.slice none 0 0] 38)) 30 #[ptr w.heap.size] (fun _ _ => by kernel_rfl) (fun _ => false) (fun k W => ∃ v, Sep w0 r W (lstI v (L.reverse.take k) :: bxS w.heap.size v :: blk p (objK C) :: R)) lk (fun k W ⟨v, h⟩ => h.drop.drop.head) (fun k x W hx ⟨v, h⟩ => by
    refine (line1_any h x (by rw [List.length_take, List.length_reverse]; omega)).mono fun _ _ ⟨he, v', h'⟩ => ⟨he, v', ?_⟩
    rw [List.take_add_one, hx]
    exact h') ⟨_, s2⟩
  rw [ask_none] at hf
  have HF := hid hf
  have LK := hid lk
  clear s s1 s2 hf hC lk
  generalize findI (fun _ => false) L.reverse = z at *
  go_enter Try.func20, Try.ntmps20
  go_wp2_with fail
  refine Calls.mono HF.out ?_
  rintro e w2 ⟨rfl, v2, s2⟩
  generalize w.heap.size = q at *
  rw [List.take_length] at s2
  obtain ⟨a2, k2, rfl⟩ := s2.listIs (E := elI) (v := v2) (A := L.reverse) (by simp)
  obtain ⟨c2, -⟩ := s2.swap.cellS
  have HV := hid (reverse_sep s2 (by rw [List.length_reverse]; omega))
  rw [List.reverse_reverse] at HV
  rw [List.length_reverse] at HV c2
  clear HF s2
  generalize hLl : L.length = m at *
  go_wp2_with fail
  refine Calls.mono HV.out ?_
  rintro e w3 ⟨rfl, s3⟩
  obtain ⟨c3, -⟩ := s3.swap.cellS
  have S3 := hid (s3.drop2.swap.shutK LK.out)
  clear s3 HV c2
  go_wp2
  go_ret
  exact ⟨a2, k2, by rw [hLl]; rfl, by rw [hLl]; exact S3.out⟩
theorem ahead_sep (s : Sep w0 r w (lkT n p L :: R)) (c : Int) :
    Calls Try.prog 22 #[ptr p, .int .i64 c] w fun e w' => e = .returned (.int .i64 (aheadI L c)) ∧ Sep w0 r w' (lkT n p L :: R) := by
  have hfew := s.goodK.few
  have HL := hid (line_sep s)
  clear s
  go_enter Try.func22, Try.ntmps22
  go_wp2_with fail
  refine Calls.mono HL.out ?_
  rintro e w2 ⟨a2, k2, rfl, s2⟩
  have HI := hid (index_any (v := .slice a2 L.length k2) L c w2 (s2.swap.head) (by omega))
  have S2 := hid s2
  clear s2 HL
  go_wp2_with fail
  refine Calls.mono HI.out ?_
  rintro e w3 ⟨rfl, b3⟩
  go_wp2
  go_ret
  exact ⟨rfl, (S2.out.below b3).drop2⟩
end
end Go.Proofs.Ytgokacdljnemgaa

/-
  What New, Is, Box, Owed and Send of the document's own boxes answer, and leave, among things that lie apart; no condition but that few messages are there.
-/
import Derived.Test.YtpapjdmnhgnpfaaMBSep
import Derived.Test.YtpapjdmnhgnpfaaMBRMath
import Derived.Test.YtpapjdmnhgnpfaaGOnto
namespace Go.Proofs.Ytpapjdmnhgnpfaa
open Go.RowKit Go.Deep Go.Shelf
abbrev objR (n : Nat) (v : Value) : Obj := .cells #[.int .i64 (n : Int), v] 54 (0, 0)
def cT (x : Tl) : List Value := [.int .i64 x.t, .int .i64 x.m.f, .int .i64 x.m.k, .int .i64 x.m.a]
def elT : El Tl := ⟨58, 52, 4, 32, cT⟩
theorem infoT : (Try.prog.info? 58).map (fun i => (i.zero, i.size, i.bytes)) = some (some (.agg #[.int .i64 0, .int .i64 0, .int .i64 0, .int .i64 0]), 4, 32) := by kernel_rfl
theorem okT : El.Ok elT := ⟨Try.underlying52, info_of infoT rfl, by decide, by decide, fun _ => rfl, by simp [elT, cT, Value.oneCell']⟩
abbrev lstT (v : Value) (D : Dl) : Th := lst elT v D
section
variable {w0 w w' : World} {r k n : Nat} {D : Dl} {R : List Th} {u : Value}
theorem rowT_at {g cap m : Nat} (h : Row elT w (.slice (some ⟨g, 0, none⟩) m cap) D) {i : Nat} {x : Tl} (hx : D[i]? = some x) : w.cell? ⟨g, i * 4, none⟩ = some (.int .i64 x.t) ∧ w.cell? ⟨g, i * 4 + 1, none⟩ = some (.int .i64 x.m.f) ∧ w.cell? ⟨g, i * 4 + 2, none⟩ = some (.int .i64 x.m.k) ∧ w.cell? ⟨g, i * 4 + 3, none⟩ = some (.int .i64 x.m.a) :=
  ⟨Row.cell okT h hx (j := 0) rfl, Row.cell okT h hx (j := 1) rfl, Row.cell okT h hx (j := 2) rfl, Row.cell okT h hx (j := 3) rfl⟩
theorem Sep.cellsR (h : Sep w0 r w (blk k (objR n u) :: R)) : w.cell? ⟨k, 0, none⟩ = some (.int .i64 (n : Int)) ∧ w.cell? ⟨k, 1, none⟩ = some u ∧ ∀ j, w.frozen? ⟨k, j, none⟩ = false := by
  have h1 : w.heap[k]? = some (objR n u) := h.head
  exact ⟨by simp [World.cell?, h1], by simp [World.cell?, h1], fun j => by simp [World.frozen?, h1]⟩
theorem Sep.putR {v' : Value} (h : Sep w0 r w (blk k (objR n u) :: R)) : Sep w0 r (w.setCell ⟨k, 1, none⟩ v') (blk k (objR n v') :: R) := by
  have h1 : w.heap[k]? = some (objR n u) := h.head
  exact h.turn (t' := blk k (objR n v')) (setBlock (j := 1) h1 v') (Turn.setCell (blk k (objR n u)).F w ⟨k, 1, none⟩ _ rfl) fun x hx => .inl hx
theorem Sep.sub2 {R R' : List Th} (h : Sep w0 r w R) (k : R'.Sublist R) : Sep w0 r w R' := ⟨h.low, h.size, fun t ht => h.each t (k.subset ht), h.apart.sublist k⟩
theorem rnew_sep (s : Sep w0 r w R) (h1 : 1 ≤ n) (h2 : n ≤ 8) :
    Calls Try.prog 10 #[.int .i64 (n : Int)] w fun e w' => ∃ p, e = .returned (.tuple #[ptr p, .int .i64 0]) ∧ Sep w0 r w' (blk p (objR n (.slice none 0 0)) :: lstT (.slice none 0 0) [] :: R) := by
  have S1 := hid ((s.nil (E := elT)).box (objR n (.slice none 0 0)))
  have h3 : decide ((n : Int) < 1) = false := by simp; omega
  have h4 : decide ((8 : Int) < (n : Int)) = false := by simp; omega
  have h5 : ¬ ((n : Int) < 1) := by omega
  have h6 : ¬ ((8 : Int) < (n : Int)) := by omega
  clear s h1 h2
  go_enter Try.func10, Try.ntmps10
  go_wp2
  go_ret2
  exact ⟨_, rfl, S1.out⟩
theorem ris_any (s : Sep w0 r w (blk k (objR n u) :: R)) (c : Int) :
    Calls Try.prog 26 #[ptr k, .int .i64 c] w fun e w' => e = .returned (.bool (hasB n c)) ∧ w' = w := by
  obtain ⟨c0, -, -⟩ := s.cellsR
  clear s
  unfold hasB
  by_cases h : 0 ≤ c
  · have h1 : decide (0 ≤ c) = true := by simpa using h
    rw [h1]
    go_enter Try.func26, Try.ntmps26
    go_wp2
    go_ret
    exact ⟨by simp, rfl⟩
  · have h1 : decide (0 ≤ c) = false := by simpa using h
    rw [h1]
    go_enter Try.func26, Try.ntmps26
    go_wp2
    go_ret
    exact ⟨by simp, rfl⟩
set_option maxHeartbeats 4000000 in
set_option maxRecDepth 100000 in
theorem rbox_new (s : Sep w0 r w (blk k (objR n u) :: lstT u D :: R)) (hl : D.length ≤ 1000) (c : Int) :
    Calls Try.prog 20 #[ptr k, .int .i64 c] w fun e w' => ∃ v, e = .returned v ∧ Sep w w.heap.size w' [lstM v (boxD D c)] := by
  obtain ⟨ao, cap, rfl⟩ := s.listIs (E := elT) (v := u) (A := D) (by simp)
  have S0 := hid s
  have S1 := hid (Sep.made (E := elM) (sep_nil w))
  clear s
  obtain ⟨N, hN⟩ : ∃ N, D.length = N := ⟨_, rfl⟩
  rw [hN] at S0 hl
  have HN := hid hN
  clear hN
  go_enter Try.func20, Try.ntmps20
  go_wp2_with fail
  go_loopw [5, 6] (fun s5 s6 wr => ∃ j : Nat, j ≤ N ∧ s6 = .int .i64 j ∧ Sep w w.heap.size wr [lstM s5 (boxD (D.take j) c)]) (fun _ s6 _ => N - (intOf s6).toNat)
  case atStart => exact ⟨0, Nat.zero_le _, rfl, S1.out⟩
  case round =>
    clear S1
    obtain ⟨j, hj, rfl, s2⟩ := hrel
    obtain ⟨a5, k5, ev⟩ := s2.listIs (E := elM) (v := u5) (A := boxD (D.take j) c) (by simp)
    subst ev
    have s3 := S0.out.below s2.low
    obtain ⟨-, c1, -⟩ := s3.cellsR
    by_cases hlt : j < N
    · have hltz : (j : Int) < (N : Int) := by omega
      have hx := List.getElem?_eq_getElem (l := D) (i := j) (by have := HN.out; omega)
      generalize D[j]'(by have := HN.out; omega) = x at hx
      have row : Row elT _ (.slice ao N cap) D := s3.drop.head
      obtain ⟨_, _, ev, -, -, hg, -⟩ := row.slice
      simp only [Value.slice.injEq] at ev
      obtain ⟨rfl, -, rfl⟩ := ev
      obtain ⟨g, rfl⟩ := hg j (by have := HN.out; omega)
      obtain ⟨x0, x1, x2, x3⟩ := rowT_at row hx
      have HO := hid (boxD_take D c hx)
      by_cases e : x.t = c
      · have e1 : (x.t == c) = true := by simpa using e
        rw [if_pos e] at HO
        have hlen : (boxD (D.take j) c).length ≤ 1000000 := by
          have := boxD_le (D.take j) c
          rw [List.length_take] at this
          omega
        obtain ⟨v4, w4, r4, s4⟩ := s2.more okM 39 x.m (C := #[.int .i64 x.m.f, .int .i64 x.m.k, .int .i64 x.m.a]) rfl hlen
        rw [← HO.out] at s4
        have S4 := hid s4
        simp only [elM] at r4
        have R4 := hid r4
        clear e s2 s3 s4 r4 row hx hg hlen
        generalize (boxD (D.take j) c).length = z at *
        go_wp2_with (at_builtin; refine wpList_append_run rfl _ _ _ _ rfl _ _ _ _ rfl rfl R4.out ?_)
        go_roundw
        case rel => exact ⟨j + 1, by omega, by go_num, S4.out⟩
        case measure => simp [intOf]; omega
      · have e1 : (x.t == c) = false := by simpa using e
        rw [if_neg e, List.append_nil] at HO
        have S2 := hid s2
        clear e s2 s3 row hx hg
        generalize (boxD (D.take j) c).length = z at *
        go_wp2
        go_roundw
        case rel => exact ⟨j + 1, by omega, by go_num, by rw [HO.out]; exact S2.out⟩
        case measure => simp [intOf]; omega
    · obtain rfl : j = N := by omega
      have hltz : ¬ (j : Int) < (j : Int) := by omega
      have e : boxD (D.take j) c = boxD D c := by rw [List.take_of_length_le (by rw [HN.out]; exact Nat.le_refl _)]
      rw [e] at s2 ⊢
      have S2 := hid s2
      clear s2 s3 e
      generalize (boxD D c).length = z at *
      go_wp2
      go_ret
      exact ⟨_, rfl, S2.out⟩
set_option maxHeartbeats 4000000 in
set_option maxRecDepth 100000 in
theorem rowed_new (s : Sep w0 r w (blk k (objR n u) :: lstT u D :: R)) (hl : D.length ≤ 1000) (c : Int) :
    Calls Try.prog 22 #[ptr k, .int .i64 c] w fun e w' => e = .returned (.int .i64 (ofD c D : Int)) ∧ w' = w := by
  obtain ⟨ao, cap, rfl⟩ := s.listIs (E := elT) (v := u) (A := D) (by simp)
  obtain ⟨-, c1, -⟩ := s.cellsR
  have HRow : Hid (Row elT w (.slice ao D.length cap) D) := s.drop.head
  clear s
  obtain ⟨N, hN⟩ : ∃ N, D.length = N := ⟨_, rfl⟩
  rw [hN] at HRow hl c1
  have HN := hid hN
  clear hN
  go_enter Try.func22, Try.ntmps22
  go_wp2_with fail
  go_loopw [5, 6] (fun s5 s6 wr => ∃ j : Nat, j ≤ N ∧ s6 = .int .i64 j ∧ s5 = .int .i64 (ofD c (D.take j)) ∧ wr = w) (fun _ s6 _ => N - (intOf s6).toNat)
  case atStart => exact ⟨0, Nat.zero_le _, rfl, rfl, rfl⟩
  case round =>
    obtain ⟨j, hj, rfl, rfl, rfl⟩ := hrel
    have hle := ofD_le c (D.take j)
    rw [List.length_take] at hle
    by_cases hlt : j < N
    · have hltz : (j : Int) < (N : Int) := by omega
      have hx := List.getElem?_eq_getElem (l := D) (i := j) (by have := HN.out; omega)
      generalize D[j]'(by have := HN.out; omega) = x at hx
      obtain ⟨_, _, ev, -, -, hg, -⟩ := HRow.out.slice
      simp only [Value.slice.injEq] at ev
      obtain ⟨rfl, -, rfl⟩ := ev
      obtain ⟨g, rfl⟩ := hg j (by have := HN.out; omega)
      obtain ⟨x0, x1, x2, x3⟩ := rowT_at HRow.out hx
      have HO := hid (ofD_more c hx)
      have hle2 : ofD c (D.take j) ≤ 1000 := by omega
      clear hx hg hle
      generalize ofD c (D.take j) = z at *
      by_cases e : x.m.f = c
      · have e1 : (x.m.f == c) = true := by simpa using e
        rw [if_pos e1] at HO
        clear e
        go_wp2
        go_roundw
        case rel => exact ⟨j + 1, by omega, by go_num, by rw [HO.out]; go_num, by trivial⟩
        case measure => simp [intOf]; omega
      · have e1 : (x.m.f == c) = false := by simpa using e
        rw [if_neg (by rw [e1]; decide)] at HO
        clear e
        go_wp2
        go_roundw
        case rel => exact ⟨j + 1, by omega, by go_num, by rw [HO.out]; rfl, by trivial⟩
        case measure => simp [intOf]; omega
    · obtain rfl : j = N := by omega
      have hltz : ¬ (j : Int) < (j : Int) := by omega
      have e : ofD c (D.take j) = ofD c D := by rw [List.take_of_length_le (by rw [HN.out]; exact Nat.le_refl _)]
      rw [e]
      obtain ⟨z, hz⟩ : ∃ z, ofD c D = z := ⟨_, rfl⟩
      rw [hz]
      have HZ := hid hz
      clear e hle hz
      go_wp2
      go_ret
      exact ⟨by rw [HZ.out]; rfl, by trivial⟩
end
end Go.Proofs.Ytpapjdmnhgnpfaa

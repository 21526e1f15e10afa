/-
  What New and Copy of package mailbox answer, and leave, among things that lie apart; no condition.
-/
import Derived.Test.YtpapjdmnhgnpfaaMBCalls
import Derived.Test.YtpapjdmnhgnpfaaGMake
namespace Go.Proofs.Ytpapjdmnhgnpfaa
open Go.RowKit Go.Deep Go.Shelf
def sv0 : Sv := ⟨none, 0, 0⟩
theorem make_V (n : Nat) (hn : n ≤ 1000) (W : World) : (Instr.makeSlice 49 (.int .i64 (n : Int)) (.int .i64 (n : Int))).run Try.prog W = .ok (.slice (some ⟨W.heap.size, 0, none⟩) n n) (W.alloc (.cells (madeCells #[.slice none 0 0] n) 39)) := by
  obtain ⟨i, hi, e⟩ := Option.map_eq_some_iff.1 infoV
  simp only [Prod.mk.injEq] at e
  have := run_make_el okV ⟨i, hi, e.1, e.2.1, e.2.2⟩ n hn W
  rw [show n * elV.k = n from Nat.mul_one n] at this
  exact this
def emptyS (n : Nat) : St := List.replicate n []
/-- Some of the boxes, the others empty. -/
def fillS (L : St) (k : Nat) : St := L.take k ++ List.replicate (L.length - k) []
theorem fill_zero (L : St) : fillS L 0 = List.replicate L.length [] := by simp [fillS]
theorem fill_all (L : St) : fillS L L.length = L := by simp [fillS]
theorem fill_len (L : St) {k : Nat} (h : k ≤ L.length) : (fillS L k).length = L.length := by simp [fillS]; omega
theorem fill_get {L : St} {k j : Nat} {b : Bx} (h : (fillS L k)[j]? = some b) : b = [] ∨ L[j]? = some b := by
  unfold fillS at h
  rw [List.getElem?_append] at h
  split at h
  · rename_i hj
    rw [List.length_take] at hj
    rw [List.getElem?_take_of_lt (by omega)] at h
    exact .inr h
  · exact .inl (List.eq_of_mem_replicate (List.mem_of_getElem? h))
theorem fill_more {L : St} {k : Nat} {b : Bx} (h : L[k]? = some b) : (fillS L k).set k b = fillS L (k + 1) := by
  obtain ⟨hk, e⟩ := List.getElem?_eq_some_iff.1 h
  unfold fillS
  have h1 : L.length - k = (L.length - (k + 1)) + 1 := by omega
  have h2 : (L.take k).length = k := by rw [List.length_take]; omega
  rw [List.set_append_right _ _ (by omega), h2, Nat.sub_self, h1, List.replicate_succ, List.set_cons_zero, List.take_add_one, h]
  simp
theorem Good.fill {n : Nat} {L : St} (g : Good n L) {k : Nat} (h : k ≤ n) : Good n (fillS L k) := by
  refine ⟨by rw [fill_len L (by rw [g.len]; exact h)]; exact g.len, g.pos, g.top, fun i b hb => ?_, fun i b hb x hx => ?_⟩
  · rcases fill_get hb with rfl | h
    · simp
    · exact g.few i b h
  · rcases fill_get hb with rfl | h
    · simp at hx
    · exact g.src i b h x hx
section
variable {w0 w w' : World} {r p g n : Nat} {V : List Sv} {L : St} {R : List Th}
theorem Sep.nils (h : Sep w0 r w R) : ∀ n, Sep w0 r w (bxs (List.replicate n sv0) (List.replicate n []) ++ R)
  | 0 => h
  | n + 1 => by
    rw [List.replicate_succ, List.replicate_succ]
    exact Sep.nil (E := elM) (h.nils n)
/-- Boxes are laid. -/
theorem Sep.boxes (h : Sep w0 r w R) (h1 : 1 ≤ n) (h8 : n ≤ 8) : Sep w0 r ((w.alloc (.cells (madeCells #[.slice none 0 0] n) 39)).alloc (objB w.heap.size n)) (bxT n (w.heap.size + 1) w.heap.size (List.replicate n sv0) (List.replicate n []) :: R) := by
  have s1 := (Sep.madeN (E := elV) okV (zs := #[.slice none 0 0]) (z := sv0) rfl (h.nils n) n (by omega)).box (objB w.heap.size n)
  have e : ∀ o, (w.alloc o).heap.size = w.heap.size + 1 := fun o => by simp
  rw [e, show n * elV.k = n from Nat.mul_one n] at s1
  exact Sep.shut s1 List.length_replicate (good_new h1 h8)
set_option maxHeartbeats 4000000 in
theorem new_sep (s : Sep w0 r w R) (h1 : 1 ≤ n) (h8 : n ≤ 8) :
    Calls Try.prog 9 #[.int .i64 (n : Int)] w fun e w' => ∃ p, e = .returned (.tuple #[ptr p, .int .i64 0]) ∧ ∃ g V, Sep w0 r w' (bxT n p g V (List.replicate n []) :: R) := by
  have hmk := make_V n (by omega)
  have S1 := hid (s.boxes h1 h8)
  have hn1 : ¬ ((n : Int) < 1) := by omega
  have hn8 : ¬ ((n : Int) > 8) := by omega
  clear s
  go_enter Try.func9, Try.ntmps9
  go_wp2
  go_ret2
  exact ⟨_, rfl, _, _, S1.out⟩
theorem new_no (n : Int) (hn : n < 1 ∨ 8 < n) (w : World) : Calls Try.prog 9 #[.int .i64 n] w fun e w' => e = .returned (.tuple #[.pointer none, .int .i64 1]) ∧ w' = w := by
  rcases hn with h | h
  · go_enter Try.func9, Try.ntmps9
    go_wp2
    go_ret2
    exact ⟨rfl, rfl⟩
  · have h0 : ¬ n < 1 := by omega
    have h2 : n > 8 := h
    go_enter Try.func9, Try.ntmps9
    go_wp2
    go_ret2
    exact ⟨rfl, rfl⟩
/-- A box is laid down, made by a call. -/
theorem Sep.layBox {i : Nat} {v : Value} {b : Bx} (s : Sep w0 r w (bxT n p g V L :: R)) (hi : i < n) (k : Sep w w.heap.size w' [lstM v b]) (gd : Good n (L.set i b)) :
    w'.cell? ⟨p, 0, none⟩ = some (ovS g n) ∧ (∃ u, w'.cell? ⟨g, i, none⟩ = some u) ∧ w'.frozen? ⟨g, i, none⟩ = false ∧ ∃ V', Sep w0 r (w'.setCell ⟨g, i, none⟩ v) (bxT n p g V' (L.set i b) :: R) := by
  have row : RowM w' v b := k.head
  obtain ⟨ao, cap, rfl, -⟩ := row.slice
  obtain ⟨ao', cap', hx, hc, -⟩ := s.boxAt hi
  have s2 := s.below k.low
  obtain ⟨ao2, cap2, -, hc2, -⟩ := s2.boxAt hi
  refine ⟨s2.cellB, ⟨_, hc2⟩, s2.frozenB i, _, s.turnBox (x' := ⟨ao, b.length, cap⟩) hi hx row ⟨k.low.os, k.low.tape, k.low.output, k.low.size, fun j hj _ => k.low.block j hj⟩ (.inr fun j hj => (k.each (lstM (.slice ao b.length cap) b) (by simp)).2 j hj) gd⟩
set_option maxHeartbeats 8000000 in
set_option maxRecDepth 100000 in
theorem copy_sep (s : Sep w0 r w (bxT n p g V L :: R)) :
    Calls Try.prog 17 #[ptr p] w fun e w' => ∃ p', e = .returned (ptr p') ∧ ∃ g' V', Sep w0 r w' (bxT n p' g' V' L :: bxT n p g V L :: R) := by
  have hG := s.goodB
  have hmk := make_V n (by have := hG.top; omega)
  have S1 := hid (s.boxes hG.pos hG.top)
  have hlen := hG.len
  have HG := hid hG
  have c0 := s.cellB
  have c1 : ((w.alloc (.cells (madeCells #[.slice none 0 0] n) 39)).alloc (objB w.heap.size n)).cell? ⟨p, 0, none⟩ = some (ovS g n) := cell_al (cell_al c0 _) _
  have hZ := fill_zero L
  rw [hlen] at hZ
  rw [← hZ] at S1
  have htop := hG.top
  clear s hG hZ
  go_enter Try.func17, Try.ntmps17
  go_wp2_with fail
  go_loopw [18] (fun s18 wr => ∃ (k : Nat) (V2 : List Sv), k ≤ n ∧ s18 = .int .i64 k ∧ Sep w0 r wr (bxT n (w.heap.size + 1) w.heap.size V2 (fillS L k) :: bxT n p g V L :: R)) (fun s18 _ => n - (intOf s18).toNat)
  case atStart => exact ⟨0, _, Nat.zero_le _, rfl, S1.out⟩
  case round =>
    clear S1 c0 c1
    obtain ⟨k, V2, hk, rfl, s2⟩ := hrel
    by_cases hlt : k < n
    · have hat := HG.out.at hlt
      have hset := fill_more hat
      have HB : Hid (∀ W, Sep w0 r W (bxT n (w.heap.size + 1) w.heap.size V2 (fillS L k) :: bxT n p g V L :: R) → Calls Try.prog 18 #[ptr p, .int .i64 k] W fun e w' => ∃ ao cap, e = .returned (.slice ao (boxN L k).length cap) ∧ w'.cell? ⟨w.heap.size + 1, 0, none⟩ = some (ovS w.heap.size n) ∧ (∃ u, w'.cell? ⟨w.heap.size, k, none⟩ = some u) ∧ w'.frozen? ⟨w.heap.size, k, none⟩ = false ∧ ∃ V', Sep w0 r (w'.setCell ⟨w.heap.size, k, none⟩ (.slice ao (boxN L k).length cap)) (bxT n (w.heap.size + 1) w.heap.size V' (fillS L (k + 1)) :: bxT n p g V L :: R)) := fun W hW =>
        (box_new hW.drop k).mono fun e w' ⟨v', he, hs⟩ => by
          rw [boxL_nat] at hs
          have := hW.layBox hlt hs (by rw [hset]; exact HG.out.fill hlt)
          rw [hset] at this
          obtain ⟨ao, cap, rfl, -⟩ := Row.slice hs.head
          exact ⟨ao, cap, he, this⟩
      have S2 := hid s2
      have cc := s2.cellB
      have hltz : (k : Int) < (n : Int) := by omega
      clear s2 hat hset
      generalize w.heap.size = z at *
      generalize (boxN L k).length = b at *
      go_wp2_with fail
      go_region_with (go_at_call 18; refine Calls.mono (HB.out _ S2.out.drew) ?_; rintro e w4 ⟨a4, k4, rfl, d1, ⟨u, d2⟩, d3, V4, s4⟩; have S4 := hid s4; clear s4)
      all_goals
        go_wp2
        go_roundw
        case rel => exact ⟨k + 1, _, by omega, by go_num, S4.out⟩
        case measure => simp [intOf]; omega
    · obtain rfl : k = n := by omega
      have hltz : ¬ (k : Int) < (k : Int) := by omega
      have e := fill_all L
      rw [hlen] at e
      rw [e] at s2
      have S2 := hid s2
      clear s2 e
      go_wp2
      go_ret
      exact ⟨_, rfl, _, _, S2.out⟩
end
end Go.Proofs.Ytpapjdmnhgnpfaa

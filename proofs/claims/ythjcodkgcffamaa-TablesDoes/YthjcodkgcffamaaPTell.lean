/-
  What Pages and Frames of package tables answer: all pages, in order; the numbers of those of a frame; no condition.
-/
import Derived.Test.YthjcodkgcffamaaPTab
namespace Go.Proofs.Ythjcodkgcffamaa
open Go.RowKit Go.Deep Go.Shelf

section
variable {w0 w : World} {r p : Nat} {m : Nat → Option Nat} {S : Sp} {R : List Th}
set_option maxRecDepth 100000 in
set_option maxHeartbeats 4000000 in
theorem pages_any (h : SpP p m S w) : Calls Try.prog 26 #[ptr p] w fun e w' => ∃ v, e = .returned v ∧ Sep w w.heap.size w' [lstL v (allP S.f)] := by
  have HS := hid h
  clear h
  go_enter Try.func26, Try.ntmps26
  go_wp2
  go_loopw [3, 5] (fun v3 v5 wr => ∃ k : Nat, k ≤ 64 ∧ v5 = .int .i64 k ∧ Sep w w.heap.size wr [lstL v3 (seg S.f 0 (64 * k))]) (fun _ v5 _ => 64 - (intOf v5).toNat)
  case atStart => exact ⟨0, Nat.zero_le _, rfl, (sep_nil w).nil⟩
  case round =>
    obtain ⟨k, hk, rfl, s2⟩ := hrel
    by_cases hlt : k < 64
    · have hltz : (k : Int) < 64 := by omega
      have h2 := HS.out.below s2.low
      have hc := h2.cell hlt
      have HL := hid (laid_any (m k) S k wr (h2.maps k hlt) h2.in64)
      obtain ⟨a3, c3, rfl⟩ := s2.listIs (E := elL) (v := u3) (A := seg S.f 0 (64 * k)) (by simp)
      have HT := hid (pl_step S.f k)
      have S2 := hid s2
      have HN := hid (And.intro (seg_len S.f 0 (64 * k)) (seg_len S.f (64 * k) 64))
      clear s2 h2
      generalize hn : (seg S.f 0 (64 * k)).length = n at *
      have HN2 := hid hn
      clear hn
      go_wp2_with (first
        | (go_at_call 34; refine Calls.mono HL.out ?_; rintro e u ⟨v, rfl, su⟩; have sj := (S2.out.join su).swap; obtain ⟨v4, w4, r4, s4⟩ := sj.onto okL (v := v) (B := plP S.f k) (sj.each (lstL v (plP S.f k)) (by simp)).1 27 (by have h1 := HN.out.1; have h2 := HN.out.2; have h3 := HN2.out; unfold plP; omega); obtain ⟨a9, c9, rfl⟩ := sj.listIs (E := elL) (v := v) (A := plP S.f k) (by simp); simp only [elL] at r4; have R4 := hid r4; have S4 := hid s4.drop2; clear su sj r4 s4)
        | (at_builtin; refine wpList_append_run rfl _ _ _ _ rfl _ _ _ _ rfl rfl R4.out ?_))
      go_roundw
      case rel => exact ⟨k + 1, by omega, by go_num, by rw [HT.out]; exact S4.out⟩
      case measure => simp [intOf]; omega
    · have hltz : ¬ (k : Int) < 64 := by omega
      obtain rfl : k = 64 := by omega
      have S2 : Hid (Sep w w.heap.size wr [lstL u3 (allP S.f)]) := s2
      clear s2
      go_wp2
      go_ret
      exact ⟨_, rfl, S2.out⟩
theorem pages_sep (s : Sep w0 r w (spT p m S :: R)) : Calls Try.prog 26 #[ptr p] w fun e w' => ∃ v, e = .returned v ∧ Sep w0 r w' (spT p m S :: lstL v (allP S.f) :: R) := by
  refine Calls.mono (pages_any s.head) ?_
  rintro e w' ⟨v, rfl, k⟩
  exact ⟨v, rfl, (s.join k).swap⟩
def objL (x : La) : Obj := .cells #[.int .i64 x.1, .int .i64 x.2.fr, .int .i64 x.2.rt] 53
set_option maxRecDepth 100000 in
set_option maxHeartbeats 4000000 in
theorem frames_any (h : SpP p m S w) (fr : Int) : Calls Try.prog 29 #[ptr p, .int .i64 fr] w fun e w' => ∃ v, e = .returned v ∧ Sep w w.heap.size w' [lstI v (frmL S.f fr)] := by
  have HP := hid (pages_any h)
  have HA := hid (all_len S.f)
  clear h
  unfold frmL
  generalize allP S.f = L at *
  go_enter Try.func29, Try.ntmps29
  go_wp2_with (go_at_call 26; refine Calls.mono HP.out ?_; rintro e w1 ⟨v, rfl, s1⟩; obtain ⟨ao, cap, rfl⟩ := s1.listIs (E := elL) (v := v) (A := L) (by simp); have S1 := hid s1; clear s1; generalize hN : L.length = N at *; have HN := hid hN; clear hN)
  go_loopw [5, 11] (fun v5 v11 wr => ∃ k : Nat, k ≤ N ∧ v11 = .int .i64 k ∧ Sep w w.heap.size wr [lstI v5 (((L.take k).filter (frmB fr)).map (·.1)), lstL (.slice ao N cap) L]) (fun _ v11 _ => N - (intOf v11).toNat)
  case atStart => exact ⟨0, Nat.zero_le _, rfl, S1.out.nil⟩
  case round =>
    obtain ⟨k, hk, rfl, s2⟩ := hrel
    have hN4 : N ≤ 4096 := HA.out
    by_cases hlt : k < N
    · have hltz : (k : Int) < (N : Int) := by omega
      have hk1 : k < L.length := by have := HN.out; omega
      obtain ⟨x, hx⟩ : ∃ x, L[k]? = some x := ⟨_, List.getElem?_eq_getElem hk1⟩
      obtain ⟨q, rfl, hc⟩ := s2.listAt okL (ao := ao) (n := N) (cap := cap) (A := L) (by simp) hx
      have d0 : wr.cell? ⟨q, k * 3, none⟩ = some (.int .i64 x.1) := hc 0 _ rfl
      have d1 : wr.cell? ⟨q, k * 3 + 1, none⟩ = some (.int .i64 x.2.fr) := hc 1 _ rfl
      have d2 : wr.cell? ⟨q, k * 3 + 2, none⟩ = some (.int .i64 x.2.rt) := hc 2 _ rfl
      have hl : (((L.take k).filter (frmB fr)).map (·.1)).length ≤ 4096 := by
        rw [List.length_map]
        refine Nat.le_trans (List.length_filter_le _ _) ?_
        rw [List.length_take]
        omega
      have hT : ((L.take (k + 1)).filter (frmB fr)).map (·.1) = ((L.take k).filter (frmB fr)).map (·.1) ++ (if x.2.fr = fr then [x.1] else []) := by
        rw [List.take_add_one, hx, List.filter_append, List.map_append]
        congr 1
        by_cases e : x.2.fr = fr
        · simp [frmB, e]
        · simp [frmB, e]
      have s3 := s2.below (below_new wr (objL x))
      obtain ⟨a, y⟩ := x
      obtain ⟨b, c⟩ := y
      simp only at d0 d1 d2 hT
      by_cases hfr : b = fr
      · have hq : (b == fr) = true := by simpa using hfr
        rw [if_pos hfr] at hT
        have HT := hid hT
        obtain ⟨v4, w4, r4, s4⟩ := s3.more okI 48 a (C := #[.int .i64 a]) rfl (by omega)
        obtain ⟨a5, c5, rfl⟩ := s3.listIs (E := elI) (v := u5) (A := ((L.take k).filter (frmB fr)).map (·.1)) (by simp)
        simp only [elI, objL] at r4
        have e9 : (wr.alloc (.cells #[.int .i64 a, .int .i64 b, .int .i64 c] 53)).heap.size = wr.heap.size + 1 := by simp
        rw [e9] at r4
        have R4 := hid r4
        have S4 := hid s4
        clear s2 s3 s4 r4 hc hx hk1 hT hl hfr e9
        generalize (((L.take k).filter (frmB fr)).map (·.1)).length = n at *
        go_wp2_with (at_builtin; refine wpList_append_run rfl _ _ _ _ rfl _ _ _ _ rfl rfl R4.out ?_)
        go_roundw
        case rel => exact ⟨k + 1, by omega, by go_num, by rw [HT.out]; exact S4.out⟩
        case measure => simp [intOf]; omega
      · have hq : (b == fr) = false := by simpa using hfr
        rw [if_neg hfr, List.append_nil] at hT
        have HT := hid hT
        have S3 := hid s3
        clear s2 s3 hc hx hk1 hT hl hfr
        go_wp2
        go_roundw
        case rel => exact ⟨k + 1, by omega, by go_num, by rw [HT.out]; exact S3.out⟩
        case measure => simp [intOf]; omega
    · have hltz : ¬ (k : Int) < (N : Int) := by omega
      have e1 : L.take k = L := List.take_of_length_le (by have := HN.out; omega)
      rw [e1] at s2
      have S2 := hid s2.drop2
      clear s2 e1
      go_wp2
      go_ret
      exact ⟨_, rfl, S2.out⟩
theorem frames_sep (s : Sep w0 r w (spT p m S :: R)) (fr : Int) : Calls Try.prog 29 #[ptr p, .int .i64 fr] w fun e w' => ∃ v, e = .returned v ∧ Sep w0 r w' (spT p m S :: lstI v (frmL S.f fr) :: R) := by
  refine Calls.mono (frames_any s.head fr) ?_
  rintro e w' ⟨v, rfl, k⟩
  exact ⟨v, rfl, (s.join k).swap⟩
end
end Go.Proofs.Ythjcodkgcffamaa

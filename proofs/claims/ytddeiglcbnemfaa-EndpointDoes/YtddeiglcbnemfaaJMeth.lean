/-
  What New, Cancel, Badge and Waits of package endpoint answer, and leave; no condition but that few wait.
-/
import Derived.Test.YtddeiglcbnemfaaJTake
namespace Go.Proofs.Ytddeiglcbnemfaa
open Go.RowKit Go.Deep Go.Shelf

section
variable {w0 w : World} {r p : Nat} {v : Value} {S : St} {R : List Th}
theorem Sep.ep (h : Sep w0 r w (lstW v S :: R)) (g : Good S) : Sep w0 r (w.alloc (.cells #[v] 51)) (epT w.heap.size v S :: R) := by
  have h1 := (h.box (.cells #[v] 51))
  have row : RowW (w.alloc (.cells #[v] 51)) v S := (h1.each (lstW v S) (by simp)).1
  obtain ⟨a1, a2⟩ := List.pairwise_cons.1 h1.apart
  obtain ⟨a3, a4⟩ := List.pairwise_cons.1 a2
  refine ⟨h1.low, h1.size, fun t ht => ?_, List.pairwise_cons.2 ⟨fun b hb x hx hy => ?_, a4⟩⟩
  · rcases List.mem_cons.1 ht with rfl | ht
    · refine ⟨⟨h1.head, row, fun e => a1 (lstW v S) (by simp) _ rfl e, g⟩, fun x hx => ?_⟩
      rcases hx with rfl | hx
      · exact h.size
      · exact (h1.each (lstW v S) (by simp)).2 x hx
    · exact h1.each t (by simp [ht])
  · rcases hx with rfl | hx
    · exact a1 b (by simp [hb]) _ rfl hy
    · exact a3 b hb x hx hy
theorem new_sep (s : Sep w0 r w R) : Calls Try.prog 4 #[] w fun e w' => ∃ p v, e = .returned (ptr p) ∧ Sep w0 r w' (epT p v [] :: R) := by
  have S1 := hid (Sep.ep (s.nil (E := elW)) good_nil)
  clear s
  go_enter Try.func4, Try.ntmps4
  go_wp2
  go_ret
  exact ⟨_, _, rfl, S1.out⟩
theorem cancel_sep (s : Sep w0 r w (epT p v S :: R)) (n : Int) (hl : S.length ≤ 1000) :
    Calls Try.prog 9 #[ptr p, .int .i64 n] w fun e w' => e = .returned (.bool (thB S n)) ∧ ∃ v', Sep w0 r w' (epT p v' (outS (isW n) S) :: R) := by
  have S1 := hid s
  have HL := hid hl
  have hd := cancel_is S n
  have hm := outN_len (isW n) S
  clear s
  generalize hB : thB S n = β at *
  clear hB
  go_enter Try.func9, Try.ntmps9
  go_wp2_with fail
  refine Calls.mono (named_any _ _) ?_
  rintro e w2 ⟨c, rfl, k2, b2⟩
  obtain ⟨gc, lc, rfl⟩ := k2.form
  have S2 := hid (S1.out.below b2)
  have K2 := hid k2
  clear k2 b2 S1
  go_wp2_with fail
  refine Calls.mono (takeOut_sep S2.out _ _ K2.out HL.out) ?_
  rintro e w3 ⟨u, v3, rfl, s3⟩
  obtain ⟨ao, cap, rfl⟩ := s3.listIs (E := elI) (v := u) (A := outN (isW n) S) (by simp)
  have S3 := hid s3.drop2
  clear s3 S2 K2
  generalize (outN (isW n) S).length = m at *
  go_wp2
  go_ret
  exact ⟨rfl, _, S3.out⟩
theorem badge_sep (s : Sep w0 r w (epT p v S :: R)) (n : Int) (hl : S.length ≤ 1000) :
    Calls Try.prog 11 #[ptr p, .int .u64 n] w fun e w' => ∃ ao cap v', e = .returned (.slice ao (outN (isG n) S).length cap) ∧ Sep w0 r w' (epT p v' (outS (isG n) S) :: lstI (.slice ao (outN (isG n) S).length cap) (outN (isG n) S) :: R) := by
  have hmf : ∀ (fn : Fn) (first cap : Array Value) (w : World), (Instr.makeFunc fn first cap).run Try.prog w = .ok (.func fn first cap) w := fun _ _ _ _ => rfl
  have b1 := below_new w (.cells #[.int .u64 n] 30)
  have S1 := hid (s.below b1)
  have HV := hid (Var.new w (.int .u64 n) 30)
  have HL := hid hl
  clear s b1
  go_enter Try.func11, Try.ntmps11
  go_wp2_with fail
  refine Calls.mono (takeOut_sep S1.out _ (isG n) ⟨_, _, rfl, enters_of Try.func23 (by kernel_rfl) rfl, fun W x k => isG_any w.heap.size n x W (HV.out.below k)⟩ HL.out) ?_
  rintro e w3 ⟨u, v3, rfl, s3⟩
  obtain ⟨ao, cap, rfl⟩ := s3.listIs (E := elI) (v := u) (A := outN (isG n) S) (by simp)
  have S3 := hid s3
  clear s3 S1 HV
  generalize hm : (outN (isG n) S).length = m at *
  go_wp2
  go_ret
  subst hm
  exact ⟨_, _, _, rfl, S3.out⟩
set_option maxHeartbeats 2000000 in
theorem waits_sep (s : Sep w0 r w (epT p v S :: R)) (hl : S.length ≤ 1000) :
    Calls Try.prog 15 #[ptr p] w fun e w' => ∃ ao cap, e = .returned (.tuple #[.slice ao (waitsN S).length cap, .bool (hasB S true)]) ∧ Sep w0 r w' (epT p v S :: lstI (.slice ao (waitsN S).length cap) (waitsN S) :: R) := by
  have c0 := s.cellP
  obtain ⟨ao, cap, rfl, hg⟩ := s.sliceP
  have HS := hid s
  have HG := hid hg
  have HL := hid hl
  clear s hg
  generalize hN : S.length = N at *
  have HN := hid hN
  clear hN
  go_enter Try.func15, Try.ntmps15
  go_wp2
  go_loopw [4, 12] (fun s4 s12 wr => ∃ k : Nat, k ≤ N ∧ s12 = .int .i64 k ∧ Sep w w.heap.size wr [lstI s4 (waitsN (S.take k))]) (fun _ s12 _ => N - (intOf s12).toNat)
  case atStart => exact ⟨0, Nat.zero_le _, rfl, (sep_nil w).nil⟩
  case round =>
    obtain ⟨k, hk, rfl, s1⟩ := hrel
    clear c0
    by_cases hlt : k < N
    · have hltz : (k : Int) < (N : Int) := by omega
      obtain ⟨b, rfl⟩ := HG.out k hlt
      have hk1 : k < S.length := by have := HN.out; omega
      have hx := List.getElem?_eq_getElem hk1
      obtain ⟨c0, c1, c2, c3, c4, c5, c6, c7, c8⟩ := (RowW.at (EpH.row (EpH.below HS.out.head s1.low)) hx).cells
      have s2 := s1.box (objW S[k])
      obtain ⟨v3, w3, r3, s3⟩ := s2.drop.more okI 27 S[k].n (C := #[.int .i64 S[k].n]) rfl (by rw [waits_len, List.length_take]; omega)
      have e9 : (wr.alloc (objW S[k])).heap.size = wr.heap.size + 1 := by simp
      simp only [elI] at r3
      rw [e9] at r3
      have e1 : waitsN (S.take (k + 1)) = waitsN (S.take k) ++ [S[k].n] := by
        rw [List.take_add_one, hx]
        unfold waitsN
        rw [List.map_append]
        rfl
      have R3 := hid r3
      have S3 := hid (e1 ▸ s3)
      clear s1 s2 s3 r3 hx e1 e9
      generalize S[k] = y at *
      clear hk1
      simp only [objW] at *
      go_wp2_with (at_builtin; refine wpList_append_run rfl _ _ _ _ rfl _ _ _ _ rfl rfl R3.out ?_)
      go_roundw
      case rel => exact ⟨k + 1, by omega, by go_num, S3.out⟩
      case measure => simp [intOf]; omega
    · have hltz : ¬ (k : Int) < (N : Int) := by omega
      have hkS : S.take k = S := List.take_of_length_le (by have := HN.out; omega)
      rw [hkS] at s1
      obtain ⟨a4, c4, rfl⟩ := s1.listIs (E := elI) (v := u4) (A := waitsN S) (by simp)
      have S2 := hid (HS.out.join s1).swap
      clear s1 hlt hkS
      generalize hm : (waitsN S).length = m at *
      go_wp2_with (go_at_call 25; refine Calls.mono (has_any p _ S true _ S2.out.head) ?_; rintro e w5 ⟨rfl, rfl⟩)
      go_ret2
      subst hm
      exact ⟨_, _, rfl, S2.out⟩
end
end Go.Proofs.Ytddeiglcbnemfaa

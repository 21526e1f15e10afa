/-
  What laid of a place's map answers: its pages, in order; no condition but that they are numbers of pages.
-/
import Derived.Test.YthjcodkgcffamaaPBase
namespace Go.Proofs.Ythjcodkgcffamaa
open Go.RowKit Go.Deep Go.Shelf

set_option maxRecDepth 100000 in
set_option maxHeartbeats 2000000 in
theorem laid_any (mo : Option Nat) (S : Sp) (i : Nat) (w : World) (h : MapAt w mo (atPl S.f i)) (hin : ∀ n q, atPl S.f i n = some q → 0 ≤ n ∧ n < 4096) :
    Calls Try.prog 34 #[.map mo] w fun e w' => ∃ v, e = .returned v ∧ Sep w w.heap.size w' [lstL v (plP S.f i)] := by
  have HM := hid h
  have HI := hid hin
  clear h hin
  go_enter Try.func34, Try.ntmps34
  go_wp2_with (first
    | (go_at_call 41; refine Calls.mono (keys_call mo _) ?_; rintro e w1 ⟨rfl, rfl⟩)
    | (go_at_call 40; refine Calls.mono (sorted_call mo (atPl S.f i) w.heap.size _ (MapAt.below HM.out (below_new _ _)) HI.out (by simp) (by have := blk_alloc_new w (.cells #[.map mo] 59); simp only [World.cell?]; rw [this]; rfl)) ?_; rintro e w2 ⟨v, K, rfl, k1, k2, k3, row, own, bel⟩; have HB : Hid (Below w.heap.size w w2) := Below.then (below_new _ _) bel (by simp); have HO : Hid (∀ k, v.ownBlock = some k → w.heap.size ≤ k) := (fun k hk => Nat.le_trans (by simp) (own k hk)); clear bel own; obtain ⟨ao, cap, rfl, -⟩ := Row.slice row; have HS : Hid (Sep w w.heap.size w2 [lstI (.slice ao K.length cap) K]) := (sep_nil w).new (t := lstI (.slice ao K.length cap) K) row HB.out HO.out; have HK := hid (And.intro k1 (And.intro k2 k3)); clear row HB HO k1 k2 k3; generalize hN : K.length = N at *; have HN := hid hN; clear hN))
  go_loopw [3, 10] (fun v3 v10 wr => ∃ k : Nat, k ≤ N ∧ v10 = .int .i64 k ∧ Sep w w.heap.size wr [lstL v3 ((K.take k).map fun k => (k, (atPl S.f i k).getD pg0)), lstI (.slice ao N cap) K]) (fun _ v10 _ => N - (intOf v10).toNat)
  case atStart => exact ⟨0, Nat.zero_le _, rfl, HS.out.nil⟩
  case round =>
    obtain ⟨k, hk, rfl, s2⟩ := hrel
    have hN4 : N ≤ 4096 := by have := HK.out.2.2; have := HN.out; omega
    by_cases hlt : k < N
    · have hltz : (k : Int) < (N : Int) := by omega
      have hk1 : k < K.length := by have := HN.out; omega
      obtain ⟨x, hx⟩ : ∃ x, K[k]? = some x := ⟨_, List.getElem?_eq_getElem hk1⟩
      obtain ⟨q, rfl, hc⟩ := s2.listAt okI (ao := ao) (n := N) (cap := cap) (A := K) (by simp) hx
      have d0 : wr.cell? ⟨q, k, none⟩ = some (.int .i64 x) := by have := hc 0 _ rfl; simpa [elI] using this
      have hxK : x ∈ K := List.mem_of_getElem? hx
      have hsome := (HK.out.2.1 x).1 hxK
      obtain ⟨y, hy⟩ := Option.isSome_iff_exists.1 hsome
      have hxr := HI.out x y hy
      obtain ⟨b, rfl, hm⟩ : ∃ b, mo = some b ∧ MapIs wr b (atPl S.f i) := by
        rcases MapAt.below HM.out s2.low with ⟨_, hn⟩ | h
        · rw [hn x] at hy
          cases hy
        · exact h
      have hlk := hm.look (s := x) (by unfold I64; omega) false
      rw [hy] at hlk
      simp only [encC, encS, Option.getD_some, Bool.false_eq_true, if_false] at hlk
      have HT : Hid ((K.take (k + 1)).map (fun k => (k, (atPl S.f i k).getD pg0)) = (K.take k).map (fun k => (k, (atPl S.f i k).getD pg0)) ++ [(x, y)]) := by
        show _ = _
        rw [List.take_add_one, hx, List.map_append]
        simp [hy]
      obtain ⟨v4, w4, r4, s4⟩ := s2.more okL 27 (x, y) (C := #[.int .i64 x, .int .i64 y.fr, .int .i64 y.rt]) rfl (by rw [List.length_map, List.length_take]; have := HK.out.2.2; have := HN.out; omega)
      obtain ⟨a5, c5, rfl⟩ := s2.listIs (E := elL) (v := u3) (A := (K.take k).map fun k => (k, (atPl S.f i k).getD pg0)) (by simp)
      simp only [elL] at r4
      have R4 := hid r4
      have S4 := hid s4
      clear s2 s4 r4 hc hx hk1 hxK hsome hy hm
      generalize ((K.take k).map fun k => (k, (atPl S.f i k).getD pg0)).length = n at *
      go_wp2_with (at_builtin; refine wpList_append_run rfl _ _ _ _ rfl _ _ _ _ rfl rfl R4.out ?_)
      go_roundw
      case rel => exact ⟨k + 1, by omega, by go_num, by rw [HT.out]; exact S4.out⟩
      case measure => simp [intOf]; omega
    · have hltz : ¬ (k : Int) < (N : Int) := by omega
      have e1 : K.take k = K := List.take_of_length_le (by have := HN.out; omega)
      rw [e1, laid_is HK.out.1 HK.out.2.1] at s2
      have S2 := hid s2.drop2
      clear s2 e1
      go_wp2
      go_ret
      exact ⟨_, rfl, S2.out⟩
end Go.Proofs.Ythjcodkgcffamaa

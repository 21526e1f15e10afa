/-
  What Map, Rights, Table and Drop of package tables answer, and leave; no condition.
-/
import Derived.Test.YthjcodkgcffamaaPCall
namespace Go.Proofs.Ythjcodkgcffamaa
open Go.RowKit Go.Deep Go.Shelf

section
variable {w0 w : World} {r p : Nat} {m : Nat → Option Nat} {S : Sp} {R : List Th}
set_option maxRecDepth 100000 in
set_option maxHeartbeats 1000000 in
theorem rights_p (h : SpP p m S w) (n t : Int) : Calls Try.prog 16 #[ptr p, .int .i64 n, .int .i64 t] w fun e w' => e = .returned (.int .i64 (rgtE S n t)) ∧ SpP p m (rgtS S n t) w' ∧ Turn (fpS p m) w w' := by
  have HS := hid h
  by_cases ht : t < 0 ∨ 7 < t
  · have hE : rgtE S n t = 1 := by unfold rgtE; rw [if_pos (by omega)]
    have hS : rgtS S n t = S := by unfold rgtS; rw [hE]; rfl
    rw [hE, hS]
    have HR := hid (areRights_no t w ht)
    clear h ht hE hS
    go_enter Try.func16, Try.ntmps16
    go_wp2_with (go_at_call 35; refine Calls.mono HR.out ?_; rintro e w' ⟨rfl, rfl⟩)
    go_ret
    exact ⟨rfl, HS.out, Turn.refl _ _⟩
  · have HR := hid (areRights_yes t w (by omega) (by omega))
    have HP := hid (mapped_p h n)
    have hE : rgtE S n t = mpE S n := by
      unfold rgtE mpE
      by_cases hn : n < 0 ∨ 4096 ≤ n
      · rw [if_pos (by omega), if_pos hn]
      · rw [if_neg (by omega), if_neg hn]
    by_cases h0 : mpE S n = 0
    · have hS : rgtS S n t = ⟨S.t, upd S.f n (some ⟨(wlkP S n).fr, t⟩)⟩ := by unfold rgtS; rw [hE, if_pos h0]; rfl
      obtain ⟨n0, n1, _, _, x, hx⟩ := rgtE_ok (hE.trans h0)
      have hi : (n / 64).toNat < 64 := by omega
      have hin : (((n / 64).toNat : Nat) : Int) = n / 64 := by omega
      obtain ⟨b, hb⟩ : ∃ b, m (n / 64).toNat = some b := by
        have h1 := h.is _ hi
        unfold hasB at h1
        rw [hin, (h.good.f _ _ hx).2.2] at h1
        exact Option.isSome_iff_exists.1 h1
      have hM : mpM m S n = some b := by unfold mpM; rw [if_pos h0, hb]
      have HG := hid (good_rgt h.good n t)
      rw [hS] at HG ⊢
      rw [hE, h0]
      rw [h0, hM] at HP
      clear hE h0 hM hx h hS ht
      generalize hi2 : (n / 64).toNat = i at *
      have HI := hid (And.intro hi (And.intro hb hin))
      clear hi hb hin hi2
      generalize (wlkP S n).fr = a at *
      generalize (wlkP S n).rt = c at *
      go_enter Try.func16, Try.ntmps16
      go_wp2_with (first | (go_at_call 35; refine Calls.mono HR.out ?_; rintro e w' ⟨rfl, rfl⟩) | (go_at_call 38; refine Calls.mono HP.out ?_; rintro e w1 ⟨rfl, b1⟩; have bel : Below _ _ (w1.alloc (.cells #[.int .i64 a, .int .i64 t] 31)) := Below.then b1 (below_new _ _) b1.size; have h2 := HS.out.below bel; have hm2 := h2.maps i HI.out.1; rw [HI.out.2.1] at hm2; obtain ⟨w3, hst, m3, g3, z3⟩ := hm2.is.store (s := n) (by unfold I64; omega) ⟨a, t⟩; simp only [encS, encC] at hst; obtain ⟨h3, t3⟩ := h2.mapped HI.out.1 HI.out.2.1 m3 g3 (fun k => at_put S.f (by have := HI.out.2.2; omega) ⟨a, t⟩ k) (fun j k hj => at_other S.f (by have := HI.out.2.2; omega) _ k) HG.out; have HK := hid (And.intro h3 ((Turn.of bel (fpS p m)).trans t3 (fun x hx => .inl hx))); clear b1 bel h2 hm2 m3 g3 z3 h3 t3))
      go_ret
      exact ⟨rfl, HK.out⟩
    · have hS : rgtS S n t = S := by unfold rgtS; rw [hE, if_neg h0]
      rw [hS, hE]
      clear h hS hE ht
      generalize mpE S n = E at *
      have h1 : (E != 0) = true := by simpa using h0
      generalize (wlkP S n).fr = a at *
      generalize (wlkP S n).rt = c at *
      go_enter Try.func16, Try.ntmps16
      go_wp2_with (first | (go_at_call 35; refine Calls.mono HR.out ?_; rintro e w' ⟨rfl, rfl⟩) | (go_at_call 38; refine Calls.mono HP.out ?_; rintro e w1 ⟨rfl, b1⟩; have HB : Hid (Below _ _ (w1.alloc (.cells #[.int .i64 a, .int .i64 c] 31))) := Below.then b1 (below_new _ _) b1.size; clear b1))
      go_ret
      exact ⟨rfl, HS.out.below HB.out, Turn.of HB.out _⟩
theorem rights_sep (s : Sep w0 r w (spT p m S :: R)) (n t : Int) : Calls Try.prog 16 #[ptr p, .int .i64 n, .int .i64 t] w fun e w' => e = .returned (.int .i64 (rgtE S n t)) ∧ Sep w0 r w' (spT p m (rgtS S n t) :: R) := by
  refine Calls.mono (rights_p s.head n t) ?_
  rintro e w' ⟨rfl, h, k⟩
  exact ⟨rfl, SpP.sep s h k (Out.refl _ _)⟩
set_option maxRecDepth 100000 in
set_option maxHeartbeats 1000000 in
theorem map_p (h : SpP p m S w) (n : Int) (x : Pg) : Calls Try.prog 14 #[ptr p, .int .i64 n, .agg #[.int .i64 x.fr, .int .i64 x.rt]] w fun e w' => e = .returned (.int .i64 (mapE S n x)) ∧ SpP p m (mapS S n x) w' ∧ Turn (fpS p m) w w' := by
  have HS := hid h
  have HB0 : ∀ a c : Int, Hid (Below w.heap.size w (w.alloc (.cells #[.int .i64 a, .int .i64 c] 31))) := fun a c => below_new _ _
  by_cases hp : x.fr < 0 ∨ x.rt < 0 ∨ 7 < x.rt
  · have hE : mapE S n x = 1 := by unfold mapE; rw [if_pos (by omega)]
    have hS : mapS S n x = S := by unfold mapS; rw [hE]; rfl
    rw [hE, hS]
    obtain ⟨a, c⟩ := x
    simp only at hp ⊢
    have HB := HB0 a c
    clear h hE hS HB0
    by_cases ha : a < 0
    · clear hp
      go_enter Try.func14, Try.ntmps14
      go_wp2
      go_ret
      exact ⟨rfl, HS.out.below HB.out, Turn.of HB.out _⟩
    · have HR := hid (fun w => areRights_no c w (by omega))
      clear hp
      go_enter Try.func14, Try.ntmps14
      go_wp2_with (go_at_call 35; refine Calls.mono (HR.out _) ?_; rintro e w' ⟨rfl, rfl⟩)
      go_ret
      exact ⟨rfl, HS.out.below HB.out, Turn.of HB.out _⟩
  · have HR := hid (fun w => areRights_yes x.rt w (by omega) (by omega))
    have ha : ¬ x.fr < 0 := by omega
    by_cases hn : n < 0 ∨ 4096 ≤ n
    · have hE : mapE S n x = 1 := by unfold mapE; rw [if_pos (by omega)]
      have hS : mapS S n x = S := by unfold mapS; rw [hE]; rfl
      rw [hE, hS]
      obtain ⟨a, c⟩ := x
      simp only at ha HR ⊢
      have HB := HB0 a c
      have HT := hid (fun w => tableOf_bad (p := p) n hn w)
      clear h hE hS HB0 hn hp
      go_enter Try.func14, Try.ntmps14
      go_wp2_with (first | (go_at_call 35; refine Calls.mono (HR.out _) ?_; rintro e w' ⟨rfl, rfl⟩) | (go_at_call 36; refine Calls.mono (HT.out _) ?_; rintro e w' ⟨rfl, rfl⟩))
      go_ret
      exact ⟨rfl, HS.out.below HB.out, Turn.of HB.out _⟩
    · obtain ⟨N, rfl⟩ := Int.eq_ofNat_of_zero_le (show 0 ≤ n by omega)
      have hN : N < 4096 := by omega
      have hi : N / 64 < 64 := by omega
      have hin : ((N / 64 : Nat) : Int) = (N : Int) / 64 := by omega
      have his := h.is _ hi
      have h2 := h.below (below_new w (.cells #[.int .i64 x.fr, .int .i64 x.rt] 31))
      have HT := hid (tableOf_at h2 N hN)
      have hm2 := h2.maps _ hi
      have HG := hid (good_map h.good N x)
      have HE : mapE S N x = if (S.t ((N : Int) / 64)).isSome = true then (if (S.f N).isSome = true then 140 else 0) else 141 := by unfold mapE; rw [if_neg (by omega)]
      unfold hasB at his
      rw [hin] at his
      rw [← his] at HE
      cases hm : m (N / 64) with
      | none =>
        rw [hm] at HE HT
        simp only [Option.isSome_none, Bool.false_eq_true, if_false, tofE] at HE HT
        have hS : mapS S N x = S := by unfold mapS; rw [HE]; rfl
        rw [HE, hS]
        obtain ⟨a, c⟩ := x
        simp only at ha HR HT ⊢
        have HB := HB0 a c
        clear h HB0 hn hp his h2 hm2 HG HE hS hin hm
        go_enter Try.func14, Try.ntmps14
        go_wp2_with (first | (go_at_call 35; refine Calls.mono (HR.out _) ?_; rintro e w' ⟨rfl, rfl⟩) | (go_at_call 36; refine Calls.mono HT.out ?_; rintro e w' ⟨rfl, rfl⟩))
        go_ret
        exact ⟨rfl, HS.out.below HB.out, Turn.of HB.out _⟩
      | some b =>
        rw [hm] at HE HT hm2
        simp only [Option.isSome_some, if_true, tofE] at HE HT
        have hfa : atPl S.f ((N / 64 : Nat) : Int) (N : Int) = S.f N := by unfold atPl; rw [if_pos hin.symm]
        have hlk := hm2.is.look (s := (N : Int)) (by unfold I64; omega) true
        rw [hfa] at hlk
        simp only [encC, encS, if_true] at hlk
        cases hf : S.f (N : Int) with
        | some y =>
          rw [hf] at HE hlk
          simp only [Option.isSome_some, Option.getD_some, if_true] at HE hlk
          have hS : mapS S N x = S := by unfold mapS; rw [HE]; rfl
          rw [HE, hS]
          obtain ⟨a, c⟩ := x
          obtain ⟨a2, c2⟩ := y
          simp only at ha HR HT hlk ⊢
          have HB : Hid (Below w.heap.size w ((w.alloc (.cells #[.int .i64 a, .int .i64 c] 31)).alloc (.cells #[.int .i64 a2, .int .i64 c2] 31))) := Below.then (below_new _ _) (below_new _ _) (by simp)
          clear h HB0 hn hp his h2 hm2 HG HE hS hin hm hfa hf
          go_enter Try.func14, Try.ntmps14
          go_wp2_with (first | (go_at_call 35; refine Calls.mono (HR.out _) ?_; rintro e w' ⟨rfl, rfl⟩) | (go_at_call 36; refine Calls.mono HT.out ?_; rintro e w' ⟨rfl, rfl⟩))
          go_ret
          exact ⟨rfl, HS.out.below HB.out, Turn.of HB.out _⟩
        | none =>
          rw [hf] at HE hlk
          simp only [Option.isSome_none, Option.getD_none, Bool.false_eq_true, if_false, pg0] at HE hlk
          have hS : mapS S N x = ⟨S.t, upd S.f N (some x)⟩ := by unfold mapS; rw [HE]; rfl
          rw [hS] at HG ⊢
          rw [HE]
          obtain ⟨a, c⟩ := x
          simp only at ha HR HT hlk h2 ⊢
          have bel : Below w.heap.size w ((w.alloc (.cells #[.int .i64 a, .int .i64 c] 31)).alloc (.cells #[.int .i64 0, .int .i64 0] 31)) := Below.then (below_new _ _) (below_new _ _) (by simp)
          have h4 := h.below bel
          have hm4 := h4.maps _ hi
          rw [hm] at hm4
          obtain ⟨w3, hst, m3, g3, z3⟩ := hm4.is.store (s := (N : Int)) (by unfold I64; omega) ⟨a, c⟩
          simp only [encS, encC] at hst
          obtain ⟨h3, t3⟩ := h4.mapped hi hm m3 g3 (fun k => at_put S.f (by omega) ⟨a, c⟩ k) (fun j k hj => at_other S.f (by omega) _ k) HG.out
          have HK := hid (And.intro h3 ((Turn.of bel (fpS p m)).trans t3 (fun x hx => .inl hx)))
          clear h HB0 hn hp his h2 hm2 HG HE hS hin hm hfa hf bel h4 hm4 m3 g3 z3 h3 t3
          go_enter Try.func14, Try.ntmps14
          go_wp2_with (first | (go_at_call 35; refine Calls.mono (HR.out _) ?_; rintro e w' ⟨rfl, rfl⟩) | (go_at_call 36; refine Calls.mono HT.out ?_; rintro e w' ⟨rfl, rfl⟩))
          go_ret
          exact ⟨rfl, HK.out⟩
theorem map_sep (s : Sep w0 r w (spT p m S :: R)) (n : Int) (x : Pg) : Calls Try.prog 14 #[ptr p, .int .i64 n, .agg #[.int .i64 x.fr, .int .i64 x.rt]] w fun e w' => e = .returned (.int .i64 (mapE S n x)) ∧ Sep w0 r w' (spT p m (mapS S n x) :: R) := by
  refine Calls.mono (map_p s.head n x) ?_
  rintro e w' ⟨rfl, h, k⟩
  exact ⟨rfl, SpP.sep s h k (Out.refl _ _)⟩
end
end Go.Proofs.Ythjcodkgcffamaa

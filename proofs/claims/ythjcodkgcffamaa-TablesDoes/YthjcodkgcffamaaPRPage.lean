/-
  What Map, Rights and Unmap of the document's own space answer, and leave; no condition but that tables and pages are few.
-/
import Derived.Test.YthjcodkgcffamaaPRTab
namespace Go.Proofs.Ythjcodkgcffamaa
open Go.RowKit Go.Deep Go.Shelf
section
variable {w0 w : World} {r k N : Nat} {S : Sp} {R : List Th}
theorem Sep.setL {α : Type} {E : El α} (ok : El.Ok E) {g n cap i j : Nat} {L : List α} {x y : α} {c : Value} (h : Sep w0 r w (lst E (.slice (some ⟨g, 0, none⟩) n cap) L :: R)) (hi : L[i]? = some x) (hj : j < E.k) (e : E.enc y = (E.enc x).set j c) :
    Sep w0 r (w.setCell ⟨g, i * E.k + j, none⟩ c) (lst E (.slice (some ⟨g, 0, none⟩) n cap) (L.set i y) :: R) :=
  h.turn (t' := lst E (.slice (some ⟨g, 0, none⟩) n cap) (L.set i y)) (Row.set ok h.head hi hj e) (Turn.setCell _ _ _ _ rfl) fun _ hx => .inl hx
theorem Sep.one3 {a b c d : Th} (h : Sep w0 r w (d :: a :: b :: c :: R)) : Sep w0 r w (a :: b :: c :: d :: R) :=
  h.perm (((List.Perm.cons a (List.Perm.cons b (List.Perm.swap d c R))).trans (List.Perm.cons a (List.Perm.swap d b (c :: R)))).trans (List.Perm.swap d a (b :: c :: R))).symm
theorem Sep.in2 {a b c : Th} (h : Sep w0 r w (a :: b :: c :: R)) : Sep w0 r w (a :: c :: b :: R) := h.perm (List.Perm.cons _ (List.Perm.swap _ _ _))
set_option maxRecDepth 100000 in
set_option maxHeartbeats 4000000 in
theorem rrights_rs (h : Rs w0 r w k S N R) (n t : Int) (hN : N ≤ 900) : Calls Try.prog 17 #[ptr k, .int .i64 n, .int .i64 t] w fun e w' => e = .returned (.int .i64 (rgtE S n t)) ∧ Rs w0 r w' k (rgtS S n t) N R := by
  have HR := hid h
  by_cases hbad : n < 0 ∨ 4095 < n ∨ t < 0 ∨ 7 < t
  · have hE : rgtE S n t = 1 := by unfold rgtE; rw [if_pos (by omega)]
    have hS : rgtS S n t = S := by unfold rgtS; rw [hE]; rfl
    rw [hE, hS]
    clear h hE hS
    by_cases h1 : n < 0
    · go_enter Try.func17, Try.ntmps17
      go_wp2
      go_ret
      exact ⟨rfl, HR.out⟩
    · by_cases h2 : 4095 < n
      · go_enter Try.func17, Try.ntmps17
        go_wp2
        go_ret
        exact ⟨rfl, HR.out⟩
      · by_cases h3 : t < 0
        · go_enter Try.func17, Try.ntmps17
          go_wp2
          go_ret
          exact ⟨rfl, HR.out⟩
        · have h4 : 7 < t := by omega
          clear hbad
          go_enter Try.func17, Try.ntmps17
          go_wp2
          go_ret
          exact ⟨rfl, HR.out⟩
  · obtain ⟨a, b, A, B, s, rl, hA, hB⟩ := h
    have h1 : ¬ n < 0 := by omega
    have h2 : ¬ 4095 < n := by omega
    have h3 : ¬ t < 0 := by omega
    have h4 : ¬ 7 < t := by omega
    have hE : rgtE S n t = if (S.f n).isSome = true then 0 else 141 := by unfold rgtE; rw [if_neg (by omega)]
    cases hf : S.f n with
    | none =>
      rw [hf] at hE
      simp only [Option.isSome_none, Bool.false_eq_true, if_false] at hE
      have HP := hid (rplace_none s (n := n) (by omega) (by rw [rl.f]; exact hf))
      have hS : rgtS S n t = S := by unfold rgtS; rw [hE]; rfl
      rw [hE, hS]
      clear s rl hf hE hS hbad
      go_enter Try.func17, Try.ntmps17
      go_wp2_with (go_at_call 37; refine Calls.mono HP.out ?_; rintro e w' ⟨rfl, rfl⟩)
      go_ret
      exact ⟨rfl, HR.out⟩
    | some x =>
      rw [hf] at hE
      simp only [Option.isSome_some, if_true] at hE
      obtain ⟨z, hz, hzb⟩ := find_at (A := B) (i := n) (x := x) (by rw [rl.f]; exact hf)
      have HP := hid (rplace_some s (n := n) (p := x) (z := z) (by omega) hz hzb)
      have HRl := hid (rl.rgt hE hz)
      obtain ⟨-, c1, -, -⟩ := s.cellR
      obtain ⟨ab, cb, rfl⟩ := s.listIs (E := elL) (v := b) (A := B) (by simp)
      obtain ⟨q, rfl, hc⟩ := s.listAt okL (ao := ab) (n := B.length) (cap := cb) (A := B) (by simp) hz
      have d2 : w.cell? ⟨q, z * 3 + 2, none⟩ = some (.int .i64 x.rt) := hc 2 _ rfl
      have fz : w.frozen? ⟨q, z * 3 + 2, none⟩ = false := Row.frozen (s.each (lstL (.slice (some ⟨q, 0, none⟩) B.length cb) B) (by simp)).1 _
      have s4 : Sep w0 r (w.setCell ⟨q, z * 3 + 2, none⟩ (.int .i64 t)) (blk k (objR a (.slice (some ⟨q, 0, none⟩) B.length cb)) :: lstT a A :: lstL (.slice (some ⟨q, 0, none⟩) B.length cb) (B.set z (n, ⟨x.fr, t⟩)) :: R) := (s.third.third.setL okL (j := 2) (y := (n, ⟨x.fr, t⟩)) (c := .int .i64 t) hz (by decide) rfl).third
      have S4 := hid s4
      have hzl := (List.getElem?_eq_some_iff.1 hz).1
      have HLn : Hid ((B.set z (n, ⟨x.fr, t⟩)).length ≤ N) := by show _ ≤ _; rw [List.length_set]; exact hB
      rw [hE]
      clear s s4 rl hf hE hbad hc hz hzb
      generalize B.length = NB at *
      have hz1 : ¬ (z : Int) < 0 := by omega
      have hz2 : (z : Int) < (NB : Int) := by omega
      go_enter Try.func17, Try.ntmps17
      go_wp2_with (go_at_call 37; refine Calls.mono HP.out ?_; rintro e w' ⟨rfl, rfl⟩)
      go_ret
      exact ⟨rfl, _, _, _, _, S4.out, HRl.out, hA, HLn.out⟩
set_option maxRecDepth 100000 in
set_option maxHeartbeats 8000000 in
theorem rmap_rs (h : Rs w0 r w k S N R) (n : Int) (x : Pg) (hN : N ≤ 900) : Calls Try.prog 15 #[ptr k, .int .i64 n, .agg #[.int .i64 x.fr, .int .i64 x.rt]] w fun e w' => e = .returned (.int .i64 (mapE S n x)) ∧ Rs w0 r w' k (mapS S n x) (N + 1) R := by
  have HR := hid ((h.below (below_new w (.cells #[.int .i64 x.fr, .int .i64 x.rt] 31))).mono (M := N + 1) (by omega))
  by_cases hbad : n < 0 ∨ 4095 < n ∨ x.fr < 0 ∨ x.rt < 0 ∨ 7 < x.rt
  · have hE : mapE S n x = 1 := by unfold mapE; rw [if_pos (by omega)]
    have hS : mapS S n x = S := by unfold mapS; rw [hE]; rfl
    rw [hE, hS]
    obtain ⟨xf, xt⟩ := x
    simp only at hbad HR ⊢
    clear h hE hS
    by_cases h1 : n < 0
    · go_enter Try.func15, Try.ntmps15
      go_wp2
      go_ret
      exact ⟨rfl, HR.out⟩
    · by_cases h2 : 4095 < n
      · go_enter Try.func15, Try.ntmps15
        go_wp2
        go_ret
        exact ⟨rfl, HR.out⟩
      · by_cases h3 : xf < 0
        · go_enter Try.func15, Try.ntmps15
          go_wp2
          go_ret
          exact ⟨rfl, HR.out⟩
        · by_cases h4 : xt < 0
          · go_enter Try.func15, Try.ntmps15
            go_wp2
            go_ret
            exact ⟨rfl, HR.out⟩
          · have h5 : 7 < xt := by omega
            clear hbad
            go_enter Try.func15, Try.ntmps15
            go_wp2
            go_ret
            exact ⟨rfl, HR.out⟩
  · obtain ⟨nn, rfl⟩ := Int.eq_ofNat_of_zero_le (show 0 ≤ n by omega)
    have hq1 : (nn : Int) / 64 = ((nn / 64 : Nat) : Int) := by omega
    have HH := hid (rhas_rs (h.below (below_new w (.cells #[.int .i64 x.fr, .int .i64 x.rt] 31))) ((nn / 64 : Nat) : Int) hN)
    obtain ⟨a, b, A, B, s, rl, hA, hB⟩ := h
    have hE : mapE S nn x = if hasB S ((nn / 64 : Nat) : Int) = true then (if (S.f nn).isSome = true then 140 else 0) else 141 := by unfold mapE; rw [if_neg (by omega), hq1]; rfl
    have h1 : ¬ (nn : Int) < 0 := by omega
    have h2 : ¬ 4095 < (nn : Int) := by omega
    have h3 : ¬ x.fr < 0 := by omega
    have h4 : ¬ x.rt < 0 := by omega
    have h5 : ¬ 7 < x.rt := by omega
    have sb := s.below (below_new w (.cells #[.int .i64 x.fr, .int .i64 x.rt] 31))
    cases hh : hasB S ((nn / 64 : Nat) : Int) with
    | false =>
      rw [hh] at hE HH
      simp only [Bool.false_eq_true, if_false] at hE
      have hS : mapS S nn x = S := by unfold mapS; rw [hE]; rfl
      rw [hE, hS]
      clear s sb rl hE hS hbad hh
      obtain ⟨xf, xt⟩ := x
      simp only at h3 h4 h5 HR HH ⊢
      generalize hasN S ((nn / 64 : Nat) : Int) = hnn at *
      generalize ((nn / 64 : Nat) : Int) = N64 at *
      go_enter Try.func15, Try.ntmps15
      go_wp2_with (go_at_call 24; refine Calls.mono HH.out ?_; rintro e w' ⟨rfl, rfl⟩)
      go_ret
      exact ⟨rfl, HR.out⟩
    | true =>
      rw [hh] at hE HH
      simp only [if_true] at hE
      cases hf : S.f (nn : Int) with
      | some y =>
        rw [hf] at hE
        simp only [Option.isSome_some, if_true] at hE
        obtain ⟨z, hz, hzb⟩ := find_at (A := B) (i := (nn : Int)) (x := y) (by rw [rl.f]; exact hf)
        have HP := hid (rplace_some sb (n := (nn : Int)) (p := y) (z := z) (by omega) hz hzb)
        have hS : mapS S nn x = S := by unfold mapS; rw [hE]; rfl
        rw [hE, hS]
        have hz0 : 0 ≤ (z : Int) := by omega
        clear s sb rl hE hS hbad hh hf hz hzb
        obtain ⟨xf, xt⟩ := x
        simp only at h3 h4 h5 HR HH HP ⊢
        generalize hasN S ((nn / 64 : Nat) : Int) = hnn at *
        generalize ((nn / 64 : Nat) : Int) = N64 at *
        go_enter Try.func15, Try.ntmps15
        go_wp2_with (first | (go_at_call 24; refine Calls.mono HH.out ?_; rintro e w' ⟨rfl, rfl⟩) | (go_at_call 37; refine Calls.mono HP.out ?_; rintro e w' ⟨rfl, rfl⟩))
        go_ret
        exact ⟨rfl, HR.out⟩
      | none =>
        rw [hf] at hE
        simp only [Option.isSome_none, Bool.false_eq_true, if_false] at hE
        have HP := hid (rplace_none sb (n := (nn : Int)) (by omega) (by rw [rl.f]; exact hf))
        have HRl := hid (rl.map hE)
        rw [hE]
        obtain ⟨ab, cb, rfl⟩ := sb.listIs (E := elL) (v := b) (A := B) (by simp)
        obtain ⟨-, c1, -, -⟩ := sb.cellR
        obtain ⟨v4, w4, r4, s4⟩ := sb.drew.third.third.more okL 27 ((nn : Int), x) (C := #[.int .i64 (nn : Int), .int .i64 x.fr, .int .i64 x.rt]) rfl (by omega)
        simp only [elL] at r4
        obtain ⟨-, c4, -, f4⟩ := s4.third.cellR
        obtain ⟨a4, c4', rfl⟩ := s4.listIs (E := elL) (v := v4) (A := B ++ [((nn : Int), x)]) (by simp)
        have S4 := hid (s4.third.setB (.slice a4 (B ++ [((nn : Int), x)]).length c4'))
        have HLen : Hid ((B ++ [((nn : Int), x)]).length ≤ N + 1) := by show _ ≤ _; rw [List.length_append]; simp; omega
        have e9 : ∀ o, (w.alloc o).drew.heap.size = w.heap.size + 1 := fun o => by simp [World.drew]
        rw [e9] at r4
        have R4 := hid r4
        clear s sb rl hE hbad hh hf s4 r4 e9
        generalize hn4 : (B ++ [((nn : Int), x)]).length = n4 at *
        have HN4 := hid hn4
        clear hn4
        generalize hNB : B.length = NB at *
        obtain ⟨xf, xt⟩ := x
        simp only at h3 h4 h5 HR HH HP R4 c1 c4 ⊢
        have c1' := cell_al c1 (.cells #[.int .i64 (nn : Int), .int .i64 xf, .int .i64 xt] 53)
        generalize hasN S ((nn / 64 : Nat) : Int) = hnn at *
        generalize ((nn / 64 : Nat) : Int) = N64 at *
        go_enter Try.func15, Try.ntmps15
        go_wp2_with (first | (go_at_call 24; refine Calls.mono HH.out ?_; rintro e w' ⟨rfl, rfl⟩) | (go_at_call 37; refine Calls.mono HP.out ?_; rintro e w' ⟨rfl, rfl⟩))
        go_region_law (refine step_append_run rfl (.tmp 47) (.tmp 51) 27 27 rfl (.slice ab NB cb) (.slice (some ⟨w.heap.size + 1, 0, none⟩) 1 1) _ _ (by simp [Act.eval]) (by simp [Act.eval]) R4.out ?_)
        all_goals go_wp2
        all_goals go_ret
        all_goals exact ⟨rfl, _, _, _, _, S4.out, HRl.out, by omega, by rw [HN4.out]; exact HLen.out⟩
end
end Go.Proofs.Ythjcodkgcffamaa

/-
  The iterators of package script: each of four bytes, each of a slice, and those that are right; no condition of ours.
-/
import Derived.Test.YtkbbjpnkfmegnaaSItemOf
namespace Go.Proofs.Ytkbbjpnkfmegnaa
open Go.RowKit Go.Deep
attribute [local go_sem] Oper.semAt_some
theorem Turns.of_below {lo hi : Nat} {A B : World} (h : Below A.heap.size A B) : Turns lo hi A B := ⟨h.os, h.tape, h.output, h.size, fun k hk _ => h.block k hk⟩
theorem held_any (s : ByteArray) (w : World) : Calls Try.prog 18 #[.string s] w fun e w' => e = .returned (.func (.func 22) #[] #[.pointer (some ⟨w.heap.size, 0, none⟩)]) ∧ w' = w.alloc (.cells #[.string s] 9) := by
  go_enter Try.func18, Try.ntmps18
  go_wp2
  go_ret
  exact ⟨rfl, rfl⟩
theorem right_fn (g : Nat) (q : Nat) (c : Int) (w : World) : Calls Try.prog 17 #[.func (.func g) #[] #[.pointer (some ⟨q, 0, none⟩)], .int .i64 c] w fun e w' => e = .returned (.func (.func 21) #[] #[.pointer (some ⟨w.heap.size, 0, none⟩), .pointer (some ⟨w.heap.size + 1, 0, none⟩)]) ∧ w' = (w.alloc (.cells #[.func (.func g) #[] #[.pointer (some ⟨q, 0, none⟩)]] 34)).alloc (.cells #[.int .i64 c] 3) := by
  go_enter Try.func17, Try.ntmps17
  go_wp2
  go_ret
  exact ⟨rfl, rfl⟩
theorem held_gives (q : Nat) (l : List Int) (hb : Bytes8 l) (hl : l.length ≤ 1000000) : Gives Try.prog 22 #[.pointer (some ⟨q, 0, none⟩)] (items l) encI 0 (fun A => A.cell? ⟨q, 0, none⟩ = some (.string (strOfNums l))) := by
  intro lp J W hst hneed hy h0
  have hsz : (strOfNums l).size = l.length := strOfNums_size l
  have hex := str_extract l
  have hil := items_len l
  generalize strOfNums l = s at *
  refine callsIn_of_wp Try.func22 rfl trivial ?_ rfl
  simp only [Try.ntmps22, List.size_toArray, List.length_cons, List.length_nil, Nat.reduceAdd, Nat.reduceSub, Array.replicate_succ, Array.replicate_zero, List.push_toArray, List.append_toArray, List.nil_append, List.cons_append]
  gi_wp2
  gi_loopw [3] (fun i wr => ∃ k : Nat, 4 * k ≤ l.length ∧ i = .int .i64 ((4 * k : Nat) : Int) ∧ W.heap.size ≤ wr.heap.size ∧ J ((items l).take k) wr) (fun i _ => l.length + 4 - (intOf i).toNat)
  case atStart => exact ⟨0, by omega, rfl, Nat.le_refl _, by simpa using h0⟩
  case round =>
    obtain ⟨k, hk, rfl, hs, hJ⟩ := hrel
    have hc := hneed _ _ hJ
    have hw4 : IntKind.i64.wrap (((4 * k : Nat) : Int) + 4) = ((4 * k + 4 : Nat) : Int) := by rw [IntKind.wrap_i64] <;> omega
    by_cases hk4 : 4 * k + 4 ≤ l.length
    · have hk5 : ((4 * k + 4 : Nat) : Int) ≤ (s.size : Int) := by omega
      have hx := items_get l k hk4
      have hb4 : Bytes8 [l.getD (4 * k) 0, l.getD (4 * k + 1) 0, l.getD (4 * k + 2) 0, l.getD (4 * k + 3) 0] := by
        rw [← drop_four l (4 * k) hk4]
        exact fun y hy => hb y (List.mem_of_mem_drop (List.mem_of_mem_take hy))
      have hd : strOfNums (List.take 4 (List.drop (4 * k) l)) = strOfNums [l.getD (4 * k) 0, l.getD (4 * k + 1) 0, l.getD (4 * k + 2) 0, l.getD (4 * k + 3) 0] := by rw [drop_four l (4 * k) hk4]
      have HD : Hid (strOfNums (List.take 4 (List.drop (4 * k) l)) = strOfNums [l.getD (4 * k) 0, l.getD (4 * k + 1) 0, l.getD (4 * k + 2) 0, l.getD (4 * k + 3) 0]) := hd
      clear hd
      generalize l.getD (4 * k) 0 = a0, l.getD (4 * k + 1) 0 = a1, l.getD (4 * k + 2) 0 = a2, l.getD (4 * k + 3) 0 = a3 at *
      gi_wp2_with fail
      refine ⟨trivial, rfl, ?_⟩
      refine (callsIn_wide.2 (item_of _ a0 a1 a2 a3 HD.out hb4 _)).mono ?_
      rintro e w1 ⟨rfl, b1⟩
      have hJ1 := hst _ _ _ hJ (Turns.of_below b1)
      obtain ⟨fn, tmps, assign, body, hy1, hR⟩ := hy _ _ _ w1 (take_drop_at hx) (by have := b1.size; omega) hJ1
      simp only [encI, fourI] at hy1 ⊢
      gi_wp2
      refine ⟨rfl, hR.mono ?_⟩
      rintro e w2 ⟨rfl, hJ2, st2⟩
      gi_wp2
      go_roundw
      case rel => exact ⟨k + 1, by omega, by simp [Nat.mul_add], by have := b1.size; have := st2.size; omega, by rw [take_snoc hx]; exact hJ2⟩
      case measure => simp [intOf]; omega
    · gi_wp2
      go_end0
      refine ⟨⟨_, rfl⟩, ?_⟩
      rw [List.take_of_length_le (by omega)] at hJ
      exact hJ
theorem right_gives (g : Nat) (q qi qc : Nat) (c : Int) (k : Nat) (xs : List It) (Need : World → Prop) (eg : ∀ args w, (callFunc g args).run Try.prog w = .ok (.enter g args) w)
    (hseq : Gives Try.prog g #[.pointer (some ⟨q, 0, none⟩)] xs encI k Need) :
    Gives Try.prog 21 #[.pointer (some ⟨qi, 0, none⟩), .pointer (some ⟨qc, 0, none⟩)] (pick c xs) encI (k + 3)
      (fun A => Need A ∧ A.cell? ⟨qi, 0, none⟩ = some (.func (.func g) #[] #[.pointer (some ⟨q, 0, none⟩)]) ∧ A.cell? ⟨qc, 0, none⟩ = some (.int .i64 c)) := by
  intro lp J W hst hneed hy h0
  have t1 := Turns.alloc W.heap.size (W.heap.size + (k + 3)) W (.cells #[.func (.yield lp) #[] #[]] 40)
  have b1 := Boxed.new W 40 (.func (.yield lp) #[] #[])
  have h1 := hst _ _ _ h0 t1
  obtain ⟨n1, ci, cc⟩ := hneed _ _ h1
  refine callsIn_of_wp_marks Try.func21 rfl trivial ?_ rfl
  simp only [Try.ntmps21, List.size_toArray, List.length_cons, List.length_nil, Nat.reduceAdd, Nat.reduceSub, Array.replicate_succ, Array.replicate_zero, List.push_toArray, List.append_toArray, List.nil_append, List.cons_append]
  gi_wp2
  generalize hW1 : W.alloc (.cells #[.func (.yield lp) #[] #[]] 40) = W1 at *
  have hs1 : W1.heap.size = W.heap.size + 1 := by rw [← hW1]; simp
  have ht : ∀ {A B : World}, Turns W1.heap.size (W1.heap.size + (k + 2)) A B → Turns W.heap.size (W.heap.size + (k + 3)) A B := fun h => h.wider (by omega) (by omega)
  refine range_gives (gf := g) (lb := #[.pointer (some ⟨q, 0, none⟩)]) rfl eg hseq rfl
    (fun pre A => J (pick c pre) A ∧ Boxed A W.heap.size 40 (.func (.yield lp) #[] #[]))
    (fun pre A B h t => ⟨hst _ _ _ h.1 (ht t), (t.block _ h.2.lt (by omega)).trans h.2⟩)
    (fun pre A h => (hneed _ _ h.1).1) ⟨h1, b1⟩
    (fun x a' A => ∃ qx, W1.heap.size + (k + 2) ≤ qx ∧ AtI A qx x ∧ a' = { tmps := #[.func (.yield lp) #[] #[], .pointer (some ⟨qi, 0, none⟩), .pointer (some ⟨qc, 0, none⟩), .pointer (some ⟨W.heap.size, 0, none⟩), .pointer (some ⟨qx, 0, none⟩), .func (.func g) #[] #[.pointer (some ⟨q, 0, none⟩)], encI x, undef, undef, undef, undef, undef, undef, undef, undef, undef], defers := [] })
    (fun x a' A B h t => by obtain ⟨qx, h1, h2, h3⟩ := h; exact ⟨qx, h1, (t.block _ h2.lt (by omega)).trans h2, h3⟩) ?assign ?body ?done
  case assign =>
    rintro l pre x rest A K hx hsz ⟨hJ, hB⟩ hK
    have hK' := hK { tmps := #[.func (.yield lp) #[] #[], .pointer (some ⟨qi, 0, none⟩), .pointer (some ⟨qc, 0, none⟩), .pointer (some ⟨W.heap.size, 0, none⟩), .pointer (some ⟨A.heap.size, 0, none⟩), .func (.func g) #[] #[.pointer (some ⟨q, 0, none⟩)], encI x, undef, undef, undef, undef, undef, undef, undef, undef, undef], defers := [] } (A.alloc (objI x))
      (Still.of_below (below_new _ _) hsz) ⟨hst _ _ _ hJ (Turns.alloc _ _ _ _), hB.alloc _⟩ ⟨A.heap.size, hsz, AtI.new _ _, rfl⟩
    clear hK
    simp only [encI, objI, fourI] at hK' ⊢
    gi_wp2
    exact hK'
  case body =>
    rintro l pre x rest a' A hx hsz ⟨hJ, hB⟩ ⟨qx, hqx, hAt, rfl⟩
    obtain ⟨c0, c1, c2, c3⟩ := hAt.cells
    obtain ⟨_, _, hcc⟩ := hneed _ _ hJ
    have b2 := below_new A (objI x)
    have hJ2 := hst _ _ _ hJ (Turns.of_below b2)
    have hB2 := hB.alloc (objI x)
    obtain ⟨d0, d1, d2, d3⟩ := (hAt.below b2).cells
    have hBc := hB2.cell
    have s2 := Still.of_below (lo := W1.heap.size) (hi := W1.heap.size + (k + 2)) b2 hsz
    cases hr : rightB c x with
    | true =>
      obtain ⟨fn, tmps, assign, body, hy1, hR⟩ := hy (pick c pre) x (pick c rest) _ (by rw [hx, pick, List.filter_append, List.filter_cons, if_pos hr]; rfl) (by have := b2.size; omega) hJ2
      have hR' : RoundIn (Fence.wide.inRound l) 0 Try.prog lp fn tmps assign body _ _ := hR
      have HR : Hid (rightB c x = true) := hr
      clear hR hr hAt hJ2 hJ hB
      generalize hA2 : A.alloc (objI x) = A2 at *
      simp only [encI, fourI] at hy1 ⊢
      gi_wp2_with fail
      refine ⟨trivial, rfl, ?_⟩
      refine (CallsIn.inRound l (callsIn_wide.2 (right_any x c A))).mono ?_
      rintro e w' ⟨rfl, rfl⟩
      rw [HR.out, hA2]
      gi_wp2
      refine ⟨rfl, hR'.mono ?_⟩
      rintro e w3 ⟨rfl, hJ3, s3⟩
      gi_wp2
      refine ⟨s2.trans ⟨s3.size, fun r h1 h2 => s3.block r (by omega) (by omega)⟩, ?_, (s3.block _ (Nat.le_refl _) (by omega)).trans hB2⟩
      rw [pick_hit c pre x HR.out]
      exact hJ3
    | false =>
      have HR : Hid (rightB c x = false) := hr
      clear hr hAt
      simp only [encI, fourI]
      gi_wp2_with fail
      refine ⟨trivial, rfl, ?_⟩
      refine (CallsIn.inRound l (callsIn_wide.2 (right_any x c A))).mono ?_
      rintro e w' ⟨rfl, rfl⟩
      rw [HR.out]
      generalize hA2 : A.alloc (objI x) = A2 at *
      clear hseq hst hneed hy eg
      gi_wp2
      refine ⟨fun _ h => (by cases h), ?_⟩
      gi_wp2
      refine ⟨s2, ?_, hB2⟩
      rw [pick_miss c pre x HR.out]
      exact hJ2
  case done =>
    rintro A ⟨hJ, hB⟩ hK
    gi_wp2
    refine ⟨by simp, .inl ⟨_, _, rfl, run_takeDeferred hK, ?_⟩⟩
    exact ⟨_, results_none rfl _ _ _, ⟨_, rfl⟩, hst _ _ _ hJ (Turns.putObj _ _ (by omega) (by omega))⟩
end Go.Proofs.Ytkbbjpnkfmegnaa

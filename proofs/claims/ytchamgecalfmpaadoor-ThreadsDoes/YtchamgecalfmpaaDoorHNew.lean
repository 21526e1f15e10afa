/-
  What New of package threads answers: threads of none, in new blocks; no condition of ours.
-/
import Derived.Test.YtchamgecalfmpaaDoorHAdd
namespace Go.Proofs.YtchamgecalfmpaaDoor
open Go.RowKit Go.Deep Go.Shelf

def none' : Nat → Prop := fun _ => False
theorem turn_below {w w' : World} (h : Turn none' w w') : Below w.heap.size w w' := ⟨h.os, h.tape, h.output, h.size, fun k hk => h.block k hk id⟩
section
variable {K : QK} {w0 w : World} {p : Nat} {v u : Value} {qs : List Nat} {h : Hs}
theorem At.all_new (t : At K w0 none' p v u qs h w) : ∃ F, ThH K p F h w ∧ Below w0.heap.size w0 w ∧ ∀ x, F x → w0.heap.size ≤ x := by
  obtain ⟨F', h1, h2, h3⟩ := t.goes
  exact ⟨F', h1, turn_below h2, fun x hx => (h3 x hx).elim (fun e => e.elim) id⟩
/-- A struct of threads of which there is no queue yet. -/
theorem at_fresh (w : World) {w1 : World} (b : Below w.heap.size w w1) {v : Value} {L : List Td} (hv : (lstT v L).H w1) (hn : ∀ x, v.ownBlock = some x → w.heap.size ≤ x) (α : Nat → K.α) :
    At K w none' w1.heap.size v (.slice none 0 0) [] ⟨L, []⟩ (w1.alloc (.cells #[v, .slice none 0 0] K.ty)) := by
  have hb := blk_alloc_new w1 (.cells #[v, .slice none 0 0] K.ty)
  refine ⟨⟨α, ⟨⟨fun i hi => ?_, fun i j hi hj hij x hx hy => ?_⟩, rfl⟩, ?_⟩, ?_⟩
  · match i, hi with
    | 0, _ => exact hb
    | 1, _ => exact (lstT v L).below hv (below_new _ _)
    | 2, _ => exact ⟨rfl, .inl ⟨rfl, rfl⟩⟩
    | c + 3, hi => exact absurd hi (by simp only [List.length_nil]; omega)
  · have hlt : ∀ x, v.ownBlock = some x → x < w1.heap.size := fun x hx => (lstT v L).lt w1 hv x hx
    match i, j, hi, hj, hij, hx, hy with
    | 0, 1, _, _, _, hx, hy =>
      have h1 : x = w1.heap.size := hx
      have := hlt x hy
      omega
    | 1, 0, _, _, _, hx, hy =>
      have h1 : x = w1.heap.size := hy
      have := hlt x hx
      omega
    | 2, _, _, _, _, hx, _ => cases hx
    | _, 2, _, _, _, _, hy => cases hy
    | c + 3, _, hi, _, _, _, _ => exact absurd hi (by simp only [List.length_nil]; omega)
    | _, c + 3, _, hj, _, _, _ => exact absurd hj (by simp only [List.length_nil]; omega)
  · rintro x ⟨i, hi, hx⟩
    match i, hi, hx with
    | 0, _, hx =>
      have h1 : x = w1.heap.size := hx
      exact .inr (by rw [h1]; exact b.size)
    | 1, _, hx => exact .inr (hn x hx)
    | 2, _, hx => cases hx
    | c + 3, hi, _ => exact absurd hi (by simp only [List.length_nil]; omega)
  · exact (Turn.of b none').thenBelow (below_new _ _)
end
theorem uP : Tryd.prog.underlying 61 = some (.slice qkP.pt) := Tryd.underlying61
theorem infoP : (Tryd.prog.info? qkP.pt).map (fun i => (i.zero, i.size, i.bytes)) = some (some (.pointer none), 1, 8) := by kernel_rfl
theorem new_q (w : World) : Calls Tryd.prog 30 #[] w fun e w' => ∃ q F, e = .returned (ptr q) ∧ (qkP.th q F []).H w' ∧ Below w.heap.size w w' ∧ ∀ x, (qkP.th q F []).F x → w.heap.size ≤ x := by
  refine Calls.mono (new_any w) ?_
  rintro e w' ⟨F, rfl, h1, b, n⟩
  exact ⟨_, F, rfl, h1, b, n⟩
set_option maxHeartbeats 16000000 in
theorem newT_any (n : Nat) (w : World) (h1 : 1 ≤ n) (h8 : n ≤ 8) :
    Calls Tryd.prog 9 #[.int .i64 n] w fun e w' => ∃ p F, e = .returned (.tuple #[ptr p, .int .i64 0]) ∧ ThH qkP p F (newH n) w' ∧ Below w.heap.size w w' ∧ ∀ x, F x → w.heap.size ≤ x := by
  have hz1 : ¬ ((n : Int) < 1) := by omega
  have hz2 : ¬ ((8 : Int) < (n : Int)) := by omega
  have A0 := hid (at_fresh (K := qkP) w (w1 := w) (Below.refl _ _) (v := .slice none 0 0) (L := []) ⟨rfl, .inl ⟨rfl, rfl⟩⟩ (fun x hx => by cases hx) (fun _ _ => False))
  have hty : qkP.ty = 63 := rfl
  rw [hty] at A0
  clear hty
  go_enter Tryd.func9, Tryd.ntmps9
  go_wp2_with fail
  go_loopw [14] (fun s14 wr => ∃ (k : Nat) (ao : Option Addr) (cap : Nat) (qs : List Nat), k ≤ n ∧ s14 = .int .i64 k ∧ At qkP w none' w.heap.size (.slice none 0 0) (.slice ao k cap) qs ⟨[], List.replicate k []⟩ wr) (fun s14 _ => n - (intOf s14).toNat)
  case atStart => exact ⟨0, none, 0, [], Nat.zero_le _, rfl, A0.out⟩
  case round =>
    clear A0
    obtain ⟨k, ao, cap, qs, hk, rfl, t⟩ := hrel
    have T := hid t
    by_cases hlt : k < n
    · have hltz : (k : Int) < (n : Int) := by omega
      have c1 := t.cell1
      have TD := hid t.drew
      have HL : Hid (k ≤ 8) := by show k ≤ 8; omega
      clear t T
      generalize hr : w.heap.size = r at *
      go_wp2_with fail
      go_region_law (first
        | (refine step_append_run rfl (.tmp 20) (.tmp 22) 61 61 rfl (.slice ao k cap) (.slice (some ⟨w2.heap.size, 0, none⟩) 1 1) _ _ (by simp [Act.eval]) (by simp [Act.eval]) R1.out ?_)
        | (go_simp; go_at_call 30; refine Calls.mono (new_q _) ?_; rintro e w2 ⟨q, F2, rfl, q2, b2, n2⟩; obtain ⟨u', w3, r1, ⟨ao', cap', rfl⟩, c1', f1', t3⟩ := TD.out.queueMore 61 uP infoP q2 b2 n2 (by simp; have := HL.out; omega); have R1 := hid r1; have T3 := hid t3; have c1b := (TD.out.below b2).cell1; have c1c := cell_al c1b (.cells #[ptr q] 64); clear r1 t3 q2 b2 n2))
      all_goals
        go_wp2
        go_round
        case rel => exact ⟨k + 1, _, _, _, by omega, by go_num, by have := T3.out; simp only [List.length_replicate] at this; rw [List.replicate_succ']; exact this⟩
        case measure => simp [intOf]; omega
    · obtain rfl : k = n := by omega
      clear t
      go_wp2
      go_ret2
      obtain ⟨F, f1, f2, f3⟩ := T.out.all_new
      exact ⟨_, F, rfl, f1, f2, f3⟩
theorem newT_no (n : Int) (w : World) (h : ¬ (1 ≤ n ∧ n ≤ 8)) : Calls Tryd.prog 9 #[.int .i64 n] w fun e w' => e = .returned (.tuple #[.pointer none, .int .i64 1]) ∧ w' = w := by
  by_cases h1 : n < 1
  · clear h
    go_enter Tryd.func9, Tryd.ntmps9
    go_wp2
    go_ret2
    exact ⟨rfl, rfl⟩
  · have h2 : 8 < n := by omega
    clear h
    go_enter Tryd.func9, Tryd.ntmps9
    go_wp2
    go_ret2
    exact ⟨rfl, rfl⟩
end Go.Proofs.YtchamgecalfmpaaDoor

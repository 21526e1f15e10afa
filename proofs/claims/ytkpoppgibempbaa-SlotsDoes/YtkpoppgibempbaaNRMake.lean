/-
  What Make of the document's own nodes answers and leaves; no condition of ours.
-/
import Derived.Test.YtkpoppgibempbaaNRApp
import Derived.Deep.RegionLaw
namespace Go.Proofs.Ytkpoppgibempbaa
open Go.RowKit Go.Deep Go.MapKept Go.Maps
set_option linter.unusedSectionVars false
variable [dCp : DecidableEq Cp] [dLim : ∀ k, Decidable (Lim k)] [dBad : ∀ k, Decidable (Bad k)] [dFit : ∀ g z, Decidable (Fit g z)] [dFine : ∀ c, Decidable (Fine c)] [dMint : ∀ c v, Decidable (MintR c v)] [dWho : ∀ x y, Decidable (Whose x y)] [dSl : DecidableEq Sl] [dLt : ∀ a b, Decidable (ltS a b)] [iSl : Inhabited Sl] [iCp : Inhabited Cp]

theorem rmake_no (p : Nat) (bits : Int) (w : World) (hb : ¬ (1 ≤ bits ∧ bits ≤ 8)) :
    Calls Try.prog 33 #[.pointer (some ⟨p, 0, none⟩), .int .i64 bits] w fun e w' => e = .returned (.tuple #[.int .i64 0, .int .i64 1]) ∧ w' = w := by
  by_cases h1 : bits < 1
  · clear hb
    go_enter Try.func33, Try.ntmps33
    go_wp2
    all_goals go_ret2
    all_goals exact ⟨rfl, rfl⟩
  · have h2 : 8 < bits := by omega
    clear hb
    go_enter Try.func33, Try.ntmps33
    go_wp2
    all_goals go_ret2
    all_goals exact ⟨rfl, rfl⟩
theorem rmake_big (p : Nat) (F : Nat → Prop) (S : St) (bits : Int) (w : World) (h : Rds w p F S) (hb : 1 ≤ bits ∧ bits ≤ 8) (hl : ¬ S.length < 64) :
    Calls Try.prog 33 #[.pointer (some ⟨p, 0, none⟩), .int .i64 bits] w fun e w' => e = .returned (.tuple #[.int .i64 0, .int .i64 2]) ∧ w' = w := by
  obtain ⟨v, H, h⟩ := h
  obtain ⟨ao, cap, rfl, c0, -, -⟩ := h.slice
  clear h
  obtain ⟨b1, b2⟩ := hb
  have hl' : (64 : Int) ≤ (S.length : Int) := by omega
  clear hl
  generalize S.length = n at *
  go_enter Try.func33, Try.ntmps33
  go_wp2
  all_goals go_ret2
  all_goals exact ⟨rfl, rfl⟩
set_option maxHeartbeats 16000000 in
set_option maxRecDepth 100000 in
theorem rmake_yes (p : Nat) (F : Nat → Prop) (S : St) (b : Nat) (w : World) (h : Rds w p F S) (b1 : 1 ≤ b) (b2 : b ≤ 8) (hl : S.length < 64) :
    Calls Try.prog 33 #[.pointer (some ⟨p, 0, none⟩), .int .i64 (b : Nat)] w fun e w' => e = .returned (.tuple #[.int .i64 (S.length : Nat), .int .i64 0]) ∧ RLeavesF w p F (S ++ [List.replicate (2 ^ b) no]) w' := by
  obtain ⟨v, H, h⟩ := h
  obtain ⟨m, hm⟩ : ∃ m, 2 ^ b = m := ⟨_, rfl⟩
  have hm8 : m ≤ 256 := by
    have : 2 ^ b ≤ 2 ^ 8 := Nat.pow_le_pow_right (by omega) b2
    omega
  have hm0 : 1 ≤ m := by
    have := Nat.two_pow_pos b
    omega
  have tc : ∀ W, Calls Try.prog 40 #[.int .i64 (b : Nat)] W fun e w' => e = .returned (.int .u64 (m : Nat)) ∧ w' = W := fun W => by
    refine (r1two_any (b : Int) W (by omega) (by omega)).mono ?_
    rintro e w' ⟨rfl, rfl⟩
    exact ⟨by rw [two_cast, hm], rfl⟩
  have hmk := make_caps m hm8
  have hmi : (m : Int) ≤ 256 := by omega
  have hwm : IntKind.i64.wrap (m : Int) = (m : Int) := by rw [IntKind.wrap_i64]; omega
  obtain ⟨v', w5, hrun, own5, g5, loc⟩ := append_hdr (w.alloc (objRow m)).drew 26 v S.length H (.slice (some ⟨w.heap.size, 0, none⟩) m m) rfl (own_of_block (World.ownsRow.alloc h.row (objRow m)) fun _ _ => rfl) (by omega)
  have bw : Below w.heap.size w (w.alloc (objRow m)).drew := (below_new w (objRow m)).drew
  have K : Hid (RLeavesF w p F (S ++ [List.replicate m no]) (w5.setCell ⟨p, 0, none⟩ v')) := by
    refine h.app (l := List.replicate m no) (fun e => by have := congrArg List.length e; simp at this; omega) (by rw [← hm]; exact okay_app h.ok hl b b1 b2) rfl bw (show w.heap.size < (w.alloc (objRow m)).heap.size by simp) (made_row m (show (w.alloc (objRow m)).heap[w.heap.size]? = some (objRow m) from blk_alloc_new _ _)) ?_ g5 loc
    rw [List.length_replicate]
    exact own5
  have hp5 : w5.heap[p]? = some (.cells #[v] 28 (0, 0)) := ((g5.block p (Nat.lt_of_lt_of_le (h.lt _ h.fp) bw.size) fun e => (h.fv p e.symm).2 rfl).trans (bw.block _ (h.lt _ h.fp))).trans h.head
  have hsz : (w.alloc (objRow m)).drew.heap.size = w.heap.size + 1 := World.size_alloc _ _
  rw [hsz] at hrun
  have HRun : Hid ((Builtin.append_ #[26, 26] 26 #[v, .slice (some ⟨w.heap.size + 1, 0, none⟩) 1 1]).run Try.prog ((w.alloc (objRow m)).alloc (.cells #[.slice (some ⟨w.heap.size, 0, none⟩) m m] 66)).drew = .ok v' w5) := hrun
  obtain ⟨ao, cap, rfl, c0, f0, -⟩ := h.slice
  have e5 : w5.cell? ⟨p, 0, none⟩ = some (.slice ao S.length cap) := by simp [World.cell?, hp5]
  have f5 : w5.frozen? ⟨p, 0, none⟩ = false := by simp [World.frozen?, hp5]
  have hv' : ∃ ao' cap', v' = .slice ao' (S.length + 1) cap' := by
    rcases own5.2 with ⟨_, h0⟩ | ⟨g, cap', cur, e, _⟩
    · omega
    · exact ⟨_, _, e⟩
  obtain ⟨ao', cap', rfl⟩ := hv'
  have c0' := cell_al c0
  have c0'' : ∀ o o', ((w.alloc o).alloc o').cell? ⟨p, 0, none⟩ = some (.slice ao S.length cap) := fun o o' => cell_al (cell_al c0 o) o'
  have hl' : (S.length : Int) < 64 := by omega
  have hb1 : (1 : Int) ≤ (b : Int) := by omega
  have hb2 : (b : Int) ≤ 8 := by omega
  clear h own5 g5 loc hp5 hrun hl b1 b2 bw hsz hm0 hm8 f0
  rw [hm]
  clear hm
  generalize S.length = n at *
  go_enter Try.func33, Try.ntmps33
  go_wp2
  go_region_law (first | (refine step_append_run rfl (.tmp 22) (.tmp 27) 26 rfl _ _ _ _ rfl rfl HRun.out ?_) | (go_simp; go_at_call 40; refine (tc _).mono ?_; rintro e w' ⟨rfl, rfl⟩))
  all_goals go_wp2
  all_goals go_ret2
  all_goals exact ⟨by simp, K.out⟩
theorem rmake_any (p : Nat) (F : Nat → Prop) (S : St) (bits : Int) (w : World) (h : Rds w p F S) :
    Calls Try.prog 33 #[.pointer (some ⟨p, 0, none⟩), .int .i64 bits] w fun e w' => e = .returned (.tuple #[.int .i64 (makeN S bits), .int .i64 (makeE S bits)]) ∧ RLeavesF w p F (makeS S bits) w' := by
  by_cases hb : 1 ≤ bits ∧ bits ≤ 8
  · by_cases hl : S.length < 64
    · obtain ⟨b, rfl⟩ := Int.eq_ofNat_of_zero_le (show 0 ≤ bits by omega)
      refine (rmake_yes p F S b w h (by omega) (by omega) hl).mono ?_
      rintro e w' ⟨rfl, k⟩
      have e1 : makeE S (b : Int) = 0 := by unfold makeE; rw [if_pos hb, if_pos hl]
      refine ⟨by rw [makeN, e1, if_pos rfl], ?_⟩
      rw [makeS, e1, if_pos rfl]
      simpa using k
    · refine (rmake_big p F S bits w h hb hl).mono ?_
      rintro e w' ⟨rfl, rfl⟩
      have e1 : makeE S bits = 2 := by unfold makeE; rw [if_pos hb, if_neg hl]
      refine ⟨by rw [makeN, e1]; rfl, ?_⟩
      rw [makeS, e1, if_neg (by decide)]
      exact (RB.start h).leaves.wide
  · refine (rmake_no p bits w hb).mono ?_
    rintro e w' ⟨rfl, rfl⟩
    have e1 : makeE S bits = 1 := by unfold makeE; rw [if_neg hb]
    refine ⟨by rw [makeN, e1]; rfl, ?_⟩
    rw [makeS, e1, if_neg (by decide)]
    exact (RB.start h).leaves.wide
end Go.Proofs.Ytkpoppgibempbaa

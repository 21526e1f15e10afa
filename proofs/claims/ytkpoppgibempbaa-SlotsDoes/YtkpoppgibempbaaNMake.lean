/-
  What New and Make of package slots answer and leave; no condition of ours.
-/
import Derived.Test.YtkpoppgibempbaaNHeld
namespace Go.Proofs.Ytkpoppgibempbaa
open Go.RowKit Go.Deep Go.MapKept Go.Maps
set_option linter.unusedSectionVars false
variable [dCp : DecidableEq Cp] [dLim : ∀ k, Decidable (Lim k)] [dBad : ∀ k, Decidable (Bad k)] [dFit : ∀ g z, Decidable (Fit g z)] [dFine : ∀ c, Decidable (Fine c)] [dMint : ∀ c v, Decidable (MintR c v)] [dWho : ∀ x y, Decidable (Whose x y)] [dSl : DecidableEq Sl] [dLt : ∀ a b, Decidable (ltS a b)] [iSl : Inhabited Sl] [iCp : Inhabited Cp]

theorem okay_nil : Okay [] := ⟨by simp, by simp, by simp⟩
theorem new_any (w : World) : Calls Try.prog 9 #[] w fun e w' => ∃ q F, e = .returned (.pointer (some ⟨q, 0, none⟩)) ∧ Nds w' q F [] ∧ (∀ x, F x → w.heap.size ≤ x) ∧ Below w.heap.size w w' := by
  have hmm := @run_makeMap Try.prog
  obtain ⟨x1, x2, x3, x4⟩ := box2 w (.map #[] 0) (.cells #[.slice none 0 0, .map (some w.heap.size)] 61)
  have K : Hid (∃ q F, (Ending.returned (.pointer (some ⟨w.heap.size + 1, 0, none⟩)) : Ending) = .returned (.pointer (some ⟨q, 0, none⟩)) ∧ Nds ((w.alloc (.map #[] 0)).alloc (.cells #[.slice none 0 0, .map (some w.heap.size)] 61)) q F [] ∧ (∀ x, F x → w.heap.size ≤ x) ∧ Below w.heap.size w ((w.alloc (.map #[] 0)).alloc (.cells #[.slice none 0 0, .map (some w.heap.size)] 61))) := by
    refine ⟨w.heap.size + 1, fun x => x = w.heap.size ∨ x = w.heap.size + 1, rfl, ⟨w.heap.size, .slice none 0 0, ?_⟩, fun x hx => by omega, x4⟩
    exact { head := x2, row := World.ownsRow_nil _ _ _ _, map := ((MapIs.new w).of_block (blk_alloc_lt _ _ _ (by simp))).congr fun s => (by simp [holdS, atS]), fp := .inr rfl, fm := .inl rfl, fv := fun k hk => (by cases hk), pm := (by omega), lt := fun x hx => (by rw [x3]; omega), ok := okay_nil }
  clear x1 x2 x3 x4
  go_enter Try.func9, Try.ntmps9
  go_wp2
  go_ret
  exact K.out

/-! ### One node more -/
theorem atS_app (S : St) (l : List Cp) (s : Sl) : atS (S ++ [l]) s = if s.n = S.length then (if 0 ≤ s.i then l[s.i.toNat]? else none) else atS S s := by
  unfold atS
  by_cases hn : 0 ≤ s.n
  · by_cases hi : 0 ≤ s.i
    · simp only [hn, hi, and_self, if_true]
      rw [List.getD_eq_getElem?_getD, List.getElem?_append]
      by_cases h1 : s.n.toNat < S.length
      · rw [if_pos h1, if_neg (by omega), ← List.getD_eq_getElem?_getD]
      · rw [if_neg h1]
        by_cases h2 : s.n = S.length
        · rw [if_pos h2]
          have : s.n.toNat - S.length = 0 := by omega
          rw [this]
          rfl
        · rw [if_neg h2]
          have e : S.getD s.n.toNat [] = [] := by rw [List.getD_eq_getElem?_getD, List.getElem?_eq_none (by omega)]; rfl
          have e2 : ([l] : St)[s.n.toNat - S.length]? = none := List.getElem?_eq_none (by rw [List.length_singleton]; omega)
          rw [e, e2]
          rfl
    · simp [hi]
  · have : ¬ s.n = S.length := by omega
    simp [hn, this]
theorem hold_app (S : St) (n : Nat) (s : Sl) : holdS (S ++ [List.replicate n no]) s = holdS S s := by
  unfold holdS
  rw [atS_app]
  by_cases h : s.n = S.length
  · have e : atS S s = none := by
      cases hq : atS S s with
      | none => rfl
      | some c =>
        have := (atS_mem hq).2.2.1
        omega
    rw [if_pos h, e]
    by_cases hi : 0 ≤ s.i
    · rw [if_pos hi, List.getElem?_replicate]
      by_cases h2 : s.i.toNat < n
      · rw [if_pos h2]; rfl
      · rw [if_neg h2]
    · rw [if_neg hi]
  · rw [if_neg h]
theorem okay_app {S : St} (h : Okay S) (hl : S.length < 64) (b : Nat) (b1 : 1 ≤ b) (b2 : b ≤ 8) : Okay (S ++ [List.replicate (2 ^ b) no]) := by
  refine ⟨by simp; omega, fun l hl => ?_, fun l hl c hc => ?_⟩
  · rcases List.mem_append.1 hl with hl | hl
    · exact h.row l hl
    · obtain rfl := List.mem_singleton.1 hl
      exact .inr ⟨b, b1, b2, by simp⟩
  · rcases List.mem_append.1 hl with hl | hl
    · exact h.cap l hl c hc
    · obtain rfl := List.mem_singleton.1 hl
      obtain ⟨_, rfl⟩ := List.mem_replicate.1 hc
      exact ⟨no_fits, fun _ => rfl⟩
theorem infoN : (Try.prog.info? 3).map (fun i => (i.zero, i.size, i.bytes)) = some (some (.int .i64 0), 1, 8) := by kernel_rfl
/-- One number more. -/
theorem append_int (w : World) (ty : TypeId) (v : Value) (n : Nat) (xs : List Value) (x : Int) (hown : w.ownsRow 0 3 1 v n xs) (hl : n ≤ 1000000) :
    ∃ v' w', (Builtin.append_ #[59, 59] ty #[v, .slice (some ⟨w.heap.size, 0, none⟩) 1 1]).run Try.prog (w.alloc (.cells #[.int .i64 x] 3)) = .ok v' w' ∧ w'.ownsRow 0 3 1 v' (n + 1) (xs ++ [.int .i64 x]) ∧ w.grownBy w' v.ownBlock ∧ (v'.ownBlock = v.ownBlock ∨ v'.ownBlock = some (w.heap.size + 1)) := by
  obtain ⟨i, hi, hz⟩ := Option.map_eq_some_iff.1 infoN
  simp only [Prod.mk.injEq] at hz
  obtain ⟨v', w', r1, r2, r3, _, r5⟩ := run_append_own_at (P := Try.prog) (w.alloc (.cells #[.int .i64 x] 3)) 0 59 ty 3 i _ 1 8 Try.underlying59 hi hz.1 hz.2.1 hz.2.2 rfl (by decide) v n xs (World.ownsRow.alloc hown _) ⟨w.heap.size, 0, none⟩ 1 1 [.int .i64 x] rfl
    (cell_one_new _ _ _) (by simp [Value.oneCell']) (by unfold maxLen; omega) (by omega) (by omega)
  exact ⟨v', w', r1, r2, (World.grownBy_alloc w _ _).trans r3, by simpa using r5⟩
/-- Whatever is left: the nodes S', in blocks that are new or were there. -/
def LeavesF (w : World) (p : Nat) (F : Nat → Prop) (S : St) (w' : World) : Prop := ∃ F', Nds w' p F' S ∧ Turn F w w' ∧ Out F F' w
theorem Leaves.wide {w w' : World} {p : Nat} {F : Nat → Prop} {S : St} (h : Leaves w p F S w') : LeavesF w p F S w' := ⟨F, h.1, h.2, Out.refl F w⟩
theorem make_no (p : Nat) (bits : Int) (w : World) (hb : ¬ (1 ≤ bits ∧ bits ≤ 8)) :
    Calls Try.prog 11 #[.pointer (some ⟨p, 0, none⟩), .int .i64 bits] w fun e w' => e = .returned (.tuple #[.int .i64 0, .int .i64 1]) ∧ w' = w := by
  by_cases h1 : bits < 1
  · clear hb
    go_enter Try.func11, Try.ntmps11
    go_wp2
    all_goals go_ret2
    all_goals exact ⟨rfl, rfl⟩
  · have h2 : 8 < bits := by omega
    clear hb
    go_enter Try.func11, Try.ntmps11
    go_wp2
    all_goals go_ret2
    all_goals exact ⟨rfl, rfl⟩
theorem make_big (p : Nat) (F : Nat → Prop) (S : St) (bits : Int) (w : World) (h : Nds w p F S) (hb : 1 ≤ bits ∧ bits ≤ 8) (hl : ¬ S.length < 64) :
    Calls Try.prog 11 #[.pointer (some ⟨p, 0, none⟩), .int .i64 bits] w fun e w' => e = .returned (.tuple #[.int .i64 0, .int .i64 2]) ∧ w' = w := by
  obtain ⟨m, v, h⟩ := h
  obtain ⟨c0, c1⟩ := h.cells
  obtain ⟨ao, cap, rfl, _⟩ := h.slice
  clear h
  obtain ⟨b1, b2⟩ := hb
  have hl' : (64 : Int) ≤ (S.length : Int) := by omega
  clear hl
  generalize S.length = n at *
  go_enter Try.func11, Try.ntmps11
  go_wp2
  all_goals go_ret2
  all_goals exact ⟨rfl, rfl⟩
set_option maxHeartbeats 1000000 in
set_option maxRecDepth 100000 in
theorem make_yes (p : Nat) (F : Nat → Prop) (S : St) (b : Nat) (w : World) (h : Nds w p F S) (b1 : 1 ≤ b) (b2 : b ≤ 8) (hl : S.length < 64) :
    Calls Try.prog 11 #[.pointer (some ⟨p, 0, none⟩), .int .i64 (b : Nat)] w fun e w' => e = .returned (.tuple #[.int .i64 (S.length : Nat), .int .i64 0]) ∧ LeavesF w p F (S ++ [List.replicate (2 ^ b) no]) w' := by
  obtain ⟨m, v, h⟩ := h
  have H : Hid (PN w p m v F S) := h
  obtain ⟨v', w5, hrun, own5, g5, loc⟩ := append_int w 59 v S.length (S.map bitV) (b : Nat) h.row (by omega)
  obtain ⟨c0, c1⟩ := h.cells
  have hp5 : w5.heap[p]? = some (.cells #[v, .map (some m)] 61 (0, 0)) := (g5.block _ (h.lt _ h.fp) fun e => (h.fv p e.symm).2.1 rfl).trans h.head
  have vne : ∀ k, v'.ownBlock = some k → k ≠ p ∧ k ≠ m := fun k hk => by
    rcases loc with e | e
    · exact (h.fv k (e ▸ hk)).2
    · rw [e] at hk
      cases hk
      have := h.lt _ h.fp
      have := h.lt _ h.fm
      omega
  have K : Hid (LeavesF w p F (S ++ [List.replicate (2 ^ b) no]) (w5.setCell ⟨p, 0, none⟩ v')) := by
    have hF : ∀ x, (F x ∨ v'.ownBlock = some x) → F x ∨ w.heap.size ≤ x := fun x hx => by
      rcases hx with hx | hx
      · exact .inl hx
      · rcases loc with e | e
        · exact .inl (h.fv x (e ▸ hx)).1
        · rw [e] at hx
          cases hx
          exact .inr (by omega)
    have t5 : Turn F w w5 := Turn.grown g5 fun k hk => .inl (h.fv k hk).1
    refine ⟨fun x => F x ∨ v'.ownBlock = some x, ⟨m, v', ?_⟩, t5.trans (Turn.setCell F w5 ⟨p, 0, none⟩ v' h.fp) fun x hx => .inl hx, hF⟩
    exact {
      head := by
        simp only [World.setCell, Array.getElem?_modify, hp5, Option.map_some]
        simp
      row := by
        have e : (S ++ [List.replicate (2 ^ b) no]).map bitV = S.map bitV ++ [.int .i64 (b : Nat)] := by
          simp [bitV, bitsL, Nat.log2_two_pow]
        rw [e, List.length_append]
        exact own_of_block own5 fun g hg => blk_setCell_other _ _ _ _ fun e => (vne g hg).1 e
      map := ((h.map.of_block (g5.block _ (h.lt _ h.fm) fun e => (h.fv m e.symm).2.2 rfl)).of_block (blk_setCell_other _ _ _ _ fun e => h.pm e.symm)).congr fun s => hold_app S _ s
      fp := .inl h.fp
      fm := .inl h.fm
      fv := fun k hk => ⟨.inr hk, vne k hk⟩
      pm := h.pm
      lt := fun x hx => by
        rw [nblk_setCell]
        rcases hx with hx | hx
        · exact Nat.lt_of_lt_of_le (h.lt x hx) g5.size
        · exact (World.ownsRow.lt own5 x hx).2
      ok := okay_app h.ok hl b b1 b2 }
  obtain ⟨ao, cap, rfl, _⟩ := h.slice
  have e5 : w5.cell? ⟨p, 0, none⟩ = some (.slice ao S.length cap) := by simp [World.cell?, hp5]
  have f5 : w5.frozen? ⟨p, 0, none⟩ = false := by simp [World.frozen?, hp5]
  have hv' : ∃ ao' cap', v' = .slice ao' (S.length + 1) cap' := by
    rcases own5.2 with ⟨_, h0⟩ | ⟨g, cap', cur, e, _⟩
    · omega
    · exact ⟨_, _, e⟩
  obtain ⟨ao', cap', rfl⟩ := hv'
  have HRun : Hid _ := hrun
  have hl' : (S.length : Int) < 64 := by omega
  have hb1 : (1 : Int) ≤ (b : Int) := by omega
  have hb2 : (b : Int) ≤ 8 := by omega
  clear h own5 g5 loc hp5 vne hrun hl b1 b2
  generalize S.length = n at *
  go_enter Try.func11, Try.ntmps11
  go_wp2_with (at_builtin; refine wpList_append_run rfl (.tmp 22) (.tmp 24) 59 rfl _ _ _ _ rfl rfl HRun.out ?_)
  all_goals go_ret2
  all_goals exact ⟨by simp, K.out⟩
theorem make_any (p : Nat) (F : Nat → Prop) (S : St) (bits : Int) (w : World) (h : Nds w p F S) :
    Calls Try.prog 11 #[.pointer (some ⟨p, 0, none⟩), .int .i64 bits] w fun e w' => e = .returned (.tuple #[.int .i64 (makeN S bits), .int .i64 (makeE S bits)]) ∧ LeavesF w p F (makeS S bits) w' := by
  by_cases hb : 1 ≤ bits ∧ bits ≤ 8
  · by_cases hl : S.length < 64
    · obtain ⟨b, rfl⟩ := Int.eq_ofNat_of_zero_le (show 0 ≤ bits by omega)
      refine (make_yes p F S b w h (by omega) (by omega) hl).mono ?_
      rintro e w' ⟨rfl, k⟩
      have e1 : makeE S (b : Int) = 0 := by unfold makeE; rw [if_pos hb, if_pos hl]
      refine ⟨by rw [makeN, e1, if_pos rfl], ?_⟩
      rw [makeS, e1, if_pos rfl]
      simpa using k
    · refine (make_big p F S bits w h hb hl).mono ?_
      rintro e w' ⟨rfl, rfl⟩
      have e1 : makeE S bits = 2 := by unfold makeE; rw [if_pos hb, if_neg hl]
      refine ⟨by rw [makeN, e1]; rfl, ?_⟩
      rw [makeS, e1, if_neg (by decide)]
      exact (Leaves.same h (Below.refl _ _)).wide
  · refine (make_no p bits w hb).mono ?_
    rintro e w' ⟨rfl, rfl⟩
    have e1 : makeE S bits = 1 := by unfold makeE; rw [if_neg hb]
    refine ⟨by rw [makeN, e1]; rfl, ?_⟩
    rw [makeS, e1, if_neg (by decide)]
    exact (Leaves.same h (Below.refl _ _)).wide
end Go.Proofs.Ytkpoppgibempbaa

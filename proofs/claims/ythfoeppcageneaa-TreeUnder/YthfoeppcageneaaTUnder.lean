/-
  What under and slotsOf of package tree answer: the part of the row that is under one; its slots, in a list of their own; no condition but that the row is short.
-/
import Derived.Test.YthfoeppcageneaaTRowD
namespace Go.Proofs.Ythfoeppcageneaa
set_option linter.unusedSectionVars false
variable [DecidableEq Sl]
open Go.RowKit Go.Deep Go.Shelf

theorem isE_any (p g cap : Nat) (S : St) (i q q2 : Nat) (x : En) (w : World) (h : TrH p (.slice (some ⟨g, 0, none⟩) S.length cap) S w) (hi : i < S.length) (ht : w.heap[q]? = some (.cells #[.pointer (some ⟨p, 0, none⟩)] 23)) (hj : w.heap[q2]? = some (.cells #[.int .i64 (i : Int)] 3)) :
    Calls Try.prog 40 #[.agg #[.int .i64 x.s.n, .int .i64 x.s.i, .int .i64 x.d], .pointer (some ⟨q, 0, none⟩), .pointer (some ⟨q2, 0, none⟩)] w fun e w' => e = .returned (.bool (isE (dep S i) x)) ∧ Below w.heap.size w w' := by
  have b1 := below_new w (objE x)
  have h1 := h.below b1
  obtain ⟨-, -, c2⟩ := (AtE.new w x).cells
  obtain ⟨-, -, d2⟩ := h1.row.cells hi
  have l1 : (w.alloc (objE x)).cell? ⟨q, 0, none⟩ = some (.pointer (some ⟨p, 0, none⟩)) := by
    have := (b1.block q (Array.getElem?_eq_some_iff.1 ht).1).trans ht
    simp [World.cell?, this]
  have l2 : (w.alloc (objE x)).cell? ⟨q2, 0, none⟩ = some (.int .i64 (i : Int)) := by
    have := (b1.block q2 (Array.getElem?_eq_some_iff.1 hj).1).trans hj
    simp [World.cell?, this]
  have l3 := h1.cell
  have B : Hid (Below w.heap.size w (w.alloc (objE x))) := b1
  have hi1 : (i : Int) < (S.length : Int) := by omega
  have HD : Hid (isE (dep S i) x = decide (x.d ≤ dep S i)) := rfl
  generalize isE (dep S i) x = β at *
  generalize dep S i = di at *
  clear b1 h h1 ht hj hi
  generalize S.length = n at *
  simp only [objE] at *
  go_enter Try.func40, Try.ntmps40
  go_wp2
  generalize w.alloc (Obj.cells _ _) = w1 at *
  generalize hr0 : w.heap.size = r at *
  have HR : Hid (w.heap.size = r) := hr0
  clear hr0
  go_quiet (fail)
  go_wp2
  go_ret
  exact ⟨by rw [HD.out]; rfl, by rw [HR.out]; exact below_drewN B.out _⟩
theorem idx_under (S : St) (i : Nat) : idx (isE (dep S i)) (S.drop (i + 1)) = if (underN S i).length < (S.drop (i + 1)).length then (((underN S i).length : Nat) : Int) else -1 := by
  have : (underN S i).length = (S.drop (i + 1)).findIdx (isE (dep S i)) := by
    unfold underN
    have : (S.drop (i + 1)).findIdx (isE (dep S i)) ≤ (S.drop (i + 1)).length := List.findIdx_le_length
    rw [List.length_take]
    omega
  unfold idx
  rw [this]
set_option maxHeartbeats 1000000 in
theorem under_any (p g cap : Nat) (S : St) (i : Nat) (w : World) (h : TrH p (.slice (some ⟨g, 0, none⟩) S.length cap) S w) (hi : i < S.length) (hl : S.length ≤ 1000) :
    Calls Try.prog 27 #[.pointer (some ⟨p, 0, none⟩), .int .i64 (i : Int)] w fun e w' => ∃ ad c, e = .returned (.slice (some ad) (underN S i).length c) ∧ (0 < (underN S i).length → ad = ⟨g, (i + 1) * 3, none⟩) ∧ Below w.heap.size w w' := by
  obtain ⟨x1, x2, x3, x4⟩ := box2 w (.cells #[.pointer (some ⟨p, 0, none⟩)] 23) (.cells #[.int .i64 (i : Int)] 3)
  have h1 := h.below x4
  obtain ⟨_, _, e0, hcn, hc63, -⟩ := h.row.slice
  cases e0
  obtain ⟨W, hW⟩ : ∃ W, (w.alloc (.cells #[.pointer (some ⟨p, 0, none⟩)] 23)).alloc (.cells #[.int .i64 (i : Int)] 3) = W := ⟨_, rfl⟩
  rw [hW] at x1 x2 x3 x4 h1
  have l1 : W.cell? ⟨w.heap.size, 0, none⟩ = some (.pointer (some ⟨p, 0, none⟩)) := by simp [World.cell?, x1]
  have l2 : W.cell? ⟨w.heap.size + 1, 0, none⟩ = some (.int .i64 (i : Int)) := by simp [World.cell?, x2]
  have l3 := h1.cell
  have B : Hid (Below w.heap.size w W) := x4
  obtain ⟨ad, had⟩ : ∃ ad : Addr, (if cap = i + 1 then some (⟨g, 0, none⟩ : Addr) else some ⟨g, (i + 1) * 3, none⟩) = some ad := by split <;> exact ⟨_, rfl⟩
  have hlen : (S.drop (i + 1)).length = S.length - (i + 1) := List.length_drop
  have hul : (underN S i).length ≤ S.length - (i + 1) := by unfold underN; rw [List.length_take, hlen]; omega
  have HA : Hid (0 < (underN S i).length → ad = ⟨g, (i + 1) * 3, none⟩) := fun hp => by
    rw [if_neg (by omega)] at had
    exact (Option.some.inj had).symm
  have hsee : ∀ nq, SeeE (W.drewN nq) (some ad) (S.drop (i + 1)) := fun nq j hj => by
    rw [hlen] at hj
    rw [if_neg (by omega)] at had
    cases had
    obtain ⟨d0, d1, d2⟩ := h1.row.cells (i := i + 1 + j) (by omega)
    refine ⟨g, (i + 1) * 3, rfl, h1.row.lt rfl, ?_, ?_, ?_⟩
    · rw [show (i + 1) * 3 + j * 3 = (i + 1 + j) * 3 by omega]
      unfold slt at d0 ⊢
      rw [atE_drop]
      exact d0
    · rw [show (i + 1) * 3 + j * 3 = (i + 1 + j) * 3 by omega]
      unfold slt at d1 ⊢
      rw [atE_drop]
      exact d1
    · rw [show (i + 1) * 3 + j * 3 = (i + 1 + j) * 3 by omega]
      unfold dep at d2 ⊢
      rw [atE_drop]
      exact d2
  have HI : Hid (∀ nq c, Calls Try.prog 38 #[.slice (some ad) (S.length - (i + 1)) c, .func (.func 40) #[] #[.pointer (some ⟨w.heap.size, 0, none⟩), .pointer (some ⟨w.heap.size + 1, 0, none⟩)]] (W.drewN nq) fun e w' => e = .returned (.int .i64 (if (underN S i).length < S.length - (i + 1) then (((underN S i).length : Nat) : Int) else -1)) ∧ Below w.heap.size w w') := fun nq c => by
    have k := index_any 40 #[.pointer (some ⟨w.heap.size, 0, none⟩), .pointer (some ⟨w.heap.size + 1, 0, none⟩)] (isE (dep S i)) (some ad) c (S.drop (i + 1)) (W.drewN nq) (enters_of Try.func40 (by kernel_rfl) rfl) (fun V x hV => by
      have hV' : Below W.heap.size W V := ⟨hV.os, hV.tape, hV.output, hV.size, hV.block⟩
      exact isE_any p g cap S i _ _ x V (h1.below hV') hi ((hV'.block _ (Array.getElem?_eq_some_iff.1 x1).1).trans x1) ((hV'.block _ (Array.getElem?_eq_some_iff.1 x2).1).trans x2)) (by rw [hlen]; omega) (hsee nq)
    rw [idx_under, hlen] at k
    refine Calls.mono k ?_
    rintro e w' ⟨rfl, b⟩
    exact ⟨rfl, Below.then B.out ⟨b.os, b.tape, b.output, b.size, b.block⟩ B.out.size⟩
  have hw1 : IntKind.i64.wrap ((i : Int) + 1) = (i : Int) + 1 := by rw [IntKind.wrap_i64]; omega
  have hb1 : (0 : Int) ≤ (i : Int) + 1 := by omega
  have htn : ((i : Int) + 1).toNat = i + 1 := by omega
  have hkc : (underN S i).length ≤ cap - (i + 1) := by omega
  have hin : i + 1 ≤ S.length := by omega
  have hin' : (i : Int) + 1 ≤ (S.length : Int) := by omega
  clear h h1 x1 x2 x3 x4 hsee hlen hcn hi
  generalize hu : (underN S i).length = k at *
  clear hu
  generalize S.length = n at *
  by_cases hk : k < n - (i + 1)
  · simp only [if_pos hk] at HI
    go_enter Try.func27, Try.ntmps27
    go_wp2
    clear hW
    generalize hr0 : w.heap.size = r at *
    have HR : Hid (w.heap.size = r) := hr0
    clear hr0
    go_quiet (fail)
    go_wp2_with (go_at_call 38; refine Calls.mono (HI.out _ _) ?_; rintro e w' ⟨rfl, b2⟩)
    go_ret
    exact ⟨_, _, rfl, HA.out, by rw [HR.out]; exact b2⟩
  · have : k = n - (i + 1) := by omega
    subst this
    simp only [if_neg hk] at HI
    go_enter Try.func27, Try.ntmps27
    go_wp2
    clear hW
    generalize hr0 : w.heap.size = r at *
    have HR : Hid (w.heap.size = r) := hr0
    clear hr0
    go_quiet (fail)
    go_wp2_with (go_at_call 38; refine Calls.mono (HI.out _ _) ?_; rintro e w' ⟨rfl, b2⟩)
    go_ret
    exact ⟨_, _, rfl, HA.out, by rw [HR.out]; exact b2⟩

/-! ### Lists of slots -/
/-- A list of slots in memory from block B on. -/
def OwnS (B : Nat) (w : World) (v : Value) (A : List Sl) : Prop := w.ownsRow B 31 2 v A.length (flatK cS A)
theorem OwnS.row {B : Nat} {w : World} {v : Value} {A : List Sl} (h : OwnS B w v A) : RowS w v A := own_low h
theorem OwnS.new {B : Nat} {w : World} {v : Value} {A : List Sl} (h : OwnS B w v A) : ∀ x, (lstS v A).F x → B ≤ x := fun x hx => (World.ownsRow.lt h x hx).1
theorem infoS : (Try.prog.info? 31).map (fun i => (i.zero, i.size, i.bytes)) = some (some (.agg #[.int .i64 0, .int .i64 0]), 2, 16) := by kernel_rfl
theorem append_slot (B : Nat) (w : World) (ty : TypeId) (v : Value) (A : List Sl) (x : Sl) (hown : OwnS B w v A) (hl : A.length ≤ 1000000) (hB : B ≤ w.heap.size) :
    ∃ v' w', (Builtin.append_ #[26, 26] ty #[v, .slice (some ⟨w.heap.size, 0, none⟩) 1 1]).run Try.prog (w.alloc (objS x)) = .ok v' w' ∧ OwnS B w' v' (A ++ [x]) ∧ w.grownBy w' v.ownBlock ∧ (v'.ownBlock = v.ownBlock ∨ v'.ownBlock = some (w.heap.size + 1)) := by
  obtain ⟨i, hi, hz⟩ := Option.map_eq_some_iff.1 infoS
  simp only [Prod.mk.injEq] at hz
  have h1 : (w.alloc (objS x)).ownsRow B 31 2 v A.length (flatK cS A) := World.ownsRow.alloc hown _
  obtain ⟨v', w', r1, r2, r3, _, r5⟩ := run_append_own_at (P := Try.prog) (w.alloc (objS x)) B 26 ty 31 i _ 2 16 Try.underlying26 hi hz.1 hz.2.1 hz.2.2 rfl (by decide) v A.length (flatK cS A) h1 ⟨w.heap.size, 0, none⟩ 1 1 (cS x) rfl
    (fun j u hju => by
      rw [add_none]
      have e := blk_alloc_new w (objS x)
      unfold objS at e ⊢
      simp only [World.cell?, e, Nat.zero_add]
      simpa [cS] using hju) (cS_one x) (by unfold maxLen; omega) (by omega) (by simp; omega)
  refine ⟨v', w', r1, ?_, (World.grownBy_alloc w _ _).trans r3, by simpa using r5⟩
  unfold OwnS
  rw [List.length_append, flatK_app, flatK_cons]
  simpa [flatK] using r2
theorem all_take {Z : St} {k : Nat} (h : k < Z.length) : allS (Z.take (k + 1)) = allS (Z.take k) ++ [slt Z k] := by
  unfold allS
  rw [List.take_add_one, atE_some h, List.map_append]
  rfl
set_option maxHeartbeats 1000000 in
theorem slotsOf_any (ao : Option Addr) (c : Nat) (Z : St) (w : World) (hz : SeeE w ao Z) (hl : Z.length ≤ 1000) :
    Calls Try.prog 34 #[.slice ao Z.length c] w fun e w' => ∃ v, e = .returned v ∧ OwnS w.heap.size w' v (allS Z) ∧ Below w.heap.size w w' := by
  have HZ : Hid (SeeE w ao Z) := hz
  clear hz
  go_enter Try.func34, Try.ntmps34
  go_wp2
  go_loopw [3, 8] (fun l s8 wr => ∃ kk : Nat, kk ≤ Z.length ∧ s8 = .int .i64 kk ∧ OwnS w.heap.size wr l (allS (Z.take kk)) ∧ Below w.heap.size w wr) (fun _ s8 _ => Z.length - (intOf s8).toNat)
  case atStart => exact ⟨0, Nat.zero_le _, rfl, World.ownsRow_nil _ _ _ _, Below.refl _ w⟩
  case round =>
    obtain ⟨kk, hkk, rfl, hown, BW⟩ := hrel
    by_cases hlt : kk < Z.length
    · have hltz : (kk : Int) < (Z.length : Int) := by omega
      obtain ⟨b, o, rfl, hb, c0, c1, c2⟩ := HZ.out.below BW kk hlt
      have B1 : Below w.heap.size w (wr.alloc (objE (atE Z kk))) := Below.then BW (below_new _ _) BW.size
      have hlen : (allS (Z.take kk)).length ≤ 1000000 := by unfold allS; simp; omega
      obtain ⟨v', w5, hrun, own5, g5, -⟩ := append_slot w.heap.size (wr.alloc (objE (atE Z kk))) 26 u3 (allS (Z.take kk)) (slt Z kk) (World.ownsRow.alloc hown _) hlen B1.size
      rw [← all_take hlt] at own5
      obtain ⟨d0, d1, -⟩ := (AtE.new wr (atE Z kk)).cells
      have HD : Hid (OwnS w.heap.size w5 v' (allS (Z.take (kk + 1))) ∧ Below w.heap.size w w5 ∧ kk < Z.length) := ⟨own5, B1.grown g5 B1.size fun q hq => (World.ownsRow.lt hown q hq).1, hlt⟩
      have HRun : Hid _ := hrun
      clear hlt BW hb own5 g5 hrun hown hlen B1
      unfold slt at c0 c1 HRun
      unfold dep at c2
      generalize atE Z kk = y at *
      generalize hN : Z.length = N at *
      have HN : Hid (Z.length = N) := hN
      clear hN
      rw [World.size_alloc] at HRun
      simp only [objE, objS] at *
      go_wp2_with (at_builtin; refine wpList_append_run rfl _ _ _ _ rfl _ _ _ _ rfl rfl HRun.out ?_)
      go_roundw
      case rel => exact ⟨kk + 1, by have := HD.out.2.2; omega, by go_num, HD.out.1, HD.out.2.1⟩
      case measure => simp [intOf]; have := HD.out.2.2; omega
    · have hltz : ¬ (kk : Int) < (Z.length : Int) := by omega
      have e : kk = Z.length := by omega
      rw [e, List.take_length] at hown
      have HD : Hid (OwnS w.heap.size wr u3 (allS Z) ∧ Below w.heap.size w wr) := ⟨hown, BW⟩
      clear e hlt hkk hown BW
      generalize Z.length = N at *
      go_wp2
      go_ret
      exact ⟨_, rfl, HD.out⟩
end Go.Proofs.Ythfoeppcageneaa

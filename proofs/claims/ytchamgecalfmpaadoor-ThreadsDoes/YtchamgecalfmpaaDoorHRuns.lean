/-
  What Runs and Line of package threads answer; the library's IndexFunc over a row of threads; no condition but that the row is short.
-/
import Derived.Test.YtchamgecalfmpaaDoorHPure
namespace Go.Proofs.YtchamgecalfmpaaDoor
open Go.RowKit Go.Deep Go.Shelf

def fidx (p : Td → Bool) (L : List Td) : Int := ((L.findIdx? p).map fun i => (i : Int)).getD (-1)
def At12 (w : World) (q o : Nat) (x : Td) : Prop := ∀ j c, (cT x)[j]? = some c → w.cell? ⟨q, o + j, none⟩ = some c
theorem At12.cells {w : World} {q o : Nat} {x : Td} (h : At12 w q o x) : w.cell? ⟨q, o, none⟩ = some (.int .i64 x.st) ∧ w.cell? ⟨q, o + 1, none⟩ = some (.int .i64 x.p) ∧ w.cell? ⟨q, o + 2, none⟩ = some (.int .i64 x.c) ∧ w.cell? ⟨q, o + 3, none⟩ = some (.int .i64 x.l) ∧ w.cell? ⟨q, o + 4, none⟩ = some (.int .u64 (rg x 0)) ∧ w.cell? ⟨q, o + 5, none⟩ = some (.int .u64 (rg x 1)) ∧ w.cell? ⟨q, o + 6, none⟩ = some (.int .u64 (rg x 2)) ∧ w.cell? ⟨q, o + 7, none⟩ = some (.int .u64 (rg x 3)) ∧ w.cell? ⟨q, o + 8, none⟩ = some (.int .u64 (rg x 4)) ∧ w.cell? ⟨q, o + 9, none⟩ = some (.int .u64 (rg x 5)) ∧ w.cell? ⟨q, o + 10, none⟩ = some (.int .u64 (rg x 6)) ∧ w.cell? ⟨q, o + 11, none⟩ = some (.int .u64 (rg x 7)) :=
  ⟨h 0 _ rfl, h 1 _ rfl, h 2 _ rfl, h 3 _ rfl, h 4 _ rfl, h 5 _ rfl, h 6 _ rfl, h 7 _ rfl, h 8 _ rfl, h 9 _ rfl, h 10 _ rfl, h 11 _ rfl⟩
theorem At.all {K : QK} {w0 w : World} {F : Nat → Prop} {p : Nat} {u : Value} {qs : List Nat} {h : Hs} {g cap n : Nat} (t : At K w0 F p (.slice (some ⟨g, 0, none⟩) n cap) u qs h w) {i : Nat} (hi : i < h.L.length) : At12 w g (i * 12) (thr h i) := fun _ _ hj => t.cellT hi hj
theorem at12_new (w : World) (x : Td) : At12 (w.alloc (objT x)) w.heap.size 0 x := fun j c hj => by
  have := blk_alloc_new w (objT x)
  simp only [World.cell?]
  rw [this, Nat.zero_add]
  simpa [cT, objT] using hj
theorem At12.below {w w' : World} {q o : Nat} {x : Td} (h : At12 w q o x) (hq : q < w.heap.size) (b : Below w.heap.size w w') : At12 w' q o x := fun j c hj => (b.cell (p := ⟨q, o + j, none⟩) hq).trans (h j c hj)
set_option maxHeartbeats 2000000 in
theorem indexT_any (f : Nat) (lb : Array Value) (pr : Td → Bool) (ao : Option Addr) (c : Nat) (L : List Td) (w : World) (eg : ∀ args w, (callFunc f args).run Tryd.prog w = .ok (.enter f args) w)
    (hp : ∀ W x, Below w.heap.size w W → Calls Tryd.prog f (#[encT x] ++ lb) W fun e w' => e = .returned (.bool (pr x)) ∧ Below W.heap.size W w') (_hl : L.length ≤ 1000) (hr : w.ownsRow 0 46 12 (.slice ao L.length c) L.length (flatK cT L)) :
    Calls Tryd.prog 55 #[.slice ao L.length c, .func (.func f) #[] lb] w fun e w' => e = .returned (.int .i64 (fidx pr L)) ∧ Below w.heap.size w w' := by
  have HZ := hid hr
  have HP := hid hp
  obtain ⟨ao', c', ev, hg⟩ := own_slice hr
  cases ev
  have HG := hid hg
  clear hr hp hg
  generalize hN : L.length = N at *
  have HN := hid hN
  clear hN
  go_enter Tryd.func55, Tryd.ntmps55
  go_wp2
  go_loopw [5, 8] (fun _ s8 wr => ∃ kk : Nat, kk ≤ N ∧ s8 = .int .i64 kk ∧ Below w.heap.size w wr ∧ Hid (∀ j x, j < kk → L[j]? = some x → pr x = false)) (fun _ s8 _ => N - (intOf s8).toNat)
  case atStart => exact ⟨0, Nat.zero_le _, rfl, Below.refl _ w, fun j x hj => absurd hj (Nat.not_lt_zero _)⟩
  case round =>
    obtain ⟨kk, hkk, rfl, BW, A⟩ := hrel
    have HB := hid BW
    by_cases hlt : kk < N
    · have hltz : (kk : Int) < (N : Int) := by omega
      obtain ⟨g, rfl⟩ := HG.out kk hlt
      have hkl : kk < L.length := by rw [HN.out]; exact hlt
      have row : (lstT (.slice (some ⟨g, 0, none⟩) N c) L).H w := by
        show w.ownsRow 0 46 12 _ L.length _
        rw [HN.out]
        exact HZ.out
      have gl : g < w.heap.size := (lstT (.slice (some ⟨g, 0, none⟩) N c) L).lt w row g rfl
      have a12 : At12 wr g (kk * 12) L[kk] := At12.below (fun j cc hj => lstK_cell cT_len row (List.getElem?_eq_getElem hkl) hj) gl BW
      have hcall := HP.out wr L[kk] BW
      have HX := hid (List.getElem?_eq_getElem hkl)
      generalize L[kk] = x at *
      obtain ⟨c0, c1, c2, c3, c4, c5, c6, c7, c8, c9, c10, c11⟩ := a12.cells
      have HL := hid hlt
      clear hlt BW row gl a12 hkl
      unfold encT at hcall
      cases hq : pr x with
      | true =>
        rw [hq] at hcall
        go_wp2_with (go_at_fn f; refine hcall.mono ?_; rintro e w' ⟨rfl, hb'⟩)
        go_ret
        refine ⟨ret_int ?_, Below.then HB.out hb' HB.out.size⟩
        have : L.findIdx? pr = some kk := by
          rw [List.findIdx?_eq_some_iff_getElem]
          obtain ⟨hk, e⟩ := List.getElem?_eq_some_iff.1 HX.out
          refine ⟨hk, by rw [e]; exact hq, fun j hj => ?_⟩
          have := A.out j _ hj (List.getElem?_eq_getElem (by omega))
          simpa using this
        unfold fidx
        rw [this]
        rfl
      | false =>
        rw [hq] at hcall
        go_wp2_with (go_at_fn f; refine hcall.mono ?_; rintro e w' ⟨rfl, hb'⟩)
        go_roundw
        case rel =>
          refine ⟨kk + 1, by have := HL.out; omega, by go_num, Below.then HB.out hb' HB.out.size, fun j y hj hy => ?_⟩
          by_cases e : j = kk
          · subst e
            rw [HX.out] at hy
            cases hy
            exact hq
          · exact A.out j y (by omega) hy
        case measure => simp [intOf]; have := HL.out; omega
    · have hltz : ¬ (kk : Int) < (N : Int) := by omega
      have e : kk = N := by omega
      have HE : Hid (fidx pr L = -1) := by
        have : L.findIdx? pr = none := by
          rw [List.findIdx?_eq_none_iff]
          intro x hx
          obtain ⟨j, hj, ej⟩ := List.mem_iff_getElem.1 hx
          exact A.out j x (by rw [e, ← HN.out]; exact hj) (by rw [List.getElem?_eq_getElem hj, ej])
        show fidx pr L = -1
        unfold fidx
        rw [this]
        rfl
      clear e hlt hkk A
      go_wp2
      go_ret
      exact ⟨by rw [HE.out]; rfl, HB.out⟩
def isR (c : Int) (x : Td) : Bool := x.st == 2 && (x.c : Int) == c
set_option maxHeartbeats 1000000 in
theorem runsC (q : Nat) (c : Int) (x : Td) (w : World) (h : Var w q (.int .i64 c)) :
    Calls Tryd.prog 56 #[encT x, ptr q] w fun e w' => e = .returned (.bool (isR c x)) ∧ Below w.heap.size w w' := by
  have b1 := below_new w (objT x)
  have hc := (h.below b1).2
  obtain ⟨c0, _, c2, _⟩ := (at12_new w x).cells
  have B := hid b1
  clear b1 h
  unfold isR
  simp only [objT, encT, Nat.zero_add] at *
  by_cases h2 : x.st = 2
  · have e0 : (x.st == 2) = true := by simpa using h2
    rw [e0, Bool.true_and]
    clear h2
    go_enter Tryd.func56, Tryd.ntmps56
    go_wp2
    go_ret
    exact ⟨rfl, B.out⟩
  · have e0 : (x.st == 2) = false := by simpa using h2
    rw [e0, Bool.false_and]
    clear h2
    go_enter Tryd.func56, Tryd.ntmps56
    go_wp2
    go_ret
    exact ⟨rfl, B.out⟩
section
variable {w0 w : World} {F : Nat → Prop} {p : Nat} {v u : Value} {qs : List Nat} {h : Hs}
theorem runs_any (t : At qkP w0 F p v u qs h w) (hl : h.L.length ≤ 1000) (c : Int) :
    Calls Tryd.prog 18 #[ptr p, .int .i64 c] w fun e w' => e = .returned (.tuple #[.int .i64 (runsN h c), .bool (runsB h c)]) ∧ Below w.heap.size w w' := by
  have hmf : ∀ (fn : Fn) (first cap : Array Value) (w : World), (Instr.makeFunc fn first cap).run Tryd.prog w = .ok (.func fn first cap) w := fun _ _ _ _ => rfl
  obtain ⟨ao, cap, rfl, hg⟩ := t.slice
  have B := hid (below_new w (.cells #[.int .i64 c] 3))
  have V := hid (Var.new w (.int .i64 c) 3)
  have t1 := t.below B.out
  have c0 := t1.cell0
  have HI := hid (indexT_any 56 #[ptr w.heap.size] (isR c) ao cap h.L _ (enters_of Tryd.func56 (by kernel_rfl) rfl) (fun W x hW => runsC w.heap.size c x W (V.out.below hW)) hl t1.row)
  have HR : Hid (fidx (isR c) h.L = ((runsO h c).map fun i => (i : Int)).getD (-1)) := rfl
  unfold runsN runsB
  generalize fidx (isR c) h.L = z at *
  generalize runsO h c = o at *
  clear t t1 V hg
  cases o with
  | none =>
    obtain rfl : z = -1 := HR.out
    clear HR
    go_enter Tryd.func18, Tryd.ntmps18
    go_wp2_with (go_at_call 55; refine Calls.mono HI.out ?_; rintro e w' ⟨rfl, b2⟩)
    go_ret2
    exact ⟨rfl, Below.then B.out b2 B.out.size⟩
  | some i =>
    obtain rfl : z = (i : Int) := HR.out
    clear HR
    have hneg : ¬ ((i : Int) < 0) := by omega
    go_enter Tryd.func18, Tryd.ntmps18
    go_wp2_with (go_at_call 55; refine Calls.mono HI.out ?_; rintro e w' ⟨rfl, b2⟩)
    go_ret2
    exact ⟨rfl, Below.then B.out b2 B.out.size⟩
theorem isC_cases (h : Hs) (i : Int) : (∃ j : Nat, i = j ∧ j < h.Q.length ∧ isC h i ∧ i.toNat = j) ∨ ¬ isC h i := by
  by_cases ht : isC h i
  · obtain ⟨h1, h2⟩ := isC_nat ht
    exact .inl ⟨i.toNat, h2.symm, h1, ht, rfl⟩
  · exact .inr ht
set_option maxHeartbeats 1000000 in
theorem lines_any (t : At qkP w0 F p v u qs h w) (iv : Inv h) (c pr : Int) :
    Calls Tryd.prog 21 #[ptr p, .int .i64 c, .int .i64 pr] w fun e w' => ∃ x, e = .returned x ∧ RowI w' x (lineH h c pr) ∧ Below w.heap.size w w' ∧ (∀ k, x.ownBlock = some k → w.heap.size ≤ k) := by
  obtain ⟨gq, capq, rfl⟩ := t.pslice iv.lo
  have c1 := t.cell1
  rcases isC_cases h c with ⟨j, rfl, hj, hC, hjn⟩ | hC
  · have cq := t.cellP hj
    have hin : inB (j : Int) (h.Q.length : Int) = true := by simp only [inB, decide_eq_true_eq]; omega
    obtain ⟨a, hq, _⟩ := t.qu hj
    have HL := hid (line_any _ a _ pr w hq (Nat.le_trans (iv.small hj) (by omega)))
    have hlh : lineH h j pr = lineI (que h j) pr := by unfold lineH; rw [if_pos hC, Int.toNat_natCast]
    have hjz : (j : Int) < (h.Q.length : Int) := by omega
    rw [hlh]
    clear t hq hC hlh hjn
    generalize qs.getD j 0 = q at *
    generalize h.Q.length = nQ at *
    go_enter Tryd.func21, Tryd.ntmps21
    go_wp2_with (first | (go_at_call 39; refine Calls.mono (within_any _ _ _) ?_; rintro e w' ⟨rfl, rfl⟩) | (go_at_call 57; refine Calls.mono HL.out ?_; rintro e w2 ⟨x, rfl, r1, r2, r3⟩))
    go_ret
    exact ⟨_, rfl, r1, r2, r3⟩
  · have hin : inB c (h.Q.length : Int) = false := by
      simp only [inB, decide_eq_false_iff_not]
      exact hC
    have hlh : lineH h c pr = [] := by unfold lineH; rw [if_neg hC]
    rw [hlh]
    clear t hC hlh
    generalize h.Q.length = nQ at *
    go_enter Tryd.func21, Tryd.ntmps21
    go_wp2_with (go_at_call 39; refine Calls.mono (within_any _ _ _) ?_; rintro e w' ⟨rfl, rfl⟩)
    go_ret
    exact ⟨_, rfl, rowI_nil _, Below.refl _ _, fun k hk => by simp [Value.ownBlock] at hk⟩
end
end Go.Proofs.YtchamgecalfmpaaDoor

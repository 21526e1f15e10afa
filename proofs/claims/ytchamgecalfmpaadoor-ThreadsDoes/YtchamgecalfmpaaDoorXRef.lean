/-
  The document's queue: how it lies in memory; what its Where, Put and Take answer and leave; no condition but that the queue is small.
-/
import Derived.Test.YtchamgecalfmpaaDoorHNums
namespace Go.Proofs.YtchamgecalfmpaaDoor
open Go.RowKit Go.Deep Go.Shelf

def cN (x : In) : List Value := [.int .i64 x.p, .int .i64 x.n]
theorem cN_len (x : In) : (cN x).length = 2 := rfl
theorem cN_one (x : In) : ∀ v ∈ cN x, v.oneCell' = true := by simp [cN, Value.oneCell']
def objN (x : In) : Obj := .cells #[.int .i64 x.p, .int .i64 x.n] 98
theorem infoN : (Tryd.prog.info? 98).map (fun i => (i.zero, i.size, i.bytes)) = some (some (.agg #[.int .i64 0, .int .i64 0]), 2, 16) := by kernel_rfl
/-- A slice value that owns the row of S. -/
def RowN (w : World) (v : Value) (S : St) : Prop := w.ownsRow 0 98 2 v S.length (flatK cN S)
theorem RowN.slice {w : World} {v : Value} {S : St} (h : RowN w v S) : ∃ ao cap, v = .slice ao S.length cap ∧ (∀ i, i < S.length → ∃ g, ao = some ⟨g, 0, none⟩) := by
  rcases h.2 with ⟨rfl, h0⟩ | ⟨g, cap, cur, rfl, _⟩
  · exact ⟨none, 0, by rw [h0], fun i hi => by omega⟩
  · exact ⟨some ⟨g, 0, none⟩, cap, rfl, fun _ _ => ⟨g, rfl⟩⟩
theorem RowN.cells {w : World} {g cap n : Nat} {S : St} (h : RowN w (.slice (some ⟨g, 0, none⟩) n cap) S) {i : Nat} {x : In} (hi : S[i]? = some x) : w.cell? ⟨g, i * 2, none⟩ = some (.int .i64 x.p) ∧ w.cell? ⟨g, i * 2 + 1, none⟩ = some (.int .i64 x.n) := by
  have hc := World.ownsRow.cells h (g := g) rfl
  have e := fun j hj => flatK_get cN_len hi (j := j) hj
  have e0 := hc (i * 2 + 0) _ (e 0 (by omega))
  have e1 := hc (i * 2 + 1) _ (e 1 (by omega))
  rw [add_none] at e0 e1
  simp only [Nat.zero_add, Nat.add_zero] at e0 e1
  exact ⟨e0, e1⟩
theorem RowN.keep {w w' : World} {v : Value} {S : St} (h : RowN w v S) (k : ∀ x, v.ownBlock = some x → w'.heap[x]? = w.heap[x]?) : RowN w' v S := own_of_block h k
theorem RowN.lt {w : World} {v : Value} {S : St} (h : RowN w v S) {x : Nat} (hx : v.ownBlock = some x) : x < w.heap.size := (World.ownsRow.lt h x hx).2
def lstN (v : Value) (S : St) : Th where
  F := fun x => v.ownBlock = some x
  H := fun w => RowN w v S
  lt := fun _ h _ hx => h.lt hx
  keep := fun _ _ h k => h.keep k
/-- The document's queue in block k, its row v. -/
structure RtH (k : Nat) (v : Value) (S : St) (w : World) : Prop where
  head : w.heap[k]? = some (.cells #[v] 69 (0, 0))
  row : RowN w v S
  ne : v.ownBlock ≠ some k
  good : Good S
def fpR (k : Nat) (v : Value) : Nat → Prop := fun x => x = k ∨ v.ownBlock = some x
theorem RtH.lt {k : Nat} {v : Value} {S : St} {w : World} (h : RtH k v S w) : k < w.heap.size := (Array.getElem?_eq_some_iff.1 h.head).1
theorem RtH.fp_lt {k : Nat} {v : Value} {S : St} {w : World} (h : RtH k v S w) : ∀ x, fpR k v x → x < w.heap.size := by
  rintro x (rfl | hx)
  · exact h.lt
  · exact h.row.lt hx
theorem RtH.keep {k : Nat} {v : Value} {S : St} {w w' : World} (h : RtH k v S w) (q : ∀ x, fpR k v x → w'.heap[x]? = w.heap[x]?) : RtH k v S w' :=
  ⟨(q k (.inl rfl)).trans h.head, h.row.keep fun x hx => q x (.inr hx), h.ne, h.good⟩
theorem RtH.below {k : Nat} {v : Value} {S : St} {w w' : World} (h : RtH k v S w) (b : Below w.heap.size w w') : RtH k v S w' := h.keep fun x hx => b.block x (h.fp_lt x hx)
def rtT (k : Nat) (v : Value) (S : St) : Th where
  F := fpR k v
  H := RtH k v S
  lt := fun _ h => h.fp_lt
  keep := fun _ _ h q => h.keep q
theorem RtH.cell {k : Nat} {v : Value} {S : St} {w : World} (h : RtH k v S w) : w.cell? ⟨k, 0, none⟩ = some v := by simp [World.cell?, h.head]
theorem RtH.frozen {k : Nat} {v : Value} {S : St} {w : World} (h : RtH k v S w) : w.frozen? ⟨k, 0, none⟩ = false := by simp [World.frozen?, h.head]
/-- What a call leaves. -/
def GoesR (w : World) (k : Nat) (v : Value) (S : St) (w' : World) : Prop := ∃ v', RtH k v' S w' ∧ Turn (fpR k v) w w' ∧ Out (fpR k v) (fpR k v') w
theorem GoesR.same {w w' : World} {k : Nat} {v : Value} {S : St} (h : RtH k v S w) (b : Below w.heap.size w w') : GoesR w k v S w' := ⟨v, h.below b, Turn.of b _, Out.refl _ _⟩
/-- A new row is hung into the struct. -/
theorem RtH.hang {k : Nat} {v v' : Value} {S T : St} {w w5 : World} (h : RtH k v S w) (row : RowN w5 v' T) (g5 : w.grownBy w5 v.ownBlock) (loc : ∀ g, v'.ownBlock = some g → v.ownBlock = some g ∨ w.heap.size ≤ g) (good : Good T) : GoesR w k v T (w5.setCell ⟨k, 0, none⟩ v') := by
  have hpv : some k ≠ v.ownBlock := fun e => h.ne e.symm
  have hne : v'.ownBlock ≠ some k := fun e => (loc k e).elim h.ne fun hg => by
    have := h.lt
    omega
  have h5 : w5.heap[k]? = some (.cells #[v] 69 (0, 0)) := (g5.block k h.lt hpv).trans h.head
  refine ⟨v', ⟨?_, row.keep fun g hg => blk_setCell_other _ _ _ _ fun e => hne (by rw [hg, e]), hne, good⟩, ?_, fun x hx => ?_⟩
  · simp only [World.setCell, Array.getElem?_modify, h5, Option.map_some]
    simp
  · exact (Turn.grown (F := fpR k v) g5 fun j hj => .inl (.inr hj)).trans (Turn.setCell (fpR k v) w5 ⟨k, 0, none⟩ v' (.inl rfl)) fun x hx => .inl hx
  · rcases hx with rfl | hx
    · exact .inl (.inl rfl)
    · exact (loc x hx).imp .inr id
/-- One more, out of a block that holds it. -/
theorem append_in (w : World) (v : Value) (S : St) (x : In) (h : RowN w v S) (hl : S.length ≤ 1000000) :
    ∃ v' w', (Builtin.append_ #[67, 67] 67 #[v, .slice (some ⟨w.heap.size, 0, none⟩) 1 1]).run Tryd.prog (w.alloc (.cells #[.int .i64 x.p, .int .i64 x.n] 98)) = .ok v' w' ∧ RowN w' v' (S ++ [x]) ∧ w.grownBy w' v.ownBlock ∧ (∀ g, v'.ownBlock = some g → v.ownBlock = some g ∨ w.heap.size ≤ g) := by
  have h1 : RowN (w.alloc (objN x)) v S := World.ownsRow.alloc h _
  obtain ⟨i, hi, hz⟩ := Option.map_eq_some_iff.1 infoN
  simp only [Prod.mk.injEq] at hz
  obtain ⟨v', w', r1, r2, r3, _, r5⟩ := run_append_own_at (P := Tryd.prog) (w := w.alloc (objN x)) 0 67 67 98 i _ 2 16 Tryd.underlying67 hi hz.1 hz.2.1 hz.2.2 rfl (by decide) v S.length (flatK cN S) h1 ⟨w.heap.size, 0, none⟩ 1 1 (cN x) rfl
    (fun j v hj => by
      rw [add_none, Nat.zero_add]
      have := blk_alloc_new w (objN x)
      simp only [World.cell?]
      rw [this]
      simpa [cN, objN] using hj) (cN_one x) (by unfold maxLen; omega) (by omega) (by omega)
  refine ⟨v', w', r1, ?_, (World.grownBy_alloc w _ _).trans r3, fun g hg => ?_⟩
  rotate_left
  · rcases r5 with e | e
    · exact .inl (e.symm.trans hg)
    · have : some (w.alloc (objN x)).heap.size = some g := e.symm.trans hg
      cases this
      exact .inr (by simp)
  unfold RowN
  rw [List.length_append, flatK_app, flatK_cons]
  simpa [flatK] using r2

/-! ### Where -/
set_option maxHeartbeats 1000000 in
theorem rwhere_any (k : Nat) (v : Value) (S : St) (n : Int) (w : World) (h : RtH k v S w) (hl : S.length ≤ 1000) :
    Calls Tryd.prog 87 #[.pointer (some ⟨k, 0, none⟩), .int .i64 n] w fun e w' => e = .returned (.tuple #[.int .i64 (whI S n), .bool (whB S n)]) ∧ w' = w := by
  obtain ⟨ao, cap, rfl, hg⟩ := h.row.slice
  have hc := h.cell
  have HR := hid h.row
  have HG := hid h.good
  have HA := hid hg
  clear h hg
  generalize hm : S.length = m at *
  go_enter Tryd.func87, Tryd.ntmps87
  go_wp2
  go_loop [6] (fun s6 => ∃ j : Nat, j ≤ m ∧ s6 = .int .i64 j ∧ Hid (∀ i x, i < j → S[i]? = some x → x.n ≠ n)) (fun s6 => m - (intOf s6).toNat)
  case atStart => exact ⟨0, Nat.zero_le _, rfl, fun i x hi => by omega⟩
  case round =>
    obtain ⟨j, hj, rfl, HJ⟩ := hrel
    by_cases hlt : j < m
    · obtain ⟨g, rfl⟩ := HA.out j hlt
      have hjl : j < S.length := by omega
      obtain ⟨c0, c1⟩ := HR.out.cells (List.getElem?_eq_getElem hjl)
      have HX := hid (And.intro (List.getElem?_eq_getElem hjl) (List.getElem_mem hjl))
      generalize S[j] = x at *
      have hltz : (j : Int) < (m : Int) := by omega
      by_cases hxn : x.n = n
      · subst hxn
        have HW := hid (whB_of HG.out HX.out.2)
        go_wp2
        go_ret2
        exact ⟨by rw [HW.out.1, HW.out.2]; rfl, rfl⟩
      · have hne : (x.n == n) = false := by simpa using hxn
        have HN := hid hxn
        clear hxn
        go_wp2
        go_round
        case rel => exact ⟨j + 1, by omega, by go_num, fun i y hi hy => by
          by_cases e : i = j
          · subst e
            rw [HX.out.1] at hy
            cases hy
            exact HN.out
          · exact HJ.out i y (by omega) hy⟩
        case measure => simp [intOf]; omega
    · obtain rfl : j = m := by omega
      have HW := hid (whF_no (S := S) (n := n) fun y hy => by
        obtain ⟨i, hi, e⟩ := List.mem_iff_getElem.1 hy
        exact HJ.out i y (by omega) (by rw [List.getElem?_eq_getElem hi, e]))
      go_wp2
      go_ret2
      exact ⟨by unfold whI whB; rw [HW.out]; rfl, rfl⟩
/-! ### Put -/
set_option maxHeartbeats 1000000 in
theorem rput_any (k : Nat) (v : Value) (S : St) (p n : Int) (w : World) (h : RtH k v S w) (hn : I64 n) (hl : S.length ≤ 1000) :
    Calls Tryd.prog 82 #[.pointer (some ⟨k, 0, none⟩), .int .i64 p, .int .i64 n] w fun e w' => e = .returned (.int .i64 (putE S p n)) ∧ GoesR w k v (putS S p n) w' := by
  have HH := hid h
  have HW := hid (rwhere_any k v S n w h hl)
  rcases putE_cases S p n with ⟨e1, e2, h0, h1, h2⟩ | ⟨e1, e2, h0, h1, h2⟩ | ⟨e1, e2, h0⟩ <;> rw [e1, e2]
  · obtain ⟨P, rfl⟩ := Int.eq_ofNat_of_zero_le h0
    obtain ⟨v', w', r1, r2, r3, r4⟩ := append_in w v S ⟨P, n⟩ h.row (by omega)
    have hk : w'.heap[k]? = w.heap[k]? := r3.block k h.lt fun e => h.ne e.symm
    have hc := h.cell
    have hc' : w'.cell? ⟨k, 0, none⟩ = some v := by rw [cell_block hk]; exact hc
    have hf' : w'.frozen? ⟨k, 0, none⟩ = false := by rw [frozen_block hk]; exact h.frozen
    have HK : Hid (GoesR w k v (S ++ [⟨(P : Int).toNat, n⟩]) (w'.setCell ⟨k, 0, none⟩ v')) := by
      have := h.hang r2 r3 r4 (good_add (x := ⟨P, n⟩) h.good (by simp only; omega) hn (whB_none h2))
      exact this
    have HR := hid r1
    obtain ⟨ao, cap, ev, _⟩ := r2.slice
    subst ev
    rw [h2] at HW
    generalize whI S n = wi at *
    generalize hz : (S ++ [(⟨P, n⟩ : In)]).length = z at *
    have hp2 : ¬ ((255 : Int) < (P : Int)) := by omega
    have hp3 : ¬ ((P : Int) < 0) := by omega
    clear r1 r2 r3 r4 hk h h0 h2 e1 e2
    go_enter Tryd.func82, Tryd.ntmps82
    go_wp2_with (first | (go_at_call 87; refine Calls.mono HW.out ?_; rintro e w1 ⟨rfl, rfl⟩) | (at_builtin; (with_reducible refine wpList_append_run rfl (.tmp 26) (.tmp 30) 67 67 rfl v (.slice (some ⟨_, 0, none⟩) 1 1) _ _ rfl rfl HR.out ?_)))
    go_ret
    exact ⟨rfl, HK.out⟩
  · rw [h2] at HW
    generalize whI S n = wi at *
    have hp2 : ¬ ((255 : Int) < p) := by omega
    have hp3 : ¬ (p < 0) := by omega
    clear h h0 h2 e1 e2
    go_enter Tryd.func82, Tryd.ntmps82
    go_wp2_with (go_at_call 87; refine Calls.mono HW.out ?_; rintro e w1 ⟨rfl, rfl⟩)
    go_ret
    exact ⟨rfl, GoesR.same HH.out (Below.refl _ _)⟩
  · clear h e1 e2 HW
    by_cases hp : p < 0
    · clear h0
      go_enter Tryd.func82, Tryd.ntmps82
      go_wp2
      go_ret
      exact ⟨rfl, GoesR.same HH.out (Below.refl _ _)⟩
    · have hp2 : (255 : Int) < p := by omega
      clear h0
      go_enter Tryd.func82, Tryd.ntmps82
      go_wp2
      go_ret
      exact ⟨rfl, GoesR.same HH.out (Below.refl _ _)⟩
end Go.Proofs.YtchamgecalfmpaaDoor

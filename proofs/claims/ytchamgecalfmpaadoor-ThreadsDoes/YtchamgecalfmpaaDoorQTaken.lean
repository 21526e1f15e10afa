/-
  Which lines are not empty, as bits of four words, without and with the program; what taken of a queue's lines answers; no condition of ours.
-/
import Derived.Test.YtchamgecalfmpaaDoorQEnter
namespace Go.Proofs.YtchamgecalfmpaaDoor
open Go.RowKit Go.Deep Go.Shelf

/-- Word k of the bits below m that f says. -/
def wd (f : Nat → Bool) : Nat → Int → Int
  | 0, _ => 0
  | m + 1, k => setI (f m) (wd f m k) m k
theorem wd_word (f : Nat → Bool) (k : Int) : ∀ m, Word (wd f m k)
  | 0 => ⟨by simp [wd], by simp [wd]⟩
  | m + 1 => set_word _ _ _ _ (wd_word f k m)
theorem hasI_zero (n : Int) : hasI 0 0 0 0 n = false := by
  have : ∀ k, wordAt 0 0 0 0 k = 0 := fun k => by unfold wordAt; split <;> (try split) <;> (try split) <;> rfl
  unfold hasI hasN
  rw [this]
  simp
theorem wd_has (f : Nat → Bool) (i : Nat) (hi : i < 256) : ∀ m, m ≤ 256 → hasI (wd f m 0) (wd f m 1) (wd f m 2) (wd f m 3) (i : Int) = (decide (i < m) && f i)
  | 0, _ => by
    unfold wd
    rw [hasI_zero]
    simp
  | m + 1, hm => by
    have ih := wd_has f i hi m (by omega)
    unfold wd
    rw [has_set (f m) _ _ _ _ (m : Int) (i : Int) (wd_word f 0 m) (wd_word f 1 m) (wd_word f 2 m) (wd_word f 3 m) (by omega) (by omega) (by omega) (by omega), ih]
    by_cases e : i = m
    · subst e
      simp
    · have e2 : ¬ ((i : Int) = (m : Int)) := by omega
      rw [if_neg e2]
      by_cases h : i < m
      · have h2 : i < m + 1 := by omega
        simp [h, h2]
      · have h2 : ¬ i < m + 1 := by omega
        simp [h, h2]
/-- Words with the same bits are the same. -/
theorem word_ext {a b : Int} (ha : Word a) (hb : Word b) (h : ∀ j, j < 64 → a.toNat.testBit j = b.toNat.testBit j) : a = b := by
  obtain ⟨a0, a1⟩ := ha
  obtain ⟨b0, b1⟩ := hb
  have : a.toNat = b.toNat := by
    apply Nat.eq_of_testBit_eq
    intro j
    by_cases hj : j < 64
    · exact h j hj
    · rw [testBit_big _ j (by omega) (by omega), testBit_big _ j (by omega) (by omega)]
  omega
theorem bits_ext {a0 a1 a2 a3 b0 b1 b2 b3 : Int} (wa : Word a0 ∧ Word a1 ∧ Word a2 ∧ Word a3) (wb : Word b0 ∧ Word b1 ∧ Word b2 ∧ Word b3) (h : ∀ i : Nat, i < 256 → hasI a0 a1 a2 a3 (i : Int) = hasI b0 b1 b2 b3 (i : Int)) : a0 = b0 ∧ a1 = b1 ∧ a2 = b2 ∧ a3 = b3 := by
  obtain ⟨x0, x1, x2, x3⟩ := wa
  obtain ⟨y0, y1, y2, y3⟩ := wb
  have key : ∀ (k : Nat) (a b : Int), k < 4 → Word a → Word b → wordAt a0 a1 a2 a3 k = a → wordAt b0 b1 b2 b3 k = b → a = b := by
    intro k a b hk ha hb ea eb
    refine word_ext ha hb fun j hj => ?_
    have := h (64 * k + j) (by omega)
    rw [hasI_in _ _ _ _ _ k a (by omega) (by omega) hk ea, hasI_in _ _ _ _ _ k b (by omega) (by omega) hk eb] at this
    rw [show ((((64 * k + j : Nat) : Int)) % 64).toNat = j by omega] at this
    exact this
  exact ⟨key 0 a0 b0 (by omega) x0 y0 rfl rfl, key 1 a1 b1 (by omega) x1 y1 rfl rfl, key 2 a2 b2 (by omega) x2 y2 rfl rfl, key 3 a3 b3 (by omega) x3 y3 rfl rfl⟩
theorem topTo_congr {f g : Nat → Bool} : ∀ m, (∀ k, k < m → f k = g k) → topTo f m = topTo g m
  | 0, _ => rfl
  | m + 1, h => by
    unfold topTo
    rw [h m (by omega), topTo_congr m fun k hk => h k (by omega)]
/-- The words of all bits that f says. -/
def wdAll (f : Nat → Bool) : Value := .agg #[.int .u64 (wd f 256 0), .int .u64 (wd f 256 1), .int .u64 (wd f 256 2), .int .u64 (wd f 256 3)]
theorem top_wd (f : Nat → Bool) : topI (wd f 256 0) (wd f 256 1) (wd f 256 2) (wd f 256 3) = topTo f 256 := by
  unfold topI
  refine topTo_congr 256 fun k hk => ?_
  have := wd_has f k hk 256 (by omega)
  unfold hasI at this
  have h1 : (0 : Int) ≤ (k : Int) := by omega
  have h2 : (k : Int) < 256 := by omega
  simpa [h1, h2, hk] using this
theorem hid {p : Prop} (h : p) : Hid p := h
/-- A block of four words. -/
def objB (x0 x1 x2 x3 : Int) : Obj := .cells #[.int .u64 x0, .int .u64 x1, .int .u64 x2, .int .u64 x3] 93
theorem objB_cells {w : World} {g : Nat} {x0 x1 x2 x3 : Int} (h : w.heap[g]? = some (objB x0 x1 x2 x3)) : w.cell? ⟨g, 0, none⟩ = some (.int .u64 x0) ∧ w.cell? ⟨g, 1, none⟩ = some (.int .u64 x1) ∧ w.cell? ⟨g, 2, none⟩ = some (.int .u64 x2) ∧ w.cell? ⟨g, 3, none⟩ = some (.int .u64 x3) ∧ w.frozen? ⟨g, 0, none⟩ = false ∧ w.frozen? ⟨g, 1, none⟩ = false ∧ w.frozen? ⟨g, 2, none⟩ = false ∧ w.frozen? ⟨g, 3, none⟩ = false := by
  unfold objB at h
  refine ⟨?_, ?_, ?_, ?_, ?_, ?_, ?_, ?_⟩ <;> simp [World.cell?, World.frozen?, h]
/-- Four words are written. -/
def sets4 (w : World) (g : Nat) (y0 y1 y2 y3 : Int) : World := (((w.setCell ⟨g, 0, none⟩ (.int .u64 y0)).setCell ⟨g, 1, none⟩ (.int .u64 y1)).setCell ⟨g, 2, none⟩ (.int .u64 y2)).setCell ⟨g, 3, none⟩ (.int .u64 y3)
theorem sets4_at {w : World} {g : Nat} {x0 x1 x2 x3 : Int} (h : w.heap[g]? = some (objB x0 x1 x2 x3)) (y0 y1 y2 y3 : Int) : (sets4 w g y0 y1 y2 y3).heap[g]? = some (objB y0 y1 y2 y3) := by
  unfold objB at h ⊢
  simp only [sets4, World.setCell, Array.getElem?_modify, h, Option.map_some, if_true]
  simp
theorem sets4_turn (F : Nat → Prop) (w : World) (g : Nat) (y0 y1 y2 y3 : Int) (h : F g) : Turn F w (sets4 w g y0 y1 y2 y3) :=
  (((Turn.setCell F _ ⟨g, 0, none⟩ _ h).trans (Turn.setCell F _ ⟨g, 1, none⟩ _ h) fun _ h => .inl h).trans (Turn.setCell F _ ⟨g, 2, none⟩ _ h) fun _ h => .inl h).trans (Turn.setCell F _ ⟨g, 3, none⟩ _ h) fun _ h => .inl h
theorem taken_step {F : Nat → Bool} {m r : Nat} {w u : World} {x0 x1 x2 x3 y0 y1 y2 y3 z0 z1 z2 z3 : Int} (bel : Below r w u) (hb : u.heap[r + 1]? = some (objB x0 x1 x2 x3)) (hz : u.heap[r]? = some (objB z0 z1 z2 z3))
    (he : wd F (m + 1) 0 = y0 ∧ wd F (m + 1) 1 = y1 ∧ wd F (m + 1) 2 = y2 ∧ wd F (m + 1) 3 = y3) :
    Below r w (sets4 u (r + 1) y0 y1 y2 y3) ∧ (sets4 u (r + 1) y0 y1 y2 y3).heap[r + 1]? = some (objB (wd F (m + 1) 0) (wd F (m + 1) 1) (wd F (m + 1) 2) (wd F (m + 1) 3)) ∧ ∃ z0 z1 z2 z3, (sets4 u (r + 1) y0 y1 y2 y3).heap[r]? = some (objB z0 z1 z2 z3) := by
  obtain ⟨rfl, rfl, rfl, rfl⟩ := he
  have t := sets4_turn (fun x => x = r + 1) u (r + 1) (wd F (m + 1) 0) (wd F (m + 1) 1) (wd F (m + 1) 2) (wd F (m + 1) 3) rfl
  have hr := (Array.getElem?_eq_some_iff.1 hz).1
  exact ⟨t.below bel (fun x hx => by omega) (by omega), sets4_at hb _ _ _ _, z0, z1, z2, z3, (t.block r hr (by omega)).trans hz⟩
set_option maxHeartbeats 4000000 in
set_option maxRecDepth 100000 in
theorem taken_any (q b : Nat) (vs : Nat → Value) (M : Nat → List Int) (f : Int → Option Int) (w : World) (h : QuP q b vs M f w) :
    Calls Tryd.prog 69 #[.pointer (some ⟨q, 0, none⟩)] w fun e w' => e = .returned (wdAll fun p => decide (0 < (M p).length)) ∧ Below w.heap.size w w' := by
  have HQ : Hid (QuP q b vs M f w) := h
  generalize hF : (fun p => decide (0 < (M p).length)) = F
  have HF : Hid (∀ p, F p = decide (0 < (M p).length)) := fun p => by rw [← hF]
  clear h hF
  have H0 : Hid (Below w.heap.size w ((w.alloc (objB 0 0 0 0)).alloc (objB 0 0 0 0)) ∧ ((w.alloc (objB 0 0 0 0)).alloc (objB 0 0 0 0)).heap[w.heap.size + 1]? = some (objB 0 0 0 0) ∧ ∃ z0 z1 z2 z3, ((w.alloc (objB 0 0 0 0)).alloc (objB 0 0 0 0)).heap[w.heap.size]? = some (objB z0 z1 z2 z3)) :=
    ⟨Below.then (below_new w _) (below_new _ _) (by simp), by have := blk_alloc_new (w.alloc (objB 0 0 0 0)) (objB 0 0 0 0); simpa using this, 0, 0, 0, 0, (blk_alloc_lt _ _ _ (by simp)).trans (blk_alloc_new _ _)⟩
  go_enter Tryd.func69, Tryd.ntmps69
  go_wp2_with fail
  generalize hr : w.heap.size = r at *
  go_loopw [4, 5] (fun _ s5 wr => ∃ m : Nat, m ≤ 256 ∧ s5 = .int .i64 m ∧ Below r w wr ∧ wr.heap[r + 1]? = some (objB (wd F m 0) (wd F m 1) (wd F m 2) (wd F m 3)) ∧ ∃ z0 z1 z2 z3, wr.heap[r]? = some (objB z0 z1 z2 z3)) (fun _ s5 _ => 256 - (intOf s5).toNat)
  case atStart => exact ⟨0, Nat.zero_le _, rfl, H0.out⟩
  case round =>
    obtain ⟨m, hm, rfl, bel, hb, z0, z1, z2, z3, hz⟩ := hrel
    obtain ⟨c0, c1, c2, c3, f0, f1, f2, f3⟩ := objB_cells hb
    by_cases hlt : m < 256
    · have hQ := HQ.out.below (hr ▸ bel)
      obtain ⟨ao, cap, ev, _⟩ := (hQ.rows m hlt).slice
      have hc := hQ.cell hlt
      rw [ev] at hc
      have hFm := HF.out m
      generalize hl : (M m).length = l at *
      have hd : decide (0 < l) = F m := by rw [hFm]
      have hmz : (m : Int) < 256 := by omega
      have w0 := wd_word F 0 m
      have w1 := wd_word F 1 m
      have w2 := wd_word F 2 m
      have w3 := wd_word F 3 m
      have HS := fun u => set_any (F m) (wd F m 0) (wd F m 1) (wd F m 2) (wd F m 3) m u w0 w1 w2 w3 (by omega) hmz
      have HB : Hid (Below r w wr) := bel
      have HH : Hid (wr.heap[r + 1]? = some (objB (wd F m 0) (wd F m 1) (wd F m 2) (wd F m 3))) := hb
      have HZ : Hid (wr.heap[r]? = some (objB z0 z1 z2 z3)) := hz
      have HE : Hid (wd F (m + 1) 0 = setI (F m) (wd F m 0) m 0 ∧ wd F (m + 1) 1 = setI (F m) (wd F m 1) m 1 ∧ wd F (m + 1) 2 = setI (F m) (wd F m 2) m 2 ∧ wd F (m + 1) 3 = setI (F m) (wd F m 3) m 3) := ⟨rfl, rfl, rfl, rfl⟩
      have HS' := hid HS
      clear HS w0 w1 w2 w3 bel hb hz hQ ev hFm hl
      generalize setI (F m) (wd F m 0) m 0 = y0 at *
      generalize setI (F m) (wd F m 1) m 1 = y1 at *
      generalize setI (F m) (wd F m 2) m 2 = y2 at *
      generalize setI (F m) (wd F m 3) m 3 = y3 at *
      generalize wd F m 0 = x0 at *
      generalize wd F m 1 = x1 at *
      generalize wd F m 2 = x2 at *
      generalize wd F m 3 = x3 at *
      generalize F m = z at *
      go_wp2_with fail
      go_region_with (go_at_call 80; (with_reducible refine Calls.mono (HS'.out _) ?_); rintro e u ⟨rfl, bu⟩; have hb2 : u.heap[r + 1]? = some (objB x0 x1 x2 x3) := (bu.block (r + 1) (Array.getElem?_eq_some_iff.1 HH.out).1).trans HH.out; have hz2 : Hid (u.heap[r]? = some (objB z0 z1 z2 z3)) := (bu.block r (Array.getElem?_eq_some_iff.1 HZ.out).1).trans HZ.out; have HB2 : Hid (Below r w u) := Below.then HB.out ⟨bu.os, bu.tape, bu.output, bu.size, bu.block⟩ (Nat.le_of_lt (Array.getElem?_eq_some_iff.1 HZ.out).1); obtain ⟨d0, d1, d2, d3, g0, g1, g2, g3⟩ := objB_cells hb2; have HN : Hid (Below r w (sets4 u (r + 1) y0 y1 y2 y3) ∧ (sets4 u (r + 1) y0 y1 y2 y3).heap[r + 1]? = some (objB (wd F (m + 1) 0) (wd F (m + 1) 1) (wd F (m + 1) 2) (wd F (m + 1) 3)) ∧ ∃ z0 z1 z2 z3, (sets4 u (r + 1) y0 y1 y2 y3).heap[r]? = some (objB z0 z1 z2 z3)) := taken_step HB2.out hb2 hz2.out HE.out; unfold sets4 at HN; clear hb2 bu)
      all_goals
        go_wp2
        go_round
        case rel => exact ⟨m + 1, by omega, by go_num, HN.out⟩
        case measure => simp [intOf]; omega
    · obtain rfl : m = 256 := by omega
      obtain ⟨e0, e1, e2, e3, g0, g1, g2, g3⟩ := objB_cells hz
      have HB : Hid (Below r w wr) := bel
      have HL : Hid (∀ a b c d, Below r w (sets4 wr r a b c d)) := fun a b c d => (sets4_turn (fun x => x = r) wr r a b c d rfl).below bel (fun x hx => by rw [hx]; exact Nat.le_refl _) (Nat.le_of_lt (Array.getElem?_eq_some_iff.1 hz).1)
      unfold sets4 at HL
      have HE : Hid (wdAll F = .agg #[.int .u64 (wd F 256 0), .int .u64 (wd F 256 1), .int .u64 (wd F 256 2), .int .u64 (wd F 256 3)]) := rfl
      clear bel hb hz
      generalize wd F 256 0 = x0 at *
      generalize wd F 256 1 = x1 at *
      generalize wd F 256 2 = x2 at *
      generalize wd F 256 3 = x3 at *
      go_wp2
      rw [HE.out, hr]
      exact bodyPost_ret (v := .agg #[.int .u64 x0, .int .u64 x1, .int .u64 x2, .int .u64 x3]) (by simp [results, Tryd.results69, go_sem, e0, e1, e2, e3]) rfl ⟨rfl, HL.out _ _ _ _⟩
end Go.Proofs.YtchamgecalfmpaaDoor

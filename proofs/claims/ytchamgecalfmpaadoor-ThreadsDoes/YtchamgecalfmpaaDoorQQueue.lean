/-
  A queue as a thing in blocks of its own; what New, Put, Take, Next, Turn, Where, Line and Bits of package ready answer and leave; no condition but that the queue is small.
-/
import Derived.Test.YtchamgecalfmpaaDoorQTaken
namespace Go.Proofs.YtchamgecalfmpaaDoor
open Go.RowKit Go.Deep Go.Shelf

/-- The queue in block q holds S; F are its blocks. -/
def QuH (q : Nat) (F : Nat → Prop) (S : St) (w : World) : Prop := ∃ b vs, QuP q b vs (lineN S) (whF S) w ∧ Good S ∧ ∀ x, F x ↔ fpQ q b vs x
def quT (q : Nat) (F : Nat → Prop) (S : St) : Th where
  F := F
  H := QuH q F S
  lt := fun _ ⟨_, _, h, _, e⟩ x hx => h.fp_lt x ((e x).1 hx)
  keep := fun _ _ ⟨b, vs, h, g, e⟩ k => ⟨b, vs, h.keep fun x hx => k x ((e x).2 hx), g, e⟩
theorem QuH.good {q : Nat} {F : Nat → Prop} {S : St} {w : World} (h : QuH q F S w) : Good S := by
  obtain ⟨_, _, _, g, _⟩ := h
  exact g
theorem QuH.below {q : Nat} {F : Nat → Prop} {S : St} {w w' : World} (h : QuH q F S w) (k : Below w.heap.size w w') : QuH q F S w' := (quT q F S).below h k
/-- What a call leaves: the queue holds S, in blocks that were its own, or new. -/
def Goes (w : World) (q : Nat) (F : Nat → Prop) (S : St) (w' : World) : Prop := ∃ F', QuH q F' S w' ∧ Turn F w w' ∧ Out F F' w
theorem Goes.same {w w' : World} {q : Nat} {F : Nat → Prop} {S : St} (h : QuH q F S w) (b : Below w.heap.size w w') : Goes w q F S w' := ⟨F, h.below b, Turn.of b F, Out.refl _ _⟩
theorem goes_of {w w' : World} {q b : Nat} {F : Nat → Prop} {vs : Nat → Value} {S : St} {M : Nat → List Int} {f : Int → Option Int} (e : ∀ x, F x ↔ fpQ q b vs x) (h : GoesP w q b vs M f w') (g : Good S) (eM : ∀ p, p < 256 → lineN S p = M p) (ef : ∀ n, whF S n = f n) : Goes w q F S w' := by
  obtain ⟨vs', h1, h2, h3⟩ := h
  obtain rfl : F = fpQ q b vs := funext fun x => propext (e x)
  exact ⟨fpQ q b vs', ⟨b, vs', h1.congr eM ef, g, fun _ => Iff.rfl⟩, h2, h3⟩
set_option maxRecDepth 100000 in
theorem zero_queue : ∃ zs : Array Value, zs.size = 257 ∧ (∀ p, p < 256 → zs[p]? = some (.slice none 0 0)) ∧ ∀ w, (zeroValue 87).run Tryd.prog w = .ok (.agg zs) w := by
  refine ⟨(List.replicate 256 (Value.slice none 0 0) ++ [Value.map none]).toArray, by simp, fun p hp => ?_, fun w => by kernel_rfl⟩
  rw [List.getElem?_toArray, List.getElem?_append_left (by simpa using hp), List.getElem?_replicate, if_pos hp]
theorem new_queue (w : World) (zs : Array Value) (h0 : zs.size = 257) (h1 : ∀ p, p < 256 → zs[p]? = some (.slice none 0 0)) :
    QuP (w.heap.size + 1) w.heap.size (fun _ => .slice none 0 0) (lineN []) (whF []) ((w.alloc (.map #[] 0)).alloc (.cells (zs.setIfInBounds 256 (.map (some w.heap.size))) 87)) := by
  have hs : (w.alloc (.map #[] 0)).heap.size = w.heap.size + 1 := by simp
  refine ⟨⟨zs.setIfInBounds 256 (.map (some w.heap.size)), ?_, by simpa using h0, fun p hp => ?_, ?_⟩, fun p hp => rowI_nil _, ?_, fun p p' x _ _ hx => by simp [Value.ownBlock] at hx, fun p _ => by simp [Value.ownBlock], by omega⟩
  · rw [← hs]
    exact blk_alloc_new _ _
  · have e : ¬ 256 = p := by omega
    rw [Array.getElem?_setIfInBounds, if_neg e]
    exact h1 p hp
  · rw [Array.getElem?_setIfInBounds, if_pos rfl, if_pos (by omega)]
  · exact (MapIs.new w).of_block (blk_alloc_lt _ _ _ (by simp))
set_option maxHeartbeats 1000000 in
theorem new_p (w : World) : Calls Tryd.prog 30 #[] w fun e w' => e = .returned (.pointer (some ⟨w.heap.size + 1, 0, none⟩)) ∧ QuP (w.heap.size + 1) w.heap.size (fun _ => .slice none 0 0) (lineN []) (whF []) w' ∧ Below w.heap.size w w' := by
  have hmm := @run_makeMap Tryd.prog
  obtain ⟨zs, h0, h1, hz⟩ := zero_queue
  have hlt : ¬ zs.size < 257 := by omega
  have HK : Hid (QuP (w.heap.size + 1) w.heap.size (fun _ => .slice none 0 0) (lineN []) (whF []) ((w.alloc (.map #[] 0)).alloc (.cells (zs.setIfInBounds 256 (.map (some w.heap.size))) 87)) ∧ Below w.heap.size w ((w.alloc (.map #[] 0)).alloc (.cells (zs.setIfInBounds 256 (.map (some w.heap.size))) 87))) :=
    ⟨new_queue w zs h0 h1, Below.then (below_new _ _) (below_new _ _) (by simp)⟩
  clear h1
  go_enter Tryd.func30, Tryd.ntmps30
  go_wp2
  go_ret
  exact ⟨rfl, HK.out⟩
theorem new_any (w : World) : Calls Tryd.prog 30 #[] w fun e w' => ∃ F, e = .returned (.pointer (some ⟨w.heap.size + 1, 0, none⟩)) ∧ QuH (w.heap.size + 1) F [] w' ∧ Below w.heap.size w w' ∧ ∀ x, F x → w.heap.size ≤ x := by
  refine Calls.mono (new_p w) ?_
  rintro e w' ⟨rfl, h, b⟩
  refine ⟨_, rfl, ⟨_, _, h, good_nil, fun _ => Iff.rfl⟩, b, ?_⟩
  rintro x (rfl | rfl | ⟨p, _, hx⟩)
  · omega
  · exact Nat.le_refl _
  · simp [Value.ownBlock] at hx
set_option maxHeartbeats 4000000 in
theorem put_any (q : Nat) (F : Nat → Prop) (S : St) (p n : Int) (w : World) (h : QuH q F S w) (hn : I64 n) (hl : S.length ≤ 1000) :
    Calls Tryd.prog 71 #[.pointer (some ⟨q, 0, none⟩), .int .i64 p, .int .i64 n] w fun e w' => e = .returned (.int .i64 (putE S p n)) ∧ Goes w q F (putS S p n) w' := by
  have HQ : Hid (QuH q F S w) := h
  obtain ⟨b, vs, h, good, hF⟩ := h
  have hc := h.cellM
  have hlk := h.map.look hn true
  rcases putE_cases S p n with ⟨e1, e2, h0, h1, h2⟩ | ⟨e1, e2, h0, h1, h2⟩ | ⟨e1, e2, h0⟩ <;> rw [e1, e2]
  · have hs : (whF S n).isSome = false := h2
    obtain ⟨w1, hst, m1, g1, _⟩ := h.map.store hn p
    obtain ⟨x1, x2⟩ := h.mapped m1 g1
    obtain ⟨P, rfl⟩ := Int.eq_ofNat_of_zero_le h0
    have HE := hid (enter_any q b vs (lineN S) _ P n w1 x1 (by omega) (Nat.le_trans (line_len S P) hl))
    have HT : Hid (Turn (fpQ q b vs) w w1) := x2
    have HG : Hid (Good S ∧ (∀ y ∈ S, y.n ≠ n) ∧ ∀ x, F x ↔ fpQ q b vs x) := ⟨good, whB_none h2, hF⟩
    rw [hs] at hlk
    clear h good hF m1 g1 x1 x2 h2 hs
    go_enter Tryd.func71, Tryd.ntmps71
    go_wp2_with (first | (go_at_call 76; refine Calls.mono (numberedQ_yes _ _ (by omega) (by omega)) ?_; rintro e w' ⟨rfl, rfl⟩) | (go_at_call 81; refine Calls.mono HE.out ?_; rintro e w2 ⟨rfl, G2⟩))
    go_ret
    obtain ⟨good, hno, hF⟩ := HG.out
    have hp : P < 256 := by omega
    obtain ⟨vs', y1, y2, y3⟩ := G2
    refine ⟨rfl, goes_of hF ⟨vs', y1, HT.out.trans y2 fun x hx => .inl hx, fun x hx => (y3 x hx).imp id fun h1 => Nat.le_trans HT.out.size h1⟩ (good_add (x := ⟨P, n⟩) good hp hn hno) (fun i hi => ?_) (fun m => ?_)⟩
    · rw [line_add]
      unfold updN
      by_cases e : i = P
      · simp [e]
      · simp [e]
    · rw [whF_add hno]
      rfl
  · have hs : (whF S n).isSome = true := h2
    rw [hs] at hlk
    clear h good hF h2 hs
    go_enter Tryd.func71, Tryd.ntmps71
    go_wp2_with (go_at_call 76; refine Calls.mono (numberedQ_yes _ _ (by omega) (by omega)) ?_; rintro e w' ⟨rfl, rfl⟩)
    go_ret
    exact ⟨rfl, Goes.same HQ.out (Below.refl _ _)⟩
  · have H0 : Hid (¬ (0 ≤ p ∧ p < 256)) := h0
    clear h good hF h0 hlk
    go_enter Tryd.func71, Tryd.ntmps71
    go_wp2_with (go_at_call 76; refine Calls.mono (numberedQ_no _ _ H0.out) ?_; rintro e w' ⟨rfl, rfl⟩)
    go_ret
    exact ⟨rfl, Goes.same HQ.out (Below.refl _ _)⟩
/-- Where a number stands in its line. -/
theorem line_at {S : St} (g : Good S) {x : In} (hx : x ∈ S) : ∃ i, (lineN S x.p)[i]? = some x.n ∧ (∀ j, j < i → (lineN S x.p)[j]? ≠ some x.n) ∧ lineN (takeS S x.n) x.p = (lineN S x.p).eraseIdx i := by
  have hm : x.n ∈ lineN S x.p := line_mem.2 ⟨x, hx, rfl, rfl⟩
  obtain ⟨i, hi, e⟩ := List.mem_iff_getElem.1 hm
  have h1 : (lineN S x.p)[i]? = some x.n := by rw [List.getElem?_eq_getElem hi, e]
  refine ⟨i, h1, fun j hj hj2 => ?_, line_take_at g h1⟩
  obtain ⟨hjl, ej⟩ := List.getElem?_eq_some_iff.1 hj2
  exact List.pairwise_iff_getElem.1 (line_one g x.p) j i hjl hi hj (by rw [ej, e])
set_option maxHeartbeats 4000000 in
theorem take_any (q : Nat) (F : Nat → Prop) (S : St) (n : Int) (w : World) (h : QuH q F S w) (hn : I64 n) (hl : S.length ≤ 1000) :
    Calls Tryd.prog 65 #[.pointer (some ⟨q, 0, none⟩), .int .i64 n] w fun e w' => e = .returned (.int .i64 (takeE S n)) ∧ Goes w q F (takeS S n) w' := by
  have HQ : Hid (QuH q F S w) := h
  obtain ⟨b, vs, h, good, hF⟩ := h
  have hc := h.cellM
  have hlk := h.map.look hn true
  unfold takeE
  rcases wh_cases S n with ⟨e1, e2, e3⟩ | ⟨x, hx, rfl, e1, e2, e3⟩ <;> rw [e1]
  · rw [take_none e1, if_neg (by simp)]
    rw [e2] at hlk
    simp only [Option.getD_none, Option.isSome_none] at hlk
    clear h good hF e1 e2 e3
    go_enter Tryd.func65, Tryd.ntmps65
    go_wp2
    go_ret
    exact ⟨rfl, Goes.same HQ.out (Below.refl _ _)⟩
  · rw [if_pos rfl]
    rw [e2] at hlk
    simp only [Option.getD_some, Option.isSome_some] at hlk
    obtain ⟨i, i1, i2, i3⟩ := line_at good hx
    obtain ⟨w1, hst, m1, g1, _⟩ := h.map.drop hn 0
    obtain ⟨x1, x2⟩ := h.mapped m1 g1
    have hp := (good.fit x hx).1
    have HE := hid (leave_any q b vs (lineN S) _ x.p x.n i w1 x1 hp (Nat.le_trans (line_len S x.p) hl) i1 i2)
    have HT : Hid (Turn (fpQ q b vs) w w1) := x2
    have HG : Hid (Good S ∧ x ∈ S ∧ (∀ x, F x ↔ fpQ q b vs x) ∧ lineN (takeS S x.n) x.p = (lineN S x.p).eraseIdx i) := ⟨good, hx, hF, i3⟩
    clear h good hF m1 g1 x1 x2 e1 e2 e3 hx i1 i2 i3
    go_enter Tryd.func65, Tryd.ntmps65
    go_wp2_with (go_at_call 78; refine Calls.mono HE.out ?_; rintro e w2 ⟨rfl, G2⟩)
    go_ret
    obtain ⟨good, hx, hF, i3⟩ := HG.out
    obtain ⟨vs', y1, y2, y3⟩ := G2
    refine ⟨rfl, goes_of hF ⟨vs', y1, HT.out.trans y2 fun x hx => .inl hx, fun x hx => (y3 x hx).imp id fun h1 => Nat.le_trans HT.out.size h1⟩ (good_take good x.n) (fun j hj => ?_) (fun m => ?_)⟩
    · unfold updN
      by_cases e : j = x.p
      · rw [if_pos e, e, i3]
      · rw [if_neg e, line_take_other good hx e]
    · rw [whF_take good]
      rfl
end Go.Proofs.YtchamgecalfmpaaDoor

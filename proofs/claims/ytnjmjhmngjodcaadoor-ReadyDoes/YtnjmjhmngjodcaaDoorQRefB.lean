/-
  What Bits of the document's queue answers; the document's calls among things that lie apart; no condition but that the queue is small.
-/
import Derived.Test.YtnjmjhmngjodcaaDoorQRefM
import Derived.Test.YtnjmjhmngjodcaaDoorWRefSet
namespace Go.Proofs.YtnjmjhmngjodcaaDoor
open Go.RowKit Go.Deep Go.Shelf

/-- Word k of the bits of those in S. -/
def wf (S : St) (k : Int) : Int := S.foldl (fun b x => setI true b x.p k) 0
theorem wf_add (S : St) (x : In) (k : Int) : wf (S ++ [x]) k = setI true (wf S k) x.p k := by
  unfold wf
  rw [List.foldl_append]
  rfl
theorem wf_facts (g : St) : (∀ x ∈ g, x.p < 256) → (∀ k, Word (wf g k)) ∧ ∀ i : Nat, i < 256 → hasI (wf g 0) (wf g 1) (wf g 2) (wf g 3) (i : Int) = occ g i := by
  induction hn : g.length generalizing g with
  | zero =>
    intro _
    obtain rfl := List.length_eq_zero_iff.1 hn
    exact ⟨fun k => ⟨by simp [wf], by simp [wf]⟩, fun i _ => by
      unfold wf
      simp only [List.foldl_nil]
      rw [hasI_zero]
      rfl⟩
  | succ n ih =>
    intro h
    obtain ⟨S, x, rfl⟩ : ∃ S x, g = S ++ [x] := ⟨g.dropLast, g.getLast (fun e => by rw [e] at hn; simp at hn), (List.dropLast_concat_getLast _).symm⟩
    obtain ⟨h1, h2⟩ := ih S (by simpa using hn) fun y hy => h y (List.mem_append_left _ hy)
    have hx := h x (by simp)
    refine ⟨fun k => by rw [wf_add]; exact set_word _ _ _ _ (h1 k), fun i hi => ?_⟩
    rw [wf_add, wf_add, wf_add, wf_add, has_set true _ _ _ _ (x.p : Int) (i : Int) (h1 0) (h1 1) (h1 2) (h1 3) (by omega) (by omega) (by omega) (by omega), h2 i hi]
    unfold occ
    rw [List.any_append]
    by_cases e : i = x.p
    · subst e
      simp
    · have e2 : ¬ ((i : Int) = (x.p : Int)) := by omega
      have e3 : (x.p == i) = false := by rw [beq_eq_false_iff_ne]; omega
      rw [if_neg e2]
      simp [e3]
theorem wf_wd {S : St} (g : Good S) : wdAll (occ S) = .agg #[.int .u64 (wf S 0), .int .u64 (wf S 1), .int .u64 (wf S 2), .int .u64 (wf S 3)] := by
  obtain ⟨h1, h2⟩ := wf_facts S fun x hx => (g.fit x hx).1
  obtain ⟨e0, e1, e2, e3⟩ := bits_ext (a0 := wd (occ S) 256 0) (a1 := wd (occ S) 256 1) (a2 := wd (occ S) 256 2) (a3 := wd (occ S) 256 3) ⟨wd_word _ _ _, wd_word _ _ _, wd_word _ _ _, wd_word _ _ _⟩ ⟨h1 0, h1 1, h1 2, h1 3⟩ fun i hi => by
    rw [wd_has _ i hi 256 (by omega), h2 i hi]
    simp [hi]
  unfold wdAll
  rw [e0, e1, e2, e3]
theorem set4_step {r : Nat} {w u : World} {x0 x1 x2 x3 y0 y1 y2 y3 z0 z1 z2 z3 : Int} (bel : Below r w u) (hb : u.heap[r + 1]? = some (objB x0 x1 x2 x3)) (hz : u.heap[r]? = some (objB z0 z1 z2 z3)) :
    Below r w (sets4 u (r + 1) y0 y1 y2 y3) ∧ (sets4 u (r + 1) y0 y1 y2 y3).heap[r + 1]? = some (objB y0 y1 y2 y3) ∧ ∃ z0 z1 z2 z3, (sets4 u (r + 1) y0 y1 y2 y3).heap[r]? = some (objB z0 z1 z2 z3) := by
  have t := sets4_turn (fun x => x = r + 1) u (r + 1) y0 y1 y2 y3 rfl
  have hr := (Array.getElem?_eq_some_iff.1 hz).1
  exact ⟨t.below bel (fun x hx => by omega) (by omega), sets4_at hb _ _ _ _, z0, z1, z2, z3, (t.block r hr (by omega)).trans hz⟩
set_option maxHeartbeats 4000000 in
set_option maxRecDepth 100000 in
theorem rbits_any (k : Nat) (v : Value) (S : St) (w : World) (h : RtH k v S w) (hl : S.length ≤ 1000) :
    Calls Tryd.prog 25 #[.pointer (some ⟨k, 0, none⟩)] w fun e w' => e = .returned (wdAll (occ S)) ∧ Below w.heap.size w w' := by
  obtain ⟨ao, cap, ev, hg⟩ := h.row.slice
  subst ev
  have HH := hid h
  have HA := hid hg
  clear h hg
  generalize hm : S.length = m at *
  have H0 : Hid (Below w.heap.size w ((w.alloc (objB 0 0 0 0)).alloc (objB 0 0 0 0)) ∧ ((w.alloc (objB 0 0 0 0)).alloc (objB 0 0 0 0)).heap[w.heap.size + 1]? = some (objB 0 0 0 0) ∧ ∃ z0 z1 z2 z3, ((w.alloc (objB 0 0 0 0)).alloc (objB 0 0 0 0)).heap[w.heap.size]? = some (objB z0 z1 z2 z3)) :=
    ⟨Below.then (below_new w _) (below_new _ _) (by simp), by have := blk_alloc_new (w.alloc (objB 0 0 0 0)) (objB 0 0 0 0); simpa using this, 0, 0, 0, 0, (blk_alloc_lt _ _ _ (by simp)).trans (blk_alloc_new _ _)⟩
  go_enter Tryd.func25, Tryd.ntmps25
  go_wp2_with fail
  generalize hr : w.heap.size = r at *
  go_loopw [4] (fun s4 wr => ∃ j : Nat, j ≤ m ∧ s4 = .int .i64 j ∧ Below r w wr ∧ wr.heap[r + 1]? = some (objB (wf (S.take j) 0) (wf (S.take j) 1) (wf (S.take j) 2) (wf (S.take j) 3)) ∧ ∃ z0 z1 z2 z3, wr.heap[r]? = some (objB z0 z1 z2 z3)) (fun s4 _ => m - (intOf s4).toNat)
  case atStart => exact ⟨0, Nat.zero_le _, rfl, H0.out⟩
  case round =>
    clear H0
    obtain ⟨j, hj, rfl, bel, hb, z0, z1, z2, z3, hz⟩ := hrel
    obtain ⟨c0, c1, c2, c3, f0, f1, f2, f3⟩ := objB_cells hb
    have h1 := HH.out.below (hr ▸ bel)
    have hc := h1.cell
    by_cases hlt : j < m
    · obtain ⟨g, rfl⟩ := HA.out j hlt
      have hjl : j < S.length := by omega
      obtain ⟨d0, d1⟩ := h1.row.cells (List.getElem?_eq_getElem hjl)
      have hmem := List.getElem_mem hjl
      have hTk := List.take_succ_eq_append_getElem hjl
      generalize S[j] = x at *
      have hxp := (HH.out.good.fit x hmem).1
      have hwf := (wf_facts (S.take j) fun y hy => (HH.out.good.fit y (List.mem_of_mem_take hy)).1).1
      have hltz : (j : Int) < (m : Int) := by omega
      have HS := hid (fun u => setR_any true (wf (S.take j) 0) (wf (S.take j) 1) (wf (S.take j) 2) (wf (S.take j) 3) (x.p : Int) u (hwf 0) (hwf 1) (hwf 2) (hwf 3) (by omega) (by omega))
      have HE : Hid (∀ k, wf (S.take (j + 1)) k = setI true (wf (S.take j) k) x.p k) := fun k => by rw [hTk, wf_add]
      have HB := hid bel
      have HH1 := hid hb
      have HZ := hid hz
      have HE4 : Hid (wf (S.take (j + 1)) 0 = setI true (wf (S.take j) 0) x.p 0 ∧ wf (S.take (j + 1)) 1 = setI true (wf (S.take j) 1) x.p 1 ∧ wf (S.take (j + 1)) 2 = setI true (wf (S.take j) 2) x.p 2 ∧ wf (S.take (j + 1)) 3 = setI true (wf (S.take j) 3) x.p 3) := ⟨HE.out 0, HE.out 1, HE.out 2, HE.out 3⟩
      clear bel hb hz h1 hmem hTk hwf HE
      generalize setI true (wf (S.take j) 0) x.p 0 = y0 at *
      generalize setI true (wf (S.take j) 1) x.p 1 = y1 at *
      generalize setI true (wf (S.take j) 2) x.p 2 = y2 at *
      generalize setI true (wf (S.take j) 3) x.p 3 = y3 at *
      generalize wf (S.take j) 0 = x0 at *
      generalize wf (S.take j) 1 = x1 at *
      generalize wf (S.take j) 2 = x2 at *
      generalize wf (S.take j) 3 = x3 at *
      go_wp2_with fail
      go_region_with (go_at_call 34; (with_reducible refine Calls.mono (HS.out _) ?_); rintro e u ⟨rfl, bu⟩; have hb2 : u.heap[r + 1]? = some (objB x0 x1 x2 x3) := (bu.block (r + 1) (Array.getElem?_eq_some_iff.1 HH1.out).1).trans HH1.out; have hz2 : u.heap[r]? = some (objB z0 z1 z2 z3) := (bu.block r (Array.getElem?_eq_some_iff.1 HZ.out).1).trans HZ.out; have HB2 : Below r w u := Below.then HB.out ⟨bu.os, bu.tape, bu.output, bu.size, bu.block⟩ (Nat.le_of_lt (Array.getElem?_eq_some_iff.1 HZ.out).1); obtain ⟨d0, d1, d2, d3, g0, g1, g2, g3⟩ := objB_cells hb2; have HN := hid (set4_step (y0 := y0) (y1 := y1) (y2 := y2) (y3 := y3) HB2 hb2 hz2); unfold sets4 at HN; clear hb2 bu hz2 HB2)
      all_goals
        go_wp2
        go_round
        case rel => exact ⟨j + 1, by omega, by go_num, by rw [HE4.out.1, HE4.out.2.1, HE4.out.2.2.1, HE4.out.2.2.2]; exact HN.out⟩
        case measure => simp [intOf]; omega
    · obtain rfl : j = m := by omega
      have hS : S.take j = S := by rw [← hm, List.take_length]
      rw [hS] at c0 c1 c2 c3
      obtain ⟨e0, e1, e2, e3, g0, g1, g2, g3⟩ := objB_cells hz
      have HL : Hid (∀ a b c d, Below r w (sets4 wr r a b c d)) := fun a b c d => (sets4_turn (fun x => x = r) wr r a b c d rfl).below bel (fun x hx => by rw [hx]; exact Nat.le_refl _) (Nat.le_of_lt (Array.getElem?_eq_some_iff.1 hz).1)
      unfold sets4 at HL
      have HE := hid (wf_wd HH.out.good)
      clear bel hb hz h1 hS
      generalize wf S 0 = x0 at *
      generalize wf S 1 = x1 at *
      generalize wf S 2 = x2 at *
      generalize wf S 3 = x3 at *
      go_wp2
      rw [HE.out, hr]
      exact bodyPost_ret (v := .agg #[.int .u64 x0, .int .u64 x1, .int .u64 x2, .int .u64 x3]) (by simp [results, Tryd.results25, go_sem, e0, e1, e2, e3]) rfl ⟨rfl, HL.out _ _ _ _⟩
/-! ### Among things that lie apart -/
section
variable {w0 w : World} {r : Nat} {R : List Th} {k : Nat} {v : Value} {S : St}
theorem Sep.goesR {w' : World} {T : St} (h : Sep w0 r w (rtT k v S :: R)) (q : GoesR w k v T w') : ∃ v', Sep w0 r w' (rtT k v' T :: R) := by
  obtain ⟨v', h1, h2, h3⟩ := q
  exact ⟨v', h.turn (t' := rtT k v' T) h1 h2 h3⟩
theorem rput_sep (h : Sep w0 r w (rtT k v S :: R)) (p n : Int) (hn : I64 n) (hl : S.length ≤ 1000) :
    Calls Tryd.prog 11 #[.pointer (some ⟨k, 0, none⟩), .int .i64 p, .int .i64 n] w fun e w' => e = .returned (.int .i64 (putE S p n)) ∧ ∃ v', Sep w0 r w' (rtT k v' (putS S p n) :: R) :=
  (rput_any k v S p n w h.head hn hl).mono fun _ _ ⟨he, g⟩ => ⟨he, h.goesR g⟩
theorem rtake_sep (h : Sep w0 r w (rtT k v S :: R)) (n : Int) (hl : S.length ≤ 1000) :
    Calls Tryd.prog 13 #[.pointer (some ⟨k, 0, none⟩), .int .i64 n] w fun e w' => e = .returned (.int .i64 (takeE S n)) ∧ ∃ v', Sep w0 r w' (rtT k v' (takeS S n) :: R) :=
  (rtake_any k v S n w h.head hl).mono fun _ _ ⟨he, g⟩ => ⟨he, h.goesR g⟩
theorem rturn_sep (h : Sep w0 r w (rtT k v S :: R)) (hl : S.length ≤ 1000) :
    Calls Tryd.prog 15 #[.pointer (some ⟨k, 0, none⟩)] w fun e w' => e = .returned (.bool (nextB S)) ∧ ∃ v', Sep w0 r w' (rtT k v' (turnS S) :: R) :=
  (rturn_any k v S w h.head hl).mono fun _ _ ⟨he, g⟩ => ⟨he, h.goesR g⟩
theorem rnext_sep (h : Sep w0 r w (rtT k v S :: R)) (hl : S.length ≤ 1000) :
    Calls Tryd.prog 18 #[.pointer (some ⟨k, 0, none⟩)] w fun e w' => e = .returned (.tuple #[.int .i64 (nextN S), .bool (nextB S)]) ∧ Sep w0 r w' (rtT k v S :: R) :=
  (rnext_any k v S w h.head hl).mono fun _ _ ⟨he, b⟩ => ⟨he, h.below b⟩
theorem rwhere_sep (h : Sep w0 r w (rtT k v S :: R)) (n : Int) (hl : S.length ≤ 1000) :
    Calls Tryd.prog 20 #[.pointer (some ⟨k, 0, none⟩), .int .i64 n] w fun e w' => e = .returned (.tuple #[.int .i64 (whI S n), .bool (whB S n)]) ∧ w' = w := rwhere_any k v S n w h.head hl
theorem rbits_is (h : Sep w0 r w (rtT k v S :: R)) (hl : S.length ≤ 1000) {x0 x1 x2 x3 : Int} (hx : wdAll (occ S) = .agg #[.int .u64 x0, .int .u64 x1, .int .u64 x2, .int .u64 x3]) :
    Calls Tryd.prog 25 #[.pointer (some ⟨k, 0, none⟩)] w fun e w' => e = .returned (.agg #[.int .u64 x0, .int .u64 x1, .int .u64 x2, .int .u64 x3]) ∧ Sep w0 r w' (rtT k v S :: R) := by
  rw [← hx]
  exact (rbits_any k v S w h.head hl).mono fun _ _ ⟨he, b⟩ => ⟨he, h.below b⟩
theorem rline_sep (h : Sep w0 r w (rtT k v S :: R)) (p : Int) (hl : S.length ≤ 1000) :
    Calls Tryd.prog 23 #[.pointer (some ⟨k, 0, none⟩), .int .i64 p] w fun e w' => ∃ u, e = .returned u ∧ Sep w0 r w' (rtT k v S :: lstI u (lineI S p) :: R) :=
  (rline_any k v S p w h.head hl).mono fun _ _ ⟨u, he, s⟩ => ⟨u, he, h.told (u := lstI u (lineI S p)) s.head s.low fun x hx => (s.each _ (by simp)).2 x hx⟩
end
end Go.Proofs.YtnjmjhmngjodcaaDoor

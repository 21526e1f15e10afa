/-
  What put, Root, Add of the document's own tree answer and leave; no condition but that the tree is small.
-/
import Derived.Test.YthfoeppcageneaaTRPut
namespace Go.Proofs.Ythfoeppcageneaa
set_option linter.unusedSectionVars false
variable [DecidableEq Sl]
open Go.RowKit Go.Deep Go.Shelf

theorem Part.more {B : Nat} {w1 w : World} {T : St} {n : Nat} {l d : Value} (h : Part B w1 T n l d w) (hn : T.length ≤ n) : Part B w1 T (n + 1) l d w := by
  have e : T.take (n + 1) = T.take n := by rw [List.take_of_length_le (by omega), List.take_of_length_le hn]
  exact ⟨by rw [e]; exact h.s, by rw [e]; exact h.d, h.low, h.size⟩
theorem int_ne {a b : Nat} (h : a ≠ b) : ((a : Int) == (b : Int)) = false := by rw [beq_eq_false_iff_ne]; omega
theorem made_lists (w : World) (T : St) : Part w.heap.size w T 0 (.slice (some ⟨w.heap.size, 0, none⟩) 0 0) (.slice (some ⟨w.heap.size + 1, 0, none⟩) 0 0) ((w.alloc (.cells #[] 31)).alloc (.cells #[] 3)) := by
  have b1 := below_new w (.cells #[] 31)
  have b2 := below_new (w.alloc (.cells #[] 31)) (.cells #[] 3)
  refine ⟨?_, ?_, two_new w _ _, by simp; omega⟩
  · have := World.ownsRow_made (base := w.heap.size) (e := 31) (size := 2) w #[] 0 (Nat.le_refl _) (by unfold maxLen; omega) rfl
    exact World.ownsRow.alloc this _
  · have := World.ownsRow_made (base := w.heap.size) (e := 3) (size := 1) (w.alloc (.cells #[] 31)) #[] 0 (by simp) (by unfold maxLen; omega) rfl
    rw [World.size_alloc] at this
    exact this
set_option maxHeartbeats 4000000 in
set_option maxRecDepth 100000 in
theorem rput_any (p : Nat) (a b : Value) (S : St) (i : Nat) (s : Sl) (d : Int) (w : World) (h : RtH p a b S w) (hi : i ≤ S.length) (hl : S.length ≤ 1000) (good : Good (putN S i ⟨s, d⟩)) :
    Calls Try.prog 41 #[.pointer (some ⟨p, 0, none⟩), .int .i64 (i : Int), encS s, .int .i64 d] w fun e w' => e = .returned (.tuple #[]) ∧ GoesT w p a b (putN S i ⟨s, d⟩) w' := by
  have b1 := below_new w (objS s)
  obtain ⟨T, HT⟩ : ∃ T, Hid (putN S i ⟨s, d⟩ = T ∧ T.length = S.length + 1 ∧ Good T ∧ (∀ j, slt T j = if j < i then slt S j else if j = i then s else slt S (j - 1)) ∧ (∀ j, dep T j = if j < i then dep S j else if j = i then d else dep S (j - 1))) := by
    refine ⟨_, rfl, putN_len _ _ _, good, fun j => ?_, fun j => ?_⟩
    · unfold slt
      rw [atE_putN hi]
      split
      · rfl
      · split <;> rfl
    · unfold dep
      rw [atE_putN hi]
      split
      · rfl
      · split <;> rfl
  have HH : Hid (RtH p a b S (w.alloc (objS s)) ∧ AtS (w.alloc (objS s)) w.heap.size s ∧ Below w.heap.size w (w.alloc (objS s)) ∧ i ≤ S.length) := ⟨h.below b1, AtS.new w s, b1, hi⟩
  have HM : Hid _ := made_lists (w.alloc (objS s)) T
  clear h b1 hi good
  simp only [encS, objS] at *
  go_enter Try.func41, Try.ntmps41
  go_wp2
  rw [World.size_alloc] at HM
  generalize hw1 : w.alloc (.cells #[.int .i64 s.n, .int .i64 s.i] 31) = w1 at *
  have HB1 : Hid (w1.heap.size = w.heap.size + 1) := (by rw [← hw1]; simp : w1.heap.size = w.heap.size + 1)
  clear hw1
  generalize hr : w.heap.size = r at *
  have HR : Hid (w.heap.size = r) := hr
  clear hr
  have hl' : (S.length : Int) ≤ 1000 := by omega
  go_loopw [8, 9, 10] (fun s8 s9 s10 wr => ∃ (k n : Nat), k ≤ S.length + 1 ∧ s10 = .int .i64 k ∧ n = (if i < k then k + 1 else k) ∧ Part (r + 1) w1 T n s8 s9 wr) (fun _ _ s10 _ => S.length + 1 - (intOf s10).toNat)
  case atStart => exact ⟨0, 0, Nat.zero_le _, rfl, by rw [if_neg (by omega)], HM.out⟩
  case round =>
    clear HM
    obtain ⟨k, n, hk, rfl, hn, hp⟩ := hrel
    have KP : Hid (Part (r + 1) w1 T n u8 u9 wr) := hp
    have hrt := HH.out.1.below (show Below w1.heap.size w1 wr by rw [HB1.out]; exact hp.low)
    obtain ⟨t0, t1⟩ := (HH.out.2.1.below (show Below w1.heap.size w1 wr by rw [HB1.out]; exact hp.low)).cells
    obtain ⟨ao, ca, bo, cb, -, -, -, -, c0, c1, hx⟩ := hrt.slices
    by_cases hlt : k ≤ S.length
    · have hkz : (k : Int) ≤ (S.length : Int) := by omega
      have HKS : Hid (k ≤ S.length) := hlt
      by_cases hki : k = i
      · subst hki
        have hn' : n = k := by rw [hn, if_neg (by omega)]
        subst hn'
        have hT1 : n < T.length := by have := HT.out.2.1; omega
        obtain ⟨ao1, bo1, m1, ca1, cb1, ao2, bo2, m2, ca2, cb2, w2, w3, rfl, rfl, r1, r2, r3, hp3⟩ := hp.push hT1 (by have := HT.out.2.1; omega)
        rw [HT.out.2.2.2.1, if_neg (by omega), if_pos rfl] at r1
        rw [HT.out.2.2.2.2, if_neg (by omega), if_pos rfl] at r2
        have R1 : Hid _ := r1
        have R2 : Hid _ := r2
        have hkk : ((n : Int) == (n : Int)) = true := by simp
        by_cases hls : n < S.length
        · have hlsz : (n : Int) < (S.length : Int) := by omega
          have hT2 : n + 1 < T.length := by have := HT.out.2.1; omega
          have hrt3 := HH.out.1.below (show Below w1.heap.size w1 w3 by rw [HB1.out]; exact hp3.low)
          obtain ⟨ao', ca', bo', cb', ea, eb, -, -, c0', c1', hx'⟩ := hrt3.slices
          obtain ⟨ao3, bo3, m3, ca3, cb3, ao4, bo4, m4, ca4, cb4, w4, w5, e1, e2, r4, r5, r6, hp5⟩ := hp3.push hT2 (by have := HT.out.2.1; omega)
          cases e1
          cases e2
          have hrt4 := HH.out.1.below (show Below w1.heap.size w1 w4 by rw [HB1.out]; exact r6)
          obtain ⟨ao'', ca'', bo'', cb'', ea', eb', -, -, c0'', c1'', hx''⟩ := hrt4.slices
          obtain ⟨g, g', rfl, -, z0, z1, -, -⟩ := hx' n hls
          obtain ⟨g2, g2', -, rfl, -, -, y2, -⟩ := hx'' n hls
          rw [HT.out.2.2.2.1, if_neg (by omega), if_neg (by omega), Nat.add_sub_cancel] at r4
          rw [HT.out.2.2.2.2, if_neg (by omega), if_neg (by omega), Nat.add_sub_cancel] at r5
          have R4 : Hid _ := r4
          have R5 : Hid _ := r5
          have KE : Hid (Part (r + 1) w1 T (n + 2) (.slice ao4 m4 ca4) (.slice bo4 m4 cb4) w5) := hp5
          clear hp hp3 hp5 r1 r2 r4 r5 hrt hrt3 hrt4 hx hx' hx'' hT1 hT2 hls hlt hk hn KP r3 r6
          go_wp2_with (first | (at_builtin; refine wpList_append_run rfl (.tmp 25) (.tmp 27) _ _ rfl _ _ _ _ rfl rfl R1.out ?_) | (at_builtin; refine wpList_append_run rfl (.tmp 29) (.tmp 31) _ _ rfl _ _ _ _ rfl rfl R2.out ?_) | (at_builtin; refine wpList_append_run rfl (.tmp 40) (.tmp 48) _ _ rfl _ _ _ _ rfl rfl R4.out ?_) | (at_builtin; refine wpList_append_run rfl (.tmp 50) (.tmp 58) _ _ rfl _ _ _ _ rfl rfl R5.out ?_))
          go_roundw
          case rel => exact ⟨n + 1, n + 2, by have := HKS.out; omega, by go_num, by rw [if_pos (by omega)], KE.out⟩
          case measure => simp [intOf]; have := HKS.out; omega
        · have hlsz : ¬ (n : Int) < (S.length : Int) := by omega
          have hrt3 := HH.out.1.below (show Below w1.heap.size w1 w3 by rw [HB1.out]; exact hp3.low)
          obtain ⟨ao', ca', bo', cb', ea, eb, -, -, c0', c1', -⟩ := hrt3.slices
          have KE : Hid (Part (r + 1) w1 T (n + 2) (.slice ao2 m2 ca2) (.slice bo2 m2 cb2) w3) := hp3.more (by have := HT.out.2.1; omega)
          clear hp hp3 r1 r2 hrt hrt3 hx hT1 hls hlt hk hn KP r3
          go_wp2_with (first | (at_builtin; refine wpList_append_run rfl (.tmp 25) (.tmp 27) _ _ rfl _ _ _ _ rfl rfl R1.out ?_) | (at_builtin; refine wpList_append_run rfl (.tmp 29) (.tmp 31) _ _ rfl _ _ _ _ rfl rfl R2.out ?_))
          go_roundw
          case rel => exact ⟨n + 1, n + 2, by have := HKS.out; omega, by go_num, by rw [if_pos (by omega)], KE.out⟩
          case measure => simp [intOf]; have := HKS.out; omega
      · have hkk := int_ne hki
        by_cases hls : k < S.length
        · have hlsz : (k : Int) < (S.length : Int) := by omega
          have hT1 : n < T.length := by have := HT.out.2.1; rw [hn]; split <;> omega
          obtain ⟨ao1, bo1, m1, ca1, cb1, ao2, bo2, m2, ca2, cb2, w2, w3, rfl, rfl, r1, r2, r3, hp3⟩ := hp.push hT1 (by have := HT.out.2.1; omega)
          have es : slt T n = slt S k := by
            rw [HT.out.2.2.2.1, hn]
            by_cases c : i < k
            · rw [if_pos c, if_neg (by omega), if_neg (by omega), Nat.add_sub_cancel]
            · rw [if_neg c, if_pos (by omega)]
          have ed : dep T n = dep S k := by
            rw [HT.out.2.2.2.2, hn]
            by_cases c : i < k
            · rw [if_pos c, if_neg (by omega), if_neg (by omega), Nat.add_sub_cancel]
            · rw [if_neg c, if_pos (by omega)]
          rw [es] at r1
          rw [ed] at r2
          have hrt2 := HH.out.1.below (show Below w1.heap.size w1 w2 by rw [HB1.out]; exact r3)
          obtain ⟨ao', ca', bo', cb', ea, eb, -, -, c0', c1', hx'⟩ := hrt2.slices
          obtain ⟨g, g', rfl, -, z0, z1, -, -⟩ := hx k hls
          obtain ⟨g2, g2', -, rfl, -, -, y2, -⟩ := hx' k hls
          have R1 : Hid _ := r1
          have R2 : Hid _ := r2
          have hn2 : n + 1 = if i < k + 1 then k + 1 + 1 else k + 1 := by
            rw [hn]
            by_cases c : i < k
            · rw [if_pos c, if_pos (by omega)]
            · rw [if_neg c, if_neg (by omega)]
          have KE : Hid (Part (r + 1) w1 T (n + 1) (.slice ao2 m2 ca2) (.slice bo2 m2 cb2) w3 ∧ n + 1 = if i < k + 1 then k + 1 + 1 else k + 1) := ⟨hp3, hn2⟩
          clear hp hp3 r1 r2 hrt hrt2 hx hx' hT1 hls hlt hk hn hn2 KP r3 es ed hki
          go_wp2_with (first | (at_builtin; refine wpList_append_run rfl (.tmp 40) (.tmp 48) _ _ rfl _ _ _ _ rfl rfl R1.out ?_) | (at_builtin; refine wpList_append_run rfl (.tmp 50) (.tmp 58) _ _ rfl _ _ _ _ rfl rfl R2.out ?_))
          go_roundw
          case rel => exact ⟨k + 1, n + 1, by have := HKS.out; omega, by go_num, KE.out.2, KE.out.1⟩
          case measure => simp [intOf]; have := HKS.out; omega
        · have hlsz : ¬ (k : Int) < (S.length : Int) := by omega
          have hki2 : i < k := by have := HH.out.2.2.2; omega
          have hn' : n = k + 1 := by rw [hn, if_pos hki2]
          have KE : Hid (Part (r + 1) w1 T (n + 1) u8 u9 wr ∧ n + 1 = if i < k + 1 then k + 1 + 1 else k + 1) := ⟨hp.more (by have := HT.out.2.1; omega), by rw [if_pos (by omega), hn']⟩
          clear hp hrt hx hls hlt hk hn hn' KP hki hki2
          go_wp2
          go_roundw
          case rel => exact ⟨k + 1, n + 1, by have := HKS.out; omega, by go_num, KE.out.2, KE.out.1⟩
          case measure => simp [intOf]; have := HKS.out; omega
    · have hkz : ¬ (k : Int) ≤ (S.length : Int) := by omega
      have hfz : ∀ j, wr.frozen? ⟨p, j, none⟩ = false := fun j => by simp [World.frozen?, hrt.head]
      have e0 : (T.take n) = T := List.take_of_length_le (by have := HT.out.2.1; have := HH.out.2.2.2; rw [hn, if_pos (by omega)]; omega)
      obtain ⟨ao1, ca1, rfl⟩ := hp.s.slice
      obtain ⟨bo1, cb1, rfl⟩ := hp.d.slice
      have KE : Hid (GoesT w p a b T ((wr.setCell ⟨p, 0, none⟩ (.slice ao1 (allS (T.take n)).length ca1)).setCell ⟨p, 1, none⟩ (.slice bo1 (deps (T.take n)).length cb1))) := by
        have bw : Below w1.heap.size w1 wr := by rw [HB1.out]; exact hp.low
        refine GoesT.from (by rw [HR.out]; exact HH.out.2.2.1) (HH.out.1.hang bw ?_ ?_ HT.out.2.2.1)
        · rw [HB1.out]
          have := hp.s
          rw [e0] at this ⊢
          exact this
        · rw [HB1.out]
          have := hp.d
          rw [e0] at this ⊢
          exact this
      have c1' : ∀ v, (wr.setCell ⟨p, 0, none⟩ v).cell? ⟨p, 1, none⟩ = some (.slice bo S.length cb) := fun v => by
        rw [World.cell?_setCell_other _ _ _ _ (by simp)]
        exact c1
      have hf1 : ∀ v j, (wr.setCell ⟨p, 0, none⟩ v).frozen? ⟨p, j, none⟩ = false := fun v j => by
        rw [World.frozen?_setCell]
        exact hfz j
      generalize (allS (T.take n)).length = n1 at *
      generalize (deps (T.take n)).length = n2 at *
      clear hp hrt hx hlt hk hn KP e0
      go_wp2
      refine bodyPost_end (v := .tuple #[]) ?_ rfl ⟨rfl, ?_⟩
      · simp [results, Try.f41]
      · rw [HT.out.1]; exact KE.out
end Go.Proofs.Ythfoeppcageneaa

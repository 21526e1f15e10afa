/-
  What Fill of package tlb leaves, wherever a line goes; no condition.
-/
import Derived.Test.YtekjoeebomcmeaaYFill
namespace Go.Proofs.Ytekjoeebomcmeaa
open Go.RowKit Go.Deep Go.Shelf
section
variable {w0 w w' : World} {r p n q : Nat} {v : Value} {S : St} {R : List Th}
set_option maxHeartbeats 16000000 in
set_option maxRecDepth 100000 in
theorem fill_full {y : Lr} {T : St} (s : Sep w0 r w (tbT kP n p v (y :: T) :: R)) (x : Lr) (hb : (y :: T).any (isK x.s x.p) = false) (hn : n ≤ (y :: T).length) :
    Calls Try.prog 11 #[ptr p, encL x] w fun e w' => e = .returned (.tuple #[]) ∧ ∃ v', Sep w0 r w' (tbT kP n p v' (fillS n (y :: T) x) :: R) := by
  have S1 := hid (s.box (objL x))
  have HFS : Hid (fillS n (y :: T) x = T ++ [x]) := by show fillS n (y :: T) x = _; unfold fillS roomS; rw [if_neg (by rw [hb]; decide), if_pos hn]; rfl
  have HGF := hid (s.good.fill x)
  rw [HFS.out] at HGF
  have HLH := hid (less_head s.good)
  have HLN := hid (less_none hb)
  have HD := hid (drop_sep S1.out.drew.swap x.s x.p)
  rw [hb] at HD
  have hpos : 0 < (y :: T).length := by simp
  have hn1 : (n : Int) ≤ ((y :: T).length : Int) := by omega
  have hposz : (0 : Int) < ((y :: T).length : Int) := by omega
  obtain ⟨g0, g1, g2, g3⟩ := newL w x
  clear s hb hn
  generalize hNL : (y :: T).length = NL at *
  have HNL := hid hNL
  clear hNL
  simp only [encL, objL] at *
  go_enter Try.func11, Try.ntmps11
  go_wp2_with fail
  generalize hz : w.heap.size = z at *
  clear hz
  generalize w.alloc (.cells #[.int .i64 x.s, .int .i64 x.p, .int .i64 x.f, .int .i64 x.r] 33) = w1 at *
  refine wp_region_any (by kernel_rfl) ?_
  change wpAny _ _ _ _ _ _ _ (World.drew _)
  refine wpAny_take (i := 0) (v := ?_) rfl (by kernel_rfl) (by kernel_rfl) (by kernel_rfl) (fun _ _ _ h => h) (Or.inl ⟨by rfl, ?_⟩) ?_
  rotate_left
  · intro w
    go_simp
    try with_reducible rfl
  simp only [List.getElem_toArray, List.getElem_cons_zero, Act.put, List.setIfInBounds_toArray, List.set_cons_zero, List.set_cons_succ]
  refine wpAny_take (i := 1) (v := ?_) rfl (by kernel_rfl) (by kernel_rfl) (by kernel_rfl) (fun _ _ _ h => h) (Or.inl ⟨by rfl, ?_⟩) ?_
  rotate_left
  · intro w
    go_simp
    try with_reducible rfl
  simp only [List.getElem_toArray, List.getElem_cons_zero, List.getElem_cons_succ, Act.put, List.setIfInBounds_toArray, List.set_cons_zero, List.set_cons_succ]
  refine wpAny_take (i := 3) (v := ?_) rfl (by kernel_rfl) (by kernel_rfl) (by kernel_rfl) (fun _ _ _ h => h) (Or.inl ⟨by rfl, ?_⟩) ?_
  rotate_left
  · intro w
    go_simp
    try with_reducible rfl
  simp only [List.getElem_toArray, List.getElem_cons_zero, List.getElem_cons_succ, Act.put, List.setIfInBounds_toArray, List.set_cons_zero, List.set_cons_succ]
  refine wpAny_ready (rs := [2, 4]) (by kernel_rfl) (by simp) ?_
  refine AllReady.cons rfl (fun K hK => ?_) (AllReady.cons rfl (fun K hK => ?_) AllReady.nil)
  · go_simp
    go_wp2_with fail
    first | (refine hK _ _ ?_; clear hK K) | skip
    try simp only [List.getElem_toArray, List.getElem_cons_zero, List.getElem_cons_succ, Act.put, List.setIfInBounds_toArray, List.set_cons_zero, List.set_cons_succ]
    refine wpAny_ready (rs := [4]) (by kernel_rfl) (by simp) ?_
    refine AllReady.cons rfl (fun K hK => ?_) AllReady.nil
    go_simp
    go_wp2_with fail
    first | (refine hK _ _ ?_; clear hK K) | skip
    try simp only [List.getElem_toArray, List.getElem_cons_zero, List.getElem_cons_succ, Act.put, List.setIfInBounds_toArray, List.set_cons_zero, List.set_cons_succ]
    refine wpAny_ready (rs := [5]) (by kernel_rfl) (by simp) ?_
    refine AllReady.cons rfl (fun K hK => ?_) AllReady.nil
    go_simp
    go_wp2_with (go_at_call 13; refine Calls.mono HD.out ?_; rintro e w2 ⟨v2, rfl, s2⟩; rw [HLN.out] at s2; have S2 := hid s2.swap; have c2 := s2.cellP; have rm := s2.roomP; obtain ⟨a2, k2, rfl, hg2⟩ := s2.sliceP; rw [HNL.out] at *; have HG2 := hid hg2; clear s2 hg2)
    first | (refine hK _ _ ?_; clear hK K) | skip
    try simp only [List.getElem_toArray, List.getElem_cons_zero, List.getElem_cons_succ, Act.put, List.setIfInBounds_toArray, List.set_cons_zero, List.set_cons_succ]
    refine wpAny_take (i := 6) (v := ?_) rfl (by kernel_rfl) (by kernel_rfl) (by kernel_rfl) (fun _ _ _ h => h) (Or.inl ⟨by rfl, ?_⟩) ?_
    rotate_left
    · intro w
      go_simp
      try with_reducible rfl
    simp only [List.getElem_toArray, List.getElem_cons_zero, List.getElem_cons_succ, Act.put, List.setIfInBounds_toArray, List.set_cons_zero, List.set_cons_succ]
    refine wpAny_take (i := 7) (v := ?_) rfl (by kernel_rfl) (by kernel_rfl) (by kernel_rfl) (fun _ _ _ h => h) (Or.inl ⟨by rfl, ?_⟩) ?_
    rotate_left
    · intro w
      go_simp
      try with_reducible rfl
    simp only [List.getElem_toArray, List.getElem_cons_zero, List.getElem_cons_succ, Act.put, List.setIfInBounds_toArray, List.set_cons_zero, List.set_cons_succ]
    refine wpAny_take (i := 8) (v := ?_) rfl (by kernel_rfl) (by kernel_rfl) (by kernel_rfl) (fun _ _ _ h => h) (Or.inl ⟨by rfl, ?_⟩) ?_
    rotate_left
    · intro w
      go_simp
      try with_reducible rfl
    simp only [List.getElem_toArray, List.getElem_cons_zero, List.getElem_cons_succ, Act.put, List.setIfInBounds_toArray, List.set_cons_zero, List.set_cons_succ]
    refine wpAny_take (i := 9) (v := ?_) rfl (by kernel_rfl) (by kernel_rfl) (by kernel_rfl) (fun _ _ _ h => h) (Or.inl ⟨by rfl, ?_⟩) ?_
    rotate_left
    · intro w
      go_simp
      try with_reducible rfl
    simp only [List.getElem_toArray, List.getElem_cons_zero, List.getElem_cons_succ, Act.put, List.setIfInBounds_toArray, List.set_cons_zero, List.set_cons_succ]
    refine wpAny_take (i := 10) (v := ?_) rfl (by kernel_rfl) (by kernel_rfl) (by kernel_rfl) (fun _ _ _ h => h) (Or.inl ⟨by rfl, ?_⟩) ?_
    rotate_left
    · intro w
      go_simp
      try with_reducible rfl
    simp only [List.getElem_toArray, List.getElem_cons_zero, List.getElem_cons_succ, Act.put, List.setIfInBounds_toArray, List.set_cons_zero, List.set_cons_succ]
    refine wpAny_take (i := 13) (v := ?_) rfl (by kernel_rfl) (by kernel_rfl) (by kernel_rfl) (fun _ _ _ h => h) (Or.inl ⟨by rfl, ?_⟩) ?_
    rotate_left
    · intro w
      go_simp
      try with_reducible rfl
    simp only [List.getElem_toArray, List.getElem_cons_zero, List.getElem_cons_succ, Act.put, List.setIfInBounds_toArray, List.set_cons_zero, List.set_cons_succ]
    refine wpAny_take (i := 14) (v := ?_) rfl (by kernel_rfl) (by kernel_rfl) (by kernel_rfl) (fun _ _ _ h => h) (Or.inl ⟨by rfl, ?_⟩) ?_
    rotate_left
    · intro w
      go_simp
      try with_reducible rfl
    simp only [List.getElem_toArray, List.getElem_cons_zero, List.getElem_cons_succ, Act.put, List.setIfInBounds_toArray, List.set_cons_zero, List.set_cons_succ]
    refine wpAny_take (i := 15) (v := ?_) rfl (by kernel_rfl) (by kernel_rfl) (by kernel_rfl) (fun _ _ _ h => h) (Or.inl ⟨by rfl, ?_⟩) ?_
    rotate_left
    · intro w
      go_simp
      try with_reducible rfl
    simp only [List.getElem_toArray, List.getElem_cons_zero, List.getElem_cons_succ, Act.put, List.setIfInBounds_toArray, List.set_cons_zero, List.set_cons_succ]
    refine wpAny_ready (rs := [11, 16]) (by kernel_rfl) (by simp) ?_
    refine AllReady.cons rfl (fun K hK => ?_) (AllReady.cons rfl (fun K hK => ?_) AllReady.nil)
    · go_simp
      go_wp2_with fail
      first | (refine hK _ _ ?_; clear hK K) | skip
      try simp only [List.getElem_toArray, List.getElem_cons_zero, List.getElem_cons_succ, Act.put, List.setIfInBounds_toArray, List.set_cons_zero, List.set_cons_succ]
      refine wpAny_take (i := 12) (v := ?_) rfl (by kernel_rfl) (by kernel_rfl) (by kernel_rfl) (fun _ _ _ h => h) (Or.inl ⟨by rfl, ?_⟩) ?_
      rotate_left
      · intro w
        go_simp
        try with_reducible rfl
      simp only [List.getElem_toArray, List.getElem_cons_zero, List.getElem_cons_succ, Act.put, List.setIfInBounds_toArray, List.set_cons_zero, List.set_cons_succ]
      refine wpAny_ready (rs := [16]) (by kernel_rfl) (by simp) ?_
      refine AllReady.cons rfl (fun K hK => ?_) AllReady.nil
      go_simp
      go_wp2_with fail
      first | (refine hK _ _ ?_; clear hK K) | skip
      try simp only [List.getElem_toArray, List.getElem_cons_zero, List.getElem_cons_succ, Act.put, List.setIfInBounds_toArray, List.set_cons_zero, List.set_cons_succ]
      refine wpAny_take (i := 17) (v := ?_) rfl (by kernel_rfl) (by kernel_rfl) (by kernel_rfl) (fun _ _ _ h => h) (Or.inl ⟨by rfl, ?_⟩) ?_
      rotate_left
      · intro w
        go_simp
        try with_reducible rfl
      simp only [List.getElem_toArray, List.getElem_cons_zero, List.getElem_cons_succ, Act.put, List.setIfInBounds_toArray, List.set_cons_zero, List.set_cons_succ]
      refine wpAny_take (i := 18) (v := ?_) rfl (by kernel_rfl) (by kernel_rfl) (by kernel_rfl) (fun _ _ _ h => h) (Or.inl ⟨by rfl, ?_⟩) ?_
      rotate_left
      · intro w
        go_simp
        try with_reducible rfl
      simp only [List.getElem_toArray, List.getElem_cons_zero, List.getElem_cons_succ, Act.put, List.setIfInBounds_toArray, List.set_cons_zero, List.set_cons_succ]
      refine wpAny_done (by kernel_rfl) ?_ _
      clear g0 g1 g2 g3 S1
      obtain ⟨gg, rfl⟩ := HG2.out 0 hpos
      obtain ⟨y0, y1, y2, y3⟩ := (RowL.at (i := 0) (x := y) S2.out.drop.rowP rfl).cells
      simp only [Nat.zero_mul, Nat.zero_add] at y0 y1 y2 y3
      have hd2 := drop_sep (S2.out.below (below_new w2 (objL y))).swap y.s y.p
      rw [HLH.out] at hd2
      simp only [objL] at hd2
      have HD2 := hid hd2
      clear hd2 HG2
      go_wp2_with (go_at_call 13; refine Calls.mono HD2.out ?_; rintro e w3 ⟨v3, rfl, s3⟩; have S3 := hid s3.swap; clear s3 c2 rm y0 y1 y2 y3)
      have sd := S3.out.drew
      obtain ⟨a4, c4, w4, r4, d4, f4, s4⟩ := sd.drop.moreP x HGF.out
      have e8 : w3.drew.heap.size = w3.heap.size := rfl
      rw [e8] at r4
      have R4 := hid r4
      have c3 := S3.out.drop.cellP
      have c3a := cell_al c3 (.cells #[.int .i64 x.s, .int .i64 x.p, .int .i64 x.f, .int .i64 x.r] 33)
      obtain ⟨g0, g1, g2, g3⟩ := cellsL (x := x) S3.out.head
      have S5 := hid s4
      obtain ⟨av, cv, rfl, -⟩ := S3.out.drop.sliceP
      generalize hTl : (T).length = nT at *
      generalize hw5 : w4.setCell ⟨p, 1, none⟩ (.slice a4 (nT + 1) c4) = w5 at *
      clear s4 r4 e8 sd HGF
      go_region_law (refine step_append_run rfl (.tmp 40) (.tmp 42) 42 42 rfl (.slice av nT cv) (.slice (some ⟨w3.heap.size, 0, none⟩) 1 1) _ _ (by simp [Act.eval]) (by simp [Act.eval]) R4.out ?_)
      all_goals
        (try rw [hw5])
        clear hw5
        go_wp2
        exact bodyPost_end (v := .tuple #[]) (by simp [results, Try.results11, go_sem]) rfl ⟨rfl, _, by rw [HFS.out]; exact S5.out⟩
    · go_simp
      go_wp2_with fail
      first | (refine hK _ _ ?_; clear hK K) | skip
      try simp only [List.getElem_toArray, List.getElem_cons_zero, List.getElem_cons_succ, Act.put, List.setIfInBounds_toArray, List.set_cons_zero, List.set_cons_succ]
      refine wpAny_ready (rs := [11]) (by kernel_rfl) (by simp) ?_
      refine AllReady.cons rfl (fun K hK => ?_) AllReady.nil
      go_simp
      go_wp2_with fail
      first | (refine hK _ _ ?_; clear hK K) | skip
      try simp only [List.getElem_toArray, List.getElem_cons_zero, List.getElem_cons_succ, Act.put, List.setIfInBounds_toArray, List.set_cons_zero, List.set_cons_succ]
      refine wpAny_take (i := 12) (v := ?_) rfl (by kernel_rfl) (by kernel_rfl) (by kernel_rfl) (fun _ _ _ h => h) (Or.inl ⟨by rfl, ?_⟩) ?_
      rotate_left
      · intro w
        go_simp
        try with_reducible rfl
      simp only [List.getElem_toArray, List.getElem_cons_zero, List.getElem_cons_succ, Act.put, List.setIfInBounds_toArray, List.set_cons_zero, List.set_cons_succ]
      refine wpAny_take (i := 17) (v := ?_) rfl (by kernel_rfl) (by kernel_rfl) (by kernel_rfl) (fun _ _ _ h => h) (Or.inl ⟨by rfl, ?_⟩) ?_
      rotate_left
      · intro w
        go_simp
        try with_reducible rfl
      simp only [List.getElem_toArray, List.getElem_cons_zero, List.getElem_cons_succ, Act.put, List.setIfInBounds_toArray, List.set_cons_zero, List.set_cons_succ]
      refine wpAny_take (i := 18) (v := ?_) rfl (by kernel_rfl) (by kernel_rfl) (by kernel_rfl) (fun _ _ _ h => h) (Or.inl ⟨by rfl, ?_⟩) ?_
      rotate_left
      · intro w
        go_simp
        try with_reducible rfl
      simp only [List.getElem_toArray, List.getElem_cons_zero, List.getElem_cons_succ, Act.put, List.setIfInBounds_toArray, List.set_cons_zero, List.set_cons_succ]
      refine wpAny_done (by kernel_rfl) ?_ _
      clear g0 g1 g2 g3 S1
      obtain ⟨gg, rfl⟩ := HG2.out 0 hpos
      obtain ⟨y0, y1, y2, y3⟩ := (RowL.at (i := 0) (x := y) S2.out.drop.rowP rfl).cells
      simp only [Nat.zero_mul, Nat.zero_add] at y0 y1 y2 y3
      have hd2 := drop_sep (S2.out.below (below_new w2 (objL y))).swap y.s y.p
      rw [HLH.out] at hd2
      simp only [objL] at hd2
      have HD2 := hid hd2
      clear hd2 HG2
      go_wp2_with (go_at_call 13; refine Calls.mono HD2.out ?_; rintro e w3 ⟨v3, rfl, s3⟩; have S3 := hid s3.swap; clear s3 c2 rm y0 y1 y2 y3)
      have sd := S3.out.drew
      obtain ⟨a4, c4, w4, r4, d4, f4, s4⟩ := sd.drop.moreP x HGF.out
      have e8 : w3.drew.heap.size = w3.heap.size := rfl
      rw [e8] at r4
      have R4 := hid r4
      have c3 := S3.out.drop.cellP
      have c3a := cell_al c3 (.cells #[.int .i64 x.s, .int .i64 x.p, .int .i64 x.f, .int .i64 x.r] 33)
      obtain ⟨g0, g1, g2, g3⟩ := cellsL (x := x) S3.out.head
      have S5 := hid s4
      obtain ⟨av, cv, rfl, -⟩ := S3.out.drop.sliceP
      generalize hTl : (T).length = nT at *
      generalize hw5 : w4.setCell ⟨p, 1, none⟩ (.slice a4 (nT + 1) c4) = w5 at *
      clear s4 r4 e8 sd HGF
      go_region_law (refine step_append_run rfl (.tmp 40) (.tmp 42) 42 42 rfl (.slice av nT cv) (.slice (some ⟨w3.heap.size, 0, none⟩) 1 1) _ _ (by simp [Act.eval]) (by simp [Act.eval]) R4.out ?_)
      all_goals
        (try rw [hw5])
        clear hw5
        go_wp2
        exact bodyPost_end (v := .tuple #[]) (by simp [results, Try.results11, go_sem]) rfl ⟨rfl, _, by rw [HFS.out]; exact S5.out⟩
  · go_simp
    go_wp2_with fail
    first | (refine hK _ _ ?_; clear hK K) | skip
    try simp only [List.getElem_toArray, List.getElem_cons_zero, List.getElem_cons_succ, Act.put, List.setIfInBounds_toArray, List.set_cons_zero, List.set_cons_succ]
    refine wpAny_ready (rs := [2]) (by kernel_rfl) (by simp) ?_
    refine AllReady.cons rfl (fun K hK => ?_) AllReady.nil
    go_simp
    go_wp2_with fail
    first | (refine hK _ _ ?_; clear hK K) | skip
    try simp only [List.getElem_toArray, List.getElem_cons_zero, List.getElem_cons_succ, Act.put, List.setIfInBounds_toArray, List.set_cons_zero, List.set_cons_succ]
    refine wpAny_ready (rs := [5]) (by kernel_rfl) (by simp) ?_
    refine AllReady.cons rfl (fun K hK => ?_) AllReady.nil
    go_simp
    go_wp2_with (go_at_call 13; refine Calls.mono HD.out ?_; rintro e w2 ⟨v2, rfl, s2⟩; rw [HLN.out] at s2; have S2 := hid s2.swap; have c2 := s2.cellP; have rm := s2.roomP; obtain ⟨a2, k2, rfl, hg2⟩ := s2.sliceP; rw [HNL.out] at *; have HG2 := hid hg2; clear s2 hg2)
    first | (refine hK _ _ ?_; clear hK K) | skip
    try simp only [List.getElem_toArray, List.getElem_cons_zero, List.getElem_cons_succ, Act.put, List.setIfInBounds_toArray, List.set_cons_zero, List.set_cons_succ]
    refine wpAny_take (i := 6) (v := ?_) rfl (by kernel_rfl) (by kernel_rfl) (by kernel_rfl) (fun _ _ _ h => h) (Or.inl ⟨by rfl, ?_⟩) ?_
    rotate_left
    · intro w
      go_simp
      try with_reducible rfl
    simp only [List.getElem_toArray, List.getElem_cons_zero, List.getElem_cons_succ, Act.put, List.setIfInBounds_toArray, List.set_cons_zero, List.set_cons_succ]
    refine wpAny_take (i := 7) (v := ?_) rfl (by kernel_rfl) (by kernel_rfl) (by kernel_rfl) (fun _ _ _ h => h) (Or.inl ⟨by rfl, ?_⟩) ?_
    rotate_left
    · intro w
      go_simp
      try with_reducible rfl
    simp only [List.getElem_toArray, List.getElem_cons_zero, List.getElem_cons_succ, Act.put, List.setIfInBounds_toArray, List.set_cons_zero, List.set_cons_succ]
    refine wpAny_take (i := 8) (v := ?_) rfl (by kernel_rfl) (by kernel_rfl) (by kernel_rfl) (fun _ _ _ h => h) (Or.inl ⟨by rfl, ?_⟩) ?_
    rotate_left
    · intro w
      go_simp
      try with_reducible rfl
    simp only [List.getElem_toArray, List.getElem_cons_zero, List.getElem_cons_succ, Act.put, List.setIfInBounds_toArray, List.set_cons_zero, List.set_cons_succ]
    refine wpAny_take (i := 9) (v := ?_) rfl (by kernel_rfl) (by kernel_rfl) (by kernel_rfl) (fun _ _ _ h => h) (Or.inl ⟨by rfl, ?_⟩) ?_
    rotate_left
    · intro w
      go_simp
      try with_reducible rfl
    simp only [List.getElem_toArray, List.getElem_cons_zero, List.getElem_cons_succ, Act.put, List.setIfInBounds_toArray, List.set_cons_zero, List.set_cons_succ]
    refine wpAny_take (i := 10) (v := ?_) rfl (by kernel_rfl) (by kernel_rfl) (by kernel_rfl) (fun _ _ _ h => h) (Or.inl ⟨by rfl, ?_⟩) ?_
    rotate_left
    · intro w
      go_simp
      try with_reducible rfl
    simp only [List.getElem_toArray, List.getElem_cons_zero, List.getElem_cons_succ, Act.put, List.setIfInBounds_toArray, List.set_cons_zero, List.set_cons_succ]
    refine wpAny_take (i := 13) (v := ?_) rfl (by kernel_rfl) (by kernel_rfl) (by kernel_rfl) (fun _ _ _ h => h) (Or.inl ⟨by rfl, ?_⟩) ?_
    rotate_left
    · intro w
      go_simp
      try with_reducible rfl
    simp only [List.getElem_toArray, List.getElem_cons_zero, List.getElem_cons_succ, Act.put, List.setIfInBounds_toArray, List.set_cons_zero, List.set_cons_succ]
    refine wpAny_take (i := 14) (v := ?_) rfl (by kernel_rfl) (by kernel_rfl) (by kernel_rfl) (fun _ _ _ h => h) (Or.inl ⟨by rfl, ?_⟩) ?_
    rotate_left
    · intro w
      go_simp
      try with_reducible rfl
    simp only [List.getElem_toArray, List.getElem_cons_zero, List.getElem_cons_succ, Act.put, List.setIfInBounds_toArray, List.set_cons_zero, List.set_cons_succ]
    refine wpAny_take (i := 15) (v := ?_) rfl (by kernel_rfl) (by kernel_rfl) (by kernel_rfl) (fun _ _ _ h => h) (Or.inl ⟨by rfl, ?_⟩) ?_
    rotate_left
    · intro w
      go_simp
      try with_reducible rfl
    simp only [List.getElem_toArray, List.getElem_cons_zero, List.getElem_cons_succ, Act.put, List.setIfInBounds_toArray, List.set_cons_zero, List.set_cons_succ]
    refine wpAny_ready (rs := [11, 16]) (by kernel_rfl) (by simp) ?_
    refine AllReady.cons rfl (fun K hK => ?_) (AllReady.cons rfl (fun K hK => ?_) AllReady.nil)
    · go_simp
      go_wp2_with fail
      first | (refine hK _ _ ?_; clear hK K) | skip
      try simp only [List.getElem_toArray, List.getElem_cons_zero, List.getElem_cons_succ, Act.put, List.setIfInBounds_toArray, List.set_cons_zero, List.set_cons_succ]
      refine wpAny_take (i := 12) (v := ?_) rfl (by kernel_rfl) (by kernel_rfl) (by kernel_rfl) (fun _ _ _ h => h) (Or.inl ⟨by rfl, ?_⟩) ?_
      rotate_left
      · intro w
        go_simp
        try with_reducible rfl
      simp only [List.getElem_toArray, List.getElem_cons_zero, List.getElem_cons_succ, Act.put, List.setIfInBounds_toArray, List.set_cons_zero, List.set_cons_succ]
      refine wpAny_ready (rs := [16]) (by kernel_rfl) (by simp) ?_
      refine AllReady.cons rfl (fun K hK => ?_) AllReady.nil
      go_simp
      go_wp2_with fail
      first | (refine hK _ _ ?_; clear hK K) | skip
      try simp only [List.getElem_toArray, List.getElem_cons_zero, List.getElem_cons_succ, Act.put, List.setIfInBounds_toArray, List.set_cons_zero, List.set_cons_succ]
      refine wpAny_take (i := 17) (v := ?_) rfl (by kernel_rfl) (by kernel_rfl) (by kernel_rfl) (fun _ _ _ h => h) (Or.inl ⟨by rfl, ?_⟩) ?_
      rotate_left
      · intro w
        go_simp
        try with_reducible rfl
      simp only [List.getElem_toArray, List.getElem_cons_zero, List.getElem_cons_succ, Act.put, List.setIfInBounds_toArray, List.set_cons_zero, List.set_cons_succ]
      refine wpAny_take (i := 18) (v := ?_) rfl (by kernel_rfl) (by kernel_rfl) (by kernel_rfl) (fun _ _ _ h => h) (Or.inl ⟨by rfl, ?_⟩) ?_
      rotate_left
      · intro w
        go_simp
        try with_reducible rfl
      simp only [List.getElem_toArray, List.getElem_cons_zero, List.getElem_cons_succ, Act.put, List.setIfInBounds_toArray, List.set_cons_zero, List.set_cons_succ]
      refine wpAny_done (by kernel_rfl) ?_ _
      clear g0 g1 g2 g3 S1
      obtain ⟨gg, rfl⟩ := HG2.out 0 hpos
      obtain ⟨y0, y1, y2, y3⟩ := (RowL.at (i := 0) (x := y) S2.out.drop.rowP rfl).cells
      simp only [Nat.zero_mul, Nat.zero_add] at y0 y1 y2 y3
      have hd2 := drop_sep (S2.out.below (below_new w2 (objL y))).swap y.s y.p
      rw [HLH.out] at hd2
      simp only [objL] at hd2
      have HD2 := hid hd2
      clear hd2 HG2
      go_wp2_with (go_at_call 13; refine Calls.mono HD2.out ?_; rintro e w3 ⟨v3, rfl, s3⟩; have S3 := hid s3.swap; clear s3 c2 rm y0 y1 y2 y3)
      have sd := S3.out.drew
      obtain ⟨a4, c4, w4, r4, d4, f4, s4⟩ := sd.drop.moreP x HGF.out
      have e8 : w3.drew.heap.size = w3.heap.size := rfl
      rw [e8] at r4
      have R4 := hid r4
      have c3 := S3.out.drop.cellP
      have c3a := cell_al c3 (.cells #[.int .i64 x.s, .int .i64 x.p, .int .i64 x.f, .int .i64 x.r] 33)
      obtain ⟨g0, g1, g2, g3⟩ := cellsL (x := x) S3.out.head
      have S5 := hid s4
      obtain ⟨av, cv, rfl, -⟩ := S3.out.drop.sliceP
      generalize hTl : (T).length = nT at *
      generalize hw5 : w4.setCell ⟨p, 1, none⟩ (.slice a4 (nT + 1) c4) = w5 at *
      clear s4 r4 e8 sd HGF
      go_region_law (refine step_append_run rfl (.tmp 40) (.tmp 42) 42 42 rfl (.slice av nT cv) (.slice (some ⟨w3.heap.size, 0, none⟩) 1 1) _ _ (by simp [Act.eval]) (by simp [Act.eval]) R4.out ?_)
      all_goals
        (try rw [hw5])
        clear hw5
        go_wp2
        exact bodyPost_end (v := .tuple #[]) (by simp [results, Try.results11, go_sem]) rfl ⟨rfl, _, by rw [HFS.out]; exact S5.out⟩
    · go_simp
      go_wp2_with fail
      first | (refine hK _ _ ?_; clear hK K) | skip
      try simp only [List.getElem_toArray, List.getElem_cons_zero, List.getElem_cons_succ, Act.put, List.setIfInBounds_toArray, List.set_cons_zero, List.set_cons_succ]
      refine wpAny_ready (rs := [11]) (by kernel_rfl) (by simp) ?_
      refine AllReady.cons rfl (fun K hK => ?_) AllReady.nil
      go_simp
      go_wp2_with fail
      first | (refine hK _ _ ?_; clear hK K) | skip
      try simp only [List.getElem_toArray, List.getElem_cons_zero, List.getElem_cons_succ, Act.put, List.setIfInBounds_toArray, List.set_cons_zero, List.set_cons_succ]
      refine wpAny_take (i := 12) (v := ?_) rfl (by kernel_rfl) (by kernel_rfl) (by kernel_rfl) (fun _ _ _ h => h) (Or.inl ⟨by rfl, ?_⟩) ?_
      rotate_left
      · intro w
        go_simp
        try with_reducible rfl
      simp only [List.getElem_toArray, List.getElem_cons_zero, List.getElem_cons_succ, Act.put, List.setIfInBounds_toArray, List.set_cons_zero, List.set_cons_succ]
      refine wpAny_take (i := 17) (v := ?_) rfl (by kernel_rfl) (by kernel_rfl) (by kernel_rfl) (fun _ _ _ h => h) (Or.inl ⟨by rfl, ?_⟩) ?_
      rotate_left
      · intro w
        go_simp
        try with_reducible rfl
      simp only [List.getElem_toArray, List.getElem_cons_zero, List.getElem_cons_succ, Act.put, List.setIfInBounds_toArray, List.set_cons_zero, List.set_cons_succ]
      refine wpAny_take (i := 18) (v := ?_) rfl (by kernel_rfl) (by kernel_rfl) (by kernel_rfl) (fun _ _ _ h => h) (Or.inl ⟨by rfl, ?_⟩) ?_
      rotate_left
      · intro w
        go_simp
        try with_reducible rfl
      simp only [List.getElem_toArray, List.getElem_cons_zero, List.getElem_cons_succ, Act.put, List.setIfInBounds_toArray, List.set_cons_zero, List.set_cons_succ]
      refine wpAny_done (by kernel_rfl) ?_ _
      clear g0 g1 g2 g3 S1
      obtain ⟨gg, rfl⟩ := HG2.out 0 hpos
      obtain ⟨y0, y1, y2, y3⟩ := (RowL.at (i := 0) (x := y) S2.out.drop.rowP rfl).cells
      simp only [Nat.zero_mul, Nat.zero_add] at y0 y1 y2 y3
      have hd2 := drop_sep (S2.out.below (below_new w2 (objL y))).swap y.s y.p
      rw [HLH.out] at hd2
      simp only [objL] at hd2
      have HD2 := hid hd2
      clear hd2 HG2
      go_wp2_with (go_at_call 13; refine Calls.mono HD2.out ?_; rintro e w3 ⟨v3, rfl, s3⟩; have S3 := hid s3.swap; clear s3 c2 rm y0 y1 y2 y3)
      have sd := S3.out.drew
      obtain ⟨a4, c4, w4, r4, d4, f4, s4⟩ := sd.drop.moreP x HGF.out
      have e8 : w3.drew.heap.size = w3.heap.size := rfl
      rw [e8] at r4
      have R4 := hid r4
      have c3 := S3.out.drop.cellP
      have c3a := cell_al c3 (.cells #[.int .i64 x.s, .int .i64 x.p, .int .i64 x.f, .int .i64 x.r] 33)
      obtain ⟨g0, g1, g2, g3⟩ := cellsL (x := x) S3.out.head
      have S5 := hid s4
      obtain ⟨av, cv, rfl, -⟩ := S3.out.drop.sliceP
      generalize hTl : (T).length = nT at *
      generalize hw5 : w4.setCell ⟨p, 1, none⟩ (.slice a4 (nT + 1) c4) = w5 at *
      clear s4 r4 e8 sd HGF
      go_region_law (refine step_append_run rfl (.tmp 40) (.tmp 42) 42 42 rfl (.slice av nT cv) (.slice (some ⟨w3.heap.size, 0, none⟩) 1 1) _ _ (by simp [Act.eval]) (by simp [Act.eval]) R4.out ?_)
      all_goals
        (try rw [hw5])
        clear hw5
        go_wp2
        exact bodyPost_end (v := .tuple #[]) (by simp [results, Try.results11, go_sem]) rfl ⟨rfl, _, by rw [HFS.out]; exact S5.out⟩

theorem fill_sep (s : Sep w0 r w (tbT kP n p v S :: R)) (x : Lr) :
    Calls Try.prog 11 #[ptr p, encL x] w fun e w' => e = .returned (.tuple #[]) ∧ ∃ v', Sep w0 r w' (tbT kP n p v' (fillS n S x) :: R) := by
  cases hb : S.any (isK x.s x.p) with
  | true => exact fill_had s x hb
  | false =>
    rcases Nat.lt_or_ge S.length n with hn | hn
    · exact fill_room s x hb hn
    · rcases S with _ | ⟨y, T⟩
      · have := s.good.pos
        simp at hn
        omega
      · exact fill_full s x hb hn
end
end Go.Proofs.Ytekjoeebomcmeaa

/-
  What isPlace, areRights, New, tableOf, mapped, Has, anywhere and Walk of package tables answer; no condition.
-/
import Derived.Test.YthjcodkgcffamaaPFields
namespace Go.Proofs.Ythjcodkgcffamaa
open Go.RowKit Go.Deep Go.Shelf

theorem isPlace_yes (i : Int) (w : World) (h0 : 0 ≤ i) (h1 : i < 64) : Calls Try.prog 32 #[.int .i64 i] w fun e w' => e = .returned (.bool true) ∧ w' = w := by
  go_enter Try.func32, Try.ntmps32
  go_wp2
  go_ret
  exact ⟨rfl, rfl⟩
theorem isPlace_no (i : Int) (w : World) (h : i < 0 ∨ 64 ≤ i) : Calls Try.prog 32 #[.int .i64 i] w fun e w' => e = .returned (.bool false) ∧ w' = w := by
  rcases h with h | h
  · have h' : ¬ 0 ≤ i := by omega
    go_enter Try.func32, Try.ntmps32
    go_wp2
    go_ret
    exact ⟨rfl, rfl⟩
  · have h0 : 0 ≤ i := by omega
    have h' : ¬ i < 64 := by omega
    go_enter Try.func32, Try.ntmps32
    go_wp2
    go_ret
    exact ⟨rfl, rfl⟩
theorem areRights_yes (i : Int) (w : World) (h0 : 0 ≤ i) (h1 : i ≤ 7) : Calls Try.prog 35 #[.int .i64 i] w fun e w' => e = .returned (.bool true) ∧ w' = w := by
  go_enter Try.func35, Try.ntmps35
  go_wp2
  go_ret
  exact ⟨rfl, rfl⟩
theorem areRights_no (i : Int) (w : World) (h : i < 0 ∨ 7 < i) : Calls Try.prog 35 #[.int .i64 i] w fun e w' => e = .returned (.bool false) ∧ w' = w := by
  rcases h with h | h
  · have h' : ¬ 0 ≤ i := by omega
    go_enter Try.func35, Try.ntmps35
    go_wp2
    go_ret
    exact ⟨rfl, rfl⟩
  · have h0 : 0 ≤ i := by omega
    have h' : ¬ i ≤ 7 := by omega
    go_enter Try.func35, Try.ntmps35
    go_wp2
    go_ret
    exact ⟨rfl, rfl⟩
theorem map_nil (w : World) : (binOp .eql 59 (.map none) (.map none)).run Try.prog w = .ok (.bool true) w := run_eql_map_nil_sl w 59 _ _ none Try.underlying59
theorem map_is (w : World) (b : Nat) : (binOp .eql 59 (.map (some b)) (.map none)).run Try.prog w = .ok (.bool false) w := run_eql_map_nil_sl w 59 _ _ (some b) Try.underlying59
theorem map_not (w : World) (r : Option Nat) : (binOp .neq 59 (.map r) (.map none)).run Try.prog w = .ok (.bool (!r.isNone)) w := by
  simp only [binOp]
  simp [show Op.equal 59 (.map r) (.map none) = Op.equalIn (9999 + 1) 59 (.map r) (.map none) from rfl, run_equalIn_map_nil_sl w 9999 59 _ _ r Try.underlying59]
theorem map_not_nil (w : World) : (binOp .neq 59 (.map none) (.map none)).run Try.prog w = .ok (.bool false) w := map_not w none
theorem map_not_is (w : World) (b : Nat) : (binOp .neq 59 (.map (some b)) (.map none)).run Try.prog w = .ok (.bool true) w := map_not w (some b)
set_option maxRecDepth 100000 in
theorem zero_space : ∃ zs : Array Value, zs.size = 128 ∧ (∀ i, i < 64 → zs[i]? = some (.map none) ∧ zs[64 + i]? = some (.int .i64 0)) ∧ ∀ w, (zeroValue 63).run Try.prog w = .ok (.agg zs) w := by
  refine ⟨(List.replicate 64 (Value.map none) ++ List.replicate 64 (Value.int .i64 0)).toArray, by simp, fun i hi => ⟨?_, ?_⟩, fun w => by kernel_rfl⟩
  · rw [List.getElem?_toArray, List.getElem?_append_left (by simpa using hi), List.getElem?_replicate, if_pos hi]
  · rw [List.getElem?_toArray, List.getElem?_append_right (by simp), List.length_replicate, Nat.add_sub_cancel_left, List.getElem?_replicate, if_pos hi]
theorem new_space (w : World) (zs : Array Value) (h0 : zs.size = 128) (h1 : ∀ i, i < 64 → zs[i]? = some (.map none) ∧ zs[64 + i]? = some (.int .i64 0)) : SpP w.heap.size (fun _ => none) sp0 (w.alloc (.cells zs 63)) :=
  ⟨⟨zs, blk_alloc_new _ _, h0, h1⟩, fun _ _ => rfl, fun i _ => .inl ⟨rfl, fun n => by unfold atPl sp0; simp⟩, fun _ _ _ _ _ h => (by cases h), fun _ _ h => (by cases h), good0⟩
section
variable {w0 w : World} {r p : Nat} {m : Nat → Option Nat} {S : Sp} {R : List Th}
set_option maxHeartbeats 1000000 in
theorem new_sep (s : Sep w0 r w R) : Calls Try.prog 9 #[] w fun e w' => ∃ p m, e = .returned (ptr p) ∧ Sep w0 r w' (spT p m sp0 :: R) := by
  obtain ⟨zs, h0, h1, hz⟩ := zero_space
  have HK : Hid (Sep w0 r (w.alloc (.cells zs 63)) (spT w.heap.size (fun _ => none) sp0 :: R)) := s.new (t := spT w.heap.size (fun _ => none) sp0) (new_space w zs h0 h1) (below_new _ _) (by
    rintro x (rfl | ⟨i, _, hx⟩)
    · exact Nat.le_refl _
    · cases hx)
  clear h1 s
  go_enter Try.func9, Try.ntmps9
  go_wp2
  go_ret
  exact ⟨_, _, rfl, HK.out⟩
theorem tableOf_bad (n : Int) (h : n < 0 ∨ 4096 ≤ n) (w : World) : Calls Try.prog 36 #[ptr p, .int .i64 n] w fun e w' => e = .returned (.tuple #[.map none, .int .i64 1]) ∧ w' = w := by
  rcases h with h | h
  · go_enter Try.func36, Try.ntmps36
    go_wp2
    go_ret2
    exact ⟨rfl, rfl⟩
  · have h0 : ¬ n < 0 := by omega
    go_enter Try.func36, Try.ntmps36
    go_wp2
    go_ret2
    exact ⟨rfl, rfl⟩
def tofE (mo : Option Nat) : Int := if mo.isSome = true then 0 else 141
set_option maxRecDepth 100000 in
theorem tableOf_at (h : SpP p m S w) (N : Nat) (hN : N < 4096) : Calls Try.prog 36 #[ptr p, .int .i64 (N : Int)] w fun e w' => e = .returned (.tuple #[.map (m (N / 64)), .int .i64 (tofE (m (N / 64)))]) ∧ w' = w := by
  have hi : N / 64 < 64 := by omega
  have hc := h.cell hi
  have h0 : ¬ (N : Int) < 0 := by omega
  have h1 : ¬ 4096 ≤ (N : Int) := by omega
  have hu : IntKind.u64.wrap (N : Int) = (N : Int) := by rw [IntKind.wrap_u64]; omega
  have HP := hid (place_of N hN)
  clear h
  generalize N / 64 = i at *
  have hi2 : (i : Int) < 64 := by omega
  cases hm : m i with
  | none =>
    rw [hm] at hc
    have hq := map_nil
    go_enter Try.func36, Try.ntmps36
    go_wp2_with (go_at_call 42; refine Calls.mono (HP.out _) ?_; rintro e w' ⟨rfl, rfl⟩)
    go_ret2
    exact ⟨rfl, rfl⟩
  | some b =>
    rw [hm] at hc
    have hq := fun w => map_is w b
    go_enter Try.func36, Try.ntmps36
    go_wp2_with (go_at_call 42; refine Calls.mono (HP.out _) ?_; rintro e w' ⟨rfl, rfl⟩)
    go_ret2
    exact ⟨rfl, rfl⟩
/-- What mapped answers: the map at the page's place, what is there, whether it is. -/
theorem mapped_bad (n : Int) (h : n < 0 ∨ 4096 ≤ n) (w : World) : Calls Try.prog 38 #[ptr p, .int .i64 n] w fun e w' => e = .returned (.tuple #[.map none, .agg #[.int .i64 0, .int .i64 0], .int .i64 1]) ∧ Below w.heap.size w w' := by
  have HP := hid (fun w => tableOf_bad (p := p) n h w)
  clear h
  go_enter Try.func38, Try.ntmps38
  go_wp2_with (go_at_call 36; refine Calls.mono (HP.out _) ?_; rintro e w' ⟨rfl, rfl⟩)
  exact bodyPost_ret (v := .tuple #[.map none, .agg #[.int .i64 0, .int .i64 0], .int .i64 1]) (by simp [results, Try.results38, go_sem]) rfl ⟨rfl, below_new _ _⟩
set_option maxHeartbeats 1000000 in
set_option maxRecDepth 100000 in
theorem mapped_none (h : SpP p m S w) (N : Nat) (hN : N < 4096) (hf : S.f N = none) : Calls Try.prog 38 #[ptr p, .int .i64 (N : Int)] w fun e w' => e = .returned (.tuple #[.map none, .agg #[.int .i64 0, .int .i64 0], .int .i64 141]) ∧ Below w.heap.size w w' := by
  have HP := hid (fun (u : World) (b : Below w.heap.size w u) => tableOf_at (h.below b) N hN)
  have hi : N / 64 < 64 := by omega
  have HM := hid (fun (u : World) (b : Below w.heap.size w u) => (h.below b).maps (N / 64) hi)
  clear h
  have hfa : atPl S.f ((N / 64 : Nat) : Int) (N : Int) = none := by unfold atPl; split <;> simp [hf]
  generalize N / 64 = i at *
  generalize atPl S.f (i : Int) = g at *
  cases hm : m i with
  | none =>
    rw [hm] at HP
    simp only [tofE, Option.isSome_none, Bool.false_eq_true, if_false] at HP
    go_enter Try.func38, Try.ntmps38
    go_wp2_with (go_at_call 36; refine Calls.mono (HP.out _ (below_new _ _)) ?_; rintro e w' ⟨rfl, rfl⟩)
    exact bodyPost_ret (v := .tuple #[.map none, .agg #[.int .i64 0, .int .i64 0], .int .i64 141]) (by simp [results, Try.results38, go_sem]) rfl ⟨rfl, below_new _ _⟩
  | some b =>
    rw [hm] at HP HM
    simp only [tofE, Option.isSome_some, if_true] at HP
    have hlk := fun (u : World) (k : Below w.heap.size w u) => (HM.out u k).is.look (s := (N : Int)) (by unfold I64; omega) true
    rw [hfa] at hlk
    simp only [encC, encS, pg0, Option.getD_none, Option.isSome_none, if_true] at hlk
    have hl1 := hlk _ (below_new w (.cells #[.int .i64 0, .int .i64 0] 31))
    clear hlk HM
    go_enter Try.func38, Try.ntmps38
    go_wp2_with (go_at_call 36; refine Calls.mono (HP.out _ (below_new _ _)) ?_; rintro e w' ⟨rfl, rfl⟩)
    exact bodyPost_ret (v := .tuple #[.map none, .agg #[.int .i64 0, .int .i64 0], .int .i64 141]) (by simp [results, Try.results38, go_sem]) rfl ⟨rfl, Below.then (below_new _ _) (below_new _ _) (by simp)⟩
set_option maxHeartbeats 1000000 in
set_option maxRecDepth 100000 in
theorem mapped_some (h : SpP p m S w) (N : Nat) (hN : N < 4096) {x : Pg} (hf : S.f N = some x) : Calls Try.prog 38 #[ptr p, .int .i64 (N : Int)] w fun e w' => e = .returned (.tuple #[.map (m (N / 64)), .agg #[.int .i64 x.fr, .int .i64 x.rt], .int .i64 0]) ∧ Below w.heap.size w w' := by
  have HP := hid (fun (u : World) (b : Below w.heap.size w u) => tableOf_at (h.below b) N hN)
  have hi : N / 64 < 64 := by omega
  have HM := hid (fun (u : World) (b : Below w.heap.size w u) => (h.below b).maps (N / 64) hi)
  have hfa : atPl S.f ((N / 64 : Nat) : Int) (N : Int) = some x := by unfold atPl; rw [if_pos (by omega)]; exact hf
  obtain ⟨b, hm⟩ : ∃ b, m (N / 64) = some b := by
    have h1 := (h.good.f _ _ hf).2.2
    have h2 := h.is (N / 64) hi
    unfold hasB at h2
    rw [show ((N / 64 : Nat) : Int) = (N : Int) / 64 by omega, h1] at h2
    exact Option.isSome_iff_exists.1 h2
  rw [hm] at HP HM ⊢
  clear h hf
  generalize N / 64 = i at *
  generalize atPl S.f (i : Int) = g at *
  simp only [tofE, Option.isSome_some, if_true] at HP
  have hlk := fun (u : World) (k : Below w.heap.size w u) => (HM.out u k).is.look (s := (N : Int)) (by unfold I64; omega) true
  rw [hfa] at hlk
  simp only [encC, encS, Option.getD_some, Option.isSome_some, if_true] at hlk
  have hl1 := hlk _ (below_new w (.cells #[.int .i64 0, .int .i64 0] 31))
  clear hlk HM hfa
  obtain ⟨a, c⟩ := x
  simp only at hl1 ⊢
  go_enter Try.func38, Try.ntmps38
  go_wp2_with (go_at_call 36; refine Calls.mono (HP.out _ (below_new _ _)) ?_; rintro e w' ⟨rfl, rfl⟩)
  go_region
  go_wp2
  exact bodyPost_ret (v := .tuple #[.map (some b), .agg #[.int .i64 a, .int .i64 c], .int .i64 0]) (by simp [results, Try.results38, go_sem]) rfl ⟨rfl, (Below.then (below_new _ _) (below_new _ _) (by simp)).drew⟩
end
end Go.Proofs.Ythjcodkgcffamaa

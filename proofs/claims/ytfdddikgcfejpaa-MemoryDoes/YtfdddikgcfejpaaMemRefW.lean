/-
  Words and Move of the document's own answer for layer 2, each by its contract; no condition of ours.
-/
import Derived.Test.YtfdddikgcfejpaaMemRef
namespace Go.Proofs.Ytfdddikgcfejpaa
open Go.RowKit Go.Deep
theorem rwords_no (b c : Nat) (L : List Int) (a n : Int) (w : World) (hm : Mem 42 w b c L) (hl : L.length ≤ 65536) (ht : thereB L.length a n = false) :
    Calls Try.prog 27 #[.pointer (some ⟨b, 0, none⟩), .int .i64 a, .int .i64 n] w fun e w' => e = .returned (.tuple #[.slice none 0 0, .int .i64 20]) ∧ w' = w := by
  go_enter Try.func27, Try.ntmps27
  go_wp2_with fail
  refine (rthere_no b c L a n w hm hl ht).mono ?_
  rintro e w' ⟨rfl, rfl⟩
  go_wp2
  go_ret2
  exact ⟨rfl, rfl⟩
/-- Where the words from place a on begin, as the document's answer cuts them. -/
def cutAt (c len a : Nat) : Addr := if len = a then ⟨c, 0, none⟩ else ⟨c, a, none⟩
theorem told_cut {w : World} {c : Nat} {L : List Int} (h : Row w c L) (a n : Nat) (ha : a + n ≤ L.length) : Told w (some (cutAt c L.length a)) (wordsL L a n) := by
  by_cases hn : L.length = a
  · obtain rfl : n = 0 := by omega
    exact .inl (by simp [wordsL])
  · refine .inr ⟨c, a, by simp [cutAt, hn], h.lt, fun j hj => ?_⟩
    rw [wordsL_len L a n ha] at hj
    rw [wordsL_get L a n j ha hj]
    exact h.cell (by omega)
/-- append of a part of a row onto nothing. -/
theorem append_cut (w : World) (c : Nat) (L : List Int) (a n cap : Nat) (h : Row w c L) (ha : a + n ≤ L.length) (hl : L.length ≤ 65536) (ty : TypeId) :
    ∃ v' w', (Builtin.append_ #[36, 36] ty #[.slice (some ⟨w.heap.size, 0, none⟩) 0 0, .slice (some (cutAt c L.length a)) n cap]).run Try.prog (w.alloc (.cells #[] 30)) = .ok v' w' ∧ Own w.heap.size w' v' (wordsL L a n) ∧ Below w.heap.size w w' := by
  have k5 := below_new w (.cells #[] 30)
  have e := wordsL_len L a n ha
  obtain ⟨v6, w6, h6, o6, g6⟩ := append_words w.heap.size (w.alloc (.cells #[] 30)) ty (.slice (some ⟨w.heap.size, 0, none⟩) 0 0) [] (wordsL L a n) (cutAt c L.length a) cap (own_new _ _ (Nat.le_refl _)) ((told_cut h a n ha).below k5) (by simp; omega) (by simp)
  rw [e] at h6
  exact ⟨v6, w6, h6, by simpa using o6, Below.grown k5 g6 (by simp) (fun k hk => by simp [Value.ownBlock] at hk; omega)⟩
theorem rwords_yes (b c : Nat) (L : List Int) (a n : Nat) (w : World) (hm : Mem 42 w b c L) (hl : L.length ≤ 65536) (h : a + n ≤ L.length) :
    Calls Try.prog 27 #[.pointer (some ⟨b, 0, none⟩), .int .i64 a, .int .i64 n] w fun e w' => ∃ ao cap, e = .returned (.tuple #[.slice ao n cap, .int .i64 0]) ∧ Told w' ao (wordsL L a n) ∧ Below w.heap.size w w' := by
  have ht := rthere_yes b c L a n w hm hl h
  have hc := hm.cell
  have hc2 := (hm.below (below_new w (.cells #[] 30))).cell
  have e := wordsL_len L a n h
  obtain ⟨v6, w6, h6, o6, b6⟩ := append_cut w c L a n (L.length - a) hm.row h hl 36
  obtain ⟨ao, cp, rfl, t6, _⟩ := o6.told
  rw [e] at h6
  have H6 : Hid ((Builtin.append_ #[36, 36] 36 #[.slice (some ⟨w.heap.size, 0, none⟩) 0 0, .slice (some (cutAt c L.length a)) n (L.length - a)]).run Try.prog (w.alloc (.cells #[] 30)) = .ok (.slice ao n cp) w6) := h6
  clear h6 o6 e
  generalize L.length = len at *
  by_cases hn : len = a
  · obtain rfl : n = 0 := by omega
    subst hn
    simp only [cutAt, if_true, Nat.sub_self] at H6
    go_enter Try.func27, Try.ntmps27
    go_wp2_with fail
    refine ht.mono ?_
    rintro e w' ⟨rfl, rfl⟩
    go_wp2_with (at_builtin; refine wpList_append_words rfl (.tmp 13) (.tmp 22) rfl _ _ (.slice ao 0 cp) w6 rfl rfl (by exact H6.out) ?_)
    go_ret2
    exact ⟨ao, cp, rfl, t6, b6⟩
  · have hs : a + n - a = n := by omega
    simp only [cutAt, hn, if_false] at H6
    go_enter Try.func27, Try.ntmps27
    go_wp2_with fail
    refine ht.mono ?_
    rintro e w' ⟨rfl, rfl⟩
    go_wp2_with (at_builtin; refine wpList_append_words rfl (.tmp 13) (.tmp 22) rfl _ _ (.slice ao n cp) w6 rfl rfl (by first | exact H6.out | (rw [hs]; exact H6.out)) ?_)
    go_ret2
    exact ⟨ao, cp, rfl, t6, b6⟩
theorem rmove_no (b c : Nat) (L : List Int) (t f n : Int) (w : World) (hm : Mem 42 w b c L) (hl : L.length ≤ 65536) (h : thereB L.length t n = false ∨ (thereB L.length t n = true ∧ thereB L.length f n = false)) :
    Calls Try.prog 29 #[.pointer (some ⟨b, 0, none⟩), .int .i64 t, .int .i64 f, .int .i64 n] w fun e w' => e = .returned (.int .i64 20) ∧ w' = w := by
  rcases h with h1 | ⟨h1, h2⟩
  · have ht := rthere_no b c L t n w hm hl h1
    go_enter Try.func29, Try.ntmps29
    go_wp2_with fail
    refine ht.mono ?_
    rintro e w' ⟨rfl, rfl⟩
    go_wp2
    go_ret
    exact ⟨rfl, rfl⟩
  · obtain ⟨g1, g2, g3⟩ := thereB_of h1
    obtain ⟨t', rfl⟩ := Int.eq_ofNat_of_zero_le g1
    obtain ⟨n', rfl⟩ := Int.eq_ofNat_of_zero_le g2
    have ht := rthere_yes b c L t' n' w hm hl (by omega)
    have hg := rthere_no b c L f n' w hm hl h2
    clear h1 h2 g1 g2 g3
    go_enter Try.func29, Try.ntmps29
    go_wp2_with fail
    refine ht.mono ?_
    rintro e w' ⟨rfl, rfl⟩
    go_wp2_with fail
    refine hg.mono ?_
    rintro e w' ⟨rfl, rfl⟩
    go_wp2
    go_ret
    exact ⟨rfl, rfl⟩
/-- The first k words of cs laid over M from place t on. -/
def layL (M : List Int) (t k : Nat) (cs : List Int) : List Int := splice M t (cs.take k)
theorem layL_len (M cs : List Int) (t k : Nat) (h : t + cs.length ≤ M.length) (hk : k ≤ cs.length) : (layL M t k cs).length = M.length := length_splice _ _ _ (by simp; omega)
theorem layL_get (M cs : List Int) (t k j : Nat) (h : t + cs.length ≤ M.length) (hk : k ≤ cs.length) : (layL M t k cs).getD j 0 = if t ≤ j ∧ j < t + k then cs.getD (j - t) 0 else M.getD j 0 := by
  have e : (cs.take k).length = k := by simp; omega
  rw [layL, splice_get _ _ _ _ (by omega), e]
  split
  · rename_i hh
    have : j - t < k := by omega
    simp [this]
  · rfl
theorem layL_step (M cs : List Int) (t k : Nat) (h : t + cs.length ≤ M.length) (hk : k < cs.length) : (layL M t k cs).set (t + k) (cs.getD k 0) = layL M t (k + 1) cs := by
  have e1 := layL_len M cs t k h (by omega)
  have e2 := layL_len M cs t (k + 1) h (by omega)
  refine list_ext (by simp [e1, e2]) fun j hj => ?_
  rw [List.length_set, e1] at hj
  rw [layL_get M cs t (k + 1) j h (by omega)]
  have e3 := layL_get M cs t k j h (by omega)
  rw [List.getD_eq_getElem?_getD, List.getElem?_set]
  by_cases hjk : t + k = j
  · subst hjk
    rw [if_pos rfl, if_pos (by omega), if_pos (by omega), show t + k - t = k by omega]
    rfl
  · rw [if_neg hjk, ← List.getD_eq_getElem?_getD, e3]
    by_cases hj2 : t ≤ j ∧ j < t + k
    · rw [if_pos hj2, if_pos (by omega)]
    · rw [if_neg hj2, if_neg (by omega)]
theorem layL_zero (M cs : List Int) (t : Nat) : layL M t 0 cs = M := by simp [layL, splice]
theorem layL_all (M cs : List Int) (t k : Nat) (h : k = cs.length) : layL M t k cs = splice M t cs := by subst h; simp [layL]
end Go.Proofs.Ytfdddikgcfejpaa

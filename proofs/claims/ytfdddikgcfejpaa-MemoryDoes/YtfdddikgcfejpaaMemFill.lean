/-
  Fill of package memory by its contract; no condition of ours.
-/
import Derived.Test.YtfdddikgcfejpaaMemDoes
namespace Go.Proofs.Ytfdddikgcfejpaa
open Go.RowKit Go.Deep
theorem fillL_zero (L : List Int) (a : Nat) (v : Int) : fillL L a 0 v = L := by simp [fillL, splice]
theorem fillL_step (L : List Int) (a k : Nat) (v : Int) (h : a + k < L.length) : (fillL L a k v).set (a + k) v = fillL L a (k + 1) v := by
  have e1 := fillL_len L a k v (by omega)
  have e2 := fillL_len L a (k + 1) v (by omega)
  refine list_ext (by simp [e1, e2]) fun j hj => ?_
  rw [List.length_set, e1] at hj
  rw [fillL_get L a (k + 1) j v (by omega)]
  have e3 := fillL_get L a k j v (by omega)
  rw [List.getD_eq_getElem?_getD, List.getElem?_set]
  by_cases hjk : a + k = j
  · subst hjk
    rw [if_pos rfl, if_pos (by omega), if_pos (by omega)]
    rfl
  · rw [if_neg hjk, ← List.getD_eq_getElem?_getD, e3]
    by_cases hj2 : a ≤ j ∧ j < a + k
    · rw [if_pos hj2, if_pos (by omega)]
    · rw [if_neg hj2, if_neg (by omega)]
theorem fillL_over (L : List Int) (a n : Nat) (u v : Int) (h : a + n ≤ L.length) : fillL (fillL L a n u) a n v = fillL L a n v := by
  have e1 := fillL_len L a n u h
  have e2 := fillL_len L a n v h
  refine list_ext (by rw [fillL_len _ _ _ _ (by omega), e1, e2]) fun j hj => ?_
  rw [fillL_get _ a n j v (by omega), fillL_get L a n j v h, fillL_get L a n j u h]
  split <;> rfl
theorem clear_words (w : World) (ty : TypeId) (c a n cap : Nat) (L : List Int) (hr : Row w c L) (h : a + n ≤ L.length) :
    ∃ w2, (Builtin.clear_ #[36] ty #[.slice (partAt c a n) n cap]).run Try.prog w = .ok (.tuple #[]) w2 ∧ Row w2 c (fillL L a n 0) ∧ Upto c w w2 := by
  by_cases hn : n = 0
  · subst hn
    refine ⟨w, ?_, by rw [fillL_zero]; exact hr, Upto.refl _ _⟩
    simp [Builtin.clear_, run_underlying Try.underlying36, partAt]
  · have hp : partAt c a n = some ⟨c, a, none⟩ := by simp [partAt, hn]
    have hzc : (Builtin.zeroCells (Value.int .u64 0).cells n).toList = cells64 (List.replicate n 0) := by
      rw [← cells64_rep, show (Value.int .u64 0).cells = #[Value.int .u64 0] from rfl]
      simp [Builtin.zeroCells]
      apply List.ext_getElem
      · simp
      · intro i h1 h2
        simp [Nat.mod_one]
    have hst := run_storeCells_at Try.prog c a 30 (cells64 (List.replicate n 0)) 0 (cells64 L).toArray w hr (by simp [cells64]; omega) (cells64_one _)
    simp only [Nat.add_zero] at hst
    rw [hp]
    obtain ⟨m, rfl⟩ : ∃ m, n = m + 1 := ⟨n - 1, by omega⟩
    refine ⟨_, by simp [Builtin.clear_, run_underlying Try.underlying36, hzc, hst]; rfl, ?_, upto_setRow _ _ _⟩
    unfold Row
    rw [setRow_heap w c (cells64 L).toArray _ 30 (0, 0) hr, fillL, ← cells64_splice]
    simp [splice]
theorem fill_no (b c : Nat) (L : List Int) (a n v : Int) (w : World) (hm : Mem 55 w b c L) (hl : L.length ≤ 65536) (ha : a ≤ 9223372036854775807) (ht : thereB L.length a n = false) :
    Calls Try.prog 12 #[.pointer (some ⟨b, 0, none⟩), .int .i64 a, .int .i64 n, .int .u64 v] w fun e w' => e = .returned (.int .i64 20) ∧ w' = w := by
  go_enter Try.func12, Try.ntmps12
  go_wp2_with fail
  refine (there_any b c L a n w hm hl ha).mono ?_
  rintro e w' ⟨rfl, rfl⟩
  rw [ht]
  go_wp2
  go_ret
  exact ⟨rfl, rfl⟩
theorem fill_yes (b c : Nat) (L : List Int) (a n : Nat) (v : Int) (w : World) (hm : Mem 55 w b c L) (hl : L.length ≤ 65536) (h : a + n ≤ L.length) :
    Calls Try.prog 12 #[.pointer (some ⟨b, 0, none⟩), .int .i64 a, .int .i64 n, .int .u64 v] w fun e w' => e = .returned (.int .i64 0) ∧ Mem 55 w' b c (fillL L a n v) ∧ Upto c w w' := by
  have ht := thereB_yes (len := L.length) (a := a) (n := n) (by omega) (by omega) (by omega)
  obtain ⟨w2, hcl, r2, u2⟩ := clear_words w 0 c a n n L hm.row h
  have e1 := fillL_len L a n 0 h
  go_enter Try.func12, Try.ntmps12
  go_wp2_with fail
  refine (there_any b c L a n w hm hl (by omega)).mono ?_
  rintro e w' ⟨rfl, rfl⟩
  rw [ht]
  go_wp2_with fail
  refine (part_any b c L a n _ hm hl h).mono ?_
  rintro e w' ⟨rfl, rfl⟩
  by_cases hv : v = 0
  · subst hv
    go_wp2
    go_ret
    exact ⟨rfl, hm.turn u2 r2 e1, u2⟩
  have hv2 : (v == 0) = false := by simpa using hv
  have e2 := fillL_over L a n 0 v h
  have e3 := fillL_len L a n v h
  have HM : ∀ u, Upto c w' u → Row u c (fillL L a n v) → Mem 55 u b c (fillL L a n v) := fun u h1 h2 => hm.turn h1 h2 e3
  clear hv
  generalize fillL L a n 0 = M at *
  go_wp2
  go_loopw [25] (fun i wr => ∃ k : Nat, k ≤ n ∧ i = .int .i64 k ∧ Row wr c (fillL M a k v) ∧ Upto c w' wr) (fun i _ => n - (intOf i).toNat)
  case atStart => exact ⟨0, Nat.zero_le _, rfl, by rw [fillL_zero]; exact r2, u2⟩
  case round =>
    obtain ⟨k, hk, rfl, hr, hu⟩ := hrel
    by_cases hkn : k < n
    · have hp : partAt c a n = some ⟨c, a, none⟩ := by have : n ≠ 0 := by omega
                                                       simp [partAt, this]
      have hlen := fillL_len M a k v (by omega)
      have hx := hr.cell (j := a + k) (by omega)
      have hf := hr.frozen (a + k)
      have hki : (k : Int) < (n : Int) := by omega
      have hr2 : Row (wr.setCell ⟨c, a + k, none⟩ (.int .u64 v)) c (fillL M a (k + 1) v) := by
        rw [← fillL_step M a k v (by omega)]
        exact hr.set _ _
      have hu2 := hu.setCell (a + k) (.int .u64 v)
      clear hr hu e2 HM
      generalize (fillL M a k v).getD (a + k) 0 = x at *
      go_wp2
      go_roundw
      case rel => exact ⟨k + 1, by omega, by go_num, hr2, hu2⟩
      case measure => simp [intOf]; omega
    · have hkn' : k = n := by omega
      subst hkn'
      have hr' : Row wr c (fillL L a k v) := by rw [← e2]; exact hr
      clear hr e2
      go_wp2
      go_ret
      exact ⟨rfl, HM _ hu hr', hu⟩
end Go.Proofs.Ytfdddikgcfejpaa

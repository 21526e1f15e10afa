/-
  Move of the document's own answer for layer 2, where the words are there; no condition of ours.
-/
import Derived.Test.YtfdddikgcfejpaaMemRefW
namespace Go.Proofs.Ytfdddikgcfejpaa
open Go.RowKit Go.Deep
theorem Upto.same {c : Nat} {w u u' : World} (h : Upto c w u) (e1 : u'.heap = u.heap) (e2 : u'.os = u.os) (e3 : u'.tape = u.tape) (e4 : u'.output = u.output) : Upto c w u' :=
  ⟨e2.trans h.os, e3.trans h.tape, e4.trans h.output, by rw [e1]; exact h.size, fun k hk hc => by rw [e1]; exact h.block k hk hc⟩
set_option maxHeartbeats 1000000 in
theorem rmove_yes (b c : Nat) (L : List Int) (t f n : Nat) (w : World) (hm : Mem 42 w b c L) (hl : L.length ≤ 65536) (h : t + n ≤ L.length) (hf : f + n ≤ L.length) :
    Calls Try.prog 29 #[.pointer (some ⟨b, 0, none⟩), .int .i64 t, .int .i64 f, .int .i64 n] w fun e w' => e = .returned (.int .i64 0) ∧ Mem 42 w' b c (moveL L t f n) ∧ Upto c w w' := by
  have h1 := rthere_yes b c L t n w hm hl h
  have h2 := rthere_yes b c L f n w hm hl hf
  have hc2 := (hm.below (below_new w (.cells #[] 30))).cell
  have e := wordsL_len L f n hf
  obtain ⟨v6, w6, h6, o6, b6⟩ := append_cut w c L f n (L.length - f) hm.row hf hl 36
  obtain ⟨ao, cp, rfl, t6, ha⟩ := o6.told
  have m6 := hm.below b6
  have u6 := Upto.of b6 c
  have q : c < w.heap.size := hm.c_lt
  rw [e] at h6
  have H6 : Hid ((Builtin.append_ #[36, 36] 36 #[.slice (some ⟨w.heap.size, 0, none⟩) 0 0, .slice (some (cutAt c L.length f)) n (L.length - f)]).run Try.prog (w.alloc (.cells #[] 30)) = .ok (.slice ao n cp) w6) := h6
  have HM : Hid (moveL L t f n = layL L t n (wordsL L f n)) := by rw [layL_all L _ t n e.symm]; rfl
  clear h6 o6 b6 hm
  generalize wordsL L f n = cs at *
  have HE : Hid (cs.length = n) := e
  have HL : Hid (∀ k, k < n → (layL L t k cs).set (t + k) (cs.getD k 0) = layL L t (k + 1) cs ∧ (layL L t k cs).length = L.length) := fun k hk => ⟨layL_step L cs t k (by omega) (by omega), layL_len L cs t k (by omega) (by omega)⟩
  have HZ : Hid (layL L t 0 cs = L) := layL_zero L cs t
  clear e
  generalize hlen : L.length = len at *
  clear hlen
  by_cases hn : len = f
  · obtain rfl : n = 0 := by omega
    subst hn
    simp only [cutAt, if_true, Nat.sub_self] at H6
    have m7 : Mem 42 w6 b c (moveL L t len 0) := by rw [HM.out, HZ.out]; exact m6
    clear HM HL HZ
    go_enter Try.func29, Try.ntmps29
    go_wp2_with fail
    refine h1.mono ?_
    rintro e w' ⟨rfl, rfl⟩
    go_wp2_with fail
    refine h2.mono ?_
    rintro e w' ⟨rfl, rfl⟩
    go_wp2_with (at_builtin; refine wpList_append_words rfl (.tmp 23) (.tmp 32) rfl _ _ (.slice ao 0 cp) w6 rfl rfl (by exact H6.out) ?_)
    refine wp_loop_rounds 1 ?_
    rw [rounds_succ]
    go_wp2
    go_ret
    exact ⟨rfl, m7, u6⟩
  · have hs : f + n - f = n := by omega
    simp only [cutAt, hn, if_false] at H6
    go_enter Try.func29, Try.ntmps29
    go_wp2_with fail
    refine h1.mono ?_
    rintro e w' ⟨rfl, rfl⟩
    go_wp2_with fail
    refine h2.mono ?_
    rintro e w' ⟨rfl, rfl⟩
    go_wp2_with (at_builtin; refine wpList_append_words rfl (.tmp 23) (.tmp 32) rfl _ _ (.slice ao n cp) w6 rfl rfl (by first | exact H6.out | (rw [hs]; exact H6.out)) ?_)
    clear H6 h1 h2
    go_loopw [10] (fun i wr => ∃ k : Nat, k ≤ n ∧ i = .int .i64 k ∧ Mem 42 wr b c (layL L t k cs) ∧ (∀ g, c < g → wr.heap[g]? = w6.heap[g]?) ∧ Upto c w' wr) (fun i _ => n - (intOf i).toNat)
    case atStart => exact ⟨0, Nat.zero_le _, rfl, by rw [HZ.out]; exact m6, fun _ _ => rfl, u6⟩
    case round =>
      obtain ⟨k, hk, rfl, mr, gr, ur⟩ := hrel
      by_cases hkn : k < n
      · obtain ⟨e1, e2⟩ := HL.out k hkn
        have hc := mr.cell
        rw [e2] at hc
        have hx := mr.row.cell (j := t + k) (by omega)
        have hf2 := mr.row.frozen (t + k)
        obtain ⟨g, o, rfl, hy⟩ : ∃ g o, ao = some ⟨g, o, none⟩ ∧ wr.cell? ⟨g, o + k, none⟩ = some (.int .u64 (cs.getD k 0)) := by
          rcases t6 with rfl | ⟨g, o, e, hb, hc⟩
          · have := HE.out; simp at this; omega
          · refine ⟨g, o, e, ?_⟩
            have hg := ha _ e
            rw [World.cell?_of_block (w := w6) (gr g (by simp at hg; omega))]
            exact hc k (by have := HE.out; omega)
        have m2 := mr.set (t + k) (cs.getD k 0)
        rw [e1] at m2
        have u2 := ur.setCell (t + k) (.int .u64 (cs.getD k 0))
        have g2 : ∀ g, c < g → (wr.setCell ⟨c, t + k, none⟩ (.int .u64 (cs.getD k 0))).heap[g]? = w6.heap[g]? := fun g hg => by rw [blk_setCell_other _ _ _ _ (by simp; omega)]; exact gr g hg
        have M2 : Hid _ := m2
        have U2 : Hid _ := u2
        have G2 : Hid _ := g2
        clear m2 u2 g2 mr ur gr e1 e2 m6 u6 t6 ha HM HL HZ
        generalize cs.getD k 0 = x at *
        generalize (layL L t k cs).getD (t + k) 0 = x' at *
        have g3 : (k : Int) < (n : Int) := by omega
        have g4 : (t : Int) + (k : Int) < (len : Int) := by omega
        have g5 : IntKind.i64.wrap ((t : Int) + (k : Int)) = (t : Int) + (k : Int) := by rw [IntKind.wrap_i64]; omega
        have g6 : ((t : Int) + (k : Int)).toNat = t + k := by omega
        go_wp2
        go_region
        all_goals (try go_wp2)
        go_roundw
        case rel => exact ⟨k + 1, by omega, by go_num, M2.out.heap rfl, fun g hg => G2.out g hg, U2.out.same rfl rfl rfl rfl⟩
        case measure => simp [intOf]; omega
      · have hkn' : k = n := by omega
        subst hkn'
        rw [← HM.out] at mr
        go_wp2
        go_ret
        exact ⟨rfl, mr, ur⟩
end Go.Proofs.Ytfdddikgcfejpaa

/-
  The document's Print by its contract; no condition of ours.
-/
import Derived.Test.YtkbbjpnkfmegnaaSLaw
import Derived.Test.YtkbbjpnkfmegnaaSRRight
namespace Go.Proofs.Ytkbbjpnkfmegnaa
open Go.RowKit Go.Deep
theorem Own8.told {B : Nat} {w : World} {v : Value} {L : List Int} (h : Own8 B w v L) : ∃ ao cap, v = .slice ao L.length cap := h.slice
/-- One byte more. -/
theorem byte_more (r : Nat) (w W : World) (v : Value) (A : List Int) (y : Int) (ho : Own8 r W v A) (hB : Below r w W) (hr : r ≤ W.heap.size) (hl : A.length + 1 ≤ 1000000) :
    ∃ ao cap w', (Builtin.append_ #[38, 38] 38 #[v, .slice (some ⟨W.heap.size, 0, none⟩) 1 1]).run Try.prog (W.alloc (.cells #[.int .u8 y] 5)) = .ok (.slice ao (A ++ [y]).length cap) w' ∧ Own8 r w' (.slice ao (A ++ [y]).length cap) (A ++ [y]) ∧ Below r w w' ∧ r ≤ w'.heap.size := by
  obtain ⟨v', w', hrun, ho', hg⟩ := append_bytes r W 38 v A [y] ho (by simpa using hl) hr
  obtain ⟨ao, cap, rfl⟩ := ho'.slice
  have hs := hg.size
  simp at hs
  refine ⟨ao, cap, w', hrun, ho', ?_, by omega⟩
  have hb : Below r W (W.alloc (.cells (cells8 [y]).toArray 5)) := (below_new _ _).mono hr
  exact hB.trans (hb.grown hg (by simp; omega) fun j ej => (ho.block j ej).1)
theorem rprint_any (ao : Option Addr) (cap : Nat) (L : List It) (c : Int) (hl : L.length ≤ 100) (w : World) (hT : ToldI w ao L) :
    Calls Try.prog 16 #[.slice ao L.length cap, .int .i64 c] w fun e w' => e = .returned (.string (strOfNums (flat (pick c L)))) ∧ Below w.heap.size w w' := by
  have o0 := own8_new w.heap.size w (Nat.le_refl _)
  have b0 := below_new w (.cells #[] 5)
  have HT : Hid (ToldI w ao L) := hT
  have HL : Hid (L.length ≤ 100) := hl
  clear hT hl
  generalize hn : L.length = n at *
  have HN : Hid (L.length = n) := hn
  clear hn
  go_enter Try.func16, Try.ntmps16
  go_wp2
  generalize w.alloc (.cells #[] 5) = w0 at *
  obtain ⟨r, hr⟩ : ∃ r, w.heap.size = r := ⟨_, rfl⟩
  have HR : Hid (w.heap.size = r) := hr
  rw [hr] at o0 b0 ⊢
  clear hr
  go_loopw [5, 6] (fun v i wr => ∃ k : Nat, k ≤ n ∧ i = .int .i64 (k : Int) ∧ Own8 r wr v (flat (pick c (L.take k))) ∧ Below r w wr ∧ r ≤ wr.heap.size) (fun _ i _ => n - (intOf i).toNat)
  case atStart => exact ⟨0, Nat.zero_le _, rfl, by simpa [pick, flat] using o0, b0, by have := b0.size; have := HR.out; omega⟩
  case round =>
    obtain ⟨k, hk, rfl, ho, br, hrw⟩ := hrel
    clear o0 b0
    obtain ⟨av, cv, rfl⟩ := ho.slice
    by_cases hkn : k < n
    · obtain ⟨x, hx⟩ : ∃ x, L[k]? = some x := ⟨_, List.getElem?_eq_getElem (by have := HN.out; omega)⟩
      have HX : Hid (L[k]? = some x) := hx
      have hTw : ToldI wr ao L := HT.out.below (by rw [HR.out]; exact br)
      obtain ⟨b, o, rfl, hb, hc⟩ : ∃ b o, ao = some ⟨b, o, none⟩ ∧ b < w.heap.size ∧ _ := HT.out.resolve_left (by intro h; rw [h] at hx; simp at hx)
      have hcs : ∀ W, Below r w W → W.cell? ⟨b, o + k * 4, none⟩ = some (.int .i64 x.k) ∧ W.cell? ⟨b, o + k * 4 + 1, none⟩ = some (.int .i64 x.c) ∧ W.cell? ⟨b, o + k * 4 + 2, none⟩ = some (.int .i64 x.a) ∧ W.cell? ⟨b, o + k * 4 + 3, none⟩ = some (.int .i64 x.b) := fun W hW => by
        obtain ⟨q0, q1, q2, q3⟩ := hc k x hx
        rw [HR.out] at hb
        exact ⟨(hW.cell (p := ⟨b, o + k * 4, none⟩) hb).trans q0, (hW.cell (p := ⟨b, o + k * 4 + 1, none⟩) hb).trans q1, (hW.cell (p := ⟨b, o + k * 4 + 2, none⟩) hb).trans q2, (hW.cell (p := ⟨b, o + k * 4 + 3, none⟩) hb).trans q3⟩
      have HC : Hid (∀ W, Below r w W → W.cell? ⟨b, o + k * 4, none⟩ = some (.int .i64 x.k) ∧ W.cell? ⟨b, o + k * 4 + 1, none⟩ = some (.int .i64 x.c) ∧ W.cell? ⟨b, o + k * 4 + 2, none⟩ = some (.int .i64 x.a) ∧ W.cell? ⟨b, o + k * 4 + 3, none⟩ = some (.int .i64 x.b)) := hcs
      obtain ⟨c0, c1, c2, c3⟩ := hcs wr br
      have hki : (k : Int) < (n : Int) := by omega
      have hwk : IntKind.i64.wrap ((k : Int) + 1) = (k : Int) + 1 := by have := HL.out; rw [IntKind.wrap_i64] <;> omega
      clear hc hcs hTw hx
      have hb3 := below_new wr (objI x)
      have ho3 := ho.below hb3
      have br3 := Below.then br hb3 hrw
      have hrw3 : r ≤ (wr.alloc (objI x)).heap.size := by simp; omega
      clear hb3 ho br
      have hlen : (flat (pick c (L.take k))).length + 4 ≤ 1000 := by
        rw [flat_len]; have h1 := pick_len c (L.take k); have h2 : (L.take k).length ≤ k := by simp; omega
        have := HL.out; omega
      cases hrt : rightB c x with
      | true =>
        have HRt : Hid (rightB c x = true) := hrt
        have hrx := (rightB_iff c x).1 hrt
        have u0 : IntKind.u8.wrap x.k = x.k := by rw [IntKind.wrap_u8] <;> omega
        have u1 : IntKind.u8.wrap x.c = x.c := by rw [IntKind.wrap_u8] <;> omega
        have u2 : IntKind.u8.wrap x.a = x.a := by rw [IntKind.wrap_u8] <;> omega
        have u3 : IntKind.u8.wrap x.b = x.b := by rw [IntKind.wrap_u8] <;> omega
        clear hrx hrt
        obtain ⟨W3, hW3⟩ : ∃ W3, wr.alloc (objI x) = W3 := ⟨_, rfl⟩
        rw [hW3] at ho3 br3 hrw3
        obtain ⟨a4, p4, W4, r4, o4, b4, s4⟩ := byte_more r w W3 _ _ x.k ho3 br3 hrw3 (by omega)
        obtain ⟨a5, p5, W5, r5, o5, b5, s5⟩ := byte_more r w W4 _ _ x.c o4 b4 s4 (by simp; omega)
        obtain ⟨a6, p6, W6, r6, o6, b6, s6⟩ := byte_more r w W5 _ _ x.a o5 b5 s5 (by simp; omega)
        obtain ⟨a7, p7, W7, r7, o7, b7, s7⟩ := byte_more r w W6 _ _ x.b o6 b6 s6 (by simp; omega)
        have hfin : flat (pick c (L.take k)) ++ [x.k] ++ [x.c] ++ [x.a] ++ [x.b] = flat (pick c (L.take (k + 1))) := by
          rw [take_snoc HX.out, pick_hit c _ x HRt.out]; simp [flat, bytesI]
        rw [hfin] at o7 r7
        have O7 : Hid _ := o7
        have R4 : Hid _ := r4
        have R5 : Hid _ := r5
        have R6 : Hid _ := r6
        have R7 : Hid _ := r7
        clear o7 r4 r5 r6 r7 o4 o5 o6 ho3 hfin
        generalize (flat (pick c (L.take k))).length = l3 at *
        generalize (flat (pick c (L.take k)) ++ [x.k]).length = l4 at *
        generalize (flat (pick c (L.take k)) ++ [x.k] ++ [x.c]).length = l5 at *
        generalize (flat (pick c (L.take k)) ++ [x.k] ++ [x.c] ++ [x.a]).length = l6 at *
        obtain ⟨d0, _, _, _⟩ := HC.out W3 br3
        obtain ⟨_, d1, _, _⟩ := HC.out W4 b4
        obtain ⟨_, _, d2, _⟩ := HC.out W5 b5
        obtain ⟨_, _, _, d3⟩ := HC.out W6 b6
        go_wp2_with fail
        refine (rright_any x c wr).mono ?_
        rintro e w4 ⟨rfl, rfl⟩
        rw [HRt.out, hW3]
        clear c0 c1 c2 c3
        go_wp2_with (first | (at_builtin; refine wpList_append_run rfl (.tmp 20) (.tmp 27) 38 rfl _ _ _ _ rfl rfl R4.out ?_) | (at_builtin; refine wpList_append_run rfl (.tmp 29) (.tmp 36) 38 rfl _ _ _ _ rfl rfl R5.out ?_) | (at_builtin; refine wpList_append_run rfl (.tmp 38) (.tmp 45) 38 rfl _ _ _ _ rfl rfl R6.out ?_) | (at_builtin; refine wpList_append_run rfl (.tmp 47) (.tmp 54) 38 rfl _ _ _ _ rfl rfl R7.out ?_))
        go_roundw
        case rel => exact ⟨k + 1, by omega, by go_num, O7.out, b7, s7⟩
        case measure => simp [intOf]; omega
      | false =>
        have HRt : Hid (rightB c x = false) := hrt
        clear hrt
        go_wp2_with fail
        refine (rright_any x c wr).mono ?_
        rintro e w4 ⟨rfl, rfl⟩
        rw [HRt.out]
        generalize wr.alloc (objI x) = W3 at *
        have HO' : Hid (Own8 r W3 (.slice av (flat (pick c (L.take k))).length cv) (flat (pick c (L.take (k + 1))))) := by
          show Own8 _ _ _ _
          rw [take_snoc HX.out, pick_miss c _ x HRt.out]; exact ho3
        clear ho3 c0 c1 c2 c3 hlen
        generalize (flat (pick c (L.take k))).length = l3 at *
        go_wp2
        go_roundw
        case rel => exact ⟨k + 1, by omega, by go_num, HO'.out, br3, hrw3⟩
        case measure => simp [intOf]; omega
    · have hk4 : k = n := by omega
      subst hk4
      have hts := to_string ho
      have HE : Hid (L.take k = L) := List.take_of_length_le (by have := HN.out; omega)
      go_wp2
      go_ret
      exact ⟨by simp [HE.out], by rw [HR.out]; exact br⟩
end Go.Proofs.Ytkbbjpnkfmegnaa

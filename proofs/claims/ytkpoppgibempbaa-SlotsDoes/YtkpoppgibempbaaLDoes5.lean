/-
  SlotsDoes answers true for every input, and leaves it; no condition of ours.
-/
import Derived.Test.YtkpoppgibempbaaNSameB
import Derived.Test.YtkpoppgibempbaaNDoes0
import Derived.Test.YtkpoppgibempbaaNLaw
namespace Go.Proofs.Ytkpoppgibempbaa.slotsDoes
open Go.RowKit Go.Deep Go.MapKept Go.Maps
set_option linter.unusedSectionVars false
section
variable [dCp : DecidableEq Cp] [dLim : ∀ k, Decidable (Lim k)] [dBad : ∀ k, Decidable (Bad k)] [dFit : ∀ g z, Decidable (Fit g z)] [dFine : ∀ c, Decidable (Fine c)] [dMint : ∀ c v, Decidable (MintR c v)] [dWho : ∀ x y, Decidable (Whose x y)] [dSl : DecidableEq Sl] [dLt : ∀ a b, Decidable (ltS a b)] [iSl : Inhabited Sl] [iCp : Inhabited Cp]
set_option maxHeartbeats 8000000 in
set_option maxRecDepth 100000 in
theorem walk (ao : Option Addr) (X : List Oc) (cap : Nat) (w : World) (hX : Script w ao X) (hl : X.length ≤ 9223372036854775807) :
    Calls Try.prog 3 #[.slice ao X.length cap] w fun e w' => e = .returned (.bool true) ∧ Below w.heap.size w w' := by
  have HX : Hid (Script w ao X ∧ X.length ≤ 9223372036854775807) := ⟨hX, hl⟩
  obtain ⟨r, HR⟩ : ∃ r, Hid (w.heap.size = r) := ⟨_, rfl⟩
  clear hX hl
  go_enter Try.func3, Try.ntmps3
  go_wp2_with fail
  refine (new_any w).mono ?_
  rintro e w1 ⟨p, F, rfl, nn, oo, bb⟩
  have g1 : Hid (Bo w r (w1.alloc (.cells #[.slice none 0 0] 28)) p F w1.heap.size (fun x => x = w1.heap.size) [] [] [] []) := bo_start nn oo bb HR.out
  clear nn oo bb
  go_wp2
  generalize w1.alloc (.cells #[.slice none 0 0] 28) = v1 at *
  obtain ⟨F2, HF2⟩ : ∃ F2 : Nat → Prop, Hid (Bo w r v1 p F w1.heap.size F2 [] [] [] []) := ⟨_, g1⟩
  clear g1
  generalize w1.heap.size = p2 at *
  go_loopw [3, 5] (fun nn i wr => ∃ (k p : Nat) (F F2 : Nat → Prop) (S : St), k ≤ 80 ∧ nn = .pointer (some ⟨p, 0, none⟩) ∧ i = .int .i64 k ∧ Bo w r wr p F p2 F2 S S [] []) (fun _ i _ => 80 - (intOf i).toNat)
  case atStart => exact ⟨0, p, F, F2, [], by omega, rfl, rfl, HF2.out⟩
  case round =>
    clear HF2
    obtain ⟨k, p, F, F2, S, hk, rfl, rfl, hh⟩ := hrel
    have k0 : Hid (Bo w r wr p F p2 F2 S S [] []) := hh
    clear hh
    by_cases hlt : k < X.length ∧ k < 80
    · obtain ⟨x, hx⟩ : ∃ x, X[k]? = some x := ⟨_, List.getElem?_eq_getElem hlt.1⟩
      obtain ⟨fx, b0, o0, rfl, hb, hcell⟩ := HX.out.1 k x hx
      have hc : ∀ j, j < 12 → wr.cell? ⟨b0, o0 + k * 12 + j, none⟩ = some ((encO x)[j]!) := fun j hj => (k0.out.has.low.cell (p := ⟨b0, o0 + k * 12 + j, none⟩) (by rw [← HR.out]; exact hb)).trans (hcell j hj)
      have x0 := hc 0 (by omega)
      have x1 := hc 1 (by omega)
      have x2 := hc 2 (by omega)
      have x3 := hc 3 (by omega)
      have x4 := hc 4 (by omega)
      have x5 := hc 5 (by omega)
      have x6 := hc 6 (by omega)
      have x7 := hc 7 (by omega)
      have x8 := hc 8 (by omega)
      have x9 := hc 9 (by omega)
      have x10 := hc 10 (by omega)
      have x11 := hc 11 (by omega)
      simp only [encO, Nat.add_zero] at x0 x1 x2 x3 x4 x5 x6 x7 x8 x9 x10 x11
      have y0 : wr.cell? ⟨b0, o0 + k * 12, none⟩ = some (.int .i64 x.k) := x0
      have y1 : wr.cell? ⟨b0, o0 + k * 12 + 1, none⟩ = some (.int .i64 x.n) := x1
      have y2 : wr.cell? ⟨b0, o0 + k * 12 + 2, none⟩ = some (.int .i64 x.a.n) := x2
      have y3 : wr.cell? ⟨b0, o0 + k * 12 + 3, none⟩ = some (.int .i64 x.a.i) := x3
      have y4 : wr.cell? ⟨b0, o0 + k * 12 + 4, none⟩ = some (.int .i64 x.b.n) := x4
      have y5 : wr.cell? ⟨b0, o0 + k * 12 + 5, none⟩ = some (.int .i64 x.b.i) := x5
      have y6 : wr.cell? ⟨b0, o0 + k * 12 + 6, none⟩ = some (.int .i64 x.c.k) := x6
      have y7 : wr.cell? ⟨b0, o0 + k * 12 + 7, none⟩ = some (.int .i64 x.c.o) := x7
      have y8 : wr.cell? ⟨b0, o0 + k * 12 + 8, none⟩ = some (.int .i64 x.c.r) := x8
      have y9 : wr.cell? ⟨b0, o0 + k * 12 + 9, none⟩ = some (.int .u64 x.c.b) := x9
      have y10 : wr.cell? ⟨b0, o0 + k * 12 + 10, none⟩ = some (.int .u64 x.c.g) := x10
      have y11 : wr.cell? ⟨b0, o0 + k * 12 + 11, none⟩ = some (.int .i64 x.c.z) := x11
      clear x0 x1 x2 x3 x4 x5 x6 x7 x8 x9 x10 x11
      have HF : Hid (x.Fits) := fx
      have hk1 : (k : Int) < (X.length : Int) := by omega
      have hk2 : (k : Int) < 80 := by omega
      have HK : Hid (k < 80) := hlt.2
      have j2 : Hid (Bo w r (wr.alloc (objO x)) p F p2 F2 S S [(wr.heap.size, objO x)] []) := k0.out.alloc (objO x)
      clear hlt hx hb fx hc hcell k0 hk
      generalize hXl : X.length = xl at *
      clear hXl
      by_cases hx6 : x.k = 6
      · obtain ⟨o0, o1, o2, o3, o4, o5, o6, o7, o8, o9, o10, o11⟩ := opcells (j2.out.has.blk (wr.heap.size, objO x) (by simp)).1
        simp only [objO] at j2 o0 o1 o2 o3 o4 o5 o6 o7 o8 o9 o10 o11
        have hkk : (x.k == 6) = true := by simp [hx6]
        clear hx6
        go_wp2_with fail
        generalize wr.alloc (Obj.cells #[.int .i64 x.k, .int .i64 x.n, .int .i64 x.a.n, .int .i64 x.a.i, .int .i64 x.b.n, .int .i64 x.b.i, .int .i64 x.c.k, .int .i64 x.c.o, .int .i64 x.c.r, .int .u64 x.c.b, .int .u64 x.c.g, .int .i64 x.c.z] 35) = v2 at *
        generalize wr.heap.size = q at *
        have k2 : Hid (Bo w r v2 p F p2 F2 S S [(q, objO x)] []) := j2
        clear j2 y0 y1 y2 y3 y4 y5 y6 y7 y8 y9 y10 y11 o0 o1 o2 o3 o4 o5 o6 o7 o8 o9 o10 o11
        refine (copy_any p F S v2 k2.out.has.nds).mono ?_
        rintro e w21 ⟨q1, F1, rfl, n1, o1, b1⟩
        have k21 : Hid (Bo w r w21 q1 F1 p2 F2 S S [(q, objO x)] [] ∧ OldN w21 r p F F1 F2 [(q, objO x)] S) := old_copy k2.out n1 o1 b1
        clear n1 o1 b1 k2
        go_wp2_with fail
        refine (make_any p F S 3 _ k21.out.2.nds).mono ?_
        rintro e w22 ⟨rfl, l22⟩
        obtain ⟨F22, s22⟩ := old_step k21.out.1 k21.out.2 l22
        have k22 : Hid (Bo w r w22 q1 F1 p2 F2 S S [(q, objO x)] [] ∧ OldN w22 r p F22 F1 F2 [(q, objO x)] (makeS S 3)) := s22
        clear l22 s22 k21
        go_wp2_with fail
        refine (thread_any _).mono ?_
        rintro e w23 ⟨he, hw⟩
        obtain rfl : e = .returned (.agg #[.int .i64 3, .int .i64 1, .int .i64 7, .int .u64 0, .int .u64 0, .int .i64 0]) := he
        have bw : Below w22.heap.size w22 w23 := by rw [hw]; exact below_new _ _
        have k23 : Hid (Bo w r w23 q1 F1 p2 F2 S S [(q, objO x)] [] ∧ OldN w23 r p F22 F1 F2 [(q, objO x)] (makeS S 3)) := ⟨k22.out.1.below bw, k22.out.2.nds.below bw, k22.out.2.own, k22.out.2.ap⟩
        clear bw hw k22
        go_wp2_with fail
        refine (put_any p F22 (makeS S 3) ⟨0, 0⟩ thr _ k23.out.2.nds (fits_lit (by omega) (by omega)) thr_fits).mono ?_
        rintro e w24 ⟨rfl, l24⟩
        obtain ⟨F24, s24⟩ := old_step k23.out.1 k23.out.2 l24.wide
        have k24 : Hid (Bo w r w24 q1 F1 p2 F2 S S [(q, objO x)] [] ∧ OldN w24 r p F24 F1 F2 [(q, objO x)] (putS (makeS S 3) ⟨0, 0⟩ thr)) := s24
        clear l24 s24 k23
        go_wp2_with fail
        refine (take_any p F24 (putS (makeS S 3) ⟨0, 0⟩ thr) ⟨0, 1⟩ _ k24.out.2.nds (fits_lit (by omega) (by omega))).mono ?_
        rintro e w25 ⟨rfl, l25⟩
        obtain ⟨F25, s25⟩ := old_step k24.out.1 k24.out.2 l25.wide
        have k25 : Hid (Bo w r w25 q1 F1 p2 F2 S S [(q, objO x)] []) := s25.1
        clear l25 s25 k24
        obtain ⟨o0, o1, o2, o3, o4, o5, o6, o7, o8, o9, o10, o11⟩ := opcells (w := w25) (q := q) (k25.out.has.blk (q, objO x) (by simp)).1
        go_wp2_with fail
        refine (same_bo x HF.out k25.out).mono ?_
        rintro e w4 ⟨rfl, G, G2, U, h4⟩
        have H4 : Hid (Bo w r w4 q1 G p2 G2 U U [(q, objO x)] []) := h4
        clear h4 k25 o0 o1 o2 o3 o4 o5 o6 o7 o8 o9 o10 o11
        obtain ⟨o0, o1, o2, o3, o4, o5, o6, o7, o8, o9, o10, o11⟩ := opcells (w := w4) (q := q) (H4.out.has.blk (q, objO x) (by simp)).1
        obtain ⟨c, e, HU⟩ := (⟨_, _, rfl, rfl⟩ : ∃ c e, Hid (getC U x.a = c ∧ getE U x.a = e))
        obtain ⟨z, bb, HZ⟩ := (⟨_, _, rfl, rfl⟩ : ∃ z bb, Hid (sizeN U x.n = z ∧ sizeB U x.n = bb))
        obtain ⟨A, HA⟩ : ∃ A, Hid (held U = A ∧ A.length ≤ 1000000) := ⟨_, rfl, Nat.le_trans (held_le H4.out.rds.ok) (by decide)⟩
        have HQ : ∀ W, (Op.equalIn 10000 33 (.agg #[.int .i64 c.k, .int .i64 c.o, .int .i64 c.r, .int .u64 c.b, .int .u64 c.g, .int .i64 c.z]) (.agg #[.int .i64 c.k, .int .i64 c.o, .int .i64 c.r, .int .u64 c.b, .int .u64 c.g, .int .i64 c.z])).run Try.prog W = .ok true W := fun W => by
          have h := eq_caps W c c
          simpa using h
        go_wp2_with fail
        refine (get_bo x.a c e H4.out HF.out.a HU.out.1 HU.out.2).mono ?_
        rintro e5 w5 ⟨he, h5⟩
        obtain rfl : e5 = .returned (.tuple #[.agg #[.int .i64 c.k, .int .i64 c.o, .int .i64 c.r, .int .u64 c.b, .int .u64 c.g, .int .i64 c.z], .int .i64 e]) := he
        have g5 : Hid (Bo w r (w5.alloc (objC c)) q1 G p2 G2 U U [(w5.heap.size, objC c), (q, objO x)] []) := h5.alloc (objC c)
        clear h5 H4 o0 o1 o2 o3 o4 o5 o6 o7 o8 o9 o10 o11
        obtain ⟨o0, o1, o2, o3, o4, o5, o6, o7, o8, o9, o10, o11⟩ := opcells (w := w5.alloc (objC c)) (q := q) (g5.out.has.blk (q, objO x) (by simp)).1
        simp only [objC] at g5 o0 o1 o2 o3 o4 o5 o6 o7 o8 o9 o10 o11
        go_wp2_with fail
        generalize w5.alloc (Obj.cells #[.int .i64 c.k, .int .i64 c.o, .int .i64 c.r, .int .u64 c.b, .int .u64 c.g, .int .i64 c.z] 33) = v5 at *
        generalize w5.heap.size = q5 at *
        have H5 : Hid (Bo w r v5 q1 G p2 G2 U U [(q5, objC c), (q, objO x)] []) := g5
        clear g5 o0 o1 o2 o3 o4 o5 o6 o7 o8 o9 o10 o11
        refine (rget_bo x.a c e H5.out HU.out.1 HU.out.2).mono ?_
        rintro e6 w6 ⟨he, h6⟩
        obtain rfl : e6 = .returned (.tuple #[.agg #[.int .i64 c.k, .int .i64 c.o, .int .i64 c.r, .int .u64 c.b, .int .u64 c.g, .int .i64 c.z], .int .i64 e]) := he
        have g6 : Hid (Bo w r (w6.alloc (objC c)) q1 G p2 G2 U U [(w6.heap.size, objC c), (q5, objC c), (q, objO x)] []) := h6.alloc (objC c)
        clear h6 H5
        obtain ⟨o0, o1, o2, o3, o4, o5, o6, o7, o8, o9, o10, o11⟩ := opcells (w := w6.alloc (objC c)) (q := q) (g6.out.has.blk (q, objO x) (by simp)).1
        simp only [objC] at g6 o0 o1 o2 o3 o4 o5 o6 o7 o8 o9 o10 o11
        go_wp2_with fail
        generalize w6.alloc (Obj.cells #[.int .i64 c.k, .int .i64 c.o, .int .i64 c.r, .int .u64 c.b, .int .u64 c.g, .int .i64 c.z] 33) = v6 at *
        generalize w6.heap.size = q6 at *
        have H6 : Hid (Bo w r v6 q1 G p2 G2 U U [(q6, objC c), (q5, objC c), (q, objO x)] []) := g6
        clear g6 o0 o1 o2 o3 o4 o5 o6 o7 o8 o9 o10 o11
        refine (size_bo x.n z bb H6.out HZ.out.1 HZ.out.2).mono ?_
        rintro e w7 ⟨rfl, h7⟩
        have H7 : Hid (Bo w r w7 q1 G p2 G2 U U [(q6, objC c), (q5, objC c), (q, objO x)] []) := h7
        clear h7 H6
        obtain ⟨o0, o1, o2, o3, o4, o5, o6, o7, o8, o9, o10, o11⟩ := opcells (w := w7) (q := q) (H7.out.has.blk (q, objO x) (by simp)).1
        go_wp2_with fail
        refine (rsize_bo x.n z bb H7.out HZ.out.1 HZ.out.2).mono ?_
        rintro e w8 ⟨rfl, h8⟩
        have H8 : Hid (Bo w r w8 q1 G p2 G2 U U [(q6, objC c), (q5, objC c), (q, objO x)] []) := h8
        clear h8 H7 o0 o1 o2 o3 o4 o5 o6 o7 o8 o9 o10 o11
        go_wp2_with fail
        refine (held_bo A HA.out.1 H8.out).mono ?_
        rintro e w9 ⟨ao9, cap9, rfl, h9⟩
        have H9 : Hid (Bo w r w9 q1 G p2 G2 U U [(q6, objC c), (q5, objC c), (q, objO x)] [(.slice ao9 A.length cap9, A)]) := h9
        clear h9 H8
        obtain ⟨a0, a1, a2, a3, a4, a5⟩ := (H9.out.has.atC (q := q5) (c := c) (by simp)).cells
        obtain ⟨d0, d1, d2, d3, d4, d5⟩ := (H9.out.has.atC (q := q6) (c := c) (by simp)).cells
        go_wp2_with fail
        refine (rheld_bo A HA.out.1 H9.out).mono ?_
        rintro e w10 ⟨ao10, cap10, rfl, h10⟩
        have H10 : Hid (Bo w r w10 q1 G p2 G2 U U [(q6, objC c), (q5, objC c), (q, objO x)] [(.slice ao10 A.length cap10, A), (.slice ao9 A.length cap9, A)]) := h10
        clear h10 H9 a0 a1 a2 a3 a4 a5 d0 d1 d2 d3 d4 d5
        go_wp2_with fail
        refine (same_true r r ao9 ao10 cap9 cap10 A w10 (H10.out.has.row (.slice ao9 A.length cap9, A) (by simp)).1 (H10.out.has.row (.slice ao10 A.length cap10, A) (by simp)).1 HA.out.2).mono ?_
        rintro e w11 ⟨rfl, b11⟩
        have H11 : Hid (Bo w r w11 q1 G p2 G2 U U [(q6, objC c), (q5, objC c), (q, objO x)] [(.slice ao10 A.length cap10, A), (.slice ao9 A.length cap9, A)]) := H10.out.below b11
        clear b11 H10
        have HG9 : Hid (0 < A.length → ∃ g, ao9 = some ⟨g, 0, none⟩) := fun h0 => by
          rcases (H11.out.has.row (.slice ao9 A.length cap9, A) (by simp)).1.2 with ⟨hn, h1⟩ | ⟨g, cap', cur, hv, _⟩
          · have h2 : A.length = 0 := h1
            omega
          · cases hv
            exact ⟨g, rfl⟩
        have hA1 : (A.length : Int) ≤ 1000000 := by have := HA.out.2; omega
        go_wp2
        go_loopw [17] (fun i wx => ∃ j : Nat, j ≤ A.length ∧ i = .int .i64 j ∧ Bo w r wx q1 G p2 G2 U U [] [] ∧ ∀ g, ao9 = some ⟨g, 0, none⟩ → r ≤ g ∧ ¬ G g ∧ ¬ G2 g ∧ ∃ cur, wx.heap[g]? = some (.cells cur 50 (0, 0)) ∧ A.length * 8 ≤ cur.size) (fun i _ => A.length - (intOf i).toNat)
        case atStart =>
          refine ⟨0, Nat.zero_le _, rfl, H11.out.fewer (fun b hb => by cases hb) (fun b hb => by cases hb), fun g hg => ?_⟩
          subst hg
          obtain ⟨o, on⟩ := H11.out.has.row (.slice (some ⟨g, 0, none⟩) A.length cap9, A) (by simp)
          refine ⟨(World.ownsRow.lt o g rfl).1, on g rfl, H11.out.apM (.slice (some ⟨g, 0, none⟩) A.length cap9, A) (by simp) g rfl, ?_⟩
          rcases o.2 with ⟨hn, _⟩ | ⟨g', cap', cur, hv, _, hg, h1, _, h3, _⟩
          · cases hn
          · cases hv
            exact ⟨cur, hg, by rw [h3]; exact Nat.mul_le_mul_right _ h1⟩
        case round =>
          obtain ⟨j, hj, rfl, hbo, hg⟩ := hrel
          have HBo : Hid (Bo w r _ q1 G p2 G2 U U [] []) := hbo
          clear hbo H11
          by_cases hjl : j < A.length
          · have hs : ∃ g, ao9 = some ⟨g, 0, none⟩ := HG9.out (by omega)
            obtain ⟨g, rfl⟩ := hs
            obtain ⟨hr, hF, hF2, cur, hcur, hsz⟩ := hg g rfl
            have hlt : j * 8 + 2 + 1 < cur.size := by omega
            have e0 : ∃ y, wr.cell? ⟨g, j * 8 + 2 + 1, none⟩ = some y := ⟨cur[j * 8 + 2 + 1], by simp [World.cell?, hcur, hlt]⟩
            obtain ⟨y, e0⟩ := e0
            have f0 : wr.frozen? ⟨g, j * 8 + 2 + 1, none⟩ = false := by simp [World.frozen?, hcur]
            have K : Hid (Bo w r (wr.setCell ⟨g, j * 8 + 2 + 1, none⟩ (.int .i64 99)) q1 G p2 G2 U U [] [] ∧ ∀ g', (some ⟨g, 0, none⟩ : Option Addr) = some ⟨g', 0, none⟩ → r ≤ g' ∧ ¬ G g' ∧ ¬ G2 g' ∧ ∃ cur, (wr.setCell ⟨g, j * 8 + 2 + 1, none⟩ (.int .i64 99)).heap[g']? = some (.cells cur 50 (0, 0)) ∧ A.length * 8 ≤ cur.size) := by
              refine ⟨HBo.out.writes hr hF hF2 (fun b hb => by cases hb) _ _, fun g' e => ?_⟩
              cases e
              exact ⟨hr, hF, hF2, _, blk_setCell_same hcur, by rw [Array.size_setIfInBounds]; exact hsz⟩
            have HJ : Hid (j < A.length) := hjl
            have hj1 : (j : Int) < (A.length : Int) := by omega
            clear hcur hsz hlt hg hr hF hF2 hj hjl HBo
            generalize hAl : A.length = al at *
            have HAl : Hid (A.length = al) := hAl
            clear hAl
            go_wp2
            go_roundw
            case rel => exact ⟨j + 1, by have := HJ.out; omega, by go_num, K.out.1, K.out.2⟩
            case measure => simp [intOf]; have := HJ.out; omega
          · have hj1 : ¬ ((j : Int) < (A.length : Int)) := by omega
            clear hj hjl hg
            generalize A.length = al at *
            go_wp2
            go_roundw
            case rel => exact ⟨k + 1, q1, G, G2, U, HK.out, rfl, by go_num, HBo.out⟩
            case measure => simp [intOf]; have := HK.out; omega
      · obtain ⟨o0, o1, o2, o3, o4, o5, o6, o7, o8, o9, o10, o11⟩ := opcells (j2.out.has.blk (wr.heap.size, objO x) (by simp)).1
        simp only [objO] at j2 o0 o1 o2 o3 o4 o5 o6 o7 o8 o9 o10 o11
        have hkk : (x.k == 6) = false := by simp [hx6]
        clear hx6
        go_wp2_with fail
        generalize wr.alloc (Obj.cells #[.int .i64 x.k, .int .i64 x.n, .int .i64 x.a.n, .int .i64 x.a.i, .int .i64 x.b.n, .int .i64 x.b.i, .int .i64 x.c.k, .int .i64 x.c.o, .int .i64 x.c.r, .int .u64 x.c.b, .int .u64 x.c.g, .int .i64 x.c.z] 35) = v2 at *
        generalize wr.heap.size = q at *
        have k25 : Hid (Bo w r v2 p F p2 F2 S S [(q, objO x)] []) := j2
        clear j2 y0 y1 y2 y3 y4 y5 y6 y7 y8 y9 y10 y11 o0 o1 o2 o3 o4 o5 o6 o7 o8 o9 o10 o11
        obtain ⟨o0, o1, o2, o3, o4, o5, o6, o7, o8, o9, o10, o11⟩ := opcells (w := v2) (q := q) (k25.out.has.blk (q, objO x) (by simp)).1
        go_wp2_with fail
        refine (same_bo x HF.out k25.out).mono ?_
        rintro e w4 ⟨rfl, G, G2, U, h4⟩
        have H4 : Hid (Bo w r w4 p G p2 G2 U U [(q, objO x)] []) := h4
        clear h4 k25 o0 o1 o2 o3 o4 o5 o6 o7 o8 o9 o10 o11
        obtain ⟨o0, o1, o2, o3, o4, o5, o6, o7, o8, o9, o10, o11⟩ := opcells (w := w4) (q := q) (H4.out.has.blk (q, objO x) (by simp)).1
        obtain ⟨c, e, HU⟩ := (⟨_, _, rfl, rfl⟩ : ∃ c e, Hid (getC U x.a = c ∧ getE U x.a = e))
        obtain ⟨z, bb, HZ⟩ := (⟨_, _, rfl, rfl⟩ : ∃ z bb, Hid (sizeN U x.n = z ∧ sizeB U x.n = bb))
        obtain ⟨A, HA⟩ : ∃ A, Hid (held U = A ∧ A.length ≤ 1000000) := ⟨_, rfl, Nat.le_trans (held_le H4.out.rds.ok) (by decide)⟩
        have HQ : ∀ W, (Op.equalIn 10000 33 (.agg #[.int .i64 c.k, .int .i64 c.o, .int .i64 c.r, .int .u64 c.b, .int .u64 c.g, .int .i64 c.z]) (.agg #[.int .i64 c.k, .int .i64 c.o, .int .i64 c.r, .int .u64 c.b, .int .u64 c.g, .int .i64 c.z])).run Try.prog W = .ok true W := fun W => by
          have h := eq_caps W c c
          simpa using h
        go_wp2_with fail
        refine (get_bo x.a c e H4.out HF.out.a HU.out.1 HU.out.2).mono ?_
        rintro e5 w5 ⟨he, h5⟩
        obtain rfl : e5 = .returned (.tuple #[.agg #[.int .i64 c.k, .int .i64 c.o, .int .i64 c.r, .int .u64 c.b, .int .u64 c.g, .int .i64 c.z], .int .i64 e]) := he
        have g5 : Hid (Bo w r (w5.alloc (objC c)) p G p2 G2 U U [(w5.heap.size, objC c), (q, objO x)] []) := h5.alloc (objC c)
        clear h5 H4 o0 o1 o2 o3 o4 o5 o6 o7 o8 o9 o10 o11
        obtain ⟨o0, o1, o2, o3, o4, o5, o6, o7, o8, o9, o10, o11⟩ := opcells (w := w5.alloc (objC c)) (q := q) (g5.out.has.blk (q, objO x) (by simp)).1
        simp only [objC] at g5 o0 o1 o2 o3 o4 o5 o6 o7 o8 o9 o10 o11
        go_wp2_with fail
        generalize w5.alloc (Obj.cells #[.int .i64 c.k, .int .i64 c.o, .int .i64 c.r, .int .u64 c.b, .int .u64 c.g, .int .i64 c.z] 33) = v5 at *
        generalize w5.heap.size = q5 at *
        have H5 : Hid (Bo w r v5 p G p2 G2 U U [(q5, objC c), (q, objO x)] []) := g5
        clear g5 o0 o1 o2 o3 o4 o5 o6 o7 o8 o9 o10 o11
        refine (rget_bo x.a c e H5.out HU.out.1 HU.out.2).mono ?_
        rintro e6 w6 ⟨he, h6⟩
        obtain rfl : e6 = .returned (.tuple #[.agg #[.int .i64 c.k, .int .i64 c.o, .int .i64 c.r, .int .u64 c.b, .int .u64 c.g, .int .i64 c.z], .int .i64 e]) := he
        have g6 : Hid (Bo w r (w6.alloc (objC c)) p G p2 G2 U U [(w6.heap.size, objC c), (q5, objC c), (q, objO x)] []) := h6.alloc (objC c)
        clear h6 H5
        obtain ⟨o0, o1, o2, o3, o4, o5, o6, o7, o8, o9, o10, o11⟩ := opcells (w := w6.alloc (objC c)) (q := q) (g6.out.has.blk (q, objO x) (by simp)).1
        simp only [objC] at g6 o0 o1 o2 o3 o4 o5 o6 o7 o8 o9 o10 o11
        go_wp2_with fail
        generalize w6.alloc (Obj.cells #[.int .i64 c.k, .int .i64 c.o, .int .i64 c.r, .int .u64 c.b, .int .u64 c.g, .int .i64 c.z] 33) = v6 at *
        generalize w6.heap.size = q6 at *
        have H6 : Hid (Bo w r v6 p G p2 G2 U U [(q6, objC c), (q5, objC c), (q, objO x)] []) := g6
        clear g6 o0 o1 o2 o3 o4 o5 o6 o7 o8 o9 o10 o11
        refine (size_bo x.n z bb H6.out HZ.out.1 HZ.out.2).mono ?_
        rintro e w7 ⟨rfl, h7⟩
        have H7 : Hid (Bo w r w7 p G p2 G2 U U [(q6, objC c), (q5, objC c), (q, objO x)] []) := h7
        clear h7 H6
        obtain ⟨o0, o1, o2, o3, o4, o5, o6, o7, o8, o9, o10, o11⟩ := opcells (w := w7) (q := q) (H7.out.has.blk (q, objO x) (by simp)).1
        go_wp2_with fail
        refine (rsize_bo x.n z bb H7.out HZ.out.1 HZ.out.2).mono ?_
        rintro e w8 ⟨rfl, h8⟩
        have H8 : Hid (Bo w r w8 p G p2 G2 U U [(q6, objC c), (q5, objC c), (q, objO x)] []) := h8
        clear h8 H7 o0 o1 o2 o3 o4 o5 o6 o7 o8 o9 o10 o11
        go_wp2_with fail
        refine (held_bo A HA.out.1 H8.out).mono ?_
        rintro e w9 ⟨ao9, cap9, rfl, h9⟩
        have H9 : Hid (Bo w r w9 p G p2 G2 U U [(q6, objC c), (q5, objC c), (q, objO x)] [(.slice ao9 A.length cap9, A)]) := h9
        clear h9 H8
        obtain ⟨a0, a1, a2, a3, a4, a5⟩ := (H9.out.has.atC (q := q5) (c := c) (by simp)).cells
        obtain ⟨d0, d1, d2, d3, d4, d5⟩ := (H9.out.has.atC (q := q6) (c := c) (by simp)).cells
        go_wp2_with fail
        refine (rheld_bo A HA.out.1 H9.out).mono ?_
        rintro e w10 ⟨ao10, cap10, rfl, h10⟩
        have H10 : Hid (Bo w r w10 p G p2 G2 U U [(q6, objC c), (q5, objC c), (q, objO x)] [(.slice ao10 A.length cap10, A), (.slice ao9 A.length cap9, A)]) := h10
        clear h10 H9 a0 a1 a2 a3 a4 a5 d0 d1 d2 d3 d4 d5
        go_wp2_with fail
        refine (same_true r r ao9 ao10 cap9 cap10 A w10 (H10.out.has.row (.slice ao9 A.length cap9, A) (by simp)).1 (H10.out.has.row (.slice ao10 A.length cap10, A) (by simp)).1 HA.out.2).mono ?_
        rintro e w11 ⟨rfl, b11⟩
        have H11 : Hid (Bo w r w11 p G p2 G2 U U [(q6, objC c), (q5, objC c), (q, objO x)] [(.slice ao10 A.length cap10, A), (.slice ao9 A.length cap9, A)]) := H10.out.below b11
        clear b11 H10
        have HG9 : Hid (0 < A.length → ∃ g, ao9 = some ⟨g, 0, none⟩) := fun h0 => by
          rcases (H11.out.has.row (.slice ao9 A.length cap9, A) (by simp)).1.2 with ⟨hn, h1⟩ | ⟨g, cap', cur, hv, _⟩
          · have h2 : A.length = 0 := h1
            omega
          · cases hv
            exact ⟨g, rfl⟩
        have hA1 : (A.length : Int) ≤ 1000000 := by have := HA.out.2; omega
        go_wp2
        go_loopw [17] (fun i wx => ∃ j : Nat, j ≤ A.length ∧ i = .int .i64 j ∧ Bo w r wx p G p2 G2 U U [] [] ∧ ∀ g, ao9 = some ⟨g, 0, none⟩ → r ≤ g ∧ ¬ G g ∧ ¬ G2 g ∧ ∃ cur, wx.heap[g]? = some (.cells cur 50 (0, 0)) ∧ A.length * 8 ≤ cur.size) (fun i _ => A.length - (intOf i).toNat)
        case atStart =>
          refine ⟨0, Nat.zero_le _, rfl, H11.out.fewer (fun b hb => by cases hb) (fun b hb => by cases hb), fun g hg => ?_⟩
          subst hg
          obtain ⟨o, on⟩ := H11.out.has.row (.slice (some ⟨g, 0, none⟩) A.length cap9, A) (by simp)
          refine ⟨(World.ownsRow.lt o g rfl).1, on g rfl, H11.out.apM (.slice (some ⟨g, 0, none⟩) A.length cap9, A) (by simp) g rfl, ?_⟩
          rcases o.2 with ⟨hn, _⟩ | ⟨g', cap', cur, hv, _, hg, h1, _, h3, _⟩
          · cases hn
          · cases hv
            exact ⟨cur, hg, by rw [h3]; exact Nat.mul_le_mul_right _ h1⟩
        case round =>
          obtain ⟨j, hj, rfl, hbo, hg⟩ := hrel
          have HBo : Hid (Bo w r _ p G p2 G2 U U [] []) := hbo
          clear hbo H11
          by_cases hjl : j < A.length
          · have hs : ∃ g, ao9 = some ⟨g, 0, none⟩ := HG9.out (by omega)
            obtain ⟨g, rfl⟩ := hs
            obtain ⟨hr, hF, hF2, cur, hcur, hsz⟩ := hg g rfl
            have hlt : j * 8 + 2 + 1 < cur.size := by omega
            have e0 : ∃ y, wr.cell? ⟨g, j * 8 + 2 + 1, none⟩ = some y := ⟨cur[j * 8 + 2 + 1], by simp [World.cell?, hcur, hlt]⟩
            obtain ⟨y, e0⟩ := e0
            have f0 : wr.frozen? ⟨g, j * 8 + 2 + 1, none⟩ = false := by simp [World.frozen?, hcur]
            have K : Hid (Bo w r (wr.setCell ⟨g, j * 8 + 2 + 1, none⟩ (.int .i64 99)) p G p2 G2 U U [] [] ∧ ∀ g', (some ⟨g, 0, none⟩ : Option Addr) = some ⟨g', 0, none⟩ → r ≤ g' ∧ ¬ G g' ∧ ¬ G2 g' ∧ ∃ cur, (wr.setCell ⟨g, j * 8 + 2 + 1, none⟩ (.int .i64 99)).heap[g']? = some (.cells cur 50 (0, 0)) ∧ A.length * 8 ≤ cur.size) := by
              refine ⟨HBo.out.writes hr hF hF2 (fun b hb => by cases hb) _ _, fun g' e => ?_⟩
              cases e
              exact ⟨hr, hF, hF2, _, blk_setCell_same hcur, by rw [Array.size_setIfInBounds]; exact hsz⟩
            have HJ : Hid (j < A.length) := hjl
            have hj1 : (j : Int) < (A.length : Int) := by omega
            clear hcur hsz hlt hg hr hF hF2 hj hjl HBo
            generalize hAl : A.length = al at *
            have HAl : Hid (A.length = al) := hAl
            clear hAl
            go_wp2
            go_roundw
            case rel => exact ⟨j + 1, by have := HJ.out; omega, by go_num, K.out.1, K.out.2⟩
            case measure => simp [intOf]; have := HJ.out; omega
          · have hj1 : ¬ ((j : Int) < (A.length : Int)) := by omega
            clear hj hjl hg
            generalize A.length = al at *
            go_wp2
            go_roundw
            case rel => exact ⟨k + 1, p, G, G2, U, HK.out, rfl, by go_num, HBo.out⟩
            case measure => simp [intOf]; have := HK.out; omega
    · have hge : (¬ k < X.length) ∨ (k < X.length ∧ k = 80) := by omega
      rcases hge with hge | hge
      · have hk1 : ¬ ((k : Int) < (X.length : Int)) := by omega
        clear hge hlt hk
        generalize hXl : X.length = xl at *
        clear hXl
        go_wp2_with fail
        refine (fixed_any _).mono ?_
        rintro e w9 ⟨rfl, b9⟩
        have KL : Hid _ := (k0.out.has.below b9).low
        clear b9 k0
        go_wp2
        go_ret
        exact ⟨rfl, by rw [HR.out]; exact KL.out⟩
      · obtain ⟨hk0, rfl⟩ := hge
        have hk1 : ((80 : Nat) : Int) < (X.length : Int) := by omega
        clear hk0 hlt hk
        generalize hXl : X.length = xl at *
        clear hXl
        go_wp2_with fail
        refine (fixed_any _).mono ?_
        rintro e w9 ⟨rfl, b9⟩
        have KL : Hid _ := (k0.out.has.below b9).low
        clear b9 k0
        go_wp2
        go_ret
        exact ⟨rfl, by rw [HR.out]; exact KL.out⟩
end
open Go.ChangeShapes Go.WideShapes Go.ChangeAt Go.RowKit Go.Joins

/-! ### From the walk to the statement -/
set_option maxRecDepth 100000 in
theorem lifted (os : Os) (started : os.Started) (H : Type) (enc : TypeId × Value → H) :
    ReturnsInHanded {} Try.checked os 3 .any (Rows.slotsDoesSpec.pre6 enc Try.prog Try.f3 Rows.slotsDoesRow.domain false) (Rows.slotsDoesSpec.post enc Try.prog Try.f3 false true false false) := by
  have dCp : DecidableEq Cp := fun a b => Classical.propDecidable (a = b)
  have dLim : ∀ k, Decidable (Lim k) := fun k => Classical.propDecidable (Lim k)
  have dBad : ∀ k, Decidable (Bad k) := fun k => Classical.propDecidable (Bad k)
  have dFit : ∀ g z, Decidable (Fit g z) := fun g z => Classical.propDecidable (Fit g z)
  have dFine : ∀ c, Decidable (Fine c) := fun c => Classical.propDecidable (Fine c)
  have dMint : ∀ c v, Decidable (MintR c v) := fun c v => Classical.propDecidable (MintR c v)
  have dWho : ∀ x y, Decidable (Whose x y) := fun x y => Classical.propDecidable (Whose x y)
  have dSl : DecidableEq Sl := fun a b => Classical.propDecidable (a = b)
  have dLt : ∀ a b, Decidable (ltS a b) := fun a b => Classical.propDecidable (ltS a b)
  have iSl : Inhabited Sl := ⟨⟨0, 0⟩⟩
  have iCp : Inhabited Cp := ⟨no⟩
  refine returnsInHanded_of_change (C := Try.checked) own started (by kernel_rfl) Try.func3
    (ChangeSpec.witness6 (enc := enc) (C := Try.checked) false ⟨#[], #[.slice none 0 0], []⟩ 8 (by kernel_rfl) (by kernel_rfl) (by kernel_rfl) (by kernel_rfl)) ?_
  intro W base args ds gs before hval0 hW hcnd _
  have hval : ∀ (j : Nat) t v, Try.f3.params[j]? = some t → args[j]? = some v → Value.okWide Try.prog W .any base t v := hval0
  have hW' := hW
  obtain ⟨p, q, hA0, hV, rfl, hfz, hnd⟩ := hW
  have hA : DataW.TrodAll enc Try.prog W 0 (fun _ => true) true Try.f3.params.toList args.toList ds p := hA0
  rw [Try.params3] at hA hval
  obtain ⟨v0, vs0, d0, ds0, p0, q0, hargs, rfl, rfl, h0, r0⟩ := trodAll_cons hA
  obtain ⟨rfl, rfl, rfl⟩ := trodAll_nil r0
  obtain rfl : args = #[v0] := by cases args; simp_all
  obtain ⟨rfl, rfl⟩ := trodVars_none hV
  have k0 := h0
  have lt0 : ∀ x ∈ p0, x.block < W.heap.size := by obtain ⟨m, hm⟩ := k0; exact DataW.trod_lt m _ _ _ hm
  obtain ⟨a0, l0, c0, rfl, t0, s0⟩ := open_ops (hval 0 22 v0 rfl rfl) h0
  clear hA0 hval0
  refine (walk a0 l0 c0 W t0 s0).mono fun e W' ⟨he, bel⟩ => ?_
  subst he
  exact ⟨_, rfl, _, _, _, [], _, [], hW', trodAll_mk1 (shut_bool Try.underlying4 _), (trodAll_cons_mk (Below.trod laidOut (by kernel_rfl) (of_decide_eq_true (by kernel_rfl)) k0 bel lt0) trodAll_mk0), rfl, bel.frame _, fun h => by cases h⟩
theorem over : Rows.slotsDoesRow.holds Try.pinned (OpenSpec.ofChange Rows.slotsDoesSpec) :=
  OpenClaim.holds_of_wide 3 Try.f3 rfl rfl rfl rfl rfl rfl rfl ⟨rfl, rfl, rfl, rfl, rfl⟩ rfl rfl rfl rfl rfl (by kernel_rfl) Try.func3 (by kernel_rfl)
    (of_decide_eq_true (by kernel_rfl)) (by unfold Func.isWrapper; first | (rw [if_pos (by decide +kernel)]; kernel_rfl) | (rw [if_neg (by decide +kernel)]; exact ⟨rfl, rfl⟩))
    (fun os started H enc _ => lifted os started H enc)
end Go.Proofs.Ytkpoppgibempbaa.slotsDoes
namespace Go.Proofs.Ytkpoppgibempbaa
/-- THE STATEMENT. -/
theorem slotsDoes_said : Rows.SlotsDoesSaid := slotsDoes.over
#print axioms slotsDoes_said
end Go.Proofs.Ytkpoppgibempbaa

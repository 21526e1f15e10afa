/-
  SlotsOrder answers true for every input, and leaves it; no condition of ours.
-/
import Derived.Test.YtkpoppgibempbabNLaw
import Derived.Deep.Cut
import Derived.Deep.CutRange
namespace Go.Proofs.Ytkpoppgibempbab.slotsOrder
open Go.RowKit Go.Deep Go.MapKept Go.Maps
set_option linter.unusedSectionVars false
section
variable [dCp : DecidableEq Cp] [dLim : ∀ k, Decidable (Lim k)] [dBad : ∀ k, Decidable (Bad k)] [dFit : ∀ g z, Decidable (Fit g z)] [dFine : ∀ c, Decidable (Fine c)] [dMint : ∀ c v, Decidable (MintR c v)] [dWho : ∀ x y, Decidable (Whose x y)] [dSl : DecidableEq Sl] [dLt : ∀ a b, Decidable (ltS a b)] [iSl : Inhabited Sl] [iCp : Inhabited Cp]
theorem held_8 {S : St} (h : Two4 S) : (held S).length ≤ 8 := by
  unfold held
  rw [from_len]
  match S, h.len, h.row with
  | [l0, l1], _, hr =>
    have h0 : l0.length = 4 := hr 0 (by omega)
    have h1 : l1.length = 4 := hr 1 (by omega)
    have a0 := one_le l0
    have a1 := one_le l1
    simp
    omega
theorem held_get {S : St} {p : Sl × Cp} (h : p ∈ held S) : getC S p.1 = p.2 ∧ getE S p.1 = 0 ∧ p.2.k ≠ 0 := by
  have h1 := (mem_held S p.1 p.2).1 h
  unfold holdS at h1
  split at h1
  · rename_i c hc
    split at h1
    · cases h1
    · rename_i hk
      cases h1
      exact ⟨getC_at hc, by unfold getE; rw [hc]; rfl, hk⟩
  · cases h1
theorem held_fits {S : St} {p : Sl × Cp} (hS : S.length ≤ 64) (ok : Okay S) (h : p ∈ held S) : p.1.Fits := by
  have h1 := (mem_held S p.1 p.2).1 h
  unfold holdS at h1
  split at h1
  · rename_i c hc
    obtain ⟨g1, g2, g3, g4, _, g5⟩ := atS_mem hc
    have := row_256 ok g4
    exact ⟨⟨by omega, by omega⟩, ⟨by omega, by omega⟩⟩
  · cases h1
set_option maxHeartbeats 4000000 in
set_option maxRecDepth 100000 in
theorem walk (ao : Option Addr) (X : List Oc) (cap : Nat) (w : World) (hX : Script w ao X) (hl : X.length ≤ 9223372036854775807) :
    Calls Try.prog 3 #[.slice ao X.length cap] w fun e w' => e = .returned (.bool true) ∧ Below w.heap.size w w' := by
  have HX : Hid (Script w ao X ∧ X.length ≤ 9223372036854775807) := ⟨hX, hl⟩
  clear hX hl
  go_enter Try.func3, Try.ntmps3
  go_wp2_with fail
  refine (two_any _).mono ?_
  rintro e w1 ⟨p, F, rfl, h0⟩
  have h1 : Hid (Has w w.heap.size w1 p F two0 [] []) := h0
  clear h0
  generalize hr0 : w.heap.size = r at *
  have HR : Hid (w.heap.size = r) := hr0
  clear hr0
  go_wp2
  go_loopw [4] (fun i wr => ∃ (k : Nat) (S : St), k ≤ 20 ∧ i = .int .i64 k ∧ Two4 S ∧ Has w r wr p F S [] []) (fun i _ => 20 - (intOf i).toNat)
  case atStart => exact ⟨0, two0, by omega, rfl, two4_0, h1.out⟩
  case round =>
    obtain ⟨k, S, hk, rfl, ht, hh⟩ := hrel
    have HT : Hid (Two4 S) := ht
    have h5h : Hid (Has w r wr p F S [] []) := hh
    clear ht hh h1
    by_cases hlt : k < X.length ∧ k < 20
    · obtain ⟨x, hx⟩ : ∃ x, X[k]? = some x := ⟨_, List.getElem?_eq_getElem hlt.1⟩
      obtain ⟨fx, b0, o0, rfl, hb, _⟩ := HX.out.1 k x hx
      have HP : Hid (∀ W, Below r w W → W.cell? ⟨b0, o0 + k * 12 + 2, none⟩ = some (.int .i64 x.a.n) ∧ W.cell? ⟨b0, o0 + k * 12 + 2 + 1, none⟩ = some (.int .i64 x.a.i) ∧ W.cell? ⟨b0, o0 + k * 12 + 6, none⟩ = some (.int .i64 x.c.k) ∧ W.cell? ⟨b0, o0 + k * 12 + 6 + 1, none⟩ = some (.int .i64 x.c.o) ∧ W.cell? ⟨b0, o0 + k * 12 + 6 + 2, none⟩ = some (.int .i64 x.c.r) ∧ W.cell? ⟨b0, o0 + k * 12 + 6 + 3, none⟩ = some (.int .u64 x.c.b) ∧ W.cell? ⟨b0, o0 + k * 12 + 6 + 4, none⟩ = some (.int .u64 x.c.g) ∧ W.cell? ⟨b0, o0 + k * 12 + 6 + 5, none⟩ = some (.int .i64 x.c.z)) := fun W u => script_put HX.out.1 hx rfl (by rw [HR.out]; exact u)
      have hS := HP.out wr h5h.out.low
      have HF : Hid (x.Fits) := fx
      have hk1 : (k : Int) < (X.length : Int) := by omega
      have hk2 : (k : Int) < 20 := by omega
      have HK : Hid (k < 20) := hlt.2
      clear hlt hx hb fx
      generalize hXl : X.length = n at *
      clear hXl
      go_wp2
      go_region_held3 (fun W => W.cell? ⟨b0, o0 + k * 12 + 2, none⟩ = some (.int .i64 x.a.n) ∧ W.cell? ⟨b0, o0 + k * 12 + 2 + 1, none⟩ = some (.int .i64 x.a.i) ∧ W.cell? ⟨b0, o0 + k * 12 + 6, none⟩ = some (.int .i64 x.c.k) ∧ W.cell? ⟨b0, o0 + k * 12 + 6 + 1, none⟩ = some (.int .i64 x.c.o) ∧ W.cell? ⟨b0, o0 + k * 12 + 6 + 2, none⟩ = some (.int .i64 x.c.r) ∧ W.cell? ⟨b0, o0 + k * 12 + 6 + 3, none⟩ = some (.int .u64 x.c.b) ∧ W.cell? ⟨b0, o0 + k * 12 + 6 + 4, none⟩ = some (.int .u64 x.c.g) ∧ W.cell? ⟨b0, o0 + k * 12 + 6 + 5, none⟩ = some (.int .i64 x.c.z)) ((first | assumption | with_reducible exact HP.out _ (h5h.out.low.drew) | with_reducible exact HP.out _ h2.low))
        (first | (go_at_call 6; refine (put_has x.a x.c _ _ (h5h.out.drew) HF.out.a HF.out.c rfl rfl).mono ?_; rintro e w' ⟨rfl, h2⟩))
      have h2 : Hid _ := h2
      go_wp2
      go_roundw
      case rel => exact ⟨k + 1, _, HK.out, by go_num, HT.out.put x.a HF.out.c, h2.out⟩
      case measure => simp [intOf]; have := HK.out; omega
    · have hge : (¬ k < X.length) ∨ (k < X.length ∧ k = 20) := by omega
      rcases hge with hge | hge
      · have hk1 : ¬ ((k : Int) < (X.length : Int)) := by omega
        clear hge hlt hk
        generalize hXl : X.length = n at *
        clear hXl HX
        obtain ⟨A, HA⟩ : ∃ A, Hid (held S = A ∧ A.length ≤ 8 ∧ (∀ x ∈ A, getC S x.1 = x.2 ∧ getE S x.1 = 0 ∧ x.2.k ≠ 0 ∧ x.1.Fits) ∧ A.Pairwise (fun p q => ltS p.1 q.1)) := ⟨_, rfl, held_8 HT.out, fun x hx => ⟨(held_get hx).1, (held_get hx).2.1, (held_get hx).2.2, held_fits (by have := HT.out.len; omega) HT.out.ok hx⟩, held_sorted S⟩
        go_wp2_with fail
        refine (held_is A HA.out.1 h5h.out).mono ?_
        rintro e w7 ⟨ao7, cap7, rfl, h7⟩
        have k7 : Hid (Has w r w7 p F S [] [(.slice ao7 A.length cap7, A)]) := h7
        clear h7 h5h
        go_wp2
        go_loopw [6] (fun i wx => ∃ j : Nat, j ≤ A.length ∧ i = .int .i64 j ∧ Has w r wx p F S [] [(.slice ao7 A.length cap7, A)]) (fun i _ => A.length - (intOf i).toNat)
        case atStart => exact ⟨0, Nat.zero_le _, rfl, k7.out⟩
        case round =>
          obtain ⟨j, hj, rfl, hh⟩ := hrel
          have k8 : Hid (Has w r wr p F S [] [(.slice ao7 A.length cap7, A)]) := hh
          clear hh k7
          have HQ : ∀ W (c : Cp), (Op.equalIn 10000 31 (.agg #[.int .i64 c.k, .int .i64 c.o, .int .i64 c.r, .int .u64 c.b, .int .u64 c.g, .int .i64 c.z]) (.agg #[.int .i64 c.k, .int .i64 c.o, .int .i64 c.r, .int .u64 c.b, .int .u64 c.g, .int .i64 c.z])).run Try.prog W = .ok true W := fun W c => by
            have h := eq_caps W c c
            simpa using h
          by_cases hjl : j < A.length
          · obtain ⟨x, hx⟩ : ∃ x, A[j]? = some x := ⟨_, List.getElem?_eq_getElem hjl⟩
            have HXX : Hid (getC S x.1 = x.2 ∧ getE S x.1 = 0 ∧ x.2.k ≠ 0 ∧ x.1.Fits) := HA.out.2.2.1 x (List.mem_of_getElem? hx)
            have HXJ : Hid (A[j]? = some x) := hx
            obtain ⟨g, rfl, c0, c1, c2, c3, c4, c5, c6, c7, _⟩ := (k8.out.row (.slice ao7 A.length cap7, A) (by simp)).1.cells.2 j x hx
            have HJ : Hid (j < A.length) := hjl
            have hj1 : (j : Int) < (A.length : Int) := by omega
            have hj2 : (A.length : Int) ≤ 8 := by have := HA.out.2.1; omega
            have hk0 : (x.2.k == 0) = false := by simp [HXX.out.2.2.1]
            clear hjl hj hx
            obtain ⟨al, HAl⟩ : ∃ al, Hid (A.length = al) := ⟨_, rfl⟩
            rw [HAl.out] at hj1 hj2
            simp only [HAl.out]
            go_wp2_with fail
            refine (get_has x.1 x.2 0 k8.out HXX.out.2.2.2 HXX.out.1 HXX.out.2.1).mono ?_
            rintro e w9 ⟨he, h9⟩
            obtain rfl : e = .returned (.tuple #[.agg #[.int .i64 x.2.k, .int .i64 x.2.o, .int .i64 x.2.r, .int .u64 x.2.b, .int .u64 x.2.g, .int .i64 x.2.z], .int .i64 0]) := he
            clear c0 c1 c2 c3 c4 c5 c6 c7 k8
            have h9a : Has w r (w9.alloc (objC x.2)) p F S [(w9.heap.size, objC x.2)] [(.slice (some ⟨g, 0, none⟩) A.length cap7, A)] := h9.alloc (objC x.2)
            clear h9
            obtain ⟨g', eg, c0, c1, c2, c3, c4, c5, c6, c7, _⟩ := (h9a.row (.slice (some ⟨g, 0, none⟩) A.length cap7, A) (by simp)).1.cells.2 j x HXJ.out
            cases eg
            obtain ⟨d0, d1, d2, d3, d4, d5⟩ := (h9a.atC (q := w9.heap.size) (c := x.2) (by simp)).cells
            have j9 : Hid _ := h9a
            clear h9a
            simp only [objC] at j9 c0 c1 c2 c3 c4 c5 c6 c7 d0 d1 d2 d3 d4 d5
            have hqx := fun W => HQ W x.2
            go_wp2
            generalize w9.alloc (Obj.cells #[.int .i64 x.2.k, .int .i64 x.2.o, .int .i64 x.2.r, .int .u64 x.2.b, .int .u64 x.2.g, .int .i64 x.2.z] 31) = v9 at *
            generalize w9.heap.size = q9 at *
            have k9 : Hid (Has w r v9 p F S [(q9, objC x.2)] [(.slice (some ⟨g, 0, none⟩) A.length cap7, A)]) := j9
            clear j9
            have k10 : Hid (∀ n, Has w r (v9.drewN n) p F S [] [(.slice (some ⟨g, 0, none⟩) A.length cap7, A)]) := fun n => ((k9.out.fewer (L' := []) (fun b hb => by cases hb) fun b hb => hb).below ⟨rfl, rfl, rfl, Nat.le_refl _, fun _ _ => rfl⟩)
            go_quiet (fail)
            go_wp2
            clear d0 d1 d2 d3 d4 d5
            cases j with
            | zero =>
              go_quiet (fail)
              go_wp2
              go_roundw
              case rel => exact ⟨1, by have := HJ.out; have := HAl.out; omega, rfl, by rw [← HAl.out]; exact k10.out _⟩
              case measure => simp [intOf]; have := HJ.out; have := HAl.out; omega
            | succ j' =>
              obtain ⟨y, hy⟩ : ∃ y, A[j']? = some y := ⟨_, List.getElem?_eq_getElem (by have := HJ.out; omega)⟩
              obtain ⟨g', eg, y0, y1, _, _, _, _, _, _, _⟩ := (k9.out.row (.slice (some ⟨g, 0, none⟩) A.length cap7, A) (by simp)).1.cells.2 j' y hy
              cases eg
              have hlt : ltS y.1 x.1 := by
                obtain ⟨p1, e1⟩ := List.getElem?_eq_some_iff.1 hy
                obtain ⟨p2, e2⟩ := List.getElem?_eq_some_iff.1 HXJ.out
                have := List.pairwise_iff_getElem.1 HA.out.2.2.2 j' (j' + 1) p1 p2 (by omega)
                rwa [e1, e2] at this
              unfold ltS at hlt
              have hgt : (0 : Int) < ((j' + 1 : Nat) : Int) := by omega
              have hw1 : IntKind.i64.wrap (((j' + 1 : Nat) : Int) - 1) = (j' : Int) := by rw [IntKind.wrap_i64]; omega
              have hw2 : IntKind.i64.wrap ((j' : Int) + 1 - 1) = (j' : Int) := by rw [IntKind.wrap_i64]; omega
              have hj3 : (j' : Int) < (al : Int) := by omega
              have n1 : decide (x.1.n < y.1.n) = false := by simp; omega
              clear c2 c3 c4 c5 c6 c7 hy
              by_cases hn : x.1.n = y.1.n
              · have n2 : (x.1.n == y.1.n) = true := by simp [hn]
                have n3 : decide (x.1.i ≤ y.1.i) = false := by simp; omega
                clear hlt hn
                go_quiet (fail)
                go_wp2
                go_roundw
                case rel => exact ⟨j' + 2, by have := HJ.out; have := HAl.out; omega, by go_num, by rw [← HAl.out]; exact k10.out _⟩
                case measure => simp [intOf]; have := HJ.out; have := HAl.out; omega
              · have n2 : (x.1.n == y.1.n) = false := by simp [hn]
                clear hlt hn
                go_quiet (fail)
                go_wp2
                go_roundw
                case rel => exact ⟨j' + 2, by have := HJ.out; have := HAl.out; omega, by go_num, by rw [← HAl.out]; exact k10.out _⟩
                case measure => simp [intOf]; have := HJ.out; have := HAl.out; omega
          · have hj1 : ¬ ((j : Int) < (A.length : Int)) := by omega
            have hj2 : (A.length : Int) ≤ 8 := by have := HA.out.2.1; omega
            clear hjl hj
            obtain ⟨al, HAl⟩ : ∃ al, Hid (A.length = al) := ⟨_, rfl⟩
            rw [HAl.out] at hj1 hj2
            simp only [HAl.out]
            go_wp2_with fail
            refine (fixed_has k8.out).mono ?_
            rintro e w9 ⟨rfl, h9⟩
            have KL : Hid _ := h9
            clear h9 k8
            go_wp2
            go_ret
            exact ⟨rfl, by rw [HR.out]; exact KL.out.low⟩
      · obtain ⟨hk0, rfl⟩ := hge
        have hk1 : ((20 : Nat) : Int) < (X.length : Int) := by omega
        clear hk0 hlt hk
        generalize hXl : X.length = n at *
        clear hXl HX
        obtain ⟨A, HA⟩ : ∃ A, Hid (held S = A ∧ A.length ≤ 8 ∧ (∀ x ∈ A, getC S x.1 = x.2 ∧ getE S x.1 = 0 ∧ x.2.k ≠ 0 ∧ x.1.Fits) ∧ A.Pairwise (fun p q => ltS p.1 q.1)) := ⟨_, rfl, held_8 HT.out, fun x hx => ⟨(held_get hx).1, (held_get hx).2.1, (held_get hx).2.2, held_fits (by have := HT.out.len; omega) HT.out.ok hx⟩, held_sorted S⟩
        go_wp2_with fail
        refine (held_is A HA.out.1 h5h.out).mono ?_
        rintro e w7 ⟨ao7, cap7, rfl, h7⟩
        have k7 : Hid (Has w r w7 p F S [] [(.slice ao7 A.length cap7, A)]) := h7
        clear h7 h5h
        go_wp2
        go_loopw [6] (fun i wx => ∃ j : Nat, j ≤ A.length ∧ i = .int .i64 j ∧ Has w r wx p F S [] [(.slice ao7 A.length cap7, A)]) (fun i _ => A.length - (intOf i).toNat)
        case atStart => exact ⟨0, Nat.zero_le _, rfl, k7.out⟩
        case round =>
          obtain ⟨j, hj, rfl, hh⟩ := hrel
          have k8 : Hid (Has w r wr p F S [] [(.slice ao7 A.length cap7, A)]) := hh
          clear hh k7
          have HQ : ∀ W (c : Cp), (Op.equalIn 10000 31 (.agg #[.int .i64 c.k, .int .i64 c.o, .int .i64 c.r, .int .u64 c.b, .int .u64 c.g, .int .i64 c.z]) (.agg #[.int .i64 c.k, .int .i64 c.o, .int .i64 c.r, .int .u64 c.b, .int .u64 c.g, .int .i64 c.z])).run Try.prog W = .ok true W := fun W c => by
            have h := eq_caps W c c
            simpa using h
          by_cases hjl : j < A.length
          · obtain ⟨x, hx⟩ : ∃ x, A[j]? = some x := ⟨_, List.getElem?_eq_getElem hjl⟩
            have HXX : Hid (getC S x.1 = x.2 ∧ getE S x.1 = 0 ∧ x.2.k ≠ 0 ∧ x.1.Fits) := HA.out.2.2.1 x (List.mem_of_getElem? hx)
            have HXJ : Hid (A[j]? = some x) := hx
            obtain ⟨g, rfl, c0, c1, c2, c3, c4, c5, c6, c7, _⟩ := (k8.out.row (.slice ao7 A.length cap7, A) (by simp)).1.cells.2 j x hx
            have HJ : Hid (j < A.length) := hjl
            have hj1 : (j : Int) < (A.length : Int) := by omega
            have hj2 : (A.length : Int) ≤ 8 := by have := HA.out.2.1; omega
            have hk0 : (x.2.k == 0) = false := by simp [HXX.out.2.2.1]
            clear hjl hj hx
            obtain ⟨al, HAl⟩ : ∃ al, Hid (A.length = al) := ⟨_, rfl⟩
            rw [HAl.out] at hj1 hj2
            simp only [HAl.out]
            go_wp2_with fail
            refine (get_has x.1 x.2 0 k8.out HXX.out.2.2.2 HXX.out.1 HXX.out.2.1).mono ?_
            rintro e w9 ⟨he, h9⟩
            obtain rfl : e = .returned (.tuple #[.agg #[.int .i64 x.2.k, .int .i64 x.2.o, .int .i64 x.2.r, .int .u64 x.2.b, .int .u64 x.2.g, .int .i64 x.2.z], .int .i64 0]) := he
            clear c0 c1 c2 c3 c4 c5 c6 c7 k8
            have h9a : Has w r (w9.alloc (objC x.2)) p F S [(w9.heap.size, objC x.2)] [(.slice (some ⟨g, 0, none⟩) A.length cap7, A)] := h9.alloc (objC x.2)
            clear h9
            obtain ⟨g', eg, c0, c1, c2, c3, c4, c5, c6, c7, _⟩ := (h9a.row (.slice (some ⟨g, 0, none⟩) A.length cap7, A) (by simp)).1.cells.2 j x HXJ.out
            cases eg
            obtain ⟨d0, d1, d2, d3, d4, d5⟩ := (h9a.atC (q := w9.heap.size) (c := x.2) (by simp)).cells
            have j9 : Hid _ := h9a
            clear h9a
            simp only [objC] at j9 c0 c1 c2 c3 c4 c5 c6 c7 d0 d1 d2 d3 d4 d5
            have hqx := fun W => HQ W x.2
            go_wp2
            generalize w9.alloc (Obj.cells #[.int .i64 x.2.k, .int .i64 x.2.o, .int .i64 x.2.r, .int .u64 x.2.b, .int .u64 x.2.g, .int .i64 x.2.z] 31) = v9 at *
            generalize w9.heap.size = q9 at *
            have k9 : Hid (Has w r v9 p F S [(q9, objC x.2)] [(.slice (some ⟨g, 0, none⟩) A.length cap7, A)]) := j9
            clear j9
            have k10 : Hid (∀ n, Has w r (v9.drewN n) p F S [] [(.slice (some ⟨g, 0, none⟩) A.length cap7, A)]) := fun n => ((k9.out.fewer (L' := []) (fun b hb => by cases hb) fun b hb => hb).below ⟨rfl, rfl, rfl, Nat.le_refl _, fun _ _ => rfl⟩)
            go_quiet (fail)
            go_wp2
            clear d0 d1 d2 d3 d4 d5
            cases j with
            | zero =>
              go_quiet (fail)
              go_wp2
              go_roundw
              case rel => exact ⟨1, by have := HJ.out; have := HAl.out; omega, rfl, by rw [← HAl.out]; exact k10.out _⟩
              case measure => simp [intOf]; have := HJ.out; have := HAl.out; omega
            | succ j' =>
              obtain ⟨y, hy⟩ : ∃ y, A[j']? = some y := ⟨_, List.getElem?_eq_getElem (by have := HJ.out; omega)⟩
              obtain ⟨g', eg, y0, y1, _, _, _, _, _, _, _⟩ := (k9.out.row (.slice (some ⟨g, 0, none⟩) A.length cap7, A) (by simp)).1.cells.2 j' y hy
              cases eg
              have hlt : ltS y.1 x.1 := by
                obtain ⟨p1, e1⟩ := List.getElem?_eq_some_iff.1 hy
                obtain ⟨p2, e2⟩ := List.getElem?_eq_some_iff.1 HXJ.out
                have := List.pairwise_iff_getElem.1 HA.out.2.2.2 j' (j' + 1) p1 p2 (by omega)
                rwa [e1, e2] at this
              unfold ltS at hlt
              have hgt : (0 : Int) < ((j' + 1 : Nat) : Int) := by omega
              have hw1 : IntKind.i64.wrap (((j' + 1 : Nat) : Int) - 1) = (j' : Int) := by rw [IntKind.wrap_i64]; omega
              have hw2 : IntKind.i64.wrap ((j' : Int) + 1 - 1) = (j' : Int) := by rw [IntKind.wrap_i64]; omega
              have hj3 : (j' : Int) < (al : Int) := by omega
              have n1 : decide (x.1.n < y.1.n) = false := by simp; omega
              clear c2 c3 c4 c5 c6 c7 hy
              by_cases hn : x.1.n = y.1.n
              · have n2 : (x.1.n == y.1.n) = true := by simp [hn]
                have n3 : decide (x.1.i ≤ y.1.i) = false := by simp; omega
                clear hlt hn
                go_quiet (fail)
                go_wp2
                go_roundw
                case rel => exact ⟨j' + 2, by have := HJ.out; have := HAl.out; omega, by go_num, by rw [← HAl.out]; exact k10.out _⟩
                case measure => simp [intOf]; have := HJ.out; have := HAl.out; omega
              · have n2 : (x.1.n == y.1.n) = false := by simp [hn]
                clear hlt hn
                go_quiet (fail)
                go_wp2
                go_roundw
                case rel => exact ⟨j' + 2, by have := HJ.out; have := HAl.out; omega, by go_num, by rw [← HAl.out]; exact k10.out _⟩
                case measure => simp [intOf]; have := HJ.out; have := HAl.out; omega
          · have hj1 : ¬ ((j : Int) < (A.length : Int)) := by omega
            have hj2 : (A.length : Int) ≤ 8 := by have := HA.out.2.1; omega
            clear hjl hj
            obtain ⟨al, HAl⟩ : ∃ al, Hid (A.length = al) := ⟨_, rfl⟩
            rw [HAl.out] at hj1 hj2
            simp only [HAl.out]
            go_wp2_with fail
            refine (fixed_has k8.out).mono ?_
            rintro e w9 ⟨rfl, h9⟩
            have KL : Hid _ := h9
            clear h9 k8
            go_wp2
            go_ret
            exact ⟨rfl, by rw [HR.out]; exact KL.out.low⟩
end
open Go.ChangeShapes Go.WideShapes Go.ChangeAt Go.RowKit Go.Joins

/-! ### From the walk to the statement -/
set_option maxRecDepth 100000 in
theorem lifted (os : Os) (started : os.Started) (H : Type) (enc : TypeId × Value → H) :
    ReturnsInHanded {} Try.checked os 3 .any (Rows.slotsOrderSpec.pre6 enc Try.prog Try.f3 Rows.slotsOrderRow.domain false) (Rows.slotsOrderSpec.post enc Try.prog Try.f3 false true false false) := by
  have dCp : DecidableEq Cp := fun a b => Classical.propDecidable (a = b)
  have dLim : ∀ k, Decidable (Lim k) := fun k => Classical.propDecidable (Lim k)
  have dBad : ∀ k, Decidable (Bad k) := fun k => Classical.propDecidable (Bad k)
  have dFit : ∀ g z, Decidable (Fit g z) := fun g z => Classical.propDecidable (Fit g z)
  have dFine : ∀ c, Decidable (Fine c) := fun c => Classical.propDecidable (Fine c)
  have dMint : ∀ c v, Decidable (MintR c v) := fun c v => Classical.propDecidable (MintR c v)
  have dWho : ∀ x y, Decidable (Whose x y) := fun x y => Classical.propDecidable (Whose x y)
  have dSl : DecidableEq Sl := fun a b => Classical.propDecidable (a = b)
  have dLt : ∀ a b, Decidable (ltS a b) := fun a b => Classical.propDecidable (ltS a b)
  have iSl : Inhabited Sl := ⟨⟨0, 0⟩⟩
  have iCp : Inhabited Cp := ⟨no⟩
  refine returnsInHanded_of_change (C := Try.checked) own started (by kernel_rfl) Try.func3
    (ChangeSpec.witness6 (enc := enc) (C := Try.checked) false ⟨#[], #[.slice none 0 0], []⟩ 8 (by kernel_rfl) (by kernel_rfl) (by kernel_rfl) (by kernel_rfl)) ?_
  intro W base args ds gs before hval0 hW hcnd _
  have hval : ∀ (j : Nat) t v, Try.f3.params[j]? = some t → args[j]? = some v → Value.okWide Try.prog W .any base t v := hval0
  have hW' := hW
  obtain ⟨p, q, hA0, hV, rfl, hfz, hnd⟩ := hW
  have hA : DataW.TrodAll enc Try.prog W 0 (fun _ => true) true Try.f3.params.toList args.toList ds p := hA0
  rw [Try.params3] at hA hval
  obtain ⟨v0, vs0, d0, ds0, p0, q0, hargs, rfl, rfl, h0, r0⟩ := trodAll_cons hA
  obtain ⟨rfl, rfl, rfl⟩ := trodAll_nil r0
  obtain rfl : args = #[v0] := by cases args; simp_all
  obtain ⟨rfl, rfl⟩ := trodVars_none hV
  have k0 := h0
  have lt0 : ∀ x ∈ p0, x.block < W.heap.size := by obtain ⟨m, hm⟩ := k0; exact DataW.trod_lt m _ _ _ hm
  obtain ⟨a0, l0, c0, rfl, t0, s0⟩ := open_ops (hval 0 22 v0 rfl rfl) h0
  clear hA0 hval0
  refine (walk a0 l0 c0 W t0 s0).mono fun e W' ⟨he, bel⟩ => ?_
  subst he
  exact ⟨_, rfl, _, _, _, [], _, [], hW', trodAll_mk1 (shut_bool Try.underlying4 _), (trodAll_cons_mk (Below.trod laidOut (by kernel_rfl) (of_decide_eq_true (by kernel_rfl)) k0 bel lt0) trodAll_mk0), rfl, bel.frame _, fun h => by cases h⟩
theorem over : Rows.slotsOrderRow.holds Try.pinned (OpenSpec.ofChange Rows.slotsOrderSpec) :=
  OpenClaim.holds_of_wide 3 Try.f3 rfl rfl rfl rfl rfl rfl rfl ⟨rfl, rfl, rfl, rfl, rfl⟩ rfl rfl rfl rfl rfl (by kernel_rfl) Try.func3 (by kernel_rfl)
    (of_decide_eq_true (by kernel_rfl)) (by unfold Func.isWrapper; first | (rw [if_pos (by decide +kernel)]; kernel_rfl) | (rw [if_neg (by decide +kernel)]; exact ⟨rfl, rfl⟩))
    (fun os started H enc _ => lifted os started H enc)
end Go.Proofs.Ytkpoppgibempbab.slotsOrder
namespace Go.Proofs.Ytkpoppgibempbab
/-- THE STATEMENT. -/
theorem slotsOrder_said : Rows.SlotsOrderSaid := slotsOrder.over
#print axioms slotsOrder_said
end Go.Proofs.Ytkpoppgibempbab

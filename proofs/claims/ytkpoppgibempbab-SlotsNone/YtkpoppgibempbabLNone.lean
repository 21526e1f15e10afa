/-
  SlotsNone answers true for every input, and leaves it; no condition of ours.
-/
import Derived.Test.YtkpoppgibempbabNLaw
import Derived.Deep.Cut
import Derived.Deep.CutRange
namespace Go.Proofs.Ytkpoppgibempbab.slotsNone
open Go.RowKit Go.Deep Go.MapKept Go.Maps
set_option linter.unusedSectionVars false
section
variable [dCp : DecidableEq Cp] [dLim : ∀ k, Decidable (Lim k)] [dBad : ∀ k, Decidable (Bad k)] [dFit : ∀ g z, Decidable (Fit g z)] [dFine : ∀ c, Decidable (Fine c)] [dMint : ∀ c v, Decidable (MintR c v)] [dWho : ∀ x y, Decidable (Whose x y)] [dSl : DecidableEq Sl] [dLt : ∀ a b, Decidable (ltS a b)] [iSl : Inhabited Sl] [iCp : Inhabited Cp]
theorem none_all {S : St} {s : Sl} (h : atS S s = none) (c : Cp) (t : Sl) : getC S s = no ∧ getE S s = 50 ∧ takeC S s = no ∧ takeE S s = 50 ∧ takeS S s = S ∧ putE S s c = 50 ∧ putS S s c = S ∧ moveE S s t = 50 ∧ moveS S s t = S ∧ moveE S t s = 50 ∧ moveS S t s = S ∧ swapE S t s = 50 ∧ swapS S t s = S := by
  have e1 : getE S s = 50 := by unfold getE; rw [h]; rfl
  have e2 : takeE S s = 50 := by unfold takeE; rw [h]
  have e3 : putE S s c = 50 := by unfold putE; rw [h]
  have e4 : moveE S s t = 50 := by unfold moveE; rw [h]
  have e5 : moveE S t s = 50 := by unfold moveE; rw [h]; cases atS S t <;> rfl
  have e6 : swapE S t s = 50 := by unfold swapE; rw [h]; simp
  exact ⟨by unfold getC; rw [h]; rfl, e1, by unfold takeC; rw [e2]; rfl, e2, by unfold takeS; rw [e2]; rfl, e3, by unfold putS; rw [e3]; rfl, e4, by unfold moveS; rw [e4]; rfl, e5, by unfold moveS; rw [e5]; rfl, e6, by unfold swapS; rw [e6]; rfl⟩
theorem none_i {S : St} (h : Two4 S) (n i : Nat) (hn : n ≤ 1) : atS S ⟨(n : Int), 4 + (i : Int)⟩ = none := by
  have hl := h.row n (by omega)
  unfold atS
  split
  · simp only [Int.toNat_natCast]
    exact List.getElem?_eq_none (by omega)
  · rfl
theorem none_n {S : St} (h : Two4 S) (n : Nat) : atS S ⟨2 + (n : Int), 0⟩ = none := by
  have hl := h.len
  unfold atS
  split
  · have : S.getD (2 + (n : Int)).toNat [] = [] := by
      rw [List.getD_eq_getElem?_getD, List.getElem?_eq_none (by omega)]
      rfl
    simp only [this]
    rfl
  · rfl
theorem new_has {w0 : World} {r : Nat} {w : World} {p : Nat} {F : Nat → Prop} {S : St} {L : List (Nat × Obj)} {M : List (Value × List (Sl × Cp))} (h : Has w0 r w p F S L M) :
    Calls Try.prog 15 #[] w fun x w' => ∃ q, x = .returned (.pointer (some ⟨q, 0, none⟩)) ∧ Has w0 r w' p F S L M := by
  refine (new_any w).mono ?_
  rintro e w' ⟨q, F', rfl, _, _, b⟩
  exact ⟨q, rfl, h.below b⟩
theorem thread_has {w0 : World} {r : Nat} {w : World} {p : Nat} {F : Nat → Prop} {S : St} {L : List (Nat × Obj)} {M : List (Value × List (Sl × Cp))} (h : Has w0 r w p F S L M) :
    Calls Try.prog 11 #[] w fun x w' => x = .returned (encC thr) ∧ Has w0 r w' p F S L M := by
  refine (thread_any w).mono ?_
  rintro e w' ⟨rfl, rfl⟩
  exact ⟨rfl, (h.alloc _).fewer (fun b hb => List.mem_cons_of_mem _ hb) fun b hb => hb⟩
theorem has_pair {w0 : World} {r : Nat} {w : World} {p : Nat} {F : Nat → Prop} {S : St} {L : List (Nat × Obj)} {M : List (Value × List (Sl × Cp))} (h : Has w0 r w p F S L M) {q : Nat} {s : Sl} (h1 : (q, objS s) ∈ L) : w.cell? ⟨q, 0, none⟩ = some (.int .i64 s.n) ∧ w.cell? ⟨q, 1, none⟩ = some (.int .i64 s.i) := (h.atS h1).cells
set_option maxHeartbeats 4000000 in
set_option maxRecDepth 100000 in
theorem walk (ao : Option Addr) (X : List Oc) (cap : Nat) (node i : Int) (w : World) (hX : Script w ao X) (hl : X.length ≤ 9223372036854775807) (_f1 : I64 node) (_f2 : I64 i) :
    Calls Try.prog 4 #[.slice ao X.length cap, .int .i64 node, .int .i64 i] w fun e w' => e = .returned (.bool true) ∧ Below w.heap.size w w' := by
  have HX : Hid (Script w ao X ∧ X.length ≤ 9223372036854775807) := ⟨hX, hl⟩
  clear hX hl
  obtain ⟨n1, hn1, e1⟩ := mask1 node
  obtain ⟨i1, hi1, e2⟩ := mask16 i
  obtain ⟨n2, hn2, e3⟩ := mask16 node
  obtain ⟨xi, HE4⟩ : ∃ xi : Int, Hid (4 + (i1 : Int) = xi) := ⟨_, rfl⟩
  obtain ⟨xn, HE5⟩ : ∃ xn : Int, Hid (2 + (n2 : Int) = xn) := ⟨_, rfl⟩
  have e4 : IntKind.i64.wrap (4 + (i1 : Int)) = xi := by rw [← HE4.out, IntKind.wrap_i64]; omega
  have e5 : IntKind.i64.wrap (2 + (n2 : Int)) = xn := by rw [← HE5.out, IntKind.wrap_i64]; omega
  have HM : Hid (n1 ≤ 1 ∧ i1 ≤ 65535 ∧ n2 ≤ 65535) := ⟨hn1, hi1, hn2⟩
  clear hn1 hi1 hn2 _f1 _f2
  go_enter Try.func4, Try.ntmps4
  go_wp2_with fail
  refine (two_any _).mono ?_
  rintro e w1 ⟨p, F, rfl, h0⟩
  have h1 : Hid (Has w w.heap.size w1 p F two0 [] []) := h0
  clear h0
  generalize hr0 : w.heap.size = r at *
  have HR : Hid (w.heap.size = r) := hr0
  clear hr0
  go_wp2
  go_loopw [8] (fun i wr => ∃ (k : Nat) (S : St), k ≤ 20 ∧ i = .int .i64 k ∧ Two4 S ∧ Has w r wr p F S [] []) (fun i _ => 20 - (intOf i).toNat)
  case atStart => exact ⟨0, two0, by omega, rfl, two4_0, h1.out⟩
  case round =>
    obtain ⟨k, S, hk, rfl, ht, hh⟩ := hrel
    have HT : Hid (Two4 S) := ht
    have h5h : Hid (Has w r wr p F S [] []) := hh
    clear ht hh h1
    by_cases hlt : k < X.length ∧ k < 20
    · obtain ⟨x, hx⟩ : ∃ x, X[k]? = some x := ⟨_, List.getElem?_eq_getElem hlt.1⟩
      obtain ⟨fx, b0, o0, rfl, hb, _⟩ := HX.out.1 k x hx
      have HP : Hid (∀ W, Below r w W → W.cell? ⟨b0, o0 + k * 12 + 2, none⟩ = some (.int .i64 x.a.n) ∧ W.cell? ⟨b0, o0 + k * 12 + 2 + 1, none⟩ = some (.int .i64 x.a.i) ∧ W.cell? ⟨b0, o0 + k * 12 + 6, none⟩ = some (.int .i64 x.c.k) ∧ W.cell? ⟨b0, o0 + k * 12 + 6 + 1, none⟩ = some (.int .i64 x.c.o) ∧ W.cell? ⟨b0, o0 + k * 12 + 6 + 2, none⟩ = some (.int .i64 x.c.r) ∧ W.cell? ⟨b0, o0 + k * 12 + 6 + 3, none⟩ = some (.int .u64 x.c.b) ∧ W.cell? ⟨b0, o0 + k * 12 + 6 + 4, none⟩ = some (.int .u64 x.c.g) ∧ W.cell? ⟨b0, o0 + k * 12 + 6 + 5, none⟩ = some (.int .i64 x.c.z)) := fun W u => script_put HX.out.1 hx rfl (by rw [HR.out]; exact u)
      have hS := HP.out wr h5h.out.low
      have HF : Hid (x.Fits) := fx
      have hk1 : (k : Int) < (X.length : Int) := by omega
      have hk2 : (k : Int) < 20 := by omega
      have HK : Hid (k < 20) := hlt.2
      clear hlt hx hb fx
      generalize hXl : X.length = n at *
      clear hXl
      go_wp2
      go_region_held3 (fun W => W.cell? ⟨b0, o0 + k * 12 + 2, none⟩ = some (.int .i64 x.a.n) ∧ W.cell? ⟨b0, o0 + k * 12 + 2 + 1, none⟩ = some (.int .i64 x.a.i) ∧ W.cell? ⟨b0, o0 + k * 12 + 6, none⟩ = some (.int .i64 x.c.k) ∧ W.cell? ⟨b0, o0 + k * 12 + 6 + 1, none⟩ = some (.int .i64 x.c.o) ∧ W.cell? ⟨b0, o0 + k * 12 + 6 + 2, none⟩ = some (.int .i64 x.c.r) ∧ W.cell? ⟨b0, o0 + k * 12 + 6 + 3, none⟩ = some (.int .u64 x.c.b) ∧ W.cell? ⟨b0, o0 + k * 12 + 6 + 4, none⟩ = some (.int .u64 x.c.g) ∧ W.cell? ⟨b0, o0 + k * 12 + 6 + 5, none⟩ = some (.int .i64 x.c.z)) ((first | assumption | with_reducible exact HP.out _ (h5h.out.low.drew) | with_reducible exact HP.out _ h2.low))
        (first | (go_at_call 6; refine (put_has x.a x.c _ _ (h5h.out.drew) HF.out.a HF.out.c rfl rfl).mono ?_; rintro e w' ⟨rfl, h2⟩))
      have h2 : Hid _ := h2
      go_wp2
      go_roundw
      case rel => exact ⟨k + 1, _, HK.out, by go_num, HT.out.put x.a HF.out.c, h2.out⟩
      case measure => simp [intOf]; have := HK.out; omega
    · have hge : (¬ k < X.length) ∨ (k < X.length ∧ k = 20) := by omega
      rcases hge with hge | hge
      · have hk1 : ¬ ((k : Int) < (X.length : Int)) := by omega
        clear hge hlt hk
        generalize hXl : X.length = n at *
        clear hXl HX
        obtain ⟨A, HA⟩ : ∃ A, Hid (held S = A ∧ A.length ≤ 1000000) := ⟨_, rfl, Nat.le_trans (held_le HT.out.ok) (by decide)⟩
        go_wp2_with fail
        refine (held_is A HA.out.1 h5h.out).mono ?_
        rintro e w7 ⟨ao7, cap7, rfl, h7⟩
        have k7 : Hid (Has w r w7 p F S [] [(.slice ao7 A.length cap7, A)]) := h7
        clear h7 h5h
        by_cases hi : i < 0
        · have HN : Hid (∀ (c : Cp) (t : Sl), _) := none_all (S := S) (s := ⟨xn, 0⟩) (by rw [← HE5.out]; exact none_n HT.out n2)
          have HFX : Hid ((⟨xn, 0⟩ : Sl).Fits) := fits_lit (by have := HE5.out; have := HM.out; omega) (by omega)
          have g8 : Hid (Has w r (w7.alloc (objS (⟨xn, 0⟩ : Sl))) p F S [(w7.heap.size, objS (⟨xn, 0⟩ : Sl))] [(.slice ao7 A.length cap7, A)]) := k7.out.alloc _
          clear k7
          simp only [objS] at g8
          go_wp2_with fail
          clear hi e1 e2 e3 e4 e5
          generalize w7.alloc (Obj.cells #[.int .i64 (xn), .int .i64 (0)] 28) = v8 at *
          generalize w7.heap.size = q at *
          have k8 : Hid (Has w r v8 p F S [(q, objS (⟨xn, 0⟩ : Sl))] [(.slice ao7 A.length cap7, A)]) := g8
          clear g8
          refine (get_has (⟨xn, 0⟩ : Sl) no 50 k8.out HFX.out (HN.out thr ⟨0, 0⟩).1 (HN.out thr ⟨0, 0⟩).2.1).mono ?_
          rintro e w9 ⟨he, h9⟩
          obtain rfl : e = .returned (.tuple #[.agg #[.int .i64 0, .int .i64 0, .int .i64 0, .int .u64 0, .int .u64 0, .int .i64 0], .int .i64 50]) := he
          have h9a : Has w r (w9.alloc (objC no)) p F S [(w9.heap.size, objC no), (q, objS (⟨xn, 0⟩ : Sl))] [(.slice ao7 A.length cap7, A)] := h9.alloc (objC no)
          clear h9 k8
          obtain ⟨s0, s1⟩ := has_pair h9a (q := q) (s := (⟨xn, 0⟩ : Sl)) (by simp)
          have k9a : Hid _ := h9a
          clear h9a
          simp only [objC, no] at s0 s1 k9a
          go_wp2_with fail
          generalize w9.alloc (Obj.cells #[.int .i64 0, .int .i64 0, .int .i64 0, .int .u64 0, .int .u64 0, .int .i64 0] 31) = v9 at *
          generalize w9.heap.size = q9 at *
          have k9 : Hid (Has w r v9 p F S [(q9, objC no), (q, objS (⟨xn, 0⟩ : Sl))] [(.slice ao7 A.length cap7, A)]) := k9a
          clear k9a
          refine (take_has (⟨xn, 0⟩ : Sl) no 50 S k9.out HFX.out (HN.out thr ⟨0, 0⟩).2.2.1 (HN.out thr ⟨0, 0⟩).2.2.2.1 (HN.out thr ⟨0, 0⟩).2.2.2.2.1).mono ?_
          rintro e w10 ⟨he, h10⟩
          obtain rfl : e = .returned (.tuple #[.agg #[.int .i64 0, .int .i64 0, .int .i64 0, .int .u64 0, .int .u64 0, .int .i64 0], .int .i64 50]) := he
          clear s0 s1 k9
          have h10a : Has w r (w10.alloc (objC no)) p F S [(w10.heap.size, objC no), (q9, objC no), (q, objS (⟨xn, 0⟩ : Sl))] [(.slice ao7 A.length cap7, A)] := h10.alloc (objC no)
          clear h10
          have hS := has_pair h10a (q := q) (s := (⟨xn, 0⟩ : Sl)) (by simp)
          have k10a : Hid _ := h10a
          clear h10a
          simp only [objC, no] at hS k10a
          go_wp2
          generalize w10.alloc (Obj.cells #[.int .i64 0, .int .i64 0, .int .i64 0, .int .u64 0, .int .u64 0, .int .i64 0] 31) = v10 at *
          generalize w10.heap.size = q10 at *
          have k10 : Hid (Has w r v10 p F S [(q10, objC no), (q9, objC no), (q, objS (⟨xn, 0⟩ : Sl))] [(.slice ao7 A.length cap7, A)]) := k10a
          clear k10a
          go_region_held3 (fun W => W.cell? ⟨q, 0, none⟩ = some (.int .i64 xn) ∧ W.cell? ⟨q, 1, none⟩ = some (.int .i64 0)) ((first | assumption | with_reducible exact has_pair h15 (s := (⟨xn, 0⟩ : Sl)) (by simp) | with_reducible exact has_pair h14 (s := (⟨xn, 0⟩ : Sl)) (by simp) | with_reducible exact has_pair h13 (s := (⟨xn, 0⟩ : Sl)) (by simp) | with_reducible exact has_pair h12 (s := (⟨xn, 0⟩ : Sl)) (by simp) | with_reducible exact has_pair h11 (s := (⟨xn, 0⟩ : Sl)) (by simp) | with_reducible exact has_pair k10.out.drew (s := (⟨xn, 0⟩ : Sl)) (by simp)))
            (first | (go_at_call 13; refine (swap_has ⟨0, 0⟩ (⟨xn, 0⟩ : Sl) 50 S h14 (fits_lit (by omega) (by omega)) HFX.out (HN.out thr ⟨0, 0⟩).2.2.2.2.2.2.2.2.2.2.2.1 (HN.out thr ⟨0, 0⟩).2.2.2.2.2.2.2.2.2.2.2.2).mono ?_; rintro e w15 ⟨rfl, h15⟩) | (go_at_call 12; refine (move_has ⟨0, 0⟩ (⟨xn, 0⟩ : Sl) 50 S h13 (fits_lit (by omega) (by omega)) HFX.out (HN.out thr ⟨0, 0⟩).2.2.2.2.2.2.2.2.2.1 (HN.out thr ⟨0, 0⟩).2.2.2.2.2.2.2.2.2.2.1).mono ?_; rintro e w14 ⟨rfl, h14⟩) | (go_at_call 12; refine (move_has (⟨xn, 0⟩ : Sl) ⟨0, 0⟩ 50 S h12 HFX.out (fits_lit (by omega) (by omega)) (HN.out thr ⟨0, 0⟩).2.2.2.2.2.2.2.1 (HN.out thr ⟨0, 0⟩).2.2.2.2.2.2.2.2.1).mono ?_; rintro e w13 ⟨rfl, h13⟩) | (go_at_call 6; refine (put_has (⟨xn, 0⟩ : Sl) thr 50 S h11 HFX.out thr_fits (HN.out thr ⟨0, 0⟩).2.2.2.2.2.1 (HN.out thr ⟨0, 0⟩).2.2.2.2.2.2.1).mono ?_; rintro e w12 ⟨rfl, h12⟩) | (go_at_call 11; refine (thread_has k10.out.drew).mono ?_; rintro e w11 ⟨rfl, h11⟩))
          have k15 : Hid (Has w r w15 p F S [(q10, objC no), (q9, objC no), (q, objS (⟨xn, 0⟩ : Sl))] [(.slice ao7 A.length cap7, A)]) := h15
          clear h11 h12 h13 h14 h15 hS k10
          obtain ⟨d0, d1, d2, d3, d4, d5⟩ := (k15.out.atC (q := q9) (c := no) (by simp)).cells
          simp only [no] at d0 d1 d2 d3 d4 d5
          have HQ1 : ∀ W, (Op.equalIn 10000 31 (.agg #[.int .i64 0, .int .i64 0, .int .i64 0, .int .u64 0, .int .u64 0, .int .i64 0]) (.agg #[.int .i64 0, .int .i64 0, .int .i64 0, .int .u64 0, .int .u64 0, .int .i64 0])).run Try.prog W = .ok true W := fun W => by
            have h := eq_caps W no no
            simpa [no] using h
          go_wp2_with fail
          refine (held_is A HA.out.1 k15.out).mono ?_
          rintro e w16 ⟨ao16, cap16, rfl, h16⟩
          have k16 : Hid (Has w r w16 p F S [(q10, objC no), (q9, objC no), (q, objS (⟨xn, 0⟩ : Sl))] [(.slice ao16 A.length cap16, A), (.slice ao7 A.length cap7, A)]) := h16
          clear h16 k15 d0 d1 d2 d3 d4 d5
          go_wp2_with fail
          refine (same_has k16.out (by simp) (by simp) HA.out.2).mono ?_
          rintro e w17 ⟨rfl, h17⟩
          have k17 : Hid _ := h17
          clear h17 k16
          go_wp2_with fail
          refine (new_has k17.out).mono ?_
          rintro e w18 ⟨q18, rfl, h18⟩
          have k18 : Hid _ := h18
          clear h18 k17
          go_wp2_with fail
          refine (fixed_has k18.out).mono ?_
          rintro e w19 ⟨rfl, h19⟩
          have KL : Hid _ := h19
          clear h19 k18
          go_wp2
          go_ret
          exact ⟨rfl, by rw [HR.out]; exact KL.out.low⟩
        · have HN : Hid (∀ (c : Cp) (t : Sl), _) := none_all (S := S) (s := ⟨(n1 : Int), xi⟩) (by rw [← HE4.out]; exact none_i HT.out n1 i1 HM.out.1)
          have HFX : Hid ((⟨(n1 : Int), xi⟩ : Sl).Fits) := fits_lit (by have := HM.out; omega) (by have := HE4.out; have := HM.out; omega)
          have g8 : Hid (Has w r (w7.alloc (objS (⟨(n1 : Int), xi⟩ : Sl))) p F S [(w7.heap.size, objS (⟨(n1 : Int), xi⟩ : Sl))] [(.slice ao7 A.length cap7, A)]) := k7.out.alloc _
          clear k7
          simp only [objS] at g8
          go_wp2_with fail
          clear hi e1 e2 e3 e4 e5
          generalize w7.alloc (Obj.cells #[.int .i64 ((n1 : Int)), .int .i64 (xi)] 28) = v8 at *
          generalize w7.heap.size = q at *
          have k8 : Hid (Has w r v8 p F S [(q, objS (⟨(n1 : Int), xi⟩ : Sl))] [(.slice ao7 A.length cap7, A)]) := g8
          clear g8
          refine (get_has (⟨(n1 : Int), xi⟩ : Sl) no 50 k8.out HFX.out (HN.out thr ⟨0, 0⟩).1 (HN.out thr ⟨0, 0⟩).2.1).mono ?_
          rintro e w9 ⟨he, h9⟩
          obtain rfl : e = .returned (.tuple #[.agg #[.int .i64 0, .int .i64 0, .int .i64 0, .int .u64 0, .int .u64 0, .int .i64 0], .int .i64 50]) := he
          have h9a : Has w r (w9.alloc (objC no)) p F S [(w9.heap.size, objC no), (q, objS (⟨(n1 : Int), xi⟩ : Sl))] [(.slice ao7 A.length cap7, A)] := h9.alloc (objC no)
          clear h9 k8
          obtain ⟨s0, s1⟩ := has_pair h9a (q := q) (s := (⟨(n1 : Int), xi⟩ : Sl)) (by simp)
          have k9a : Hid _ := h9a
          clear h9a
          simp only [objC, no] at s0 s1 k9a
          go_wp2_with fail
          generalize w9.alloc (Obj.cells #[.int .i64 0, .int .i64 0, .int .i64 0, .int .u64 0, .int .u64 0, .int .i64 0] 31) = v9 at *
          generalize w9.heap.size = q9 at *
          have k9 : Hid (Has w r v9 p F S [(q9, objC no), (q, objS (⟨(n1 : Int), xi⟩ : Sl))] [(.slice ao7 A.length cap7, A)]) := k9a
          clear k9a
          refine (take_has (⟨(n1 : Int), xi⟩ : Sl) no 50 S k9.out HFX.out (HN.out thr ⟨0, 0⟩).2.2.1 (HN.out thr ⟨0, 0⟩).2.2.2.1 (HN.out thr ⟨0, 0⟩).2.2.2.2.1).mono ?_
          rintro e w10 ⟨he, h10⟩
          obtain rfl : e = .returned (.tuple #[.agg #[.int .i64 0, .int .i64 0, .int .i64 0, .int .u64 0, .int .u64 0, .int .i64 0], .int .i64 50]) := he
          clear s0 s1 k9
          have h10a : Has w r (w10.alloc (objC no)) p F S [(w10.heap.size, objC no), (q9, objC no), (q, objS (⟨(n1 : Int), xi⟩ : Sl))] [(.slice ao7 A.length cap7, A)] := h10.alloc (objC no)
          clear h10
          have hS := has_pair h10a (q := q) (s := (⟨(n1 : Int), xi⟩ : Sl)) (by simp)
          have k10a : Hid _ := h10a
          clear h10a
          simp only [objC, no] at hS k10a
          go_wp2
          generalize w10.alloc (Obj.cells #[.int .i64 0, .int .i64 0, .int .i64 0, .int .u64 0, .int .u64 0, .int .i64 0] 31) = v10 at *
          generalize w10.heap.size = q10 at *
          have k10 : Hid (Has w r v10 p F S [(q10, objC no), (q9, objC no), (q, objS (⟨(n1 : Int), xi⟩ : Sl))] [(.slice ao7 A.length cap7, A)]) := k10a
          clear k10a
          go_region_held3 (fun W => W.cell? ⟨q, 0, none⟩ = some (.int .i64 (n1 : Int)) ∧ W.cell? ⟨q, 1, none⟩ = some (.int .i64 xi)) ((first | assumption | with_reducible exact has_pair h15 (s := (⟨(n1 : Int), xi⟩ : Sl)) (by simp) | with_reducible exact has_pair h14 (s := (⟨(n1 : Int), xi⟩ : Sl)) (by simp) | with_reducible exact has_pair h13 (s := (⟨(n1 : Int), xi⟩ : Sl)) (by simp) | with_reducible exact has_pair h12 (s := (⟨(n1 : Int), xi⟩ : Sl)) (by simp) | with_reducible exact has_pair h11 (s := (⟨(n1 : Int), xi⟩ : Sl)) (by simp) | with_reducible exact has_pair k10.out.drew (s := (⟨(n1 : Int), xi⟩ : Sl)) (by simp)))
            (first | (go_at_call 13; refine (swap_has ⟨0, 0⟩ (⟨(n1 : Int), xi⟩ : Sl) 50 S h14 (fits_lit (by omega) (by omega)) HFX.out (HN.out thr ⟨0, 0⟩).2.2.2.2.2.2.2.2.2.2.2.1 (HN.out thr ⟨0, 0⟩).2.2.2.2.2.2.2.2.2.2.2.2).mono ?_; rintro e w15 ⟨rfl, h15⟩) | (go_at_call 12; refine (move_has ⟨0, 0⟩ (⟨(n1 : Int), xi⟩ : Sl) 50 S h13 (fits_lit (by omega) (by omega)) HFX.out (HN.out thr ⟨0, 0⟩).2.2.2.2.2.2.2.2.2.1 (HN.out thr ⟨0, 0⟩).2.2.2.2.2.2.2.2.2.2.1).mono ?_; rintro e w14 ⟨rfl, h14⟩) | (go_at_call 12; refine (move_has (⟨(n1 : Int), xi⟩ : Sl) ⟨0, 0⟩ 50 S h12 HFX.out (fits_lit (by omega) (by omega)) (HN.out thr ⟨0, 0⟩).2.2.2.2.2.2.2.1 (HN.out thr ⟨0, 0⟩).2.2.2.2.2.2.2.2.1).mono ?_; rintro e w13 ⟨rfl, h13⟩) | (go_at_call 6; refine (put_has (⟨(n1 : Int), xi⟩ : Sl) thr 50 S h11 HFX.out thr_fits (HN.out thr ⟨0, 0⟩).2.2.2.2.2.1 (HN.out thr ⟨0, 0⟩).2.2.2.2.2.2.1).mono ?_; rintro e w12 ⟨rfl, h12⟩) | (go_at_call 11; refine (thread_has k10.out.drew).mono ?_; rintro e w11 ⟨rfl, h11⟩))
          have k15 : Hid (Has w r w15 p F S [(q10, objC no), (q9, objC no), (q, objS (⟨(n1 : Int), xi⟩ : Sl))] [(.slice ao7 A.length cap7, A)]) := h15
          clear h11 h12 h13 h14 h15 hS k10
          obtain ⟨d0, d1, d2, d3, d4, d5⟩ := (k15.out.atC (q := q9) (c := no) (by simp)).cells
          simp only [no] at d0 d1 d2 d3 d4 d5
          have HQ1 : ∀ W, (Op.equalIn 10000 31 (.agg #[.int .i64 0, .int .i64 0, .int .i64 0, .int .u64 0, .int .u64 0, .int .i64 0]) (.agg #[.int .i64 0, .int .i64 0, .int .i64 0, .int .u64 0, .int .u64 0, .int .i64 0])).run Try.prog W = .ok true W := fun W => by
            have h := eq_caps W no no
            simpa [no] using h
          go_wp2_with fail
          refine (held_is A HA.out.1 k15.out).mono ?_
          rintro e w16 ⟨ao16, cap16, rfl, h16⟩
          have k16 : Hid (Has w r w16 p F S [(q10, objC no), (q9, objC no), (q, objS (⟨(n1 : Int), xi⟩ : Sl))] [(.slice ao16 A.length cap16, A), (.slice ao7 A.length cap7, A)]) := h16
          clear h16 k15 d0 d1 d2 d3 d4 d5
          go_wp2_with fail
          refine (same_has k16.out (by simp) (by simp) HA.out.2).mono ?_
          rintro e w17 ⟨rfl, h17⟩
          have k17 : Hid _ := h17
          clear h17 k16
          go_wp2_with fail
          refine (new_has k17.out).mono ?_
          rintro e w18 ⟨q18, rfl, h18⟩
          have k18 : Hid _ := h18
          clear h18 k17
          go_wp2_with fail
          refine (fixed_has k18.out).mono ?_
          rintro e w19 ⟨rfl, h19⟩
          have KL : Hid _ := h19
          clear h19 k18
          go_wp2
          go_ret
          exact ⟨rfl, by rw [HR.out]; exact KL.out.low⟩
      · obtain ⟨hk0, rfl⟩ := hge
        have hk1 : ((20 : Nat) : Int) < (X.length : Int) := by omega
        clear hk0 hlt hk
        generalize hXl : X.length = n at *
        clear hXl HX
        obtain ⟨A, HA⟩ : ∃ A, Hid (held S = A ∧ A.length ≤ 1000000) := ⟨_, rfl, Nat.le_trans (held_le HT.out.ok) (by decide)⟩
        go_wp2_with fail
        refine (held_is A HA.out.1 h5h.out).mono ?_
        rintro e w7 ⟨ao7, cap7, rfl, h7⟩
        have k7 : Hid (Has w r w7 p F S [] [(.slice ao7 A.length cap7, A)]) := h7
        clear h7 h5h
        by_cases hi : i < 0
        · have HN : Hid (∀ (c : Cp) (t : Sl), _) := none_all (S := S) (s := ⟨xn, 0⟩) (by rw [← HE5.out]; exact none_n HT.out n2)
          have HFX : Hid ((⟨xn, 0⟩ : Sl).Fits) := fits_lit (by have := HE5.out; have := HM.out; omega) (by omega)
          have g8 : Hid (Has w r (w7.alloc (objS (⟨xn, 0⟩ : Sl))) p F S [(w7.heap.size, objS (⟨xn, 0⟩ : Sl))] [(.slice ao7 A.length cap7, A)]) := k7.out.alloc _
          clear k7
          simp only [objS] at g8
          go_wp2_with fail
          clear hi e1 e2 e3 e4 e5
          generalize w7.alloc (Obj.cells #[.int .i64 (xn), .int .i64 (0)] 28) = v8 at *
          generalize w7.heap.size = q at *
          have k8 : Hid (Has w r v8 p F S [(q, objS (⟨xn, 0⟩ : Sl))] [(.slice ao7 A.length cap7, A)]) := g8
          clear g8
          refine (get_has (⟨xn, 0⟩ : Sl) no 50 k8.out HFX.out (HN.out thr ⟨0, 0⟩).1 (HN.out thr ⟨0, 0⟩).2.1).mono ?_
          rintro e w9 ⟨he, h9⟩
          obtain rfl : e = .returned (.tuple #[.agg #[.int .i64 0, .int .i64 0, .int .i64 0, .int .u64 0, .int .u64 0, .int .i64 0], .int .i64 50]) := he
          have h9a : Has w r (w9.alloc (objC no)) p F S [(w9.heap.size, objC no), (q, objS (⟨xn, 0⟩ : Sl))] [(.slice ao7 A.length cap7, A)] := h9.alloc (objC no)
          clear h9 k8
          obtain ⟨s0, s1⟩ := has_pair h9a (q := q) (s := (⟨xn, 0⟩ : Sl)) (by simp)
          have k9a : Hid _ := h9a
          clear h9a
          simp only [objC, no] at s0 s1 k9a
          go_wp2_with fail
          generalize w9.alloc (Obj.cells #[.int .i64 0, .int .i64 0, .int .i64 0, .int .u64 0, .int .u64 0, .int .i64 0] 31) = v9 at *
          generalize w9.heap.size = q9 at *
          have k9 : Hid (Has w r v9 p F S [(q9, objC no), (q, objS (⟨xn, 0⟩ : Sl))] [(.slice ao7 A.length cap7, A)]) := k9a
          clear k9a
          refine (take_has (⟨xn, 0⟩ : Sl) no 50 S k9.out HFX.out (HN.out thr ⟨0, 0⟩).2.2.1 (HN.out thr ⟨0, 0⟩).2.2.2.1 (HN.out thr ⟨0, 0⟩).2.2.2.2.1).mono ?_
          rintro e w10 ⟨he, h10⟩
          obtain rfl : e = .returned (.tuple #[.agg #[.int .i64 0, .int .i64 0, .int .i64 0, .int .u64 0, .int .u64 0, .int .i64 0], .int .i64 50]) := he
          clear s0 s1 k9
          have h10a : Has w r (w10.alloc (objC no)) p F S [(w10.heap.size, objC no), (q9, objC no), (q, objS (⟨xn, 0⟩ : Sl))] [(.slice ao7 A.length cap7, A)] := h10.alloc (objC no)
          clear h10
          have hS := has_pair h10a (q := q) (s := (⟨xn, 0⟩ : Sl)) (by simp)
          have k10a : Hid _ := h10a
          clear h10a
          simp only [objC, no] at hS k10a
          go_wp2
          generalize w10.alloc (Obj.cells #[.int .i64 0, .int .i64 0, .int .i64 0, .int .u64 0, .int .u64 0, .int .i64 0] 31) = v10 at *
          generalize w10.heap.size = q10 at *
          have k10 : Hid (Has w r v10 p F S [(q10, objC no), (q9, objC no), (q, objS (⟨xn, 0⟩ : Sl))] [(.slice ao7 A.length cap7, A)]) := k10a
          clear k10a
          go_region_held3 (fun W => W.cell? ⟨q, 0, none⟩ = some (.int .i64 xn) ∧ W.cell? ⟨q, 1, none⟩ = some (.int .i64 0)) ((first | assumption | with_reducible exact has_pair h15 (s := (⟨xn, 0⟩ : Sl)) (by simp) | with_reducible exact has_pair h14 (s := (⟨xn, 0⟩ : Sl)) (by simp) | with_reducible exact has_pair h13 (s := (⟨xn, 0⟩ : Sl)) (by simp) | with_reducible exact has_pair h12 (s := (⟨xn, 0⟩ : Sl)) (by simp) | with_reducible exact has_pair h11 (s := (⟨xn, 0⟩ : Sl)) (by simp) | with_reducible exact has_pair k10.out.drew (s := (⟨xn, 0⟩ : Sl)) (by simp)))
            (first | (go_at_call 13; refine (swap_has ⟨0, 0⟩ (⟨xn, 0⟩ : Sl) 50 S h14 (fits_lit (by omega) (by omega)) HFX.out (HN.out thr ⟨0, 0⟩).2.2.2.2.2.2.2.2.2.2.2.1 (HN.out thr ⟨0, 0⟩).2.2.2.2.2.2.2.2.2.2.2.2).mono ?_; rintro e w15 ⟨rfl, h15⟩) | (go_at_call 12; refine (move_has ⟨0, 0⟩ (⟨xn, 0⟩ : Sl) 50 S h13 (fits_lit (by omega) (by omega)) HFX.out (HN.out thr ⟨0, 0⟩).2.2.2.2.2.2.2.2.2.1 (HN.out thr ⟨0, 0⟩).2.2.2.2.2.2.2.2.2.2.1).mono ?_; rintro e w14 ⟨rfl, h14⟩) | (go_at_call 12; refine (move_has (⟨xn, 0⟩ : Sl) ⟨0, 0⟩ 50 S h12 HFX.out (fits_lit (by omega) (by omega)) (HN.out thr ⟨0, 0⟩).2.2.2.2.2.2.2.1 (HN.out thr ⟨0, 0⟩).2.2.2.2.2.2.2.2.1).mono ?_; rintro e w13 ⟨rfl, h13⟩) | (go_at_call 6; refine (put_has (⟨xn, 0⟩ : Sl) thr 50 S h11 HFX.out thr_fits (HN.out thr ⟨0, 0⟩).2.2.2.2.2.1 (HN.out thr ⟨0, 0⟩).2.2.2.2.2.2.1).mono ?_; rintro e w12 ⟨rfl, h12⟩) | (go_at_call 11; refine (thread_has k10.out.drew).mono ?_; rintro e w11 ⟨rfl, h11⟩))
          have k15 : Hid (Has w r w15 p F S [(q10, objC no), (q9, objC no), (q, objS (⟨xn, 0⟩ : Sl))] [(.slice ao7 A.length cap7, A)]) := h15
          clear h11 h12 h13 h14 h15 hS k10
          obtain ⟨d0, d1, d2, d3, d4, d5⟩ := (k15.out.atC (q := q9) (c := no) (by simp)).cells
          simp only [no] at d0 d1 d2 d3 d4 d5
          have HQ1 : ∀ W, (Op.equalIn 10000 31 (.agg #[.int .i64 0, .int .i64 0, .int .i64 0, .int .u64 0, .int .u64 0, .int .i64 0]) (.agg #[.int .i64 0, .int .i64 0, .int .i64 0, .int .u64 0, .int .u64 0, .int .i64 0])).run Try.prog W = .ok true W := fun W => by
            have h := eq_caps W no no
            simpa [no] using h
          go_wp2_with fail
          refine (held_is A HA.out.1 k15.out).mono ?_
          rintro e w16 ⟨ao16, cap16, rfl, h16⟩
          have k16 : Hid (Has w r w16 p F S [(q10, objC no), (q9, objC no), (q, objS (⟨xn, 0⟩ : Sl))] [(.slice ao16 A.length cap16, A), (.slice ao7 A.length cap7, A)]) := h16
          clear h16 k15 d0 d1 d2 d3 d4 d5
          go_wp2_with fail
          refine (same_has k16.out (by simp) (by simp) HA.out.2).mono ?_
          rintro e w17 ⟨rfl, h17⟩
          have k17 : Hid _ := h17
          clear h17 k16
          go_wp2_with fail
          refine (new_has k17.out).mono ?_
          rintro e w18 ⟨q18, rfl, h18⟩
          have k18 : Hid _ := h18
          clear h18 k17
          go_wp2_with fail
          refine (fixed_has k18.out).mono ?_
          rintro e w19 ⟨rfl, h19⟩
          have KL : Hid _ := h19
          clear h19 k18
          go_wp2
          go_ret
          exact ⟨rfl, by rw [HR.out]; exact KL.out.low⟩
        · have HN : Hid (∀ (c : Cp) (t : Sl), _) := none_all (S := S) (s := ⟨(n1 : Int), xi⟩) (by rw [← HE4.out]; exact none_i HT.out n1 i1 HM.out.1)
          have HFX : Hid ((⟨(n1 : Int), xi⟩ : Sl).Fits) := fits_lit (by have := HM.out; omega) (by have := HE4.out; have := HM.out; omega)
          have g8 : Hid (Has w r (w7.alloc (objS (⟨(n1 : Int), xi⟩ : Sl))) p F S [(w7.heap.size, objS (⟨(n1 : Int), xi⟩ : Sl))] [(.slice ao7 A.length cap7, A)]) := k7.out.alloc _
          clear k7
          simp only [objS] at g8
          go_wp2_with fail
          clear hi e1 e2 e3 e4 e5
          generalize w7.alloc (Obj.cells #[.int .i64 ((n1 : Int)), .int .i64 (xi)] 28) = v8 at *
          generalize w7.heap.size = q at *
          have k8 : Hid (Has w r v8 p F S [(q, objS (⟨(n1 : Int), xi⟩ : Sl))] [(.slice ao7 A.length cap7, A)]) := g8
          clear g8
          refine (get_has (⟨(n1 : Int), xi⟩ : Sl) no 50 k8.out HFX.out (HN.out thr ⟨0, 0⟩).1 (HN.out thr ⟨0, 0⟩).2.1).mono ?_
          rintro e w9 ⟨he, h9⟩
          obtain rfl : e = .returned (.tuple #[.agg #[.int .i64 0, .int .i64 0, .int .i64 0, .int .u64 0, .int .u64 0, .int .i64 0], .int .i64 50]) := he
          have h9a : Has w r (w9.alloc (objC no)) p F S [(w9.heap.size, objC no), (q, objS (⟨(n1 : Int), xi⟩ : Sl))] [(.slice ao7 A.length cap7, A)] := h9.alloc (objC no)
          clear h9 k8
          obtain ⟨s0, s1⟩ := has_pair h9a (q := q) (s := (⟨(n1 : Int), xi⟩ : Sl)) (by simp)
          have k9a : Hid _ := h9a
          clear h9a
          simp only [objC, no] at s0 s1 k9a
          go_wp2_with fail
          generalize w9.alloc (Obj.cells #[.int .i64 0, .int .i64 0, .int .i64 0, .int .u64 0, .int .u64 0, .int .i64 0] 31) = v9 at *
          generalize w9.heap.size = q9 at *
          have k9 : Hid (Has w r v9 p F S [(q9, objC no), (q, objS (⟨(n1 : Int), xi⟩ : Sl))] [(.slice ao7 A.length cap7, A)]) := k9a
          clear k9a
          refine (take_has (⟨(n1 : Int), xi⟩ : Sl) no 50 S k9.out HFX.out (HN.out thr ⟨0, 0⟩).2.2.1 (HN.out thr ⟨0, 0⟩).2.2.2.1 (HN.out thr ⟨0, 0⟩).2.2.2.2.1).mono ?_
          rintro e w10 ⟨he, h10⟩
          obtain rfl : e = .returned (.tuple #[.agg #[.int .i64 0, .int .i64 0, .int .i64 0, .int .u64 0, .int .u64 0, .int .i64 0], .int .i64 50]) := he
          clear s0 s1 k9
          have h10a : Has w r (w10.alloc (objC no)) p F S [(w10.heap.size, objC no), (q9, objC no), (q, objS (⟨(n1 : Int), xi⟩ : Sl))] [(.slice ao7 A.length cap7, A)] := h10.alloc (objC no)
          clear h10
          have hS := has_pair h10a (q := q) (s := (⟨(n1 : Int), xi⟩ : Sl)) (by simp)
          have k10a : Hid _ := h10a
          clear h10a
          simp only [objC, no] at hS k10a
          go_wp2
          generalize w10.alloc (Obj.cells #[.int .i64 0, .int .i64 0, .int .i64 0, .int .u64 0, .int .u64 0, .int .i64 0] 31) = v10 at *
          generalize w10.heap.size = q10 at *
          have k10 : Hid (Has w r v10 p F S [(q10, objC no), (q9, objC no), (q, objS (⟨(n1 : Int), xi⟩ : Sl))] [(.slice ao7 A.length cap7, A)]) := k10a
          clear k10a
          go_region_held3 (fun W => W.cell? ⟨q, 0, none⟩ = some (.int .i64 (n1 : Int)) ∧ W.cell? ⟨q, 1, none⟩ = some (.int .i64 xi)) ((first | assumption | with_reducible exact has_pair h15 (s := (⟨(n1 : Int), xi⟩ : Sl)) (by simp) | with_reducible exact has_pair h14 (s := (⟨(n1 : Int), xi⟩ : Sl)) (by simp) | with_reducible exact has_pair h13 (s := (⟨(n1 : Int), xi⟩ : Sl)) (by simp) | with_reducible exact has_pair h12 (s := (⟨(n1 : Int), xi⟩ : Sl)) (by simp) | with_reducible exact has_pair h11 (s := (⟨(n1 : Int), xi⟩ : Sl)) (by simp) | with_reducible exact has_pair k10.out.drew (s := (⟨(n1 : Int), xi⟩ : Sl)) (by simp)))
            (first | (go_at_call 13; refine (swap_has ⟨0, 0⟩ (⟨(n1 : Int), xi⟩ : Sl) 50 S h14 (fits_lit (by omega) (by omega)) HFX.out (HN.out thr ⟨0, 0⟩).2.2.2.2.2.2.2.2.2.2.2.1 (HN.out thr ⟨0, 0⟩).2.2.2.2.2.2.2.2.2.2.2.2).mono ?_; rintro e w15 ⟨rfl, h15⟩) | (go_at_call 12; refine (move_has ⟨0, 0⟩ (⟨(n1 : Int), xi⟩ : Sl) 50 S h13 (fits_lit (by omega) (by omega)) HFX.out (HN.out thr ⟨0, 0⟩).2.2.2.2.2.2.2.2.2.1 (HN.out thr ⟨0, 0⟩).2.2.2.2.2.2.2.2.2.2.1).mono ?_; rintro e w14 ⟨rfl, h14⟩) | (go_at_call 12; refine (move_has (⟨(n1 : Int), xi⟩ : Sl) ⟨0, 0⟩ 50 S h12 HFX.out (fits_lit (by omega) (by omega)) (HN.out thr ⟨0, 0⟩).2.2.2.2.2.2.2.1 (HN.out thr ⟨0, 0⟩).2.2.2.2.2.2.2.2.1).mono ?_; rintro e w13 ⟨rfl, h13⟩) | (go_at_call 6; refine (put_has (⟨(n1 : Int), xi⟩ : Sl) thr 50 S h11 HFX.out thr_fits (HN.out thr ⟨0, 0⟩).2.2.2.2.2.1 (HN.out thr ⟨0, 0⟩).2.2.2.2.2.2.1).mono ?_; rintro e w12 ⟨rfl, h12⟩) | (go_at_call 11; refine (thread_has k10.out.drew).mono ?_; rintro e w11 ⟨rfl, h11⟩))
          have k15 : Hid (Has w r w15 p F S [(q10, objC no), (q9, objC no), (q, objS (⟨(n1 : Int), xi⟩ : Sl))] [(.slice ao7 A.length cap7, A)]) := h15
          clear h11 h12 h13 h14 h15 hS k10
          obtain ⟨d0, d1, d2, d3, d4, d5⟩ := (k15.out.atC (q := q9) (c := no) (by simp)).cells
          simp only [no] at d0 d1 d2 d3 d4 d5
          have HQ1 : ∀ W, (Op.equalIn 10000 31 (.agg #[.int .i64 0, .int .i64 0, .int .i64 0, .int .u64 0, .int .u64 0, .int .i64 0]) (.agg #[.int .i64 0, .int .i64 0, .int .i64 0, .int .u64 0, .int .u64 0, .int .i64 0])).run Try.prog W = .ok true W := fun W => by
            have h := eq_caps W no no
            simpa [no] using h
          go_wp2_with fail
          refine (held_is A HA.out.1 k15.out).mono ?_
          rintro e w16 ⟨ao16, cap16, rfl, h16⟩
          have k16 : Hid (Has w r w16 p F S [(q10, objC no), (q9, objC no), (q, objS (⟨(n1 : Int), xi⟩ : Sl))] [(.slice ao16 A.length cap16, A), (.slice ao7 A.length cap7, A)]) := h16
          clear h16 k15 d0 d1 d2 d3 d4 d5
          go_wp2_with fail
          refine (same_has k16.out (by simp) (by simp) HA.out.2).mono ?_
          rintro e w17 ⟨rfl, h17⟩
          have k17 : Hid _ := h17
          clear h17 k16
          go_wp2_with fail
          refine (new_has k17.out).mono ?_
          rintro e w18 ⟨q18, rfl, h18⟩
          have k18 : Hid _ := h18
          clear h18 k17
          go_wp2_with fail
          refine (fixed_has k18.out).mono ?_
          rintro e w19 ⟨rfl, h19⟩
          have KL : Hid _ := h19
          clear h19 k18
          go_wp2
          go_ret
          exact ⟨rfl, by rw [HR.out]; exact KL.out.low⟩
end
open Go.ChangeShapes Go.WideShapes Go.ChangeAt Go.RowKit Go.Joins

/-! ### From the walk to the statement -/
set_option maxRecDepth 100000 in
theorem lifted (os : Os) (started : os.Started) (H : Type) (enc : TypeId × Value → H) :
    ReturnsInHanded {} Try.checked os 4 .any (Rows.slotsNoneSpec.pre6 enc Try.prog Try.f4 Rows.slotsNoneRow.domain false) (Rows.slotsNoneSpec.post enc Try.prog Try.f4 false true false false) := by
  have dCp : DecidableEq Cp := fun a b => Classical.propDecidable (a = b)
  have dLim : ∀ k, Decidable (Lim k) := fun k => Classical.propDecidable (Lim k)
  have dBad : ∀ k, Decidable (Bad k) := fun k => Classical.propDecidable (Bad k)
  have dFit : ∀ g z, Decidable (Fit g z) := fun g z => Classical.propDecidable (Fit g z)
  have dFine : ∀ c, Decidable (Fine c) := fun c => Classical.propDecidable (Fine c)
  have dMint : ∀ c v, Decidable (MintR c v) := fun c v => Classical.propDecidable (MintR c v)
  have dWho : ∀ x y, Decidable (Whose x y) := fun x y => Classical.propDecidable (Whose x y)
  have dSl : DecidableEq Sl := fun a b => Classical.propDecidable (a = b)
  have dLt : ∀ a b, Decidable (ltS a b) := fun a b => Classical.propDecidable (ltS a b)
  have iSl : Inhabited Sl := ⟨⟨0, 0⟩⟩
  have iCp : Inhabited Cp := ⟨no⟩
  refine returnsInHanded_of_change (C := Try.checked) own started (by kernel_rfl) Try.func4
    (ChangeSpec.witness6 (enc := enc) (C := Try.checked) false ⟨#[], #[.slice none 0 0, .int .i64 0, .int .i64 0], []⟩ 8 (by kernel_rfl) (by kernel_rfl) (by kernel_rfl) (by kernel_rfl)) ?_
  intro W base args ds gs before hval0 hW hcnd _
  have hval : ∀ (j : Nat) t v, Try.f4.params[j]? = some t → args[j]? = some v → Value.okWide Try.prog W .any base t v := hval0
  have hW' := hW
  obtain ⟨p, q, hA0, hV, rfl, hfz, hnd⟩ := hW
  have hA : DataW.TrodAll enc Try.prog W 0 (fun _ => true) true Try.f4.params.toList args.toList ds p := hA0
  rw [Try.params4] at hA hval
  obtain ⟨v0, vs0, d0, ds0, p0, q0, hargs, rfl, rfl, h0, r0⟩ := trodAll_cons hA
  obtain ⟨v1, vs1, d1, ds1, p1, q1, rfl, rfl, rfl, h1, r1⟩ := trodAll_cons r0
  obtain ⟨v2, vs2, d2, ds2, p2, q2, rfl, rfl, rfl, h2, r2⟩ := trodAll_cons r1
  obtain ⟨rfl, rfl, rfl⟩ := trodAll_nil r2
  obtain rfl : args = #[v0, v1, v2] := by cases args; simp_all
  obtain ⟨rfl, rfl⟩ := trodVars_none hV
  have k0 := h0
  have lt0 : ∀ x ∈ p0, x.block < W.heap.size := by obtain ⟨m, hm⟩ := k0; exact DataW.trod_lt m _ _ _ hm
  obtain ⟨a0, l0, c0, rfl, t0, s0⟩ := open_ops (hval 0 22 v0 rfl rfl) h0
  have k1 := h1
  have lt1 : ∀ x ∈ p1, x.block < W.heap.size := by obtain ⟨m, hm⟩ := k1; exact DataW.trod_lt m _ _ _ hm
  obtain ⟨a1, rfl, _, _, w1⟩ := open_int Try.underlying3 (hval 1 3 v1 rfl rfl) h1
  have k2 := h2
  have lt2 : ∀ x ∈ p2, x.block < W.heap.size := by obtain ⟨m, hm⟩ := k2; exact DataW.trod_lt m _ _ _ hm
  obtain ⟨a2, rfl, _, _, w2⟩ := open_int Try.underlying3 (hval 2 3 v2 rfl rfl) h2
  clear hA0 hval0
  refine (walk a0 l0 c0 a1 a2 W t0 s0 (bounds_i64 w1) (bounds_i64 w2)).mono fun e W' ⟨he, bel⟩ => ?_
  subst he
  exact ⟨_, rfl, _, _, _, [], _, [], hW', trodAll_mk1 (shut_bool Try.underlying4 _), (trodAll_cons_mk (Below.trod laidOut (by kernel_rfl) (of_decide_eq_true (by kernel_rfl)) k0 bel lt0) (trodAll_cons_mk (Below.trod laidOut (by kernel_rfl) (of_decide_eq_true (by kernel_rfl)) k1 bel lt1) (trodAll_cons_mk (Below.trod laidOut (by kernel_rfl) (of_decide_eq_true (by kernel_rfl)) k2 bel lt2) trodAll_mk0))), rfl, bel.frame _, fun h => by cases h⟩
theorem over : Rows.slotsNoneRow.holds Try.pinned (OpenSpec.ofChange Rows.slotsNoneSpec) :=
  OpenClaim.holds_of_wide 4 Try.f4 rfl rfl rfl rfl rfl rfl rfl ⟨rfl, rfl, rfl, rfl, rfl⟩ rfl rfl rfl rfl rfl (by kernel_rfl) Try.func4 (by kernel_rfl)
    (of_decide_eq_true (by kernel_rfl)) (by unfold Func.isWrapper; first | (rw [if_pos (by decide +kernel)]; kernel_rfl) | (rw [if_neg (by decide +kernel)]; exact ⟨rfl, rfl⟩))
    (fun os started H enc _ => lifted os started H enc)
end Go.Proofs.Ytkpoppgibempbab.slotsNone
namespace Go.Proofs.Ytkpoppgibempbab
/-- THE STATEMENT. -/
theorem slotsNone_said : Rows.SlotsNoneSaid := slotsNone.over
#print axioms slotsNone_said
end Go.Proofs.Ytkpoppgibempbab

/-
  SlotsSwaps answers true for every input, and leaves it; no condition of ours.
-/
import Derived.Test.YtkpoppgibempbaaNLaw
import Derived.Deep.Cut
import Derived.Deep.CutRange
namespace Go.Proofs.Ytkpoppgibempbaa.slotsSwaps
open Go.RowKit Go.Deep Go.MapKept Go.Maps
set_option linter.unusedSectionVars false
section
variable [dCp : DecidableEq Cp] [dLim : ∀ k, Decidable (Lim k)] [dBad : ∀ k, Decidable (Bad k)] [dFit : ∀ g z, Decidable (Fit g z)] [dFine : ∀ c, Decidable (Fine c)] [dMint : ∀ c v, Decidable (MintR c v)] [dWho : ∀ x y, Decidable (Whose x y)] [dSl : DecidableEq Sl] [dLt : ∀ a b, Decidable (ltS a b)] [iSl : Inhabited Sl] [iCp : Inhabited Cp]
set_option maxHeartbeats 4000000 in
set_option maxRecDepth 100000 in
theorem walk (ao : Option Addr) (X : List Oc) (cap : Nat) (a b : Sl) (w : World) (hX : Script w ao X) (hl : X.length ≤ 9223372036854775807) (_fa : a.Fits) (_fb : b.Fits) :
    Calls Try.prog 6 #[.slice ao X.length cap, encS a, encS b] w fun e w' => e = .returned (.bool true) ∧ Below w.heap.size w w' := by
  obtain ⟨x1, x2, x3, x4⟩ := box2 w (objS a) (objS b)
  have HX : Hid (Script w ao X ∧ X.length ≤ 9223372036854775807) := ⟨hX, hl⟩
  obtain ⟨n1, hn1, e1⟩ := mask1 a.n
  obtain ⟨i1, hi1, e2⟩ := mask3 a.i
  obtain ⟨n2, hn2, e3⟩ := mask1 b.n
  obtain ⟨i2, hi2, e4⟩ := mask3 b.i
  have HM : Hid (n1 ≤ 1 ∧ i1 ≤ 3 ∧ n2 ≤ 1 ∧ i2 ≤ 3) := ⟨hn1, hi1, hn2, hi2⟩
  clear hX hl hn1 hi1 hn2 hi2
  simp only [encS, objS] at x1 x2 x3 x4 ⊢
  go_enter Try.func6, Try.ntmps6
  go_wp2_with fail
  refine (two_any _).mono ?_
  rintro e w1 ⟨p, F, rfl, h0⟩
  have h1 : Hid (Has w w.heap.size w1 p F two0 [(w.heap.size, objS a), (w.heap.size + 1, objS b)] []) := h0.rebase x4 x4.size _ (fun y hy => by
    simp only [List.mem_cons, List.not_mem_nil, or_false] at hy
    rcases hy with rfl | rfl
    · exact x1
    · exact x2)
  clear x1 x2 x3 x4 h0
  generalize hr0 : w.heap.size = r at *
  have HR : Hid (w.heap.size = r) := hr0
  clear hr0
  go_wp2
  go_loopw [8] (fun i wr => ∃ (k : Nat) (S : St), k ≤ 20 ∧ i = .int .i64 k ∧ Two4 S ∧ Has w r wr p F S [(r, objS a), (r + 1, objS b)] []) (fun i _ => 20 - (intOf i).toNat)
  case atStart => exact ⟨0, two0, by omega, rfl, two4_0, h1.out⟩
  case round =>
    obtain ⟨k, S, hk, rfl, ht, hh⟩ := hrel
    have HT : Hid (Two4 S) := ht
    have h5h : Hid (Has w r wr p F S [(r, objS a), (r + 1, objS b)] []) := hh
    clear ht hh h1
    by_cases hlt : k < X.length ∧ k < 20
    · obtain ⟨x, hx⟩ : ∃ x, X[k]? = some x := ⟨_, List.getElem?_eq_getElem hlt.1⟩
      obtain ⟨fx, b0, o0, rfl, hb, _⟩ := HX.out.1 k x hx
      have HP : Hid (∀ W, Below r w W → W.cell? ⟨b0, o0 + k * 12 + 2, none⟩ = some (.int .i64 x.a.n) ∧ W.cell? ⟨b0, o0 + k * 12 + 2 + 1, none⟩ = some (.int .i64 x.a.i) ∧ W.cell? ⟨b0, o0 + k * 12 + 6, none⟩ = some (.int .i64 x.c.k) ∧ W.cell? ⟨b0, o0 + k * 12 + 6 + 1, none⟩ = some (.int .i64 x.c.o) ∧ W.cell? ⟨b0, o0 + k * 12 + 6 + 2, none⟩ = some (.int .i64 x.c.r) ∧ W.cell? ⟨b0, o0 + k * 12 + 6 + 3, none⟩ = some (.int .u64 x.c.b) ∧ W.cell? ⟨b0, o0 + k * 12 + 6 + 4, none⟩ = some (.int .u64 x.c.g) ∧ W.cell? ⟨b0, o0 + k * 12 + 6 + 5, none⟩ = some (.int .i64 x.c.z)) := fun W u => script_put HX.out.1 hx rfl (by rw [HR.out]; exact u)
      have hS := HP.out wr h5h.out.low
      have HF : Hid (x.Fits) := fx
      have hk1 : (k : Int) < (X.length : Int) := by omega
      have hk2 : (k : Int) < 20 := by omega
      have HK : Hid (k < 20) := hlt.2
      clear hlt hx hb fx
      generalize hXl : X.length = n at *
      clear hXl
      go_wp2
      go_region_held3 (fun W => W.cell? ⟨b0, o0 + k * 12 + 2, none⟩ = some (.int .i64 x.a.n) ∧ W.cell? ⟨b0, o0 + k * 12 + 2 + 1, none⟩ = some (.int .i64 x.a.i) ∧ W.cell? ⟨b0, o0 + k * 12 + 6, none⟩ = some (.int .i64 x.c.k) ∧ W.cell? ⟨b0, o0 + k * 12 + 6 + 1, none⟩ = some (.int .i64 x.c.o) ∧ W.cell? ⟨b0, o0 + k * 12 + 6 + 2, none⟩ = some (.int .i64 x.c.r) ∧ W.cell? ⟨b0, o0 + k * 12 + 6 + 3, none⟩ = some (.int .u64 x.c.b) ∧ W.cell? ⟨b0, o0 + k * 12 + 6 + 4, none⟩ = some (.int .u64 x.c.g) ∧ W.cell? ⟨b0, o0 + k * 12 + 6 + 5, none⟩ = some (.int .i64 x.c.z)) ((first | assumption | with_reducible exact HP.out _ (h5h.out.low.drew) | with_reducible exact HP.out _ h2.low))
        (first | (go_at_call 12; refine (put_has x.a x.c _ _ (h5h.out.drew) HF.out.a HF.out.c rfl rfl).mono ?_; rintro e w' ⟨rfl, h2⟩))
      have h2 : Hid _ := h2
      go_wp2
      go_roundw
      case rel => exact ⟨k + 1, _, HK.out, by go_num, HT.out.put x.a HF.out.c, h2.out⟩
      case measure => simp [intOf]; have := HK.out; omega
    · have hge : (¬ k < X.length) ∨ (k < X.length ∧ k = 20) := by omega
      rcases hge with hge | hge
      · have hk1 : ¬ ((k : Int) < (X.length : Int)) := by omega
        clear hge hlt hk
        generalize hXl : X.length = n at *
        clear hXl HX
        obtain ⟨xs, hxs⟩ : ∃ s : Sl, s = ⟨(n1 : Int), (i1 : Int)⟩ := ⟨_, rfl⟩
        obtain ⟨ys, hys⟩ : ∃ s : Sl, s = ⟨(n2 : Int), (i2 : Int)⟩ := ⟨_, rfl⟩
        have T1 : Hid (Has w r ((wr.alloc (objS xs)).alloc (objS ys)).drew p F S [(wr.heap.size, objS xs), (wr.heap.size + 1, objS ys)] []) := mk_one h5h.out xs ys
        have T2 : Hid (Has w r ((wr.alloc (objS ys)).alloc (objS xs)).drew p F S [(wr.heap.size + 1, objS xs), (wr.heap.size, objS ys)] []) := mk_other h5h.out xs ys
        have HXS : Hid (xs = ⟨(n1 : Int), (i1 : Int)⟩ ∧ ys = ⟨(n2 : Int), (i2 : Int)⟩) := ⟨hxs, hys⟩
        have HFT : Hid (xs.Fits ∧ ys.Fits) := by
          have h := HM.out
          rw [hxs, hys]
          exact ⟨fits_nat (by omega) (by omega), fits_nat (by omega) (by omega)⟩
        have HAT : Hid ((∃ c, atS S xs = some c) ∧ ∃ c, atS S ys = some c) := by
          have h := HM.out
          rw [hxs, hys]
          exact ⟨HT.out.at n1 i1 h.1 h.2.1, HT.out.at n2 i2 h.2.2.1 h.2.2.2⟩
        have hS : wr.cell? ⟨r, 0, none⟩ = some (.int .i64 a.n) ∧ wr.cell? ⟨r, 1, none⟩ = some (.int .i64 a.i) ∧ wr.cell? ⟨r + 1, 0, none⟩ = some (.int .i64 b.n) ∧ wr.cell? ⟨r + 1, 1, none⟩ = some (.int .i64 b.i) := h5h.out.four (by simp) (by simp)
        simp only [objS, hxs, hys] at T1 T2
        clear hxs hys
        go_wp2
        go_cut [9, 10] from 40 to 53 (fun u v wx => ∃ q q', u = .pointer (some ⟨q, 0, none⟩) ∧ v = .pointer (some ⟨q', 0, none⟩) ∧ Has w r wx p F S [(q, objS xs), (q', objS ys)] [])
        case first =>
          go_region_held3 (fun W => W.cell? ⟨r, 0, none⟩ = some (.int .i64 a.n) ∧ W.cell? ⟨r, 1, none⟩ = some (.int .i64 a.i) ∧ W.cell? ⟨r + 1, 0, none⟩ = some (.int .i64 b.n) ∧ W.cell? ⟨r + 1, 1, none⟩ = some (.int .i64 b.i)) ((first | assumption | with_reducible exact s_drew hS | with_reducible exact s_drew (s_alloc hS _) | with_reducible exact s_drew (s_alloc (s_alloc hS _) _))) (fail)
          all_goals go_wp2_with fail
          all_goals go_meet
          all_goals first | exact ⟨_, _, rfl, rfl, by have h := HXS.out; rw [h.1, h.2]; exact T1.out⟩ | exact ⟨_, _, rfl, rfl, by have h := HXS.out; rw [h.1, h.2]; exact T2.out⟩
        case rest =>
          obtain ⟨q, q', rfl, rfl, h6⟩ := hcut
          clear T1 T2 hS h5h e1 e2 e3 e4
          have k6 : Hid (Has w r _ p F S [(q, objS xs), (q', objS ys)] []) := h6
          clear h6
          obtain ⟨⟨c, hc⟩, d, hd⟩ := HAT.out
          have HCD : Hid (atS S xs = some c ∧ atS S ys = some d) := ⟨hc, hd⟩
          clear hc hd HAT
          obtain ⟨A, HA⟩ : ∃ A, Hid (held S = A ∧ A.length ≤ 1000000) := ⟨_, rfl, Nat.le_trans (held_le HT.out.ok) (by decide)⟩
          go_wp2_with fail
          refine (held_is A HA.out.1 k6.out).mono ?_
          rintro e w7 ⟨ao7, cap7, rfl, h7⟩
          have k7 : Hid (Has w r w7 p F S [(q, objS xs), (q', objS ys)] [(.slice ao7 A.length cap7, A)]) := h7
          clear h7 k6
          obtain ⟨S1, S2, S3, HE⟩ : ∃ S1 S2 S3, Hid (swapE S xs ys = 0 ∧ swapS S xs ys = S1 ∧ swapE S1 ys xs = 0 ∧ swapS S1 ys xs = S2 ∧ swapE S2 xs xs = 0 ∧ swapS S2 xs xs = S3 ∧ held S3 = A) := by
            obtain ⟨S1, S2, S3, h1, h2, h3, h4, h5, h6, h7⟩ := swap_three HCD.out.1 HCD.out.2
            exact ⟨S1, S2, S3, h1, h2, h3, h4, h5, h6, h7.trans HA.out.1⟩
          have hS : w7.cell? ⟨q, 0, none⟩ = some (.int .i64 xs.n) ∧ w7.cell? ⟨q, 1, none⟩ = some (.int .i64 xs.i) ∧ w7.cell? ⟨q', 0, none⟩ = some (.int .i64 ys.n) ∧ w7.cell? ⟨q', 1, none⟩ = some (.int .i64 ys.i) := k7.out.four (by simp) (by simp)
          go_wp2
          go_region_held3 (fun W => W.cell? ⟨q, 0, none⟩ = some (.int .i64 xs.n) ∧ W.cell? ⟨q, 1, none⟩ = some (.int .i64 xs.i) ∧ W.cell? ⟨q', 0, none⟩ = some (.int .i64 ys.n) ∧ W.cell? ⟨q', 1, none⟩ = some (.int .i64 ys.i)) ((first | assumption | with_reducible exact s_drew hS | with_reducible exact h9.four (by simp) (by simp) | with_reducible exact h8.four (by simp) (by simp)))
            (first | (go_at_call 26; refine (swap_has ys xs 0 S2 h8 HFT.out.2 HFT.out.1 HE.out.2.2.1 HE.out.2.2.2.1).mono ?_; rintro e w9 ⟨rfl, h9⟩) | (go_at_call 26; refine (swap_has xs ys 0 S1 (k7.out.drew) HFT.out.1 HFT.out.2 HE.out.1 HE.out.2.1).mono ?_; rintro e w8 ⟨rfl, h8⟩))
          have k9 : Hid (Has w r w9 p F S2 [(q, objS xs), (q', objS ys)] [(.slice ao7 A.length cap7, A)]) := h9
          clear h8 h9 k7 hS
          obtain ⟨s0, s1, _, _⟩ := k9.out.four (q := q) (q' := q') (s := xs) (t := ys) (by simp) (by simp)
          go_wp2_with fail
          refine (swap_has xs xs 0 S3 k9.out HFT.out.1 HFT.out.1 HE.out.2.2.2.2.1 HE.out.2.2.2.2.2.1).mono ?_
          rintro e w10 ⟨rfl, h10⟩
          have k10 : Hid (Has w r w10 p F S3 [(q, objS xs), (q', objS ys)] [(.slice ao7 A.length cap7, A)]) := h10
          clear h10 k9 s0 s1
          go_wp2_with fail
          refine (held_is A HE.out.2.2.2.2.2.2 k10.out).mono ?_
          rintro e w11 ⟨ao11, cap11, rfl, h11⟩
          have k11 : Hid (Has w r w11 p F S3 [(q, objS xs), (q', objS ys)] [(.slice ao11 A.length cap11, A), (.slice ao7 A.length cap7, A)]) := h11
          clear h11 k10
          go_wp2_with fail
          refine (same_has k11.out (by simp) (by simp) HA.out.2).mono ?_
          rintro e w12 ⟨rfl, h12⟩
          have k12 : Hid _ := h12
          clear h12 k11
          go_wp2_with fail
          refine (fixed_has k12.out).mono ?_
          rintro e w13 ⟨rfl, h13⟩
          have KL : Hid _ := h13
          clear h13 k12
          go_wp2
          go_ret
          exact ⟨rfl, by rw [HR.out]; exact KL.out.low⟩
      · obtain ⟨hk0, rfl⟩ := hge
        have hk1 : ((20 : Nat) : Int) < (X.length : Int) := by omega
        clear hk0 hlt hk
        generalize hXl : X.length = n at *
        clear hXl HX
        obtain ⟨xs, hxs⟩ : ∃ s : Sl, s = ⟨(n1 : Int), (i1 : Int)⟩ := ⟨_, rfl⟩
        obtain ⟨ys, hys⟩ : ∃ s : Sl, s = ⟨(n2 : Int), (i2 : Int)⟩ := ⟨_, rfl⟩
        have T1 : Hid (Has w r ((wr.alloc (objS xs)).alloc (objS ys)).drew p F S [(wr.heap.size, objS xs), (wr.heap.size + 1, objS ys)] []) := mk_one h5h.out xs ys
        have T2 : Hid (Has w r ((wr.alloc (objS ys)).alloc (objS xs)).drew p F S [(wr.heap.size + 1, objS xs), (wr.heap.size, objS ys)] []) := mk_other h5h.out xs ys
        have HXS : Hid (xs = ⟨(n1 : Int), (i1 : Int)⟩ ∧ ys = ⟨(n2 : Int), (i2 : Int)⟩) := ⟨hxs, hys⟩
        have HFT : Hid (xs.Fits ∧ ys.Fits) := by
          have h := HM.out
          rw [hxs, hys]
          exact ⟨fits_nat (by omega) (by omega), fits_nat (by omega) (by omega)⟩
        have HAT : Hid ((∃ c, atS S xs = some c) ∧ ∃ c, atS S ys = some c) := by
          have h := HM.out
          rw [hxs, hys]
          exact ⟨HT.out.at n1 i1 h.1 h.2.1, HT.out.at n2 i2 h.2.2.1 h.2.2.2⟩
        have hS : wr.cell? ⟨r, 0, none⟩ = some (.int .i64 a.n) ∧ wr.cell? ⟨r, 1, none⟩ = some (.int .i64 a.i) ∧ wr.cell? ⟨r + 1, 0, none⟩ = some (.int .i64 b.n) ∧ wr.cell? ⟨r + 1, 1, none⟩ = some (.int .i64 b.i) := h5h.out.four (by simp) (by simp)
        simp only [objS, hxs, hys] at T1 T2
        clear hxs hys
        go_wp2
        go_cut [9, 10] from 40 to 53 (fun u v wx => ∃ q q', u = .pointer (some ⟨q, 0, none⟩) ∧ v = .pointer (some ⟨q', 0, none⟩) ∧ Has w r wx p F S [(q, objS xs), (q', objS ys)] [])
        case first =>
          go_region_held3 (fun W => W.cell? ⟨r, 0, none⟩ = some (.int .i64 a.n) ∧ W.cell? ⟨r, 1, none⟩ = some (.int .i64 a.i) ∧ W.cell? ⟨r + 1, 0, none⟩ = some (.int .i64 b.n) ∧ W.cell? ⟨r + 1, 1, none⟩ = some (.int .i64 b.i)) ((first | assumption | with_reducible exact s_drew hS | with_reducible exact s_drew (s_alloc hS _) | with_reducible exact s_drew (s_alloc (s_alloc hS _) _))) (fail)
          all_goals go_wp2_with fail
          all_goals go_meet
          all_goals first | exact ⟨_, _, rfl, rfl, by have h := HXS.out; rw [h.1, h.2]; exact T1.out⟩ | exact ⟨_, _, rfl, rfl, by have h := HXS.out; rw [h.1, h.2]; exact T2.out⟩
        case rest =>
          obtain ⟨q, q', rfl, rfl, h6⟩ := hcut
          clear T1 T2 hS h5h e1 e2 e3 e4
          have k6 : Hid (Has w r _ p F S [(q, objS xs), (q', objS ys)] []) := h6
          clear h6
          obtain ⟨⟨c, hc⟩, d, hd⟩ := HAT.out
          have HCD : Hid (atS S xs = some c ∧ atS S ys = some d) := ⟨hc, hd⟩
          clear hc hd HAT
          obtain ⟨A, HA⟩ : ∃ A, Hid (held S = A ∧ A.length ≤ 1000000) := ⟨_, rfl, Nat.le_trans (held_le HT.out.ok) (by decide)⟩
          go_wp2_with fail
          refine (held_is A HA.out.1 k6.out).mono ?_
          rintro e w7 ⟨ao7, cap7, rfl, h7⟩
          have k7 : Hid (Has w r w7 p F S [(q, objS xs), (q', objS ys)] [(.slice ao7 A.length cap7, A)]) := h7
          clear h7 k6
          obtain ⟨S1, S2, S3, HE⟩ : ∃ S1 S2 S3, Hid (swapE S xs ys = 0 ∧ swapS S xs ys = S1 ∧ swapE S1 ys xs = 0 ∧ swapS S1 ys xs = S2 ∧ swapE S2 xs xs = 0 ∧ swapS S2 xs xs = S3 ∧ held S3 = A) := by
            obtain ⟨S1, S2, S3, h1, h2, h3, h4, h5, h6, h7⟩ := swap_three HCD.out.1 HCD.out.2
            exact ⟨S1, S2, S3, h1, h2, h3, h4, h5, h6, h7.trans HA.out.1⟩
          have hS : w7.cell? ⟨q, 0, none⟩ = some (.int .i64 xs.n) ∧ w7.cell? ⟨q, 1, none⟩ = some (.int .i64 xs.i) ∧ w7.cell? ⟨q', 0, none⟩ = some (.int .i64 ys.n) ∧ w7.cell? ⟨q', 1, none⟩ = some (.int .i64 ys.i) := k7.out.four (by simp) (by simp)
          go_wp2
          go_region_held3 (fun W => W.cell? ⟨q, 0, none⟩ = some (.int .i64 xs.n) ∧ W.cell? ⟨q, 1, none⟩ = some (.int .i64 xs.i) ∧ W.cell? ⟨q', 0, none⟩ = some (.int .i64 ys.n) ∧ W.cell? ⟨q', 1, none⟩ = some (.int .i64 ys.i)) ((first | assumption | with_reducible exact s_drew hS | with_reducible exact h9.four (by simp) (by simp) | with_reducible exact h8.four (by simp) (by simp)))
            (first | (go_at_call 26; refine (swap_has ys xs 0 S2 h8 HFT.out.2 HFT.out.1 HE.out.2.2.1 HE.out.2.2.2.1).mono ?_; rintro e w9 ⟨rfl, h9⟩) | (go_at_call 26; refine (swap_has xs ys 0 S1 (k7.out.drew) HFT.out.1 HFT.out.2 HE.out.1 HE.out.2.1).mono ?_; rintro e w8 ⟨rfl, h8⟩))
          have k9 : Hid (Has w r w9 p F S2 [(q, objS xs), (q', objS ys)] [(.slice ao7 A.length cap7, A)]) := h9
          clear h8 h9 k7 hS
          obtain ⟨s0, s1, _, _⟩ := k9.out.four (q := q) (q' := q') (s := xs) (t := ys) (by simp) (by simp)
          go_wp2_with fail
          refine (swap_has xs xs 0 S3 k9.out HFT.out.1 HFT.out.1 HE.out.2.2.2.2.1 HE.out.2.2.2.2.2.1).mono ?_
          rintro e w10 ⟨rfl, h10⟩
          have k10 : Hid (Has w r w10 p F S3 [(q, objS xs), (q', objS ys)] [(.slice ao7 A.length cap7, A)]) := h10
          clear h10 k9 s0 s1
          go_wp2_with fail
          refine (held_is A HE.out.2.2.2.2.2.2 k10.out).mono ?_
          rintro e w11 ⟨ao11, cap11, rfl, h11⟩
          have k11 : Hid (Has w r w11 p F S3 [(q, objS xs), (q', objS ys)] [(.slice ao11 A.length cap11, A), (.slice ao7 A.length cap7, A)]) := h11
          clear h11 k10
          go_wp2_with fail
          refine (same_has k11.out (by simp) (by simp) HA.out.2).mono ?_
          rintro e w12 ⟨rfl, h12⟩
          have k12 : Hid _ := h12
          clear h12 k11
          go_wp2_with fail
          refine (fixed_has k12.out).mono ?_
          rintro e w13 ⟨rfl, h13⟩
          have KL : Hid _ := h13
          clear h13 k12
          go_wp2
          go_ret
          exact ⟨rfl, by rw [HR.out]; exact KL.out.low⟩
end
open Go.ChangeShapes Go.WideShapes Go.ChangeAt Go.RowKit Go.Joins

/-! ### From the walk to the statement -/
set_option maxRecDepth 100000 in
theorem lifted (os : Os) (started : os.Started) (H : Type) (enc : TypeId × Value → H) :
    ReturnsInHanded {} Try.checked os 6 .any (Rows.slotsSwapsSpec.pre6 enc Try.prog Try.f6 Rows.slotsSwapsRow.domain false) (Rows.slotsSwapsSpec.post enc Try.prog Try.f6 false true false false) := by
  have dCp : DecidableEq Cp := fun a b => Classical.propDecidable (a = b)
  have dLim : ∀ k, Decidable (Lim k) := fun k => Classical.propDecidable (Lim k)
  have dBad : ∀ k, Decidable (Bad k) := fun k => Classical.propDecidable (Bad k)
  have dFit : ∀ g z, Decidable (Fit g z) := fun g z => Classical.propDecidable (Fit g z)
  have dFine : ∀ c, Decidable (Fine c) := fun c => Classical.propDecidable (Fine c)
  have dMint : ∀ c v, Decidable (MintR c v) := fun c v => Classical.propDecidable (MintR c v)
  have dWho : ∀ x y, Decidable (Whose x y) := fun x y => Classical.propDecidable (Whose x y)
  have dSl : DecidableEq Sl := fun a b => Classical.propDecidable (a = b)
  have dLt : ∀ a b, Decidable (ltS a b) := fun a b => Classical.propDecidable (ltS a b)
  have iSl : Inhabited Sl := ⟨⟨0, 0⟩⟩
  have iCp : Inhabited Cp := ⟨no⟩
  refine returnsInHanded_of_change (C := Try.checked) own started (by kernel_rfl) Try.func6
    (ChangeSpec.witness6 (enc := enc) (C := Try.checked) false ⟨#[], #[.slice none 0 0, .agg #[.int .i64 0, .int .i64 0], .agg #[.int .i64 0, .int .i64 0]], []⟩ 8 (by kernel_rfl) (by kernel_rfl) (by kernel_rfl) (by kernel_rfl)) ?_
  intro W base args ds gs before hval0 hW hcnd _
  have hval : ∀ (j : Nat) t v, Try.f6.params[j]? = some t → args[j]? = some v → Value.okWide Try.prog W .any base t v := hval0
  have hW' := hW
  obtain ⟨p, q, hA0, hV, rfl, hfz, hnd⟩ := hW
  have hA : DataW.TrodAll enc Try.prog W 0 (fun _ => true) true Try.f6.params.toList args.toList ds p := hA0
  rw [Try.params6] at hA hval
  obtain ⟨v0, vs0, d0, ds0, p0, q0, hargs, rfl, rfl, h0, r0⟩ := trodAll_cons hA
  obtain ⟨v1, vs1, d1, ds1, p1, q1, rfl, rfl, rfl, h1, r1⟩ := trodAll_cons r0
  obtain ⟨v2, vs2, d2, ds2, p2, q2, rfl, rfl, rfl, h2, r2⟩ := trodAll_cons r1
  obtain ⟨rfl, rfl, rfl⟩ := trodAll_nil r2
  obtain rfl : args = #[v0, v1, v2] := by cases args; simp_all
  obtain ⟨rfl, rfl⟩ := trodVars_none hV
  have k0 := h0
  have lt0 : ∀ x ∈ p0, x.block < W.heap.size := by obtain ⟨m, hm⟩ := k0; exact DataW.trod_lt m _ _ _ hm
  obtain ⟨a0, l0, c0, rfl, t0, s0⟩ := open_ops (hval 0 22 v0 rfl rfl) h0
  have k1 := h1
  have lt1 : ∀ x ∈ p1, x.block < W.heap.size := by obtain ⟨m, hm⟩ := k1; exact DataW.trod_lt m _ _ _ hm
  obtain ⟨a1, rfl, w1⟩ := open_slot (hval 1 30 v1 rfl rfl) h1
  have k2 := h2
  have lt2 : ∀ x ∈ p2, x.block < W.heap.size := by obtain ⟨m, hm⟩ := k2; exact DataW.trod_lt m _ _ _ hm
  obtain ⟨a2, rfl, w2⟩ := open_slot (hval 2 30 v2 rfl rfl) h2
  clear hA0 hval0
  refine (walk a0 l0 c0 a1 a2 W t0 s0 w1 w2).mono fun e W' ⟨he, bel⟩ => ?_
  subst he
  exact ⟨_, rfl, _, _, _, [], _, [], hW', trodAll_mk1 (shut_bool Try.underlying4 _), (trodAll_cons_mk (Below.trod laidOut (by kernel_rfl) (of_decide_eq_true (by kernel_rfl)) k0 bel lt0) (trodAll_cons_mk (Below.trod laidOut (by kernel_rfl) (of_decide_eq_true (by kernel_rfl)) k1 bel lt1) (trodAll_cons_mk (Below.trod laidOut (by kernel_rfl) (of_decide_eq_true (by kernel_rfl)) k2 bel lt2) trodAll_mk0))), rfl, bel.frame _, fun h => by cases h⟩
theorem over : Rows.slotsSwapsRow.holds Try.pinned (OpenSpec.ofChange Rows.slotsSwapsSpec) :=
  OpenClaim.holds_of_wide 6 Try.f6 rfl rfl rfl rfl rfl rfl rfl ⟨rfl, rfl, rfl, rfl, rfl⟩ rfl rfl rfl rfl rfl (by kernel_rfl) Try.func6 (by kernel_rfl)
    (of_decide_eq_true (by kernel_rfl)) (by unfold Func.isWrapper; first | (rw [if_pos (by decide +kernel)]; kernel_rfl) | (rw [if_neg (by decide +kernel)]; exact ⟨rfl, rfl⟩))
    (fun os started H enc _ => lifted os started H enc)
end Go.Proofs.Ytkpoppgibempbaa.slotsSwaps
namespace Go.Proofs.Ytkpoppgibempbaa
/-- THE STATEMENT. -/
theorem slotsSwaps_said : Rows.SlotsSwapsSaid := slotsSwaps.over
#print axioms slotsSwaps_said
end Go.Proofs.Ytkpoppgibempbaa

/-
  SlotsMoves answers true for every input, and leaves it; no condition of ours.
-/
import Derived.Test.YtkpoppgibempbaaNLaw
import Derived.Deep.Cut
import Derived.Deep.CutRange
namespace Go.Proofs.Ytkpoppgibempbaa.slotsMoves
open Go.RowKit Go.Deep Go.MapKept Go.Maps
set_option linter.unusedSectionVars false
section
variable [dCp : DecidableEq Cp] [dLim : ∀ k, Decidable (Lim k)] [dBad : ∀ k, Decidable (Bad k)] [dFit : ∀ g z, Decidable (Fit g z)] [dFine : ∀ c, Decidable (Fine c)] [dMint : ∀ c v, Decidable (MintR c v)] [dWho : ∀ x y, Decidable (Whose x y)] [dSl : DecidableEq Sl] [dLt : ∀ a b, Decidable (ltS a b)] [iSl : Inhabited Sl] [iCp : Inhabited Cp]
theorem at_move {S : St} {x y : Sl} {c d : Cp} (hx : atS S x = some c) (hy : atS S y = some d) (h0 : moveE S x y = 0) (u : Sl) : atS (moveS S x y) u = if u = x then some no else if u = y then some c else atS S u := by
  unfold moveS
  rw [if_pos h0, getC_at hx]
  have h2 : ∃ v, atS (setS S y c) x = some v := by
    rw [atS_set hy]
    split
    · exact ⟨_, rfl⟩
    · exact ⟨_, hx⟩
  obtain ⟨v, hv⟩ := h2
  rw [atS_set hv, atS_set hy]
theorem move_e {S : St} {x y : Sl} {c d : Cp} (hx : atS S x = some c) (hy : atS S y = some d) : moveE S x y = if c.k = 0 then 52 else if d.k = 0 then 0 else 51 := by
  unfold moveE
  rw [hx, hy]
theorem move_two {S : St} (ok : Okay S) {x y : Sl} {c d : Cp} (hx : atS S x = some c) (hy : atS S y = some d) :
    (moveE S x y ≠ 0 ∧ moveS S x y = S) ∨ ∃ S1 S2, moveE S x y = 0 ∧ moveS S x y = S1 ∧ c.k ≠ 0 ∧ getC S1 x = no ∧ getE S1 x = 0 ∧ getC S1 y = c ∧ getE S1 y = 0 ∧ moveE S1 y x = 0 ∧ moveS S1 y x = S2 ∧ held S2 = held S := by
  by_cases h0 : moveE S x y = 0
  · right
    have hm := move_e hx hy
    rw [h0] at hm
    have hc : c.k ≠ 0 := fun e => by rw [if_pos e] at hm; cases hm
    rw [if_neg hc] at hm
    have hd : d.k = 0 := Decidable.byContradiction fun e => by rw [if_neg e] at hm; cases hm
    have hne : x ≠ y := fun e => by
      subst e
      rw [hx] at hy
      cases hy
      exact hc hd
    have hdn : d = no := (ok.at hy).2 hd
    have a1 := at_move hx hy h0
    have ax : atS (moveS S x y) x = some no := (a1 x).trans (if_pos rfl)
    have ay : atS (moveS S x y) y = some c := (a1 y).trans ((if_neg (Ne.symm hne)).trans (if_pos rfl))
    have h1 : moveE (moveS S x y) y x = 0 := by rw [move_e ay ax, if_neg hc]; rfl
    refine ⟨_, _, h0, rfl, hc, getC_at ax, by unfold getE; rw [ax]; rfl, getC_at ay, by unfold getE; rw [ay]; rfl, h1, rfl, held_at fun u => ?_⟩
    rw [at_move ay ax h1, a1]
    by_cases e1 : u = y
    · rw [if_pos e1, e1, hy, hdn]
    · rw [if_neg e1]
      by_cases e2 : u = x
      · rw [if_pos e2, e2, hx]
      · rw [if_neg e2, if_neg e2, if_neg e1]
  · exact .inl ⟨h0, by unfold moveS; rw [if_neg h0]⟩
set_option maxHeartbeats 4000000 in
set_option maxRecDepth 100000 in
theorem walk (ao : Option Addr) (X : List Oc) (cap : Nat) (a b : Sl) (w : World) (hX : Script w ao X) (hl : X.length ≤ 9223372036854775807) (_fa : a.Fits) (_fb : b.Fits) :
    Calls Try.prog 7 #[.slice ao X.length cap, encS a, encS b] w fun e w' => e = .returned (.bool true) ∧ Below w.heap.size w w' := by
  obtain ⟨x1, x2, x3, x4⟩ := box2 w (objS a) (objS b)
  have HX : Hid (Script w ao X ∧ X.length ≤ 9223372036854775807) := ⟨hX, hl⟩
  obtain ⟨n1, hn1, e1⟩ := mask1 a.n
  obtain ⟨i1, hi1, e2⟩ := mask3 a.i
  obtain ⟨n2, hn2, e3⟩ := mask1 b.n
  obtain ⟨i2, hi2, e4⟩ := mask3 b.i
  have HM : Hid (n1 ≤ 1 ∧ i1 ≤ 3 ∧ n2 ≤ 1 ∧ i2 ≤ 3) := ⟨hn1, hi1, hn2, hi2⟩
  clear hX hl hn1 hi1 hn2 hi2
  simp only [encS, objS] at x1 x2 x3 x4 ⊢
  go_enter Try.func7, Try.ntmps7
  go_wp2_with fail
  refine (two_any _).mono ?_
  rintro e w1 ⟨p, F, rfl, h0⟩
  have h1 : Hid (Has w w.heap.size w1 p F two0 [(w.heap.size, objS a), (w.heap.size + 1, objS b)] []) := h0.rebase x4 x4.size _ (fun y hy => by
    simp only [List.mem_cons, List.not_mem_nil, or_false] at hy
    rcases hy with rfl | rfl
    · exact x1
    · exact x2)
  clear x1 x2 x3 x4 h0
  generalize hr0 : w.heap.size = r at *
  have HR : Hid (w.heap.size = r) := hr0
  clear hr0
  go_wp2
  go_loopw [8] (fun i wr => ∃ (k : Nat) (S : St), k ≤ 20 ∧ i = .int .i64 k ∧ Two4 S ∧ Has w r wr p F S [(r, objS a), (r + 1, objS b)] []) (fun i _ => 20 - (intOf i).toNat)
  case atStart => exact ⟨0, two0, by omega, rfl, two4_0, h1.out⟩
  case round =>
    obtain ⟨k, S, hk, rfl, ht, hh⟩ := hrel
    have HT : Hid (Two4 S) := ht
    have h5h : Hid (Has w r wr p F S [(r, objS a), (r + 1, objS b)] []) := hh
    clear ht hh h1
    by_cases hlt : k < X.length ∧ k < 20
    · obtain ⟨x, hx⟩ : ∃ x, X[k]? = some x := ⟨_, List.getElem?_eq_getElem hlt.1⟩
      obtain ⟨fx, b0, o0, rfl, hb, _⟩ := HX.out.1 k x hx
      have HP : Hid (∀ W, Below r w W → W.cell? ⟨b0, o0 + k * 12 + 2, none⟩ = some (.int .i64 x.a.n) ∧ W.cell? ⟨b0, o0 + k * 12 + 2 + 1, none⟩ = some (.int .i64 x.a.i) ∧ W.cell? ⟨b0, o0 + k * 12 + 6, none⟩ = some (.int .i64 x.c.k) ∧ W.cell? ⟨b0, o0 + k * 12 + 6 + 1, none⟩ = some (.int .i64 x.c.o) ∧ W.cell? ⟨b0, o0 + k * 12 + 6 + 2, none⟩ = some (.int .i64 x.c.r) ∧ W.cell? ⟨b0, o0 + k * 12 + 6 + 3, none⟩ = some (.int .u64 x.c.b) ∧ W.cell? ⟨b0, o0 + k * 12 + 6 + 4, none⟩ = some (.int .u64 x.c.g) ∧ W.cell? ⟨b0, o0 + k * 12 + 6 + 5, none⟩ = some (.int .i64 x.c.z)) := fun W u => script_put HX.out.1 hx rfl (by rw [HR.out]; exact u)
      have hS := HP.out wr h5h.out.low
      have HF : Hid (x.Fits) := fx
      have hk1 : (k : Int) < (X.length : Int) := by omega
      have hk2 : (k : Int) < 20 := by omega
      have HK : Hid (k < 20) := hlt.2
      clear hlt hx hb fx
      generalize hXl : X.length = n at *
      clear hXl
      go_wp2
      go_region_held3 (fun W => W.cell? ⟨b0, o0 + k * 12 + 2, none⟩ = some (.int .i64 x.a.n) ∧ W.cell? ⟨b0, o0 + k * 12 + 2 + 1, none⟩ = some (.int .i64 x.a.i) ∧ W.cell? ⟨b0, o0 + k * 12 + 6, none⟩ = some (.int .i64 x.c.k) ∧ W.cell? ⟨b0, o0 + k * 12 + 6 + 1, none⟩ = some (.int .i64 x.c.o) ∧ W.cell? ⟨b0, o0 + k * 12 + 6 + 2, none⟩ = some (.int .i64 x.c.r) ∧ W.cell? ⟨b0, o0 + k * 12 + 6 + 3, none⟩ = some (.int .u64 x.c.b) ∧ W.cell? ⟨b0, o0 + k * 12 + 6 + 4, none⟩ = some (.int .u64 x.c.g) ∧ W.cell? ⟨b0, o0 + k * 12 + 6 + 5, none⟩ = some (.int .i64 x.c.z)) ((first | assumption | with_reducible exact HP.out _ (h5h.out.low.drew) | with_reducible exact HP.out _ h2.low))
        (first | (go_at_call 12; refine (put_has x.a x.c _ _ (h5h.out.drew) HF.out.a HF.out.c rfl rfl).mono ?_; rintro e w' ⟨rfl, h2⟩))
      have h2 : Hid _ := h2
      go_wp2
      go_roundw
      case rel => exact ⟨k + 1, _, HK.out, by go_num, HT.out.put x.a HF.out.c, h2.out⟩
      case measure => simp [intOf]; have := HK.out; omega
    · have hge : (¬ k < X.length) ∨ (k < X.length ∧ k = 20) := by omega
      rcases hge with hge | hge
      · have hk1 : ¬ ((k : Int) < (X.length : Int)) := by omega
        clear hge hlt hk
        generalize hXl : X.length = n at *
        clear hXl HX
        obtain ⟨xs, hxs⟩ : ∃ s : Sl, s = ⟨(n1 : Int), (i1 : Int)⟩ := ⟨_, rfl⟩
        obtain ⟨ys, hys⟩ : ∃ s : Sl, s = ⟨(n2 : Int), (i2 : Int)⟩ := ⟨_, rfl⟩
        have T1 : Hid (Has w r ((wr.alloc (objS xs)).alloc (objS ys)).drew p F S [(wr.heap.size, objS xs), (wr.heap.size + 1, objS ys)] []) := mk_one h5h.out xs ys
        have T2 : Hid (Has w r ((wr.alloc (objS ys)).alloc (objS xs)).drew p F S [(wr.heap.size + 1, objS xs), (wr.heap.size, objS ys)] []) := mk_other h5h.out xs ys
        have HXS : Hid (xs = ⟨(n1 : Int), (i1 : Int)⟩ ∧ ys = ⟨(n2 : Int), (i2 : Int)⟩) := ⟨hxs, hys⟩
        have HFT : Hid (xs.Fits ∧ ys.Fits) := by
          have h := HM.out
          rw [hxs, hys]
          exact ⟨fits_nat (by omega) (by omega), fits_nat (by omega) (by omega)⟩
        have HAT : Hid ((∃ c, atS S xs = some c) ∧ ∃ c, atS S ys = some c) := by
          have h := HM.out
          rw [hxs, hys]
          exact ⟨HT.out.at n1 i1 h.1 h.2.1, HT.out.at n2 i2 h.2.2.1 h.2.2.2⟩
        have hS : wr.cell? ⟨r, 0, none⟩ = some (.int .i64 a.n) ∧ wr.cell? ⟨r, 1, none⟩ = some (.int .i64 a.i) ∧ wr.cell? ⟨r + 1, 0, none⟩ = some (.int .i64 b.n) ∧ wr.cell? ⟨r + 1, 1, none⟩ = some (.int .i64 b.i) := h5h.out.four (by simp) (by simp)
        simp only [objS, hxs, hys] at T1 T2
        clear hxs hys
        go_wp2
        go_cut [9, 10] from 45 to 58 (fun u v wx => ∃ q q', u = .pointer (some ⟨q, 0, none⟩) ∧ v = .pointer (some ⟨q', 0, none⟩) ∧ Has w r wx p F S [(q, objS xs), (q', objS ys)] [])
        case first =>
          go_region_held3 (fun W => W.cell? ⟨r, 0, none⟩ = some (.int .i64 a.n) ∧ W.cell? ⟨r, 1, none⟩ = some (.int .i64 a.i) ∧ W.cell? ⟨r + 1, 0, none⟩ = some (.int .i64 b.n) ∧ W.cell? ⟨r + 1, 1, none⟩ = some (.int .i64 b.i)) ((first | assumption | with_reducible exact s_drew hS | with_reducible exact s_drew (s_alloc hS _) | with_reducible exact s_drew (s_alloc (s_alloc hS _) _))) (fail)
          all_goals go_wp2_with fail
          all_goals go_meet
          all_goals first | exact ⟨_, _, rfl, rfl, by have h := HXS.out; rw [h.1, h.2]; exact T1.out⟩ | exact ⟨_, _, rfl, rfl, by have h := HXS.out; rw [h.1, h.2]; exact T2.out⟩
        case rest =>
          obtain ⟨q, q', rfl, rfl, h6⟩ := hcut
          clear T1 T2 hS h5h e1 e2 e3 e4
          have k6 : Hid (Has w r _ p F S [(q, objS xs), (q', objS ys)] []) := h6
          clear h6
          obtain ⟨⟨c, hc⟩, d, hd⟩ := HAT.out
          have HCD : Hid (atS S xs = some c ∧ atS S ys = some d) := ⟨hc, hd⟩
          clear hc hd HAT
          obtain ⟨A, HA⟩ : ∃ A, Hid (held S = A ∧ A.length ≤ 1000000) := ⟨_, rfl, Nat.le_trans (held_le HT.out.ok) (by decide)⟩
          go_wp2_with fail
          refine (held_is A HA.out.1 k6.out).mono ?_
          rintro e w7 ⟨ao7, cap7, rfl, h7⟩
          have k7 : Hid (Has w r w7 p F S [(q, objS xs), (q', objS ys)] [(.slice ao7 A.length cap7, A)]) := h7
          clear h7 k6
          obtain ⟨s0, s1, _, _⟩ := k7.out.four (q := q) (q' := q') (s := xs) (t := ys) (by simp) (by simp)
          go_wp2_with fail
          refine (get_has xs c 0 k7.out HFT.out.1 (getC_at HCD.out.1) (by unfold getE; rw [HCD.out.1]; rfl)).mono ?_
          rintro e w8 ⟨he, h8⟩
          obtain rfl : e = .returned (.tuple #[.agg #[.int .i64 c.k, .int .i64 c.o, .int .i64 c.r, .int .u64 c.b, .int .u64 c.g, .int .i64 c.z], .int .i64 0]) := he
          clear s0 s1
          have h8a : Has w r (w8.alloc (objC c)) p F S [(w8.heap.size, objC c), (q, objS xs), (q', objS ys)] [(.slice ao7 A.length cap7, A)] := h8.alloc (objC c)
          clear h8 k7
          obtain ⟨s0, s1, s2, s3⟩ := h8a.four (q := q) (q' := q') (s := xs) (t := ys) (by simp) (by simp)
          have k8a : Hid _ := h8a
          clear h8a
          simp only [objC] at s0 s1 s2 s3 k8a
          go_wp2_with fail
          generalize w8.alloc (Obj.cells #[.int .i64 c.k, .int .i64 c.o, .int .i64 c.r, .int .u64 c.b, .int .u64 c.g, .int .i64 c.z] 33) = v8 at *
          generalize w8.heap.size = qc at *
          have k8 : Hid (Has w r v8 p F S [(qc, objC c), (q, objS xs), (q', objS ys)] [(.slice ao7 A.length cap7, A)]) := k8a
          clear k8a
          rcases move_two HT.out.ok HCD.out.1 HCD.out.2 with hm | ⟨S1, S2, hm⟩
          
          · have HE : Hid (moveE S xs ys ≠ 0 ∧ moveS S xs ys = S) := hm
            clear hm
            obtain ⟨m, HMm⟩ : ∃ m, Hid (moveE S xs ys = m ∧ m ≠ 0) := ⟨_, rfl, HE.out.1⟩
            refine (move_has xs ys m S k8.out HFT.out.1 HFT.out.2 HMm.out.1 HE.out.2).mono ?_
            rintro e w9 ⟨rfl, h9⟩
            have k9 : Hid (Has w r w9 p F S [(qc, objC c), (q, objS xs), (q', objS ys)] [(.slice ao7 A.length cap7, A)]) := h9
            clear h9 k8 s0 s1 s2 s3
            have hm0 : (m != 0) = true := by simp [HMm.out.2]
            go_wp2_with fail
            refine (held_is A HA.out.1 k9.out).mono ?_
            rintro e w10 ⟨ao10, cap10, rfl, h10⟩
            have k10 : Hid (Has w r w10 p F S [(qc, objC c), (q, objS xs), (q', objS ys)] [(.slice ao10 A.length cap10, A), (.slice ao7 A.length cap7, A)]) := h10
            clear h10 k9
            go_wp2_with fail
            refine (same_has k10.out (by simp) (by simp) HA.out.2).mono ?_
            rintro e w11 ⟨rfl, h11⟩
            have k11 : Hid _ := h11
            clear h11 k10
            go_wp2_with fail
            refine (fixed_has k11.out).mono ?_
            rintro e w12 ⟨rfl, h12⟩
            have KL : Hid _ := h12
            clear h12 k11
            go_wp2
            go_ret
            exact ⟨rfl, by rw [HR.out]; exact KL.out.low⟩
          · have HE : Hid (moveE S xs ys = 0 ∧ moveS S xs ys = S1 ∧ c.k ≠ 0 ∧ getC S1 xs = no ∧ getE S1 xs = 0 ∧ getC S1 ys = c ∧ getE S1 ys = 0 ∧ moveE S1 ys xs = 0 ∧ moveS S1 ys xs = S2 ∧ held S2 = A) := by
              obtain ⟨g1, g2, g3, g4, g5, g6, g7, g8, g9, g10⟩ := hm
              exact ⟨g1, g2, g3, g4, g5, g6, g7, g8, g9, g10.trans HA.out.1⟩
            clear hm
            have HQ1 : ∀ W, (Op.equalIn 10000 33 (.agg #[.int .i64 0, .int .i64 0, .int .i64 0, .int .u64 0, .int .u64 0, .int .i64 0]) (.agg #[.int .i64 0, .int .i64 0, .int .i64 0, .int .u64 0, .int .u64 0, .int .i64 0])).run Try.prog W = .ok true W := fun W => by
              have h := eq_caps W no no
              simpa [no] using h
            have HQ2 : ∀ W, (Op.equalIn 10000 33 (.agg #[.int .i64 c.k, .int .i64 c.o, .int .i64 c.r, .int .u64 c.b, .int .u64 c.g, .int .i64 c.z]) (.agg #[.int .i64 c.k, .int .i64 c.o, .int .i64 c.r, .int .u64 c.b, .int .u64 c.g, .int .i64 c.z])).run Try.prog W = .ok true W := fun W => by
              have h := eq_caps W c c
              simpa using h
            have hck : (c.k != 0) = true := by simp [HE.out.2.2.1]
            refine (move_has xs ys 0 S1 k8.out HFT.out.1 HFT.out.2 HE.out.1 HE.out.2.1).mono ?_
            rintro e w9 ⟨rfl, h9⟩
            have k9 : Hid (Has w r w9 p F S1 [(qc, objC c), (q, objS xs), (q', objS ys)] [(.slice ao7 A.length cap7, A)]) := h9
            clear h9 k8 s0 s1 s2 s3
            obtain ⟨s0, s1, _, _⟩ := k9.out.four (q := q) (q' := q') (s := xs) (t := ys) (by simp) (by simp)
            go_wp2_with fail
            refine (get_has xs no 0 k9.out HFT.out.1 HE.out.2.2.2.1 HE.out.2.2.2.2.1).mono ?_
            rintro e w10 ⟨he, h10⟩
            obtain rfl : e = .returned (.tuple #[.agg #[.int .i64 0, .int .i64 0, .int .i64 0, .int .u64 0, .int .u64 0, .int .i64 0], .int .i64 0]) := he
            clear s0 s1 k9
            have h10a : Has w r (w10.alloc (objC no)) p F S1 [(w10.heap.size, objC no), (qc, objC c), (q, objS xs), (q', objS ys)] [(.slice ao7 A.length cap7, A)] := h10.alloc (objC no)
            clear h10
            obtain ⟨_, _, s2, s3⟩ := h10a.four (q := q) (q' := q') (s := xs) (t := ys) (by simp) (by simp)
            have k10a : Hid _ := h10a
            clear h10a
            simp only [objC, no] at s2 s3 k10a
            go_wp2_with fail
            generalize w10.alloc (Obj.cells #[.int .i64 0, .int .i64 0, .int .i64 0, .int .u64 0, .int .u64 0, .int .i64 0] 33) = v10 at *
            generalize w10.heap.size = qn at *
            have k10 : Hid (Has w r v10 p F S1 [(qn, objC no), (qc, objC c), (q, objS xs), (q', objS ys)] [(.slice ao7 A.length cap7, A)]) := k10a
            clear k10a
            refine (get_has ys c 0 k10.out HFT.out.2 HE.out.2.2.2.2.2.1 HE.out.2.2.2.2.2.2.1).mono ?_
            rintro e w11 ⟨he, h11⟩
            obtain rfl : e = .returned (.tuple #[.agg #[.int .i64 c.k, .int .i64 c.o, .int .i64 c.r, .int .u64 c.b, .int .u64 c.g, .int .i64 c.z], .int .i64 0]) := he
            clear s2 s3 k10
            have h11a : Has w r (w11.alloc (objC c)) p F S1 [(w11.heap.size, objC c), (qn, objC no), (qc, objC c), (q, objS xs), (q', objS ys)] [(.slice ao7 A.length cap7, A)] := h11.alloc (objC c)
            clear h11
            obtain ⟨s0, s1, s2, s3⟩ := h11a.four (q := q) (q' := q') (s := xs) (t := ys) (by simp) (by simp)
            have k11a : Hid _ := h11a
            clear h11a
            simp only [objC] at s0 s1 s2 s3 k11a
            go_wp2_with fail
            generalize w11.alloc (Obj.cells #[.int .i64 c.k, .int .i64 c.o, .int .i64 c.r, .int .u64 c.b, .int .u64 c.g, .int .i64 c.z] 33) = v11 at *
            generalize w11.heap.size = qd at *
            have k11 : Hid (Has w r v11 p F S1 [(qd, objC c), (qn, objC no), (qc, objC c), (q, objS xs), (q', objS ys)] [(.slice ao7 A.length cap7, A)]) := k11a
            clear k11a
            refine (move_has ys xs 0 S2 k11.out HFT.out.2 HFT.out.1 HE.out.2.2.2.2.2.2.2.1 HE.out.2.2.2.2.2.2.2.2.1).mono ?_
            rintro e w12 ⟨rfl, h12⟩
            have k12 : Hid (Has w r w12 p F S2 [(qd, objC c), (qn, objC no), (qc, objC c), (q, objS xs), (q', objS ys)] [(.slice ao7 A.length cap7, A)]) := h12
            clear h12 k11 s0 s1 s2 s3
            obtain ⟨a0, a1, a2, a3, a4, a5⟩ := (k12.out.atC (q := qd) (c := c) (by simp)).cells
            obtain ⟨b0, b1, b2, b3, b4, b5⟩ := (k12.out.atC (q := qn) (c := no) (by simp)).cells
            obtain ⟨d0, d1, d2, d3, d4, d5⟩ := (k12.out.atC (q := qc) (c := c) (by simp)).cells
            simp only [no] at b0 b1 b2 b3 b4 b5
            go_wp2_with fail
            refine (held_is A HE.out.2.2.2.2.2.2.2.2.2 k12.out).mono ?_
            rintro e w13 ⟨ao13, cap13, rfl, h13⟩
            have k13 : Hid (Has w r w13 p F S2 [(qd, objC c), (qn, objC no), (qc, objC c), (q, objS xs), (q', objS ys)] [(.slice ao13 A.length cap13, A), (.slice ao7 A.length cap7, A)]) := h13
            clear h13 k12
            go_wp2_with fail
            refine (same_has k13.out (by simp) (by simp) HA.out.2).mono ?_
            rintro e w14 ⟨rfl, h14⟩
            have k14 : Hid _ := h14
            clear h14 k13
            go_wp2_with fail
            refine (fixed_has k14.out).mono ?_
            rintro e w15 ⟨rfl, h15⟩
            have KL : Hid _ := h15
            clear h15 k14
            go_wp2
            go_ret
            exact ⟨rfl, by rw [HR.out]; exact KL.out.low⟩
      · obtain ⟨hk0, rfl⟩ := hge
        have hk1 : ((20 : Nat) : Int) < (X.length : Int) := by omega
        clear hk0 hlt hk
        generalize hXl : X.length = n at *
        clear hXl HX
        obtain ⟨xs, hxs⟩ : ∃ s : Sl, s = ⟨(n1 : Int), (i1 : Int)⟩ := ⟨_, rfl⟩
        obtain ⟨ys, hys⟩ : ∃ s : Sl, s = ⟨(n2 : Int), (i2 : Int)⟩ := ⟨_, rfl⟩
        have T1 : Hid (Has w r ((wr.alloc (objS xs)).alloc (objS ys)).drew p F S [(wr.heap.size, objS xs), (wr.heap.size + 1, objS ys)] []) := mk_one h5h.out xs ys
        have T2 : Hid (Has w r ((wr.alloc (objS ys)).alloc (objS xs)).drew p F S [(wr.heap.size + 1, objS xs), (wr.heap.size, objS ys)] []) := mk_other h5h.out xs ys
        have HXS : Hid (xs = ⟨(n1 : Int), (i1 : Int)⟩ ∧ ys = ⟨(n2 : Int), (i2 : Int)⟩) := ⟨hxs, hys⟩
        have HFT : Hid (xs.Fits ∧ ys.Fits) := by
          have h := HM.out
          rw [hxs, hys]
          exact ⟨fits_nat (by omega) (by omega), fits_nat (by omega) (by omega)⟩
        have HAT : Hid ((∃ c, atS S xs = some c) ∧ ∃ c, atS S ys = some c) := by
          have h := HM.out
          rw [hxs, hys]
          exact ⟨HT.out.at n1 i1 h.1 h.2.1, HT.out.at n2 i2 h.2.2.1 h.2.2.2⟩
        have hS : wr.cell? ⟨r, 0, none⟩ = some (.int .i64 a.n) ∧ wr.cell? ⟨r, 1, none⟩ = some (.int .i64 a.i) ∧ wr.cell? ⟨r + 1, 0, none⟩ = some (.int .i64 b.n) ∧ wr.cell? ⟨r + 1, 1, none⟩ = some (.int .i64 b.i) := h5h.out.four (by simp) (by simp)
        simp only [objS, hxs, hys] at T1 T2
        clear hxs hys
        go_wp2
        go_cut [9, 10] from 45 to 58 (fun u v wx => ∃ q q', u = .pointer (some ⟨q, 0, none⟩) ∧ v = .pointer (some ⟨q', 0, none⟩) ∧ Has w r wx p F S [(q, objS xs), (q', objS ys)] [])
        case first =>
          go_region_held3 (fun W => W.cell? ⟨r, 0, none⟩ = some (.int .i64 a.n) ∧ W.cell? ⟨r, 1, none⟩ = some (.int .i64 a.i) ∧ W.cell? ⟨r + 1, 0, none⟩ = some (.int .i64 b.n) ∧ W.cell? ⟨r + 1, 1, none⟩ = some (.int .i64 b.i)) ((first | assumption | with_reducible exact s_drew hS | with_reducible exact s_drew (s_alloc hS _) | with_reducible exact s_drew (s_alloc (s_alloc hS _) _))) (fail)
          all_goals go_wp2_with fail
          all_goals go_meet
          all_goals first | exact ⟨_, _, rfl, rfl, by have h := HXS.out; rw [h.1, h.2]; exact T1.out⟩ | exact ⟨_, _, rfl, rfl, by have h := HXS.out; rw [h.1, h.2]; exact T2.out⟩
        case rest =>
          obtain ⟨q, q', rfl, rfl, h6⟩ := hcut
          clear T1 T2 hS h5h e1 e2 e3 e4
          have k6 : Hid (Has w r _ p F S [(q, objS xs), (q', objS ys)] []) := h6
          clear h6
          obtain ⟨⟨c, hc⟩, d, hd⟩ := HAT.out
          have HCD : Hid (atS S xs = some c ∧ atS S ys = some d) := ⟨hc, hd⟩
          clear hc hd HAT
          obtain ⟨A, HA⟩ : ∃ A, Hid (held S = A ∧ A.length ≤ 1000000) := ⟨_, rfl, Nat.le_trans (held_le HT.out.ok) (by decide)⟩
          go_wp2_with fail
          refine (held_is A HA.out.1 k6.out).mono ?_
          rintro e w7 ⟨ao7, cap7, rfl, h7⟩
          have k7 : Hid (Has w r w7 p F S [(q, objS xs), (q', objS ys)] [(.slice ao7 A.length cap7, A)]) := h7
          clear h7 k6
          obtain ⟨s0, s1, _, _⟩ := k7.out.four (q := q) (q' := q') (s := xs) (t := ys) (by simp) (by simp)
          go_wp2_with fail
          refine (get_has xs c 0 k7.out HFT.out.1 (getC_at HCD.out.1) (by unfold getE; rw [HCD.out.1]; rfl)).mono ?_
          rintro e w8 ⟨he, h8⟩
          obtain rfl : e = .returned (.tuple #[.agg #[.int .i64 c.k, .int .i64 c.o, .int .i64 c.r, .int .u64 c.b, .int .u64 c.g, .int .i64 c.z], .int .i64 0]) := he
          clear s0 s1
          have h8a : Has w r (w8.alloc (objC c)) p F S [(w8.heap.size, objC c), (q, objS xs), (q', objS ys)] [(.slice ao7 A.length cap7, A)] := h8.alloc (objC c)
          clear h8 k7
          obtain ⟨s0, s1, s2, s3⟩ := h8a.four (q := q) (q' := q') (s := xs) (t := ys) (by simp) (by simp)
          have k8a : Hid _ := h8a
          clear h8a
          simp only [objC] at s0 s1 s2 s3 k8a
          go_wp2_with fail
          generalize w8.alloc (Obj.cells #[.int .i64 c.k, .int .i64 c.o, .int .i64 c.r, .int .u64 c.b, .int .u64 c.g, .int .i64 c.z] 33) = v8 at *
          generalize w8.heap.size = qc at *
          have k8 : Hid (Has w r v8 p F S [(qc, objC c), (q, objS xs), (q', objS ys)] [(.slice ao7 A.length cap7, A)]) := k8a
          clear k8a
          rcases move_two HT.out.ok HCD.out.1 HCD.out.2 with hm | ⟨S1, S2, hm⟩
          
          · have HE : Hid (moveE S xs ys ≠ 0 ∧ moveS S xs ys = S) := hm
            clear hm
            obtain ⟨m, HMm⟩ : ∃ m, Hid (moveE S xs ys = m ∧ m ≠ 0) := ⟨_, rfl, HE.out.1⟩
            refine (move_has xs ys m S k8.out HFT.out.1 HFT.out.2 HMm.out.1 HE.out.2).mono ?_
            rintro e w9 ⟨rfl, h9⟩
            have k9 : Hid (Has w r w9 p F S [(qc, objC c), (q, objS xs), (q', objS ys)] [(.slice ao7 A.length cap7, A)]) := h9
            clear h9 k8 s0 s1 s2 s3
            have hm0 : (m != 0) = true := by simp [HMm.out.2]
            go_wp2_with fail
            refine (held_is A HA.out.1 k9.out).mono ?_
            rintro e w10 ⟨ao10, cap10, rfl, h10⟩
            have k10 : Hid (Has w r w10 p F S [(qc, objC c), (q, objS xs), (q', objS ys)] [(.slice ao10 A.length cap10, A), (.slice ao7 A.length cap7, A)]) := h10
            clear h10 k9
            go_wp2_with fail
            refine (same_has k10.out (by simp) (by simp) HA.out.2).mono ?_
            rintro e w11 ⟨rfl, h11⟩
            have k11 : Hid _ := h11
            clear h11 k10
            go_wp2_with fail
            refine (fixed_has k11.out).mono ?_
            rintro e w12 ⟨rfl, h12⟩
            have KL : Hid _ := h12
            clear h12 k11
            go_wp2
            go_ret
            exact ⟨rfl, by rw [HR.out]; exact KL.out.low⟩
          · have HE : Hid (moveE S xs ys = 0 ∧ moveS S xs ys = S1 ∧ c.k ≠ 0 ∧ getC S1 xs = no ∧ getE S1 xs = 0 ∧ getC S1 ys = c ∧ getE S1 ys = 0 ∧ moveE S1 ys xs = 0 ∧ moveS S1 ys xs = S2 ∧ held S2 = A) := by
              obtain ⟨g1, g2, g3, g4, g5, g6, g7, g8, g9, g10⟩ := hm
              exact ⟨g1, g2, g3, g4, g5, g6, g7, g8, g9, g10.trans HA.out.1⟩
            clear hm
            have HQ1 : ∀ W, (Op.equalIn 10000 33 (.agg #[.int .i64 0, .int .i64 0, .int .i64 0, .int .u64 0, .int .u64 0, .int .i64 0]) (.agg #[.int .i64 0, .int .i64 0, .int .i64 0, .int .u64 0, .int .u64 0, .int .i64 0])).run Try.prog W = .ok true W := fun W => by
              have h := eq_caps W no no
              simpa [no] using h
            have HQ2 : ∀ W, (Op.equalIn 10000 33 (.agg #[.int .i64 c.k, .int .i64 c.o, .int .i64 c.r, .int .u64 c.b, .int .u64 c.g, .int .i64 c.z]) (.agg #[.int .i64 c.k, .int .i64 c.o, .int .i64 c.r, .int .u64 c.b, .int .u64 c.g, .int .i64 c.z])).run Try.prog W = .ok true W := fun W => by
              have h := eq_caps W c c
              simpa using h
            have hck : (c.k != 0) = true := by simp [HE.out.2.2.1]
            refine (move_has xs ys 0 S1 k8.out HFT.out.1 HFT.out.2 HE.out.1 HE.out.2.1).mono ?_
            rintro e w9 ⟨rfl, h9⟩
            have k9 : Hid (Has w r w9 p F S1 [(qc, objC c), (q, objS xs), (q', objS ys)] [(.slice ao7 A.length cap7, A)]) := h9
            clear h9 k8 s0 s1 s2 s3
            obtain ⟨s0, s1, _, _⟩ := k9.out.four (q := q) (q' := q') (s := xs) (t := ys) (by simp) (by simp)
            go_wp2_with fail
            refine (get_has xs no 0 k9.out HFT.out.1 HE.out.2.2.2.1 HE.out.2.2.2.2.1).mono ?_
            rintro e w10 ⟨he, h10⟩
            obtain rfl : e = .returned (.tuple #[.agg #[.int .i64 0, .int .i64 0, .int .i64 0, .int .u64 0, .int .u64 0, .int .i64 0], .int .i64 0]) := he
            clear s0 s1 k9
            have h10a : Has w r (w10.alloc (objC no)) p F S1 [(w10.heap.size, objC no), (qc, objC c), (q, objS xs), (q', objS ys)] [(.slice ao7 A.length cap7, A)] := h10.alloc (objC no)
            clear h10
            obtain ⟨_, _, s2, s3⟩ := h10a.four (q := q) (q' := q') (s := xs) (t := ys) (by simp) (by simp)
            have k10a : Hid _ := h10a
            clear h10a
            simp only [objC, no] at s2 s3 k10a
            go_wp2_with fail
            generalize w10.alloc (Obj.cells #[.int .i64 0, .int .i64 0, .int .i64 0, .int .u64 0, .int .u64 0, .int .i64 0] 33) = v10 at *
            generalize w10.heap.size = qn at *
            have k10 : Hid (Has w r v10 p F S1 [(qn, objC no), (qc, objC c), (q, objS xs), (q', objS ys)] [(.slice ao7 A.length cap7, A)]) := k10a
            clear k10a
            refine (get_has ys c 0 k10.out HFT.out.2 HE.out.2.2.2.2.2.1 HE.out.2.2.2.2.2.2.1).mono ?_
            rintro e w11 ⟨he, h11⟩
            obtain rfl : e = .returned (.tuple #[.agg #[.int .i64 c.k, .int .i64 c.o, .int .i64 c.r, .int .u64 c.b, .int .u64 c.g, .int .i64 c.z], .int .i64 0]) := he
            clear s2 s3 k10
            have h11a : Has w r (w11.alloc (objC c)) p F S1 [(w11.heap.size, objC c), (qn, objC no), (qc, objC c), (q, objS xs), (q', objS ys)] [(.slice ao7 A.length cap7, A)] := h11.alloc (objC c)
            clear h11
            obtain ⟨s0, s1, s2, s3⟩ := h11a.four (q := q) (q' := q') (s := xs) (t := ys) (by simp) (by simp)
            have k11a : Hid _ := h11a
            clear h11a
            simp only [objC] at s0 s1 s2 s3 k11a
            go_wp2_with fail
            generalize w11.alloc (Obj.cells #[.int .i64 c.k, .int .i64 c.o, .int .i64 c.r, .int .u64 c.b, .int .u64 c.g, .int .i64 c.z] 33) = v11 at *
            generalize w11.heap.size = qd at *
            have k11 : Hid (Has w r v11 p F S1 [(qd, objC c), (qn, objC no), (qc, objC c), (q, objS xs), (q', objS ys)] [(.slice ao7 A.length cap7, A)]) := k11a
            clear k11a
            refine (move_has ys xs 0 S2 k11.out HFT.out.2 HFT.out.1 HE.out.2.2.2.2.2.2.2.1 HE.out.2.2.2.2.2.2.2.2.1).mono ?_
            rintro e w12 ⟨rfl, h12⟩
            have k12 : Hid (Has w r w12 p F S2 [(qd, objC c), (qn, objC no), (qc, objC c), (q, objS xs), (q', objS ys)] [(.slice ao7 A.length cap7, A)]) := h12
            clear h12 k11 s0 s1 s2 s3
            obtain ⟨a0, a1, a2, a3, a4, a5⟩ := (k12.out.atC (q := qd) (c := c) (by simp)).cells
            obtain ⟨b0, b1, b2, b3, b4, b5⟩ := (k12.out.atC (q := qn) (c := no) (by simp)).cells
            obtain ⟨d0, d1, d2, d3, d4, d5⟩ := (k12.out.atC (q := qc) (c := c) (by simp)).cells
            simp only [no] at b0 b1 b2 b3 b4 b5
            go_wp2_with fail
            refine (held_is A HE.out.2.2.2.2.2.2.2.2.2 k12.out).mono ?_
            rintro e w13 ⟨ao13, cap13, rfl, h13⟩
            have k13 : Hid (Has w r w13 p F S2 [(qd, objC c), (qn, objC no), (qc, objC c), (q, objS xs), (q', objS ys)] [(.slice ao13 A.length cap13, A), (.slice ao7 A.length cap7, A)]) := h13
            clear h13 k12
            go_wp2_with fail
            refine (same_has k13.out (by simp) (by simp) HA.out.2).mono ?_
            rintro e w14 ⟨rfl, h14⟩
            have k14 : Hid _ := h14
            clear h14 k13
            go_wp2_with fail
            refine (fixed_has k14.out).mono ?_
            rintro e w15 ⟨rfl, h15⟩
            have KL : Hid _ := h15
            clear h15 k14
            go_wp2
            go_ret
            exact ⟨rfl, by rw [HR.out]; exact KL.out.low⟩
end
open Go.ChangeShapes Go.WideShapes Go.ChangeAt Go.RowKit Go.Joins

/-! ### From the walk to the statement -/
set_option maxRecDepth 100000 in
theorem lifted (os : Os) (started : os.Started) (H : Type) (enc : TypeId × Value → H) :
    ReturnsInHanded {} Try.checked os 7 .any (Rows.slotsMovesSpec.pre6 enc Try.prog Try.f7 Rows.slotsMovesRow.domain false) (Rows.slotsMovesSpec.post enc Try.prog Try.f7 false true false false) := by
  have dCp : DecidableEq Cp := fun a b => Classical.propDecidable (a = b)
  have dLim : ∀ k, Decidable (Lim k) := fun k => Classical.propDecidable (Lim k)
  have dBad : ∀ k, Decidable (Bad k) := fun k => Classical.propDecidable (Bad k)
  have dFit : ∀ g z, Decidable (Fit g z) := fun g z => Classical.propDecidable (Fit g z)
  have dFine : ∀ c, Decidable (Fine c) := fun c => Classical.propDecidable (Fine c)
  have dMint : ∀ c v, Decidable (MintR c v) := fun c v => Classical.propDecidable (MintR c v)
  have dWho : ∀ x y, Decidable (Whose x y) := fun x y => Classical.propDecidable (Whose x y)
  have dSl : DecidableEq Sl := fun a b => Classical.propDecidable (a = b)
  have dLt : ∀ a b, Decidable (ltS a b) := fun a b => Classical.propDecidable (ltS a b)
  have iSl : Inhabited Sl := ⟨⟨0, 0⟩⟩
  have iCp : Inhabited Cp := ⟨no⟩
  refine returnsInHanded_of_change (C := Try.checked) own started (by kernel_rfl) Try.func7
    (ChangeSpec.witness6 (enc := enc) (C := Try.checked) false ⟨#[], #[.slice none 0 0, .agg #[.int .i64 0, .int .i64 0], .agg #[.int .i64 0, .int .i64 0]], []⟩ 8 (by kernel_rfl) (by kernel_rfl) (by kernel_rfl) (by kernel_rfl)) ?_
  intro W base args ds gs before hval0 hW hcnd _
  have hval : ∀ (j : Nat) t v, Try.f7.params[j]? = some t → args[j]? = some v → Value.okWide Try.prog W .any base t v := hval0
  have hW' := hW
  obtain ⟨p, q, hA0, hV, rfl, hfz, hnd⟩ := hW
  have hA : DataW.TrodAll enc Try.prog W 0 (fun _ => true) true Try.f7.params.toList args.toList ds p := hA0
  rw [Try.params7] at hA hval
  obtain ⟨v0, vs0, d0, ds0, p0, q0, hargs, rfl, rfl, h0, r0⟩ := trodAll_cons hA
  obtain ⟨v1, vs1, d1, ds1, p1, q1, rfl, rfl, rfl, h1, r1⟩ := trodAll_cons r0
  obtain ⟨v2, vs2, d2, ds2, p2, q2, rfl, rfl, rfl, h2, r2⟩ := trodAll_cons r1
  obtain ⟨rfl, rfl, rfl⟩ := trodAll_nil r2
  obtain rfl : args = #[v0, v1, v2] := by cases args; simp_all
  obtain ⟨rfl, rfl⟩ := trodVars_none hV
  have k0 := h0
  have lt0 : ∀ x ∈ p0, x.block < W.heap.size := by obtain ⟨m, hm⟩ := k0; exact DataW.trod_lt m _ _ _ hm
  obtain ⟨a0, l0, c0, rfl, t0, s0⟩ := open_ops (hval 0 22 v0 rfl rfl) h0
  have k1 := h1
  have lt1 : ∀ x ∈ p1, x.block < W.heap.size := by obtain ⟨m, hm⟩ := k1; exact DataW.trod_lt m _ _ _ hm
  obtain ⟨a1, rfl, w1⟩ := open_slot (hval 1 30 v1 rfl rfl) h1
  have k2 := h2
  have lt2 : ∀ x ∈ p2, x.block < W.heap.size := by obtain ⟨m, hm⟩ := k2; exact DataW.trod_lt m _ _ _ hm
  obtain ⟨a2, rfl, w2⟩ := open_slot (hval 2 30 v2 rfl rfl) h2
  clear hA0 hval0
  refine (walk a0 l0 c0 a1 a2 W t0 s0 w1 w2).mono fun e W' ⟨he, bel⟩ => ?_
  subst he
  exact ⟨_, rfl, _, _, _, [], _, [], hW', trodAll_mk1 (shut_bool Try.underlying4 _), (trodAll_cons_mk (Below.trod laidOut (by kernel_rfl) (of_decide_eq_true (by kernel_rfl)) k0 bel lt0) (trodAll_cons_mk (Below.trod laidOut (by kernel_rfl) (of_decide_eq_true (by kernel_rfl)) k1 bel lt1) (trodAll_cons_mk (Below.trod laidOut (by kernel_rfl) (of_decide_eq_true (by kernel_rfl)) k2 bel lt2) trodAll_mk0))), rfl, bel.frame _, fun h => by cases h⟩
theorem over : Rows.slotsMovesRow.holds Try.pinned (OpenSpec.ofChange Rows.slotsMovesSpec) :=
  OpenClaim.holds_of_wide 7 Try.f7 rfl rfl rfl rfl rfl rfl rfl ⟨rfl, rfl, rfl, rfl, rfl⟩ rfl rfl rfl rfl rfl (by kernel_rfl) Try.func7 (by kernel_rfl)
    (of_decide_eq_true (by kernel_rfl)) (by unfold Func.isWrapper; first | (rw [if_pos (by decide +kernel)]; kernel_rfl) | (rw [if_neg (by decide +kernel)]; exact ⟨rfl, rfl⟩))
    (fun os started H enc _ => lifted os started H enc)
end Go.Proofs.Ytkpoppgibempbaa.slotsMoves
namespace Go.Proofs.Ytkpoppgibempbaa
/-- THE STATEMENT. -/
theorem slotsMoves_said : Rows.SlotsMovesSaid := slotsMoves.over
#print axioms slotsMoves_said
end Go.Proofs.Ytkpoppgibempbaa

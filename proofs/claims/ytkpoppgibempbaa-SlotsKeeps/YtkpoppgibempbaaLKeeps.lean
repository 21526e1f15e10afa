/-
  SlotsKeeps answers true for every input, and leaves it; no condition of ours.
-/
import Derived.Test.YtkpoppgibempbaaNLaw
import Derived.Deep.Cut
import Derived.Deep.CutRange
namespace Go.Proofs.Ytkpoppgibempbaa.slotsKeeps
open Go.RowKit Go.Deep Go.MapKept Go.Maps
set_option linter.unusedSectionVars false
section
variable [dCp : DecidableEq Cp] [dLim : ∀ k, Decidable (Lim k)] [dBad : ∀ k, Decidable (Bad k)] [dFit : ∀ g z, Decidable (Fit g z)] [dFine : ∀ c, Decidable (Fine c)] [dMint : ∀ c v, Decidable (MintR c v)] [dWho : ∀ x y, Decidable (Whose x y)] [dSl : DecidableEq Sl] [dLt : ∀ a b, Decidable (ltS a b)] [iSl : Inhabited Sl] [iCp : Inhabited Cp]
theorem one_k {c : Cp} : one c = if c.k = 0 then 0 else 1 := rfl
theorem put_len (S : St) (s : Sl) (c : Cp) : (held (putS S s c)).length = (held S).length + if putE S s c = 0 then 1 else 0 := by
  by_cases h : putE S s c = 0
  · unfold putS
    rw [if_pos h, if_pos h]
    unfold putE at h
    split at h
    · cases h
    · rename_i d hd
      split at h
      · split at h
        · cases h
        · rename_i hk
          split at h
          · rename_i hz
            have := held_set hd c
            unfold one at this
            rw [if_pos hz, if_neg hk] at this
            omega
          · cases h
      · cases h
  · unfold putS
    rw [if_neg h, if_neg h]
    rfl
theorem take_len (S : St) (s : Sl) : (held (takeS S s)).length + (if takeE S s = 0 then 1 else 0) = (held S).length := by
  by_cases h : takeE S s = 0
  · unfold takeS
    rw [if_pos h, if_pos h]
    unfold takeE at h
    split at h
    · cases h
    · rename_i d hd
      split at h
      · cases h
      · rename_i hk
        have := held_set hd no
        unfold one at this
        rw [if_neg hk, if_pos (show no.k = 0 from rfl)] at this
        omega
  · unfold takeS
    rw [if_neg h, if_neg h]
    rfl
theorem take_get {S : St} (ok : Okay S) (s : Sl) : takeC S s = getC S s := by
  unfold takeC
  by_cases h : takeE S s = 0
  · rw [if_pos h]
  · rw [if_neg h]
    unfold takeE at h
    unfold getC
    cases hd : atS S s with
    | none => rfl
    | some d =>
      rw [hd] at h
      have hk : d.k = 0 := Decidable.byContradiction fun e => h (if_neg e)
      exact ((ok.at hd).2 hk).symm
theorem move_len (S : St) (s t : Sl) : (held (moveS S s t)).length = (held S).length ∧ (moveE S s t = 0 → getC (moveS S s t) t = getC S s) := by
  by_cases h : moveE S s t = 0
  · have hm := h
    unfold moveE at hm
    split at hm
    · rename_i c d hs ht
      split at hm
      · cases hm
      · rename_i hc
        split at hm
        · rename_i hd
          have hne : s ≠ t := fun e => by
            subst e
            rw [hs] at ht
            cases ht
            exact hc hd
          have gs := getC_at hs
          have a1 : atS (setS S t c) s = some c := by rw [atS_set ht, if_neg hne]; exact hs
          have l1 := held_set ht c
          have l2 := held_set a1 no
          unfold one at l1 l2
          rw [if_pos hd, if_neg hc] at l1
          rw [if_neg hc, if_pos (show no.k = 0 from rfl)] at l2
          have e : moveS S s t = setS (setS S t c) s no := by unfold moveS; rw [if_pos h, gs]
          refine ⟨by rw [e]; omega, fun _ => ?_⟩
          rw [e, gs]
          exact getC_at (by rw [atS_set a1, if_neg (Ne.symm hne), atS_set ht, if_pos rfl])
        · cases hm
    · cases hm
  · have e : moveS S s t = S := by unfold moveS; rw [if_neg h]
    exact ⟨by rw [e], fun h' => absurd h' h⟩
theorem swap_len (S : St) (s t : Sl) : (held (swapS S s t)).length = (held S).length ∧ (swapE S s t = 0 → getC (swapS S s t) s = getC S t ∧ getC (swapS S s t) t = getC S s) := by
  by_cases h : swapE S s t = 0
  · have hm : (atS S s).isSome ∧ (atS S t).isSome := Classical.byContradiction fun hn => by
      unfold swapE at h
      rw [if_neg hn] at h
      cases h
    obtain ⟨c, hc⟩ := Option.isSome_iff_exists.1 hm.1
    obtain ⟨d, hd⟩ := Option.isSome_iff_exists.1 hm.2
    have a2 : ∃ x, atS (setS S s d) t = some x ∧ one x + one d = one d + one d ∨ False := by
      by_cases e : t = s
      · exact ⟨d, .inl ⟨by rw [atS_set hc, if_pos e], rfl⟩⟩
      · exact ⟨d, .inl ⟨by rw [atS_set hc, if_neg e]; exact hd, rfl⟩⟩
    obtain ⟨x, hx | hx⟩ := a2
    · have hxd : one x = one d := by omega
      have l1 := held_set hc d
      have l2 := held_set hx.1 c
      have e : swapS S s t = setS (setS S s d) t c := by unfold swapS; rw [if_pos h, getC_at hc, getC_at hd]
      have g1 : atS (swapS S s t) t = some c := by rw [at_swap hc hd, if_pos rfl]
      refine ⟨by rw [e]; omega, fun _ => ⟨?_, by rw [getC_at g1, getC_at hc]⟩⟩
      by_cases e1 : s = t
      · rw [e1] at hc ⊢
        rw [hc] at hd
        cases hd
        rw [getC_at hc]
        exact getC_at (by rw [at_swap hc hc, if_pos rfl])
      · rw [getC_at hd]
        exact getC_at (by rw [at_swap hc hd, if_neg e1, if_pos rfl])
    · exact hx.elim
  · have e : swapS S s t = S := by unfold swapS; rw [if_neg h]
    exact ⟨by rw [e], fun h' => absurd h' h⟩
theorem make_len (S : St) (b : Int) : (held (makeS S b)).length = (held S).length := by
  unfold makeS
  split
  · rw [held_congr fun s => hold_app S _ s]
  · rfl
theorem drop_len (S : St) (n : Int) : (held (dropS S n)).length = (held S).length := by
  unfold dropS
  split
  · rename_i h
    have h0 : 0 ≤ n := Decidable.byContradiction fun hn => by
      unfold dropE nodeS at h
      rw [if_neg hn] at h
      simp at h
    obtain ⟨j, rfl⟩ := Int.eq_ofNat_of_zero_le h0
    unfold dropE at h
    rw [nodeS_nat] at h
    split at h
    · cases h
    · split at h
      · cases h
      · rename_i hf
        rw [Int.toNat_natCast, held_congr fun s => hold_drop (fun c hc => Decidable.byContradiction fun hk => hf ⟨c, hc, hk⟩) s]
  · rfl
def objO (x : Oc) : Obj := .cells #[.int .i64 x.k, .int .i64 x.n, .int .i64 x.a.n, .int .i64 x.a.i, .int .i64 x.b.n, .int .i64 x.b.i, .int .i64 x.c.k, .int .i64 x.c.o, .int .i64 x.c.r, .int .u64 x.c.b, .int .u64 x.c.g, .int .i64 x.c.z] 35
theorem opcells {w : World} {q : Nat} {x : Oc} (h : w.heap[q]? = some (objO x)) : w.cell? ⟨q, 0, none⟩ = some (.int .i64 x.k) ∧ w.cell? ⟨q, 1, none⟩ = some (.int .i64 x.n) ∧ w.cell? ⟨q, 2, none⟩ = some (.int .i64 x.a.n) ∧ w.cell? ⟨q, 3, none⟩ = some (.int .i64 x.a.i) ∧ w.cell? ⟨q, 4, none⟩ = some (.int .i64 x.b.n) ∧ w.cell? ⟨q, 5, none⟩ = some (.int .i64 x.b.i) ∧ w.cell? ⟨q, 6, none⟩ = some (.int .i64 x.c.k) ∧ w.cell? ⟨q, 7, none⟩ = some (.int .i64 x.c.o) ∧ w.cell? ⟨q, 8, none⟩ = some (.int .i64 x.c.r) ∧ w.cell? ⟨q, 9, none⟩ = some (.int .u64 x.c.b) ∧ w.cell? ⟨q, 10, none⟩ = some (.int .u64 x.c.g) ∧ w.cell? ⟨q, 11, none⟩ = some (.int .i64 x.c.z) := by
  unfold objO at h
  refine ⟨?_, ?_, ?_, ?_, ?_, ?_, ?_, ?_, ?_, ?_, ?_, ?_⟩ <;> simp [World.cell?, h]
set_option maxHeartbeats 8000000 in
set_option maxRecDepth 100000 in
theorem walk (ao : Option Addr) (X : List Oc) (cap : Nat) (w : World) (hX : Script w ao X) (hl : X.length ≤ 9223372036854775807) :
    Calls Try.prog 5 #[.slice ao X.length cap] w fun e w' => e = .returned (.bool true) ∧ Below w.heap.size w w' := by
  have HX : Hid (Script w ao X ∧ X.length ≤ 9223372036854775807) := ⟨hX, hl⟩
  obtain ⟨r, HR⟩ : ∃ r, Hid (w.heap.size = r) := ⟨_, rfl⟩
  clear hX hl
  go_enter Try.func5, Try.ntmps5
  go_wp2_with fail
  refine (new_any w).mono ?_
  rintro e w1 ⟨p, F, rfl, nn, oo, bb⟩
  have h1 : Hid (Has w r w1 p F [] [] []) := Has.started nn bb oo HR.out
  clear nn oo bb
  go_wp2
  go_loopw [4, 5] (fun h i wr => ∃ (k : Nat) (S : St) (G : Nat → Prop), k ≤ 80 ∧ i = .int .i64 k ∧ h = .int .i64 ((held S).length : Nat) ∧ Has w r wr p G S [] []) (fun _ i _ => 80 - (intOf i).toNat)
  case atStart => exact ⟨0, [], F, by omega, rfl, rfl, h1.out⟩
  case round =>
    obtain ⟨k, S, G, hk, rfl, rfl, hh⟩ := hrel
    have k0 : Hid (Has w r wr p G S [] []) := hh
    clear hh h1
    have HNle : Hid ((held S).length ≤ 16384) := held_le k0.out.nds.ok
    obtain ⟨n, HN⟩ : ∃ n, Hid ((held S).length = n) := ⟨_, rfl⟩
    rw [HN.out]
    have hn1 : (n : Int) ≤ 16384 := by have := HNle.out; have := HN.out; omega
    by_cases hlt : k < X.length ∧ k < 80
    · obtain ⟨x, hx⟩ : ∃ x, X[k]? = some x := ⟨_, List.getElem?_eq_getElem hlt.1⟩
      obtain ⟨fx, b0, o0, rfl, hb, hcell⟩ := HX.out.1 k x hx
      have hc : ∀ j, j < 12 → wr.cell? ⟨b0, o0 + k * 12 + j, none⟩ = some ((encO x)[j]!) := fun j hj => (k0.out.low.cell (p := ⟨b0, o0 + k * 12 + j, none⟩) (by rw [← HR.out]; exact hb)).trans (hcell j hj)
      have x0 := hc 0 (by omega)
      have x1 := hc 1 (by omega)
      have x2 := hc 2 (by omega)
      have x3 := hc 3 (by omega)
      have x4 := hc 4 (by omega)
      have x5 := hc 5 (by omega)
      have x6 := hc 6 (by omega)
      have x7 := hc 7 (by omega)
      have x8 := hc 8 (by omega)
      have x9 := hc 9 (by omega)
      have x10 := hc 10 (by omega)
      have x11 := hc 11 (by omega)
      simp only [encO, Nat.add_zero] at x0 x1 x2 x3 x4 x5 x6 x7 x8 x9 x10 x11
      have y0 : wr.cell? ⟨b0, o0 + k * 12, none⟩ = some (.int .i64 x.k) := x0
      have y1 : wr.cell? ⟨b0, o0 + k * 12 + 1, none⟩ = some (.int .i64 x.n) := x1
      have y2 : wr.cell? ⟨b0, o0 + k * 12 + 2, none⟩ = some (.int .i64 x.a.n) := x2
      have y3 : wr.cell? ⟨b0, o0 + k * 12 + 3, none⟩ = some (.int .i64 x.a.i) := x3
      have y4 : wr.cell? ⟨b0, o0 + k * 12 + 4, none⟩ = some (.int .i64 x.b.n) := x4
      have y5 : wr.cell? ⟨b0, o0 + k * 12 + 5, none⟩ = some (.int .i64 x.b.i) := x5
      have y6 : wr.cell? ⟨b0, o0 + k * 12 + 6, none⟩ = some (.int .i64 x.c.k) := x6
      have y7 : wr.cell? ⟨b0, o0 + k * 12 + 7, none⟩ = some (.int .i64 x.c.o) := x7
      have y8 : wr.cell? ⟨b0, o0 + k * 12 + 8, none⟩ = some (.int .i64 x.c.r) := x8
      have y9 : wr.cell? ⟨b0, o0 + k * 12 + 9, none⟩ = some (.int .u64 x.c.b) := x9
      have y10 : wr.cell? ⟨b0, o0 + k * 12 + 10, none⟩ = some (.int .u64 x.c.g) := x10
      have y11 : wr.cell? ⟨b0, o0 + k * 12 + 11, none⟩ = some (.int .i64 x.c.z) := x11
      clear x0 x1 x2 x3 x4 x5 x6 x7 x8 x9 x10 x11
      have HFt : Hid (x.Fits) := fx
      have hk1 : (k : Int) < (X.length : Int) := by omega
      have hk2 : (k : Int) < 80 := by omega
      have HK : Hid (k < 80) := hlt.2
      have g2 : Has w r (wr.alloc (objO x)) p G S [(wr.heap.size, objO x)] [] := k0.out.alloc (objO x)
      have j2 : Hid _ := g2
      clear hlt hx hb fx hc hcell g2 k0 hk
      generalize hXl : X.length = xl at *
      clear hXl
      simp only [objO] at j2
      have HQC : ∀ W (c : Cp), (Op.equalIn 10000 33 (.agg #[.int .i64 c.k, .int .i64 c.o, .int .i64 c.r, .int .u64 c.b, .int .u64 c.g, .int .i64 c.z]) (.agg #[.int .i64 c.k, .int .i64 c.o, .int .i64 c.r, .int .u64 c.b, .int .u64 c.g, .int .i64 c.z])).run Try.prog W = .ok true W := fun W c => by
        have h := eq_caps W c c
        simpa using h
      by_cases hx0 : x.k = 0
      · have hkk : (x.k == 0) = true := by simp [hx0]
        clear hx0
        obtain ⟨o0, o1, o2, o3, o4, o5, o6, o7, o8, o9, o10, o11⟩ := opcells (j2.out.blk (wr.heap.size, objO x) (by simp [objO])).1
        go_wp2_with fail
        generalize wr.alloc (Obj.cells #[.int .i64 x.k, .int .i64 x.n, .int .i64 x.a.n, .int .i64 x.a.i, .int .i64 x.b.n, .int .i64 x.b.i, .int .i64 x.c.k, .int .i64 x.c.o, .int .i64 x.c.r, .int .u64 x.c.b, .int .u64 x.c.g, .int .i64 x.c.z] 35) = v2 at *
        generalize wr.heap.size = q at *
        have k2 : Hid (Has w r v2 p G S [(q, objO x)] []) := j2
        clear j2 y0 y1 y2 y3 y4 y5 y6 y7 y8 y9 y10 y11
        refine (make_has x.n _ _ _ k2.out rfl rfl rfl).mono ?_
        rintro e w21 ⟨rfl, G21, h21⟩
        have k21 : Hid (Has w r w21 p G21 (makeS S x.n) [(q, objO x)] []) := h21
        clear h21 k2 o0 o1 o2 o3 o4 o5 o6 o7 o8 o9 o10 o11
        obtain ⟨A, HA⟩ : ∃ A, Hid (held (makeS S x.n) = A ∧ (A.length : Int) = (n : Int)) := ⟨_, rfl, by rw [make_len, HN.out]⟩
        have hq0 : ((A.length : Int) != (n : Int)) = false := by rw [HA.out.2]; simp
        go_wp2_with fail
        refine (held_is A HA.out.1 k21.out).mono ?_
        rintro e w22 ⟨ao22, cap22, rfl, h22⟩
        have KE : Hid (Has w r w22 p G21 (makeS S x.n) [] []) := h22.fewer (fun b hb => by cases hb) fun b hb => by cases hb
        clear h22 k21 
        go_wp2
        go_roundw
        case rel => exact ⟨k + 1, _, _, HK.out, by go_num, by rw [HA.out.1, HA.out.2], KE.out⟩
        case measure => simp [intOf]; have := HK.out; omega
      by_cases hx1 : x.k = 1
      · have hkk : (x.k == 1) = true := by simp [hx1]
        have hkn0 : (x.k == 0) = false := by simp [hx1]
        clear hx1
        obtain ⟨o0, o1, o2, o3, o4, o5, o6, o7, o8, o9, o10, o11⟩ := opcells (j2.out.blk (wr.heap.size, objO x) (by simp [objO])).1
        go_wp2_with fail
        generalize wr.alloc (Obj.cells #[.int .i64 x.k, .int .i64 x.n, .int .i64 x.a.n, .int .i64 x.a.i, .int .i64 x.b.n, .int .i64 x.b.i, .int .i64 x.c.k, .int .i64 x.c.o, .int .i64 x.c.r, .int .u64 x.c.b, .int .u64 x.c.g, .int .i64 x.c.z] 35) = v2 at *
        generalize wr.heap.size = q at *
        have k2 : Hid (Has w r v2 p G S [(q, objO x)] []) := j2
        clear j2 y0 y1 y2 y3 y4 y5 y6 y7 y8 y9 y10 y11
        refine (drop_has x.n _ _ k2.out rfl rfl).mono ?_
        rintro e w21 ⟨rfl, h21⟩
        have k21 : Hid (Has w r w21 p G (dropS S x.n) [(q, objO x)] []) := h21
        clear h21 k2 o0 o1 o2 o3 o4 o5 o6 o7 o8 o9 o10 o11
        obtain ⟨A, HA⟩ : ∃ A, Hid (held (dropS S x.n) = A ∧ (A.length : Int) = (n : Int)) := ⟨_, rfl, by rw [drop_len, HN.out]⟩
        have hq0 : ((A.length : Int) != (n : Int)) = false := by rw [HA.out.2]; simp
        go_wp2_with fail
        refine (held_is A HA.out.1 k21.out).mono ?_
        rintro e w22 ⟨ao22, cap22, rfl, h22⟩
        have KE : Hid (Has w r w22 p G (dropS S x.n) [] []) := h22.fewer (fun b hb => by cases hb) fun b hb => by cases hb
        clear h22 k21 
        go_wp2
        go_roundw
        case rel => exact ⟨k + 1, _, _, HK.out, by go_num, by rw [HA.out.1, HA.out.2], KE.out⟩
        case measure => simp [intOf]; have := HK.out; omega
      by_cases hx2 : x.k = 2
      · have hkk : (x.k == 2) = true := by simp [hx2]
        have hkn0 : (x.k == 0) = false := by simp [hx2]
        have hkn1 : (x.k == 1) = false := by simp [hx2]
        clear hx2
        obtain ⟨o0, o1, o2, o3, o4, o5, o6, o7, o8, o9, o10, o11⟩ := opcells (j2.out.blk (wr.heap.size, objO x) (by simp [objO])).1
        go_wp2_with fail
        generalize wr.alloc (Obj.cells #[.int .i64 x.k, .int .i64 x.n, .int .i64 x.a.n, .int .i64 x.a.i, .int .i64 x.b.n, .int .i64 x.b.i, .int .i64 x.c.k, .int .i64 x.c.o, .int .i64 x.c.r, .int .u64 x.c.b, .int .u64 x.c.g, .int .i64 x.c.z] 35) = v2 at *
        generalize wr.heap.size = q at *
        have k2 : Hid (Has w r v2 p G S [(q, objO x)] []) := j2
        clear j2 y0 y1 y2 y3 y4 y5 y6 y7 y8 y9 y10 y11
        obtain ⟨pe, HP⟩ : ∃ pe, Hid (putE S x.a x.c = pe) := ⟨_, rfl⟩
        refine (put_has x.a x.c pe _ k2.out HFt.out.a HFt.out.c HP.out rfl).mono ?_
        rintro e w21 ⟨rfl, h21⟩
        have k21 : Hid (Has w r w21 p G (putS S x.a x.c) [(q, objO x)] []) := h21
        clear h21 k2 o0 o1 o2 o3 o4 o5 o6 o7 o8 o9 o10 o11
        by_cases hpe : pe = 0
        · subst hpe
          obtain ⟨A, HA⟩ : ∃ A, Hid (held (putS S x.a x.c) = A ∧ (A.length : Int) = ((n : Int) + 1)) := ⟨_, rfl, by rw [put_len, if_pos HP.out, HN.out]; rfl⟩
          have hq0 : ((A.length : Int) != ((n : Int) + 1)) = false := by rw [HA.out.2]; simp
          go_wp2_with fail
          refine (held_is A HA.out.1 k21.out).mono ?_
          rintro e w22 ⟨ao22, cap22, rfl, h22⟩
          have KE : Hid (Has w r w22 p G (putS S x.a x.c) [] []) := h22.fewer (fun b hb => by cases hb) fun b hb => by cases hb
          clear h22 k21 
          go_wp2
          go_roundw
          case rel => exact ⟨k + 1, _, _, HK.out, by go_num, by rw [HA.out.1, HA.out.2], KE.out⟩
          case measure => simp [intOf]; have := HK.out; omega
        · have hp0 : (pe == 0) = false := by simp [hpe]
          have HPN : Hid (¬ pe = 0) := hpe
          clear hpe
          obtain ⟨A, HA⟩ : ∃ A, Hid (held (putS S x.a x.c) = A ∧ (A.length : Int) = (n : Int)) := ⟨_, rfl, by rw [put_len, if_neg (by rw [HP.out]; exact HPN.out), HN.out]; rfl⟩
          have hq0 : ((A.length : Int) != (n : Int)) = false := by rw [HA.out.2]; simp
          go_wp2_with fail
          refine (held_is A HA.out.1 k21.out).mono ?_
          rintro e w22 ⟨ao22, cap22, rfl, h22⟩
          have KE : Hid (Has w r w22 p G (putS S x.a x.c) [] []) := h22.fewer (fun b hb => by cases hb) fun b hb => by cases hb
          clear h22 k21 
          go_wp2
          go_roundw
          case rel => exact ⟨k + 1, _, _, HK.out, by go_num, by rw [HA.out.1, HA.out.2], KE.out⟩
          case measure => simp [intOf]; have := HK.out; omega
      by_cases hx3 : x.k = 3
      · have hkk : (x.k == 3) = true := by simp [hx3]
        have hkn0 : (x.k == 0) = false := by simp [hx3]
        have hkn1 : (x.k == 1) = false := by simp [hx3]
        have hkn2 : (x.k == 2) = false := by simp [hx3]
        clear hx3
        obtain ⟨o0, o1, o2, o3, o4, o5, o6, o7, o8, o9, o10, o11⟩ := opcells (j2.out.blk (wr.heap.size, objO x) (by simp [objO])).1
        go_wp2_with fail
        generalize wr.alloc (Obj.cells #[.int .i64 x.k, .int .i64 x.n, .int .i64 x.a.n, .int .i64 x.a.i, .int .i64 x.b.n, .int .i64 x.b.i, .int .i64 x.c.k, .int .i64 x.c.o, .int .i64 x.c.r, .int .u64 x.c.b, .int .u64 x.c.g, .int .i64 x.c.z] 35) = v2 at *
        generalize wr.heap.size = q at *
        have k2 : Hid (Has w r v2 p G S [(q, objO x)] []) := j2
        clear j2 y0 y1 y2 y3 y4 y5 y6 y7 y8 y9 y10 y11
        obtain ⟨c, HCc⟩ : ∃ c, Hid (getC S x.a = c) := ⟨_, rfl⟩
        obtain ⟨te, HTe⟩ : ∃ te, Hid (takeE S x.a = te) := ⟨_, rfl⟩
        have HTc : Hid (takeC S x.a = c) := (take_get k2.out.nds.ok x.a).trans HCc.out
        obtain ⟨ge, HGe⟩ : ∃ ge, Hid (getE S x.a = ge) := ⟨_, rfl⟩
        refine (get_has x.a c ge k2.out HFt.out.a HCc.out HGe.out).mono ?_
        rintro e w21 ⟨he, h21⟩
        obtain rfl : e = .returned (.tuple #[.agg #[.int .i64 c.k, .int .i64 c.o, .int .i64 c.r, .int .u64 c.b, .int .u64 c.g, .int .i64 c.z], .int .i64 ge]) := he
        have k21 : Hid (Has w r w21 p G S [(q, objO x)] []) := h21
        clear h21 k2 o0 o1 o2 o3 o4 o5 o6 o7 o8 o9 o10 o11
        have g21 : Has w r (w21.alloc (objC c)) p G S ((w21.heap.size, objC c) :: [(q, objO x)]) [] := k21.out.alloc (objC c)
        have j21 : Hid _ := g21
        clear g21 k21
        obtain ⟨o0, o1, o2, o3, o4, o5, o6, o7, o8, o9, o10, o11⟩ := opcells (j21.out.blk (q, objO x) (by simp)).1
        simp only [objC] at j21 o0 o1 o2 o3 o4 o5 o6 o7 o8 o9 o10 o11
        go_wp2_with fail
        generalize w21.alloc (Obj.cells #[.int .i64 c.k, .int .i64 c.o, .int .i64 c.r, .int .u64 c.b, .int .u64 c.g, .int .i64 c.z] 33) = v21 at *
        generalize w21.heap.size = q21 at *
        have m21 : Hid (Has w r v21 p G S [(q21, objC c), (q, objO x)] []) := j21
        clear j21
        refine (take_has x.a c te _ m21.out HFt.out.a HTc.out HTe.out rfl).mono ?_
        rintro e w22 ⟨he, h22⟩
        obtain rfl : e = .returned (.tuple #[.agg #[.int .i64 c.k, .int .i64 c.o, .int .i64 c.r, .int .u64 c.b, .int .u64 c.g, .int .i64 c.z], .int .i64 te]) := he
        have k22 : Hid (Has w r w22 p G (takeS S x.a) [(q21, objC c), (q, objO x)] []) := h22
        clear h22 m21 o0 o1 o2 o3 o4 o5 o6 o7 o8 o9 o10 o11
        by_cases hte : te = 0
        · subst hte
          have hpos : (1 : Int) ≤ (n : Int) := by have h := take_len S x.a; rw [if_pos HTe.out, HN.out] at h; omega
          have g22 : Has w r (w22.alloc (objC c)) p G (takeS S x.a) ((w22.heap.size, objC c) :: [(q21, objC c), (q, objO x)]) [] := k22.out.alloc (objC c)
          have j22 : Hid _ := g22
          clear g22 k22
          obtain ⟨a0, a1, a2, a3, a4, a5⟩ := (j22.out.atC (q := w22.heap.size) (c := c) (by simp)).cells
          obtain ⟨d0, d1, d2, d3, d4, d5⟩ := (j22.out.atC (q := q21) (c := c) (by simp)).cells
          simp only [objC] at j22 a0 a1 a2 a3 a4 a5 d0 d1 d2 d3 d4 d5
          obtain ⟨A, HA⟩ : ∃ A, Hid (held (takeS S x.a) = A ∧ (A.length : Int) = ((n : Int) - 1)) := ⟨_, rfl, by have h := take_len S x.a; rw [if_pos HTe.out, HN.out] at h; omega⟩
          have hq0 : ((A.length : Int) != ((n : Int) - 1)) = false := by rw [HA.out.2]; simp
          go_wp2_with fail
          refine (held_is A HA.out.1 j22.out).mono ?_
          rintro e w23 ⟨ao23, cap23, rfl, h23⟩
          have KE : Hid (Has w r w23 p G (takeS S x.a) [] []) := h23.fewer (fun b hb => by cases hb) fun b hb => by cases hb
          clear h23 j22 a0 a1 a2 a3 a4 a5 d0 d1 d2 d3 d4 d5
          go_wp2
          go_roundw
          case rel => exact ⟨k + 1, _, _, HK.out, by go_num, by rw [HA.out.1, HA.out.2], KE.out⟩
          case measure => simp [intOf]; have := HK.out; omega
        · have ht0 : (te == 0) = false := by simp [hte]
          have HTN : Hid (¬ te = 0) := hte
          clear hte
          have g22 : Has w r (w22.alloc (objC c)) p G (takeS S x.a) ((w22.heap.size, objC c) :: [(q21, objC c), (q, objO x)]) [] := k22.out.alloc (objC c)
          have j22 : Hid _ := g22
          clear g22 k22
          obtain ⟨a0, a1, a2, a3, a4, a5⟩ := (j22.out.atC (q := w22.heap.size) (c := c) (by simp)).cells
          obtain ⟨d0, d1, d2, d3, d4, d5⟩ := (j22.out.atC (q := q21) (c := c) (by simp)).cells
          simp only [objC] at j22 a0 a1 a2 a3 a4 a5 d0 d1 d2 d3 d4 d5
          obtain ⟨A, HA⟩ : ∃ A, Hid (held (takeS S x.a) = A ∧ (A.length : Int) = (n : Int)) := ⟨_, rfl, by have h := take_len S x.a; rw [if_neg (by rw [HTe.out]; exact HTN.out), HN.out] at h; omega⟩
          have hq0 : ((A.length : Int) != (n : Int)) = false := by rw [HA.out.2]; simp
          go_wp2_with fail
          refine (held_is A HA.out.1 j22.out).mono ?_
          rintro e w23 ⟨ao23, cap23, rfl, h23⟩
          have KE : Hid (Has w r w23 p G (takeS S x.a) [] []) := h23.fewer (fun b hb => by cases hb) fun b hb => by cases hb
          clear h23 j22 a0 a1 a2 a3 a4 a5 d0 d1 d2 d3 d4 d5
          go_wp2
          go_roundw
          case rel => exact ⟨k + 1, _, _, HK.out, by go_num, by rw [HA.out.1, HA.out.2], KE.out⟩
          case measure => simp [intOf]; have := HK.out; omega
      by_cases hx4 : x.k = 4
      · have hkk : (x.k == 4) = true := by simp [hx4]
        have hkn0 : (x.k == 0) = false := by simp [hx4]
        have hkn1 : (x.k == 1) = false := by simp [hx4]
        have hkn2 : (x.k == 2) = false := by simp [hx4]
        have hkn3 : (x.k == 3) = false := by simp [hx4]
        clear hx4
        obtain ⟨o0, o1, o2, o3, o4, o5, o6, o7, o8, o9, o10, o11⟩ := opcells (j2.out.blk (wr.heap.size, objO x) (by simp [objO])).1
        go_wp2_with fail
        generalize wr.alloc (Obj.cells #[.int .i64 x.k, .int .i64 x.n, .int .i64 x.a.n, .int .i64 x.a.i, .int .i64 x.b.n, .int .i64 x.b.i, .int .i64 x.c.k, .int .i64 x.c.o, .int .i64 x.c.r, .int .u64 x.c.b, .int .u64 x.c.g, .int .i64 x.c.z] 35) = v2 at *
        generalize wr.heap.size = q at *
        have k2 : Hid (Has w r v2 p G S [(q, objO x)] []) := j2
        clear j2 y0 y1 y2 y3 y4 y5 y6 y7 y8 y9 y10 y11
        obtain ⟨c, HCc⟩ : ∃ c, Hid (getC S x.a = c) := ⟨_, rfl⟩
        obtain ⟨ge, HGe⟩ : ∃ ge, Hid (getE S x.a = ge) := ⟨_, rfl⟩
        obtain ⟨me, HMe⟩ : ∃ me, Hid (moveE S x.a x.b = me) := ⟨_, rfl⟩
        obtain ⟨d, HDd⟩ : ∃ d, Hid (getC (moveS S x.a x.b) x.b = d) := ⟨_, rfl⟩
        obtain ⟨gf, HGf⟩ : ∃ gf, Hid (getE (moveS S x.a x.b) x.b = gf) := ⟨_, rfl⟩
        have HMD : Hid (me = 0 → d = c) := fun h => by rw [← HDd.out, (move_len S x.a x.b).2 (HMe.out.trans h)]; exact HCc.out
        refine (get_has x.a c ge k2.out HFt.out.a HCc.out HGe.out).mono ?_
        rintro e w21 ⟨he, h21⟩
        obtain rfl : e = .returned (.tuple #[.agg #[.int .i64 c.k, .int .i64 c.o, .int .i64 c.r, .int .u64 c.b, .int .u64 c.g, .int .i64 c.z], .int .i64 ge]) := he
        have k21 : Hid (Has w r w21 p G S [(q, objO x)] []) := h21
        clear h21 k2 o0 o1 o2 o3 o4 o5 o6 o7 o8 o9 o10 o11
        have g21 : Has w r (w21.alloc (objC c)) p G S ((w21.heap.size, objC c) :: [(q, objO x)]) [] := k21.out.alloc (objC c)
        have j21 : Hid _ := g21
        clear g21 k21
        obtain ⟨o0, o1, o2, o3, o4, o5, o6, o7, o8, o9, o10, o11⟩ := opcells (j21.out.blk (q, objO x) (by simp)).1
        simp only [objC] at j21 o0 o1 o2 o3 o4 o5 o6 o7 o8 o9 o10 o11
        go_wp2_with fail
        generalize w21.alloc (Obj.cells #[.int .i64 c.k, .int .i64 c.o, .int .i64 c.r, .int .u64 c.b, .int .u64 c.g, .int .i64 c.z] 33) = v21 at *
        generalize w21.heap.size = q21 at *
        have m21 : Hid (Has w r v21 p G S [(q21, objC c), (q, objO x)] []) := j21
        clear j21
        refine (move_has x.a x.b me _ m21.out HFt.out.a HFt.out.b HMe.out rfl).mono ?_
        rintro e w22 ⟨rfl, h22⟩
        have k22 : Hid (Has w r w22 p G (moveS S x.a x.b) [(q21, objC c), (q, objO x)] []) := h22
        clear h22 m21 o0 o1 o2 o3 o4 o5 o6 o7 o8 o9 o10 o11
        obtain ⟨o0, o1, o2, o3, o4, o5, o6, o7, o8, o9, o10, o11⟩ := opcells (k22.out.blk (q, objO x) (by simp)).1
        go_wp2_with fail
        refine (get_has x.b d gf k22.out HFt.out.b HDd.out HGf.out).mono ?_
        rintro e w23 ⟨he, h23⟩
        obtain rfl : e = .returned (.tuple #[.agg #[.int .i64 d.k, .int .i64 d.o, .int .i64 d.r, .int .u64 d.b, .int .u64 d.g, .int .i64 d.z], .int .i64 gf]) := he
        have k23 : Hid (Has w r w23 p G (moveS S x.a x.b) [(q21, objC c), (q, objO x)] []) := h23
        clear h23 k22 o0 o1 o2 o3 o4 o5 o6 o7 o8 o9 o10 o11
        by_cases hme : me = 0
        · obtain rfl : d = c := HMD.out hme
          subst hme
          have g23 : Has w r (w23.alloc (objC d)) p G (moveS S x.a x.b) ((w23.heap.size, objC d) :: [(q21, objC d), (q, objO x)]) [] := k23.out.alloc (objC d)
          have j23 : Hid _ := g23
          clear g23 k23
          obtain ⟨a0, a1, a2, a3, a4, a5⟩ := (j23.out.atC (q := w23.heap.size) (c := d) (by simp)).cells
          obtain ⟨d0, d1, d2, d3, d4, d5⟩ := (j23.out.atC (q := q21) (c := d) (by simp)).cells
          simp only [objC] at j23 a0 a1 a2 a3 a4 a5 d0 d1 d2 d3 d4 d5
          obtain ⟨A, HA⟩ : ∃ A, Hid (held (moveS S x.a x.b) = A ∧ (A.length : Int) = (n : Int)) := ⟨_, rfl, by rw [(move_len S x.a x.b).1, HN.out]⟩
          have hq0 : ((A.length : Int) != (n : Int)) = false := by rw [HA.out.2]; simp
          go_wp2_with fail
          refine (held_is A HA.out.1 j23.out).mono ?_
          rintro e w24 ⟨ao24, cap24, rfl, h24⟩
          have KE : Hid (Has w r w24 p G (moveS S x.a x.b) [] []) := h24.fewer (fun b hb => by cases hb) fun b hb => by cases hb
          clear h24 j23 a0 a1 a2 a3 a4 a5 d0 d1 d2 d3 d4 d5
          go_wp2
          go_roundw
          case rel => exact ⟨k + 1, _, _, HK.out, by go_num, by rw [HA.out.1, HA.out.2], KE.out⟩
          case measure => simp [intOf]; have := HK.out; omega
        · have hm0 : (me == 0) = false := by simp [hme]
          clear hme
          have g23 : Has w r (w23.alloc (objC d)) p G (moveS S x.a x.b) ((w23.heap.size, objC d) :: [(q21, objC c), (q, objO x)]) [] := k23.out.alloc (objC d)
          have j23 : Hid _ := g23
          clear g23 k23
          obtain ⟨a0, a1, a2, a3, a4, a5⟩ := (j23.out.atC (q := w23.heap.size) (c := d) (by simp)).cells
          obtain ⟨d0, d1, d2, d3, d4, d5⟩ := (j23.out.atC (q := q21) (c := c) (by simp)).cells
          simp only [objC] at j23 a0 a1 a2 a3 a4 a5 d0 d1 d2 d3 d4 d5
          obtain ⟨A, HA⟩ : ∃ A, Hid (held (moveS S x.a x.b) = A ∧ (A.length : Int) = (n : Int)) := ⟨_, rfl, by rw [(move_len S x.a x.b).1, HN.out]⟩
          have hq0 : ((A.length : Int) != (n : Int)) = false := by rw [HA.out.2]; simp
          go_wp2_with fail
          refine (held_is A HA.out.1 j23.out).mono ?_
          rintro e w24 ⟨ao24, cap24, rfl, h24⟩
          have KE : Hid (Has w r w24 p G (moveS S x.a x.b) [] []) := h24.fewer (fun b hb => by cases hb) fun b hb => by cases hb
          clear h24 j23 a0 a1 a2 a3 a4 a5 d0 d1 d2 d3 d4 d5
          go_wp2
          go_roundw
          case rel => exact ⟨k + 1, _, _, HK.out, by go_num, by rw [HA.out.1, HA.out.2], KE.out⟩
          case measure => simp [intOf]; have := HK.out; omega
      by_cases hx5 : x.k = 5
      · have hkk : (x.k == 5) = true := by simp [hx5]
        have hkn0 : (x.k == 0) = false := by simp [hx5]
        have hkn1 : (x.k == 1) = false := by simp [hx5]
        have hkn2 : (x.k == 2) = false := by simp [hx5]
        have hkn3 : (x.k == 3) = false := by simp [hx5]
        have hkn4 : (x.k == 4) = false := by simp [hx5]
        clear hx5
        obtain ⟨o0, o1, o2, o3, o4, o5, o6, o7, o8, o9, o10, o11⟩ := opcells (j2.out.blk (wr.heap.size, objO x) (by simp [objO])).1
        go_wp2_with fail
        generalize wr.alloc (Obj.cells #[.int .i64 x.k, .int .i64 x.n, .int .i64 x.a.n, .int .i64 x.a.i, .int .i64 x.b.n, .int .i64 x.b.i, .int .i64 x.c.k, .int .i64 x.c.o, .int .i64 x.c.r, .int .u64 x.c.b, .int .u64 x.c.g, .int .i64 x.c.z] 35) = v2 at *
        generalize wr.heap.size = q at *
        have k2 : Hid (Has w r v2 p G S [(q, objO x)] []) := j2
        clear j2 y0 y1 y2 y3 y4 y5 y6 y7 y8 y9 y10 y11
        obtain ⟨ca, HCa⟩ : ∃ c, Hid (getC S x.a = c) := ⟨_, rfl⟩
        obtain ⟨cb, HCb⟩ : ∃ c, Hid (getC S x.b = c) := ⟨_, rfl⟩
        obtain ⟨ea, HEa⟩ : ∃ ge, Hid (getE S x.a = ge) := ⟨_, rfl⟩
        obtain ⟨eb, HEb⟩ : ∃ ge, Hid (getE S x.b = ge) := ⟨_, rfl⟩
        obtain ⟨se, HSe⟩ : ∃ me, Hid (swapE S x.a x.b = me) := ⟨_, rfl⟩
        obtain ⟨cc, HCc⟩ : ∃ c, Hid (getC (swapS S x.a x.b) x.a = c) := ⟨_, rfl⟩
        obtain ⟨cd, HCd⟩ : ∃ c, Hid (getC (swapS S x.a x.b) x.b = c) := ⟨_, rfl⟩
        obtain ⟨ec, HEc⟩ : ∃ ge, Hid (getE (swapS S x.a x.b) x.a = ge) := ⟨_, rfl⟩
        obtain ⟨ed, HEd⟩ : ∃ ge, Hid (getE (swapS S x.a x.b) x.b = ge) := ⟨_, rfl⟩
        have HMD : Hid (se = 0 → cc = cb ∧ cd = ca) := fun h => by
          have q := (swap_len S x.a x.b).2 (HSe.out.trans h)
          exact ⟨by rw [← HCc.out, q.1]; exact HCb.out, by rw [← HCd.out, q.2]; exact HCa.out⟩
        refine (get_has x.a ca ea k2.out HFt.out.a HCa.out HEa.out).mono ?_
        rintro e w21 ⟨he, h21⟩
        obtain rfl : e = .returned (.tuple #[.agg #[.int .i64 ca.k, .int .i64 ca.o, .int .i64 ca.r, .int .u64 ca.b, .int .u64 ca.g, .int .i64 ca.z], .int .i64 ea]) := he
        have k21 : Hid (Has w r w21 p G S [(q, objO x)] []) := h21
        clear h21 k2 o0 o1 o2 o3 o4 o5 o6 o7 o8 o9 o10 o11
        have g21 : Has w r (w21.alloc (objC ca)) p G S ((w21.heap.size, objC ca) :: [(q, objO x)]) [] := k21.out.alloc (objC ca)
        have j21 : Hid _ := g21
        clear g21 k21
        obtain ⟨o0, o1, o2, o3, o4, o5, o6, o7, o8, o9, o10, o11⟩ := opcells (j21.out.blk (q, objO x) (by simp)).1
        simp only [objC] at j21 o0 o1 o2 o3 o4 o5 o6 o7 o8 o9 o10 o11
        go_wp2_with fail
        generalize w21.alloc (Obj.cells #[.int .i64 ca.k, .int .i64 ca.o, .int .i64 ca.r, .int .u64 ca.b, .int .u64 ca.g, .int .i64 ca.z] 33) = v21 at *
        generalize w21.heap.size = q21 at *
        have m21 : Hid (Has w r v21 p G S [(q21, objC ca), (q, objO x)] []) := j21
        clear j21
        refine (get_has x.b cb eb m21.out HFt.out.b HCb.out HEb.out).mono ?_
        rintro e w22 ⟨he, h22⟩
        obtain rfl : e = .returned (.tuple #[.agg #[.int .i64 cb.k, .int .i64 cb.o, .int .i64 cb.r, .int .u64 cb.b, .int .u64 cb.g, .int .i64 cb.z], .int .i64 eb]) := he
        have k22 : Hid (Has w r w22 p G S [(q21, objC ca), (q, objO x)] []) := h22
        clear h22 m21 o0 o1 o2 o3 o4 o5 o6 o7 o8 o9 o10 o11
        have g22 : Has w r (w22.alloc (objC cb)) p G S ((w22.heap.size, objC cb) :: [(q21, objC ca), (q, objO x)]) [] := k22.out.alloc (objC cb)
        have j22 : Hid _ := g22
        clear g22 k22
        obtain ⟨o0, o1, o2, o3, o4, o5, o6, o7, o8, o9, o10, o11⟩ := opcells (j22.out.blk (q, objO x) (by simp)).1
        simp only [objC] at j22 o0 o1 o2 o3 o4 o5 o6 o7 o8 o9 o10 o11
        go_wp2_with fail
        generalize w22.alloc (Obj.cells #[.int .i64 cb.k, .int .i64 cb.o, .int .i64 cb.r, .int .u64 cb.b, .int .u64 cb.g, .int .i64 cb.z] 33) = v22 at *
        generalize w22.heap.size = q22 at *
        have m22 : Hid (Has w r v22 p G S [(q22, objC cb), (q21, objC ca), (q, objO x)] []) := j22
        clear j22
        refine (swap_has x.a x.b se _ m22.out HFt.out.a HFt.out.b HSe.out rfl).mono ?_
        rintro e w23 ⟨rfl, h23⟩
        have k23 : Hid (Has w r w23 p G (swapS S x.a x.b) [(q22, objC cb), (q21, objC ca), (q, objO x)] []) := h23
        clear h23 m22 o0 o1 o2 o3 o4 o5 o6 o7 o8 o9 o10 o11
        obtain ⟨o0, o1, o2, o3, o4, o5, o6, o7, o8, o9, o10, o11⟩ := opcells (k23.out.blk (q, objO x) (by simp)).1
        go_wp2_with fail
        refine (get_has x.a cc ec k23.out HFt.out.a HCc.out HEc.out).mono ?_
        rintro e w24 ⟨he, h24⟩
        obtain rfl : e = .returned (.tuple #[.agg #[.int .i64 cc.k, .int .i64 cc.o, .int .i64 cc.r, .int .u64 cc.b, .int .u64 cc.g, .int .i64 cc.z], .int .i64 ec]) := he
        have k24 : Hid (Has w r w24 p G (swapS S x.a x.b) [(q22, objC cb), (q21, objC ca), (q, objO x)] []) := h24
        clear h24 k23 o0 o1 o2 o3 o4 o5 o6 o7 o8 o9 o10 o11
        have g24 : Has w r (w24.alloc (objC cc)) p G (swapS S x.a x.b) ((w24.heap.size, objC cc) :: [(q22, objC cb), (q21, objC ca), (q, objO x)]) [] := k24.out.alloc (objC cc)
        have j24 : Hid _ := g24
        clear g24 k24
        obtain ⟨o0, o1, o2, o3, o4, o5, o6, o7, o8, o9, o10, o11⟩ := opcells (j24.out.blk (q, objO x) (by simp)).1
        simp only [objC] at j24 o0 o1 o2 o3 o4 o5 o6 o7 o8 o9 o10 o11
        go_wp2_with fail
        generalize w24.alloc (Obj.cells #[.int .i64 cc.k, .int .i64 cc.o, .int .i64 cc.r, .int .u64 cc.b, .int .u64 cc.g, .int .i64 cc.z] 33) = v24 at *
        generalize w24.heap.size = q24 at *
        have m24 : Hid (Has w r v24 p G (swapS S x.a x.b) [(q24, objC cc), (q22, objC cb), (q21, objC ca), (q, objO x)] []) := j24
        clear j24
        refine (get_has x.b cd ed m24.out HFt.out.b HCd.out HEd.out).mono ?_
        rintro e w25 ⟨he, h25⟩
        obtain rfl : e = .returned (.tuple #[.agg #[.int .i64 cd.k, .int .i64 cd.o, .int .i64 cd.r, .int .u64 cd.b, .int .u64 cd.g, .int .i64 cd.z], .int .i64 ed]) := he
        have k25 : Hid (Has w r w25 p G (swapS S x.a x.b) [(q24, objC cc), (q22, objC cb), (q21, objC ca), (q, objO x)] []) := h25
        clear h25 m24 o0 o1 o2 o3 o4 o5 o6 o7 o8 o9 o10 o11
        by_cases hse : se = 0
        · obtain ⟨rfl, rfl⟩ := HMD.out hse
          subst hse
          have g25 : Has w r (w25.alloc (objC cd)) p G (swapS S x.a x.b) ((w25.heap.size, objC cd) :: [(q24, objC cc), (q22, objC cc), (q21, objC cd), (q, objO x)]) [] := k25.out.alloc (objC cd)
          have j25 : Hid _ := g25
          clear g25 k25
          obtain ⟨za0, za1, za2, za3, za4, za5⟩ := (j25.out.atC (q := w25.heap.size) (c := cd) (by simp)).cells
          obtain ⟨zb0, zb1, zb2, zb3, zb4, zb5⟩ := (j25.out.atC (q := q21) (c := cd) (by simp)).cells
          obtain ⟨zd0, zd1, zd2, zd3, zd4, zd5⟩ := (j25.out.atC (q := q22) (c := cc) (by simp)).cells
          obtain ⟨ze0, ze1, ze2, ze3, ze4, ze5⟩ := (j25.out.atC (q := q24) (c := cc) (by simp)).cells
          simp only [objC] at j25 za0 za1 za2 za3 za4 za5 zb0 zb1 zb2 zb3 zb4 zb5 zd0 zd1 zd2 zd3 zd4 zd5 ze0 ze1 ze2 ze3 ze4 ze5
          obtain ⟨A, HA⟩ : ∃ A, Hid (held (swapS S x.a x.b) = A ∧ (A.length : Int) = (n : Int)) := ⟨_, rfl, by rw [(swap_len S x.a x.b).1, HN.out]⟩
          have hq0 : ((A.length : Int) != (n : Int)) = false := by rw [HA.out.2]; simp
          go_wp2_with fail
          refine (held_is A HA.out.1 j25.out).mono ?_
          rintro e w26 ⟨ao26, cap26, rfl, h26⟩
          have KE : Hid (Has w r w26 p G (swapS S x.a x.b) [] []) := h26.fewer (fun b hb => by cases hb) fun b hb => by cases hb
          clear h26 j25 za0 za1 za2 za3 za4 za5 zb0 zb1 zb2 zb3 zb4 zb5 zd0 zd1 zd2 zd3 zd4 zd5 ze0 ze1 ze2 ze3 ze4 ze5
          go_wp2
          go_roundw
          case rel => exact ⟨k + 1, _, _, HK.out, by go_num, by rw [HA.out.1, HA.out.2], KE.out⟩
          case measure => simp [intOf]; have := HK.out; omega
        · have hm0 : (se == 0) = false := by simp [hse]
          clear hse
          have g25 : Has w r (w25.alloc (objC cd)) p G (swapS S x.a x.b) ((w25.heap.size, objC cd) :: [(q24, objC cc), (q22, objC cb), (q21, objC ca), (q, objO x)]) [] := k25.out.alloc (objC cd)
          have j25 : Hid _ := g25
          clear g25 k25
          obtain ⟨za0, za1, za2, za3, za4, za5⟩ := (j25.out.atC (q := w25.heap.size) (c := cd) (by simp)).cells
          obtain ⟨zb0, zb1, zb2, zb3, zb4, zb5⟩ := (j25.out.atC (q := q21) (c := ca) (by simp)).cells
          obtain ⟨zd0, zd1, zd2, zd3, zd4, zd5⟩ := (j25.out.atC (q := q22) (c := cb) (by simp)).cells
          obtain ⟨ze0, ze1, ze2, ze3, ze4, ze5⟩ := (j25.out.atC (q := q24) (c := cc) (by simp)).cells
          simp only [objC] at j25 za0 za1 za2 za3 za4 za5 zb0 zb1 zb2 zb3 zb4 zb5 zd0 zd1 zd2 zd3 zd4 zd5 ze0 ze1 ze2 ze3 ze4 ze5
          obtain ⟨A, HA⟩ : ∃ A, Hid (held (swapS S x.a x.b) = A ∧ (A.length : Int) = (n : Int)) := ⟨_, rfl, by rw [(swap_len S x.a x.b).1, HN.out]⟩
          have hq0 : ((A.length : Int) != (n : Int)) = false := by rw [HA.out.2]; simp
          go_wp2_with fail
          refine (held_is A HA.out.1 j25.out).mono ?_
          rintro e w26 ⟨ao26, cap26, rfl, h26⟩
          have KE : Hid (Has w r w26 p G (swapS S x.a x.b) [] []) := h26.fewer (fun b hb => by cases hb) fun b hb => by cases hb
          clear h26 j25 za0 za1 za2 za3 za4 za5 zb0 zb1 zb2 zb3 zb4 zb5 zd0 zd1 zd2 zd3 zd4 zd5 ze0 ze1 ze2 ze3 ze4 ze5
          go_wp2
          go_roundw
          case rel => exact ⟨k + 1, _, _, HK.out, by go_num, by rw [HA.out.1, HA.out.2], KE.out⟩
          case measure => simp [intOf]; have := HK.out; omega
      have hkn0 : (x.k == 0) = false := by simp [hx0]
      have hkn1 : (x.k == 1) = false := by simp [hx1]
      have hkn2 : (x.k == 2) = false := by simp [hx2]
      have hkn3 : (x.k == 3) = false := by simp [hx3]
      have hkn4 : (x.k == 4) = false := by simp [hx4]
      have hkn5 : (x.k == 5) = false := by simp [hx5]
      clear hx0 hx1 hx2 hx3 hx4 hx5
      obtain ⟨o0, o1, o2, o3, o4, o5, o6, o7, o8, o9, o10, o11⟩ := opcells (j2.out.blk (wr.heap.size, objO x) (by simp [objO])).1
      obtain ⟨A, HA⟩ : ∃ A, Hid (held S = A ∧ (A.length : Int) = (n : Int)) := ⟨_, rfl, by rw [HN.out]⟩
      have hq0 : ((A.length : Int) != (n : Int)) = false := by rw [HA.out.2]; simp
      go_wp2_with fail
      refine (held_is A HA.out.1 j2.out).mono ?_
      rintro e w21 ⟨ao21, cap21, rfl, h21⟩
      have KE : Hid (Has w r w21 p G S [] []) := h21.fewer (fun b hb => by cases hb) fun b hb => by cases hb
      clear h21 j2 o0 o1 o2 o3 o4 o5 o6 o7 o8 o9 o10 o11 y0 y1 y2 y3 y4 y5 y6 y7 y8 y9 y10 y11
      go_wp2
      go_roundw
      case rel => exact ⟨k + 1, _, _, HK.out, by go_num, by rw [HA.out.1, HA.out.2], KE.out⟩
      case measure => simp [intOf]; have := HK.out; omega
    · have hge : (¬ k < X.length) ∨ (k < X.length ∧ k = 80) := by omega
      rcases hge with hge | hge
      · have hk1 : ¬ ((k : Int) < (X.length : Int)) := by omega
        clear hge hlt hk
        generalize hXl : X.length = xl at *
        clear hXl HX
        go_wp2_with fail
        refine (fixed_has k0.out).mono ?_
        rintro e w7 ⟨rfl, h7⟩
        have KL : Hid _ := h7
        clear h7 k0
        go_wp2
        go_ret
        exact ⟨rfl, by rw [HR.out]; exact KL.out.low⟩
      · obtain ⟨hk0, rfl⟩ := hge
        have hk1 : ((80 : Nat) : Int) < (X.length : Int) := by omega
        clear hk0 hlt hk
        generalize hXl : X.length = xl at *
        clear hXl HX
        go_wp2_with fail
        refine (fixed_has k0.out).mono ?_
        rintro e w7 ⟨rfl, h7⟩
        have KL : Hid _ := h7
        clear h7 k0
        go_wp2
        go_ret
        exact ⟨rfl, by rw [HR.out]; exact KL.out.low⟩
end
open Go.ChangeShapes Go.WideShapes Go.ChangeAt Go.RowKit Go.Joins

/-! ### From the walk to the statement -/
set_option maxRecDepth 100000 in
theorem lifted (os : Os) (started : os.Started) (H : Type) (enc : TypeId × Value → H) :
    ReturnsInHanded {} Try.checked os 5 .any (Rows.slotsKeepsSpec.pre6 enc Try.prog Try.f5 Rows.slotsKeepsRow.domain false) (Rows.slotsKeepsSpec.post enc Try.prog Try.f5 false true false false) := by
  have dCp : DecidableEq Cp := fun a b => Classical.propDecidable (a = b)
  have dLim : ∀ k, Decidable (Lim k) := fun k => Classical.propDecidable (Lim k)
  have dBad : ∀ k, Decidable (Bad k) := fun k => Classical.propDecidable (Bad k)
  have dFit : ∀ g z, Decidable (Fit g z) := fun g z => Classical.propDecidable (Fit g z)
  have dFine : ∀ c, Decidable (Fine c) := fun c => Classical.propDecidable (Fine c)
  have dMint : ∀ c v, Decidable (MintR c v) := fun c v => Classical.propDecidable (MintR c v)
  have dWho : ∀ x y, Decidable (Whose x y) := fun x y => Classical.propDecidable (Whose x y)
  have dSl : DecidableEq Sl := fun a b => Classical.propDecidable (a = b)
  have dLt : ∀ a b, Decidable (ltS a b) := fun a b => Classical.propDecidable (ltS a b)
  have iSl : Inhabited Sl := ⟨⟨0, 0⟩⟩
  have iCp : Inhabited Cp := ⟨no⟩
  refine returnsInHanded_of_change (C := Try.checked) own started (by kernel_rfl) Try.func5
    (ChangeSpec.witness6 (enc := enc) (C := Try.checked) false ⟨#[], #[.slice none 0 0], []⟩ 8 (by kernel_rfl) (by kernel_rfl) (by kernel_rfl) (by kernel_rfl)) ?_
  intro W base args ds gs before hval0 hW hcnd _
  have hval : ∀ (j : Nat) t v, Try.f5.params[j]? = some t → args[j]? = some v → Value.okWide Try.prog W .any base t v := hval0
  have hW' := hW
  obtain ⟨p, q, hA0, hV, rfl, hfz, hnd⟩ := hW
  have hA : DataW.TrodAll enc Try.prog W 0 (fun _ => true) true Try.f5.params.toList args.toList ds p := hA0
  rw [Try.params5] at hA hval
  obtain ⟨v0, vs0, d0, ds0, p0, q0, hargs, rfl, rfl, h0, r0⟩ := trodAll_cons hA
  obtain ⟨rfl, rfl, rfl⟩ := trodAll_nil r0
  obtain rfl : args = #[v0] := by cases args; simp_all
  obtain ⟨rfl, rfl⟩ := trodVars_none hV
  have k0 := h0
  have lt0 : ∀ x ∈ p0, x.block < W.heap.size := by obtain ⟨m, hm⟩ := k0; exact DataW.trod_lt m _ _ _ hm
  obtain ⟨a0, l0, c0, rfl, t0, s0⟩ := open_ops (hval 0 22 v0 rfl rfl) h0
  clear hA0 hval0
  refine (walk a0 l0 c0 W t0 s0).mono fun e W' ⟨he, bel⟩ => ?_
  subst he
  exact ⟨_, rfl, _, _, _, [], _, [], hW', trodAll_mk1 (shut_bool Try.underlying4 _), (trodAll_cons_mk (Below.trod laidOut (by kernel_rfl) (of_decide_eq_true (by kernel_rfl)) k0 bel lt0) trodAll_mk0), rfl, bel.frame _, fun h => by cases h⟩
theorem over : Rows.slotsKeepsRow.holds Try.pinned (OpenSpec.ofChange Rows.slotsKeepsSpec) :=
  OpenClaim.holds_of_wide 5 Try.f5 rfl rfl rfl rfl rfl rfl rfl ⟨rfl, rfl, rfl, rfl, rfl⟩ rfl rfl rfl rfl rfl (by kernel_rfl) Try.func5 (by kernel_rfl)
    (of_decide_eq_true (by kernel_rfl)) (by unfold Func.isWrapper; first | (rw [if_pos (by decide +kernel)]; kernel_rfl) | (rw [if_neg (by decide +kernel)]; exact ⟨rfl, rfl⟩))
    (fun os started H enc _ => lifted os started H enc)
end Go.Proofs.Ytkpoppgibempbaa.slotsKeeps
namespace Go.Proofs.Ytkpoppgibempbaa
/-- THE STATEMENT. -/
theorem slotsKeeps_said : Rows.SlotsKeepsSaid := slotsKeeps.over
#print axioms slotsKeeps_said
end Go.Proofs.Ytkpoppgibempbaa

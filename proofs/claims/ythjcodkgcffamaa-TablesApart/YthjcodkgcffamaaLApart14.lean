/-
  What is done to a page makes no difference to any other one; what is done to a table none to another one's pages; no condition.
-/
import Derived.Test.YthjcodkgcffamaaPLaw
import Derived.Test.YthjcodkgcffamaaPSay
import Derived.Deep.Cut
import Derived.Deep.CutRange
namespace Go.Proofs.Ythjcodkgcffamaa.tablesApart
open Go.RowKit Go.Deep Go.Shelf
theorem filt_at {α : Type} {L : List α} {P : α → Bool} {i : Nat} {x : α} (hx : L[i]? = some x) (hp : P x = true) : (L.filter P)[((L.take i).filter P).length]? = some x := by
  obtain ⟨hi, e⟩ := List.getElem?_eq_some_iff.1 hx
  have h1 : L = L.take i ++ x :: L.drop (i + 1) := by
    rw [← e, ← List.drop_eq_getElem_cons hi, List.take_append_drop]
  have h2 : L.filter P = (L.take i).filter P ++ x :: (L.drop (i + 1)).filter P := by
    have h3 := congrArg (List.filter P) h1
    rw [List.filter_append, List.filter_cons, if_pos hp] at h3
    exact h3
  rw [h2, List.getElem?_append_right (Nat.le_refl _), Nat.sub_self]
  rfl
theorem filt_next {α : Type} {L : List α} {P : α → Bool} {i : Nat} {x : α} (hx : L[i]? = some x) : ((L.take (i + 1)).filter P).length = ((L.take i).filter P).length + if P x = true then 1 else 0 := by
  rw [List.take_add_one, hx, List.filter_append, List.length_append]
  cases h : P x <;> simp [h]
def offN (n : Int) (x : La) : Bool := !(x.1 == n)
def offT (d : Int) (x : La) : Bool := !(x.1 / 64 == d)
def chg (y r : Int) (x : La) : La := if x.1 = y then (x.1, ⟨x.2.fr, r⟩) else x
theorem chg_one (y r : Int) (x : La) : (chg y r x).1 = x.1 := by
  unfold chg
  split <;> rfl
theorem unm_f {S : Sp} (g : Good S) (n : Int) : (unmS S n).f = upd S.f n none := by
  unfold unmS
  split
  · rfl
  · rename_i h
    funext k
    unfold upd
    split
    · rename_i e
      subst e
      unfold unmE at h
      split at h
      · rename_i h2
        exact g.out h2
      · split at h
        · exact absurd rfl h
        · rename_i h3
          cases e : S.f k with
          | none => rfl
          | some x => rw [e] at h3; exact absurd rfl h3
    · rfl
theorem rgt_f {S : Sp} (g : Good S) {y r : Int} (hr : 0 ≤ r ∧ r ≤ 7) (k : Int) : (rgtS S y r).f k = if k = y then (S.f y).map fun p => ⟨p.fr, r⟩ else S.f k := by
  unfold rgtS
  split
  · rename_i h
    obtain ⟨_, _, _, _, p, hp⟩ := rgtE_ok h
    simp only [upd, hp, Option.getD_some, Option.map_some]
  · rename_i h
    have hn : S.f y = none := by
      unfold rgtE at h
      split at h
      · rename_i h2
        exact g.out (by omega)
      · split at h
        · exact absurd rfl h
        · rename_i h3
          cases e : S.f y with
          | none => rfl
          | some x => rw [e] at h3; exact absurd rfl h3
    split
    · rename_i e
      rw [e, hn]
      rfl
    · rfl
theorem now_is {S : Sp} (g : Good S) {n y r : Int} (hr : 0 ≤ r ∧ r ≤ 7) (hy : y ≠ n) : allP (rgtS (unmS S n) y r).f = ((allP S.f).filter (offN n)).map (chg y r) := by
  symm
  refine seg_ext (List.pairwise_map.2 (((seg_rise S.f 0 4096).filter _).imp fun {a b} h => ?_)) fun k p => ?_
  · rw [chg_one, chg_one]
    exact h
  · rw [rgt_f (good_unm g n) hr, unm_f g]
    unfold upd
    rw [List.mem_map]
    constructor
    · rintro ⟨⟨a, q⟩, hm, e⟩
      rw [List.mem_filter] at hm
      obtain ⟨h0, h1, h2⟩ := seg_mem.1 hm.1
      have hne : a ≠ n := by simpa [offN] using hm.2
      unfold chg at e
      simp only at e
      split at e
      · rename_i ey
        obtain ⟨rfl, rfl⟩ := Prod.mk.injEq .. ▸ e
        rw [if_pos ey, if_neg hy]
        refine ⟨h0, h1, ?_⟩
        rw [← ey, h2]
        rfl
      · rename_i ey
        obtain ⟨rfl, rfl⟩ := Prod.mk.injEq .. ▸ e
        rw [if_neg ey, if_neg hne]
        exact ⟨h0, h1, h2⟩
    · rintro ⟨h0, h1, h2⟩
      by_cases ey : k = y
      · rw [if_pos ey, if_neg hy] at h2
        obtain ⟨q, hq, rfl⟩ := Option.map_eq_some_iff.1 h2
        refine ⟨(k, q), List.mem_filter.2 ⟨seg_mem.2 ⟨h0, h1, by rw [ey]; exact hq⟩, by simp [offN, ey, hy]⟩, ?_⟩
        unfold chg
        simp only
        rw [if_pos ey]
      · rw [if_neg ey] at h2
        split at h2
        · cases h2
        · rename_i hn
          refine ⟨(k, p), List.mem_filter.2 ⟨seg_mem.2 ⟨h0, h1, h2⟩, by simp [offN, hn]⟩, ?_⟩
          unfold chg
          simp only
          rw [if_neg ey]
theorem drop_is {S : Sp} (g : Good S) {d : Int} (hd : 0 ≤ d ∧ d < 64) : allP (drpS S d).f = (allP S.f).filter (offT d) := by
  unfold drpS
  split
  · exact drp_rest d
  · rename_i h
    symm
    rw [List.filter_eq_self]
    rintro ⟨k, p⟩ hm
    have hf := (all_mem g).1 hm
    have h2 := (g.f _ _ hf).2.2
    unfold drpE at h
    rw [if_neg (by omega)] at h
    unfold offT
    simp only [Bool.not_eq_true', beq_eq_false_iff_ne]
    intro e
    rw [e] at h2
    rw [if_pos h2] at h
    exact h rfl
theorem xor_one (n : Nat) (hn : n < 4096) : ∃ y : Nat, y < 4096 ∧ y ≠ n ∧ bits .xor .i64 (n : Int) 1 = (y : Int) := by
  refine ⟨n ^^^ 1, ?_, ?_, ?_⟩
  · exact Nat.xor_lt_two_pow (n := 12) hn (by decide)
  · intro e
    have h1 := congrArg (fun z => n ^^^ z) e
    simp only [← Nat.xor_assoc, Nat.xor_self, Nat.zero_xor] at h1
    cases h1
  · show IntKind.i64.wrap ((BitVec.ofInt 64 (n : Int) ^^^ BitVec.ofInt 64 1).toNat : Int) = _
    have h9 : n ^^^ 1 < 4096 := Nat.xor_lt_two_pow (n := 12) hn (by decide)
    rw [BitVec.toNat_xor, ofInt_u64 n (by omega), show BitVec.ofInt 64 1 = BitVec.ofInt 64 ((1 : Nat) : Int) from rfl, ofInt_u64 1 (by omega), IntKind.wrap_i64]
    omega
set_option maxHeartbeats 16000000 in
set_option maxRecDepth 100000 in
theorem walk (ao : Option Addr) (X : List Oc) (cap : Nat) (o : Oc) (w : World) (hX : Ops w ao X) (_hxl : X.length ≤ 9223372036854775807) (_ho : o.Fits) :
    Calls Try.prog 5 #[.slice ao X.length cap, encO o] w fun e w' => e = .returned (.bool true) ∧ Below w.heap.size w w' := by
  have HX := hid hX
  obtain ⟨n, hn, en⟩ := mask_is o.l 12 (by decide)
  obtain ⟨rr, hrr, er⟩ := mask7 o.n
  obtain ⟨y, hy, hyn, ey⟩ := xor_one n hn
  have en' : bits .and .i64 o.l 4095 = (n : Int) := en
  have hq : (n : Int) / 64 = ((n / 64 : Nat) : Int) := by omega
  have hq2 : (n : Int).tdiv 64 = ((n / 64 : Nat) : Int) := by rw [Int.tdiv_eq_ediv_of_nonneg (by omega)]; omega
  generalize hN64 : ((n / 64 : Nat) : Int) = N64 at *
  have hNw : IntKind.i64.wrap N64 = N64 := by rw [IntKind.wrap_i64]; omega
  have hN6 : 0 ≤ N64 ∧ N64 < 64 := by omega
  clear hN64 en hX
  have HB := hid ((sep_nil w).box (objO o))
  unfold encO
  go_enter Try.func5, Try.ntmps5
  go_wp2_with fail
  refine Calls.mono (new_sep HB.out) ?_
  rintro e w1 ⟨p, m1, rfl, s1⟩
  generalize hr : w.heap.size = r at *
  have HR := hid hr
  have S1 := hid s1
  clear hr HB s1
  go_wp2_with fail
  go_loopw [6] (fun s wr => ∃ (i : Nat) (T : Sp) (m : Nat → Option Nat), i ≤ 40 ∧ s = .int .i64 i ∧ Sep w r wr [spT p m T, blk r (objO o)]) (fun s _ => 40 - (intOf s).toNat)
  case atStart => exact ⟨0, _, _, by omega, rfl, S1.out⟩
  case round =>
    clear S1
    obtain ⟨i, T, m, hi, rfl, s1⟩ := hrel
    have S1 := hid s1
    clear s1
    by_cases hlt : i < X.length ∧ i < 40
    · obtain ⟨hl1, hl2⟩ := hlt
      have hl2z : (i : Int) < 40 := by omega
      obtain ⟨x, hx⟩ : ∃ x, X[i]? = some x := ⟨_, List.getElem?_eq_getElem hl1⟩
      obtain ⟨xk, xl, xn, xf, xt⟩ := x
      obtain ⟨-, b0, o0, rfl, -⟩ := Ops.at HX.out hx
      have HC : Hid (∀ u, Below r w u → u.cell? ⟨b0, o0 + i * 5 + 1, none⟩ = some (.int .i64 xl) ∧ u.cell? ⟨b0, o0 + i * 5 + 2, none⟩ = some (.int .i64 xn) ∧ u.cell? ⟨b0, o0 + i * 5 + 3, none⟩ = some (.int .i64 xf) ∧ u.cell? ⟨b0, o0 + i * 5 + 4, none⟩ = some (.int .i64 xt)) := fun u hu => by
        obtain ⟨-, b9, o9, e9, d0, d1, d2, d3, d4⟩ := Ops.at (SeeK.below HX.out hu (by rw [HR.out]; exact Nat.le_refl _)) hx
        cases e9
        exact ⟨d1, d2, d3, d4⟩
      clear hx
      generalize X.length = n0 at *
      have hl1z : (i : Int) < (n0 : Int) := by omega
      obtain ⟨za, hza, eza⟩ := mask63 xl
      obtain ⟨zb, hzb, ezb⟩ := mask_is xl 12 (by decide)
      have ezb' : bits .and .i64 xl 4095 = (zb : Int) := ezb
      clear ezb
      have hS : wr.drew.cell? ⟨b0, o0 + i * 5 + 1, none⟩ = some (.int .i64 xl) ∧ wr.drew.cell? ⟨b0, o0 + i * 5 + 2, none⟩ = some (.int .i64 xn) ∧ wr.drew.cell? ⟨b0, o0 + i * 5 + 3, none⟩ = some (.int .i64 xf) ∧ wr.drew.cell? ⟨b0, o0 + i * 5 + 4, none⟩ = some (.int .i64 xt) := HC.out _ S1.out.drew.low
      go_wp2_with fail
      go_region_held3 (fun W => W.cell? ⟨b0, o0 + i * 5 + 1, none⟩ = some (.int .i64 xl) ∧ W.cell? ⟨b0, o0 + i * 5 + 2, none⟩ = some (.int .i64 xn) ∧ W.cell? ⟨b0, o0 + i * 5 + 3, none⟩ = some (.int .i64 xf) ∧ W.cell? ⟨b0, o0 + i * 5 + 4, none⟩ = some (.int .i64 xt)) ((first | with_reducible assumption | with_reducible exact hS))
        (first | (go_at_call 10; (with_reducible refine Calls.mono (table_sep S1.out.drew za xn) ?_); rintro e w3 ⟨rfl, m3, s3⟩; have h3 : w3.cell? ⟨b0, o0 + i * 5 + 1, none⟩ = some (.int .i64 xl) ∧ w3.cell? ⟨b0, o0 + i * 5 + 2, none⟩ = some (.int .i64 xn) ∧ w3.cell? ⟨b0, o0 + i * 5 + 3, none⟩ = some (.int .i64 xf) ∧ w3.cell? ⟨b0, o0 + i * 5 + 4, none⟩ = some (.int .i64 xt) := HC.out _ s3.low; have S3 := hid s3; clear s3 S1))
      clear hS h3
      have hS : w3.drew.cell? ⟨b0, o0 + i * 5 + 1, none⟩ = some (.int .i64 xl) ∧ w3.drew.cell? ⟨b0, o0 + i * 5 + 2, none⟩ = some (.int .i64 xn) ∧ w3.drew.cell? ⟨b0, o0 + i * 5 + 3, none⟩ = some (.int .i64 xf) ∧ w3.drew.cell? ⟨b0, o0 + i * 5 + 4, none⟩ = some (.int .i64 xt) := HC.out _ S3.out.drew.low
      go_wp2_with fail
      go_region_held3 (fun W => W.cell? ⟨b0, o0 + i * 5 + 1, none⟩ = some (.int .i64 xl) ∧ W.cell? ⟨b0, o0 + i * 5 + 2, none⟩ = some (.int .i64 xn) ∧ W.cell? ⟨b0, o0 + i * 5 + 3, none⟩ = some (.int .i64 xf) ∧ W.cell? ⟨b0, o0 + i * 5 + 4, none⟩ = some (.int .i64 xt)) ((first | with_reducible assumption | with_reducible exact hS))
        (first | (go_at_call 14; (with_reducible refine Calls.mono (map_sep S3.out.drew zb ⟨xf, xt⟩) ?_); rintro e w4 ⟨rfl, s4⟩; have h4 : w4.cell? ⟨b0, o0 + i * 5 + 1, none⟩ = some (.int .i64 xl) ∧ w4.cell? ⟨b0, o0 + i * 5 + 2, none⟩ = some (.int .i64 xn) ∧ w4.cell? ⟨b0, o0 + i * 5 + 3, none⟩ = some (.int .i64 xf) ∧ w4.cell? ⟨b0, o0 + i * 5 + 4, none⟩ = some (.int .i64 xt) := HC.out _ s4.low; have S4 := hid s4; clear s4 S3))
      clear hS h4
      go_wp2
      go_roundw
      case rel => exact ⟨i + 1, _, m3, by omega, by go_num, S4.out⟩
      case measure => simp [intOf]; omega
    · 
      have hor : (¬ i < X.length) ∨ (i < X.length ∧ ¬ i < 40) := by omega
      clear hlt
      rcases hor with hge | ⟨hl1, hge⟩
      · have hgez : ¬ (i : Int) < (X.length : Int) := by omega
        generalize X.length = n0 at *
        have gT : Good T := SpP.good S1.out.head
        have HNow : Hid _ := now_is gT (n := (n : Int)) (y := (y : Int)) (r := (rr : Int)) (by omega) (by omega)
        have g2 : Good (rgtS (unmS T n) y rr) := good_rgt (good_unm gT n) y rr
        have HDr : Hid _ := drop_is g2 (d := N64) (by omega)
        have HRg : Hid (∀ x ∈ allP (rgtS (unmS T n) y rr).f, 0 ≤ x.1 ∧ x.1 < 4096) := fun x hx => by
          have h := (seg_mem (a := 0) (k := 4096) (n := x.1) (p := x.2)).1 hx
          exact ⟨by omega, by omega⟩
        have HLn := hid (And.intro (all_len T.f) (And.intro (all_len (rgtS (unmS T n) y rr).f) (all_len (drpS (rgtS (unmS T n) y rr) N64).f)))
        clear gT g2
        go_wp2_with fail
        refine Calls.mono (pages_sep S1.out) ?_
        rintro e w2 ⟨va, rfl, s2⟩
        obtain ⟨aa, ca, rfl⟩ := s2.listIs (E := elL) (v := va) (A := allP T.f) (by simp)
        obtain ⟨-, c1, c2, -, -⟩ := s2.opAt (q := r) (x := o) (by simp)
        have S2 := hid s2
        clear s2 S1
        go_wp2_with fail
        refine Calls.mono (unmap_sep S2.out (n : Int)) ?_
        rintro e w3 ⟨rfl, s3⟩
        clear c1 c2
        obtain ⟨-, c1, c2, -, -⟩ := s3.opAt (q := r) (x := o) (by simp)
        have S3 := hid s3
        clear s3 S2
        generalize (wlkP T (n : Int)).fr = j1 at *
        generalize (wlkP T (n : Int)).rt = j2 at *
        generalize unmE T (n : Int) = j3 at *
        go_wp2_with fail
        refine Calls.mono (rights_sep S3.out (y : Int) (rr : Int)) ?_
        rintro e w4 ⟨rfl, s4⟩
        have S4 := hid s4
        clear s4 S3 c1 c2
        generalize rgtE (unmS T (n : Int)) (y : Int) (rr : Int) = j4 at *
        generalize rgtS (unmS T (n : Int)) (y : Int) (rr : Int) = T2 at *
        go_wp2_with fail
        refine Calls.mono (pages_sep S4.out) ?_
        rintro e w5 ⟨vb, rfl, s5⟩
        obtain ⟨ab, cb, rfl⟩ := s5.listIs (E := elL) (v := vb) (A := allP T2.f) (by simp)
        have S5 := hid s5
        clear s5 S4
        generalize allP T.f = L at *
        generalize allP T2.f = M at *
        generalize hN : L.length = N at *
        have HN := hid hN
        clear hN
        generalize hM : M.length = NM at *
        have HM := hid hM
        clear hM
        go_wp2_with fail
        go_loopw [10, 11] (fun s10 s11 wx => ∃ i : Nat, i ≤ N ∧ s11 = .int .i64 i ∧ s10 = .int .i64 (((L.take i).filter (offN n)).length : Nat) ∧ Sep w r wx [spT p m T2, lstL (.slice ab NM cb) M, lstL (.slice aa N ca) L, blk r (objO o)]) (fun _ s11 _ => N - (intOf s11).toNat)
        case atStart => exact ⟨0, by omega, rfl, rfl, S5.out⟩
        case round =>
          clear S5
          obtain ⟨i, hi, rfl, rfl, s2⟩ := hrel
          have hN4 : N ≤ 4096 := HLn.out.1
          have hM4 : NM ≤ 4096 := HLn.out.2.1
          have S2 := hid s2
          have hfl : ((L.take i).filter (offN n)).length ≤ 4096 := Nat.le_trans (List.length_filter_le _ _) (by rw [List.length_take]; omega)
          by_cases hlt : i < N
          · have hltz : (i : Int) < (N : Int) := by omega
            have hi1 : i < L.length := by have := HN.out; omega
            obtain ⟨x, hx⟩ : ∃ x, L[i]? = some x := ⟨_, List.getElem?_eq_getElem hi1⟩
            obtain ⟨q, rfl, hc⟩ := s2.listAt okL (ao := aa) (n := N) (cap := ca) (A := L) (by simp) hx
            have hnx := filt_next (P := offN n) hx
            obtain ⟨xa, xf, xt⟩ := x
            have c0 : wr.cell? ⟨q, i * 3, none⟩ = some (.int .i64 xa) := hc 0 _ rfl
            have c1 : wr.cell? ⟨q, i * 3 + 1, none⟩ = some (.int .i64 xf) := hc 1 _ rfl
            have c2 : wr.cell? ⟨q, i * 3 + 2, none⟩ = some (.int .i64 xt) := hc 2 _ rfl
            obtain ⟨-, -, d2, -, -⟩ := s2.opAt (q := r) (x := o) (by simp)
            by_cases hxa : xa = (n : Int)
            · have hq : (xa == (n : Int)) = true := by simpa using hxa
              rw [if_neg (by simp [offN, hxa])] at hnx
              have HNx := hid hnx
              generalize ((L.take i).filter (offN n)).length = jj at *
              clear s2 hx hi1 hc hxa hnx
              go_wp2
              go_roundw
              case rel => exact ⟨i + 1, by omega, by go_num, by rw [HNx.out]; go_num, S2.out⟩
              case measure => simp [intOf]; omega
            · have hq : (xa == (n : Int)) = false := by simpa using hxa
              have hpx : offN n (xa, ⟨xf, xt⟩) = true := by simp [offN, hxa]
              rw [if_pos hpx] at hnx
              have HNx := hid hnx
              have hM9 : M[((L.take i).filter (offN n)).length]? = some (chg y rr (xa, ⟨xf, xt⟩)) := by
                rw [HNow.out, List.getElem?_map, filt_at hx hpx]
                rfl
              generalize ((L.take i).filter (offN n)).length = jj at *
              have hjl : jj < M.length := (List.getElem?_eq_some_iff.1 hM9).1
              rw [HM.out] at hjl
              obtain ⟨q', rfl, hc'⟩ := s2.listAt okL (ao := ab) (n := NM) (cap := cb) (A := M) (by simp) hM9
              have hj1 : decide ((NM : Int) ≤ (jj : Int)) = false := by rw [decide_eq_false_iff_not]; omega
              have hj3 : decide (NM ≤ jj) = false := by rw [decide_eq_false_iff_not]; omega
              have hj2 : (jj : Int) < (NM : Int) := by omega
              by_cases hxy : xa = (y : Int)
              · have hq2 : (xa == (y : Int)) = true := by simpa using hxy
                have hq3 : (xa != (y : Int)) = false := by simpa using hxy
                have ec : chg y rr (xa, ⟨xf, xt⟩) = (xa, ⟨xf, rr⟩) := by unfold chg; simp only; rw [if_pos hxy]
                rw [ec] at hc'
                have b0 : wr.cell? ⟨q', jj * 3, none⟩ = some (.int .i64 xa) := hc' 0 _ rfl
                have b1 : wr.cell? ⟨q', jj * 3 + 1, none⟩ = some (.int .i64 xf) := hc' 1 _ rfl
                have b2 : wr.cell? ⟨q', jj * 3 + 2, none⟩ = some (.int .i64 (rr : Int)) := hc' 2 _ rfl
                clear s2 hx hi1 hc hc' hxa hnx hM9 hjl hxy ec hpx
                go_wp2_with fail
                (try simp only [List.append_eq, List.cons_append, List.nil_append])
                go_quiet (fail)
                go_wp2
                go_roundw
                case rel => exact ⟨i + 1, by omega, by go_num, by rw [HNx.out]; go_num, S2.out.drewN _⟩
                case measure => simp [intOf]; omega
              · have hq2 : (xa == (y : Int)) = false := by simpa using hxy
                have hq3 : (xa != (y : Int)) = true := by simpa using hxy
                have ec : chg y rr (xa, ⟨xf, xt⟩) = (xa, ⟨xf, xt⟩) := by unfold chg; simp only; rw [if_neg hxy]
                rw [ec] at hc'
                have b0 : wr.cell? ⟨q', jj * 3, none⟩ = some (.int .i64 xa) := hc' 0 _ rfl
                have b1 : wr.cell? ⟨q', jj * 3 + 1, none⟩ = some (.int .i64 xf) := hc' 1 _ rfl
                have b2 : wr.cell? ⟨q', jj * 3 + 2, none⟩ = some (.int .i64 xt) := hc' 2 _ rfl
                have he : ∀ W, (Op.equalIn 10000 53 (.agg #[.int .i64 xa, .int .i64 xf, .int .i64 xt]) (.agg #[.int .i64 xa, .int .i64 xf, .int .i64 xt])).run Try.prog W = .ok true W := fun W => (eq_laid W xa xf xt xa xf xt).trans (by rw [laB_self])
                clear s2 hx hi1 hc hc' hxa hnx hM9 hjl hxy ec hpx
                go_wp2_with fail
                (try simp only [List.append_eq, List.cons_append, List.nil_append])
                go_quiet (fail)
                go_wp2
                go_roundw
                case rel => exact ⟨i + 1, by omega, by go_num, by rw [HNx.out]; go_num, S2.out.drewN _⟩
                case measure => simp [intOf]; omega
          · have hltz : ¬ (i : Int) < (N : Int) := by omega
            have e1 : L.take i = L := List.take_of_length_le (by have := HN.out; omega)
            have hjN : ((L.take i).filter (offN n)).length = NM := by
              rw [e1, ← HM.out, HNow.out, List.length_map]
            rw [hjN] at hfl ⊢
            clear s2 e1 hjN
            go_wp2_with fail
            refine Calls.mono (drop_sep S2.out N64) ?_
            rintro e w6 ⟨v6, m6, rfl, s6⟩
            have S6 := hid s6.drop2
            clear s6 S2
            generalize drpE T2 N64 = j5 at *
            generalize drpL T2 N64 = j6 at *
            generalize drpS T2 N64 = T3 at *
            go_wp2_with fail
            refine Calls.mono (pages_sep S6.out) ?_
            rintro e w7 ⟨vc, rfl, s7⟩
            obtain ⟨ac, cc, rfl⟩ := s7.listIs (E := elL) (v := vc) (A := allP T3.f) (by simp)
            have S7 := hid s7
            clear s7 S6
            generalize allP T3.f = Q at *
            generalize hQ : Q.length = NQ at *
            have HQ := hid hQ
            clear hQ
            go_wp2_with fail
            go_loopw [13, 14] (fun s13 s14 wx => ∃ i : Nat, i ≤ NM ∧ s14 = .int .i64 i ∧ s13 = .int .i64 (((M.take i).filter (offT N64)).length : Nat) ∧ Sep w r wx [spT p m6 T3, lstL (.slice ac NQ cc) Q, lstL (.slice ab NM cb) M, lstL (.slice aa N ca) L, blk r (objO o)]) (fun _ s14 _ => NM - (intOf s14).toNat)
            case atStart => exact ⟨0, by omega, rfl, rfl, S7.out⟩
            case round =>
              clear S7
              obtain ⟨i, hi, rfl, rfl, s2⟩ := hrel
              have hQ4 : NQ ≤ 4096 := HLn.out.2.2
              have S2 := hid s2
              have hfl : ((M.take i).filter (offT N64)).length ≤ 4096 := Nat.le_trans (List.length_filter_le _ _) (by rw [List.length_take]; omega)
              by_cases hlt : i < NM
              · have hltz : (i : Int) < (NM : Int) := by omega
                have hi1 : i < M.length := by have := HM.out; omega
                obtain ⟨x, hx⟩ : ∃ x, M[i]? = some x := ⟨_, List.getElem?_eq_getElem hi1⟩
                obtain ⟨q, rfl, hc⟩ := s2.listAt okL (ao := ab) (n := NM) (cap := cb) (A := M) (by simp) hx
                have hnx := filt_next (P := offT N64) hx
                have hxr := HRg.out x (List.mem_of_getElem? hx)
                obtain ⟨xa, xf, xt⟩ := x
                simp only at hxr
                have c0 : wr.cell? ⟨q, i * 3, none⟩ = some (.int .i64 xa) := hc 0 _ rfl
                have c1 : wr.cell? ⟨q, i * 3 + 1, none⟩ = some (.int .i64 xf) := hc 1 _ rfl
                have c2 : wr.cell? ⟨q, i * 3 + 2, none⟩ = some (.int .i64 xt) := hc 2 _ rfl
                obtain ⟨d, hd⟩ : ∃ d : Int, xa / 64 = d := ⟨_, rfl⟩
                have hd2 : xa.tdiv 64 = d := by rw [Int.tdiv_eq_ediv_of_nonneg hxr.1]; exact hd
                have hdw : IntKind.i64.wrap d = d := by rw [IntKind.wrap_i64]; omega
                by_cases hxa : d = N64
                · have hq : (d == N64) = true := by simpa using hxa
                  rw [if_neg (by simp [offT, hd, hxa])] at hnx
                  have HNx := hid hnx
                  generalize ((M.take i).filter (offT N64)).length = jj at *
                  clear s2 hx hi1 hc hxa hnx hxr
                  go_wp2
                  go_roundw
                  case rel => exact ⟨i + 1, by omega, by go_num, by rw [HNx.out]; go_num, S2.out⟩
                  case measure => simp [intOf]; omega
                · have hq : (d == N64) = false := by simpa using hxa
                  have hpx : offT N64 (xa, ⟨xf, xt⟩) = true := by simp [offT, hd, hxa]
                  rw [if_pos hpx] at hnx
                  have HNx := hid hnx
                  have hQ9 : Q[((M.take i).filter (offT N64)).length]? = some (xa, ⟨xf, xt⟩) := by
                    rw [HDr.out, filt_at hx hpx]
                  generalize ((M.take i).filter (offT N64)).length = jj at *
                  have hjl : jj < Q.length := (List.getElem?_eq_some_iff.1 hQ9).1
                  rw [HQ.out] at hjl
                  obtain ⟨q', rfl, hc'⟩ := s2.listAt okL (ao := ac) (n := NQ) (cap := cc) (A := Q) (by simp) hQ9
                  have hj1 : decide ((NQ : Int) ≤ (jj : Int)) = false := by rw [decide_eq_false_iff_not]; omega
                  have hj3 : decide (NQ ≤ jj) = false := by rw [decide_eq_false_iff_not]; omega
                  have hj2 : (jj : Int) < (NQ : Int) := by omega
                  have b0 : wr.cell? ⟨q', jj * 3, none⟩ = some (.int .i64 xa) := hc' 0 _ rfl
                  have b1 : wr.cell? ⟨q', jj * 3 + 1, none⟩ = some (.int .i64 xf) := hc' 1 _ rfl
                  have b2 : wr.cell? ⟨q', jj * 3 + 2, none⟩ = some (.int .i64 xt) := hc' 2 _ rfl
                  have he : ∀ W, (Op.equalIn 10000 53 (.agg #[.int .i64 xa, .int .i64 xf, .int .i64 xt]) (.agg #[.int .i64 xa, .int .i64 xf, .int .i64 xt])).run Try.prog W = .ok true W := fun W => (eq_laid W xa xf xt xa xf xt).trans (by rw [laB_self])
                  clear s2 hx hi1 hc hc' hxa hnx hQ9 hjl hpx hxr
                  go_wp2_with fail
                  go_quiet (fail)
                  go_wp2
                  go_roundw
                  case rel => exact ⟨i + 1, by omega, by go_num, by rw [HNx.out]; go_num, S2.out.drewN _⟩
                  case measure => simp [intOf]; omega
              · have hltz : ¬ (i : Int) < (NM : Int) := by omega
                have e1 : M.take i = M := List.take_of_length_le (by have := HM.out; omega)
                have hjN : ((M.take i).filter (offT N64)).length = NQ := by
                  rw [e1, ← HQ.out, HDr.out]
                rw [hjN]
                clear s2 e1 hjN hfl
                go_wp2_with (go_at_call 31; refine Calls.mono (fixed_sep S2.out) ?_; rintro e wf ⟨rfl, sf⟩; have SF := hid sf; clear sf S2)
                go_ret
                exact ⟨rfl, by rw [HR.out]; exact SF.out.low⟩
      · have hl1z : (i : Int) < (X.length : Int) := by omega
        have hgez : ¬ (i : Int) < 40 := by omega
        generalize X.length = n0 at *
        have gT : Good T := SpP.good S1.out.head
        have HNow : Hid _ := now_is gT (n := (n : Int)) (y := (y : Int)) (r := (rr : Int)) (by omega) (by omega)
        have g2 : Good (rgtS (unmS T n) y rr) := good_rgt (good_unm gT n) y rr
        have HDr : Hid _ := drop_is g2 (d := N64) (by omega)
        have HRg : Hid (∀ x ∈ allP (rgtS (unmS T n) y rr).f, 0 ≤ x.1 ∧ x.1 < 4096) := fun x hx => by
          have h := (seg_mem (a := 0) (k := 4096) (n := x.1) (p := x.2)).1 hx
          exact ⟨by omega, by omega⟩
        have HLn := hid (And.intro (all_len T.f) (And.intro (all_len (rgtS (unmS T n) y rr).f) (all_len (drpS (rgtS (unmS T n) y rr) N64).f)))
        clear gT g2
        go_wp2_with fail
        refine Calls.mono (pages_sep S1.out) ?_
        rintro e w2 ⟨va, rfl, s2⟩
        obtain ⟨aa, ca, rfl⟩ := s2.listIs (E := elL) (v := va) (A := allP T.f) (by simp)
        obtain ⟨-, c1, c2, -, -⟩ := s2.opAt (q := r) (x := o) (by simp)
        have S2 := hid s2
        clear s2 S1
        go_wp2_with fail
        refine Calls.mono (unmap_sep S2.out (n : Int)) ?_
        rintro e w3 ⟨rfl, s3⟩
        clear c1 c2
        obtain ⟨-, c1, c2, -, -⟩ := s3.opAt (q := r) (x := o) (by simp)
        have S3 := hid s3
        clear s3 S2
        generalize (wlkP T (n : Int)).fr = j1 at *
        generalize (wlkP T (n : Int)).rt = j2 at *
        generalize unmE T (n : Int) = j3 at *
        go_wp2_with fail
        refine Calls.mono (rights_sep S3.out (y : Int) (rr : Int)) ?_
        rintro e w4 ⟨rfl, s4⟩
        have S4 := hid s4
        clear s4 S3 c1 c2
        generalize rgtE (unmS T (n : Int)) (y : Int) (rr : Int) = j4 at *
        generalize rgtS (unmS T (n : Int)) (y : Int) (rr : Int) = T2 at *
        go_wp2_with fail
        refine Calls.mono (pages_sep S4.out) ?_
        rintro e w5 ⟨vb, rfl, s5⟩
        obtain ⟨ab, cb, rfl⟩ := s5.listIs (E := elL) (v := vb) (A := allP T2.f) (by simp)
        have S5 := hid s5
        clear s5 S4
        generalize allP T.f = L at *
        generalize allP T2.f = M at *
        generalize hN : L.length = N at *
        have HN := hid hN
        clear hN
        generalize hM : M.length = NM at *
        have HM := hid hM
        clear hM
        go_wp2_with fail
        go_loopw [10, 11] (fun s10 s11 wx => ∃ i : Nat, i ≤ N ∧ s11 = .int .i64 i ∧ s10 = .int .i64 (((L.take i).filter (offN n)).length : Nat) ∧ Sep w r wx [spT p m T2, lstL (.slice ab NM cb) M, lstL (.slice aa N ca) L, blk r (objO o)]) (fun _ s11 _ => N - (intOf s11).toNat)
        case atStart => exact ⟨0, by omega, rfl, rfl, S5.out⟩
        case round =>
          clear S5
          obtain ⟨i, hi, rfl, rfl, s2⟩ := hrel
          have hN4 : N ≤ 4096 := HLn.out.1
          have hM4 : NM ≤ 4096 := HLn.out.2.1
          have S2 := hid s2
          have hfl : ((L.take i).filter (offN n)).length ≤ 4096 := Nat.le_trans (List.length_filter_le _ _) (by rw [List.length_take]; omega)
          by_cases hlt : i < N
          · have hltz : (i : Int) < (N : Int) := by omega
            have hi1 : i < L.length := by have := HN.out; omega
            obtain ⟨x, hx⟩ : ∃ x, L[i]? = some x := ⟨_, List.getElem?_eq_getElem hi1⟩
            obtain ⟨q, rfl, hc⟩ := s2.listAt okL (ao := aa) (n := N) (cap := ca) (A := L) (by simp) hx
            have hnx := filt_next (P := offN n) hx
            obtain ⟨xa, xf, xt⟩ := x
            have c0 : wr.cell? ⟨q, i * 3, none⟩ = some (.int .i64 xa) := hc 0 _ rfl
            have c1 : wr.cell? ⟨q, i * 3 + 1, none⟩ = some (.int .i64 xf) := hc 1 _ rfl
            have c2 : wr.cell? ⟨q, i * 3 + 2, none⟩ = some (.int .i64 xt) := hc 2 _ rfl
            obtain ⟨-, -, d2, -, -⟩ := s2.opAt (q := r) (x := o) (by simp)
            by_cases hxa : xa = (n : Int)
            · have hq : (xa == (n : Int)) = true := by simpa using hxa
              rw [if_neg (by simp [offN, hxa])] at hnx
              have HNx := hid hnx
              generalize ((L.take i).filter (offN n)).length = jj at *
              clear s2 hx hi1 hc hxa hnx
              go_wp2
              go_roundw
              case rel => exact ⟨i + 1, by omega, by go_num, by rw [HNx.out]; go_num, S2.out⟩
              case measure => simp [intOf]; omega
            · have hq : (xa == (n : Int)) = false := by simpa using hxa
              have hpx : offN n (xa, ⟨xf, xt⟩) = true := by simp [offN, hxa]
              rw [if_pos hpx] at hnx
              have HNx := hid hnx
              have hM9 : M[((L.take i).filter (offN n)).length]? = some (chg y rr (xa, ⟨xf, xt⟩)) := by
                rw [HNow.out, List.getElem?_map, filt_at hx hpx]
                rfl
              generalize ((L.take i).filter (offN n)).length = jj at *
              have hjl : jj < M.length := (List.getElem?_eq_some_iff.1 hM9).1
              rw [HM.out] at hjl
              obtain ⟨q', rfl, hc'⟩ := s2.listAt okL (ao := ab) (n := NM) (cap := cb) (A := M) (by simp) hM9
              have hj1 : decide ((NM : Int) ≤ (jj : Int)) = false := by rw [decide_eq_false_iff_not]; omega
              have hj3 : decide (NM ≤ jj) = false := by rw [decide_eq_false_iff_not]; omega
              have hj2 : (jj : Int) < (NM : Int) := by omega
              by_cases hxy : xa = (y : Int)
              · have hq2 : (xa == (y : Int)) = true := by simpa using hxy
                have hq3 : (xa != (y : Int)) = false := by simpa using hxy
                have ec : chg y rr (xa, ⟨xf, xt⟩) = (xa, ⟨xf, rr⟩) := by unfold chg; simp only; rw [if_pos hxy]
                rw [ec] at hc'
                have b0 : wr.cell? ⟨q', jj * 3, none⟩ = some (.int .i64 xa) := hc' 0 _ rfl
                have b1 : wr.cell? ⟨q', jj * 3 + 1, none⟩ = some (.int .i64 xf) := hc' 1 _ rfl
                have b2 : wr.cell? ⟨q', jj * 3 + 2, none⟩ = some (.int .i64 (rr : Int)) := hc' 2 _ rfl
                clear s2 hx hi1 hc hc' hxa hnx hM9 hjl hxy ec hpx
                go_wp2_with fail
                (try simp only [List.append_eq, List.cons_append, List.nil_append])
                go_quiet (fail)
                go_wp2
                go_roundw
                case rel => exact ⟨i + 1, by omega, by go_num, by rw [HNx.out]; go_num, S2.out.drewN _⟩
                case measure => simp [intOf]; omega
              · have hq2 : (xa == (y : Int)) = false := by simpa using hxy
                have hq3 : (xa != (y : Int)) = true := by simpa using hxy
                have ec : chg y rr (xa, ⟨xf, xt⟩) = (xa, ⟨xf, xt⟩) := by unfold chg; simp only; rw [if_neg hxy]
                rw [ec] at hc'
                have b0 : wr.cell? ⟨q', jj * 3, none⟩ = some (.int .i64 xa) := hc' 0 _ rfl
                have b1 : wr.cell? ⟨q', jj * 3 + 1, none⟩ = some (.int .i64 xf) := hc' 1 _ rfl
                have b2 : wr.cell? ⟨q', jj * 3 + 2, none⟩ = some (.int .i64 xt) := hc' 2 _ rfl
                have he : ∀ W, (Op.equalIn 10000 53 (.agg #[.int .i64 xa, .int .i64 xf, .int .i64 xt]) (.agg #[.int .i64 xa, .int .i64 xf, .int .i64 xt])).run Try.prog W = .ok true W := fun W => (eq_laid W xa xf xt xa xf xt).trans (by rw [laB_self])
                clear s2 hx hi1 hc hc' hxa hnx hM9 hjl hxy ec hpx
                go_wp2_with fail
                (try simp only [List.append_eq, List.cons_append, List.nil_append])
                go_quiet (fail)
                go_wp2
                go_roundw
                case rel => exact ⟨i + 1, by omega, by go_num, by rw [HNx.out]; go_num, S2.out.drewN _⟩
                case measure => simp [intOf]; omega
          · have hltz : ¬ (i : Int) < (N : Int) := by omega
            have e1 : L.take i = L := List.take_of_length_le (by have := HN.out; omega)
            have hjN : ((L.take i).filter (offN n)).length = NM := by
              rw [e1, ← HM.out, HNow.out, List.length_map]
            rw [hjN] at hfl ⊢
            clear s2 e1 hjN
            go_wp2_with fail
            refine Calls.mono (drop_sep S2.out N64) ?_
            rintro e w6 ⟨v6, m6, rfl, s6⟩
            have S6 := hid s6.drop2
            clear s6 S2
            generalize drpE T2 N64 = j5 at *
            generalize drpL T2 N64 = j6 at *
            generalize drpS T2 N64 = T3 at *
            go_wp2_with fail
            refine Calls.mono (pages_sep S6.out) ?_
            rintro e w7 ⟨vc, rfl, s7⟩
            obtain ⟨ac, cc, rfl⟩ := s7.listIs (E := elL) (v := vc) (A := allP T3.f) (by simp)
            have S7 := hid s7
            clear s7 S6
            generalize allP T3.f = Q at *
            generalize hQ : Q.length = NQ at *
            have HQ := hid hQ
            clear hQ
            go_wp2_with fail
            go_loopw [13, 14] (fun s13 s14 wx => ∃ i : Nat, i ≤ NM ∧ s14 = .int .i64 i ∧ s13 = .int .i64 (((M.take i).filter (offT N64)).length : Nat) ∧ Sep w r wx [spT p m6 T3, lstL (.slice ac NQ cc) Q, lstL (.slice ab NM cb) M, lstL (.slice aa N ca) L, blk r (objO o)]) (fun _ s14 _ => NM - (intOf s14).toNat)
            case atStart => exact ⟨0, by omega, rfl, rfl, S7.out⟩
            case round =>
              clear S7
              obtain ⟨i, hi, rfl, rfl, s2⟩ := hrel
              have hQ4 : NQ ≤ 4096 := HLn.out.2.2
              have S2 := hid s2
              have hfl : ((M.take i).filter (offT N64)).length ≤ 4096 := Nat.le_trans (List.length_filter_le _ _) (by rw [List.length_take]; omega)
              by_cases hlt : i < NM
              · have hltz : (i : Int) < (NM : Int) := by omega
                have hi1 : i < M.length := by have := HM.out; omega
                obtain ⟨x, hx⟩ : ∃ x, M[i]? = some x := ⟨_, List.getElem?_eq_getElem hi1⟩
                obtain ⟨q, rfl, hc⟩ := s2.listAt okL (ao := ab) (n := NM) (cap := cb) (A := M) (by simp) hx
                have hnx := filt_next (P := offT N64) hx
                have hxr := HRg.out x (List.mem_of_getElem? hx)
                obtain ⟨xa, xf, xt⟩ := x
                simp only at hxr
                have c0 : wr.cell? ⟨q, i * 3, none⟩ = some (.int .i64 xa) := hc 0 _ rfl
                have c1 : wr.cell? ⟨q, i * 3 + 1, none⟩ = some (.int .i64 xf) := hc 1 _ rfl
                have c2 : wr.cell? ⟨q, i * 3 + 2, none⟩ = some (.int .i64 xt) := hc 2 _ rfl
                obtain ⟨d, hd⟩ : ∃ d : Int, xa / 64 = d := ⟨_, rfl⟩
                have hd2 : xa.tdiv 64 = d := by rw [Int.tdiv_eq_ediv_of_nonneg hxr.1]; exact hd
                have hdw : IntKind.i64.wrap d = d := by rw [IntKind.wrap_i64]; omega
                by_cases hxa : d = N64
                · have hq : (d == N64) = true := by simpa using hxa
                  rw [if_neg (by simp [offT, hd, hxa])] at hnx
                  have HNx := hid hnx
                  generalize ((M.take i).filter (offT N64)).length = jj at *
                  clear s2 hx hi1 hc hxa hnx hxr
                  go_wp2
                  go_roundw
                  case rel => exact ⟨i + 1, by omega, by go_num, by rw [HNx.out]; go_num, S2.out⟩
                  case measure => simp [intOf]; omega
                · have hq : (d == N64) = false := by simpa using hxa
                  have hpx : offT N64 (xa, ⟨xf, xt⟩) = true := by simp [offT, hd, hxa]
                  rw [if_pos hpx] at hnx
                  have HNx := hid hnx
                  have hQ9 : Q[((M.take i).filter (offT N64)).length]? = some (xa, ⟨xf, xt⟩) := by
                    rw [HDr.out, filt_at hx hpx]
                  generalize ((M.take i).filter (offT N64)).length = jj at *
                  have hjl : jj < Q.length := (List.getElem?_eq_some_iff.1 hQ9).1
                  rw [HQ.out] at hjl
                  obtain ⟨q', rfl, hc'⟩ := s2.listAt okL (ao := ac) (n := NQ) (cap := cc) (A := Q) (by simp) hQ9
                  have hj1 : decide ((NQ : Int) ≤ (jj : Int)) = false := by rw [decide_eq_false_iff_not]; omega
                  have hj3 : decide (NQ ≤ jj) = false := by rw [decide_eq_false_iff_not]; omega
                  have hj2 : (jj : Int) < (NQ : Int) := by omega
                  have b0 : wr.cell? ⟨q', jj * 3, none⟩ = some (.int .i64 xa) := hc' 0 _ rfl
                  have b1 : wr.cell? ⟨q', jj * 3 + 1, none⟩ = some (.int .i64 xf) := hc' 1 _ rfl
                  have b2 : wr.cell? ⟨q', jj * 3 + 2, none⟩ = some (.int .i64 xt) := hc' 2 _ rfl
                  have he : ∀ W, (Op.equalIn 10000 53 (.agg #[.int .i64 xa, .int .i64 xf, .int .i64 xt]) (.agg #[.int .i64 xa, .int .i64 xf, .int .i64 xt])).run Try.prog W = .ok true W := fun W => (eq_laid W xa xf xt xa xf xt).trans (by rw [laB_self])
                  clear s2 hx hi1 hc hc' hxa hnx hQ9 hjl hpx hxr
                  go_wp2_with fail
                  go_quiet (fail)
                  go_wp2
                  go_roundw
                  case rel => exact ⟨i + 1, by omega, by go_num, by rw [HNx.out]; go_num, S2.out.drewN _⟩
                  case measure => simp [intOf]; omega
              · have hltz : ¬ (i : Int) < (NM : Int) := by omega
                have e1 : M.take i = M := List.take_of_length_le (by have := HM.out; omega)
                have hjN : ((M.take i).filter (offT N64)).length = NQ := by
                  rw [e1, ← HQ.out, HDr.out]
                rw [hjN]
                clear s2 e1 hjN hfl
                go_wp2_with (go_at_call 31; refine Calls.mono (fixed_sep S2.out) ?_; rintro e wf ⟨rfl, sf⟩; have SF := hid sf; clear sf S2)
                go_ret
                exact ⟨rfl, by rw [HR.out]; exact SF.out.low⟩
open Go.ChangeShapes Go.WideShapes Go.ChangeAt Go.RowKit Go.Joins

/-! ### From the walk to the statement -/
set_option maxRecDepth 100000 in
theorem lifted (os : Os) (started : os.Started) (H : Type) (enc : TypeId × Value → H) :
    ReturnsInHanded {} Try.checked os 5 .any (Rows.tablesApartSpec.pre6 enc Try.prog Try.f5 Rows.tablesApartRow.domain false) (Rows.tablesApartSpec.post enc Try.prog Try.f5 false true false false) := by
  refine returnsInHanded_of_change (C := Try.checked) own started (by kernel_rfl) Try.func5
    (ChangeSpec.witness6 (enc := enc) (C := Try.checked) false ⟨#[], #[.slice none 0 0, .agg #[.int .i64 0, .int .i64 0, .int .i64 0, .int .i64 0, .int .i64 0]], []⟩ 8 (by kernel_rfl) (by kernel_rfl) (by kernel_rfl) (by kernel_rfl)) ?_
  intro W base args ds gs before hval0 hW hcnd _
  have hval : ∀ (j : Nat) t v, Try.f5.params[j]? = some t → args[j]? = some v → Value.okWide Try.prog W .any base t v := hval0
  have hW' := hW
  obtain ⟨p, q, hA0, hV, rfl, hfz, hnd⟩ := hW
  have hA : DataW.TrodAll enc Try.prog W 0 (fun _ => true) true Try.f5.params.toList args.toList ds p := hA0
  rw [Try.params5] at hA hval
  obtain ⟨v0, vs0, d0, ds0, p0, q0, hargs, rfl, rfl, h0, r0⟩ := trodAll_cons hA
  obtain ⟨v1, vs1, d1, ds1, p1, q1, rfl, rfl, rfl, h1, r1⟩ := trodAll_cons r0
  obtain ⟨rfl, rfl, rfl⟩ := trodAll_nil r1
  obtain rfl : args = #[v0, v1] := by cases args; simp_all
  obtain ⟨rfl, rfl⟩ := trodVars_none hV
  have k0 := h0
  have lt0 : ∀ x ∈ p0, x.block < W.heap.size := by obtain ⟨m, hm⟩ := k0; exact DataW.trod_lt m _ _ _ hm
  obtain ⟨a0, l0, c0, rfl, t0, s0⟩ := open_ops (hval 0 22 v0 rfl rfl) h0
  have k1 := h1
  have lt1 : ∀ x ∈ p1, x.block < W.heap.size := by obtain ⟨m, hm⟩ := k1; exact DataW.trod_lt m _ _ _ hm
  obtain ⟨a1, rfl, w1⟩ := open_op (hval 1 33 v1 rfl rfl) h1
  clear hA0 hval0
  refine (walk a0 l0 c0 a1 W t0 s0 w1).mono fun e W' ⟨he, bel⟩ => ?_
  subst he
  exact ⟨_, rfl, _, _, _, [], _, [], hW', trodAll_mk1 (shut_bool Try.underlying4 _), (trodAll_cons_mk (Below.trod laidOut (by kernel_rfl) (of_decide_eq_true (by kernel_rfl)) k0 bel lt0) (trodAll_cons_mk (Below.trod laidOut (by kernel_rfl) (of_decide_eq_true (by kernel_rfl)) k1 bel lt1) trodAll_mk0)), rfl, bel.frame _, fun h => by cases h⟩
theorem over : Rows.tablesApartRow.holds Try.pinned (OpenSpec.ofChange Rows.tablesApartSpec) :=
  OpenClaim.holds_of_wide 5 Try.f5 rfl rfl rfl rfl rfl rfl rfl ⟨rfl, rfl, rfl, rfl, rfl⟩ rfl rfl rfl rfl rfl (by kernel_rfl) Try.func5 (by kernel_rfl)
    (of_decide_eq_true (by kernel_rfl)) (by unfold Func.isWrapper; first | (rw [if_pos (by decide +kernel)]; kernel_rfl) | (rw [if_neg (by decide +kernel)]; exact ⟨rfl, rfl⟩))
    (fun os started H enc _ => lifted os started H enc)
end Go.Proofs.Ythjcodkgcffamaa.tablesApart
namespace Go.Proofs.Ythjcodkgcffamaa
/-- THE STATEMENT. -/
theorem tablesApart_said : Rows.TablesApartSaid := tablesApart.over
#print axioms tablesApart_said
end Go.Proofs.Ythjcodkgcffamaa

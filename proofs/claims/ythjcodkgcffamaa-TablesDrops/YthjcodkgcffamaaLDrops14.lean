/-
  A table that is dropped takes just its own pages away; put in again it has none; no condition.
-/
import Derived.Test.YthjcodkgcffamaaPLaw
import Derived.Test.YthjcodkgcffamaaPSay
import Derived.Test.YthjcodkgcffamaaPThree
import Derived.Deep.Cut
import Derived.Deep.CutRange
namespace Go.Proofs.Ythjcodkgcffamaa.tablesDrops
open Go.RowKit Go.Deep Go.Shelf
set_option maxHeartbeats 8000000 in
set_option maxRecDepth 100000 in
theorem walk (ao : Option Addr) (X : List Oc) (cap : Nat) (b : Int) (w : World) (hX : Ops w ao X) (_hxl : X.length ≤ 9223372036854775807) (_hb : I64 b) :
    Calls Try.prog 6 #[.slice ao X.length cap, .int .i64 b] w fun e w' => e = .returned (.bool true) ∧ Below w.heap.size w w' := by
  have HX := hid hX
  obtain ⟨n9, hn9, en9⟩ := mask64k b
  obtain ⟨n, hn, en⟩ := rem_nat n9 3 (by omega)
  have hn3 : n < 3 := by omega
  clear hX
  go_enter Try.func6, Try.ntmps6
  go_wp2_with fail
  refine Calls.mono (new_sep (sep_nil w)) ?_
  rintro e w1 ⟨p, m1, rfl, s1⟩
  have S1 : Hid (Sep w w.heap.size w1 [spT p m1 (thr 0)]) := s1
  clear s1
  generalize hr : w.heap.size = r at *
  have HR := hid hr
  clear hr
  go_wp2_with fail
  go_loopw [6] (fun s wr => ∃ (k : Nat) (m : Nat → Option Nat), k ≤ 3 ∧ s = .int .i64 k ∧ Sep w r wr [spT p m (thr k)]) (fun s _ => 3 - (intOf s).toNat)
  case atStart => exact ⟨0, _, by omega, rfl, S1.out⟩
  case round =>
    clear S1
    obtain ⟨k, m, hk, rfl, s1⟩ := hrel
    have S1 := hid s1
    clear s1
    by_cases hlt : k < 3
    · have hltz : (k : Int) < 3 := by omega
      have hw : IntKind.i64.wrap (10 + (k : Int)) = 10 + (k : Int) := by rw [IntKind.wrap_i64]; omega
      have HN := hid (thr_next hlt)
      go_wp2_with fail
      refine Calls.mono (tab_is S1.out (k : Int) (10 + (k : Int)) HN.out.1 HN.out.2) ?_
      rintro e w2 ⟨rfl, m2, s2⟩
      have S2 := hid s2
      clear s2 S1
      go_wp2
      go_roundw
      case rel => exact ⟨k + 1, m2, by omega, by go_num, S2.out⟩
      case measure => simp [intOf]; omega
    · have hk3 : ((k : Nat) : Int) = 3 := by omega
      simp only [hk3]
      obtain rfl : k = 3 := by omega
      clear hlt hk hk3
      have e3 := thr_is
      rw [e3] at S1
      clear e3
      go_wp2_with fail
      go_loopw [7] (fun s wr => ∃ (i : Nat) (T : Sp) (m : Nat → Option Nat), i ≤ 40 ∧ s = .int .i64 i ∧ T.t = thrT.t ∧ Sep w r wr [spT p m T]) (fun s _ => 40 - (intOf s).toNat)
      case atStart => exact ⟨0, _, _, by omega, rfl, rfl, S1.out⟩
      case round =>
        clear S1
        obtain ⟨i, T, m, hi, rfl, ht, s1⟩ := hrel
        have S1 := hid s1
        have HT := hid ht
        clear s1 ht
        by_cases hlt : i < X.length ∧ i < 40
        · obtain ⟨hl1, hl2⟩ := hlt
          have hl2z : (i : Int) < 40 := by omega
          obtain ⟨x, hx⟩ : ∃ x, X[i]? = some x := ⟨_, List.getElem?_eq_getElem hl1⟩
          obtain ⟨xk, xl, xn, xf, xt⟩ := x
          obtain ⟨-, b0, o0, rfl, -⟩ := Ops.at HX.out hx
          have HC : Hid (∀ u, Below r w u → u.cell? ⟨b0, o0 + i * 5 + 1, none⟩ = some (.int .i64 xl) ∧ u.cell? ⟨b0, o0 + i * 5 + 3, none⟩ = some (.int .i64 xf) ∧ u.cell? ⟨b0, o0 + i * 5 + 4, none⟩ = some (.int .i64 xt)) := fun u hu => by
            obtain ⟨-, b9, o9, e9, -, d1, -, d3, d4⟩ := Ops.at (SeeK.below HX.out hu (by rw [HR.out]; exact Nat.le_refl _)) hx
            cases e9
            exact ⟨d1, d3, d4⟩
          clear hx
          generalize X.length = n at *
          have hl1z : (i : Int) < (n : Int) := by omega
          obtain ⟨a, ha, ea⟩ := mask64k xl
          obtain ⟨z, hz, ez⟩ := rem_nat a 192 (by omega)
          have ez2 : (a : Int).tmod 192 = (z : Int) := by rw [Int.tmod_eq_emod_of_nonneg (by omega)]; exact ez
          have hzw : IntKind.i64.wrap (z : Int) = (z : Int) := by rw [IntKind.wrap_i64]; omega
          have hS : wr.drew.cell? ⟨b0, o0 + i * 5 + 1, none⟩ = some (.int .i64 xl) ∧ wr.drew.cell? ⟨b0, o0 + i * 5 + 3, none⟩ = some (.int .i64 xf) ∧ wr.drew.cell? ⟨b0, o0 + i * 5 + 4, none⟩ = some (.int .i64 xt) := HC.out _ S1.out.drew.low
          obtain ⟨E, hE⟩ : ∃ E, mapE T z ⟨xf, xt⟩ = E := ⟨_, rfl⟩
          obtain ⟨T', hT'⟩ : ∃ T', mapS T z ⟨xf, xt⟩ = T' := ⟨_, rfl⟩
          have HE : Hid (mapE T z ⟨xf, xt⟩ = E ∧ mapS T z ⟨xf, xt⟩ = T' ∧ T'.t = thrT.t) := ⟨hE, hT', by rw [← hT', map_t]; exact HT.out⟩
          clear hE hT' hz
          go_wp2_with fail
          go_region_held3 (fun W => W.cell? ⟨b0, o0 + i * 5 + 1, none⟩ = some (.int .i64 xl) ∧ W.cell? ⟨b0, o0 + i * 5 + 3, none⟩ = some (.int .i64 xf) ∧ W.cell? ⟨b0, o0 + i * 5 + 4, none⟩ = some (.int .i64 xt)) ((first | with_reducible assumption | with_reducible exact hS))
            (first | (go_at_call 14; (with_reducible refine Calls.mono (mp_is S1.out.drew z xf xt HE.out.1 HE.out.2.1) ?_); rintro e w3 ⟨rfl, s3⟩; have h3 : w3.cell? ⟨b0, o0 + i * 5 + 1, none⟩ = some (.int .i64 xl) ∧ w3.cell? ⟨b0, o0 + i * 5 + 3, none⟩ = some (.int .i64 xf) ∧ w3.cell? ⟨b0, o0 + i * 5 + 4, none⟩ = some (.int .i64 xt) := HC.out _ s3.low; have S3 := hid s3; clear s3 S1))
          clear hS h3
          go_wp2
          go_roundw
          case rel => exact ⟨i + 1, T', m, by omega, by go_num, HE.out.2.2, S3.out⟩
          case measure => simp [intOf]; omega
        · 
          have hor : (¬ i < X.length) ∨ (i < X.length ∧ ¬ i < 40) := by omega
          clear hlt
          rcases hor with hge | ⟨hl1, hge⟩
          · have hgez : ¬ (i : Int) < (X.length : Int) := by omega
            generalize X.length = n0 at *
            have HD := hid (three_drop HT.out hn3)
            have SM := hid S1.out.made2
            clear S1
            go_wp2_with fail
            refine Calls.mono (pages_sep SM.out) ?_
            rintro e w2 ⟨va, rfl, s2⟩
            obtain ⟨aa, ca, rfl⟩ := s2.listIs (E := elL) (v := va) (A := allP T.f) (by simp)
            have HL : Hid ((∀ x ∈ allP T.f, 0 ≤ x.1 ∧ x.1 < 4096) ∧ (allP T.f).length ≤ 4096) := ⟨fun x hx => by
              have h := (seg_mem (a := 0) (k := 4096) (n := x.1) (p := x.2)).1 hx
              exact ⟨by omega, by omega⟩, all_len _⟩
            have S2 := hid s2.rot2
            clear s2 SM
            generalize allP T.f = L at *
            generalize wr.heap.size = qr at *
            generalize hN : L.length = N at *
            have HN := hid hN
            clear hN
            go_wp2_with fail
            go_loopw [9, 10, 12] (fun s9 s10 s12 wx => ∃ k : Nat, k ≤ N ∧ s12 = .int .i64 k ∧ Sep w r wx [lstL s9 ((L.take k).filter (fun x => x.1 / 64 == (n : Int))), lstL s10 ((L.take k).filter (fun x => !(x.1 / 64 == (n : Int)))), spT p m T, lstL (.slice aa N ca) L]) (fun _ _ s12 _ => N - (intOf s12).toNat)
            case atStart => exact ⟨0, by omega, rfl, S2.out⟩
            case round =>
              clear S2
              obtain ⟨k, hk, rfl, s2⟩ := hrel
              have hN4 : N ≤ 4096 := HL.out.2
              by_cases hlt : k < N
              · have hltz : (k : Int) < (N : Int) := by omega
                have hk1 : k < L.length := by have := HN.out; omega
                obtain ⟨x, hx⟩ : ∃ x, L[k]? = some x := ⟨_, List.getElem?_eq_getElem hk1⟩
                obtain ⟨q, rfl, hc⟩ := s2.listAt okL (ao := aa) (n := N) (cap := ca) (A := L) (by simp) hx
                have hxr := HL.out.1 x (List.mem_of_getElem? hx)
                obtain ⟨xa, xf, xt⟩ := x
                simp only at hxr
                obtain ⟨d, hd⟩ : ∃ d : Int, xa / 64 = d := ⟨_, rfl⟩
                have hd2 : xa.tdiv 64 = d := by rw [Int.tdiv_eq_ediv_of_nonneg hxr.1]; exact hd
                have hdw : IntKind.i64.wrap d = d := by rw [IntKind.wrap_i64]; omega
                have c0 : wr.cell? ⟨q, k * 3, none⟩ = some (.int .i64 xa) := hc 0 _ rfl
                have c1 : wr.cell? ⟨q, k * 3 + 1, none⟩ = some (.int .i64 xf) := hc 1 _ rfl
                have c2 : wr.cell? ⟨q, k * 3 + 2, none⟩ = some (.int .i64 xt) := hc 2 _ rfl
                have l1 : ((L.take k).filter (fun x => x.1 / 64 == (n : Int))).length ≤ 4096 := Nat.le_trans (List.length_filter_le _ _) (by rw [List.length_take]; omega)
                have l2 : ((L.take k).filter (fun x => !(x.1 / 64 == (n : Int)))).length ≤ 4096 := Nat.le_trans (List.length_filter_le _ _) (by rw [List.length_take]; omega)
                have hT : L.take (k + 1) = L.take k ++ [(xa, ⟨xf, xt⟩)] := by rw [List.take_add_one, hx]; rfl
                obtain ⟨a5, c5, rfl⟩ := s2.listIs (E := elL) (v := u9) (A := (L.take k).filter (fun x => x.1 / 64 == (n : Int))) (by simp)
                obtain ⟨a6, c6, rfl⟩ := s2.listIs (E := elL) (v := u10) (A := (L.take k).filter (fun x => !(x.1 / 64 == (n : Int)))) (by simp)
                by_cases hq : d = (n : Int)
                · have hqb : (d == (n : Int)) = true := by simpa using hq
                  have HT1 : Hid ((L.take (k + 1)).filter (fun x => x.1 / 64 == (n : Int)) = (L.take k).filter (fun x => x.1 / 64 == (n : Int)) ++ [(xa, ⟨xf, xt⟩)] ∧ (L.take (k + 1)).filter (fun x => !(x.1 / 64 == (n : Int))) = (L.take k).filter (fun x => !(x.1 / 64 == (n : Int)))) := by
                    rw [hT, List.filter_append, List.filter_append]
                    constructor <;> simp [hd, hq]
                  obtain ⟨v4, w4, r4, s4⟩ := s2.more okL 27 (xa, ⟨xf, xt⟩) (C := #[.int .i64 xa, .int .i64 xf, .int .i64 xt]) rfl (by omega)
                  simp only [elL] at r4
                  have R4 := hid r4
                  have S4 := hid s4
                  clear s2 s4 r4 hc hx hk1 hT l1 l2 hq hxr
                  generalize ((L.take k).filter (fun x => x.1 / 64 == (n : Int))).length = n1 at *
                  generalize ((L.take k).filter (fun x => !(x.1 / 64 == (n : Int)))).length = n2 at *
                  go_wp2_with (at_builtin; refine wpList_append_run rfl _ _ _ _ rfl _ _ _ _ rfl rfl R4.out ?_)
                  go_roundw
                  case rel => exact ⟨k + 1, by omega, by go_num, by rw [HT1.out.1, HT1.out.2]; exact S4.out⟩
                  case measure => simp [intOf]; omega
                · have hqb : (d == (n : Int)) = false := by simpa using hq
                  have HT1 : Hid ((L.take (k + 1)).filter (fun x => x.1 / 64 == (n : Int)) = (L.take k).filter (fun x => x.1 / 64 == (n : Int)) ∧ (L.take (k + 1)).filter (fun x => !(x.1 / 64 == (n : Int))) = (L.take k).filter (fun x => !(x.1 / 64 == (n : Int))) ++ [(xa, ⟨xf, xt⟩)]) := by
                    rw [hT, List.filter_append, List.filter_append]
                    constructor <;> simp [hd, hq]
                  obtain ⟨v4, w4, r4, s4⟩ := s2.swap.more okL 27 (xa, ⟨xf, xt⟩) (C := #[.int .i64 xa, .int .i64 xf, .int .i64 xt]) rfl (by omega)
                  simp only [elL] at r4
                  have R4 := hid r4
                  have S4 := hid s4.swap
                  clear s2 s4 r4 hc hx hk1 hT l1 l2 hq hxr
                  generalize ((L.take k).filter (fun x => x.1 / 64 == (n : Int))).length = n1 at *
                  generalize ((L.take k).filter (fun x => !(x.1 / 64 == (n : Int)))).length = n2 at *
                  go_wp2_with (at_builtin; refine wpList_append_run rfl _ _ _ _ rfl _ _ _ _ rfl rfl R4.out ?_)
                  go_roundw
                  case rel => exact ⟨k + 1, by omega, by go_num, by rw [HT1.out.1, HT1.out.2]; exact S4.out⟩
                  case measure => simp [intOf]; omega
              · have hltz : ¬ (k : Int) < (N : Int) := by omega
                have e1 : L.take k = L := List.take_of_length_le (by have := HN.out; omega)
                rw [e1] at s2
                have S2 := hid s2.rot2.drop2
                have hw : IntKind.i64.wrap (10 + (n : Int)) = 10 + (n : Int) := by rw [IntKind.wrap_i64]; omega
                have HLn : Hid ((L.filter (fun x => x.1 / 64 == (n : Int))).length ≤ 5000 ∧ (L.filter (fun x => !(x.1 / 64 == (n : Int)))).length ≤ 5000) := ⟨Nat.le_trans (List.length_filter_le _ _) (by have := HN.out; omega), Nat.le_trans (List.length_filter_le _ _) (by have := HN.out; omega)⟩
                clear s2 e1
                generalize L.filter (fun x => x.1 / 64 == (n : Int)) = LF at *
                generalize L.filter (fun x => !(x.1 / 64 == (n : Int))) = LG at *
                go_wp2_with fail
                refine Calls.mono (drp_is S2.out (n : Int) HD.out.1 HD.out.2.1 HD.out.2.2.1) ?_
                rintro e w3 ⟨vd, m3, rfl, s3⟩
                have S3 := hid s3
                clear s3 S2
                go_wp2_with fail
                refine Calls.mono (tab_is S3.out (n : Int) (10 + (n : Int)) HD.out.2.2.2.1 HD.out.2.2.2.2.1) ?_
                rintro e w4 ⟨rfl, m4, s4⟩
                have S4 := hid s4
                clear s4 S3
                go_wp2_with fail
                refine Calls.mono (hs_is S4.out (n : Int) HD.out.2.2.2.2.2.1 HD.out.2.2.2.2.2.2.1) ?_
                rintro e w5 ⟨rfl, s5⟩
                have S5 := hid s5
                clear s5 S4
                go_wp2_with fail
                refine Calls.mono (same_is (u := vd) (A := LF) (B := LF) S5.out (by simp) (by simp) HLn.out.1 rfl) ?_
                rintro e w6 ⟨rfl, s6⟩
                have S6 := hid s6
                clear s6 S5
                go_wp2_with fail
                refine Calls.mono (pgs_is S6.out HD.out.2.2.2.2.2.2.2) ?_
                rintro e w7 ⟨vp, rfl, s7⟩
                have S7 := hid s7
                clear s7 S6
                go_wp2_with fail
                refine Calls.mono (same_is (u := vp) (A := LG) (B := LG) S7.out (by simp) (by simp) HLn.out.2 rfl) ?_
                rintro e w8 ⟨rfl, s8⟩
                have S8 := hid s8
                clear s8 S7
                go_wp2_with (go_at_call 31; refine Calls.mono (fixed_sep S8.out) ?_; rintro e wf ⟨rfl, sf⟩; have SF := hid sf; clear sf S8)
                go_ret
                exact ⟨rfl, by rw [HR.out]; exact SF.out.low⟩
          · have hl1z : (i : Int) < (X.length : Int) := by omega
            have hgez : ¬ (i : Int) < 40 := by omega
            generalize X.length = n0 at *
            have HD := hid (three_drop HT.out hn3)
            have SM := hid S1.out.made2
            clear S1
            go_wp2_with fail
            refine Calls.mono (pages_sep SM.out) ?_
            rintro e w2 ⟨va, rfl, s2⟩
            obtain ⟨aa, ca, rfl⟩ := s2.listIs (E := elL) (v := va) (A := allP T.f) (by simp)
            have HL : Hid ((∀ x ∈ allP T.f, 0 ≤ x.1 ∧ x.1 < 4096) ∧ (allP T.f).length ≤ 4096) := ⟨fun x hx => by
              have h := (seg_mem (a := 0) (k := 4096) (n := x.1) (p := x.2)).1 hx
              exact ⟨by omega, by omega⟩, all_len _⟩
            have S2 := hid s2.rot2
            clear s2 SM
            generalize allP T.f = L at *
            generalize wr.heap.size = qr at *
            generalize hN : L.length = N at *
            have HN := hid hN
            clear hN
            go_wp2_with fail
            go_loopw [9, 10, 12] (fun s9 s10 s12 wx => ∃ k : Nat, k ≤ N ∧ s12 = .int .i64 k ∧ Sep w r wx [lstL s9 ((L.take k).filter (fun x => x.1 / 64 == (n : Int))), lstL s10 ((L.take k).filter (fun x => !(x.1 / 64 == (n : Int)))), spT p m T, lstL (.slice aa N ca) L]) (fun _ _ s12 _ => N - (intOf s12).toNat)
            case atStart => exact ⟨0, by omega, rfl, S2.out⟩
            case round =>
              clear S2
              obtain ⟨k, hk, rfl, s2⟩ := hrel
              have hN4 : N ≤ 4096 := HL.out.2
              by_cases hlt : k < N
              · have hltz : (k : Int) < (N : Int) := by omega
                have hk1 : k < L.length := by have := HN.out; omega
                obtain ⟨x, hx⟩ : ∃ x, L[k]? = some x := ⟨_, List.getElem?_eq_getElem hk1⟩
                obtain ⟨q, rfl, hc⟩ := s2.listAt okL (ao := aa) (n := N) (cap := ca) (A := L) (by simp) hx
                have hxr := HL.out.1 x (List.mem_of_getElem? hx)
                obtain ⟨xa, xf, xt⟩ := x
                simp only at hxr
                obtain ⟨d, hd⟩ : ∃ d : Int, xa / 64 = d := ⟨_, rfl⟩
                have hd2 : xa.tdiv 64 = d := by rw [Int.tdiv_eq_ediv_of_nonneg hxr.1]; exact hd
                have hdw : IntKind.i64.wrap d = d := by rw [IntKind.wrap_i64]; omega
                have c0 : wr.cell? ⟨q, k * 3, none⟩ = some (.int .i64 xa) := hc 0 _ rfl
                have c1 : wr.cell? ⟨q, k * 3 + 1, none⟩ = some (.int .i64 xf) := hc 1 _ rfl
                have c2 : wr.cell? ⟨q, k * 3 + 2, none⟩ = some (.int .i64 xt) := hc 2 _ rfl
                have l1 : ((L.take k).filter (fun x => x.1 / 64 == (n : Int))).length ≤ 4096 := Nat.le_trans (List.length_filter_le _ _) (by rw [List.length_take]; omega)
                have l2 : ((L.take k).filter (fun x => !(x.1 / 64 == (n : Int)))).length ≤ 4096 := Nat.le_trans (List.length_filter_le _ _) (by rw [List.length_take]; omega)
                have hT : L.take (k + 1) = L.take k ++ [(xa, ⟨xf, xt⟩)] := by rw [List.take_add_one, hx]; rfl
                obtain ⟨a5, c5, rfl⟩ := s2.listIs (E := elL) (v := u9) (A := (L.take k).filter (fun x => x.1 / 64 == (n : Int))) (by simp)
                obtain ⟨a6, c6, rfl⟩ := s2.listIs (E := elL) (v := u10) (A := (L.take k).filter (fun x => !(x.1 / 64 == (n : Int)))) (by simp)
                by_cases hq : d = (n : Int)
                · have hqb : (d == (n : Int)) = true := by simpa using hq
                  have HT1 : Hid ((L.take (k + 1)).filter (fun x => x.1 / 64 == (n : Int)) = (L.take k).filter (fun x => x.1 / 64 == (n : Int)) ++ [(xa, ⟨xf, xt⟩)] ∧ (L.take (k + 1)).filter (fun x => !(x.1 / 64 == (n : Int))) = (L.take k).filter (fun x => !(x.1 / 64 == (n : Int)))) := by
                    rw [hT, List.filter_append, List.filter_append]
                    constructor <;> simp [hd, hq]
                  obtain ⟨v4, w4, r4, s4⟩ := s2.more okL 27 (xa, ⟨xf, xt⟩) (C := #[.int .i64 xa, .int .i64 xf, .int .i64 xt]) rfl (by omega)
                  simp only [elL] at r4
                  have R4 := hid r4
                  have S4 := hid s4
                  clear s2 s4 r4 hc hx hk1 hT l1 l2 hq hxr
                  generalize ((L.take k).filter (fun x => x.1 / 64 == (n : Int))).length = n1 at *
                  generalize ((L.take k).filter (fun x => !(x.1 / 64 == (n : Int)))).length = n2 at *
                  go_wp2_with (at_builtin; refine wpList_append_run rfl _ _ _ _ rfl _ _ _ _ rfl rfl R4.out ?_)
                  go_roundw
                  case rel => exact ⟨k + 1, by omega, by go_num, by rw [HT1.out.1, HT1.out.2]; exact S4.out⟩
                  case measure => simp [intOf]; omega
                · have hqb : (d == (n : Int)) = false := by simpa using hq
                  have HT1 : Hid ((L.take (k + 1)).filter (fun x => x.1 / 64 == (n : Int)) = (L.take k).filter (fun x => x.1 / 64 == (n : Int)) ∧ (L.take (k + 1)).filter (fun x => !(x.1 / 64 == (n : Int))) = (L.take k).filter (fun x => !(x.1 / 64 == (n : Int))) ++ [(xa, ⟨xf, xt⟩)]) := by
                    rw [hT, List.filter_append, List.filter_append]
                    constructor <;> simp [hd, hq]
                  obtain ⟨v4, w4, r4, s4⟩ := s2.swap.more okL 27 (xa, ⟨xf, xt⟩) (C := #[.int .i64 xa, .int .i64 xf, .int .i64 xt]) rfl (by omega)
                  simp only [elL] at r4
                  have R4 := hid r4
                  have S4 := hid s4.swap
                  clear s2 s4 r4 hc hx hk1 hT l1 l2 hq hxr
                  generalize ((L.take k).filter (fun x => x.1 / 64 == (n : Int))).length = n1 at *
                  generalize ((L.take k).filter (fun x => !(x.1 / 64 == (n : Int)))).length = n2 at *
                  go_wp2_with (at_builtin; refine wpList_append_run rfl _ _ _ _ rfl _ _ _ _ rfl rfl R4.out ?_)
                  go_roundw
                  case rel => exact ⟨k + 1, by omega, by go_num, by rw [HT1.out.1, HT1.out.2]; exact S4.out⟩
                  case measure => simp [intOf]; omega
              · have hltz : ¬ (k : Int) < (N : Int) := by omega
                have e1 : L.take k = L := List.take_of_length_le (by have := HN.out; omega)
                rw [e1] at s2
                have S2 := hid s2.rot2.drop2
                have hw : IntKind.i64.wrap (10 + (n : Int)) = 10 + (n : Int) := by rw [IntKind.wrap_i64]; omega
                have HLn : Hid ((L.filter (fun x => x.1 / 64 == (n : Int))).length ≤ 5000 ∧ (L.filter (fun x => !(x.1 / 64 == (n : Int)))).length ≤ 5000) := ⟨Nat.le_trans (List.length_filter_le _ _) (by have := HN.out; omega), Nat.le_trans (List.length_filter_le _ _) (by have := HN.out; omega)⟩
                clear s2 e1
                generalize L.filter (fun x => x.1 / 64 == (n : Int)) = LF at *
                generalize L.filter (fun x => !(x.1 / 64 == (n : Int))) = LG at *
                go_wp2_with fail
                refine Calls.mono (drp_is S2.out (n : Int) HD.out.1 HD.out.2.1 HD.out.2.2.1) ?_
                rintro e w3 ⟨vd, m3, rfl, s3⟩
                have S3 := hid s3
                clear s3 S2
                go_wp2_with fail
                refine Calls.mono (tab_is S3.out (n : Int) (10 + (n : Int)) HD.out.2.2.2.1 HD.out.2.2.2.2.1) ?_
                rintro e w4 ⟨rfl, m4, s4⟩
                have S4 := hid s4
                clear s4 S3
                go_wp2_with fail
                refine Calls.mono (hs_is S4.out (n : Int) HD.out.2.2.2.2.2.1 HD.out.2.2.2.2.2.2.1) ?_
                rintro e w5 ⟨rfl, s5⟩
                have S5 := hid s5
                clear s5 S4
                go_wp2_with fail
                refine Calls.mono (same_is (u := vd) (A := LF) (B := LF) S5.out (by simp) (by simp) HLn.out.1 rfl) ?_
                rintro e w6 ⟨rfl, s6⟩
                have S6 := hid s6
                clear s6 S5
                go_wp2_with fail
                refine Calls.mono (pgs_is S6.out HD.out.2.2.2.2.2.2.2) ?_
                rintro e w7 ⟨vp, rfl, s7⟩
                have S7 := hid s7
                clear s7 S6
                go_wp2_with fail
                refine Calls.mono (same_is (u := vp) (A := LG) (B := LG) S7.out (by simp) (by simp) HLn.out.2 rfl) ?_
                rintro e w8 ⟨rfl, s8⟩
                have S8 := hid s8
                clear s8 S7
                go_wp2_with (go_at_call 31; refine Calls.mono (fixed_sep S8.out) ?_; rintro e wf ⟨rfl, sf⟩; have SF := hid sf; clear sf S8)
                go_ret
                exact ⟨rfl, by rw [HR.out]; exact SF.out.low⟩
open Go.ChangeShapes Go.WideShapes Go.ChangeAt Go.RowKit Go.Joins

/-! ### From the walk to the statement -/
set_option maxRecDepth 100000 in
theorem lifted (os : Os) (started : os.Started) (H : Type) (enc : TypeId × Value → H) :
    ReturnsInHanded {} Try.checked os 6 .any (Rows.tablesDropsSpec.pre6 enc Try.prog Try.f6 Rows.tablesDropsRow.domain false) (Rows.tablesDropsSpec.post enc Try.prog Try.f6 false true false false) := by
  refine returnsInHanded_of_change (C := Try.checked) own started (by kernel_rfl) Try.func6
    (ChangeSpec.witness6 (enc := enc) (C := Try.checked) false ⟨#[], #[.slice none 0 0, .int .i64 0], []⟩ 8 (by kernel_rfl) (by kernel_rfl) (by kernel_rfl) (by kernel_rfl)) ?_
  intro W base args ds gs before hval0 hW hcnd _
  have hval : ∀ (j : Nat) t v, Try.f6.params[j]? = some t → args[j]? = some v → Value.okWide Try.prog W .any base t v := hval0
  have hW' := hW
  obtain ⟨p, q, hA0, hV, rfl, hfz, hnd⟩ := hW
  have hA : DataW.TrodAll enc Try.prog W 0 (fun _ => true) true Try.f6.params.toList args.toList ds p := hA0
  rw [Try.params6] at hA hval
  obtain ⟨v0, vs0, d0, ds0, p0, q0, hargs, rfl, rfl, h0, r0⟩ := trodAll_cons hA
  obtain ⟨v1, vs1, d1, ds1, p1, q1, rfl, rfl, rfl, h1, r1⟩ := trodAll_cons r0
  obtain ⟨rfl, rfl, rfl⟩ := trodAll_nil r1
  obtain rfl : args = #[v0, v1] := by cases args; simp_all
  obtain ⟨rfl, rfl⟩ := trodVars_none hV
  have k0 := h0
  have lt0 : ∀ x ∈ p0, x.block < W.heap.size := by obtain ⟨m, hm⟩ := k0; exact DataW.trod_lt m _ _ _ hm
  obtain ⟨a0, l0, c0, rfl, t0, s0⟩ := open_ops (hval 0 22 v0 rfl rfl) h0
  have k1 := h1
  have lt1 : ∀ x ∈ p1, x.block < W.heap.size := by obtain ⟨m, hm⟩ := k1; exact DataW.trod_lt m _ _ _ hm
  obtain ⟨a1, rfl, _, _, w1⟩ := open_int Try.underlying3 (hval 1 3 v1 rfl rfl) h1
  clear hA0 hval0
  refine (walk a0 l0 c0 a1 W t0 s0 (bounds_i64 w1)).mono fun e W' ⟨he, bel⟩ => ?_
  subst he
  exact ⟨_, rfl, _, _, _, [], _, [], hW', trodAll_mk1 (shut_bool Try.underlying4 _), (trodAll_cons_mk (Below.trod laidOut (by kernel_rfl) (of_decide_eq_true (by kernel_rfl)) k0 bel lt0) (trodAll_cons_mk (Below.trod laidOut (by kernel_rfl) (of_decide_eq_true (by kernel_rfl)) k1 bel lt1) trodAll_mk0)), rfl, bel.frame _, fun h => by cases h⟩
theorem over : Rows.tablesDropsRow.holds Try.pinned (OpenSpec.ofChange Rows.tablesDropsSpec) :=
  OpenClaim.holds_of_wide 6 Try.f6 rfl rfl rfl rfl rfl rfl rfl ⟨rfl, rfl, rfl, rfl, rfl⟩ rfl rfl rfl rfl rfl (by kernel_rfl) Try.func6 (by kernel_rfl)
    (of_decide_eq_true (by kernel_rfl)) (by unfold Func.isWrapper; first | (rw [if_pos (by decide +kernel)]; kernel_rfl) | (rw [if_neg (by decide +kernel)]; exact ⟨rfl, rfl⟩))
    (fun os started H enc _ => lifted os started H enc)
end Go.Proofs.Ythjcodkgcffamaa.tablesDrops
namespace Go.Proofs.Ythjcodkgcffamaa
/-- THE STATEMENT. -/
theorem tablesDrops_said : Rows.TablesDropsSaid := tablesDrops.over
#print axioms tablesDrops_said
end Go.Proofs.Ythjcodkgcffamaa

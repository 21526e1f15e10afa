/-
  The pages of a frame are all those that are walked to it, rising; unmapped one by one none is left; no condition.
-/
import Derived.Test.YthjcodkgcffamaaPLaw
import Derived.Test.YthjcodkgcffamaaPSay
import Derived.Test.YthjcodkgcffamaaPThree
import Derived.Deep.Cut
import Derived.Deep.CutRange
namespace Go.Proofs.Ythjcodkgcffamaa.tablesFrames
open Go.RowKit Go.Deep Go.Shelf
def fseg (f : Int → Option Pg) (fr : Int) (k : Nat) : List Int := ((seg f 0 k).filter (frmB fr)).map (·.1)
theorem fseg_add (f : Int → Option Pg) (fr : Int) (k m : Nat) : fseg f fr (k + m) = fseg f fr k ++ ((seg f k m).filter (frmB fr)).map (·.1) := by
  unfold fseg
  rw [seg_add, List.filter_append, List.map_append, Nat.zero_add]
theorem fseg_none {f : Int → Option Pg} {k : Nat} (fr : Int) (h : f (k : Int) = none) : fseg f fr (k + 1) = fseg f fr k := by
  unfold fseg
  rw [seg_one, Nat.zero_add]
  simp [atN, h]
theorem fseg_some {f : Int → Option Pg} {k : Nat} {fr : Int} {x : Pg} (h : f (k : Int) = some x) : fseg f fr (k + 1) = fseg f fr k ++ if x.fr = fr then [(k : Int)] else [] := by
  unfold fseg
  rw [seg_one, Nat.zero_add, List.filter_append, List.map_append]
  congr 1
  by_cases e : x.fr = fr
  · simp [atN, h, frmB, e]
  · simp [atN, h, frmB, e]
theorem page_low {T : Sp} (g : Good T) (ht : T.t = thrT.t) {n : Int} {x : Pg} (h : T.f n = some x) : 0 ≤ n ∧ n < 192 := by
  obtain ⟨h0, _, h2⟩ := g.f n x h
  rw [ht] at h2
  obtain ⟨m, hm⟩ := Option.isSome_iff_exists.1 h2
  have := thr_of hm
  omega
theorem fseg_all {T : Sp} (g : Good T) (ht : T.t = thrT.t) (fr : Int) : frmL T.f fr = fseg T.f fr 192 := by
  have e : seg T.f 192 3904 = [] := by
    rw [List.eq_nil_iff_forall_not_mem]
    rintro ⟨n, p⟩ hm
    obtain ⟨h0, _, h2⟩ := seg_mem.1 hm
    have := page_low g ht h2
    omega
  show fseg T.f fr (192 + 3904) = _
  rw [fseg_add, e]
  simp
theorem fseg_at {f : Int → Option Pg} {k : Nat} {fr : Int} {x : Pg} (hk : k < 192) (h : f (k : Int) = some x) (hx : x.fr = fr) : (fseg f fr 192)[(fseg f fr k).length]? = some (k : Int) := by
  have e : 192 = (k + 1) + (192 - (k + 1)) := by omega
  rw [e, fseg_add, fseg_some h, if_pos hx]
  simp
theorem frm_mem {T : Sp} (g : Good T) {fr n : Int} : n ∈ frmL T.f fr ↔ ∃ x, T.f n = some x ∧ x.fr = fr := by
  unfold frmL
  rw [List.mem_map]
  constructor
  · rintro ⟨⟨a, x⟩, hm, rfl⟩
    rw [List.mem_filter] at hm
    exact ⟨x, (all_mem g).1 hm.1, by simpa [frmB] using hm.2⟩
  · rintro ⟨x, hx, hf⟩
    exact ⟨(n, x), List.mem_filter.2 ⟨(all_mem g).2 hx, by simpa [frmB] using hf⟩, rfl⟩
theorem frm_one (f : Int → Option Pg) (fr : Int) : (frmL f fr).Nodup := by
  unfold frmL
  refine List.pairwise_map.2 (((seg_rise f 0 4096).filter _).imp fun {x y} h e => ?_)
  rw [e] at h
  exact Int.lt_irrefl _ h
theorem frm_len (f : Int → Option Pg) (fr : Int) : (frmL f fr).length ≤ 4096 := by
  unfold frmL
  rw [List.length_map]
  exact Nat.le_trans (List.length_filter_le _ _) (all_len f)
theorem unm_f {S : Sp} (g : Good S) (n : Int) : (unmS S n).f = upd S.f n none := by
  unfold unmS
  split
  · rfl
  · rename_i h
    funext k
    unfold upd
    split
    · rename_i e
      subst e
      unfold unmE at h
      split at h
      · rename_i h2
        exact g.out h2
      · split at h
        · exact absurd rfl h
        · rename_i h3
          cases e : S.f k with
          | none => rfl
          | some x => rw [e] at h3; exact absurd rfl h3
    · rfl
theorem frm_nil {T U : Sp} (gT : Good T) (gU : Good U) (fr : Int) (h : ∀ n, U.f n = if n ∈ frmL T.f fr then none else T.f n) : (frmL U.f fr).length = 0 := by
  have : frmL U.f fr = [] := by
    rw [List.eq_nil_iff_forall_not_mem]
    intro n hn
    obtain ⟨x, hx, hf⟩ := (frm_mem gU).1 hn
    rw [h] at hx
    split at hx
    · cases hx
    · rename_i h2
      exact h2 ((frm_mem gT).2 ⟨x, hx, hf⟩)
  rw [this]
  rfl
theorem unm_step {T U : Sp} (gT : Good T) (gU : Good U) {fr : Int} {F : List Int} (hF : frmL T.f fr = F) {i : Nat} {n : Int} (hn : F[i]? = some n) (h : ∀ n, U.f n = if n ∈ F.take i then none else T.f n) :
    (∃ x : Pg, wlkP U n = x ∧ x.fr = fr) ∧ unmE U n = 0 ∧ ∀ k, (unmS U n).f k = if k ∈ F.take (i + 1) then none else T.f k := by
  have hi := (List.getElem?_eq_some_iff.1 hn).1
  have hm : n ∈ F := List.mem_of_getElem? hn
  rw [← hF] at hm
  obtain ⟨x, hx, hf⟩ := (frm_mem gT).1 hm
  have hno : ¬ n ∈ F.take i := by
    intro h2
    obtain ⟨j, hj, e⟩ := List.getElem_of_mem h2
    have hj' : j < i ∧ j < F.length := by
      rw [List.length_take] at hj
      omega
    rw [List.getElem_take] at e
    have hnd : F.Nodup := by rw [← hF]; exact frm_one _ _
    have := List.pairwise_iff_getElem.1 hnd j i hj'.2 hi hj'.1
    rw [(List.getElem?_eq_some_iff.1 hn).2] at this
    exact this e
  have hU : U.f n = some x := by rw [h, if_neg hno]; exact hx
  refine ⟨⟨x, by unfold wlkP; rw [hU]; rfl, hf⟩, ?_, fun k => ?_⟩
  · have := gT.f n x hx
    unfold unmE
    rw [if_neg (by omega), hU]
    rfl
  · rw [unm_f gU, List.take_add_one, hn]
    unfold upd
    by_cases e : k = n
    · simp [e]
    · rw [if_neg e, h]
      simp [e]
set_option maxHeartbeats 8000000 in
set_option maxRecDepth 100000 in
theorem walk (ao : Option Addr) (X : List Oc) (cap : Nat) (fr : Int) (w : World) (hX : Ops w ao X) (_hxl : X.length ≤ 9223372036854775807) (_hb : I64 fr) :
    Calls Try.prog 7 #[.slice ao X.length cap, .int .i64 fr] w fun e w' => e = .returned (.bool true) ∧ Below w.heap.size w w' := by
  have HX := hid hX
  clear hX
  go_enter Try.func7, Try.ntmps7
  go_wp2_with fail
  refine Calls.mono (new_sep (sep_nil w)) ?_
  rintro e w1 ⟨p, m1, rfl, s1⟩
  have S1 : Hid (Sep w w.heap.size w1 [spT p m1 (thr 0)]) := s1
  clear s1
  generalize hr : w.heap.size = r at *
  have HR := hid hr
  clear hr
  go_wp2_with fail
  go_loopw [6] (fun s wr => ∃ (k : Nat) (m : Nat → Option Nat), k ≤ 3 ∧ s = .int .i64 k ∧ Sep w r wr [spT p m (thr k)]) (fun s _ => 3 - (intOf s).toNat)
  case atStart => exact ⟨0, _, by omega, rfl, S1.out⟩
  case round =>
    clear S1
    obtain ⟨k, m, hk, rfl, s1⟩ := hrel
    have S1 := hid s1
    clear s1
    by_cases hlt : k < 3
    · have hltz : (k : Int) < 3 := by omega
      have hw : IntKind.i64.wrap (10 + (k : Int)) = 10 + (k : Int) := by rw [IntKind.wrap_i64]; omega
      have HN := hid (thr_next hlt)
      go_wp2_with fail
      refine Calls.mono (tab_is S1.out (k : Int) (10 + (k : Int)) HN.out.1 HN.out.2) ?_
      rintro e w2 ⟨rfl, m2, s2⟩
      have S2 := hid s2
      clear s2 S1
      go_wp2
      go_roundw
      case rel => exact ⟨k + 1, m2, by omega, by go_num, S2.out⟩
      case measure => simp [intOf]; omega
    · have hk3 : ((k : Nat) : Int) = 3 := by omega
      simp only [hk3]
      obtain rfl : k = 3 := by omega
      clear hlt hk hk3
      have e3 := thr_is
      rw [e3] at S1
      clear e3
      go_wp2_with fail
      go_loopw [7] (fun s wr => ∃ (i : Nat) (T : Sp) (m : Nat → Option Nat), i ≤ 40 ∧ s = .int .i64 i ∧ T.t = thrT.t ∧ Sep w r wr [spT p m T]) (fun s _ => 40 - (intOf s).toNat)
      case atStart => exact ⟨0, _, _, by omega, rfl, rfl, S1.out⟩
      case round =>
        clear S1
        obtain ⟨i, T, m, hi, rfl, ht, s1⟩ := hrel
        have S1 := hid s1
        have HT := hid ht
        clear s1 ht
        by_cases hlt : i < X.length ∧ i < 40
        · obtain ⟨hl1, hl2⟩ := hlt
          have hl2z : (i : Int) < 40 := by omega
          obtain ⟨x, hx⟩ : ∃ x, X[i]? = some x := ⟨_, List.getElem?_eq_getElem hl1⟩
          obtain ⟨xk, xl, xn, xf, xt⟩ := x
          obtain ⟨-, b0, o0, rfl, -⟩ := Ops.at HX.out hx
          have HC : Hid (∀ u, Below r w u → u.cell? ⟨b0, o0 + i * 5 + 1, none⟩ = some (.int .i64 xl) ∧ u.cell? ⟨b0, o0 + i * 5 + 3, none⟩ = some (.int .i64 xf) ∧ u.cell? ⟨b0, o0 + i * 5 + 4, none⟩ = some (.int .i64 xt)) := fun u hu => by
            obtain ⟨-, b9, o9, e9, -, d1, -, d3, d4⟩ := Ops.at (SeeK.below HX.out hu (by rw [HR.out]; exact Nat.le_refl _)) hx
            cases e9
            exact ⟨d1, d3, d4⟩
          clear hx
          generalize X.length = n at *
          have hl1z : (i : Int) < (n : Int) := by omega
          obtain ⟨a, ha, ea⟩ := mask64k xl
          obtain ⟨z, hz, ez⟩ := rem_nat a 192 (by omega)
          have ez2 : (a : Int).tmod 192 = (z : Int) := by rw [Int.tmod_eq_emod_of_nonneg (by omega)]; exact ez
          have hzw : IntKind.i64.wrap (z : Int) = (z : Int) := by rw [IntKind.wrap_i64]; omega
          have hS : wr.drew.cell? ⟨b0, o0 + i * 5 + 1, none⟩ = some (.int .i64 xl) ∧ wr.drew.cell? ⟨b0, o0 + i * 5 + 3, none⟩ = some (.int .i64 xf) ∧ wr.drew.cell? ⟨b0, o0 + i * 5 + 4, none⟩ = some (.int .i64 xt) := HC.out _ S1.out.drew.low
          obtain ⟨E, hE⟩ : ∃ E, mapE T z ⟨xf, xt⟩ = E := ⟨_, rfl⟩
          obtain ⟨T', hT'⟩ : ∃ T', mapS T z ⟨xf, xt⟩ = T' := ⟨_, rfl⟩
          have HE : Hid (mapE T z ⟨xf, xt⟩ = E ∧ mapS T z ⟨xf, xt⟩ = T' ∧ T'.t = thrT.t) := ⟨hE, hT', by rw [← hT', map_t]; exact HT.out⟩
          clear hE hT' hz
          go_wp2_with fail
          go_region_held3 (fun W => W.cell? ⟨b0, o0 + i * 5 + 1, none⟩ = some (.int .i64 xl) ∧ W.cell? ⟨b0, o0 + i * 5 + 3, none⟩ = some (.int .i64 xf) ∧ W.cell? ⟨b0, o0 + i * 5 + 4, none⟩ = some (.int .i64 xt)) ((first | with_reducible assumption | with_reducible exact hS))
            (first | (go_at_call 14; (with_reducible refine Calls.mono (mp_is S1.out.drew z xf xt HE.out.1 HE.out.2.1) ?_); rintro e w3 ⟨rfl, s3⟩; have h3 : w3.cell? ⟨b0, o0 + i * 5 + 1, none⟩ = some (.int .i64 xl) ∧ w3.cell? ⟨b0, o0 + i * 5 + 3, none⟩ = some (.int .i64 xf) ∧ w3.cell? ⟨b0, o0 + i * 5 + 4, none⟩ = some (.int .i64 xt) := HC.out _ s3.low; have S3 := hid s3; clear s3 S1))
          clear hS h3
          go_wp2
          go_roundw
          case rel => exact ⟨i + 1, T', m, by omega, by go_num, HE.out.2.2, S3.out⟩
          case measure => simp [intOf]; omega
        · 
          have hor : (¬ i < X.length) ∨ (i < X.length ∧ ¬ i < 40) := by omega
          clear hlt
          rcases hor with hge | ⟨hl1, hge⟩
          · have hgez : ¬ (i : Int) < (X.length : Int) := by omega
            generalize X.length = n0 at *
            have ht := HT.out
            obtain ⟨vx, hvx⟩ : ∃ F, frmL T.f fr = F := ⟨_, rfl⟩
            have gT : Good T := SpP.good S1.out.head
            have HF := hid (And.intro gT (And.intro ht hvx))
            have HA := hid (hvx.symm.trans (fseg_all gT ht fr))
            have HNd : Hid (vx.length ≤ 4096) := by show vx.length ≤ 4096; rw [← hvx]; exact frm_len _ _
            clear ht gT
            go_wp2_with fail
            refine Calls.mono (frm_is S1.out fr hvx) ?_
            rintro e w2 ⟨vf, rfl, s2⟩
            obtain ⟨af, cf, rfl⟩ := s2.listIs (E := elI) (v := vf) (A := vx) (by simp)
            have S2 := hid s2
            clear s2 S1 hvx
            generalize hN : vx.length = N at *
            have HN := hid hN
            clear hN
            go_wp2_with fail
            go_loopw [9, 10] (fun s9 s10 wx => ∃ k : Nat, k ≤ 192 ∧ s10 = .int .i64 k ∧ s9 = .int .i64 ((fseg T.f fr k).length : Nat) ∧ Sep w r wx [spT p m T, lstI (.slice af N cf) vx]) (fun _ s10 _ => 192 - (intOf s10).toNat)
            case atStart => exact ⟨0, by omega, rfl, rfl, S2.out⟩
            case round =>
              clear S2
              obtain ⟨k, hk, rfl, rfl, s2⟩ := hrel
              have hN4 : N ≤ 4096 := HNd.out
              have S2 := hid s2
              clear s2
              by_cases hlt : k < 192
              · have hltz : (k : Int) < 192 := by omega
                cases hf : T.f (k : Int) with
                | none =>
                  have HS := hid (congrArg List.length (fseg_none fr hf))
                  have HW : Hid (wlkP T k = ⟨0, 0⟩ ∧ wlkB T k = false) := ⟨by unfold wlkP; rw [hf]; rfl, by unfold wlkB; rw [hf]; rfl⟩
                  clear hf
                  generalize (fseg T.f fr k).length = n1 at *
                  go_wp2_with fail
                  refine Calls.mono (wlk_is S2.out k HW.out.1 HW.out.2) ?_
                  rintro e w3 ⟨rfl, s3⟩
                  have S3 := hid (s3.below (below_new w3 (.cells #[.int .i64 0, .int .i64 0] 31)))
                  clear s3 S2
                  go_wp2
                  go_roundw
                  case rel => exact ⟨k + 1, by omega, by go_num, by rw [HS.out], S3.out⟩
                  case measure => simp [intOf]; omega
                | some x =>
                  have HS := hid (fseg_some (fr := fr) hf)
                  have HI := hid (fun e : x.fr = fr => fseg_at hlt hf e)
                  have HW : Hid (wlkP T k = ⟨x.fr, x.rt⟩ ∧ wlkB T k = true) := ⟨by unfold wlkP; rw [hf]; rfl, by unfold wlkB; rw [hf]; rfl⟩
                  obtain ⟨xf, xt⟩ := x
                  simp only at HS HI HW
                  clear hf
                  by_cases hx : xf = fr
                  · have hq : (xf == fr) = true := by simpa using hx
                    have hi := HI.out hx
                    rw [← HA.out] at hi
                    have HS2 : Hid ((fseg T.f fr (k + 1)).length = (fseg T.f fr k).length + 1) := by
                      show _ = _
                      rw [HS.out, if_pos hx]
                      simp
                    have hi2 : (fseg T.f fr k).length < N := by
                      have := (List.getElem?_eq_some_iff.1 hi).1
                      rw [HN.out] at this
                      exact this
                    generalize (fseg T.f fr k).length = n1 at *
                    clear HS HI
                    have HI := hid hi
                    have hn1 : ¬ (N : Int) ≤ (n1 : Int) := by omega
                    have hn2 : (n1 : Int) < (N : Int) := by omega
                    have hX := hid hx
                    clear hi hx
                    go_wp2_with fail
                    refine Calls.mono (wlk_is S2.out k HW.out.1 HW.out.2) ?_
                    rintro e w3 ⟨rfl, s3⟩
                    have s4 := s3.below (below_new w3 (.cells #[.int .i64 xf, .int .i64 xt] 31))
                    obtain ⟨q, rfl, hc⟩ := s4.listAt okI (ao := af) (n := N) (cap := cf) (A := vx) (by simp) HI.out
                    have d0 : (w3.alloc (.cells #[.int .i64 xf, .int .i64 xt] 31)).cell? ⟨q, n1, none⟩ = some (.int .i64 (k : Int)) := by have := hc 0 _ rfl; simpa [elI] using this
                    have S3 := hid s4
                    clear s3 s4 S2 hc
                    go_wp2
                    go_roundw
                    case rel => exact ⟨k + 1, by omega, by go_num, by rw [HS2.out]; go_num, S3.out⟩
                    case measure => simp [intOf]; omega
                  · have hq : (xf == fr) = false := by simpa using hx
                    have HS2 : Hid ((fseg T.f fr (k + 1)).length = (fseg T.f fr k).length) := by
                      show _ = _
                      rw [HS.out, if_neg hx]
                      simp
                    generalize (fseg T.f fr k).length = n1 at *
                    clear HS HI hx
                    go_wp2_with fail
                    refine Calls.mono (wlk_is S2.out k HW.out.1 HW.out.2) ?_
                    rintro e w3 ⟨rfl, s3⟩
                    have S3 := hid (s3.below (below_new w3 (.cells #[.int .i64 xf, .int .i64 xt] 31)))
                    clear s3 S2
                    go_wp2
                    go_roundw
                    case rel => exact ⟨k + 1, by omega, by go_num, by rw [HS2.out], S3.out⟩
                    case measure => simp [intOf]; omega
              · have hk9 : ((k : Nat) : Int) = 192 := by omega
                have hn9 : ((fseg T.f fr k).length : Int) = (N : Int) := by
                  obtain rfl : k = 192 := by omega
                  rw [← HA.out, HN.out]
                simp only [hk9, hn9]
                clear hk9 hn9 hlt hk
                go_wp2_with fail
                go_loopw [13] (fun s13 wx => ∃ (i : Nat) (U : Sp), i ≤ N ∧ s13 = .int .i64 i ∧ (∀ n, U.f n = if n ∈ vx.take i then none else T.f n) ∧ Sep w r wx [spT p m U, lstI (.slice af N cf) vx]) (fun s13 _ => N - (intOf s13).toNat)
                case atStart => exact ⟨0, T, by omega, rfl, fun n => by simp, S2.out⟩
                case round =>
                  clear S2
                  obtain ⟨i, U, hi, rfl, hU, s2⟩ := hrel
                  have gU : Good U := SpP.good s2.head
                  by_cases hlt : i < N
                  · have hltz : (i : Int) < (N : Int) := by omega
                    have hi1 : i < vx.length := by have := HN.out; omega
                    obtain ⟨y, hy⟩ : ∃ y, vx[i]? = some y := ⟨_, List.getElem?_eq_getElem hi1⟩
                    obtain ⟨q, rfl, hc⟩ := s2.listAt okI (ao := af) (n := N) (cap := cf) (A := vx) (by simp) hy
                    have d0 : wr.cell? ⟨q, i, none⟩ = some (.int .i64 y) := by have := hc 0 _ rfl; simpa [elI] using this
                    obtain ⟨⟨⟨xf, xt⟩, hx1, hx2⟩, hx3, hx4⟩ := unm_step HF.out.1 gU HF.out.2.2 hy hU
                    simp only at hx2
                    subst hx2
                    have HX2 := hid (And.intro hx1 (And.intro hx3 hx4))
                    have S2 := hid s2
                    clear s2 hc hy hi1 hU gU hx1 hx3 hx4
                    go_wp2_with fail
                    refine Calls.mono (unm_is S2.out y HX2.out.1 HX2.out.2.1 rfl) ?_
                    rintro e w3 ⟨rfl, s3⟩
                    have S3 := hid (s3.below (below_new w3 (.cells #[.int .i64 xf, .int .i64 xt] 31)))
                    clear s3 S2
                    go_wp2
                    go_roundw
                    case rel => exact ⟨i + 1, unmS U y, by omega, by go_num, HX2.out.2.2, S3.out⟩
                    case measure => simp [intOf]; omega
                  · have hltz : ¬ (i : Int) < (N : Int) := by omega
                    have e1 : vx.take i = vx := List.take_of_length_le (by have := HN.out; omega)
                    rw [e1] at hU
                    have HZ : Hid ((frmL U.f fr).length = 0) := frm_nil HF.out.1 gU fr (by rw [HF.out.2.2]; exact hU)
                    have S2 := hid s2
                    clear s2 e1 hU gU
                    go_wp2_with (first
                      | (go_at_call 29; refine Calls.mono (frames_sep S2.out fr) ?_; rintro e wa ⟨v, rfl, sa⟩; obtain ⟨ao9, cap9, rfl⟩ := sa.listIs (E := elI) (v := v) (A := frmL U.f fr) (by simp); rw [HZ.out]; have SA := hid sa; clear sa S2)
                      | (go_at_call 31; refine Calls.mono (fixed_sep SA.out) ?_; rintro e wf ⟨rfl, sf⟩; have SF := hid sf; clear sf SA))
                    go_ret
                    exact ⟨rfl, by rw [HR.out]; exact SF.out.low⟩
          · have hl1z : (i : Int) < (X.length : Int) := by omega
            have hgez : ¬ (i : Int) < 40 := by omega
            generalize X.length = n0 at *
            have ht := HT.out
            obtain ⟨vx, hvx⟩ : ∃ F, frmL T.f fr = F := ⟨_, rfl⟩
            have gT : Good T := SpP.good S1.out.head
            have HF := hid (And.intro gT (And.intro ht hvx))
            have HA := hid (hvx.symm.trans (fseg_all gT ht fr))
            have HNd : Hid (vx.length ≤ 4096) := by show vx.length ≤ 4096; rw [← hvx]; exact frm_len _ _
            clear ht gT
            go_wp2_with fail
            refine Calls.mono (frm_is S1.out fr hvx) ?_
            rintro e w2 ⟨vf, rfl, s2⟩
            obtain ⟨af, cf, rfl⟩ := s2.listIs (E := elI) (v := vf) (A := vx) (by simp)
            have S2 := hid s2
            clear s2 S1 hvx
            generalize hN : vx.length = N at *
            have HN := hid hN
            clear hN
            go_wp2_with fail
            go_loopw [9, 10] (fun s9 s10 wx => ∃ k : Nat, k ≤ 192 ∧ s10 = .int .i64 k ∧ s9 = .int .i64 ((fseg T.f fr k).length : Nat) ∧ Sep w r wx [spT p m T, lstI (.slice af N cf) vx]) (fun _ s10 _ => 192 - (intOf s10).toNat)
            case atStart => exact ⟨0, by omega, rfl, rfl, S2.out⟩
            case round =>
              clear S2
              obtain ⟨k, hk, rfl, rfl, s2⟩ := hrel
              have hN4 : N ≤ 4096 := HNd.out
              have S2 := hid s2
              clear s2
              by_cases hlt : k < 192
              · have hltz : (k : Int) < 192 := by omega
                cases hf : T.f (k : Int) with
                | none =>
                  have HS := hid (congrArg List.length (fseg_none fr hf))
                  have HW : Hid (wlkP T k = ⟨0, 0⟩ ∧ wlkB T k = false) := ⟨by unfold wlkP; rw [hf]; rfl, by unfold wlkB; rw [hf]; rfl⟩
                  clear hf
                  generalize (fseg T.f fr k).length = n1 at *
                  go_wp2_with fail
                  refine Calls.mono (wlk_is S2.out k HW.out.1 HW.out.2) ?_
                  rintro e w3 ⟨rfl, s3⟩
                  have S3 := hid (s3.below (below_new w3 (.cells #[.int .i64 0, .int .i64 0] 31)))
                  clear s3 S2
                  go_wp2
                  go_roundw
                  case rel => exact ⟨k + 1, by omega, by go_num, by rw [HS.out], S3.out⟩
                  case measure => simp [intOf]; omega
                | some x =>
                  have HS := hid (fseg_some (fr := fr) hf)
                  have HI := hid (fun e : x.fr = fr => fseg_at hlt hf e)
                  have HW : Hid (wlkP T k = ⟨x.fr, x.rt⟩ ∧ wlkB T k = true) := ⟨by unfold wlkP; rw [hf]; rfl, by unfold wlkB; rw [hf]; rfl⟩
                  obtain ⟨xf, xt⟩ := x
                  simp only at HS HI HW
                  clear hf
                  by_cases hx : xf = fr
                  · have hq : (xf == fr) = true := by simpa using hx
                    have hi := HI.out hx
                    rw [← HA.out] at hi
                    have HS2 : Hid ((fseg T.f fr (k + 1)).length = (fseg T.f fr k).length + 1) := by
                      show _ = _
                      rw [HS.out, if_pos hx]
                      simp
                    have hi2 : (fseg T.f fr k).length < N := by
                      have := (List.getElem?_eq_some_iff.1 hi).1
                      rw [HN.out] at this
                      exact this
                    generalize (fseg T.f fr k).length = n1 at *
                    clear HS HI
                    have HI := hid hi
                    have hn1 : ¬ (N : Int) ≤ (n1 : Int) := by omega
                    have hn2 : (n1 : Int) < (N : Int) := by omega
                    have hX := hid hx
                    clear hi hx
                    go_wp2_with fail
                    refine Calls.mono (wlk_is S2.out k HW.out.1 HW.out.2) ?_
                    rintro e w3 ⟨rfl, s3⟩
                    have s4 := s3.below (below_new w3 (.cells #[.int .i64 xf, .int .i64 xt] 31))
                    obtain ⟨q, rfl, hc⟩ := s4.listAt okI (ao := af) (n := N) (cap := cf) (A := vx) (by simp) HI.out
                    have d0 : (w3.alloc (.cells #[.int .i64 xf, .int .i64 xt] 31)).cell? ⟨q, n1, none⟩ = some (.int .i64 (k : Int)) := by have := hc 0 _ rfl; simpa [elI] using this
                    have S3 := hid s4
                    clear s3 s4 S2 hc
                    go_wp2
                    go_roundw
                    case rel => exact ⟨k + 1, by omega, by go_num, by rw [HS2.out]; go_num, S3.out⟩
                    case measure => simp [intOf]; omega
                  · have hq : (xf == fr) = false := by simpa using hx
                    have HS2 : Hid ((fseg T.f fr (k + 1)).length = (fseg T.f fr k).length) := by
                      show _ = _
                      rw [HS.out, if_neg hx]
                      simp
                    generalize (fseg T.f fr k).length = n1 at *
                    clear HS HI hx
                    go_wp2_with fail
                    refine Calls.mono (wlk_is S2.out k HW.out.1 HW.out.2) ?_
                    rintro e w3 ⟨rfl, s3⟩
                    have S3 := hid (s3.below (below_new w3 (.cells #[.int .i64 xf, .int .i64 xt] 31)))
                    clear s3 S2
                    go_wp2
                    go_roundw
                    case rel => exact ⟨k + 1, by omega, by go_num, by rw [HS2.out], S3.out⟩
                    case measure => simp [intOf]; omega
              · have hk9 : ((k : Nat) : Int) = 192 := by omega
                have hn9 : ((fseg T.f fr k).length : Int) = (N : Int) := by
                  obtain rfl : k = 192 := by omega
                  rw [← HA.out, HN.out]
                simp only [hk9, hn9]
                clear hk9 hn9 hlt hk
                go_wp2_with fail
                go_loopw [13] (fun s13 wx => ∃ (i : Nat) (U : Sp), i ≤ N ∧ s13 = .int .i64 i ∧ (∀ n, U.f n = if n ∈ vx.take i then none else T.f n) ∧ Sep w r wx [spT p m U, lstI (.slice af N cf) vx]) (fun s13 _ => N - (intOf s13).toNat)
                case atStart => exact ⟨0, T, by omega, rfl, fun n => by simp, S2.out⟩
                case round =>
                  clear S2
                  obtain ⟨i, U, hi, rfl, hU, s2⟩ := hrel
                  have gU : Good U := SpP.good s2.head
                  by_cases hlt : i < N
                  · have hltz : (i : Int) < (N : Int) := by omega
                    have hi1 : i < vx.length := by have := HN.out; omega
                    obtain ⟨y, hy⟩ : ∃ y, vx[i]? = some y := ⟨_, List.getElem?_eq_getElem hi1⟩
                    obtain ⟨q, rfl, hc⟩ := s2.listAt okI (ao := af) (n := N) (cap := cf) (A := vx) (by simp) hy
                    have d0 : wr.cell? ⟨q, i, none⟩ = some (.int .i64 y) := by have := hc 0 _ rfl; simpa [elI] using this
                    obtain ⟨⟨⟨xf, xt⟩, hx1, hx2⟩, hx3, hx4⟩ := unm_step HF.out.1 gU HF.out.2.2 hy hU
                    simp only at hx2
                    subst hx2
                    have HX2 := hid (And.intro hx1 (And.intro hx3 hx4))
                    have S2 := hid s2
                    clear s2 hc hy hi1 hU gU hx1 hx3 hx4
                    go_wp2_with fail
                    refine Calls.mono (unm_is S2.out y HX2.out.1 HX2.out.2.1 rfl) ?_
                    rintro e w3 ⟨rfl, s3⟩
                    have S3 := hid (s3.below (below_new w3 (.cells #[.int .i64 xf, .int .i64 xt] 31)))
                    clear s3 S2
                    go_wp2
                    go_roundw
                    case rel => exact ⟨i + 1, unmS U y, by omega, by go_num, HX2.out.2.2, S3.out⟩
                    case measure => simp [intOf]; omega
                  · have hltz : ¬ (i : Int) < (N : Int) := by omega
                    have e1 : vx.take i = vx := List.take_of_length_le (by have := HN.out; omega)
                    rw [e1] at hU
                    have HZ : Hid ((frmL U.f fr).length = 0) := frm_nil HF.out.1 gU fr (by rw [HF.out.2.2]; exact hU)
                    have S2 := hid s2
                    clear s2 e1 hU gU
                    go_wp2_with (first
                      | (go_at_call 29; refine Calls.mono (frames_sep S2.out fr) ?_; rintro e wa ⟨v, rfl, sa⟩; obtain ⟨ao9, cap9, rfl⟩ := sa.listIs (E := elI) (v := v) (A := frmL U.f fr) (by simp); rw [HZ.out]; have SA := hid sa; clear sa S2)
                      | (go_at_call 31; refine Calls.mono (fixed_sep SA.out) ?_; rintro e wf ⟨rfl, sf⟩; have SF := hid sf; clear sf SA))
                    go_ret
                    exact ⟨rfl, by rw [HR.out]; exact SF.out.low⟩
open Go.ChangeShapes Go.WideShapes Go.ChangeAt Go.RowKit Go.Joins

/-! ### From the walk to the statement -/
set_option maxRecDepth 100000 in
theorem lifted (os : Os) (started : os.Started) (H : Type) (enc : TypeId × Value → H) :
    ReturnsInHanded {} Try.checked os 7 .any (Rows.tablesFramesSpec.pre6 enc Try.prog Try.f7 Rows.tablesFramesRow.domain false) (Rows.tablesFramesSpec.post enc Try.prog Try.f7 false true false false) := by
  refine returnsInHanded_of_change (C := Try.checked) own started (by kernel_rfl) Try.func7
    (ChangeSpec.witness6 (enc := enc) (C := Try.checked) false ⟨#[], #[.slice none 0 0, .int .i64 0], []⟩ 8 (by kernel_rfl) (by kernel_rfl) (by kernel_rfl) (by kernel_rfl)) ?_
  intro W base args ds gs before hval0 hW hcnd _
  have hval : ∀ (j : Nat) t v, Try.f7.params[j]? = some t → args[j]? = some v → Value.okWide Try.prog W .any base t v := hval0
  have hW' := hW
  obtain ⟨p, q, hA0, hV, rfl, hfz, hnd⟩ := hW
  have hA : DataW.TrodAll enc Try.prog W 0 (fun _ => true) true Try.f7.params.toList args.toList ds p := hA0
  rw [Try.params7] at hA hval
  obtain ⟨v0, vs0, d0, ds0, p0, q0, hargs, rfl, rfl, h0, r0⟩ := trodAll_cons hA
  obtain ⟨v1, vs1, d1, ds1, p1, q1, rfl, rfl, rfl, h1, r1⟩ := trodAll_cons r0
  obtain ⟨rfl, rfl, rfl⟩ := trodAll_nil r1
  obtain rfl : args = #[v0, v1] := by cases args; simp_all
  obtain ⟨rfl, rfl⟩ := trodVars_none hV
  have k0 := h0
  have lt0 : ∀ x ∈ p0, x.block < W.heap.size := by obtain ⟨m, hm⟩ := k0; exact DataW.trod_lt m _ _ _ hm
  obtain ⟨a0, l0, c0, rfl, t0, s0⟩ := open_ops (hval 0 22 v0 rfl rfl) h0
  have k1 := h1
  have lt1 : ∀ x ∈ p1, x.block < W.heap.size := by obtain ⟨m, hm⟩ := k1; exact DataW.trod_lt m _ _ _ hm
  obtain ⟨a1, rfl, _, _, w1⟩ := open_int Try.underlying3 (hval 1 3 v1 rfl rfl) h1
  clear hA0 hval0
  refine (walk a0 l0 c0 a1 W t0 s0 (bounds_i64 w1)).mono fun e W' ⟨he, bel⟩ => ?_
  subst he
  exact ⟨_, rfl, _, _, _, [], _, [], hW', trodAll_mk1 (shut_bool Try.underlying4 _), (trodAll_cons_mk (Below.trod laidOut (by kernel_rfl) (of_decide_eq_true (by kernel_rfl)) k0 bel lt0) (trodAll_cons_mk (Below.trod laidOut (by kernel_rfl) (of_decide_eq_true (by kernel_rfl)) k1 bel lt1) trodAll_mk0)), rfl, bel.frame _, fun h => by cases h⟩
theorem over : Rows.tablesFramesRow.holds Try.pinned (OpenSpec.ofChange Rows.tablesFramesSpec) :=
  OpenClaim.holds_of_wide 7 Try.f7 rfl rfl rfl rfl rfl rfl rfl ⟨rfl, rfl, rfl, rfl, rfl⟩ rfl rfl rfl rfl rfl (by kernel_rfl) Try.func7 (by kernel_rfl)
    (of_decide_eq_true (by kernel_rfl)) (by unfold Func.isWrapper; first | (rw [if_pos (by decide +kernel)]; kernel_rfl) | (rw [if_neg (by decide +kernel)]; exact ⟨rfl, rfl⟩))
    (fun os started H enc _ => lifted os started H enc)
end Go.Proofs.Ythjcodkgcffamaa.tablesFrames
namespace Go.Proofs.Ythjcodkgcffamaa
/-- THE STATEMENT. -/
theorem tablesFrames_said : Rows.TablesFramesSaid := tablesFrames.over
#print axioms tablesFrames_said
end Go.Proofs.Ythjcodkgcffamaa

/-
  What Parent, Under and All of package tree answer; no condition but that the tree is small.
-/
import Derived.Test.YthfoeppcageneaaTCalls
namespace Go.Proofs.Ythfoeppcageneaa
set_option linter.unusedSectionVars false
variable [DecidableEq Sl]
open Go.RowKit Go.Deep Go.Shelf

theorem OwnS.mono {B B' : Nat} {w : World} {v : Value} {A : List Sl} (h : OwnS B w v A) (hb : B' ≤ B) : OwnS B' w v A := ⟨h.1, h.2.imp id fun ⟨g, cap, cur, h1, h2, h3⟩ => ⟨g, cap, cur, h1, Nat.le_trans hb h2, h3⟩⟩
theorem lastD_succ (S : St) (d : Int) (j : Nat) : lastD S d (j + 1) = if dep S j = d then some j else lastD S d j := rfl
theorem AtS.frozen {w : World} {q : Nat} {s : Sl} (h : AtS w q s) (j : Nat) : w.frozen? ⟨q, j, none⟩ = false := by
  unfold AtS objS at h
  simp [World.frozen?, h]
theorem two_sets {B q : Nat} {w u : World} (h : Below B w u) (hq : B ≤ q) (a b : Value) : Below B w ((u.setCell ⟨q, 0, none⟩ a).setCell ⟨q, 1, none⟩ b) :=
  (h.setCell (p := ⟨q, 0, none⟩) hq a).setCell (p := ⟨q, 1, none⟩) hq b
theorem see_under {w : World} {g cap : Nat} {S : St} (h : RowE w (.slice (some ⟨g, 0, none⟩) S.length cap) S) {i : Nat} (hi : i < S.length) {ad : Addr} (hd : 0 < (underN S i).length → ad = ⟨g, (i + 1) * 3, none⟩) : SeeE w (some ad) (underN S i) := fun j hj => by
  obtain rfl := hd (by omega)
  have he := endN_le hi
  have hul := underN_len hi
  obtain ⟨d0, d1, d2⟩ := h.cells (i := i + 1 + j) (by omega)
  have e : atE (underN S i) j = atE S (i + 1 + j) := by rw [underN_eq, atE_take (by omega), atE_drop]
  refine ⟨g, (i + 1) * 3, rfl, h.lt rfl, ?_, ?_, ?_⟩
  · rw [show (i + 1) * 3 + j * 3 = (i + 1 + j) * 3 by omega]
    unfold slt at d0 ⊢
    rw [e]
    exact d0
  · rw [show (i + 1) * 3 + j * 3 = (i + 1 + j) * 3 by omega]
    unfold slt at d1 ⊢
    rw [e]
    exact d1
  · rw [show (i + 1) * 3 + j * 3 = (i + 1 + j) * 3 by omega]
    unfold dep at d2 ⊢
    rw [e]
    exact d2
theorem all_any (p : Nat) (v : Value) (S : St) (w : World) (h : TrH p v S w) (hl : S.length ≤ 1000) :
    Calls Try.prog 14 #[.pointer (some ⟨p, 0, none⟩)] w fun e w' => ∃ v, e = .returned v ∧ OwnS w.heap.size w' v (allS S) ∧ Below w.heap.size w w' := by
  obtain ⟨ao, cap, rfl, -, -, -⟩ := h.row.slice
  have c0 := h.cell
  have HI : Hid _ := slotsOf_any ao cap S w h.row.see hl
  clear h
  go_enter Try.func14, Try.ntmps14
  go_wp2_with (go_at_call 34; refine Calls.mono HI.out ?_; rintro e w' ⟨v, rfl, o, b⟩)
  go_ret
  exact ⟨_, rfl, o, b⟩
theorem underS_any (p : Nat) (v : Value) (S : St) (s : Sl) (w : World) (h : TrH p v S w) (hl : S.length ≤ 1000) :
    Calls Try.prog 15 #[.pointer (some ⟨p, 0, none⟩), encS s] w fun e w' => ∃ v, e = .returned v ∧ OwnS w.heap.size w' v (underS S s) ∧ Below w.heap.size w w' := by
  have b1 := below_new w (objS s)
  have HP := place_any p v S s (w.alloc (objS s)) (h.below b1) hl
  obtain ⟨s0, s1⟩ := (AtS.new w s).cells
  have B : Hid (Below w.heap.size w (w.alloc (objS s))) := b1
  have hI : Hid _ := HP
  have H : Hid (TrH p v S w ∧ S.length ≤ 1000) := ⟨h, hl⟩
  have HX : Hid (plI S s = if hasB S s then ((pl S s : Nat) : Int) else -1) := rfl
  generalize plI S s = z at *
  have HU : Hid (underS S s = if hasB S s then allS (underN S (pl S s)) else []) := rfl
  generalize underS S s = us at *
  clear HP b1 h hl
  simp only [encS, objS] at *
  go_enter Try.func15, Try.ntmps15
  cases hh : hasB S s with
  | false =>
    rw [hh] at HU hI
    obtain rfl := HU.out
    go_wp2_with (go_at_call 26; refine Calls.mono hI.out ?_; rintro e w' ⟨rfl, b2⟩)
    go_ret
    exact ⟨_, rfl, World.ownsRow_nil _ _ _ _, Below.then B.out b2 B.out.size⟩
  | true =>
    rw [hh] at HU HX hI
    obtain rfl : z = ((pl S s : Nat) : Int) := HX.out
    obtain rfl := HU.out
    obtain ⟨hp1, -⟩ := pl_slt hh
    go_wp2_with fail
    refine Calls.mono hI.out ?_
    rintro e w2 ⟨rfl, b2⟩
    have B2 : Hid (Below w.heap.size w w2) := Below.then B.out b2 B.out.size
    obtain ⟨ao, cap, rfl, -, -, hg⟩ := H.out.1.row.slice
    obtain ⟨g, rfl⟩ := hg _ hp1
    have HP1 : Hid (pl S s < S.length) := hp1
    clear hI s0 s1 B b2 hg hh HX HU hp1
    go_wp2_with fail
    refine Calls.mono (under_any p g cap S (pl S s) w2 (H.out.1.below B2.out) HP1.out H.out.2) ?_
    rintro e w3 ⟨ad, c, rfl, hd, b3⟩
    have B3 : Hid (Below w.heap.size w w3) := Below.then B2.out b3 B2.out.size
    have he := endN_le HP1.out
    have hul := underN_len HP1.out
    have HI : Hid _ := slotsOf_any (some ad) c (underN S (pl S s)) w3 (see_under (H.out.1.below B3.out).row HP1.out hd) (by have := H.out.2; omega)
    clear he hul hd b3
    go_wp2_with (go_at_call 34; refine Calls.mono HI.out ?_; rintro e w' ⟨v, rfl, o, b⟩)
    go_ret
    exact ⟨_, rfl, OwnS.mono o B3.out.size, Below.then B3.out b B3.out.size⟩
set_option maxHeartbeats 2000000 in
theorem parent_any (p : Nat) (v : Value) (S : St) (s : Sl) (w : World) (h : TrH p v S w) (hl : S.length ≤ 1000) :
    Calls Try.prog 16 #[.pointer (some ⟨p, 0, none⟩), encS s] w fun e w' => e = .returned (.tuple #[encS (parS S s), .bool (parB S s)]) ∧ Below w.heap.size w w' := by
  obtain ⟨x1, x2, x3, x4⟩ := box2 w (objS s) (objS no)
  have H : Hid (TrH p v S w ∧ S.length ≤ 1000) := ⟨h, hl⟩
  obtain ⟨s0, s1⟩ := AtS.cells (show AtS _ _ s from x1)
  have HP := place_any p v S s _ (h.below x4) hl
  have hI : Hid _ := HP
  have HX : Hid (plI S s = if hasB S s then ((pl S s : Nat) : Int) else -1) := rfl
  generalize plI S s = z at *
  have HU : Hid (parS S s = (if hasB S s then (parN S (pl S s)).map (slt S) else none).getD no ∧ parB S s = (if hasB S s then (parN S (pl S s)).map (slt S) else none).isSome) := ⟨rfl, rfl⟩
  generalize parS S s = ps at *
  generalize parB S s = pb at *
  clear HP h hl
  simp only [encS, objS, no] at *
  go_enter Try.func16, Try.ntmps16
  go_wp2_with fail
  refine Calls.mono hI.out ?_
  rintro e w3 ⟨rfl, b3⟩
  have a2 : AtS w3 (w.heap.size + 1) no := (b3.block _ (by rw [x3]; omega)).trans x2
  have B3 : Hid (Below w.heap.size w w3) := Below.then x4 b3 x4.size
  have A2 : Hid (AtS w3 (w.heap.size + 1) no) := a2
  obtain ⟨z0, z1⟩ := a2.cells
  have zf := a2.frozen
  clear hI s0 s1 x1 x2 x3 x4 b3 a2
  simp only [no] at z0 z1
  generalize hr0 : w.heap.size = r at *
  have HR : Hid (w.heap.size = r) := hr0
  clear hr0
  cases hh : hasB S s with
  | false =>
    rw [hh] at HU
    obtain ⟨e1, e2⟩ := HU.out
    obtain rfl : ps = no := e1
    obtain rfl : pb = false := e2
    go_wp2
    refine bodyPost_ret (v := .tuple #[encS no, .bool false]) ?_ rfl ⟨rfl, ?_⟩
    · simp [results, Try.f16, go_sem, encS, no, z0, z1]
    · rw [HR.out]; exact two_sets B3.out (by omega) _ _
  | true =>
    rw [hh] at HU HX
    obtain rfl : z = ((pl S s : Nat) : Int) := HX.out
    obtain ⟨hp1, -⟩ := pl_slt hh
    obtain ⟨ao, cap, rfl, -, -, hg⟩ := H.out.1.row.slice
    obtain ⟨g, rfl⟩ := hg _ hp1
    have HP1 : Hid (pl S s < S.length) := hp1
    have hp3 : ((pl S s : Nat) : Int) < (S.length : Int) := by omega
    have hl : (S.length : Int) ≤ 1000 := by have := H.out.2; omega
    clear hg hh HX hp1
    unfold parN at HU
    generalize pl S s = i at *
    have hw1 : IntKind.i64.wrap ((i : Int) - 1) = (i : Int) - 1 := by rw [IntKind.wrap_i64]; omega
    go_wp2
    go_loopw [8] (fun s8 wr => ∃ k : Nat, k ≤ i ∧ s8 = .int .i64 ((k : Int) - 1) ∧ Hid (lastD S (dep S i - 1) i = lastD S (dep S i - 1) k) ∧ TrH p (.slice (some ⟨g, 0, none⟩) S.length cap) S wr ∧ AtS wr (r + 1) no ∧ Below r w wr) (fun s8 _ => (intOf s8 + 1).toNat)
    case atStart => exact ⟨i, Nat.le_refl _, rfl, rfl, H.out.1.below (by rw [HR.out]; exact B3.out), A2.out, B3.out⟩
    case round =>
      obtain ⟨k, hk, rfl, hd, h1, a1, b1⟩ := hrel
      clear z0 z1 zf A2 B3
      have HK : Hid (TrH p (.slice (some ⟨g, 0, none⟩) S.length cap) S wr ∧ AtS wr (r + 1) no ∧ Below r w wr) := ⟨h1, a1, b1⟩
      obtain ⟨z0, z1⟩ := a1.cells
      have zf := a1.frozen
      simp only [no] at z0 z1
      cases k with
      | zero =>
        have hN : lastD S (dep S i - 1) i = none := hd.out
        rw [hN] at HU
        obtain ⟨e1, e2⟩ := HU.out
        obtain rfl : ps = no := e1
        obtain rfl : pb = false := e2
        clear hN h1 a1 b1 hd
        go_wp2
        refine bodyPost_ret (v := .tuple #[encS no, .bool false]) ?_ rfl ⟨rfl, ?_⟩
        · simp [results, Try.f16, go_sem, encS, no, z0, z1]
        · rw [HR.out]; exact two_sets HK.out.2.2 (by omega) _ _
      | succ k =>
        have hkl : k < S.length := by have := HP1.out; omega
        obtain ⟨d0, d1, d2⟩ := h1.row.cells hkl
        obtain ⟨-, -, e2⟩ := h1.row.cells HP1.out
        have c0 := h1.cell
        have hb0 : 0 ≤ dep S i ∧ dep S i ≤ 1000 := by
          have := H.out.1.good.pos i HP1.out
          have := H.out.1.good.le i HP1.out
          omega
        have hw2 : IntKind.i64.wrap (dep S i - 1) = dep S i - 1 := by rw [IntKind.wrap_i64]; omega
        have hk1 : ((k + 1 : Nat) : Int) - 1 = (k : Int) := by omega
        have hk2 : (k : Int) < (S.length : Int) := by omega
        rw [hk1]
        have hd' := hd.out.trans (lastD_succ S (dep S i - 1) k)
        by_cases hq : dep S k = dep S i - 1
        · rw [if_pos hq] at hd'
          rw [hd'] at HU
          obtain ⟨e1, e3⟩ := HU.out
          obtain rfl : pb = true := e3
          have HPS : Hid (ps = slt S k) := e1
          have hqq : (dep S k == dep S i - 1) = true := by simp [hq]
          clear hd' hd hq h1 a1 b1 e1 HU hk1 hkl hb0
          generalize slt S k = y at *
          generalize dep S k = dk at *
          generalize dep S i = di at *
          go_wp2
          go_quiet (fail)
          go_wp2
          obtain rfl := HPS.out
          refine bodyPost_ret (v := .tuple #[encS ps, .bool true]) ?_ rfl ⟨rfl, ?_⟩
          · simp [results, Try.f16, go_sem, encS, z0, z1]
          · rw [HR.out]; exact two_sets (below_drewN HK.out.2.2 _) (by omega) _ _
        · rw [if_neg hq] at hd'
          have HD : Hid (lastD S (dep S i - 1) i = lastD S (dep S i - 1) k ∧ k ≤ i) := ⟨hd', by omega⟩
          have hqq : (dep S k == dep S i - 1) = false := by simp [hq]
          clear hd' hd hq h1 a1 b1 HU hk1 hkl hb0
          generalize slt S k = y at *
          generalize hdk : dep S k = dk at *
          clear hdk
          generalize hdi : dep S i = di at *
          have HDI : Hid (dep S i = di) := hdi
          clear hdi
          have hw3 : IntKind.i64.wrap ((k : Int) - 1) = (k : Int) - 1 := by rw [IntKind.wrap_i64]; omega
          go_wp2
          go_quiet (fail)
          go_wp2
          go_roundw
          case rel => exact ⟨k, HD.out.2, rfl, HD.out.1, HK.out.1.below (below_drewN (Below.refl _ _) _), HK.out.2.1.below (below_drewN (Below.refl _ _) _), below_drewN HK.out.2.2 _⟩
          case measure => simp [intOf]
end Go.Proofs.Ythfoeppcageneaa

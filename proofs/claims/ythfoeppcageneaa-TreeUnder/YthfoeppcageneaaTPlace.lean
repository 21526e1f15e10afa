/-
  What place, has of package tree answer: where a slot stands, and whether it is there; the library's IndexFunc over a row of entries; no condition but that the row is short.
-/
import Derived.Test.YthfoeppcageneaaTBase
import Derived.Shelf.Abstract
import Derived.Lib.Walk
namespace Go.Proofs.Ythfoeppcageneaa
set_option linter.unusedSectionVars false
variable [DecidableEq Sl]
open Go.RowKit Go.Deep Go.Shelf

/-- The entries Z lie where the slice leads to. -/
def SeeE (w : World) (ao : Option Addr) (Z : St) : Prop := ∀ j, j < Z.length → ∃ b o, ao = some ⟨b, o, none⟩ ∧ b < w.heap.size ∧ w.cell? ⟨b, o + j * 3, none⟩ = some (.int .i64 (slt Z j).n) ∧ w.cell? ⟨b, o + j * 3 + 1, none⟩ = some (.int .i64 (slt Z j).i) ∧ w.cell? ⟨b, o + j * 3 + 2, none⟩ = some (.int .i64 (dep Z j))
theorem SeeE.below {w w' : World} {ao : Option Addr} {Z : St} (h : SeeE w ao Z) (u : Below w.heap.size w w') : SeeE w' ao Z := fun j hj => by
  obtain ⟨b, o, e, hb, h0, h1, h2⟩ := h j hj
  exact ⟨b, o, e, Nat.lt_of_lt_of_le hb u.size, (u.cell (p := ⟨b, o + j * 3, none⟩) hb).trans h0, (u.cell (p := ⟨b, o + j * 3 + 1, none⟩) hb).trans h1, (u.cell (p := ⟨b, o + j * 3 + 2, none⟩) hb).trans h2⟩
theorem RowE.see {w : World} {ao : Option Addr} {n cap : Nat} {S : St} (h : RowE w (.slice ao n cap) S) : SeeE w ao S := fun j hj => by
  obtain ⟨ao', cap', e, _, _, hg⟩ := h.slice
  cases e
  obtain ⟨g, rfl⟩ := hg j hj
  obtain ⟨h0, h1, h2⟩ := h.cells hj
  exact ⟨g, 0, rfl, h.lt rfl, by simpa using h0, by simpa using h1, by simpa using h2⟩
/-- Where the first one is at which p says yes; below 0, if there is none. -/
def idx (p : En → Bool) (Z : St) : Int := if Z.findIdx p < Z.length then ((Z.findIdx p : Nat) : Int) else -1
theorem idx_hit {p : En → Bool} {Z : St} {k : Nat} (hk : k < Z.length) (h : p (atE Z k) = true) (ha : ∀ j, j < k → p (atE Z j) = false) : idx p Z = (k : Int) := by
  have e : Z.findIdx p = k := by
    rw [List.findIdx_eq hk]
    have ek : atE Z k = Z[k] := atE_of (List.getElem?_eq_getElem hk)
    rw [← ek]
    refine ⟨h, fun j hj => ?_⟩
    have ej : atE Z j = Z[j] := atE_of (List.getElem?_eq_getElem (by omega))
    rw [← ej]
    exact ha j hj
  unfold idx
  rw [e, if_pos hk]
theorem idx_miss {p : En → Bool} {Z : St} (ha : ∀ j, j < Z.length → p (atE Z j) = false) : idx p Z = -1 := by
  unfold idx
  rw [if_neg]
  rw [List.findIdx_lt_length]
  rintro ⟨e, he, hp⟩
  obtain ⟨i, hi, h⟩ := List.mem_iff_getElem.1 he
  have ei : atE Z i = Z[i] := atE_of (List.getElem?_eq_getElem hi)
  have := ha i hi
  rw [ei, h, hp] at this
  cases this
set_option maxHeartbeats 2000000 in
theorem index_any (g : Nat) (lb : Array Value) (p : En → Bool) (ao : Option Addr) (c : Nat) (Z : St) (w : World) (eg : ∀ args w, (callFunc g args).run Try.prog w = .ok (.enter g args) w)
    (hp : ∀ W x, Below w.heap.size w W → Calls Try.prog g (#[.agg #[.int .i64 x.s.n, .int .i64 x.s.i, .int .i64 x.d]] ++ lb) W fun e w' => e = .returned (.bool (p x)) ∧ Below W.heap.size W w') (hl : Z.length ≤ 1000) (hz : SeeE w ao Z) :
    Calls Try.prog 38 #[.slice ao Z.length c, .func (.func g) #[] lb] w fun e w' => e = .returned (.int .i64 (idx p Z)) ∧ Below w.heap.size w w' := by
  have HZ : Hid (SeeE w ao Z) := hz
  have HP : Hid (∀ W x, Below w.heap.size w W → Calls Try.prog g (#[.agg #[.int .i64 x.s.n, .int .i64 x.s.i, .int .i64 x.d]] ++ lb) W fun e w' => e = .returned (.bool (p x)) ∧ Below W.heap.size W w') := hp
  clear hz hp
  go_enter Try.func38, Try.ntmps38
  go_wp2
  go_loopw [5, 8] (fun _ s8 wr => ∃ kk : Nat, kk ≤ Z.length ∧ s8 = .int .i64 kk ∧ Below w.heap.size w wr ∧ Hid (∀ j, j < kk → p (atE Z j) = false)) (fun _ s8 _ => Z.length - (intOf s8).toNat)
  case atStart => exact ⟨0, Nat.zero_le _, rfl, Below.refl _ w, fun j hj => absurd hj (Nat.not_lt_zero _)⟩
  case round =>
    obtain ⟨kk, hkk, rfl, BW, A⟩ := hrel
    have HB : Hid (Below w.heap.size w wr) := BW
    by_cases hlt : kk < Z.length
    · have hltz : (kk : Int) < (Z.length : Int) := by omega
      obtain ⟨b, o, rfl, hb, c0, c1, c2⟩ := HZ.out.below BW kk hlt
      have HL : Hid (kk < Z.length) := hlt
      have hcall := HP.out wr (atE Z kk) BW
      have HY : Hid (p (atE Z kk) = p (atE Z kk)) := rfl
      clear hlt BW hb
      unfold slt at c0 c1
      unfold dep at c2
      generalize hy : atE Z kk = y at c0 c1 c2 hcall
      have B : Hid (atE Z kk = y) := hy
      clear hy HY
      generalize hN : Z.length = N at *
      have HN : Hid (Z.length = N) := hN
      clear hN
      cases hq : p y with
      | true =>
        rw [hq] at hcall
        go_wp2_with (go_at_fn g; refine hcall.mono ?_; rintro e w' ⟨rfl, hb'⟩)
        go_ret
        refine ⟨?_, Below.then HB.out hb' HB.out.size⟩
        rw [idx_hit (k := kk) (by rw [HN.out]; exact HL.out) (by rw [B.out]; exact hq) A.out]
        rfl
      | false =>
        rw [hq] at hcall
        go_wp2_with (go_at_fn g; refine hcall.mono ?_; rintro e w' ⟨rfl, hb'⟩)
        go_roundw
        case rel =>
          refine ⟨kk + 1, by have := HL.out; omega, by go_num, Below.then HB.out hb' HB.out.size, fun j hj => ?_⟩
          by_cases e : j = kk
          · subst e
            rw [B.out]; exact hq
          · exact A.out j (by omega)
        case measure => simp [intOf]; have := HL.out; omega
    · have hltz : ¬ (kk : Int) < (Z.length : Int) := by omega
      have e : kk = Z.length := by omega
      have HE : Hid (idx p Z = -1) := idx_miss (by rw [← e]; exact A.out)
      clear e hlt hkk A
      generalize Z.length = N at *
      go_wp2
      go_ret
      exact ⟨by rw [HE.out]; rfl, HB.out⟩

/-! ### Where a slot stands -/
theorem eq_slots (w : World) (a c : Sl) :
    (Op.equalIn 10000 31 (.agg #[.int .i64 a.n, .int .i64 a.i]) (.agg #[.int .i64 c.n, .int .i64 c.i])).run Try.prog w = .ok (decide (a = c)) w := by
  have u3 := Try.underlying3
  have a3 := Try.isAgg3
  have z3 := Try.sizeOf3
  have hS : Try.prog.underlying 31 = some (.struct (Try.prog.fieldsOf 31)) := by kernel_rfl
  have hp : Try.prog.stoodInHeld 31 = false := by kernel_rfl
  rw [show (10000 : Nat) = 9999 + 1 from rfl, run_equalIn_agg w 9999 31 _ _ hS hp]
  simp only [Program.fieldsOf, Try.underlying31]
  go_simp
  obtain ⟨n, i⟩ := a
  obtain ⟨n', i'⟩ := c
  by_cases h1 : n = n' <;> by_cases h2 : i = i' <;> simp [h1, h2]
/-- Block q is the entry x. -/
def AtE (w : World) (q : Nat) (x : En) : Prop := w.heap[q]? = some (objE x)
theorem AtE.new (w : World) (x : En) : AtE (w.alloc (objE x)) w.heap.size x := blk_alloc_new _ _
theorem AtE.cells {w : World} {q : Nat} {x : En} (h : AtE w q x) : w.cell? ⟨q, 0, none⟩ = some (.int .i64 x.s.n) ∧ w.cell? ⟨q, 1, none⟩ = some (.int .i64 x.s.i) ∧ w.cell? ⟨q, 2, none⟩ = some (.int .i64 x.d) := by
  unfold AtE objE at h
  refine ⟨?_, ?_, ?_⟩ <;> simp [World.cell?, h]
theorem isP_any (q : Nat) (s : Sl) (x : En) (w : World) (h : AtS w q s) :
    Calls Try.prog 39 #[.agg #[.int .i64 x.s.n, .int .i64 x.s.i, .int .i64 x.d], .pointer (some ⟨q, 0, none⟩)] w fun e w' => e = .returned (.bool (isP s x)) ∧ Below w.heap.size w w' := by
  have b1 := below_new w (objE x)
  obtain ⟨s0, s1⟩ := (h.below b1).cells
  obtain ⟨c0, c1, -⟩ := (AtE.new w x).cells
  have B : Hid (Below w.heap.size w (w.alloc (objE x))) := b1
  have hq := fun W => eq_slots W x.s s
  clear b1 h
  unfold isP
  generalize decide (x.s = s) = β at *
  simp only [objE] at *
  go_enter Try.func39, Try.ntmps39
  go_wp2
  go_ret
  exact ⟨rfl, B.out⟩
def plI (S : St) (s : Sl) : Int := if hasB S s then ((pl S s : Nat) : Int) else -1
theorem idx_pl (S : St) (s : Sl) : idx (isP s) S = plI S s := by
  unfold idx plI hasB pl
  simp only [decide_eq_true_eq]
theorem place_any (p : Nat) (v : Value) (S : St) (s : Sl) (w : World) (h : TrH p v S w) (hl : S.length ≤ 1000) :
    Calls Try.prog 26 #[.pointer (some ⟨p, 0, none⟩), encS s] w fun e w' => e = .returned (.tuple #[.int .i64 (plI S s), .bool (hasB S s)]) ∧ Below w.heap.size w w' := by
  have b1 := below_new w (objS s)
  have h1 := h.below b1
  have a1 := AtS.new w s
  obtain ⟨ao, cap, rfl, -, -, -⟩ := h.row.slice
  have c0 := h1.cell
  have B : Hid (Below w.heap.size w (w.alloc (objS s))) := b1
  have HI := index_any 39 #[.pointer (some ⟨w.heap.size, 0, none⟩)] (isP s) ao cap S (w.alloc (objS s)) (enters_of Try.func39 (by kernel_rfl) rfl) (fun W x hW => isP_any w.heap.size s x W (a1.below hW)) hl h1.row.see
  rw [idx_pl] at HI
  have hI : Hid _ := HI
  have HX : Hid (plI S s = (if hasB S s then ((pl S s : Nat) : Int) else -1)) := rfl
  clear HI b1 h1 a1 h
  simp only [encS, objS] at *
  go_enter Try.func26, Try.ntmps26
  go_wp2_with (go_at_call 38; refine Calls.mono hI.out ?_; rintro e w' ⟨rfl, b2⟩)
  have B2 : Hid (Below w.heap.size w w') := Below.then B.out b2 B.out.size
  clear B hI c0 b2
  generalize plI S s = z at *
  cases hh : hasB S s with
  | true =>
    rw [hh, if_pos rfl] at HX
    obtain rfl := HX.out
    clear HX
    go_wp2
    go_ret2
    exact ⟨rfl, B2.out⟩
  | false =>
    rw [hh] at HX
    obtain rfl : z = -1 := HX.out
    clear HX
    go_wp2
    go_ret2
    exact ⟨rfl, B2.out⟩
theorem has_any (p : Nat) (v : Value) (S : St) (s : Sl) (w : World) (h : TrH p v S w) (hl : S.length ≤ 1000) :
    Calls Try.prog 29 #[.pointer (some ⟨p, 0, none⟩), encS s] w fun e w' => e = .returned (.bool (hasB S s)) ∧ Below w.heap.size w w' := by
  have b1 := below_new w (objS s)
  have HP := place_any p v S s (w.alloc (objS s)) (h.below b1) hl
  obtain ⟨s0, s1⟩ := (AtS.new w s).cells
  have B : Hid (Below w.heap.size w (w.alloc (objS s))) := b1
  have hI : Hid _ := HP
  clear HP b1 h
  simp only [encS, objS] at *
  go_enter Try.func29, Try.ntmps29
  go_wp2_with (go_at_call 26; refine Calls.mono hI.out ?_; rintro e w' ⟨rfl, b2⟩)
  have B2 : Hid (Below w.heap.size w w') := Below.then B.out b2 B.out.size
  clear B hI b2
  go_ret
  exact ⟨rfl, B2.out⟩
end Go.Proofs.Ythfoeppcageneaa

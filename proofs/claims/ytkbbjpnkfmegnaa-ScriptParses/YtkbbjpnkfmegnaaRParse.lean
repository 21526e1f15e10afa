/-
  The document's Parse by its contract; no condition of ours.
-/
import Derived.Test.YtkbbjpnkfmegnaaSLaw
import Derived.Test.YtkbbjpnkfmegnaaSRRight
import Derived.Deep.RegionHeld3
import Derived.BigRegion
namespace Go.Proofs.Ytkbbjpnkfmegnaa
open Go.RowKit Go.Deep
set_option maxHeartbeats 4000000 in
theorem rparse_any (l : List Int) (c : Int) (hb : Bytes8 l) (hl : l.length ≤ 400) (w : World) :
    Calls Try.prog 12 #[.string (strOfNums l), .int .i64 c] w fun e w' => ∃ ao cap, e = .returned (.slice ao (pick c (items l)).length cap) ∧ ToldI w' ao (pick c (items l)) ∧ Below w.heap.size w w' := by
  have hsz : (strOfNums l).size = l.length := strOfNums_size l
  have hsg := fun i hi => str_get l hb i hi
  have hil := items_len l
  have o0 := ownI_new w.heap.size w (Nat.le_refl _)
  have b0 := below_new w (.cells #[] 29)
  generalize strOfNums l = s at *
  go_enter Try.func12, Try.ntmps12
  go_wp2
  generalize w.alloc (.cells #[] 29) = w0 at *
  generalize hr : w.heap.size = r at *
  go_loopw [5, 6] (fun v i wr => ∃ k : Nat, 4 * k ≤ l.length ∧ i = .int .i64 ((4 * k : Nat) : Int) ∧ OwnI r wr v (pick c ((items l).take k)) ∧ Below r w wr) (fun _ i _ => l.length + 4 - (intOf i).toNat)
  case atStart => exact ⟨0, by omega, rfl, by simpa [pick] using o0, b0⟩
  case round =>
    obtain ⟨k, hk, rfl, ho, br⟩ := hrel
    clear o0 b0
    have hw4 : IntKind.i64.wrap (((4 * k : Nat) : Int) + 4) = ((4 * k + 4 : Nat) : Int) := by rw [IntKind.wrap_i64] <;> omega
    obtain ⟨ao, cap, rfl⟩ := ho.slice
    by_cases hk4 : 4 * k + 4 ≤ l.length
    · clear hw4
      have hx := items_get l k hk4
      generalize hp : 4 * k = p at *
      have HP : Hid (4 * k = p) := hp
      clear hp
      have g0 : ∀ h, ((s[p]'h).toNat : Int) = l.getD p 0 := fun h => hsg _ h
      have g1 : ∀ h, ((s[p + 1]'h).toNat : Int) = l.getD (p + 1) 0 := fun h => hsg _ h
      have g2 : ∀ h, ((s[p + 2]'h).toNat : Int) = l.getD (p + 2) 0 := fun h => hsg _ h
      have g3 : ∀ h, ((s[p + 3]'h).toNat : Int) = l.getD (p + 3) 0 := fun h => hsg _ h
      have hm : ∀ j, j < l.length → 0 ≤ l.getD j 0 ∧ l.getD j 0 < 256 := fun j hj => by rw [List.getD_eq_getElem?_getD, List.getElem?_eq_getElem hj]; exact hb _ (List.getElem_mem hj)
      have B0 := hm p (by omega)
      have B1 := hm (p + 1) (by omega)
      have B2 := hm (p + 2) (by omega)
      have B3 := hm (p + 3) (by omega)
      clear hm
      generalize l.getD p 0 = a0, l.getD (p + 1) 0 = a1, l.getD (p + 2) 0 = a2, l.getD (p + 3) 0 = a3 at *
      have v1 : IntKind.i64.wrap ((p : Int) + 1) = (p : Int) + 1 := by rw [IntKind.wrap_i64] <;> omega
      have v2 : IntKind.i64.wrap ((p : Int) + 2) = (p : Int) + 2 := by rw [IntKind.wrap_i64] <;> omega
      have v3 : IntKind.i64.wrap ((p : Int) + 3) = (p : Int) + 3 := by rw [IntKind.wrap_i64] <;> omega
      have v4 : IntKind.i64.wrap ((p : Int) + 4) = (p : Int) + 4 := by rw [IntKind.wrap_i64] <;> omega
      have l0 : (p : Int) < (l.length : Int) := by omega
      have l1 : (p : Int) + 1 < (l.length : Int) := by omega
      have l2 : (p : Int) + 2 < (l.length : Int) := by omega
      have l3 : (p : Int) + 3 < (l.length : Int) := by omega
      have l4 : (p : Int) + 4 ≤ (l.length : Int) := by omega
      have n1 : (0 : Int) ≤ (p : Int) + 1 := by omega
      have n2 : (0 : Int) ≤ (p : Int) + 2 := by omega
      have n3 : (0 : Int) ≤ (p : Int) + 3 := by omega
      have q1 : ((p : Int) + 1).toNat = p + 1 := by omega
      have q2 : ((p : Int) + 2).toNat = p + 2 := by omega
      have q3 : ((p : Int) + 3).toNat = p + 3 := by omega
      have u0 : IntKind.i64.wrap a0 = a0 := by rw [IntKind.wrap_i64] <;> omega
      have u1 : IntKind.i64.wrap a1 = a1 := by rw [IntKind.wrap_i64] <;> omega
      have u2 : IntKind.i64.wrap a2 = a2 := by rw [IntKind.wrap_i64] <;> omega
      have u3 : IntKind.i64.wrap a3 = a3 := by rw [IntKind.wrap_i64] <;> omega
      have HX : Hid ((items l)[k]? = some ⟨a0, a1, a2, a3⟩) := hx
      have HO : Hid (OwnI r wr (Value.slice ao (pick c (List.take k (items l))).length cap) (pick c (List.take k (items l)))) := ho
      have HB : Hid (Below r w wr) := br
      have HK : Hid (p + 4 ≤ l.length) := hk4
      have HL : Hid (l.length ≤ 400) := hl
      generalize (pick c (List.take k (items l))).length = m at *
      generalize l.length = n at *
      clear hsg hil hx ho br B0 B1 B2 B3 hk hk4 hl hb
      go_wp2
      clear l4
      go_region
      clear g0 g1 g2 g3 v1 v2 v3 n1 n2 n3 q1 q2 q3 u0 u1 u2 u3 l0 l1 l2 l3
      obtain ⟨x, hxe⟩ : ∃ x : It, x = ⟨a0, a1, a2, a3⟩ := ⟨_, rfl⟩
      have e0 : a0 = x.k := by rw [hxe]
      have e1 : a1 = x.c := by rw [hxe]
      have e2 : a2 = x.a := by rw [hxe]
      have e3 : a3 = x.b := by rw [hxe]
      rw [← hxe] at HX
      subst e0 e1 e2 e3
      clear hxe
      have hA := (AtI.new wr x)
      have hb1 := below_new wr (objI x)
      have ho1 := HO.out.below hb1
      have hbr := HB.out
      have hrw : r ≤ wr.heap.size := by have := hbr.size; omega
      have hB1 := Below.then hbr hb1 hrw
      simp only [objI, fourI] at hA hb1 ho1 hB1
      generalize hW1 : wr.alloc (.cells #[.int .i64 x.k, .int .i64 x.c, .int .i64 x.a, .int .i64 x.b] 29) = W1 at *
      have hA1 : AtI W1.drew wr.heap.size x := hA
      have ho2 : OwnI r W1.drew (.slice ao m cap) (pick c (List.take k (items l))) := ho1
      have hB2 : Below r w W1.drew := hB1.drew
      generalize W1.drew = W2 at *
      clear hA hb1 ho1 hbr hB1 hW1
      generalize wr.heap.size = q at *
      obtain ⟨c0, c1, c2, c3⟩ := hA1.cells
      have hb3 := below_new W2 (objI x)
      have hA3 := hA1.below hb3
      have ho3 := ho2.below hb3
      have hB3 := Below.then hB2 hb3 (by have := hB2.size; omega)
      obtain ⟨d0, d1, d2, d3⟩ := hA3.cells
      cases hrt : rightB c x with
      | true =>
        have HR : Hid (rightB c x = true) := hrt
        clear hrt
        go_wp2_with fail
        refine (rright_any x c W2).mono ?_
        rintro e w4 ⟨rfl, rfl⟩
        rw [HR.out]
        generalize W2.alloc (objI x) = W3 at *
        have hlen : (pick c (List.take k (items l))).length + 1 ≤ 1000000 := by
          have h1 := pick_len c (List.take k (items l)); have h2 : (List.take k (items l)).length ≤ k := by simp; omega
          have := HP.out; have := HK.out; have := HL.out
          omega
        have hT : ToldI (W3.alloc (objI x)) (some ⟨W3.heap.size, 0, none⟩) [x] := .inr ⟨_, 0, rfl, by simp, fun j y hj => by
          cases j with
          | zero => simp at hj; subst hj; simpa using (AtI.new W3 x).cells
          | succ j => simp at hj⟩
        obtain ⟨v', w', hrun, ho', hg⟩ := append_items r (W3.alloc (objI x)) 24 (.slice ao m cap) _ [x] (some ⟨W3.heap.size, 0, none⟩) 1 (ho3.below (below_new _ _)) hT (fun h => by cases h) (by simpa using hlen) (by have := hB3.size; simp; omega)
        rw [← pick_hit c _ x HR.out, ← take_snoc HX.out] at ho'
        have hB4 : Below r w w' := by
          have hb5 : Below r W3 (W3.alloc (objI x)) := (below_new _ _).mono (by have := hB3.size; omega)
          refine hB3.trans (hb5.grown hg (by have := hB3.size; simp; omega) fun j ej => (ho3.block j ej).1)
        obtain ⟨ao', cap', rfl⟩ := ho'.slice
        have HRun : Hid _ := hrun
        have HO' : Hid (OwnI r w' (.slice ao' (pick c (List.take (k + 1) (items l))).length cap') (pick c (List.take (k + 1) (items l)))) := ho'
        clear hrun hg ho' hT ho3 hB3 hA3 hb3 hA1 ho2 hB2 c0 c1 c2 c3
        generalize (pick c (List.take (k + 1) (items l))).length = m' at *
        simp only [objI, fourI] at HRun
        go_wp2_with (at_builtin; refine wpList_append_run rfl (.tmp 39) (.tmp 41) 24 rfl _ _ _ _ rfl rfl HRun.out ?_)
        go_roundw
        case rel => exact ⟨k + 1, by have := HP.out; have := HK.out; omega, by have := HP.out; go_num, HO'.out, hB4⟩
        case measure => have := HK.out; simp [intOf]; omega
      | false =>
        have HR : Hid (rightB c x = false) := hrt
        clear hrt
        go_wp2_with fail
        refine (rright_any x c W2).mono ?_
        rintro e w4 ⟨rfl, rfl⟩
        rw [HR.out]
        generalize W2.alloc (objI x) = W3 at *
        rw [← pick_miss c _ x HR.out, ← take_snoc HX.out] at ho3
        have HO' : Hid (OwnI r W3 (.slice ao m cap) (pick c (List.take (k + 1) (items l)))) := ho3
        clear ho3 hA3 hb3 hA1 ho2 hB2 c0 c1 c2 c3
        go_wp2
        go_roundw
        case rel => exact ⟨k + 1, by have := HP.out; have := HK.out; omega, by have := HP.out; go_num, HO'.out, hB3⟩
        case measure => have := HK.out; simp [intOf]; omega
    · go_wp2
      go_ret
      have h1 : (items l).length ≤ k := by omega
      rw [List.take_of_length_le h1] at ho
      have ho' := ho
      obtain ⟨ao2, cap2, e, ht, _, _⟩ := ho.told
      rw [List.take_of_length_le h1]
      simp only [Value.slice.injEq] at e
      obtain ⟨rfl, _, rfl⟩ := e
      exact ⟨ao, cap, rfl, ht, by rw [hr]; exact br⟩
end Go.Proofs.Ytkbbjpnkfmegnaa

/-
  SlotsDrops answers true for every input, and leaves it; no condition of ours.
-/
import Derived.Test.YtkpoppgibempbaaNLaw
import Derived.Deep.Cut
import Derived.Deep.CutRange
namespace Go.Proofs.Ytkpoppgibempbaa.slotsDrops
open Go.RowKit Go.Deep Go.MapKept Go.Maps
set_option linter.unusedSectionVars false
section
variable [dCp : DecidableEq Cp] [dLim : ∀ k, Decidable (Lim k)] [dBad : ∀ k, Decidable (Bad k)] [dFit : ∀ g z, Decidable (Fit g z)] [dFine : ∀ c, Decidable (Fine c)] [dMint : ∀ c v, Decidable (MintR c v)] [dWho : ∀ x y, Decidable (Whose x y)] [dSl : DecidableEq Sl] [dLt : ∀ a b, Decidable (ltS a b)] [iSl : Inhabited Sl] [iCp : Inhabited Cp]
/-- How many are held in a node. -/
def inN (A : List (Sl × Cp)) (n : Int) : Nat := (A.filter fun p => p.1.n == n).length
theorem inN_snoc (A : List (Sl × Cp)) (n : Int) (p : Sl × Cp) : inN (A ++ [p]) n = if p.1.n = n then inN A n + 1 else inN A n := by
  unfold inN
  by_cases h : p.1.n = n
  · simp [h]
  · simp [h]
theorem in_le (A : List (Sl × Cp)) (n : Int) : inN A n ≤ A.length := List.length_filter_le _ _
theorem node_free {S : St} (k : Nat) : inN (held S) (k : Int) = 0 ↔ ∀ c ∈ S.getD k [], c.k = 0 := by
  unfold inN
  rw [List.length_eq_zero_iff, List.filter_eq_nil_iff]
  constructor
  · intro h c hc
    refine Decidable.byContradiction fun h0 => ?_
    obtain ⟨i, hi⟩ := List.getElem?_of_mem hc
    have hm : ((⟨(k : Int), (i : Int)⟩ : Sl), c) ∈ held S := (mem_held S _ c).2 (by rw [hold_row, hi]; simp [h0])
    have := h _ hm
    simp at this
  · intro h p hp hn
    have hp' := (mem_held S p.1 p.2).1 hp
    have hn' : p.1.n = (k : Int) := by simpa using hn
    unfold holdS at hp'
    split at hp'
    · rename_i c hc
      have hm := atS_mem hc
      have e : p.1.n.toNat = k := by omega
      rw [e] at hm
      rw [if_pos (h c (List.mem_of_getElem? hm.2.2.2.2.1))] at hp'
      cases hp'
    · cases hp'
theorem size_row {S : St} {k : Nat} (h : (S.getD k []).length = 4) : sizeB S (k : Int) = true ∧ sizeN S (k : Int) = 2 := by
  have hne : S.getD k [] ≠ [] := fun e => by rw [e] at h; cases h
  unfold sizeB sizeN
  rw [nodeS_nat, if_neg hne]
  refine ⟨?_, ?_⟩
  · cases hS : S.getD k [] with
    | nil => exact absurd hS hne
    | cons => rfl
  · unfold bitsL
    rw [h]
    rfl
theorem drop_one {S : St} (h : Two4 S) (k j : Nat) (hk : k ≤ 1) (hj : j = 1 - k) :
    ∃ e T z b, dropE S (k : Int) = e ∧ dropS S (k : Int) = T ∧ sizeN T (k : Int) = z ∧ sizeB T (k : Int) = b ∧ sizeN T (j : Int) = 2 ∧ sizeB T (j : Int) = true ∧ held T = held S ∧ (e = 0 ↔ inN (held S) (k : Int) = 0) ∧ (b = true ↔ 0 < inN (held S) (k : Int)) := by
  have hrk := size_row (h.row k (by omega))
  have hrj := size_row (h.row j (by omega))
  have hne : S.getD k [] ≠ [] := fun e => by have := h.row k (by omega); rw [e] at this; cases this
  by_cases hf : ∀ c ∈ S.getD k [], c.k = 0
  · have h0 := (node_free k).2 hf
    have e0 : dropE S (k : Int) = 0 := by
      unfold dropE
      rw [nodeS_nat, if_neg hne, if_neg (by rintro ⟨c, hc, hk⟩; exact hk (hf c hc))]
    have eT : dropS S (k : Int) = S.set k [] := by unfold dropS; rw [if_pos e0, Int.toNat_natCast]
    have gk : (S.set k []).getD k [] = [] := by rw [getD_set, if_pos ⟨rfl, by have := h.len; omega⟩]
    have gj : (S.set k []).getD j [] = S.getD j [] := by rw [getD_set, if_neg (by omega)]
    have hj2 := size_row (S := S.set k []) (k := j) (by rw [gj]; exact h.row j (by omega))
    refine ⟨0, S.set k [], 0, false, e0, eT, ?_, ?_, hj2.2, hj2.1, held_congr fun s => hold_drop hf s, by simp [h0], by simp [h0]⟩
    · unfold sizeN; rw [nodeS_nat, gk]; rfl
    · unfold sizeB; rw [nodeS_nat, gk]; rfl
  · have h0 : inN (held S) (k : Int) ≠ 0 := fun e => hf ((node_free k).1 e)
    have e0 : dropE S (k : Int) = 51 := by
      unfold dropE
      rw [nodeS_nat, if_neg hne, if_pos (by
        refine Classical.byContradiction fun hn => hf fun c hc => Decidable.byContradiction fun hk => hn ⟨c, hc, hk⟩)]
    have eT : dropS S (k : Int) = S := by unfold dropS; rw [if_neg (by rw [e0]; decide)]
    exact ⟨51, S, 2, true, e0, eT, hrk.2, hrk.1, hrj.2, hrj.1, rfl, by simp [h0], by simp; omega⟩
set_option maxHeartbeats 4000000 in
set_option maxRecDepth 100000 in
theorem walk (ao : Option Addr) (X : List Oc) (cap : Nat) (kk : Int) (w : World) (hX : Script w ao X) (hl : X.length ≤ 9223372036854775807) (_hk : -9223372036854775808 ≤ kk ∧ kk ≤ 9223372036854775807) :
    Calls Try.prog 8 #[.slice ao X.length cap, .int .i64 kk] w fun e w' => e = .returned (.bool true) ∧ Below w.heap.size w w' := by
  have HX : Hid (Script w ao X ∧ X.length ≤ 9223372036854775807) := ⟨hX, hl⟩
  clear hX hl
  obtain ⟨k1, hk1', e1⟩ := mask1 kk
  obtain ⟨k2, hk2'⟩ : ∃ k2, k2 = 1 - k1 := ⟨_, rfl⟩
  have e2 : bits BinOp.xor IntKind.i64 (k1 : Int) 1 = (k2 : Int) := by
    have : k1 = 0 ∨ k1 = 1 := by omega
    rcases this with rfl | rfl <;> (subst hk2'; decide)
  have HK1 : Hid (k1 ≤ 1 ∧ k2 = 1 - k1) := ⟨hk1', hk2'⟩
  clear hk1' hk2'
  go_enter Try.func8, Try.ntmps8
  go_wp2_with fail
  refine (two_any _).mono ?_
  rintro e w1 ⟨p, F, rfl, h0⟩
  have h1 : Hid (Has w w.heap.size w1 p F two0 [] []) := h0
  clear h0
  generalize hr0 : w.heap.size = r at *
  have HR : Hid (w.heap.size = r) := hr0
  clear hr0
  go_wp2
  go_loopw [6] (fun i wr => ∃ (k : Nat) (S : St), k ≤ 20 ∧ i = .int .i64 k ∧ Two4 S ∧ Has w r wr p F S [] []) (fun i _ => 20 - (intOf i).toNat)
  case atStart => exact ⟨0, two0, by omega, rfl, two4_0, h1.out⟩
  case round =>
    obtain ⟨k, S, hk, rfl, ht, hh⟩ := hrel
    have HT : Hid (Two4 S) := ht
    have h5h : Hid (Has w r wr p F S [] []) := hh
    clear ht hh h1
    by_cases hlt : k < X.length ∧ k < 20
    · obtain ⟨x, hx⟩ : ∃ x, X[k]? = some x := ⟨_, List.getElem?_eq_getElem hlt.1⟩
      obtain ⟨fx, b0, o0, rfl, hb, _⟩ := HX.out.1 k x hx
      have HP : Hid (∀ W, Below r w W → W.cell? ⟨b0, o0 + k * 12 + 2, none⟩ = some (.int .i64 x.a.n) ∧ W.cell? ⟨b0, o0 + k * 12 + 2 + 1, none⟩ = some (.int .i64 x.a.i) ∧ W.cell? ⟨b0, o0 + k * 12 + 6, none⟩ = some (.int .i64 x.c.k) ∧ W.cell? ⟨b0, o0 + k * 12 + 6 + 1, none⟩ = some (.int .i64 x.c.o) ∧ W.cell? ⟨b0, o0 + k * 12 + 6 + 2, none⟩ = some (.int .i64 x.c.r) ∧ W.cell? ⟨b0, o0 + k * 12 + 6 + 3, none⟩ = some (.int .u64 x.c.b) ∧ W.cell? ⟨b0, o0 + k * 12 + 6 + 4, none⟩ = some (.int .u64 x.c.g) ∧ W.cell? ⟨b0, o0 + k * 12 + 6 + 5, none⟩ = some (.int .i64 x.c.z)) := fun W u => script_put HX.out.1 hx rfl (by rw [HR.out]; exact u)
      have hS := HP.out wr h5h.out.low
      have HF : Hid (x.Fits) := fx
      have hk1 : (k : Int) < (X.length : Int) := by omega
      have hk2 : (k : Int) < 20 := by omega
      have HK : Hid (k < 20) := hlt.2
      clear hlt hx hb fx
      generalize hXl : X.length = n at *
      clear hXl
      go_wp2
      go_region_held3 (fun W => W.cell? ⟨b0, o0 + k * 12 + 2, none⟩ = some (.int .i64 x.a.n) ∧ W.cell? ⟨b0, o0 + k * 12 + 2 + 1, none⟩ = some (.int .i64 x.a.i) ∧ W.cell? ⟨b0, o0 + k * 12 + 6, none⟩ = some (.int .i64 x.c.k) ∧ W.cell? ⟨b0, o0 + k * 12 + 6 + 1, none⟩ = some (.int .i64 x.c.o) ∧ W.cell? ⟨b0, o0 + k * 12 + 6 + 2, none⟩ = some (.int .i64 x.c.r) ∧ W.cell? ⟨b0, o0 + k * 12 + 6 + 3, none⟩ = some (.int .u64 x.c.b) ∧ W.cell? ⟨b0, o0 + k * 12 + 6 + 4, none⟩ = some (.int .u64 x.c.g) ∧ W.cell? ⟨b0, o0 + k * 12 + 6 + 5, none⟩ = some (.int .i64 x.c.z)) ((first | assumption | with_reducible exact HP.out _ (h5h.out.low.drew) | with_reducible exact HP.out _ h2.low))
        (first | (go_at_call 12; refine (put_has x.a x.c _ _ (h5h.out.drew) HF.out.a HF.out.c rfl rfl).mono ?_; rintro e w' ⟨rfl, h2⟩))
      have h2 : Hid _ := h2
      go_wp2
      go_roundw
      case rel => exact ⟨k + 1, _, HK.out, by go_num, HT.out.put x.a HF.out.c, h2.out⟩
      case measure => simp [intOf]; have := HK.out; omega
    · have hge : (¬ k < X.length) ∨ (k < X.length ∧ k = 20) := by omega
      rcases hge with hge | hge
      · have hk1 : ¬ ((k : Int) < (X.length : Int)) := by omega
        clear hge hlt hk
        generalize hXl : X.length = n at *
        clear hXl HX
        obtain ⟨A, HA⟩ : ∃ A, Hid (held S = A ∧ A.length ≤ 1000000) := ⟨_, rfl, Nat.le_trans (held_le HT.out.ok) (by decide)⟩
        go_wp2_with fail
        refine (held_is A HA.out.1 h5h.out).mono ?_
        rintro e w7 ⟨ao7, cap7, rfl, h7⟩
        have k7 : Hid (Has w r w7 p F S [] [(.slice ao7 A.length cap7, A)]) := h7
        clear h7 h5h
        have HC : Hid _ := (k7.out.row (.slice ao7 A.length cap7, A) (by simp)).1.cells.2
        go_wp2
        go_loop [8, 9] (fun h i => ∃ j : Nat, j ≤ A.length ∧ i = .int .i64 j ∧ h = .int .i64 (inN (A.take j) (k1 : Int) : Nat)) (fun _ i => A.length - (intOf i).toNat)
        case atStart => exact ⟨0, Nat.zero_le _, rfl, by simp [inN]⟩
        case round =>
          obtain ⟨j, hj, rfl, rfl⟩ := hrel
          by_cases hjl : j < A.length
          · obtain ⟨x, hx⟩ : ∃ x, A[j]? = some x := ⟨_, List.getElem?_eq_getElem hjl⟩
            obtain ⟨g, rfl, c0, _, _, _, _, _, _, _, _⟩ := HC.out j x hx
            have hin : inN (A.take (j + 1)) (k1 : Int) = if x.1.n = (k1 : Int) then inN (A.take j) (k1 : Int) + 1 else inN (A.take j) (k1 : Int) := by
              rw [List.take_add_one, hx]
              exact inN_snoc _ _ _
            have hle : inN (A.take j) (k1 : Int) ≤ 1000000 := Nat.le_trans (in_le _ _) (by rw [List.length_take]; have := HA.out.2; omega)
            have HJ : Hid (j < A.length) := hjl
            have hj1 : (j : Int) < (A.length : Int) := by omega
            have hj2 : (A.length : Int) ≤ 1000000 := by have := HA.out.2; omega
            have HIN : Hid _ := hin
            clear hin hjl hj hx HC
            generalize hAl : A.length = al at *
            have HAl : Hid (A.length = al) := hAl
            clear hAl
            by_cases hxn : x.1.n = (k1 : Int)
            · have hb : (x.1.n == (k1 : Int)) = true := by simp [hxn]
              have HN : Hid (x.1.n = (k1 : Int)) := hxn
              clear hxn
              generalize hcn : inN (A.take j) (k1 : Int) = cn at *
              clear hcn
              go_wp2
              go_round
              case rel => exact ⟨j + 1, HJ.out, by go_num, by rw [HIN.out, if_pos HN.out]; go_num⟩
              case measure => simp [intOf]; have := HJ.out; omega
            · have hb : (x.1.n == (k1 : Int)) = false := by simp [hxn]
              have HN : Hid (¬ x.1.n = (k1 : Int)) := hxn
              clear hxn
              generalize hcn : inN (A.take j) (k1 : Int) = cn at *
              clear hcn
              go_wp2
              go_round
              case rel => exact ⟨j + 1, HJ.out, by go_num, by rw [HIN.out, if_neg HN.out]⟩
              case measure => simp [intOf]; have := HJ.out; omega
          · have hj1 : ¬ ((j : Int) < (A.length : Int)) := by omega
            have eA : A.take j = A := List.take_of_length_le (by omega)
            rw [eA]
            clear eA hjl hj HC
            obtain ⟨m, HMm⟩ : ∃ m, Hid (inN (held S) (k1 : Int) = m) := ⟨_, rfl⟩
            have em : inN A (k1 : Int) = m := by rw [← HA.out.1]; exact HMm.out
            rw [em]
            clear em
            obtain ⟨de, T, z, b, HD⟩ : ∃ e T z b, Hid (dropE S (k1 : Int) = e ∧ dropS S (k1 : Int) = T ∧ sizeN T (k1 : Int) = z ∧ sizeB T (k1 : Int) = b ∧ sizeN T (k2 : Int) = 2 ∧ sizeB T (k2 : Int) = true ∧ held T = A ∧ (e = 0 ↔ m = 0) ∧ (b = true ↔ 0 < m)) := by
              obtain ⟨e, T, z, b, g1, g2, g3, g4, g5, g6, g7, g8, g9⟩ := drop_one HT.out k1 k2 HK1.out.1 HK1.out.2
              rw [HMm.out] at g8 g9
              exact ⟨e, T, z, b, g1, g2, g3, g4, g5, g6, g7.trans HA.out.1, g8, g9⟩
            have hd1 : (de == 0) = ((m : Int) == 0) := by
              have h := HD.out.2.2.2.2.2.2.2.1
              by_cases h0 : m = 0
              · rw [h.2 h0, h0]; rfl
              · have h1 : ¬ de = 0 := fun e => h0 (h.1 e)
                rw [beq_eq_false_iff_ne.2 h1, beq_eq_false_iff_ne.2 (by omega)]
            have hd2 : b = decide (0 < m) := by
              have h := HD.out.2.2.2.2.2.2.2.2
              cases b
              · have : ¬ 0 < m := fun e => by cases h.2 e
                simp [this]
              · have := h.1 rfl
                simp [this]
            subst hd2
            obtain ⟨al, HAl⟩ : ∃ al, Hid (A.length = al) := ⟨_, rfl⟩
            go_wp2_with fail
            refine (drop_has (k1 : Int) de T k7.out HD.out.1 HD.out.2.1).mono ?_
            rintro e w8 ⟨rfl, h8⟩
            have k8 : Hid (Has w r w8 p F T [] [(.slice ao7 A.length cap7, A)]) := h8
            clear h8 k7
            go_wp2_with fail
            refine (size_has (k1 : Int) z (decide (0 < m)) k8.out HD.out.2.2.1 HD.out.2.2.2.1).mono ?_
            rintro e w9 ⟨rfl, h9⟩
            have k9 : Hid (Has w r w9 p F T [] [(.slice ao7 A.length cap7, A)]) := h9
            clear h9 k8
            go_wp2_with fail
            refine (size_has (k2 : Int) 2 true k9.out HD.out.2.2.2.2.1 HD.out.2.2.2.2.2.1).mono ?_
            rintro e w10 ⟨rfl, h10⟩
            have k10 : Hid (Has w r w10 p F T [] [(.slice ao7 A.length cap7, A)]) := h10
            clear h10 k9
            go_wp2_with fail
            refine (held_is A HD.out.2.2.2.2.2.2.1 k10.out).mono ?_
            rintro e w11 ⟨ao11, cap11, rfl, h11⟩
            have k11 : Hid (Has w r w11 p F T [] [(.slice ao11 A.length cap11, A), (.slice ao7 A.length cap7, A)]) := h11
            clear h11 k10
            go_wp2_with fail
            refine (same_has k11.out (by simp) (by simp) HA.out.2).mono ?_
            rintro e w12 ⟨rfl, h12⟩
            have k12 : Hid _ := h12
            clear h12 k11
            go_wp2_with fail
            refine (fixed_has k12.out).mono ?_
            rintro e w13 ⟨rfl, h13⟩
            have KL : Hid _ := h13
            clear h13 k12
            go_wp2
            go_ret
            exact ⟨rfl, by rw [HR.out]; exact KL.out.low⟩
      · obtain ⟨hk0, rfl⟩ := hge
        have hk1 : ((20 : Nat) : Int) < (X.length : Int) := by omega
        clear hk0 hlt hk
        generalize hXl : X.length = n at *
        clear hXl HX
        obtain ⟨A, HA⟩ : ∃ A, Hid (held S = A ∧ A.length ≤ 1000000) := ⟨_, rfl, Nat.le_trans (held_le HT.out.ok) (by decide)⟩
        go_wp2_with fail
        refine (held_is A HA.out.1 h5h.out).mono ?_
        rintro e w7 ⟨ao7, cap7, rfl, h7⟩
        have k7 : Hid (Has w r w7 p F S [] [(.slice ao7 A.length cap7, A)]) := h7
        clear h7 h5h
        have HC : Hid _ := (k7.out.row (.slice ao7 A.length cap7, A) (by simp)).1.cells.2
        go_wp2
        go_loop [8, 9] (fun h i => ∃ j : Nat, j ≤ A.length ∧ i = .int .i64 j ∧ h = .int .i64 (inN (A.take j) (k1 : Int) : Nat)) (fun _ i => A.length - (intOf i).toNat)
        case atStart => exact ⟨0, Nat.zero_le _, rfl, by simp [inN]⟩
        case round =>
          obtain ⟨j, hj, rfl, rfl⟩ := hrel
          by_cases hjl : j < A.length
          · obtain ⟨x, hx⟩ : ∃ x, A[j]? = some x := ⟨_, List.getElem?_eq_getElem hjl⟩
            obtain ⟨g, rfl, c0, _, _, _, _, _, _, _, _⟩ := HC.out j x hx
            have hin : inN (A.take (j + 1)) (k1 : Int) = if x.1.n = (k1 : Int) then inN (A.take j) (k1 : Int) + 1 else inN (A.take j) (k1 : Int) := by
              rw [List.take_add_one, hx]
              exact inN_snoc _ _ _
            have hle : inN (A.take j) (k1 : Int) ≤ 1000000 := Nat.le_trans (in_le _ _) (by rw [List.length_take]; have := HA.out.2; omega)
            have HJ : Hid (j < A.length) := hjl
            have hj1 : (j : Int) < (A.length : Int) := by omega
            have hj2 : (A.length : Int) ≤ 1000000 := by have := HA.out.2; omega
            have HIN : Hid _ := hin
            clear hin hjl hj hx HC
            generalize hAl : A.length = al at *
            have HAl : Hid (A.length = al) := hAl
            clear hAl
            by_cases hxn : x.1.n = (k1 : Int)
            · have hb : (x.1.n == (k1 : Int)) = true := by simp [hxn]
              have HN : Hid (x.1.n = (k1 : Int)) := hxn
              clear hxn
              generalize hcn : inN (A.take j) (k1 : Int) = cn at *
              clear hcn
              go_wp2
              go_round
              case rel => exact ⟨j + 1, HJ.out, by go_num, by rw [HIN.out, if_pos HN.out]; go_num⟩
              case measure => simp [intOf]; have := HJ.out; omega
            · have hb : (x.1.n == (k1 : Int)) = false := by simp [hxn]
              have HN : Hid (¬ x.1.n = (k1 : Int)) := hxn
              clear hxn
              generalize hcn : inN (A.take j) (k1 : Int) = cn at *
              clear hcn
              go_wp2
              go_round
              case rel => exact ⟨j + 1, HJ.out, by go_num, by rw [HIN.out, if_neg HN.out]⟩
              case measure => simp [intOf]; have := HJ.out; omega
          · have hj1 : ¬ ((j : Int) < (A.length : Int)) := by omega
            have eA : A.take j = A := List.take_of_length_le (by omega)
            rw [eA]
            clear eA hjl hj HC
            obtain ⟨m, HMm⟩ : ∃ m, Hid (inN (held S) (k1 : Int) = m) := ⟨_, rfl⟩
            have em : inN A (k1 : Int) = m := by rw [← HA.out.1]; exact HMm.out
            rw [em]
            clear em
            obtain ⟨de, T, z, b, HD⟩ : ∃ e T z b, Hid (dropE S (k1 : Int) = e ∧ dropS S (k1 : Int) = T ∧ sizeN T (k1 : Int) = z ∧ sizeB T (k1 : Int) = b ∧ sizeN T (k2 : Int) = 2 ∧ sizeB T (k2 : Int) = true ∧ held T = A ∧ (e = 0 ↔ m = 0) ∧ (b = true ↔ 0 < m)) := by
              obtain ⟨e, T, z, b, g1, g2, g3, g4, g5, g6, g7, g8, g9⟩ := drop_one HT.out k1 k2 HK1.out.1 HK1.out.2
              rw [HMm.out] at g8 g9
              exact ⟨e, T, z, b, g1, g2, g3, g4, g5, g6, g7.trans HA.out.1, g8, g9⟩
            have hd1 : (de == 0) = ((m : Int) == 0) := by
              have h := HD.out.2.2.2.2.2.2.2.1
              by_cases h0 : m = 0
              · rw [h.2 h0, h0]; rfl
              · have h1 : ¬ de = 0 := fun e => h0 (h.1 e)
                rw [beq_eq_false_iff_ne.2 h1, beq_eq_false_iff_ne.2 (by omega)]
            have hd2 : b = decide (0 < m) := by
              have h := HD.out.2.2.2.2.2.2.2.2
              cases b
              · have : ¬ 0 < m := fun e => by cases h.2 e
                simp [this]
              · have := h.1 rfl
                simp [this]
            subst hd2
            obtain ⟨al, HAl⟩ : ∃ al, Hid (A.length = al) := ⟨_, rfl⟩
            go_wp2_with fail
            refine (drop_has (k1 : Int) de T k7.out HD.out.1 HD.out.2.1).mono ?_
            rintro e w8 ⟨rfl, h8⟩
            have k8 : Hid (Has w r w8 p F T [] [(.slice ao7 A.length cap7, A)]) := h8
            clear h8 k7
            go_wp2_with fail
            refine (size_has (k1 : Int) z (decide (0 < m)) k8.out HD.out.2.2.1 HD.out.2.2.2.1).mono ?_
            rintro e w9 ⟨rfl, h9⟩
            have k9 : Hid (Has w r w9 p F T [] [(.slice ao7 A.length cap7, A)]) := h9
            clear h9 k8
            go_wp2_with fail
            refine (size_has (k2 : Int) 2 true k9.out HD.out.2.2.2.2.1 HD.out.2.2.2.2.2.1).mono ?_
            rintro e w10 ⟨rfl, h10⟩
            have k10 : Hid (Has w r w10 p F T [] [(.slice ao7 A.length cap7, A)]) := h10
            clear h10 k9
            go_wp2_with fail
            refine (held_is A HD.out.2.2.2.2.2.2.1 k10.out).mono ?_
            rintro e w11 ⟨ao11, cap11, rfl, h11⟩
            have k11 : Hid (Has w r w11 p F T [] [(.slice ao11 A.length cap11, A), (.slice ao7 A.length cap7, A)]) := h11
            clear h11 k10
            go_wp2_with fail
            refine (same_has k11.out (by simp) (by simp) HA.out.2).mono ?_
            rintro e w12 ⟨rfl, h12⟩
            have k12 : Hid _ := h12
            clear h12 k11
            go_wp2_with fail
            refine (fixed_has k12.out).mono ?_
            rintro e w13 ⟨rfl, h13⟩
            have KL : Hid _ := h13
            clear h13 k12
            go_wp2
            go_ret
            exact ⟨rfl, by rw [HR.out]; exact KL.out.low⟩
end
open Go.ChangeShapes Go.WideShapes Go.ChangeAt Go.RowKit Go.Joins

/-! ### From the walk to the statement -/
set_option maxRecDepth 100000 in
theorem lifted (os : Os) (started : os.Started) (H : Type) (enc : TypeId × Value → H) :
    ReturnsInHanded {} Try.checked os 8 .any (Rows.slotsDropsSpec.pre6 enc Try.prog Try.f8 Rows.slotsDropsRow.domain false) (Rows.slotsDropsSpec.post enc Try.prog Try.f8 false true false false) := by
  have dCp : DecidableEq Cp := fun a b => Classical.propDecidable (a = b)
  have dLim : ∀ k, Decidable (Lim k) := fun k => Classical.propDecidable (Lim k)
  have dBad : ∀ k, Decidable (Bad k) := fun k => Classical.propDecidable (Bad k)
  have dFit : ∀ g z, Decidable (Fit g z) := fun g z => Classical.propDecidable (Fit g z)
  have dFine : ∀ c, Decidable (Fine c) := fun c => Classical.propDecidable (Fine c)
  have dMint : ∀ c v, Decidable (MintR c v) := fun c v => Classical.propDecidable (MintR c v)
  have dWho : ∀ x y, Decidable (Whose x y) := fun x y => Classical.propDecidable (Whose x y)
  have dSl : DecidableEq Sl := fun a b => Classical.propDecidable (a = b)
  have dLt : ∀ a b, Decidable (ltS a b) := fun a b => Classical.propDecidable (ltS a b)
  have iSl : Inhabited Sl := ⟨⟨0, 0⟩⟩
  have iCp : Inhabited Cp := ⟨no⟩
  refine returnsInHanded_of_change (C := Try.checked) own started (by kernel_rfl) Try.func8
    (ChangeSpec.witness6 (enc := enc) (C := Try.checked) false ⟨#[], #[.slice none 0 0, .int .i64 0], []⟩ 8 (by kernel_rfl) (by kernel_rfl) (by kernel_rfl) (by kernel_rfl)) ?_
  intro W base args ds gs before hval0 hW hcnd _
  have hval : ∀ (j : Nat) t v, Try.f8.params[j]? = some t → args[j]? = some v → Value.okWide Try.prog W .any base t v := hval0
  have hW' := hW
  obtain ⟨p, q, hA0, hV, rfl, hfz, hnd⟩ := hW
  have hA : DataW.TrodAll enc Try.prog W 0 (fun _ => true) true Try.f8.params.toList args.toList ds p := hA0
  rw [Try.params8] at hA hval
  obtain ⟨v0, vs0, d0, ds0, p0, q0, hargs, rfl, rfl, h0, r0⟩ := trodAll_cons hA
  obtain ⟨v1, vs1, d1, ds1, p1, q1, rfl, rfl, rfl, h1, r1⟩ := trodAll_cons r0
  obtain ⟨rfl, rfl, rfl⟩ := trodAll_nil r1
  obtain rfl : args = #[v0, v1] := by cases args; simp_all
  obtain ⟨rfl, rfl⟩ := trodVars_none hV
  have k0 := h0
  have lt0 : ∀ x ∈ p0, x.block < W.heap.size := by obtain ⟨m, hm⟩ := k0; exact DataW.trod_lt m _ _ _ hm
  obtain ⟨a0, l0, c0, rfl, t0, s0⟩ := open_ops (hval 0 22 v0 rfl rfl) h0
  have k1 := h1
  have lt1 : ∀ x ∈ p1, x.block < W.heap.size := by obtain ⟨m, hm⟩ := k1; exact DataW.trod_lt m _ _ _ hm
  obtain ⟨a1, rfl, _, _, w1⟩ := open_int Try.underlying3 (hval 1 3 v1 rfl rfl) h1
  clear hA0 hval0
  refine (walk a0 l0 c0 a1 W t0 s0 (bounds_i64 w1)).mono fun e W' ⟨he, bel⟩ => ?_
  subst he
  exact ⟨_, rfl, _, _, _, [], _, [], hW', trodAll_mk1 (shut_bool Try.underlying4 _), (trodAll_cons_mk (Below.trod laidOut (by kernel_rfl) (of_decide_eq_true (by kernel_rfl)) k0 bel lt0) (trodAll_cons_mk (Below.trod laidOut (by kernel_rfl) (of_decide_eq_true (by kernel_rfl)) k1 bel lt1) trodAll_mk0)), rfl, bel.frame _, fun h => by cases h⟩
theorem over : Rows.slotsDropsRow.holds Try.pinned (OpenSpec.ofChange Rows.slotsDropsSpec) :=
  OpenClaim.holds_of_wide 8 Try.f8 rfl rfl rfl rfl rfl rfl rfl ⟨rfl, rfl, rfl, rfl, rfl⟩ rfl rfl rfl rfl rfl (by kernel_rfl) Try.func8 (by kernel_rfl)
    (of_decide_eq_true (by kernel_rfl)) (by unfold Func.isWrapper; first | (rw [if_pos (by decide +kernel)]; kernel_rfl) | (rw [if_neg (by decide +kernel)]; exact ⟨rfl, rfl⟩))
    (fun os started H enc _ => lifted os started H enc)
end Go.Proofs.Ytkpoppgibempbaa.slotsDrops
namespace Go.Proofs.Ytkpoppgibempbaa
/-- THE STATEMENT. -/
theorem slotsDrops_said : Rows.SlotsDropsSaid := slotsDrops.over
#print axioms slotsDrops_said
end Go.Proofs.Ytkpoppgibempbaa

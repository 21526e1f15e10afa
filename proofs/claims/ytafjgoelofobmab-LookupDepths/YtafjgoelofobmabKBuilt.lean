/-
  What built of the statements answers: the program's nodes and the document's, laid by two lists alike; no condition of ours.
-/
import Derived.Test.YtafjgoelofobmabKBoth
import Derived.Test.YtafjgoelofobmabKAddr
import Derived.Deep.CutRange
namespace Go.Proofs.Ytafjgoelofobmab
open Go.RowKit Go.Deep Go.MapKept Go.Maps
set_option linter.unusedSectionVars false
variable [dCp : DecidableEq Cp] [dLim : ∀ k, Decidable (Lim k)] [dBad : ∀ k, Decidable (Bad k)] [dFit : ∀ g z, Decidable (Fit g z)] [dFine : ∀ c, Decidable (Fine c)] [dMint : ∀ c v, Decidable (MintR c v)] [dWho : ∀ x y, Decidable (Whose x y)] [dSl : DecidableEq Sl] [dLt : ∀ a b, Decidable (ltS a b)] [dIsN : ∀ S c, Decidable (isN S c)] [dGuN : ∀ a c d, Decidable (GuardN a c d)]

/-! ### Masks -/
theorem vec_toInt (x : Int) : ∃ v : BitVec 64, ∀ y, bits .and .i64 x y = IntKind.i64.wrap ((v &&& BitVec.ofInt 64 y).toNat : Int) := ⟨BitVec.ofInt 64 x, fun _ => rfl⟩
theorem mask_nat (x : Int) (m : Nat) (hm : m ≤ 20) : ∃ a : Nat, a < 2 ^ m ∧ bits BinOp.and IntKind.i64 x ((2 ^ m - 1 : Nat) : Int) = (a : Int) := by
  obtain ⟨v, hv⟩ := vec_toInt x
  have hp : 2 ^ m ≤ 2 ^ 20 := Nat.pow_le_pow_right (by omega) hm
  have h1 : 1 ≤ 2 ^ m := Nat.two_pow_pos m
  have e : (BitVec.ofInt 64 ((2 ^ m - 1 : Nat) : Int)).toNat = 2 ^ m - 1 := by
    rw [BitVec.toNat_ofInt]
    omega
  have hb : v.toNat &&& (2 ^ m - 1) < 2 ^ m := by
    rw [Nat.and_two_pow_sub_one_eq_mod]
    exact Nat.mod_lt _ h1
  refine ⟨v.toNat &&& (2 ^ m - 1), hb, ?_⟩
  rw [hv, BitVec.toNat_and, e, IntKind.wrap_i64]
  omega
theorem mask3 (x : Int) : ∃ a : Nat, a ≤ 3 ∧ bits BinOp.and IntKind.i64 x 3 = (a : Int) := by
  obtain ⟨a, h, e⟩ := mask_nat x 2 (by omega)
  exact ⟨a, by omega, e⟩
theorem mask63 (x : Int) : ∃ a : Nat, a ≤ 63 ∧ bits BinOp.and IntKind.i64 x 63 = (a : Int) := by
  obtain ⟨a, h, e⟩ := mask_nat x 6 (by omega)
  exact ⟨a, by omega, e⟩
theorem mask16 (x : Int) : ∃ a : Nat, a ≤ 65535 ∧ bits BinOp.and IntKind.i64 x 65535 = (a : Int) := by
  obtain ⟨a, h, e⟩ := mask_nat x 16 (by omega)
  exact ⟨a, by omega, e⟩

/-! ### What came in -/
def encK (x : Sl × Cp) : List Value := [.int .i64 x.1.n, .int .i64 x.1.i, .int .i64 x.2.k, .int .i64 x.2.o, .int .i64 x.2.r, .int .u64 x.2.b, .int .u64 x.2.g, .int .i64 x.2.z]
/-- The slots and capabilities H lie where the slice leads to. -/
def Helds (w : World) (ao : Option Addr) (H : List (Sl × Cp)) : Prop := ∀ k x, H[k]? = some x → (x.1.Fits ∧ x.2.Fits) ∧ ∃ b o, ao = some ⟨b, o, none⟩ ∧ b < w.heap.size ∧ ∀ j, j < 8 → w.cell? ⟨b, o + k * 8 + j, none⟩ = some ((encK x)[j]!)
theorem Helds.below {w w' : World} {ao : Option Addr} {H : List (Sl × Cp)} (h : Helds w ao H) {B : Nat} (u : Below B w w') (hB : w.heap.size ≤ B) : Helds w' ao H := fun k x hx => by
  obtain ⟨h1, b, o, e, hb, hc⟩ := h k x hx
  exact ⟨h1, b, o, e, Nat.lt_of_lt_of_le hb u.size, fun j hj => (u.cell (p := ⟨b, o + k * 8 + j, none⟩) (by simp only; omega)).trans (hc j hj)⟩
def objB (ao : Option Addr) (n cap : Nat) (ho : Option Addr) (m cap2 : Nat) : Obj := .cells #[.slice ao n cap, .slice ho m cap2] 25
def encB (ao : Option Addr) (n cap : Nat) (ho : Option Addr) (m cap2 : Nat) : Value := .agg #[.slice ao n cap, .slice ho m cap2]
theorem bld_cells {w : World} {q : Nat} {ao : Option Addr} {n cap : Nat} {ho : Option Addr} {m cap2 : Nat} (h : w.heap[q]? = some (objB ao n cap ho m cap2)) : w.cell? ⟨q, 0, none⟩ = some (.slice ao n cap) ∧ w.cell? ⟨q, 1, none⟩ = some (.slice ho m cap2) := by
  unfold objB at h
  constructor <;> simp [World.cell?, h]
set_option maxHeartbeats 4000000 in
set_option maxRecDepth 100000 in
theorem built_any (ao : Option Addr) (B : List Int) (cap : Nat) (ho : Option Addr) (H : List (Sl × Cp)) (cap2 : Nat) (w : World) (hB : Ints w ao B) (hH : Helds w ho H) (lB : B.length ≤ 9223372036854775807) (lH : H.length ≤ 9223372036854775807) :
    Calls Try.prog 4 #[encB ao B.length cap ho H.length cap2] w fun e w' => ∃ p F p2 F2, e = .returned (.tuple #[.pointer (some ⟨p, 0, none⟩), .pointer (some ⟨p2, 0, none⟩)]) ∧ Bk w w.heap.size w' p F p2 F2 (builtS B H) (builtS B H) [] := by
  have HX : Hid (Ints w ao B ∧ Helds w ho H ∧ B.length ≤ 9223372036854775807 ∧ H.length ≤ 9223372036854775807) := ⟨hB, hH, lB, lH⟩
  obtain ⟨r, HR⟩ : ∃ r, Hid (w.heap.size = r) := ⟨_, rfl⟩
  have b1 := below_new w (objB ao B.length cap ho H.length cap2)
  have B1 : Hid (Below w.heap.size w (w.alloc (objB ao B.length cap ho H.length cap2)) ∧ (w.alloc (objB ao B.length cap ho H.length cap2)).heap[w.heap.size]? = some (objB ao B.length cap ho H.length cap2)) := ⟨b1, blk_alloc_new _ _⟩
  clear hB hH lB lH b1
  simp only [encB, objB] at *
  go_enter Try.func4, Try.ntmps4
  go_wp2_with fail
  refine (new_any _).mono ?_
  rintro e w1 ⟨p, F, rfl, nn, oo, bb⟩
  have st := bk_start nn oo bb
  have k1 : Bk w r (w1.alloc (.cells #[.slice none 0 0] 48)) p F w1.heap.size (fun x => x = w1.heap.size) [] [] [(r, objB ao B.length cap ho H.length cap2)] :=
    st.rebase (by rw [← HR.out]; exact B1.out.1) (by rw [← HR.out]; exact B1.out.1.size) fun x hx => by
      rcases List.mem_cons.1 hx with rfl | hx
      · rw [← HR.out]; exact B1.out.2
      · cases hx
  obtain ⟨F2, K1⟩ : ∃ F2 : Nat → Prop, Hid (Bk w r (w1.alloc (.cells #[.slice none 0 0] 48)) p F w1.heap.size F2 [] [] [(r, objB ao B.length cap ho H.length cap2)]) := ⟨_, k1⟩
  clear nn oo bb st k1 B1
  go_wp2
  generalize w1.alloc (.cells #[.slice none 0 0] 48) = v1 at *
  generalize w1.heap.size = p2 at *
  rw [HR.out]
  go_loopw [6] (fun i wr => ∃ (k : Nat) (F F2 : Nat → Prop) (S : St), k ≤ 6 ∧ i = .int .i64 k ∧ Bk w r wr p F p2 F2 S S [(r, objB ao B.length cap ho H.length cap2)] ∧ makeAll S ((B.take 6).drop k) = makeAll [] (B.take 6)) (fun i _ => 6 - (intOf i).toNat)
  case atStart => exact ⟨0, F, F2, [], by omega, rfl, K1.out, rfl⟩
  case round =>
    clear K1
    obtain ⟨k, F, F2, S, hk, rfl, hh, hs⟩ := hrel
    have k0 : Hid (Bk w r wr p F p2 F2 S S [(r, objB ao B.length cap ho H.length cap2)]) := hh
    have HE : Hid (makeAll S ((B.take 6).drop k) = makeAll [] (B.take 6)) := hs
    clear hh hs
    by_cases hlt : k < B.length ∧ k < 6
    · obtain ⟨x, hx⟩ : ∃ x, B[k]? = some x := ⟨_, List.getElem?_eq_getElem hlt.1⟩
      obtain ⟨fx, b0, o0, rfl, hb, hcell⟩ := HX.out.1 k x hx
      have HP : Hid (∀ F F2 S T W, Bk w r W p F p2 F2 S T [(r, objB (some ⟨b0, o0, none⟩) B.length cap ho H.length cap2)] → W.cell? ⟨r, 0, none⟩ = some (.slice (some ⟨b0, o0, none⟩) B.length cap) ∧ W.cell? ⟨b0, o0 + k, none⟩ = some (.int .i64 x)) := fun F F2 S T W hW =>
        ⟨(bld_cells (hW.blk (r, objB (some ⟨b0, o0, none⟩) B.length cap ho H.length cap2) (by simp)).1).1, (hW.low.cell (p := ⟨b0, o0 + k, none⟩) (by rw [← HR.out]; exact hb)).trans hcell⟩
      obtain ⟨a3, ha3, e3⟩ := mask3 x
      have HK : Hid (k < 6 ∧ makeAll (makeS S (1 + (a3 : Int))) ((B.take 6).drop (k + 1)) = makeAll [] (B.take 6)) := by
        refine ⟨hlt.2, ?_⟩
        have hd : (B.take 6).drop k = x :: (B.take 6).drop (k + 1) := by
          rw [List.drop_eq_getElem_cons (by rw [List.length_take]; omega)]
          congr 1
          rw [List.getElem_take]
          exact (List.getElem?_eq_some_iff.1 hx).2
        have := HE.out
        rw [hd] at this
        rw [← e3]
        exact this
      obtain ⟨y0, y1⟩ := HP.out _ _ _ _ _ k0.out
      have hk1 : (k : Int) < (B.length : Int) := by omega
      have hk2 : (k : Int) < 6 := by omega
      have ha3' : (a3 : Int) ≤ 3 := by omega
      clear hlt hx hb fx hcell hk HE ha3
      generalize hBl : B.length = bl at *
      have HBl : Hid (B.length = bl) := hBl
      clear hBl
      go_wp2_with fail
      refine (make_bk (1 + (a3 : Int)) _ k0.out rfl).mono ?_
      rintro e w2 ⟨⟨v, rfl⟩, F', h2⟩
      have k2 : Hid (Bk w r w2 p F' p2 F2 (makeS S (1 + (a3 : Int))) S [(r, objB (some ⟨b0, o0, none⟩) bl cap ho H.length cap2)]) := h2
      clear y0 y1 h2 k0
      obtain ⟨y0, y1⟩ := HP.out _ _ _ _ _ k2.out
      go_wp2_with fail
      refine (rmake_bk (1 + (a3 : Int)) _ k2.out rfl).mono ?_
      rintro e w3 ⟨⟨v2, rfl⟩, F2', h3⟩
      have k3 : Hid (Bk w r w3 p F' p2 F2' (makeS S (1 + (a3 : Int))) (makeS S (1 + (a3 : Int))) [(r, objB (some ⟨b0, o0, none⟩) bl cap ho H.length cap2)]) := h3
      clear y0 y1 h3 k2
      go_wp2
      go_roundw
      case rel => exact ⟨k + 1, F', F2', _, HK.out.1, by go_num, k3.out, HK.out.2⟩
      case measure => simp [intOf]; have := HK.out.1; omega
    · have hn : (B.take 6).drop k = [] := List.drop_eq_nil_of_le (by rw [List.length_take]; omega)
      have HE2 : Hid (S = makeAll [] (B.take 6)) := by
        have := HE.out
        rw [hn] at this
        exact this
      clear HE
      have HE := HE2
      clear HE2
      have hS0 := (bld_cells (k0.out.blk (r, objB ao B.length cap ho H.length cap2) (by simp)).1).1
      have hge : (¬ k < B.length) ∨ (k < B.length ∧ k = 6) := by omega
      clear hn
      rcases hge with hge | hge
      · have hk1 : ¬ ((k : Int) < (B.length : Int)) := by omega
        clear hge hlt hk
        go_wp2
        go_loopw [7] (fun i wr => ∃ (k : Nat) (F F2 : Nat → Prop) (S : St), k ≤ 40 ∧ i = .int .i64 k ∧ Bk w r wr p F p2 F2 S S [(r, objB ao B.length cap ho H.length cap2)] ∧ putAll S ((H.take 40).drop k) = builtS B H) (fun i _ => 40 - (intOf i).toNat)
        case atStart => exact ⟨0, _, _, _, by omega, rfl, k0.out, by unfold builtS; rw [← HE.out]; rfl⟩
        case round =>
          clear k0 HE
          obtain ⟨k, F, F2, S, hk, rfl, hh, hs⟩ := hrel
          have k0 : Hid (Bk w r wr p F p2 F2 S S [(r, objB ao B.length cap ho H.length cap2)]) := hh
          have HE : Hid (putAll S ((H.take 40).drop k) = builtS B H) := hs
          clear hh hs
          by_cases hlt : k < H.length ∧ k < 40
          · obtain ⟨x, hx⟩ : ∃ x, H[k]? = some x := ⟨_, List.getElem?_eq_getElem hlt.1⟩
            obtain ⟨fx, b0, o0, rfl, hb, hcell⟩ := HX.out.2.1 k x hx
            have HP : Hid (∀ F F2 S T W, Bk w r W p F p2 F2 S T [(r, objB ao B.length cap (some ⟨b0, o0, none⟩) H.length cap2)] → W.cell? ⟨r, 1, none⟩ = some (.slice (some ⟨b0, o0, none⟩) H.length cap2) ∧ W.cell? ⟨b0, o0 + k * 8, none⟩ = some (.int .i64 x.1.n) ∧ W.cell? ⟨b0, o0 + k * 8 + 1, none⟩ = some (.int .i64 x.1.i) ∧ W.cell? ⟨b0, o0 + k * 8 + 2, none⟩ = some (.int .i64 x.2.k) ∧ W.cell? ⟨b0, o0 + k * 8 + 2 + 1, none⟩ = some (.int .i64 x.2.o) ∧ W.cell? ⟨b0, o0 + k * 8 + 2 + 2, none⟩ = some (.int .i64 x.2.r) ∧ W.cell? ⟨b0, o0 + k * 8 + 2 + 3, none⟩ = some (.int .u64 x.2.b) ∧ W.cell? ⟨b0, o0 + k * 8 + 2 + 4, none⟩ = some (.int .u64 x.2.g) ∧ W.cell? ⟨b0, o0 + k * 8 + 2 + 5, none⟩ = some (.int .i64 x.2.z)) := fun F F2 S T W hW => by
              have hr := bld_cells (hW.blk (r, objB ao B.length cap (some ⟨b0, o0, none⟩) H.length cap2) (by simp)).1
              have hc : ∀ j, j < 8 → W.cell? ⟨b0, o0 + k * 8 + j, none⟩ = some ((encK x)[j]!) := fun j hj => (hW.low.cell (p := ⟨b0, o0 + k * 8 + j, none⟩) (by rw [← HR.out]; exact hb)).trans (hcell j hj)
              exact ⟨hr.2, hc 0 (by omega), hc 1 (by omega), hc 2 (by omega), hc 3 (by omega), hc 4 (by omega), hc 5 (by omega), hc 6 (by omega), hc 7 (by omega)⟩
            have HF : Hid (x.1.Fits ∧ x.2.Fits) := fx
            have HK : Hid (k < 40 ∧ putAll (putS S x.1 x.2) ((H.take 40).drop (k + 1)) = builtS B H) := by
              refine ⟨hlt.2, ?_⟩
              have hd : (H.take 40).drop k = x :: (H.take 40).drop (k + 1) := by
                rw [List.drop_eq_getElem_cons (by rw [List.length_take]; omega)]
                congr 1
                rw [List.getElem_take]
                exact (List.getElem?_eq_some_iff.1 hx).2
              have := HE.out
              rw [hd] at this
              exact this
            have hS := HP.out _ _ _ _ _ k0.out
            have hk1 : (k : Int) < (H.length : Int) := by omega
            have hk2 : (k : Int) < 40 := by omega
            clear hlt hx hb fx hcell hk HE
            have hS0 := hS.1
            generalize hHl : H.length = hl at *
            have HHl : Hid (H.length = hl) := hHl
            clear hHl
            go_wp2
            clear hS0
            go_region_held3 (fun W => W.cell? ⟨r, 1, none⟩ = some (.slice (some ⟨b0, o0, none⟩) hl cap2) ∧ W.cell? ⟨b0, o0 + k * 8, none⟩ = some (.int .i64 x.1.n) ∧ W.cell? ⟨b0, o0 + k * 8 + 1, none⟩ = some (.int .i64 x.1.i) ∧ W.cell? ⟨b0, o0 + k * 8 + 2, none⟩ = some (.int .i64 x.2.k) ∧ W.cell? ⟨b0, o0 + k * 8 + 2 + 1, none⟩ = some (.int .i64 x.2.o) ∧ W.cell? ⟨b0, o0 + k * 8 + 2 + 2, none⟩ = some (.int .i64 x.2.r) ∧ W.cell? ⟨b0, o0 + k * 8 + 2 + 3, none⟩ = some (.int .u64 x.2.b) ∧ W.cell? ⟨b0, o0 + k * 8 + 2 + 4, none⟩ = some (.int .u64 x.2.g) ∧ W.cell? ⟨b0, o0 + k * 8 + 2 + 5, none⟩ = some (.int .i64 x.2.z)) ((first | with_reducible assumption | with_reducible exact HP.out _ _ _ _ _ (k0.out.drew) | with_reducible exact HP.out _ _ _ _ _ h2))
              ((go_at_call 11; refine (put_bk x.1 x.2 _ (k0.out.drew) HF.out.1 HF.out.2 rfl).mono ?_; rintro e w' ⟨⟨v, rfl⟩, h2⟩))
            have k2 : Hid (Bk w r w' p F p2 F2 (putS S x.1 x.2) S [(r, objB ao B.length cap (some ⟨b0, o0, none⟩) hl cap2)]) := h2
            clear h2 hS k0
            have hS := HP.out _ _ _ _ _ k2.out
            have hS0 := hS.1
            go_wp2
            clear hS0
            go_region_held3 (fun W => W.cell? ⟨r, 1, none⟩ = some (.slice (some ⟨b0, o0, none⟩) hl cap2) ∧ W.cell? ⟨b0, o0 + k * 8, none⟩ = some (.int .i64 x.1.n) ∧ W.cell? ⟨b0, o0 + k * 8 + 1, none⟩ = some (.int .i64 x.1.i) ∧ W.cell? ⟨b0, o0 + k * 8 + 2, none⟩ = some (.int .i64 x.2.k) ∧ W.cell? ⟨b0, o0 + k * 8 + 2 + 1, none⟩ = some (.int .i64 x.2.o) ∧ W.cell? ⟨b0, o0 + k * 8 + 2 + 2, none⟩ = some (.int .i64 x.2.r) ∧ W.cell? ⟨b0, o0 + k * 8 + 2 + 3, none⟩ = some (.int .u64 x.2.b) ∧ W.cell? ⟨b0, o0 + k * 8 + 2 + 4, none⟩ = some (.int .u64 x.2.g) ∧ W.cell? ⟨b0, o0 + k * 8 + 2 + 5, none⟩ = some (.int .i64 x.2.z)) ((first | with_reducible assumption | with_reducible exact HP.out _ _ _ _ _ (k2.out.drew) | with_reducible exact HP.out _ _ _ _ _ h3))
              ((go_at_call 12; refine (rput_bk x.1 x.2 _ (k2.out.drew) HF.out.2 rfl).mono ?_; rintro e w'' ⟨⟨v2, rfl⟩, h3⟩))
            have k3 : Hid (Bk w r w'' p F p2 F2 (putS S x.1 x.2) (putS S x.1 x.2) [(r, objB ao B.length cap (some ⟨b0, o0, none⟩) hl cap2)]) := h3
            clear h3 hS k2
            go_wp2
            go_roundw
            case rel => exact ⟨k + 1, F, F2, _, HK.out.1, by go_num, k3.out, HK.out.2⟩
            case measure => simp [intOf]; have := HK.out.1; omega
          · have hn : (H.take 40).drop k = [] := List.drop_eq_nil_of_le (by rw [List.length_take]; omega)
            have HE2 : S = builtS B H := by
              have := HE.out
              rw [hn] at this
              exact this
            subst HE2
            have hS0 := (bld_cells (k0.out.blk (r, objB ao B.length cap ho H.length cap2) (by simp)).1).2
            have hge : (¬ k < H.length) ∨ (k < H.length ∧ k = 40) := by omega
            clear hn HE
            rcases hge with hge | hge
            · have hk1 : ¬ ((k : Int) < (H.length : Int)) := by omega
              clear hge hlt hk
              generalize hHl : H.length = hl at *
              clear hHl
              go_wp2
              go_ret2
              exact ⟨p, F, p2, rfl, F2, by rw [HR.out]; exact k0.out.fewer fun b hb => by cases hb⟩
            · obtain ⟨hk0, rfl⟩ := hge
              have hk1 : ((40 : Nat) : Int) < (H.length : Int) := by omega
              clear hk0 hlt hk
              generalize hHl : H.length = hl at *
              clear hHl
              go_wp2
              go_ret2
              exact ⟨p, F, p2, rfl, F2, by rw [HR.out]; exact k0.out.fewer fun b hb => by cases hb⟩
      · obtain ⟨hk0, rfl⟩ := hge
        have hk1 : ((6 : Nat) : Int) < (B.length : Int) := by omega
        clear hk0 hlt hk
        go_wp2
        go_loopw [7] (fun i wr => ∃ (k : Nat) (F F2 : Nat → Prop) (S : St), k ≤ 40 ∧ i = .int .i64 k ∧ Bk w r wr p F p2 F2 S S [(r, objB ao B.length cap ho H.length cap2)] ∧ putAll S ((H.take 40).drop k) = builtS B H) (fun i _ => 40 - (intOf i).toNat)
        case atStart => exact ⟨0, _, _, _, by omega, rfl, k0.out, by unfold builtS; rw [← HE.out]; rfl⟩
        case round =>
          clear k0 HE
          obtain ⟨k, F, F2, S, hk, rfl, hh, hs⟩ := hrel
          have k0 : Hid (Bk w r wr p F p2 F2 S S [(r, objB ao B.length cap ho H.length cap2)]) := hh
          have HE : Hid (putAll S ((H.take 40).drop k) = builtS B H) := hs
          clear hh hs
          by_cases hlt : k < H.length ∧ k < 40
          · obtain ⟨x, hx⟩ : ∃ x, H[k]? = some x := ⟨_, List.getElem?_eq_getElem hlt.1⟩
            obtain ⟨fx, b0, o0, rfl, hb, hcell⟩ := HX.out.2.1 k x hx
            have HP : Hid (∀ F F2 S T W, Bk w r W p F p2 F2 S T [(r, objB ao B.length cap (some ⟨b0, o0, none⟩) H.length cap2)] → W.cell? ⟨r, 1, none⟩ = some (.slice (some ⟨b0, o0, none⟩) H.length cap2) ∧ W.cell? ⟨b0, o0 + k * 8, none⟩ = some (.int .i64 x.1.n) ∧ W.cell? ⟨b0, o0 + k * 8 + 1, none⟩ = some (.int .i64 x.1.i) ∧ W.cell? ⟨b0, o0 + k * 8 + 2, none⟩ = some (.int .i64 x.2.k) ∧ W.cell? ⟨b0, o0 + k * 8 + 2 + 1, none⟩ = some (.int .i64 x.2.o) ∧ W.cell? ⟨b0, o0 + k * 8 + 2 + 2, none⟩ = some (.int .i64 x.2.r) ∧ W.cell? ⟨b0, o0 + k * 8 + 2 + 3, none⟩ = some (.int .u64 x.2.b) ∧ W.cell? ⟨b0, o0 + k * 8 + 2 + 4, none⟩ = some (.int .u64 x.2.g) ∧ W.cell? ⟨b0, o0 + k * 8 + 2 + 5, none⟩ = some (.int .i64 x.2.z)) := fun F F2 S T W hW => by
              have hr := bld_cells (hW.blk (r, objB ao B.length cap (some ⟨b0, o0, none⟩) H.length cap2) (by simp)).1
              have hc : ∀ j, j < 8 → W.cell? ⟨b0, o0 + k * 8 + j, none⟩ = some ((encK x)[j]!) := fun j hj => (hW.low.cell (p := ⟨b0, o0 + k * 8 + j, none⟩) (by rw [← HR.out]; exact hb)).trans (hcell j hj)
              exact ⟨hr.2, hc 0 (by omega), hc 1 (by omega), hc 2 (by omega), hc 3 (by omega), hc 4 (by omega), hc 5 (by omega), hc 6 (by omega), hc 7 (by omega)⟩
            have HF : Hid (x.1.Fits ∧ x.2.Fits) := fx
            have HK : Hid (k < 40 ∧ putAll (putS S x.1 x.2) ((H.take 40).drop (k + 1)) = builtS B H) := by
              refine ⟨hlt.2, ?_⟩
              have hd : (H.take 40).drop k = x :: (H.take 40).drop (k + 1) := by
                rw [List.drop_eq_getElem_cons (by rw [List.length_take]; omega)]
                congr 1
                rw [List.getElem_take]
                exact (List.getElem?_eq_some_iff.1 hx).2
              have := HE.out
              rw [hd] at this
              exact this
            have hS := HP.out _ _ _ _ _ k0.out
            have hk1 : (k : Int) < (H.length : Int) := by omega
            have hk2 : (k : Int) < 40 := by omega
            clear hlt hx hb fx hcell hk HE
            have hS0 := hS.1
            generalize hHl : H.length = hl at *
            have HHl : Hid (H.length = hl) := hHl
            clear hHl
            go_wp2
            clear hS0
            go_region_held3 (fun W => W.cell? ⟨r, 1, none⟩ = some (.slice (some ⟨b0, o0, none⟩) hl cap2) ∧ W.cell? ⟨b0, o0 + k * 8, none⟩ = some (.int .i64 x.1.n) ∧ W.cell? ⟨b0, o0 + k * 8 + 1, none⟩ = some (.int .i64 x.1.i) ∧ W.cell? ⟨b0, o0 + k * 8 + 2, none⟩ = some (.int .i64 x.2.k) ∧ W.cell? ⟨b0, o0 + k * 8 + 2 + 1, none⟩ = some (.int .i64 x.2.o) ∧ W.cell? ⟨b0, o0 + k * 8 + 2 + 2, none⟩ = some (.int .i64 x.2.r) ∧ W.cell? ⟨b0, o0 + k * 8 + 2 + 3, none⟩ = some (.int .u64 x.2.b) ∧ W.cell? ⟨b0, o0 + k * 8 + 2 + 4, none⟩ = some (.int .u64 x.2.g) ∧ W.cell? ⟨b0, o0 + k * 8 + 2 + 5, none⟩ = some (.int .i64 x.2.z)) ((first | with_reducible assumption | with_reducible exact HP.out _ _ _ _ _ (k0.out.drew) | with_reducible exact HP.out _ _ _ _ _ h2))
              ((go_at_call 11; refine (put_bk x.1 x.2 _ (k0.out.drew) HF.out.1 HF.out.2 rfl).mono ?_; rintro e w' ⟨⟨v, rfl⟩, h2⟩))
            have k2 : Hid (Bk w r w' p F p2 F2 (putS S x.1 x.2) S [(r, objB ao B.length cap (some ⟨b0, o0, none⟩) hl cap2)]) := h2
            clear h2 hS k0
            have hS := HP.out _ _ _ _ _ k2.out
            have hS0 := hS.1
            go_wp2
            clear hS0
            go_region_held3 (fun W => W.cell? ⟨r, 1, none⟩ = some (.slice (some ⟨b0, o0, none⟩) hl cap2) ∧ W.cell? ⟨b0, o0 + k * 8, none⟩ = some (.int .i64 x.1.n) ∧ W.cell? ⟨b0, o0 + k * 8 + 1, none⟩ = some (.int .i64 x.1.i) ∧ W.cell? ⟨b0, o0 + k * 8 + 2, none⟩ = some (.int .i64 x.2.k) ∧ W.cell? ⟨b0, o0 + k * 8 + 2 + 1, none⟩ = some (.int .i64 x.2.o) ∧ W.cell? ⟨b0, o0 + k * 8 + 2 + 2, none⟩ = some (.int .i64 x.2.r) ∧ W.cell? ⟨b0, o0 + k * 8 + 2 + 3, none⟩ = some (.int .u64 x.2.b) ∧ W.cell? ⟨b0, o0 + k * 8 + 2 + 4, none⟩ = some (.int .u64 x.2.g) ∧ W.cell? ⟨b0, o0 + k * 8 + 2 + 5, none⟩ = some (.int .i64 x.2.z)) ((first | with_reducible assumption | with_reducible exact HP.out _ _ _ _ _ (k2.out.drew) | with_reducible exact HP.out _ _ _ _ _ h3))
              ((go_at_call 12; refine (rput_bk x.1 x.2 _ (k2.out.drew) HF.out.2 rfl).mono ?_; rintro e w'' ⟨⟨v2, rfl⟩, h3⟩))
            have k3 : Hid (Bk w r w'' p F p2 F2 (putS S x.1 x.2) (putS S x.1 x.2) [(r, objB ao B.length cap (some ⟨b0, o0, none⟩) hl cap2)]) := h3
            clear h3 hS k2
            go_wp2
            go_roundw
            case rel => exact ⟨k + 1, F, F2, _, HK.out.1, by go_num, k3.out, HK.out.2⟩
            case measure => simp [intOf]; have := HK.out.1; omega
          · have hn : (H.take 40).drop k = [] := List.drop_eq_nil_of_le (by rw [List.length_take]; omega)
            have HE2 : S = builtS B H := by
              have := HE.out
              rw [hn] at this
              exact this
            subst HE2
            have hS0 := (bld_cells (k0.out.blk (r, objB ao B.length cap ho H.length cap2) (by simp)).1).2
            have hge : (¬ k < H.length) ∨ (k < H.length ∧ k = 40) := by omega
            clear hn HE
            rcases hge with hge | hge
            · have hk1 : ¬ ((k : Int) < (H.length : Int)) := by omega
              clear hge hlt hk
              generalize hHl : H.length = hl at *
              clear hHl
              go_wp2
              go_ret2
              exact ⟨p, F, p2, rfl, F2, by rw [HR.out]; exact k0.out.fewer fun b hb => by cases hb⟩
            · obtain ⟨hk0, rfl⟩ := hge
              have hk1 : ((40 : Nat) : Int) < (H.length : Int) := by omega
              clear hk0 hlt hk
              generalize hHl : H.length = hl at *
              clear hHl
              go_wp2
              go_ret2
              exact ⟨p, F, p2, rfl, F2, by rw [HR.out]; exact k0.out.fewer fun b hb => by cases hb⟩
end Go.Proofs.Ytafjgoelofobmab

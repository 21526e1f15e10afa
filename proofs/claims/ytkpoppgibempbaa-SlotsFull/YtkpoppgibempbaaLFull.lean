/-
  SlotsFull answers true for every input, and leaves it; no condition of ours.
-/
import Derived.Test.YtkpoppgibempbaaNLaw
namespace Go.Proofs.Ytkpoppgibempbaa.slotsFull
open Go.RowKit Go.Deep Go.MapKept Go.Maps
set_option linter.unusedSectionVars false
section
variable [dCp : DecidableEq Cp] [dLim : ∀ k, Decidable (Lim k)] [dBad : ∀ k, Decidable (Bad k)] [dFit : ∀ g z, Decidable (Fit g z)] [dFine : ∀ c, Decidable (Fine c)] [dMint : ∀ c v, Decidable (MintR c v)] [dWho : ∀ x y, Decidable (Whose x y)] [dSl : DecidableEq Sl] [dLt : ∀ a b, Decidable (ltS a b)] [iSl : Inhabited Sl] [iCp : Inhabited Cp]
/-- The nodes behind n rounds: those that f names are gone. -/
def fullS (f : Nat → Nat) (b n : Nat) : St := (List.range n).map fun j => if f j = 1 then [] else List.replicate (2 ^ b) no
theorem full_len (f : Nat → Nat) (b n : Nat) : (fullS f b n).length = n := by simp [fullS]
theorem full_get (f : Nat → Nat) (b n j : Nat) (h : j < n) : (fullS f b n).getD j [] = if f j = 1 then [] else List.replicate (2 ^ b) no := by
  simp [fullS, h]
theorem full_succ (f : Nat → Nat) (b n : Nat) : fullS f b (n + 1) = fullS f b n ++ [if f n = 1 then [] else List.replicate (2 ^ b) no] := by
  simp [fullS, List.range_succ]
theorem full_make (f : Nat → Nat) (b n : Nat) (b2 : b ≤ 7) (hn : n < 64) : makeN (fullS f (1 + b) n) (1 + (b : Int)) = (n : Int) ∧ makeE (fullS f (1 + b) n) (1 + (b : Int)) = 0 ∧ makeS (fullS f (1 + b) n) (1 + (b : Int)) = fullS f (1 + b) n ++ [List.replicate (2 ^ (1 + b)) no] := by
  have e : makeE (fullS f (1 + b) n) (1 + (b : Int)) = 0 := by
    unfold makeE
    rw [if_pos (by omega), if_pos (by rw [full_len]; exact hn)]
  refine ⟨by unfold makeN; rw [if_pos e, full_len], e, ?_⟩
  unfold makeS
  rw [if_pos e]
  have : (1 + (b : Int)).toNat = 1 + b := by omega
  rw [this]
theorem full_big (f : Nat → Nat) (b : Nat) (b2 : b ≤ 7) : makeN (fullS f (1 + b) 64) (1 + (b : Int)) = 0 ∧ makeE (fullS f (1 + b) 64) (1 + (b : Int)) = 2 ∧ makeS (fullS f (1 + b) 64) (1 + (b : Int)) = fullS f (1 + b) 64 := by
  have e : makeE (fullS f (1 + b) 64) (1 + (b : Int)) = 2 := by
    unfold makeE
    rw [if_pos (by omega), if_neg (by rw [full_len]; omega)]
  refine ⟨by unfold makeN; rw [if_neg (by rw [e]; decide)], e, by unfold makeS; rw [if_neg (by rw [e]; decide)]⟩
theorem rep_ne (b : Nat) : List.replicate (2 ^ b) no ≠ [] := fun e => by
  have := congrArg List.length e
  have h := Nat.two_pow_pos b
  simp at this
theorem full_drop (f : Nat → Nat) (b n : Nat) (hf : f n = 1) : dropE (fullS f b n ++ [List.replicate (2 ^ b) no]) (n : Int) = 0 ∧ dropS (fullS f b n ++ [List.replicate (2 ^ b) no]) (n : Int) = fullS f b (n + 1) := by
  have hg : (fullS f b n ++ [List.replicate (2 ^ b) no]).getD n [] = List.replicate (2 ^ b) no := by
    rw [List.getD_eq_getElem?_getD, List.getElem?_append_right (by rw [full_len]; exact Nat.le_refl _), full_len]
    simp
  have e : dropE (fullS f b n ++ [List.replicate (2 ^ b) no]) (n : Int) = 0 := by
    unfold dropE
    rw [nodeS_nat, hg, if_neg (rep_ne b), if_neg]
    rintro ⟨c, hc, hk⟩
    obtain ⟨_, rfl⟩ := List.mem_replicate.1 hc
    exact hk rfl
  refine ⟨e, ?_⟩
  unfold dropS
  rw [if_pos e, Int.toNat_natCast, full_succ, if_pos hf, List.set_append_right _ _ (by rw [full_len]; exact Nat.le_refl _), full_len]
  simp
theorem full_size (f : Nat → Nat) (b n : Nat) (hn : n < 64) (hf : f n ≤ 1) : (f n = 1 ∧ sizeN (fullS f (1 + b) 64) (n : Int) = 0 ∧ sizeB (fullS f (1 + b) 64) (n : Int) = false) ∨ (f n = 0 ∧ sizeN (fullS f (1 + b) 64) (n : Int) = 1 + (b : Int) ∧ sizeB (fullS f (1 + b) 64) (n : Int) = true) := by
  unfold sizeN sizeB
  rw [nodeS_nat, full_get _ _ _ _ hn]
  by_cases h : f n = 1
  · left
    rw [if_pos h]
    exact ⟨h, rfl, rfl⟩
  · right
    rw [if_neg h, if_neg (rep_ne _)]
    refine ⟨by omega, ?_, ?_⟩
    · unfold bitsL
      rw [List.length_replicate, Nat.log2_two_pow]
      omega
    · cases hr : List.replicate (2 ^ (1 + b)) no with
      | nil => exact absurd hr (rep_ne _)
      | cons => rfl
/-- Which are dropped. -/
theorem bits_of (x : Int) : ∃ (g f : Nat → Nat), (∀ k : Nat, g k ≤ 31 ∧ bits BinOp.and IntKind.i64 (k : Int) 31 = (g k : Int)) ∧ ∀ k : Nat, f k ≤ 1 ∧ bits BinOp.and IntKind.i64 (x / 2 ^ (g k)) 1 = (f k : Int) := by
  have h1 : ∀ k : Nat, ∃ a : Nat, a ≤ 31 ∧ bits BinOp.and IntKind.i64 (k : Int) 31 = (a : Int) := fun k => by
    obtain ⟨a, h, e⟩ := mask_nat (k : Int) 5 (by omega)
    exact ⟨a, by omega, e⟩
  refine ⟨fun k => (h1 k).choose, fun k => (mask1 (x / 2 ^ ((h1 k).choose))).choose, fun k => (h1 k).choose_spec, fun k => (mask1 (x / 2 ^ ((h1 k).choose))).choose_spec⟩
set_option maxHeartbeats 4000000 in
set_option maxRecDepth 100000 in
theorem walk (bt dr : Int) (w : World) (_hb : -9223372036854775808 ≤ bt ∧ bt ≤ 9223372036854775807) (hd : -9223372036854775808 ≤ dr ∧ dr ≤ 9223372036854775807) :
    Calls Try.prog 4 #[.int .i64 bt, .int .i64 dr] w fun e w' => e = .returned (.bool true) ∧ Below w.heap.size w w' := by
  obtain ⟨b, hb7, eb⟩ := mask7 bt
  obtain ⟨g, f, hg, hf⟩ := bits_of dr
  have HB : Hid (b ≤ 7) := hb7
  have HG : Hid _ := hg
  have HF : Hid _ := hf
  obtain ⟨r, HR⟩ : ∃ r, Hid (w.heap.size = r) := ⟨_, rfl⟩
  obtain ⟨d0, d1⟩ := hd
  have hb8 : (b : Int) ≤ 7 := by omega
  clear hg hf hb7
  go_enter Try.func4, Try.ntmps4
  go_wp2_with fail
  refine (new_any w).mono ?_
  rintro e w1 ⟨p, F, rfl, n, o, bb⟩
  have h1 : Hid (Has w r w1 p F (fullS f (1 + b) 0) [] []) := Has.started n bb o HR.out
  clear n o bb
  go_wp2
  go_loopw [7] (fun i wr => ∃ (k : Nat) (G : Nat → Prop), i = .int .i64 k ∧ k ≤ 64 ∧ Has w r wr p G (fullS f (1 + b) k) [] []) (fun i _ => 64 - (intOf i).toNat)
  case atStart => exact ⟨0, F, rfl, by omega, h1.out⟩
  case round =>
    obtain ⟨k, G, rfl, hk, hh⟩ := hrel
    have k2 : Hid (Has w r wr p G (fullS f (1 + b) k) [] []) := hh
    clear hh h1
    by_cases hlt : k < 64
    · have HL : Hid (k < 64) := hlt
      have hk' : (k : Int) < 64 := by omega
      obtain ⟨ha, ea⟩ := HG.out k
      obtain ⟨hf1, ef⟩ := HF.out k
      have HFk : Hid (f k ≤ 1) := hf1
      clear hlt hk hf1
      obtain ⟨fk, hfk⟩ : ∃ m, m = f k := ⟨_, rfl⟩
      rw [← hfk] at ef
      have HFK : Hid (f k = fk) := hfk.symm
      clear hfk
      generalize g k = a at *
      go_wp2_with fail
      refine (make_has (1 + (b : Int)) (k : Int) 0 _ k2.out (full_make f b k HB.out HL.out).1 (full_make f b k HB.out HL.out).2.1 (full_make f b k HB.out HL.out).2.2).mono ?_
      rintro e w2 ⟨rfl, F2, h2⟩
      have k3 : Hid (Has w r w2 p F2 (fullS f (1 + b) k ++ [List.replicate (2 ^ (1 + b)) no]) [] []) := h2
      clear h2 k2
      have q1 : ((k : Int) != (k : Int)) = false := by simp
      have hcase : fk = 0 ∨ fk = 1 := by have := HFk.out; have := HFK.out; omega
      rcases hcase with rfl | rfl
      · have e1 : bits BinOp.and IntKind.i64 (dr / 2 ^ a) 1 = 0 := ef
        clear ef
        go_wp2
        go_roundw
        case rel => exact ⟨k + 1, F2, by go_num, HL.out, by rw [full_succ, if_neg (by rw [HFK.out]; omega)]; exact k3.out⟩
        case measure => simp [intOf]; have := HL.out; omega
      · have e1 : bits BinOp.and IntKind.i64 (dr / 2 ^ a) 1 = 1 := ef
        clear ef
        go_wp2_with fail
        refine (drop_has (k : Int) 0 (fullS f (1 + b) (k + 1)) k3.out (full_drop f (1 + b) k HFK.out).1 (full_drop f (1 + b) k HFK.out).2).mono ?_
        rintro e w4 ⟨rfl, h4⟩
        have k4 : Hid _ := h4
        clear h4 k3
        go_wp2
        go_roundw
        case rel => exact ⟨k + 1, F2, by go_num, HL.out, k4.out⟩
        case measure => simp [intOf]; have := HL.out; omega
    · obtain rfl : k = 64 := by omega
      clear hlt hk
      go_wp2_with fail
      refine (make_has (1 + (b : Int)) 0 2 _ k2.out (full_big f b HB.out).1 (full_big f b HB.out).2.1 (full_big f b HB.out).2.2).mono ?_
      rintro e w2 ⟨rfl, F2, h2⟩
      have k3 : Hid (Has w r w2 p F2 (fullS f (1 + b) 64) [] []) := h2
      clear h2 k2
      go_wp2
      go_loopw [12] (fun i wr => ∃ (k : Nat), i = .int .i64 k ∧ k ≤ 64 ∧ Has w r wr p F2 (fullS f (1 + b) 64) [] []) (fun i _ => 64 - (intOf i).toNat)
      case atStart => exact ⟨0, rfl, by omega, k3.out⟩
      case round =>
        obtain ⟨k, rfl, hk, hh⟩ := hrel
        have k5 : Hid (Has w r _ p F2 (fullS f (1 + b) 64) [] []) := hh
        clear hh k3
        by_cases hlt : k < 64
        · have HL : Hid (k < 64) := hlt
          have hk' : (k : Int) < 64 := by omega
          obtain ⟨ha, ea⟩ := HG.out k
          obtain ⟨hf1, ef⟩ := HF.out k
          rcases full_size f b k hlt hf1 with ⟨s1, s2, s3⟩ | ⟨s1, s2, s3⟩
          · rw [s1] at ef
            have e1 : bits BinOp.and IntKind.i64 (dr / 2 ^ (g k)) 1 = 1 := ef
            have HS : Hid (sizeN (fullS f (1 + b) 64) (k : Int) = 0 ∧ sizeB (fullS f (1 + b) 64) (k : Int) = false) := ⟨s2, s3⟩
            clear hlt hk hf1 ef s1 s2 s3
            generalize g k = a at *
            go_wp2_with fail
            refine (size_has (k : Int) 0 false k5.out HS.out.1 HS.out.2).mono ?_
            rintro e w6 ⟨rfl, h6⟩
            have k6 : Hid _ := h6
            clear h6 k5
            go_wp2
            go_roundw
            case rel => exact ⟨k + 1, by go_num, HL.out, k6.out⟩
            case measure => simp [intOf]; have := HL.out; omega
          · rw [s1] at ef
            have e1 : bits BinOp.and IntKind.i64 (dr / 2 ^ (g k)) 1 = 0 := ef
            have HS : Hid (sizeN (fullS f (1 + b) 64) (k : Int) = 1 + (b : Int) ∧ sizeB (fullS f (1 + b) 64) (k : Int) = true) := ⟨s2, s3⟩
            clear hlt hk hf1 ef s1 s2 s3
            generalize g k = a at *
            have q1 : ((1 + (b : Int)) != (1 + (b : Int))) = false := by simp
            go_wp2_with fail
            refine (size_has (k : Int) (1 + (b : Int)) true k5.out HS.out.1 HS.out.2).mono ?_
            rintro e w6 ⟨rfl, h6⟩
            have k6 : Hid _ := h6
            clear h6 k5
            go_wp2
            go_roundw
            case rel => exact ⟨k + 1, by go_num, HL.out, k6.out⟩
            case measure => simp [intOf]; have := HL.out; omega
        · obtain rfl : k = 64 := by omega
          clear hlt hk
          go_wp2_with fail
          refine (fixed_has k5.out).mono ?_
          rintro e w7 ⟨rfl, h7⟩
          have KL : Hid _ := h7
          clear h7 k5
          go_wp2
          go_ret
          exact ⟨rfl, by rw [HR.out]; exact KL.out.low⟩
end
open Go.ChangeShapes Go.WideShapes Go.ChangeAt Go.RowKit Go.Joins

/-! ### From the walk to the statement -/
set_option maxRecDepth 100000 in
theorem lifted (os : Os) (started : os.Started) (H : Type) (enc : TypeId × Value → H) :
    ReturnsInHanded {} Try.checked os 4 .any (Rows.slotsFullSpec.pre6 enc Try.prog Try.f4 Rows.slotsFullRow.domain false) (Rows.slotsFullSpec.post enc Try.prog Try.f4 false true false false) := by
  have dCp : DecidableEq Cp := fun a b => Classical.propDecidable (a = b)
  have dLim : ∀ k, Decidable (Lim k) := fun k => Classical.propDecidable (Lim k)
  have dBad : ∀ k, Decidable (Bad k) := fun k => Classical.propDecidable (Bad k)
  have dFit : ∀ g z, Decidable (Fit g z) := fun g z => Classical.propDecidable (Fit g z)
  have dFine : ∀ c, Decidable (Fine c) := fun c => Classical.propDecidable (Fine c)
  have dMint : ∀ c v, Decidable (MintR c v) := fun c v => Classical.propDecidable (MintR c v)
  have dWho : ∀ x y, Decidable (Whose x y) := fun x y => Classical.propDecidable (Whose x y)
  have dSl : DecidableEq Sl := fun a b => Classical.propDecidable (a = b)
  have dLt : ∀ a b, Decidable (ltS a b) := fun a b => Classical.propDecidable (ltS a b)
  have iSl : Inhabited Sl := ⟨⟨0, 0⟩⟩
  have iCp : Inhabited Cp := ⟨no⟩
  refine returnsInHanded_of_change (C := Try.checked) own started (by kernel_rfl) Try.func4
    (ChangeSpec.witness6 (enc := enc) (C := Try.checked) false ⟨#[], #[.int .i64 0, .int .i64 0], []⟩ 8 (by kernel_rfl) (by kernel_rfl) (by kernel_rfl) (by kernel_rfl)) ?_
  intro W base args ds gs before hval0 hW hcnd _
  have hval : ∀ (j : Nat) t v, Try.f4.params[j]? = some t → args[j]? = some v → Value.okWide Try.prog W .any base t v := hval0
  have hW' := hW
  obtain ⟨p, q, hA0, hV, rfl, hfz, hnd⟩ := hW
  have hA : DataW.TrodAll enc Try.prog W 0 (fun _ => true) true Try.f4.params.toList args.toList ds p := hA0
  rw [Try.params4] at hA hval
  obtain ⟨v0, vs0, d0, ds0, p0, q0, hargs, rfl, rfl, h0, r0⟩ := trodAll_cons hA
  obtain ⟨v1, vs1, d1, ds1, p1, q1, rfl, rfl, rfl, h1, r1⟩ := trodAll_cons r0
  obtain ⟨rfl, rfl, rfl⟩ := trodAll_nil r1
  obtain rfl : args = #[v0, v1] := by cases args; simp_all
  obtain ⟨rfl, rfl⟩ := trodVars_none hV
  have k0 := h0
  have lt0 : ∀ x ∈ p0, x.block < W.heap.size := by obtain ⟨m, hm⟩ := k0; exact DataW.trod_lt m _ _ _ hm
  obtain ⟨a0, rfl, _, _, w0⟩ := open_int Try.underlying3 (hval 0 3 v0 rfl rfl) h0
  have k1 := h1
  have lt1 : ∀ x ∈ p1, x.block < W.heap.size := by obtain ⟨m, hm⟩ := k1; exact DataW.trod_lt m _ _ _ hm
  obtain ⟨a1, rfl, _, _, w1⟩ := open_int Try.underlying3 (hval 1 3 v1 rfl rfl) h1
  clear hA0 hval0
  refine (walk a0 a1 W (bounds_i64 w0) (bounds_i64 w1)).mono fun e W' ⟨he, bel⟩ => ?_
  subst he
  exact ⟨_, rfl, _, _, _, [], _, [], hW', trodAll_mk1 (shut_bool Try.underlying4 _), (trodAll_cons_mk (Below.trod laidOut (by kernel_rfl) (of_decide_eq_true (by kernel_rfl)) k0 bel lt0) (trodAll_cons_mk (Below.trod laidOut (by kernel_rfl) (of_decide_eq_true (by kernel_rfl)) k1 bel lt1) trodAll_mk0)), rfl, bel.frame _, fun h => by cases h⟩
theorem over : Rows.slotsFullRow.holds Try.pinned (OpenSpec.ofChange Rows.slotsFullSpec) :=
  OpenClaim.holds_of_wide 4 Try.f4 rfl rfl rfl rfl rfl rfl rfl ⟨rfl, rfl, rfl, rfl, rfl⟩ rfl rfl rfl rfl rfl (by kernel_rfl) Try.func4 (by kernel_rfl)
    (of_decide_eq_true (by kernel_rfl)) (by unfold Func.isWrapper; first | (rw [if_pos (by decide +kernel)]; kernel_rfl) | (rw [if_neg (by decide +kernel)]; exact ⟨rfl, rfl⟩))
    (fun os started H enc _ => lifted os started H enc)
end Go.Proofs.Ytkpoppgibempbaa.slotsFull
namespace Go.Proofs.Ytkpoppgibempbaa
/-- THE STATEMENT. -/
theorem slotsFull_said : Rows.SlotsFullSaid := slotsFull.over
#print axioms slotsFull_said
end Go.Proofs.Ytkpoppgibempbaa

/-
  CapsLess answers true for every input; the program's four places lie as its text lays them, and the card ties that to the text.
-/
import Derived.Test.YtokehmkegnmfdabDoorCFixed
import Derived.Test.YtokehmkegnmfdabDoorCSay
import Derived.Test.YtokehmkegnmfdabDoorCMore
namespace Go.Proofs.YtokehmkegnmfdabDoor.capsLess
open Go.RowKit Go.Deep
set_option linter.unusedSectionVars false
section
variable [dCp : DecidableEq Cp] [dLim : ∀ k, Decidable (Lim k)] [dBad : ∀ k, Decidable (Bad k)] [dFit : ∀ g z, Decidable (Fit g z)] [dFine : ∀ c, Decidable (Fine c)] [dMint : ∀ c v, Decidable (MintR c v)] [dWho : ∀ x y, Decidable (Whose x y)]
theorem mintE_any (c : Cp) (n k : Int) (hn : 0 ≤ n ∧ n ≤ 7) (hk : 0 ≤ k ∧ k ≤ 7) : mintE c n 0 = mintE c k 0 := by
  rw [mintE, mintE, if_pos hn, if_pos hk]
theorem mint_ok {c : Cp} {n : Int} (hn : 0 ≤ n ∧ n ≤ 7) (h : mintE c n 0 = 0) : Fine c ∧ c.k ≠ 0 := by
  unfold mintE at h
  rw [if_pos hn] at h
  split at h
  · rename_i h1
    split at h
    · omega
    · rename_i h2
      exact ⟨h1, fun h3 => h2 (.inl h3)⟩
  · omega
set_option maxHeartbeats 2000000 in
theorem walk_no (c : Cp) (n k N M O E : Int) (w : World) (hl : Laid w) (hf : c.Fits) (hN : bits BinOp.and IntKind.i64 n 7 = N) (hM : bits BinOp.and IntKind.i64 k 7 = M) (hO : bits BinOp.and IntKind.i64 (bits BinOp.and IntKind.i64 n k) 7 = O)
    (h1 : mintE c N 0 = E) (h2 : mintE c O 0 = E) (hE : ¬ E = 0) :
    Calls Tryd.prog 4 #[encC c, .int .i64 n, .int .i64 k] w fun e w' => e = .returned (.bool true) ∧ Below w.heap.size w w' := by
  have K1 := fun W => mint_any c N 0 W hf
  have K2 := fun W => mint_any no M 0 W ⟨by decide, by decide, by decide, by decide, by decide, by decide⟩
  have K3 := fun W => mint_any c O 0 W hf
  rw [mintR, h1, if_neg hE] at K1
  rw [mintR, h2, if_neg hE] at K3
  generalize mintR no M 0 = m2 at *
  generalize mintE no M 0 = e2 at *
  have hE' : (E != 0) = true := by simpa using hE
  have hEq : (E == E) = true := by simp
  have HQ1 : ∀ W, (Op.equalIn 10000 24 (.agg #[.int .i64 0, .int .i64 0, .int .i64 0, .int .u64 0, .int .u64 0, .int .i64 0]) (.agg #[.int .i64 0, .int .i64 0, .int .i64 0, .int .u64 0, .int .u64 0, .int .i64 0])).run Tryd.prog W = .ok true W := fun W => by
    have h := eq_caps W no no
    rwa [show decide (no = no) = true by simp] at h
  have X1 : Hid (∀ W : World, Calls Tryd.prog 9 #[encC c, .int .i64 N, .int .u64 0] W fun e w' => e = .returned (.tuple #[encC no, .int .i64 E]) ∧ Below W.heap.size W w') := K1
  have X2 : Hid (∀ W : World, Calls Tryd.prog 9 #[encC no, .int .i64 M, .int .u64 0] W fun e w' => e = .returned (.tuple #[encC m2, .int .i64 e2]) ∧ Below W.heap.size W w') := K2
  have X3 : Hid (∀ W : World, Calls Tryd.prog 9 #[encC c, .int .i64 O, .int .u64 0] W fun e w' => e = .returned (.tuple #[encC no, .int .i64 E]) ∧ Below W.heap.size W w') := K3
  clear K1 K2 K3 hf h1 h2 hE
  simp only [encC, no] at *
  have b := below_new w (objC c)
  have s0 := AtC.new w c
  have l := hl.below b hl.size
  have r4 := hl.size
  clear hl
  simp only [objC] at b l s0
  go_enter Tryd.func4, Tryd.ntmps4
  go_wp2_with fail
  generalize (w.alloc (Obj.cells #[.int .i64 c.k, .int .i64 c.o, .int .i64 c.r, .int .u64 c.b, .int .u64 c.g, .int .i64 c.z] 24)) = v0 at *
  generalize hr : w.heap.size = r at *
  have HR : Hid (w.heap.size = r) := hr
  clear hr
  have hb := s0.lt
  refine (X1.out _).mono ?_
  rintro e u1 ⟨rfl, b2⟩
  have s0 := (s0.below b2).below (below_new _ (objC ⟨0, 0, 0, 0, 0, 0⟩))
  have b := Below.then (Below.then b b2 (by omega)) (below_new u1 (objC ⟨0, 0, 0, 0, 0, 0⟩)) (by have := b2.size; omega)
  have l := (l.below b2 l.size).below (below_new u1 (objC ⟨0, 0, 0, 0, 0, 0⟩)) (l.below b2 l.size).size
  have s1 := AtC.new u1 ⟨0, 0, 0, 0, 0, 0⟩
  clear b2 hb
  simp only [objC] at b l s0 s1
  obtain ⟨s1c0, s1c1, s1c2, s1c3, s1c4, s1c5⟩ := s1.cells
  go_wp2_with fail
  clear s1c0 s1c1 s1c2 s1c3 s1c4 s1c5
  generalize u1.alloc (Obj.cells #[.int .i64 0, .int .i64 0, .int .i64 0, .int .u64 0, .int .u64 0, .int .i64 0] 24) = v1 at *
  generalize u1.heap.size = q1 at *
  have hb := s0.lt
  refine (X2.out _).mono ?_
  rintro e u2 ⟨rfl, b2⟩
  have s0 := (s0.below b2).below (below_new _ (objC m2))
  have s1 := (s1.below b2).below (below_new _ (objC m2))
  have b := Below.then (Below.then b b2 (by omega)) (below_new u2 (objC m2)) (by have := b2.size; omega)
  have l := (l.below b2 l.size).below (below_new u2 (objC m2)) (l.below b2 l.size).size
  have s2 := AtC.new u2 m2
  clear b2 hb
  simp only [objC] at b l s0 s1 s2
  obtain ⟨s0c0, s0c1, s0c2, s0c3, s0c4, s0c5⟩ := s0.cells
  go_wp2_with fail
  clear s0c0 s0c1 s0c2 s0c3 s0c4 s0c5
  generalize u2.alloc (Obj.cells #[.int .i64 m2.k, .int .i64 m2.o, .int .i64 m2.r, .int .u64 m2.b, .int .u64 m2.g, .int .i64 m2.z] 24) = v2 at *
  generalize u2.heap.size = q2 at *
  have hb := s0.lt
  refine (X3.out _).mono ?_
  rintro e u3 ⟨rfl, b2⟩
  have s0 := (s0.below b2).below (below_new _ (objC ⟨0, 0, 0, 0, 0, 0⟩))
  have s1 := (s1.below b2).below (below_new _ (objC ⟨0, 0, 0, 0, 0, 0⟩))
  have s2 := (s2.below b2).below (below_new _ (objC ⟨0, 0, 0, 0, 0, 0⟩))
  have b := Below.then (Below.then b b2 (by omega)) (below_new u3 (objC ⟨0, 0, 0, 0, 0, 0⟩)) (by have := b2.size; omega)
  have l := (l.below b2 l.size).below (below_new u3 (objC ⟨0, 0, 0, 0, 0, 0⟩)) (l.below b2 l.size).size
  have s3 := AtC.new u3 ⟨0, 0, 0, 0, 0, 0⟩
  clear b2 hb
  simp only [objC] at b l s0 s1 s2 s3
  obtain ⟨s1c0, s1c1, s1c2, s1c3, s1c4, s1c5⟩ := s1.cells
  obtain ⟨s3c0, s3c1, s3c2, s3c3, s3c4, s3c5⟩ := s3.cells
  go_wp2_with fail
  clear s1c0 s1c1 s1c2 s1c3 s1c4 s1c5
  clear s3c0 s3c1 s3c2 s3c3 s3c4 s3c5
  generalize u3.alloc (Obj.cells #[.int .i64 0, .int .i64 0, .int .i64 0, .int .u64 0, .int .u64 0, .int .i64 0] 24) = v3 at *
  generalize u3.heap.size = q3 at *
  have hb := s0.lt
  refine (fixed_any _ l).mono ?_
  rintro e u5 ⟨rfl, b2⟩
  have B : Hid (Below r w u5) := Below.then b b2 (by omega)
  clear b b2 l hb
  go_wp2
  go_ret
  exact ⟨rfl, by rw [HR.out]; exact B.out⟩
set_option maxHeartbeats 2000000 in
theorem walk_yes (c m x : Cp) (n k N M O : Int) (w : World) (hl : Laid w) (hf : c.Fits) (fm : m.Fits) (hN : bits BinOp.and IntKind.i64 n 7 = N) (hM : bits BinOp.and IntKind.i64 k 7 = M) (hO : bits BinOp.and IntKind.i64 (bits BinOp.and IntKind.i64 n k) 7 = O)
    (h1 : mintE c N 0 = 0) (h2 : mintE c O 0 = 0) (h3 : mintE m M 0 = 0) (g1 : mintR c N 0 = m) (g2 : mintR c O 0 = x) (g3 : mintR m M 0 = x) (g4 : bits BinOp.andNot IntKind.i64 x.r c.r = 0) :
    Calls Tryd.prog 4 #[encC c, .int .i64 n, .int .i64 k] w fun e w' => e = .returned (.bool true) ∧ Below w.heap.size w w' := by
  have K1 := fun W => mint_any c N 0 W hf
  have K2 := fun W => mint_any m M 0 W fm
  have K3 := fun W => mint_any c O 0 W hf
  rw [h1, g1] at K1
  rw [h3, g3] at K2
  rw [h2, g2] at K3
  have HQ1 : ∀ W, (Op.equalIn 10000 24 (.agg #[.int .i64 x.k, .int .i64 x.o, .int .i64 x.r, .int .u64 x.b, .int .u64 x.g, .int .i64 x.z]) (.agg #[.int .i64 x.k, .int .i64 x.o, .int .i64 x.r, .int .u64 x.b, .int .u64 x.g, .int .i64 x.z])).run Tryd.prog W = .ok true W := fun W => by
    have h := eq_caps W x x
    rwa [show decide (x = x) = true by simp] at h
  have X1 : Hid (∀ W : World, Calls Tryd.prog 9 #[encC c, .int .i64 N, .int .u64 0] W fun e w' => e = .returned (.tuple #[encC m, .int .i64 0]) ∧ Below W.heap.size W w') := K1
  have X2 : Hid (∀ W : World, Calls Tryd.prog 9 #[encC m, .int .i64 M, .int .u64 0] W fun e w' => e = .returned (.tuple #[encC x, .int .i64 0]) ∧ Below W.heap.size W w') := K2
  have X3 : Hid (∀ W : World, Calls Tryd.prog 9 #[encC c, .int .i64 O, .int .u64 0] W fun e w' => e = .returned (.tuple #[encC x, .int .i64 0]) ∧ Below W.heap.size W w') := K3
  clear K1 K2 K3 hf fm h1 h2 h3 g1 g2 g3
  simp only [encC] at *
  have b := below_new w (objC c)
  have s0 := AtC.new w c
  have l := hl.below b hl.size
  have r4 := hl.size
  clear hl
  simp only [objC] at b l s0
  go_enter Tryd.func4, Tryd.ntmps4
  go_wp2_with fail
  generalize (w.alloc (Obj.cells #[.int .i64 c.k, .int .i64 c.o, .int .i64 c.r, .int .u64 c.b, .int .u64 c.g, .int .i64 c.z] 24)) = v0 at *
  generalize hr : w.heap.size = r at *
  have HR : Hid (w.heap.size = r) := hr
  clear hr
  have hb := s0.lt
  refine (X1.out _).mono ?_
  rintro e u1 ⟨rfl, b2⟩
  have s0 := (s0.below b2).below (below_new _ (objC m))
  have b := Below.then (Below.then b b2 (by omega)) (below_new u1 (objC m)) (by have := b2.size; omega)
  have l := (l.below b2 l.size).below (below_new u1 (objC m)) (l.below b2 l.size).size
  have s1 := AtC.new u1 m
  clear b2 hb
  simp only [objC] at b l s0 s1
  obtain ⟨s1c0, s1c1, s1c2, s1c3, s1c4, s1c5⟩ := s1.cells
  go_wp2_with fail
  clear s1c0 s1c1 s1c2 s1c3 s1c4 s1c5
  generalize u1.alloc (Obj.cells #[.int .i64 m.k, .int .i64 m.o, .int .i64 m.r, .int .u64 m.b, .int .u64 m.g, .int .i64 m.z] 24) = v1 at *
  generalize u1.heap.size = q1 at *
  have hb := s0.lt
  refine (X2.out _).mono ?_
  rintro e u2 ⟨rfl, b2⟩
  have s0 := (s0.below b2).below (below_new _ (objC x))
  have s1 := (s1.below b2).below (below_new _ (objC x))
  have b := Below.then (Below.then b b2 (by omega)) (below_new u2 (objC x)) (by have := b2.size; omega)
  have l := (l.below b2 l.size).below (below_new u2 (objC x)) (l.below b2 l.size).size
  have s2 := AtC.new u2 x
  clear b2 hb
  simp only [objC] at b l s0 s1 s2
  obtain ⟨s0c0, s0c1, s0c2, s0c3, s0c4, s0c5⟩ := s0.cells
  go_wp2_with fail
  clear s0c0 s0c1 s0c2 s0c3 s0c4 s0c5
  generalize u2.alloc (Obj.cells #[.int .i64 x.k, .int .i64 x.o, .int .i64 x.r, .int .u64 x.b, .int .u64 x.g, .int .i64 x.z] 24) = v2 at *
  generalize u2.heap.size = q2 at *
  have hb := s0.lt
  refine (X3.out _).mono ?_
  rintro e u3 ⟨rfl, b2⟩
  have s0 := (s0.below b2).below (below_new _ (objC x))
  have s1 := (s1.below b2).below (below_new _ (objC x))
  have s2 := (s2.below b2).below (below_new _ (objC x))
  have b := Below.then (Below.then b b2 (by omega)) (below_new u3 (objC x)) (by have := b2.size; omega)
  have l := (l.below b2 l.size).below (below_new u3 (objC x)) (l.below b2 l.size).size
  have s3 := AtC.new u3 x
  clear b2 hb
  simp only [objC] at b l s0 s1 s2 s3
  obtain ⟨s0c0, s0c1, s0c2, s0c3, s0c4, s0c5⟩ := s0.cells
  obtain ⟨s2c0, s2c1, s2c2, s2c3, s2c4, s2c5⟩ := s2.cells
  obtain ⟨s3c0, s3c1, s3c2, s3c3, s3c4, s3c5⟩ := s3.cells
  go_wp2_with fail
  clear s0c0 s0c1 s0c2 s0c3 s0c4 s0c5
  clear s2c0 s2c1 s2c2 s2c3 s2c4 s2c5
  clear s3c0 s3c1 s3c2 s3c3 s3c4 s3c5
  generalize u3.alloc (Obj.cells #[.int .i64 x.k, .int .i64 x.o, .int .i64 x.r, .int .u64 x.b, .int .u64 x.g, .int .i64 x.z] 24) = v3 at *
  generalize u3.heap.size = q3 at *
  have hb := s0.lt
  refine (fixed_any _ l).mono ?_
  rintro e u5 ⟨rfl, b2⟩
  have B : Hid (Below r w u5) := Below.then b b2 (by omega)
  clear b b2 l hb
  go_wp2
  go_ret
  exact ⟨rfl, by rw [HR.out]; exact B.out⟩
theorem walk (c : Cp) (n k : Int) (w : World) (hl : Laid w) (hf : c.Fits) (_hn : -9223372036854775808 ≤ n ∧ n ≤ 9223372036854775807) (_hk : -9223372036854775808 ≤ k ∧ k ≤ 9223372036854775807) :
    Calls Tryd.prog 4 #[encC c, .int .i64 n, .int .i64 k] w fun e w' => e = .returned (.bool true) ∧ Below w.heap.size w w' := by
  obtain ⟨N, hN⟩ : ∃ N, bits BinOp.and IntKind.i64 n 7 = N := ⟨_, rfl⟩
  obtain ⟨M, hM⟩ : ∃ M, bits BinOp.and IntKind.i64 k 7 = M := ⟨_, rfl⟩
  obtain ⟨O, hO⟩ : ∃ O, bits BinOp.and IntKind.i64 (bits BinOp.and IntKind.i64 n k) 7 = O := ⟨_, rfl⟩
  have n0 := mask_vec n
  have k0 := mask_vec k
  have o0 := mask_vec (bits BinOp.and IntKind.i64 n k)
  rw [hN] at n0
  rw [hM] at k0
  rw [hO] at o0
  have hNM : O = bits BinOp.and IntKind.i64 N M := by rw [← hO, ← hN, ← hM]; exact mask_mask n k
  by_cases hE : mintE c N 0 = 0
  · obtain ⟨hF, hk0⟩ := mint_ok n0 hE
    have e2 : mintE c O 0 = 0 := (mintE_any c O N o0 n0).trans hE
    have hr : 0 ≤ c.r ∧ c.r ≤ 7 := (hF.of_ne hk0).2.2.1
    have hm : mintR c N 0 = mintC c N 0 := by rw [mintR, if_pos hE]
    have hx : mintR c O 0 = mintC c O 0 := by rw [mintR, if_pos e2]
    have fm : Fine (mintC c N 0) := mint_fine hF hk0 n0
    have km : (mintC c N 0).k ≠ 0 := hk0
    have e3 : mintE (mintC c N 0) M 0 = 0 := by
      rw [mintE, if_pos fm, if_pos k0, if_neg]
      rintro (h | ⟨h, _⟩)
      · exact km h
      · exact h rfl
    have hd : mintR (mintC c N 0) M 0 = mintC c O 0 := by
      rw [mintR, if_pos e3]
      unfold mintC
      simp only [if_true]
      by_cases hL : Lim c.k
      · simp only [hL, if_true]
        rw [and_and hr n0 k0, hNM]
      · simp only [hL, if_false]
    have hz : bits BinOp.andNot IntKind.i64 (mintC c O 0).r c.r = 0 := by
      unfold mintC
      by_cases hL : Lim c.k
      · simp only [hL, if_true]
        exact and_not hr o0
      · simp only [hL, if_false]
        exact not_self hr
    exact walk_yes c _ _ n k N M O w hl hf (mint_fits hf hr n0 (by decide)) hN hM hO hE e2 e3 hm hx hd hz
  · exact walk_no c n k N M O _ w hl hf hN hM hO rfl (mintE_any c O N o0 n0) hE
end
open Go.ChangeShapes Go.WideShapes Go.ChangeAt Go.RowKit Go.Joins

/-! ### From the walk to the statement -/
theorem contract (H : Type) (enc : TypeId × Value → H) (W : World) (base : Nat) (args : Array Value) (ds gs : List (DataW H)) (before : List MemPlace)
    (hval : ∀ (j : Nat) t v, Tryd.f4.params[j]? = some t → args[j]? = some v → Value.okWide Tryd.prog W .any base t v)
    (hW : DataW.Whole enc Tryd.prog Tryd.f4.params.toList Rows.capsLessSpec.vars false W args.toList ds gs before) (hL : laidMetH Tryd.prog Rows.capsLessRow.laid W) :
    Calls Tryd.prog 4 args W fun e W' => ∃ v, e = .returned v ∧ Rows.capsLessSpec.post enc Tryd.prog Tryd.f4 false true false false W args v W' := by
  have dCp : DecidableEq Cp := fun a b => Classical.propDecidable (a = b)
  have dLim : ∀ k, Decidable (Lim k) := fun k => Classical.propDecidable (Lim k)
  have dBad : ∀ k, Decidable (Bad k) := fun k => Classical.propDecidable (Bad k)
  have dFit : ∀ g z, Decidable (Fit g z) := fun g z => Classical.propDecidable (Fit g z)
  have dFine : ∀ c, Decidable (Fine c) := fun c => Classical.propDecidable (Fine c)
  have dMint : ∀ c v, Decidable (MintR c v) := fun c v => Classical.propDecidable (MintR c v)
  have dWho : ∀ x y, Decidable (Whose x y) := fun x y => Classical.propDecidable (Whose x y)
  have hW' := hW
  obtain ⟨p, q, hA0, hV, rfl, hfz, hnd⟩ := hW
  have hA : DataW.TrodAll enc Tryd.prog W 0 (fun _ => true) true Tryd.f4.params.toList args.toList ds p := hA0
  rw [Tryd.params4] at hA hval
  obtain ⟨v0, vs0, d0, ds0, p0, q0, hargs, rfl, rfl, h0, r0⟩ := trodAll_cons hA
  obtain ⟨v1, vs1, d1, ds1, p1, q1, rfl, rfl, rfl, h1, r1⟩ := trodAll_cons r0
  obtain ⟨v2, vs2, d2, ds2, p2, q2, rfl, rfl, rfl, h2, r2⟩ := trodAll_cons r1
  obtain ⟨rfl, rfl, rfl⟩ := trodAll_nil r2
  obtain rfl : args = #[v0, v1, v2] := by cases args; simp_all
  obtain ⟨rfl, rfl⟩ := trodVars_none hV
  have k0 := h0
  have lt0 : ∀ x ∈ p0, x.block < W.heap.size := by obtain ⟨m, hm⟩ := k0; exact DataW.trod_lt m _ _ _ hm
  have k1 := h1
  have lt1 : ∀ x ∈ p1, x.block < W.heap.size := by obtain ⟨m, hm⟩ := k1; exact DataW.trod_lt m _ _ _ hm
  have k2 := h2
  have lt2 : ∀ x ∈ p2, x.block < W.heap.size := by obtain ⟨m, hm⟩ := k2; exact DataW.trod_lt m _ _ _ hm
  obtain ⟨a0, rfl, w0⟩ := open_cap (hval 0 24 v0 rfl rfl) h0
  obtain ⟨a1, rfl, _, _, w1⟩ := open_int Tryd.underlying3 (hval 1 3 v1 rfl rfl) h1
  obtain ⟨a2, rfl, _, _, w2⟩ := open_int Tryd.underlying3 (hval 2 3 v2 rfl rfl) h2
  clear hA0
  refine (walk a0 a1 a2 W (table hL) w0 (bounds_i64 w1) (bounds_i64 w2)).mono fun e W' ⟨he, bel⟩ => ?_
  subst he
  exact ⟨_, rfl, _, _, _, [], _, [], hW', trodAll_mk1 (shut_bool Tryd.underlying4 _), (trodAll_cons_mk (Below.trod laidOut (by kernel_rfl) (of_decide_eq_true (by kernel_rfl)) k0 bel lt0) (trodAll_cons_mk (Below.trod laidOut (by kernel_rfl) (of_decide_eq_true (by kernel_rfl)) k1 bel lt1) (trodAll_cons_mk (Below.trod laidOut (by kernel_rfl) (of_decide_eq_true (by kernel_rfl)) k2 bel lt2) trodAll_mk0))), rfl, bel.frame _, fun h => by cases h⟩

theorem laid_met (os : Os) : laidMet Tryd.prog Rows.capsLessRow.laid ((World.doorLaid Tryd.prog 40 os).forCall (fun _ _ => 0) ⟨#[], #[.agg #[.int .i64 0, .int .i64 0, .int .i64 0, .int .u64 0, .int .u64 0, .int .i64 0], .int .i64 0, .int .i64 0], []⟩).memory :=
  laidMet_of_run' 8 (by kernel_rfl) (by kernel_rfl)
theorem reads (os : Os) {H : Type} (enc : TypeId × Value → H) : ∃ places, DataW.whole enc Tryd.prog ((World.doorLaid Tryd.prog 40 os).forCall (fun _ _ => 0) ⟨#[], #[.agg #[.int .i64 0, .int .i64 0, .int .i64 0, .int .u64 0, .int .u64 0, .int .i64 0], .int .i64 0, .int .i64 0], []⟩).memory Tryd.f4.params.toList Rows.capsLessSpec.vars false (#[.agg #[.int .i64 0, .int .i64 0, .int .i64 0, .int .u64 0, .int .u64 0, .int .i64 0], .int .i64 0, .int .i64 0] : Array Value).toList 8 = some ([.agg [.lit (.int .i64 0), .lit (.int .i64 0), .lit (.int .i64 0), .lit (.int .u64 0), .lit (.int .u64 0), .lit (.int .i64 0)], .lit (.int .i64 0), .lit (.int .i64 0)], [], places) :=
  ⟨[], by kernel_rfl⟩
set_option maxRecDepth 100000 in
theorem lifted (os : Os) (started : os.Started) (H : Type) (enc : TypeId × Value → H) (F : Stop.Interp) :
    ReturnsInHanded {} Tryd.checked os 4 .any ((OpenSpec.ofChange Rows.capsLessSpec).preRow enc Tryd.prog Tryd.f4 Rows.capsLessRow.domain false Rows.capsLessRow.laid) (((OpenSpec.ofChange Rows.capsLessSpec).at F).post enc Tryd.prog Tryd.f4 false true false false) := by
  have dCp : DecidableEq Cp := fun a b => Classical.propDecidable (a = b)
  have dLim : ∀ k, Decidable (Lim k) := fun k => Classical.propDecidable (Lim k)
  have dBad : ∀ k, Decidable (Bad k) := fun k => Classical.propDecidable (Bad k)
  have dFit : ∀ g z, Decidable (Fit g z) := fun g z => Classical.propDecidable (Fit g z)
  have dFine : ∀ c, Decidable (Fine c) := fun c => Classical.propDecidable (Fine c)
  have dMint : ∀ c v, Decidable (MintR c v) := fun c v => Classical.propDecidable (MintR c v)
  have dWho : ∀ x y, Decidable (Whose x y) := fun x y => Classical.propDecidable (Whose x y)
  obtain ⟨places, hx⟩ := reads os enc
  refine returnsInHanded_of_row (C := Tryd.checked) (s := OpenSpec.ofChange Rows.capsLessSpec) own started (by kernel_rfl) Tryd.func4
    (witness_row_at (enc := enc) (C := Tryd.checked) false (World.doorLaid Tryd.prog 40 os) #[.agg #[.int .i64 0, .int .i64 0, .int .i64 0, .int .u64 0, .int .u64 0, .int .i64 0], .int .i64 0, .int .i64 0] rfl (by kernel_rfl) (by kernel_rfl) (by kernel_rfl)
      (OpenSpec.preRow_of_cond 8 hx (by kernel_rfl) (fun k hk => by cases hk) (by kernel_rfl) (laid_met os))) ?_
  intro W base args ds gs before hval hW _ _ _ hL _ _
  exact contract H enc W base args ds gs before hval hW hL
theorem said : Rows.CapsLessSaid :=
  OpenClaim.holds_of_cond 4 Tryd.f4 rfl rfl rfl rfl rfl rfl rfl ⟨rfl, rfl, rfl, rfl, rfl⟩ rfl rfl rfl rfl rfl (by kernel_rfl) Tryd.func4 (by kernel_rfl)
    (of_decide_eq_true (by kernel_rfl)) (by unfold Func.isWrapper; first | (rw [if_pos (by decide +kernel)]; kernel_rfl) | (rw [if_neg (by decide +kernel)]; exact ⟨rfl, rfl⟩))
    (fun os started H enc _ F => by rw [OpenClaim.pre_eq_preRow]; exact lifted os started H enc F)
theorem plain (f : FuncId) (fn : Func) (hf : Tryd.pinned.checked.prog.funcNamed "buttress/buttresslaw04.CapsLess" = some f) (hfn : Tryd.pinned.checked.prog.funcs[f]? = some fn) :
    false = Tryd.pinned.checked.prog.looks [] ∧ ∀ (j : Nat) t, fn.params[j]? = some t → Tryd.pinned.checked.prog.wantsStandIn t = false := by
  obtain rfl : f = 4 := Option.some.inj ((show Tryd.prog.funcNamed "buttress/buttresslaw04.CapsLess" = some 4 by kernel_rfl).symm.trans hf) |>.symm
  obtain rfl : fn = Tryd.f4 := (Option.some.inj (Tryd.func4.symm.trans hfn)).symm
  refine ⟨by kernel_rfl, fun j t ht => ?_⟩
  rw [Tryd.params4] at ht
  have hm : t ∈ [24, 3, 3] := by simpa using Array.mem_of_getElem? ht
  have hall : ([24, 3, 3].all fun u => !Tryd.prog.wantsStandIn u) = true := by kernel_rfl
  exact (show Tryd.prog.wantsStandIn t = false by simpa using List.all_eq_true.1 hall t hm)
end Go.Proofs.YtokehmkegnmfdabDoor.capsLess
namespace Go.Proofs.YtokehmkegnmfdabDoor
/-- THE CARD. -/
theorem capsLess_card : Rows.CapsLessCardSaid :=
  Claim7.holds_tied_plain_at .later [] _ _ _ _ capsLess.said (fun _ h => by cases h) (by kernel_rfl) (fun _ h => by cases h) capsLess_row_tie rfl ⟨rfl, rfl⟩ (by kernel_rfl) rfl capsLess.plain (by kernel_rfl)
#print axioms capsLess_card
end Go.Proofs.YtokehmkegnmfdabDoor

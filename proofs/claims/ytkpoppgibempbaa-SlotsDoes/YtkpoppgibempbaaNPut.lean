/-
  What Put of package slots answers and leaves; no condition of ours.
-/
import Derived.Test.YtkpoppgibempbaaNGet
namespace Go.Proofs.Ytkpoppgibempbaa
open Go.RowKit Go.Deep Go.MapKept Go.Maps
set_option linter.unusedSectionVars false
variable [dCp : DecidableEq Cp] [dLim : ∀ k, Decidable (Lim k)] [dBad : ∀ k, Decidable (Bad k)] [dFit : ∀ g z, Decidable (Fit g z)] [dFine : ∀ c, Decidable (Fine c)] [dMint : ∀ c v, Decidable (MintR c v)] [dWho : ∀ x y, Decidable (Whose x y)] [dSl : DecidableEq Sl] [dLt : ∀ a b, Decidable (ltS a b)]

/-- What a call leaves: the nodes S, in the same blocks; all other old ones are as they were. -/
def Leaves (w : World) (p : Nat) (F : Nat → Prop) (S : St) (w' : World) : Prop := Nds w' p F S ∧ Turn F w w'
theorem Leaves.same {w w' : World} {p : Nat} {F : Nat → Prop} {S : St} (h : Nds w p F S) (b : Below w.heap.size w w') : Leaves w p F S w' := ⟨h.below b, Turn.of b F⟩
/-- The map alone has turned. -/
theorem PN.mapped {w w' : World} {p m : Nat} {v : Value} {F : Nat → Prop} {S S' : St} (h : PN w p m v F S) (g : w.grownBy w' (some m)) (k : MapIs w' m (holdS S')) (e : S'.map bitsL = S.map bitsL) (ok : Okay S') : PN w' p m v F S' where
  head := (g.block _ (h.lt _ h.fp) fun e => h.pm (Option.some.inj e)).trans h.head
  row := by
    have el : S'.length = S.length := by simpa using congrArg List.length e
    have ev : S'.map bitV = S.map bitV := by
      have : ∀ T : St, T.map bitV = (T.map bitsL).map fun n : Nat => Value.int .i64 (n : Int) := fun T => by rw [List.map_map]; rfl
      rw [this, this, e]
    rw [el, ev]
    exact own_of_block h.row fun q hq => g.block _ (h.lt _ (h.fv q hq).1) fun e => (h.fv q hq).2.2 (Option.some.inj e)
  map := k
  fp := h.fp
  fm := h.fm
  fv := h.fv
  pm := h.pm
  lt := fun x hx => Nat.lt_of_lt_of_le (h.lt x hx) g.size
  ok := ok
theorem bits_set {S : St} {s : Sl} {d : Cp} (h : atS S s = some d) (c : Cp) : (setS S s c).map bitsL = S.map bitsL := by
  obtain ⟨_, _, h3, _⟩ := atS_mem h
  unfold setS
  rw [List.map_set]
  have e : bitsL ((S.getD s.n.toNat []).set s.i.toNat c) = bitsL (S.getD s.n.toNat []) := by unfold bitsL; rw [List.length_set]
  rw [e]
  apply List.ext_getElem?
  intro i
  rw [List.getElem?_set]
  split
  · rename_i hi
    subst hi
    simp [h3]
  · rfl
/-- A slot's map is set. -/
theorem PN.put {w w' : World} {p m : Nat} {v : Value} {F : Nat → Prop} {S : St} (h : PN w p m v F S) {s : Sl} {d c : Cp} (hs : atS S s = some d) (hc : c.Fits) (hk : c.k ≠ 0) (g : w.grownBy w' (some m)) (k : MapIs w' m (updF (holdS S) s c)) : PN w' p m v F (setS S s c) :=
  h.mapped g (k.congr fun t => by rw [holdS_set hs]; unfold updF; simp [hk]) (bits_set hs c) (h.ok.set hs hc fun e => absurd e hk)
theorem PN.del {w w' : World} {p m : Nat} {v : Value} {F : Nat → Prop} {S : St} (h : PN w p m v F S) {s : Sl} {d : Cp} (hs : atS S s = some d) (g : w.grownBy w' (some m)) (k : MapIs w' m (delF (holdS S) s)) : PN w' p m v F (setS S s no) :=
  h.mapped g (k.congr fun t => by rw [holdS_set hs]; unfold delF; simp [no]) (bits_set hs no) (h.ok.set hs no_fits fun _ => rfl)
theorem map_turn {w w' : World} {p m : Nat} {v : Value} {F : Nat → Prop} {S : St} (h : PN w p m v F S) (g : w.grownBy w' (some m)) : Turn F w w' := Turn.grown g fun k hk => .inl (by cases hk; exact h.fm)
theorem hold_some {S : St} {s : Sl} {d : Cp} (h : atS S s = some d) : (holdS S s).isSome = decide (d.k ≠ 0) := by
  unfold holdS
  rw [h]
  by_cases hk : d.k = 0 <;> simp [hk]
set_option maxHeartbeats 1000000 in
theorem put_any (p : Nat) (F : Nat → Prop) (S : St) (s : Sl) (c : Cp) (w : World) (h : Nds w p F S) (hs : s.Fits) (hc : c.Fits) :
    Calls Try.prog 12 #[.pointer (some ⟨p, 0, none⟩), encS s, encC c] w fun e w' => e = .returned (.int .i64 (putE S s c)) ∧ Leaves w p F (putS S s c) w' := by
  have HS : Hid (s.Fits ∧ c.Fits) := ⟨hs, hc⟩
  have H : Hid (Nds w p F S) := h
  obtain ⟨x1, x2, x3, x4⟩ := box2 w (objS s) (objC c)
  have HE : Hid (putE S s c = (match atS S s with | none => 50 | some d => if Fine c then if c.k = 0 then 1 else if d.k = 0 then 0 else 51 else 40) ∧ putS S s c = if putE S s c = 0 then setS S s c else S) := ⟨rfl, rfl⟩
  generalize putE S s c = pe at *
  generalize putS S s c = ps at *
  simp only [encS, objS, objC, encC] at *
  go_enter Try.func12, Try.ntmps12
  go_wp2_with fail
  refine (there_any p F S s _ (H.out.below x4)).mono ?_
  rintro e w3 ⟨rfl, b3⟩
  clear h hs hc
  have a1 : AtS w3 w.heap.size s := (b3.block _ (by rw [x3]; omega)).trans x1
  have a2 : AtC w3 (w.heap.size + 1) c := (b3.block _ (by rw [x3]; omega)).trans x2
  have B : Hid (Below w.heap.size w w3) := Below.then x4 b3 x4.size
  clear x1 x2 x3 x4 b3
  have A1 : Hid (AtS w3 w.heap.size s) := a1
  have A2 : Hid (AtC w3 (w.heap.size + 1) c) := a2
  obtain ⟨s0, s1⟩ := a1.cells
  obtain ⟨z0, z1, z2, z3, z4, z5⟩ := a2.cells
  clear a1 a2
  generalize hr0 : w.heap.size = r at *
  have HR : Hid (w.heap.size = r) := hr0
  clear hr0
  cases hq : atS S s with
  | none =>
    rw [hq] at HE
    obtain ⟨rfl, e2⟩ := HE.out
    obtain rfl : ps = S := e2.trans (if_neg (show ¬ (50 : Int) = 0 by decide))
    clear e2 HE
    go_wp2
    go_ret
    exact ⟨rfl, Leaves.same H.out (by rw [HR.out]; exact B.out)⟩
  | some d =>
    rw [hq] at HE
    have HQ : Hid (atS S s = some d) := hq
    clear hq
    go_wp2_with fail
    refine (check_any c _ HS.out.2).mono ?_
    rintro e w4 ⟨rfl, b4⟩
    have a1 := A1.out.below b4
    have a2 := A2.out.below b4
    have B4 : Hid (Below r w w4) := Below.then B.out b4 (by have := B.out.size; have := HR.out; omega)
    clear s0 s1 z0 z1 z2 z3 z4 z5 A1 A2 B b4
    have A1 : Hid (AtS w4 r s) := a1
    have A2 : Hid (AtC w4 (r + 1) c) := a2
    obtain ⟨s0, s1⟩ := a1.cells
    obtain ⟨z0, z1, z2, z3, z4, z5⟩ := a2.cells
    clear a1 a2
    by_cases hf : Fine c
    · have hce : checkE c = 0 := by simp [checkE, hf]
      rw [hce]
      by_cases hk : c.k = 0
      · obtain ⟨e1, e2⟩ := HE.out
        simp only [hf, hk, if_true] at e1
        subst e1
        rw [if_neg (by decide)] at e2
        subst e2
        have hk' : (c.k == 0) = true := by simp [hk]
        clear hk
        go_wp2
        go_ret
        exact ⟨rfl, Leaves.same H.out (by rw [HR.out]; exact B4.out)⟩
      · have hk' : (c.k == 0) = false := by simp [hk]
        have HK : Hid (¬ c.k = 0) := hk
        clear hk hce
        go_wp2_with fail
        refine (free_any p F S s _ (H.out.below (by rw [HR.out]; exact B4.out)) HS.out.1).mono ?_
        rintro e w5 ⟨rfl, b5⟩
        have a1 := A1.out.below b5
        have a2 := A2.out.below b5
        have B5 : Hid (Below r w w5) := Below.then B4.out b5 (by have := B4.out.size; have := HR.out; omega)
        clear s0 s1 z0 z1 z2 z3 z4 z5 A1 A2 B4 b5
        obtain ⟨s0, s1⟩ := a1.cells
        obtain ⟨z0, z1, z2, z3, z4, z5⟩ := a2.cells
        clear a1 a2
        rw [hold_some HQ.out]
        by_cases hd : d.k = 0
        · have hdd : decide (d.k ≠ 0) = false := by simp [hd]
          rw [hdd]
          obtain ⟨e1, e2⟩ := HE.out
          simp only [hf, HK.out, hd, if_true, if_false] at e1
          subst e1
          rw [if_pos rfl] at e2
          subst e2
          clear hd hdd
          obtain ⟨m, v, h5⟩ : Nds w5 p F S := H.out.below (by rw [HR.out]; exact B5.out)
          obtain ⟨c0, c1⟩ := h5.cells
          obtain ⟨w6, hrun, k1, k2, k3⟩ := (h5.map.of_block (w' := w5.drew) rfl).store HS.out.1 c
          have K : Hid (Leaves w p F (setS S s c) w6) := ⟨⟨m, v, h5.put HQ.out HS.out.2 HK.out ⟨k2.os, k2.tape, k2.output, k2.size, k2.block⟩ k1⟩, by
            have t1 : Turn F w w5 := Turn.of (by rw [HR.out]; exact B5.out) F
            exact t1.trans (G := F) (map_turn h5 ⟨k2.os, k2.tape, k2.output, k2.size, k2.block⟩) fun x hx => .inl hx⟩
          clear k1 k2 k3 h5
          simp only [encS, encC] at *
          go_wp2
          go_region
          go_wp2
          go_ret
          exact ⟨rfl, K.out⟩
        · have hdd : decide (d.k ≠ 0) = true := by simp [hd]
          rw [hdd]
          obtain ⟨e1, e2⟩ := HE.out
          simp only [hf, HK.out, hd, if_true, if_false] at e1
          subst e1
          rw [if_neg (by decide)] at e2
          subst e2
          clear hd hdd
          go_wp2
          go_ret
          exact ⟨rfl, Leaves.same H.out (by rw [HR.out]; exact B5.out)⟩
    · have hce : checkE c = 40 := by simp [checkE, hf]
      rw [hce]
      obtain ⟨e1, e2⟩ := HE.out
      simp only [hf, if_false] at e1
      subst e1
      rw [if_neg (by decide)] at e2
      subst e2
      clear hce
      go_wp2
      go_ret
      exact ⟨rfl, Leaves.same H.out (by rw [HR.out]; exact B4.out)⟩
end Go.Proofs.Ytkpoppgibempbaa

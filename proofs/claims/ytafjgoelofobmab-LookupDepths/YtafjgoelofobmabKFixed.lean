/-
  What fixed of the statements answers: yes; no condition of ours.
-/
import Derived.Test.YtafjgoelofobmabKBuilt
namespace Go.Proofs.Ytafjgoelofobmab
open Go.RowKit Go.Deep Go.MapKept Go.Maps
set_option linter.unusedSectionVars false
variable [dCp : DecidableEq Cp] [dLim : ∀ k, Decidable (Lim k)] [dBad : ∀ k, Decidable (Bad k)] [dFit : ∀ g z, Decidable (Fit g z)] [dFine : ∀ c, Decidable (Fine c)] [dMint : ∀ c v, Decidable (MintR c v)] [dWho : ∀ x y, Decidable (Whose x y)] [dSl : DecidableEq Sl] [dLt : ∀ a b, Decidable (ltS a b)] [dIsN : ∀ S c, Decidable (isN S c)] [dGuN : ∀ a c d, Decidable (GuardN a c d)]

theorem eq_slots (w : World) (a c : Sl) :
    (Op.equalIn 10000 36 (.agg #[.int .i64 a.n, .int .i64 a.i]) (.agg #[.int .i64 c.n, .int .i64 c.i])).run Try.prog w = .ok (decide (a = c)) w := by
  have u3 := Try.underlying3
  have a3 := Try.isAgg3
  have z3 := Try.sizeOf3
  have hS : Try.prog.underlying 36 = some (.struct (Try.prog.fieldsOf 36)) := by kernel_rfl
  have hp : Try.prog.stoodInHeld 36 = false := by kernel_rfl
  rw [show (10000 : Nat) = 9999 + 1 from rfl, run_equalIn_agg w 9999 36 _ _ hS hp]
  simp only [Program.fieldsOf, Try.underlying36]
  go_simp
  obtain ⟨n, i⟩ := a
  obtain ⟨n', i'⟩ := c
  by_cases h1 : n = n' <;> by_cases h2 : i = i' <;> simp [h1, h2]
def rootF : Cp := ⟨2, 0, 7, 0, 1, 1⟩
def thrF : Cp := ⟨3, 0, 7, 0, 0, 0⟩
def stF : St := [[no, no, thrF, no]]
theorem rootF_fits : rootF.Fits := by constructor <;> decide
theorem thrF_fits : thrF.Fits := by constructor <;> decide
theorem built_F : builtS [1] [(⟨0, 2⟩, thrF)] = stF := by obtain rfl : dCp = decCp := Subsingleton.elim _ _; obtain rfl : dLim = decLim := Subsingleton.elim _ _; obtain rfl : dBad = decBad := Subsingleton.elim _ _; obtain rfl : dFit = decFit := Subsingleton.elim _ _; obtain rfl : dFine = decFine := Subsingleton.elim _ _; obtain rfl : dMint = decMint := Subsingleton.elim _ _; obtain rfl : dWho = decWho := Subsingleton.elim _ _; obtain rfl : dSl = decSl := Subsingleton.elim _ _; obtain rfl : dLt = decLt := Subsingleton.elim _ _; obtain rfl : dIsN = decIsN := Subsingleton.elim _ _; obtain rfl : dGuN = decGuN := Subsingleton.elim _ _; kernel_rfl
theorem s1F : slotR stF rootF 6 3 = (⟨0, 2⟩, 0) := by obtain rfl : dCp = decCp := Subsingleton.elim _ _; obtain rfl : dLim = decLim := Subsingleton.elim _ _; obtain rfl : dBad = decBad := Subsingleton.elim _ _; obtain rfl : dFit = decFit := Subsingleton.elim _ _; obtain rfl : dFine = decFine := Subsingleton.elim _ _; obtain rfl : dMint = decMint := Subsingleton.elim _ _; obtain rfl : dWho = decWho := Subsingleton.elim _ _; obtain rfl : dSl = decSl := Subsingleton.elim _ _; obtain rfl : dLt = decLt := Subsingleton.elim _ _; obtain rfl : dIsN = decIsN := Subsingleton.elim _ _; obtain rfl : dGuN = decGuN := Subsingleton.elim _ _; kernel_rfl
theorem c1F : capR stF rootF 6 3 = (thrF, 0) := by obtain rfl : dCp = decCp := Subsingleton.elim _ _; obtain rfl : dLim = decLim := Subsingleton.elim _ _; obtain rfl : dBad = decBad := Subsingleton.elim _ _; obtain rfl : dFit = decFit := Subsingleton.elim _ _; obtain rfl : dFine = decFine := Subsingleton.elim _ _; obtain rfl : dMint = decMint := Subsingleton.elim _ _; obtain rfl : dWho = decWho := Subsingleton.elim _ _; obtain rfl : dSl = decSl := Subsingleton.elim _ _; obtain rfl : dLt = decLt := Subsingleton.elim _ _; obtain rfl : dIsN = decIsN := Subsingleton.elim _ _; obtain rfl : dGuN = decGuN := Subsingleton.elim _ _; kernel_rfl
theorem s2F : slotR stF rootF 2 3 = (sl0, 61) := by obtain rfl : dCp = decCp := Subsingleton.elim _ _; obtain rfl : dLim = decLim := Subsingleton.elim _ _; obtain rfl : dBad = decBad := Subsingleton.elim _ _; obtain rfl : dFit = decFit := Subsingleton.elim _ _; obtain rfl : dFine = decFine := Subsingleton.elim _ _; obtain rfl : dMint = decMint := Subsingleton.elim _ _; obtain rfl : dWho = decWho := Subsingleton.elim _ _; obtain rfl : dSl = decSl := Subsingleton.elim _ _; obtain rfl : dLt = decLt := Subsingleton.elim _ _; obtain rfl : dIsN = decIsN := Subsingleton.elim _ _; obtain rfl : dGuN = decGuN := Subsingleton.elim _ _; kernel_rfl
theorem s3F : slotR stF rootF 12 4 = (sl0, 62) := by obtain rfl : dCp = decCp := Subsingleton.elim _ _; obtain rfl : dLim = decLim := Subsingleton.elim _ _; obtain rfl : dBad = decBad := Subsingleton.elim _ _; obtain rfl : dFit = decFit := Subsingleton.elim _ _; obtain rfl : dFine = decFine := Subsingleton.elim _ _; obtain rfl : dMint = decMint := Subsingleton.elim _ _; obtain rfl : dWho = decWho := Subsingleton.elim _ _; obtain rfl : dSl = decSl := Subsingleton.elim _ _; obtain rfl : dLt = decLt := Subsingleton.elim _ _; obtain rfl : dIsN = decIsN := Subsingleton.elim _ _; obtain rfl : dGuN = decGuN := Subsingleton.elim _ _; kernel_rfl
theorem s4F : slotR stF thrF 0 3 = (sl0, 60) := by obtain rfl : dCp = decCp := Subsingleton.elim _ _; obtain rfl : dLim = decLim := Subsingleton.elim _ _; obtain rfl : dBad = decBad := Subsingleton.elim _ _; obtain rfl : dFit = decFit := Subsingleton.elim _ _; obtain rfl : dFine = decFine := Subsingleton.elim _ _; obtain rfl : dMint = decMint := Subsingleton.elim _ _; obtain rfl : dWho = decWho := Subsingleton.elim _ _; obtain rfl : dSl = decSl := Subsingleton.elim _ _; obtain rfl : dLt = decLt := Subsingleton.elim _ _; obtain rfl : dIsN = decIsN := Subsingleton.elim _ _; obtain rfl : dGuN = decGuN := Subsingleton.elim _ _; kernel_rfl
theorem s5F : slotR stF rootF 3 2 = (sl0, 62) := by obtain rfl : dCp = decCp := Subsingleton.elim _ _; obtain rfl : dLim = decLim := Subsingleton.elim _ _; obtain rfl : dBad = decBad := Subsingleton.elim _ _; obtain rfl : dFit = decFit := Subsingleton.elim _ _; obtain rfl : dFine = decFine := Subsingleton.elim _ _; obtain rfl : dMint = decMint := Subsingleton.elim _ _; obtain rfl : dWho = decWho := Subsingleton.elim _ _; obtain rfl : dSl = decSl := Subsingleton.elim _ _; obtain rfl : dLt = decLt := Subsingleton.elim _ _; obtain rfl : dIsN = decIsN := Subsingleton.elim _ _; obtain rfl : dGuN = decGuN := Subsingleton.elim _ _; kernel_rfl
theorem w1F : wayR stF rootF [2] = (6, 3, 0) := by obtain rfl : dCp = decCp := Subsingleton.elim _ _; obtain rfl : dLim = decLim := Subsingleton.elim _ _; obtain rfl : dBad = decBad := Subsingleton.elim _ _; obtain rfl : dFit = decFit := Subsingleton.elim _ _; obtain rfl : dFine = decFine := Subsingleton.elim _ _; obtain rfl : dMint = decMint := Subsingleton.elim _ _; obtain rfl : dWho = decWho := Subsingleton.elim _ _; obtain rfl : dSl = decSl := Subsingleton.elim _ _; obtain rfl : dLt = decLt := Subsingleton.elim _ _; obtain rfl : dIsN = decIsN := Subsingleton.elim _ _; obtain rfl : dGuN = decGuN := Subsingleton.elim _ _; kernel_rfl
theorem w2F : wayR stF rootF [2, 0] = (0, 0, 60) := by obtain rfl : dCp = decCp := Subsingleton.elim _ _; obtain rfl : dLim = decLim := Subsingleton.elim _ _; obtain rfl : dBad = decBad := Subsingleton.elim _ _; obtain rfl : dFit = decFit := Subsingleton.elim _ _; obtain rfl : dFine = decFine := Subsingleton.elim _ _; obtain rfl : dMint = decMint := Subsingleton.elim _ _; obtain rfl : dWho = decWho := Subsingleton.elim _ _; obtain rfl : dSl = decSl := Subsingleton.elim _ _; obtain rfl : dLt = decLt := Subsingleton.elim _ _; obtain rfl : dIsN = decIsN := Subsingleton.elim _ _; obtain rfl : dGuN = decGuN := Subsingleton.elim _ _; kernel_rfl
theorem w3F : wayR stF rootF [] = (0, 0, 1) := by obtain rfl : dCp = decCp := Subsingleton.elim _ _; obtain rfl : dLim = decLim := Subsingleton.elim _ _; obtain rfl : dBad = decBad := Subsingleton.elim _ _; obtain rfl : dFit = decFit := Subsingleton.elim _ _; obtain rfl : dFine = decFine := Subsingleton.elim _ _; obtain rfl : dMint = decMint := Subsingleton.elim _ _; obtain rfl : dWho = decWho := Subsingleton.elim _ _; obtain rfl : dSl = decSl := Subsingleton.elim _ _; obtain rfl : dLt = decLt := Subsingleton.elim _ _; obtain rfl : dIsN = decIsN := Subsingleton.elim _ _; obtain rfl : dGuN = decGuN := Subsingleton.elim _ _; kernel_rfl
theorem ints1 {w : World} {q : Nat} {a : Int} (h : w.heap[q]? = some (.cells #[.int .i64 a] 3)) (ha : I64 a) : Ints w (some ⟨q, 0, none⟩) [a] := fun k x hx => by
  cases k with
  | zero =>
    simp at hx
    subst hx
    exact ⟨ha, q, 0, rfl, (Array.getElem?_eq_some_iff.1 h).1, by simp [World.cell?, h]⟩
  | succ k => simp at hx
theorem ints2 {w : World} {q : Nat} {a b : Int} (h : w.heap[q]? = some (.cells #[.int .i64 a, .int .i64 b] 3)) (ha : I64 a) (hb : I64 b) : Ints w (some ⟨q, 0, none⟩) [a, b] := fun k x hx => by
  match k, hx with
  | 0, hx =>
    simp at hx
    subst hx
    exact ⟨ha, q, 0, rfl, (Array.getElem?_eq_some_iff.1 h).1, by simp [World.cell?, h]⟩
  | 1, hx =>
    simp at hx
    subst hx
    exact ⟨hb, q, 0, rfl, (Array.getElem?_eq_some_iff.1 h).1, by simp [World.cell?, h]⟩
  | k + 2, hx => simp at hx
theorem ints0 (w : World) : Ints w none [] := fun k x hx => by simp at hx
theorem helds1 {w : World} {q : Nat} {x : Sl × Cp} (h : w.heap[q]? = some (.cells (encK x).toArray 53)) (h1 : x.1.Fits) (h2 : x.2.Fits) : Helds w (some ⟨q, 0, none⟩) [x] := fun k y hy => by
  cases k with
  | zero =>
    simp at hy
    subst hy
    refine ⟨⟨h1, h2⟩, q, 0, rfl, (Array.getElem?_eq_some_iff.1 h).1, fun j hj => ?_⟩
    have hl : j < (encK x).length := hj
    rw [getElem!_pos _ j hl]
    simp [World.cell?, h]
  | succ k => simp at hy
theorem helds0 (w : World) : Helds w none [] := fun k x hx => by simp at hx
theorem i64_lit {a : Int} (h : -1000 ≤ a ∧ a ≤ 1000) : I64 a := by unfold I64; omega
theorem sl02_fits : (⟨0, 2⟩ : Sl).Fits := ⟨i64_lit (by decide), i64_lit (by decide)⟩
set_option maxHeartbeats 4000000 in
set_option maxRecDepth 100000 in
theorem fixed_any (w : World) : Calls Try.prog 7 #[] w fun e w' => e = .returned (.bool true) ∧ Below w.heap.size w w' := by
  obtain ⟨r, HR⟩ : ∃ r, Hid (w.heap.size = r) := ⟨_, rfl⟩
  obtain ⟨x1, x2, x3, x4, x5⟩ := box4 w (objC rootF) (objC thrF) (.cells #[.int .i64 1] 3) (.cells (encK (⟨0, 2⟩, thrF)).toArray 53)
  have X : Hid (Ints ((((w.alloc (objC rootF)).alloc (objC thrF)).alloc (.cells #[.int .i64 1] 3)).alloc (.cells (encK (⟨0, 2⟩, thrF)).toArray 53)) (some ⟨w.heap.size + 1 + 1, 0, none⟩) [1] ∧ Helds ((((w.alloc (objC rootF)).alloc (objC thrF)).alloc (.cells #[.int .i64 1] 3)).alloc (.cells (encK (⟨0, 2⟩, thrF)).toArray 53)) (some ⟨w.heap.size + 1 + 1 + 1, 0, none⟩) [(⟨0, 2⟩, thrF)]) := ⟨ints1 x3 (i64_lit (by decide)), helds1 x4 sl02_fits thrF_fits⟩
  have Y : Hid (AtC ((((w.alloc (objC rootF)).alloc (objC thrF)).alloc (.cells #[.int .i64 1] 3)).alloc (.cells (encK (⟨0, 2⟩, thrF)).toArray 53)) w.heap.size rootF ∧ AtC ((((w.alloc (objC rootF)).alloc (objC thrF)).alloc (.cells #[.int .i64 1] 3)).alloc (.cells (encK (⟨0, 2⟩, thrF)).toArray 53)) (w.heap.size + 1) thrF ∧ Below w.heap.size w ((((w.alloc (objC rootF)).alloc (objC thrF)).alloc (.cells #[.int .i64 1] 3)).alloc (.cells (encK (⟨0, 2⟩, thrF)).toArray 53))) := ⟨x1, x2, x5⟩
  have Q : Hid (w.heap.size ≠ w.heap.size + 1) := (by omega : w.heap.size ≠ w.heap.size + 1)
  clear x1 x2 x3 x4 x5
  simp only [objC, encK, rootF, thrF] at X Y
  have HQs : ∀ W, (Op.equalIn 10000 36 (.agg #[.int .i64 0, .int .i64 2]) (.agg #[.int .i64 0, .int .i64 2])).run Try.prog W = .ok true W := fun W => by
    have h := eq_slots W ⟨0, 2⟩ ⟨0, 2⟩
    simpa using h
  have HQc : ∀ W, (Op.equalIn 10000 28 (.agg #[.int .i64 3, .int .i64 0, .int .i64 7, .int .u64 0, .int .u64 0, .int .i64 0]) (.agg #[.int .i64 3, .int .i64 0, .int .i64 7, .int .u64 0, .int .u64 0, .int .i64 0])).run Try.prog W = .ok true W := fun W => by
    have h := eq_caps W thrF thrF
    simpa [thrF] using h
  go_enter Try.func7, Try.ntmps7
  go_wp2_with fail
  refine (built_any (some ⟨w.heap.size + 1 + 1, 0, none⟩) [1] 1 (some ⟨w.heap.size + 1 + 1 + 1, 0, none⟩) [(⟨0, 2⟩, thrF)] 1 _ X.out.1 X.out.2 (by decide) (by decide)).mono ?_
  rintro e w1 ⟨p, F, p2, F2, rfl, h1⟩
  rw [built_F] at h1
  have H1 : Hid (Bk w w.heap.size w1 p F p2 F2 stF stF [(w.heap.size, objC rootF), (w.heap.size + 1, objC thrF)]) := h1.rebase Y.out.2.2 Y.out.2.2.size fun x hx => by
    rcases List.mem_cons.1 hx with rfl | hx
    · exact Y.out.1
    · rcases List.mem_cons.1 hx with rfl | hx
      · exact Y.out.2.1
      · cases hx
  clear h1 X Y
  generalize w.heap.size + 1 = r1 at *
  rw [HR.out] at H1 Q
  rw [HR.out]
  obtain ⟨c0, c1, c2, c3, c4, c5⟩ := (H1.out.atC (q := r) (c := rootF) (by simp)).cells
  obtain ⟨d0, d1, d2, d3, d4, d5⟩ := (H1.out.atC (q := r1) (c := thrF) (by simp)).cells
  simp only [rootF, thrF] at c0 c1 c2 c3 c4 c5 d0 d1 d2 d3 d4 d5
  go_wp2_with fail
  refine (slot_any p F stF rootF 6 3 _ H1.out.nds rootF_fits (by omega)).mono ?_
  rintro e w2 ⟨he, b2⟩
  rw [s1F] at he
  obtain rfl : e = .returned (.tuple #[.agg #[.int .i64 0, .int .i64 2], .int .i64 0]) := he
  have g2 := (H1.out.below b2).alloc (objS ⟨0, 2⟩)
  have H2 : Hid (Bk w r (w2.alloc (objS ⟨0, 2⟩)) p F p2 F2 stF stF [(w2.heap.size, objS ⟨0, 2⟩), (r, objC rootF), (r1, objC thrF)]) := g2
  clear g2 b2 H1
  clear c0 c1 c2 c3 c4 c5 d0 d1 d2 d3 d4 d5
  obtain ⟨c0, c1, c2, c3, c4, c5⟩ := (H2.out.atC (q := r) (c := rootF) (by simp)).cells
  obtain ⟨d0, d1, d2, d3, d4, d5⟩ := (H2.out.atC (q := r1) (c := thrF) (by simp)).cells
  simp only [rootF, thrF, objS] at c0 c1 c2 c3 c4 c5 d0 d1 d2 d3 d4 d5
  have H2x : Hid (Bk w r (w2.alloc (Obj.cells #[.int .i64 0, .int .i64 2] 36)) p F p2 F2 stF stF [(w2.heap.size, objS ⟨0, 2⟩), (r, objC rootF), (r1, objC thrF)]) := H2
  clear H2
  go_wp2_with fail
  have Z2 : Hid ((w2.alloc (Obj.cells #[.int .i64 0, .int .i64 2] 36)).heap.size = w2.heap.size + 1) := World.size_alloc _ _
  generalize w2.alloc (Obj.cells #[.int .i64 0, .int .i64 2] 36) = v2 at *
  generalize w2.heap.size = q2 at *
  have K2 : Hid (Bk w r v2 p F p2 F2 stF stF [(q2, objS ⟨0, 2⟩), (r, objC rootF), (r1, objC thrF)]) := H2x
  clear H2x
  refine (cap_any p F stF rootF 6 3 _ K2.out.nds rootF_fits (by omega)).mono ?_
  rintro e w3 ⟨he, b3⟩
  rw [c1F] at he
  obtain rfl : e = .returned (.tuple #[.agg #[.int .i64 3, .int .i64 0, .int .i64 7, .int .u64 0, .int .u64 0, .int .i64 0], .int .i64 0]) := he
  have g3 := (K2.out.below b3).alloc (objC thrF)
  have H3 : Hid (Bk w r (w3.alloc (objC thrF)) p F p2 F2 stF stF [(w3.heap.size, objC thrF), (q2, objS ⟨0, 2⟩), (r, objC rootF), (r1, objC thrF)]) := g3
  clear g3 b3 K2
  clear c0 c1 c2 c3 c4 c5 d0 d1 d2 d3 d4 d5
  obtain ⟨c0, c1, c2, c3, c4, c5⟩ := (H3.out.atC (q := r) (c := rootF) (by simp)).cells
  obtain ⟨d0, d1, d2, d3, d4, d5⟩ := (H3.out.atC (q := r1) (c := thrF) (by simp)).cells
  simp only [rootF, thrF, objC] at c0 c1 c2 c3 c4 c5 d0 d1 d2 d3 d4 d5
  have H3x : Hid (Bk w r (w3.alloc (Obj.cells #[.int .i64 3, .int .i64 0, .int .i64 7, .int .u64 0, .int .u64 0, .int .i64 0] 28)) p F p2 F2 stF stF [(w3.heap.size, objC thrF), (q2, objS ⟨0, 2⟩), (r, objC rootF), (r1, objC thrF)]) := H3
  clear H3
  go_wp2_with fail
  have Z3 : Hid ((w3.alloc (Obj.cells #[.int .i64 3, .int .i64 0, .int .i64 7, .int .u64 0, .int .u64 0, .int .i64 0] 28)).heap.size = w3.heap.size + 1) := World.size_alloc _ _
  generalize w3.alloc (Obj.cells #[.int .i64 3, .int .i64 0, .int .i64 7, .int .u64 0, .int .u64 0, .int .i64 0] 28) = v3 at *
  generalize w3.heap.size = q3 at *
  have K3 : Hid (Bk w r v3 p F p2 F2 stF stF [(q3, objC thrF), (q2, objS ⟨0, 2⟩), (r, objC rootF), (r1, objC thrF)]) := H3x
  clear H3x
  refine (slot_any p F stF rootF 2 3 _ K3.out.nds rootF_fits (by omega)).mono ?_
  rintro e w4 ⟨he, b4⟩
  rw [s2F] at he
  obtain rfl : e = .returned (.tuple #[.agg #[.int .i64 0, .int .i64 0], .int .i64 61]) := he
  have g4 := (K3.out.below b4).alloc (objS sl0)
  have H4 : Hid (Bk w r (w4.alloc (objS sl0)) p F p2 F2 stF stF [(w4.heap.size, objS sl0), (q3, objC thrF), (q2, objS ⟨0, 2⟩), (r, objC rootF), (r1, objC thrF)]) := g4
  clear g4 b4 K3
  clear c0 c1 c2 c3 c4 c5 d0 d1 d2 d3 d4 d5
  obtain ⟨c0, c1, c2, c3, c4, c5⟩ := (H4.out.atC (q := r) (c := rootF) (by simp)).cells
  obtain ⟨d0, d1, d2, d3, d4, d5⟩ := (H4.out.atC (q := r1) (c := thrF) (by simp)).cells
  simp only [rootF, thrF, objS, sl0] at c0 c1 c2 c3 c4 c5 d0 d1 d2 d3 d4 d5
  have H4x : Hid (Bk w r (w4.alloc (Obj.cells #[.int .i64 0, .int .i64 0] 36)) p F p2 F2 stF stF [(w4.heap.size, objS sl0), (q3, objC thrF), (q2, objS ⟨0, 2⟩), (r, objC rootF), (r1, objC thrF)]) := H4
  clear H4
  go_wp2_with fail
  have Z4 : Hid ((w4.alloc (Obj.cells #[.int .i64 0, .int .i64 0] 36)).heap.size = w4.heap.size + 1) := World.size_alloc _ _
  generalize w4.alloc (Obj.cells #[.int .i64 0, .int .i64 0] 36) = v4 at *
  generalize w4.heap.size = q4 at *
  have K4 : Hid (Bk w r v4 p F p2 F2 stF stF [(q3, objC thrF), (q2, objS ⟨0, 2⟩), (r, objC rootF), (r1, objC thrF)]) := H4x.out.fewer fun b hb => List.mem_cons_of_mem _ hb
  clear H4x
  refine (slot_any p F stF rootF 12 4 _ K4.out.nds rootF_fits (by omega)).mono ?_
  rintro e w5 ⟨he, b5⟩
  rw [s3F] at he
  obtain rfl : e = .returned (.tuple #[.agg #[.int .i64 0, .int .i64 0], .int .i64 62]) := he
  have g5 := (K4.out.below b5).alloc (objS sl0)
  have H5 : Hid (Bk w r (w5.alloc (objS sl0)) p F p2 F2 stF stF [(w5.heap.size, objS sl0), (q3, objC thrF), (q2, objS ⟨0, 2⟩), (r, objC rootF), (r1, objC thrF)]) := g5
  clear g5 b5 K4
  clear c0 c1 c2 c3 c4 c5 d0 d1 d2 d3 d4 d5
  obtain ⟨c0, c1, c2, c3, c4, c5⟩ := (H5.out.atC (q := r) (c := rootF) (by simp)).cells
  obtain ⟨d0, d1, d2, d3, d4, d5⟩ := (H5.out.atC (q := r1) (c := thrF) (by simp)).cells
  simp only [rootF, thrF, objS, sl0] at c0 c1 c2 c3 c4 c5 d0 d1 d2 d3 d4 d5
  have H5x : Hid (Bk w r (w5.alloc (Obj.cells #[.int .i64 0, .int .i64 0] 36)) p F p2 F2 stF stF [(w5.heap.size, objS sl0), (q3, objC thrF), (q2, objS ⟨0, 2⟩), (r, objC rootF), (r1, objC thrF)]) := H5
  clear H5
  go_wp2_with fail
  have Z5 : Hid ((w5.alloc (Obj.cells #[.int .i64 0, .int .i64 0] 36)).heap.size = w5.heap.size + 1) := World.size_alloc _ _
  generalize w5.alloc (Obj.cells #[.int .i64 0, .int .i64 0] 36) = v5 at *
  generalize w5.heap.size = q5 at *
  have K5 : Hid (Bk w r v5 p F p2 F2 stF stF [(q3, objC thrF), (q2, objS ⟨0, 2⟩), (r, objC rootF), (r1, objC thrF)]) := H5x.out.fewer fun b hb => List.mem_cons_of_mem _ hb
  clear H5x
  refine (slot_any p F stF thrF 0 3 _ K5.out.nds thrF_fits (by omega)).mono ?_
  rintro e w6 ⟨he, b6⟩
  rw [s4F] at he
  obtain rfl : e = .returned (.tuple #[.agg #[.int .i64 0, .int .i64 0], .int .i64 60]) := he
  have g6 := (K5.out.below b6).alloc (objS sl0)
  have H6 : Hid (Bk w r (w6.alloc (objS sl0)) p F p2 F2 stF stF [(w6.heap.size, objS sl0), (q3, objC thrF), (q2, objS ⟨0, 2⟩), (r, objC rootF), (r1, objC thrF)]) := g6
  clear g6 b6 K5
  clear c0 c1 c2 c3 c4 c5 d0 d1 d2 d3 d4 d5
  obtain ⟨c0, c1, c2, c3, c4, c5⟩ := (H6.out.atC (q := r) (c := rootF) (by simp)).cells
  obtain ⟨d0, d1, d2, d3, d4, d5⟩ := (H6.out.atC (q := r1) (c := thrF) (by simp)).cells
  simp only [rootF, thrF, objS, sl0] at c0 c1 c2 c3 c4 c5 d0 d1 d2 d3 d4 d5
  have H6x : Hid (Bk w r (w6.alloc (Obj.cells #[.int .i64 0, .int .i64 0] 36)) p F p2 F2 stF stF [(w6.heap.size, objS sl0), (q3, objC thrF), (q2, objS ⟨0, 2⟩), (r, objC rootF), (r1, objC thrF)]) := H6
  clear H6
  go_wp2_with fail
  have Z6 : Hid ((w6.alloc (Obj.cells #[.int .i64 0, .int .i64 0] 36)).heap.size = w6.heap.size + 1) := World.size_alloc _ _
  generalize w6.alloc (Obj.cells #[.int .i64 0, .int .i64 0] 36) = v6 at *
  generalize w6.heap.size = q6 at *
  have K6 : Hid (Bk w r v6 p F p2 F2 stF stF [(q3, objC thrF), (q2, objS ⟨0, 2⟩), (r, objC rootF), (r1, objC thrF)]) := H6x.out.fewer fun b hb => List.mem_cons_of_mem _ hb
  clear H6x
  refine (slot_any p F stF rootF 3 2 _ K6.out.nds rootF_fits (by omega)).mono ?_
  rintro e w7 ⟨he, b7⟩
  rw [s5F] at he
  obtain rfl : e = .returned (.tuple #[.agg #[.int .i64 0, .int .i64 0], .int .i64 62]) := he
  have g7 := (K6.out.below b7).alloc (objS sl0)
  have H7 : Hid (Bk w r (w7.alloc (objS sl0)) p F p2 F2 stF stF [(w7.heap.size, objS sl0), (q3, objC thrF), (q2, objS ⟨0, 2⟩), (r, objC rootF), (r1, objC thrF)]) := g7
  clear g7 b7 K6
  clear c0 c1 c2 c3 c4 c5 d0 d1 d2 d3 d4 d5
  obtain ⟨c0, c1, c2, c3, c4, c5⟩ := (H7.out.atC (q := r) (c := rootF) (by simp)).cells
  obtain ⟨d0, d1, d2, d3, d4, d5⟩ := (H7.out.atC (q := r1) (c := thrF) (by simp)).cells
  simp only [rootF, thrF, objS, sl0] at c0 c1 c2 c3 c4 c5 d0 d1 d2 d3 d4 d5
  have H7x : Hid (Bk w r (w7.alloc (Obj.cells #[.int .i64 0, .int .i64 0] 36)) p F p2 F2 stF stF [(w7.heap.size, objS sl0), (q3, objC thrF), (q2, objS ⟨0, 2⟩), (r, objC rootF), (r1, objC thrF)]) := H7
  clear H7
  go_wp2_with fail
  have Z7 : Hid ((w7.alloc (Obj.cells #[.int .i64 0, .int .i64 0] 36)).heap.size = w7.heap.size + 1) := World.size_alloc _ _
  generalize w7.alloc (Obj.cells #[.int .i64 0, .int .i64 0] 36) = v7 at *
  generalize w7.heap.size = q7 at *
  have K7 : Hid (Bk w r v7 p F p2 F2 stF stF [(q3, objC thrF), (q2, objS ⟨0, 2⟩), (r, objC rootF), (r1, objC thrF)]) := H7x.out.fewer fun b hb => List.mem_cons_of_mem _ hb
  clear H7x
  have g8 := K7.out.alloc (.cells #[.int .i64 2] 3)
  rw [Z7.out] at g8
  have G8 : Hid (Bk w r (v7.alloc (.cells #[.int .i64 2] 3)) p F p2 F2 stF stF [(q7 + 1, .cells #[.int .i64 2] 3), (q3, objC thrF), (q2, objS ⟨0, 2⟩), (r, objC rootF), (r1, objC thrF)]) := g8
  clear g8 K7
  refine (addr_any p F stF rootF (some ⟨q7 + 1, 0, none⟩) [2] 1 _ G8.out.nds rootF_fits (ints1 (G8.out.blk (q7 + 1, .cells #[.int .i64 2] 3) (by simp)).1 (i64_lit (by decide))) (by decide)).mono ?_
  rintro e w8 ⟨he, b8⟩
  rw [w1F] at he
  obtain rfl : e = .returned (.tuple #[.int .u64 6, .int .i64 3, .int .i64 0]) := he
  have K8 : Hid (Bk w r w8 p F p2 F2 stF stF [(q3, objC thrF), (q2, objS ⟨0, 2⟩), (r, objC rootF), (r1, objC thrF)]) := (G8.out.below b8).fewer fun b hb => List.mem_cons_of_mem _ hb
  clear G8 b8
  clear c0 c1 c2 c3 c4 c5 d0 d1 d2 d3 d4 d5
  obtain ⟨c0, c1, c2, c3, c4, c5⟩ := (K8.out.atC (q := r) (c := rootF) (by simp)).cells
  obtain ⟨d0, d1, d2, d3, d4, d5⟩ := (K8.out.atC (q := r1) (c := thrF) (by simp)).cells
  simp only [rootF, thrF] at c0 c1 c2 c3 c4 c5 d0 d1 d2 d3 d4 d5
  go_wp2_with fail
  have G9 : Hid (Bk w r (w8.alloc (.cells #[.int .i64 2, .int .i64 0] 3)) p F p2 F2 stF stF [(w8.heap.size, .cells #[.int .i64 2, .int .i64 0] 3), (q3, objC thrF), (q2, objS ⟨0, 2⟩), (r, objC rootF), (r1, objC thrF)]) := K8.out.alloc (.cells #[.int .i64 2, .int .i64 0] 3)
  clear K8
  refine (addr_any p F stF rootF (some ⟨w8.heap.size, 0, none⟩) [2, 0] 2 _ G9.out.nds rootF_fits (ints2 (G9.out.blk (w8.heap.size, .cells #[.int .i64 2, .int .i64 0] 3) (by simp)).1 (i64_lit (by decide)) (i64_lit (by decide))) (by decide)).mono ?_
  rintro e w9 ⟨he, b9⟩
  rw [w2F] at he
  obtain rfl : e = .returned (.tuple #[.int .u64 0, .int .i64 0, .int .i64 60]) := he
  have K9 : Hid (Bk w r w9 p F p2 F2 stF stF [(q3, objC thrF), (q2, objS ⟨0, 2⟩), (r, objC rootF), (r1, objC thrF)]) := (G9.out.below b9).fewer fun b hb => List.mem_cons_of_mem _ hb
  clear G9 b9
  clear c0 c1 c2 c3 c4 c5 d0 d1 d2 d3 d4 d5
  obtain ⟨c0, c1, c2, c3, c4, c5⟩ := (K9.out.atC (q := r) (c := rootF) (by simp)).cells
  obtain ⟨d0, d1, d2, d3, d4, d5⟩ := (K9.out.atC (q := r1) (c := thrF) (by simp)).cells
  simp only [rootF, thrF] at c0 c1 c2 c3 c4 c5 d0 d1 d2 d3 d4 d5
  go_wp2_with fail
  refine (addr_any p F stF rootF none [] 0 _ K9.out.nds rootF_fits (ints0 _) (by decide)).mono ?_
  rintro e w10 ⟨he, b10⟩
  rw [w3F] at he
  obtain rfl : e = .returned (.tuple #[.int .u64 0, .int .i64 0, .int .i64 1]) := he
  have K10 : Hid (Bk w r w10 p F p2 F2 stF stF [(q3, objC thrF), (q2, objS ⟨0, 2⟩), (r, objC rootF), (r1, objC thrF)]) := K9.out.below b10
  clear K9 b10
  clear c0 c1 c2 c3 c4 c5 d0 d1 d2 d3 d4 d5
  obtain ⟨c0, c1, c2, c3, c4, c5⟩ := (K10.out.atC (q := r) (c := rootF) (by simp)).cells
  obtain ⟨d0, d1, d2, d3, d4, d5⟩ := (K10.out.atC (q := r1) (c := thrF) (by simp)).cells
  simp only [rootF, thrF] at c0 c1 c2 c3 c4 c5 d0 d1 d2 d3 d4 d5
  obtain ⟨a0, a1⟩ := (K10.out.atS (q := q2) (s := ⟨0, 2⟩) (by simp)).cells
  obtain ⟨f0, f1, f2, f3, f4, f5⟩ := (K10.out.atC (q := q3) (c := thrF) (by simp)).cells
  simp only [thrF] at f0 f1 f2 f3 f4 f5
  clear c0 c1 c2 c3 c4 c5
  go_wp2
  go_ret
  exact ⟨rfl, by rw [HR.out]; exact K10.out.low⟩
end Go.Proofs.Ytafjgoelofobmab

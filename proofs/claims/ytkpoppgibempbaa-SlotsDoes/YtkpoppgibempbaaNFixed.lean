/-
  What thread, two and fixed of the statements answer; no condition of ours.
-/
import Derived.Test.YtkpoppgibempbaaNHas
import Derived.Deep.Cut
import Derived.Deep.CutRange
import Derived.Shelf.SlSortCmp.QuietGrown
namespace Go.Proofs.Ytkpoppgibempbaa
open Go.RowKit Go.Deep Go.MapKept Go.Maps
set_option linter.unusedSectionVars false
variable [dCp : DecidableEq Cp] [dLim : ∀ k, Decidable (Lim k)] [dBad : ∀ k, Decidable (Bad k)] [dFit : ∀ g z, Decidable (Fit g z)] [dFine : ∀ c, Decidable (Fine c)] [dMint : ∀ c v, Decidable (MintR c v)] [dWho : ∀ x y, Decidable (Whose x y)] [dSl : DecidableEq Sl] [dLt : ∀ a b, Decidable (ltS a b)] [iSl : Inhabited Sl] [iCp : Inhabited Cp]

def thr : Cp := ⟨3, 1, 7, 0, 0, 0⟩
theorem thr_fits : thr.Fits := by constructor <;> decide
theorem fits_lit {n i : Int} (hn : 0 ≤ n ∧ n ≤ 1000000) (hi : 0 ≤ i ∧ i ≤ 1000000) : (⟨n, i⟩ : Sl).Fits := ⟨⟨by simp only; omega, by simp only; omega⟩, ⟨by simp only; omega, by simp only; omega⟩⟩
theorem thread_any (w : World) : Calls Try.prog 13 #[] w fun e w' => e = .returned (encC thr) ∧ w' = w.alloc (objC thr) := by
  simp only [encC, objC, thr]
  go_enter Try.func13, Try.ntmps13
  go_wp2
  refine bodyPost_ret (v := encC thr) ?_ rfl ⟨rfl, rfl⟩
  simp [results, Try.f13, go_sem, encC, thr]
theorem thread_grown (w : World) : Calls Try.prog 13 #[] w fun e w' => e = .returned (.agg #[.int .i64 3, .int .i64 1, .int .i64 7, .int .u64 0, .int .u64 0, .int .i64 0]) ∧ ∃ q os', w' = Sort.grow (w.drewN q) os' := by
  refine (thread_any w).mono ?_
  rintro e w' ⟨rfl, rfl⟩
  exact ⟨rfl, 0, #[objC thr], by rw [Sort.alloc_eq_grow]; rfl⟩
theorem below_grown (w : World) (n : Nat) (os : Array Obj) : Below w.heap.size w (Sort.grow (w.drewN n) os) :=
  ⟨rfl, rfl, rfl, by show w.heap.size ≤ (w.heap ++ os).size; simp, fun k hk => Sort.heap_grow_old (w.drewN n) os hk⟩
theorem two_any (w : World) : Calls Try.prog 27 #[] w fun e w' => ∃ p F, e = .returned (.pointer (some ⟨p, 0, none⟩)) ∧ Has w w.heap.size w' p F [List.replicate 4 no, List.replicate 4 no] [] [] := by
  go_enter Try.func27, Try.ntmps27
  go_wp2_with fail
  refine (new_any w).mono ?_
  rintro e w1 ⟨p, F, rfl, n, o, b⟩
  have h1 : Hid (Has w w.heap.size w1 p F [] [] []) := Has.started n b o rfl
  clear n o b
  go_wp2_with fail
  refine (make_has 2 0 0 [List.replicate 4 no] h1.out rfl rfl rfl).mono ?_
  rintro e w2 ⟨rfl, F2, h2⟩
  have h2 : Hid _ := h2
  go_wp2_with fail
  refine (make_has 2 1 0 [List.replicate 4 no, List.replicate 4 no] h2.out rfl rfl rfl).mono ?_
  rintro e w3 ⟨rfl, F3, h3⟩
  have h3 : Hid _ := h3
  go_wp2
  go_ret
  exact ⟨p, F3, rfl, h3.out⟩

/-! ### The calls whose answers are fixed -/
def sp : Sl := ⟨0, 1⟩
def sq : Sl := ⟨0, 0⟩
theorem sp_fits : sp.Fits := fits_lit (by decide) (by decide)
theorem sq_fits : sq.Fits := fits_lit (by decide) (by decide)
set_option maxHeartbeats 4000000 in
set_option maxRecDepth 100000 in
theorem fixed_any (w : World) : Calls Try.prog 23 #[] w fun e w' => e = .returned (.bool true) ∧ Below w.heap.size w w' := by
  have HQ1 : ∀ W, (Op.equalIn 10000 33 (.agg #[.int .i64 0, .int .i64 0, .int .i64 0, .int .u64 0, .int .u64 0, .int .i64 0]) (.agg #[.int .i64 0, .int .i64 0, .int .i64 0, .int .u64 0, .int .u64 0, .int .i64 0])).run Try.prog W = .ok true W := fun W => by
    have h := eq_caps W no no
    simpa [no] using h
  have HQ2 : ∀ W, (Op.equalIn 10000 33 (.agg #[.int .i64 3, .int .i64 1, .int .i64 7, .int .u64 0, .int .u64 0, .int .i64 0]) (.agg #[.int .i64 3, .int .i64 1, .int .i64 7, .int .u64 0, .int .u64 0, .int .i64 0])).run Try.prog W = .ok true W := fun W => by
    have h := eq_caps W thr thr
    simpa [thr] using h
  obtain ⟨r, HR⟩ : ∃ r, Hid (w.heap.size = r) := ⟨_, rfl⟩
  have mixed : Try.prog.follows .mixedOrders = true := by kernel_rfl
  go_enter Try.func23, Try.ntmps23
  go_wp2_with fail
  refine (new_any w).mono ?_
  rintro e w1 ⟨p, F, rfl, n, o, b⟩
  have h1 : Hid (Has w r w1 p F [] [] []) := Has.started n b o HR.out
  clear n o b
  go_wp2_with fail
  refine (make_has 1 0 0 [[no, no]] h1.out rfl rfl rfl).mono ?_
  rintro e w2 ⟨rfl, F2, h2⟩
  have h3 : Hid (Has w r ((w2.alloc (objS sp)).alloc (objS sq)) p F2 [[no, no]] [(w2.heap.size + 1, objS sq), (w2.heap.size, objS sp)] []) := by
    have := (h2.alloc (objS sp)).alloc (objS sq)
    rwa [World.size_alloc] at this
  clear h1 h2
  go_wp2_with fail
  simp only [objS, sp, sq] at h3
  generalize (w2.alloc (Obj.cells #[.int .i64 0, .int .i64 1] 30)).alloc (Obj.cells #[.int .i64 0, .int .i64 0] 30) = v3 at *
  generalize w2.heap.size = q at *
  have h3 : Hid (Has w r v3 p F2 [[no, no]] [(q + 1, objS sq), (q, objS sp)] []) := h3
  obtain ⟨a0, a1⟩ := (h3.out.atS (q := q) (s := sp) (by simp)).cells
  have a0' := cell_al a0
  have a1' := cell_al a1
  simp only [sp] at a0 a1 a0' a1'
  go_cut [6] from 33 to 36 (fun x wx => x = .int .i64 0 ∧ Has w r wx p F2 [[no, thr]] [(q + 1, objS sq), (q, objS sp)] [])
  case first =>
    go_region_with (first | (go_at_call 13; refine (thread_any _).mono ?_; rintro e w' ⟨rfl, rfl⟩) | (go_at_call 12; refine (put_has sp thr 0 [[no, thr]] ((h3.out.alloc (objC thr)).drew) sp_fits thr_fits (by obtain rfl : dCp = decCp := Subsingleton.elim _ _; obtain rfl : dLim = decLim := Subsingleton.elim _ _; obtain rfl : dBad = decBad := Subsingleton.elim _ _; obtain rfl : dFit = decFit := Subsingleton.elim _ _; obtain rfl : dFine = decFine := Subsingleton.elim _ _; obtain rfl : dMint = decMint := Subsingleton.elim _ _; obtain rfl : dWho = decWho := Subsingleton.elim _ _; obtain rfl : dSl = decSl := Subsingleton.elim _ _; obtain rfl : dLt = decLt := Subsingleton.elim _ _; kernel_rfl) (by obtain rfl : dCp = decCp := Subsingleton.elim _ _; obtain rfl : dLim = decLim := Subsingleton.elim _ _; obtain rfl : dBad = decBad := Subsingleton.elim _ _; obtain rfl : dFit = decFit := Subsingleton.elim _ _; obtain rfl : dFine = decFine := Subsingleton.elim _ _; obtain rfl : dMint = decMint := Subsingleton.elim _ _; obtain rfl : dWho = decWho := Subsingleton.elim _ _; obtain rfl : dSl = decSl := Subsingleton.elim _ _; obtain rfl : dLt = decLt := Subsingleton.elim _ _; kernel_rfl)).mono ?_; rintro e w' ⟨rfl, h4⟩))
    all_goals go_wp2_with fail
    all_goals go_meet
    all_goals exact ⟨rfl, h4.fewer (fun b hb => List.mem_cons_of_mem _ hb) fun b hb => hb⟩
  case rest =>
    clear h3 a0 a1 a0' a1'
    obtain ⟨rfl, h4⟩ := hcut
    have h4h : Hid (Has w r wc p F2 [[no, thr]] [(q + 1, objS sq), (q, objS sp)] []) := h4
    clear h4
    obtain ⟨a0, b0⟩ := (h4h.out.atS (q := q) (s := sp) (by simp)).cells
    obtain ⟨a1, b1⟩ := (h4h.out.atS (q := q + 1) (s := sq) (by simp)).cells
    simp only [sp, sq] at a0 b0 a1 b1
    go_wp2_with fail
    refine (move_has sp sq 0 [[thr, no]] h4h.out sp_fits sq_fits (by obtain rfl : dCp = decCp := Subsingleton.elim _ _; obtain rfl : dLim = decLim := Subsingleton.elim _ _; obtain rfl : dBad = decBad := Subsingleton.elim _ _; obtain rfl : dFit = decFit := Subsingleton.elim _ _; obtain rfl : dFine = decFine := Subsingleton.elim _ _; obtain rfl : dMint = decMint := Subsingleton.elim _ _; obtain rfl : dWho = decWho := Subsingleton.elim _ _; obtain rfl : dSl = decSl := Subsingleton.elim _ _; obtain rfl : dLt = decLt := Subsingleton.elim _ _; kernel_rfl) (by obtain rfl : dCp = decCp := Subsingleton.elim _ _; obtain rfl : dLim = decLim := Subsingleton.elim _ _; obtain rfl : dBad = decBad := Subsingleton.elim _ _; obtain rfl : dFit = decFit := Subsingleton.elim _ _; obtain rfl : dFine = decFine := Subsingleton.elim _ _; obtain rfl : dMint = decMint := Subsingleton.elim _ _; obtain rfl : dWho = decWho := Subsingleton.elim _ _; obtain rfl : dSl = decSl := Subsingleton.elim _ _; obtain rfl : dLt = decLt := Subsingleton.elim _ _; kernel_rfl)).mono ?_
    rintro e w11 ⟨rfl, h11⟩
    clear a0 b0 a1 b1
    clear h4h
    have h11h : Hid (Has w r w11 p F2 [[thr, no]] [(q + 1, objS sq), (q, objS sp)] []) := h11
    clear h11
    obtain ⟨a0, b0⟩ := (h11h.out.atS (q := q) (s := sp) (by simp)).cells
    simp only [sp] at a0 b0
    go_wp2_with fail
    refine (get_has sp no 0 h11h.out sp_fits (by obtain rfl : dCp = decCp := Subsingleton.elim _ _; obtain rfl : dLim = decLim := Subsingleton.elim _ _; obtain rfl : dBad = decBad := Subsingleton.elim _ _; obtain rfl : dFit = decFit := Subsingleton.elim _ _; obtain rfl : dFine = decFine := Subsingleton.elim _ _; obtain rfl : dMint = decMint := Subsingleton.elim _ _; obtain rfl : dWho = decWho := Subsingleton.elim _ _; obtain rfl : dSl = decSl := Subsingleton.elim _ _; obtain rfl : dLt = decLt := Subsingleton.elim _ _; kernel_rfl) (by obtain rfl : dCp = decCp := Subsingleton.elim _ _; obtain rfl : dLim = decLim := Subsingleton.elim _ _; obtain rfl : dBad = decBad := Subsingleton.elim _ _; obtain rfl : dFit = decFit := Subsingleton.elim _ _; obtain rfl : dFine = decFine := Subsingleton.elim _ _; obtain rfl : dMint = decMint := Subsingleton.elim _ _; obtain rfl : dWho = decWho := Subsingleton.elim _ _; obtain rfl : dSl = decSl := Subsingleton.elim _ _; obtain rfl : dLt = decLt := Subsingleton.elim _ _; kernel_rfl)).mono ?_
    rintro e w12 ⟨he, h12⟩
    obtain rfl : e = .returned (.tuple #[.agg #[.int .i64 0, .int .i64 0, .int .i64 0, .int .u64 0, .int .u64 0, .int .i64 0], .int .i64 0]) := he
    clear a0 b0
    clear h11h
    have h12h : Hid (Has w r w12 p F2 [[thr, no]] [(q + 1, objS sq), (q, objS sp)] []) := h12
    clear h12
    have g12 := h12h.out.alloc (objC no)
    clear h12h
    have g12h : Hid (Has w r (w12.alloc (objC no)) p F2 [[thr, no]] [(w12.heap.size, objC no), (q + 1, objS sq), (q, objS sp)] []) := g12
    clear g12
    obtain ⟨a0, b0⟩ := (g12h.out.atS (q := q + 1) (s := sq) (by simp)).cells
    simp only [sq] at a0 b0
    simp only [objC, no] at g12h a0 b0
    go_wp2_with fail
    generalize w12.alloc (Obj.cells #[.int .i64 0, .int .i64 0, .int .i64 0, .int .u64 0, .int .u64 0, .int .i64 0] 33) = v12 at *
    generalize w12.heap.size = q12 at *
    have k12 : Hid (Has w r v12 p F2 [[thr, no]] [(q12, objC no), (q + 1, objS sq), (q, objS sp)] []) := g12h
    clear g12h
    refine (get_has sq thr 0 k12.out sq_fits (by obtain rfl : dCp = decCp := Subsingleton.elim _ _; obtain rfl : dLim = decLim := Subsingleton.elim _ _; obtain rfl : dBad = decBad := Subsingleton.elim _ _; obtain rfl : dFit = decFit := Subsingleton.elim _ _; obtain rfl : dFine = decFine := Subsingleton.elim _ _; obtain rfl : dMint = decMint := Subsingleton.elim _ _; obtain rfl : dWho = decWho := Subsingleton.elim _ _; obtain rfl : dSl = decSl := Subsingleton.elim _ _; obtain rfl : dLt = decLt := Subsingleton.elim _ _; kernel_rfl) (by obtain rfl : dCp = decCp := Subsingleton.elim _ _; obtain rfl : dLim = decLim := Subsingleton.elim _ _; obtain rfl : dBad = decBad := Subsingleton.elim _ _; obtain rfl : dFit = decFit := Subsingleton.elim _ _; obtain rfl : dFine = decFine := Subsingleton.elim _ _; obtain rfl : dMint = decMint := Subsingleton.elim _ _; obtain rfl : dWho = decWho := Subsingleton.elim _ _; obtain rfl : dSl = decSl := Subsingleton.elim _ _; obtain rfl : dLt = decLt := Subsingleton.elim _ _; kernel_rfl)).mono ?_
    rintro e w13 ⟨he, h13⟩
    obtain rfl : e = .returned (.tuple #[.agg #[.int .i64 3, .int .i64 1, .int .i64 7, .int .u64 0, .int .u64 0, .int .i64 0], .int .i64 0]) := he
    clear a0 b0
    clear k12
    have h13h : Hid (Has w r w13 p F2 [[thr, no]] [(q12, objC no), (q + 1, objS sq), (q, objS sp)] []) := h13
    clear h13
    have g13 := h13h.out.alloc (objC thr)
    clear h13h
    have g13h : Hid (Has w r (w13.alloc (objC thr)) p F2 [[thr, no]] [(w13.heap.size, objC thr), (q12, objC no), (q + 1, objS sq), (q, objS sp)] []) := g13
    clear g13
    simp only [objC, thr] at g13h
    go_wp2_with fail
    generalize w13.alloc (Obj.cells #[.int .i64 3, .int .i64 1, .int .i64 7, .int .u64 0, .int .u64 0, .int .i64 0] 33) = v13 at *
    generalize w13.heap.size = q13 at *
    have k13 : Hid (Has w r v13 p F2 [[thr, no]] [(q13, objC thr), (q12, objC no), (q + 1, objS sq), (q, objS sp)] []) := g13h
    clear g13h
    refine (drop_has 0 51 [[thr, no]] k13.out (by obtain rfl : dCp = decCp := Subsingleton.elim _ _; obtain rfl : dLim = decLim := Subsingleton.elim _ _; obtain rfl : dBad = decBad := Subsingleton.elim _ _; obtain rfl : dFit = decFit := Subsingleton.elim _ _; obtain rfl : dFine = decFine := Subsingleton.elim _ _; obtain rfl : dMint = decMint := Subsingleton.elim _ _; obtain rfl : dWho = decWho := Subsingleton.elim _ _; obtain rfl : dSl = decSl := Subsingleton.elim _ _; obtain rfl : dLt = decLt := Subsingleton.elim _ _; kernel_rfl) (by obtain rfl : dCp = decCp := Subsingleton.elim _ _; obtain rfl : dLim = decLim := Subsingleton.elim _ _; obtain rfl : dBad = decBad := Subsingleton.elim _ _; obtain rfl : dFit = decFit := Subsingleton.elim _ _; obtain rfl : dFine = decFine := Subsingleton.elim _ _; obtain rfl : dMint = decMint := Subsingleton.elim _ _; obtain rfl : dWho = decWho := Subsingleton.elim _ _; obtain rfl : dSl = decSl := Subsingleton.elim _ _; obtain rfl : dLt = decLt := Subsingleton.elim _ _; kernel_rfl)).mono ?_
    rintro e w14 ⟨rfl, h14⟩
    clear k13
    have h14h : Hid (Has w r w14 p F2 [[thr, no]] [(q13, objC thr), (q12, objC no), (q + 1, objS sq), (q, objS sp)] []) := h14
    clear h14
    obtain ⟨a0, b0⟩ := (h14h.out.atS (q := q) (s := sp) (by simp)).cells
    obtain ⟨a1, b1⟩ := (h14h.out.atS (q := q + 1) (s := sq) (by simp)).cells
    simp only [sp, sq] at a0 b0 a1 b1
    go_wp2_with fail
    refine (swap_has sp sq 0 [[no, thr]] h14h.out sp_fits sq_fits (by obtain rfl : dCp = decCp := Subsingleton.elim _ _; obtain rfl : dLim = decLim := Subsingleton.elim _ _; obtain rfl : dBad = decBad := Subsingleton.elim _ _; obtain rfl : dFit = decFit := Subsingleton.elim _ _; obtain rfl : dFine = decFine := Subsingleton.elim _ _; obtain rfl : dMint = decMint := Subsingleton.elim _ _; obtain rfl : dWho = decWho := Subsingleton.elim _ _; obtain rfl : dSl = decSl := Subsingleton.elim _ _; obtain rfl : dLt = decLt := Subsingleton.elim _ _; kernel_rfl) (by obtain rfl : dCp = decCp := Subsingleton.elim _ _; obtain rfl : dLim = decLim := Subsingleton.elim _ _; obtain rfl : dBad = decBad := Subsingleton.elim _ _; obtain rfl : dFit = decFit := Subsingleton.elim _ _; obtain rfl : dFine = decFine := Subsingleton.elim _ _; obtain rfl : dMint = decMint := Subsingleton.elim _ _; obtain rfl : dWho = decWho := Subsingleton.elim _ _; obtain rfl : dSl = decSl := Subsingleton.elim _ _; obtain rfl : dLt = decLt := Subsingleton.elim _ _; kernel_rfl)).mono ?_
    rintro e w15 ⟨rfl, h15⟩
    clear a0 b0 a1 b1
    clear h14h
    have h15h : Hid (Has w r w15 p F2 [[no, thr]] [(q13, objC thr), (q12, objC no), (q + 1, objS sq), (q, objS sp)] []) := h15
    clear h15
    obtain ⟨a0, b0⟩ := (h15h.out.atS (q := q) (s := sp) (by simp)).cells
    simp only [sp] at a0 b0
    go_wp2_with fail
    refine (take_has sp thr 0 [[no, no]] h15h.out sp_fits (by obtain rfl : dCp = decCp := Subsingleton.elim _ _; obtain rfl : dLim = decLim := Subsingleton.elim _ _; obtain rfl : dBad = decBad := Subsingleton.elim _ _; obtain rfl : dFit = decFit := Subsingleton.elim _ _; obtain rfl : dFine = decFine := Subsingleton.elim _ _; obtain rfl : dMint = decMint := Subsingleton.elim _ _; obtain rfl : dWho = decWho := Subsingleton.elim _ _; obtain rfl : dSl = decSl := Subsingleton.elim _ _; obtain rfl : dLt = decLt := Subsingleton.elim _ _; kernel_rfl) (by obtain rfl : dCp = decCp := Subsingleton.elim _ _; obtain rfl : dLim = decLim := Subsingleton.elim _ _; obtain rfl : dBad = decBad := Subsingleton.elim _ _; obtain rfl : dFit = decFit := Subsingleton.elim _ _; obtain rfl : dFine = decFine := Subsingleton.elim _ _; obtain rfl : dMint = decMint := Subsingleton.elim _ _; obtain rfl : dWho = decWho := Subsingleton.elim _ _; obtain rfl : dSl = decSl := Subsingleton.elim _ _; obtain rfl : dLt = decLt := Subsingleton.elim _ _; kernel_rfl) (by obtain rfl : dCp = decCp := Subsingleton.elim _ _; obtain rfl : dLim = decLim := Subsingleton.elim _ _; obtain rfl : dBad = decBad := Subsingleton.elim _ _; obtain rfl : dFit = decFit := Subsingleton.elim _ _; obtain rfl : dFine = decFine := Subsingleton.elim _ _; obtain rfl : dMint = decMint := Subsingleton.elim _ _; obtain rfl : dWho = decWho := Subsingleton.elim _ _; obtain rfl : dSl = decSl := Subsingleton.elim _ _; obtain rfl : dLt = decLt := Subsingleton.elim _ _; kernel_rfl)).mono ?_
    rintro e w16 ⟨he, h16⟩
    obtain rfl : e = .returned (.tuple #[.agg #[.int .i64 3, .int .i64 1, .int .i64 7, .int .u64 0, .int .u64 0, .int .i64 0], .int .i64 0]) := he
    clear a0 b0
    clear h15h
    have h16h : Hid (Has w r w16 p F2 [[no, no]] [(q13, objC thr), (q12, objC no), (q + 1, objS sq), (q, objS sp)] []) := h16
    clear h16
    have g16 := h16h.out.alloc (objC thr)
    clear h16h
    have g16h : Hid (Has w r (w16.alloc (objC thr)) p F2 [[no, no]] [(w16.heap.size, objC thr), (q13, objC thr), (q12, objC no), (q + 1, objS sq), (q, objS sp)] []) := g16
    clear g16
    obtain ⟨a0, b0⟩ := (g16h.out.atS (q := q) (s := sp) (by simp)).cells
    simp only [sp] at a0 b0
    simp only [objC, thr] at g16h a0 b0
    go_wp2_with fail
    generalize w16.alloc (Obj.cells #[.int .i64 3, .int .i64 1, .int .i64 7, .int .u64 0, .int .u64 0, .int .i64 0] 33) = v16 at *
    generalize w16.heap.size = q16 at *
    have k16 : Hid (Has w r v16 p F2 [[no, no]] [(q16, objC thr), (q13, objC thr), (q12, objC no), (q + 1, objS sq), (q, objS sp)] []) := g16h
    clear g16h
    refine (take_has sp no 52 [[no, no]] k16.out sp_fits (by obtain rfl : dCp = decCp := Subsingleton.elim _ _; obtain rfl : dLim = decLim := Subsingleton.elim _ _; obtain rfl : dBad = decBad := Subsingleton.elim _ _; obtain rfl : dFit = decFit := Subsingleton.elim _ _; obtain rfl : dFine = decFine := Subsingleton.elim _ _; obtain rfl : dMint = decMint := Subsingleton.elim _ _; obtain rfl : dWho = decWho := Subsingleton.elim _ _; obtain rfl : dSl = decSl := Subsingleton.elim _ _; obtain rfl : dLt = decLt := Subsingleton.elim _ _; kernel_rfl) (by obtain rfl : dCp = decCp := Subsingleton.elim _ _; obtain rfl : dLim = decLim := Subsingleton.elim _ _; obtain rfl : dBad = decBad := Subsingleton.elim _ _; obtain rfl : dFit = decFit := Subsingleton.elim _ _; obtain rfl : dFine = decFine := Subsingleton.elim _ _; obtain rfl : dMint = decMint := Subsingleton.elim _ _; obtain rfl : dWho = decWho := Subsingleton.elim _ _; obtain rfl : dSl = decSl := Subsingleton.elim _ _; obtain rfl : dLt = decLt := Subsingleton.elim _ _; kernel_rfl) (by obtain rfl : dCp = decCp := Subsingleton.elim _ _; obtain rfl : dLim = decLim := Subsingleton.elim _ _; obtain rfl : dBad = decBad := Subsingleton.elim _ _; obtain rfl : dFit = decFit := Subsingleton.elim _ _; obtain rfl : dFine = decFine := Subsingleton.elim _ _; obtain rfl : dMint = decMint := Subsingleton.elim _ _; obtain rfl : dWho = decWho := Subsingleton.elim _ _; obtain rfl : dSl = decSl := Subsingleton.elim _ _; obtain rfl : dLt = decLt := Subsingleton.elim _ _; kernel_rfl)).mono ?_
    rintro e w17 ⟨he, h17⟩
    obtain rfl : e = .returned (.tuple #[.agg #[.int .i64 0, .int .i64 0, .int .i64 0, .int .u64 0, .int .u64 0, .int .i64 0], .int .i64 52]) := he
    clear a0 b0
    clear k16
    have h17h : Hid (Has w r w17 p F2 [[no, no]] [(q16, objC thr), (q13, objC thr), (q12, objC no), (q + 1, objS sq), (q, objS sp)] []) := h17
    clear h17
    have g17 := h17h.out.alloc (objC no)
    clear h17h
    have g17h : Hid (Has w r (w17.alloc (objC no)) p F2 [[no, no]] [(w17.heap.size, objC no), (q16, objC thr), (q13, objC thr), (q12, objC no), (q + 1, objS sq), (q, objS sp)] []) := g17
    clear g17
    simp only [objC, no] at g17h
    go_wp2_with fail
    generalize w17.alloc (Obj.cells #[.int .i64 0, .int .i64 0, .int .i64 0, .int .u64 0, .int .u64 0, .int .i64 0] 33) = v17 at *
    generalize w17.heap.size = q17 at *
    have k17 : Hid (Has w r v17 p F2 [[no, no]] [(q17, objC no), (q16, objC thr), (q13, objC thr), (q12, objC no), (q + 1, objS sq), (q, objS sp)] []) := g17h
    clear g17h
    refine (drop_has 0 0 [[]] k17.out (by obtain rfl : dCp = decCp := Subsingleton.elim _ _; obtain rfl : dLim = decLim := Subsingleton.elim _ _; obtain rfl : dBad = decBad := Subsingleton.elim _ _; obtain rfl : dFit = decFit := Subsingleton.elim _ _; obtain rfl : dFine = decFine := Subsingleton.elim _ _; obtain rfl : dMint = decMint := Subsingleton.elim _ _; obtain rfl : dWho = decWho := Subsingleton.elim _ _; obtain rfl : dSl = decSl := Subsingleton.elim _ _; obtain rfl : dLt = decLt := Subsingleton.elim _ _; kernel_rfl) (by obtain rfl : dCp = decCp := Subsingleton.elim _ _; obtain rfl : dLim = decLim := Subsingleton.elim _ _; obtain rfl : dBad = decBad := Subsingleton.elim _ _; obtain rfl : dFit = decFit := Subsingleton.elim _ _; obtain rfl : dFine = decFine := Subsingleton.elim _ _; obtain rfl : dMint = decMint := Subsingleton.elim _ _; obtain rfl : dWho = decWho := Subsingleton.elim _ _; obtain rfl : dSl = decSl := Subsingleton.elim _ _; obtain rfl : dLt = decLt := Subsingleton.elim _ _; kernel_rfl)).mono ?_
    rintro e w18 ⟨rfl, h18⟩
    clear k17
    have h18h : Hid (Has w r w18 p F2 [[]] [(q17, objC no), (q16, objC thr), (q13, objC thr), (q12, objC no), (q + 1, objS sq), (q, objS sp)] []) := h18
    clear h18
    obtain ⟨a0, b0⟩ := (h18h.out.atS (q := q + 1) (s := sq) (by simp)).cells
    simp only [sq] at a0 b0
    go_wp2_with fail
    refine (get_has sq no 50 h18h.out sq_fits (by obtain rfl : dCp = decCp := Subsingleton.elim _ _; obtain rfl : dLim = decLim := Subsingleton.elim _ _; obtain rfl : dBad = decBad := Subsingleton.elim _ _; obtain rfl : dFit = decFit := Subsingleton.elim _ _; obtain rfl : dFine = decFine := Subsingleton.elim _ _; obtain rfl : dMint = decMint := Subsingleton.elim _ _; obtain rfl : dWho = decWho := Subsingleton.elim _ _; obtain rfl : dSl = decSl := Subsingleton.elim _ _; obtain rfl : dLt = decLt := Subsingleton.elim _ _; kernel_rfl) (by obtain rfl : dCp = decCp := Subsingleton.elim _ _; obtain rfl : dLim = decLim := Subsingleton.elim _ _; obtain rfl : dBad = decBad := Subsingleton.elim _ _; obtain rfl : dFit = decFit := Subsingleton.elim _ _; obtain rfl : dFine = decFine := Subsingleton.elim _ _; obtain rfl : dMint = decMint := Subsingleton.elim _ _; obtain rfl : dWho = decWho := Subsingleton.elim _ _; obtain rfl : dSl = decSl := Subsingleton.elim _ _; obtain rfl : dLt = decLt := Subsingleton.elim _ _; kernel_rfl)).mono ?_
    rintro e w19 ⟨he, h19⟩
    obtain rfl : e = .returned (.tuple #[.agg #[.int .i64 0, .int .i64 0, .int .i64 0, .int .u64 0, .int .u64 0, .int .i64 0], .int .i64 50]) := he
    clear a0 b0
    clear h18h
    have h19h : Hid (Has w r w19 p F2 [[]] [(q17, objC no), (q16, objC thr), (q13, objC thr), (q12, objC no), (q + 1, objS sq), (q, objS sp)] []) := h19
    clear h19
    have g19 := h19h.out.alloc (objC no)
    clear h19h
    have g19h : Hid (Has w r (w19.alloc (objC no)) p F2 [[]] [(w19.heap.size, objC no), (q17, objC no), (q16, objC thr), (q13, objC thr), (q12, objC no), (q + 1, objS sq), (q, objS sp)] []) := g19
    clear g19
    simp only [objC, no] at g19h
    go_wp2_with fail
    generalize w19.alloc (Obj.cells #[.int .i64 0, .int .i64 0, .int .i64 0, .int .u64 0, .int .u64 0, .int .i64 0] 33) = v19 at *
    generalize w19.heap.size = q19 at *
    have k19 : Hid (Has w r v19 p F2 [[]] [(q19, objC no), (q17, objC no), (q16, objC thr), (q13, objC thr), (q12, objC no), (q + 1, objS sq), (q, objS sp)] []) := g19h
    clear g19h
    refine (size_has 0 0 false k19.out (by obtain rfl : dCp = decCp := Subsingleton.elim _ _; obtain rfl : dLim = decLim := Subsingleton.elim _ _; obtain rfl : dBad = decBad := Subsingleton.elim _ _; obtain rfl : dFit = decFit := Subsingleton.elim _ _; obtain rfl : dFine = decFine := Subsingleton.elim _ _; obtain rfl : dMint = decMint := Subsingleton.elim _ _; obtain rfl : dWho = decWho := Subsingleton.elim _ _; obtain rfl : dSl = decSl := Subsingleton.elim _ _; obtain rfl : dLt = decLt := Subsingleton.elim _ _; kernel_rfl) (by obtain rfl : dCp = decCp := Subsingleton.elim _ _; obtain rfl : dLim = decLim := Subsingleton.elim _ _; obtain rfl : dBad = decBad := Subsingleton.elim _ _; obtain rfl : dFit = decFit := Subsingleton.elim _ _; obtain rfl : dFine = decFine := Subsingleton.elim _ _; obtain rfl : dMint = decMint := Subsingleton.elim _ _; obtain rfl : dWho = decWho := Subsingleton.elim _ _; obtain rfl : dSl = decSl := Subsingleton.elim _ _; obtain rfl : dLt = decLt := Subsingleton.elim _ _; kernel_rfl)).mono ?_
    rintro e w20 ⟨rfl, h20⟩
    clear k19
    have h20h : Hid (Has w r w20 p F2 [[]] [(q19, objC no), (q17, objC no), (q16, objC thr), (q13, objC thr), (q12, objC no), (q + 1, objS sq), (q, objS sp)] []) := h20
    clear h20
    have L0 := (h20h.out.atC (q := q12) (c := no) (by simp)).lt
    obtain ⟨c0_0, c0_1, c0_2, c0_3, c0_4, c0_5⟩ := (h20h.out.atC (q := q12) (c := no) (by simp)).cells
    have L1 := (h20h.out.atC (q := q13) (c := thr) (by simp)).lt
    obtain ⟨c1_0, c1_1, c1_2, c1_3, c1_4, c1_5⟩ := (h20h.out.atC (q := q13) (c := thr) (by simp)).cells
    have L2 := (h20h.out.atC (q := q16) (c := thr) (by simp)).lt
    obtain ⟨c2_0, c2_1, c2_2, c2_3, c2_4, c2_5⟩ := (h20h.out.atC (q := q16) (c := thr) (by simp)).cells
    simp only [no, thr] at c0_0 c0_1 c0_2 c0_3 c0_4 c0_5 c1_0 c1_1 c1_2 c1_3 c1_4 c1_5 c2_0 c2_1 c2_2 c2_3 c2_4 c2_5
    have d0_0 := cell_grown (L0) c0_0
    have d0_1 := cell_grown (L0) c0_1
    have d0_2 := cell_grown (L0) c0_2
    have d0_3 := cell_grown (L0) c0_3
    have d0_4 := cell_grown (L0) c0_4
    have d0_5 := cell_grown (L0) c0_5
    have d1_0 := cell_grown (L1) c1_0
    have d1_1 := cell_grown (L1) c1_1
    have d1_2 := cell_grown (L1) c1_2
    have d1_3 := cell_grown (L1) c1_3
    have d1_4 := cell_grown (L1) c1_4
    have d1_5 := cell_grown (L1) c1_5
    have d2_0 := cell_grown (L2) c2_0
    have d2_1 := cell_grown (L2) c2_1
    have d2_2 := cell_grown (L2) c2_2
    have d2_3 := cell_grown (L2) c2_3
    have d2_4 := cell_grown (L2) c2_4
    have d2_5 := cell_grown (L2) c2_5
    have B : Hid (Below r w w20 ∧ r ≤ w20.heap.size) := ⟨h20h.out.low, h20h.out.size⟩
    clear h20h c0_0 c0_1 c0_2 c0_3 c0_4 c0_5 c1_0 c1_1 c1_2 c1_3 c1_4 c1_5 c2_0 c2_1 c2_2 c2_3 c2_4 c2_5
    go_wp2_with fail
    simp only [List.append_eq, List.cons_append, List.nil_append]
    go_quiet_grown ((go_at_call 13; refine Calls.grown_of (thread_grown _)))
    go_wp2
    go_ret
    exact ⟨rfl, by rw [HR.out]; exact Below.then B.out.1 (below_grown _ _ _) B.out.2⟩
end Go.Proofs.Ytkpoppgibempbaa

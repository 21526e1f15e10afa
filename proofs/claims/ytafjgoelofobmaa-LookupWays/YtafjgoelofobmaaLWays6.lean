/-
  LookupWays answers true for every input, and leaves it; no condition of ours.
-/
import Derived.Test.YtafjgoelofobmaaKCalls
import Derived.Test.YtafjgoelofobmaaKRAddr
namespace Go.Proofs.Ytafjgoelofobmaa.lookupWays
open Go.RowKit Go.Deep Go.MapKept Go.Maps
set_option linter.unusedSectionVars false
section
variable [dCp : DecidableEq Cp] [dLim : ∀ k, Decidable (Lim k)] [dBad : ∀ k, Decidable (Bad k)] [dFit : ∀ g z, Decidable (Fit g z)] [dFine : ∀ c, Decidable (Fine c)] [dMint : ∀ c v, Decidable (MintR c v)] [dWho : ∀ x y, Decidable (Whose x y)] [dSl : DecidableEq Sl] [dLt : ∀ a b, Decidable (ltS a b)] [dIsN : ∀ S c, Decidable (isN S c)] [dGuN : ∀ a c d, Decidable (GuardN a c d)]
set_option maxRecDepth 100000 in
theorem ints_le {H : Type} {enc : TypeId × Value → H} {W : World} {held : Bool} {a : Option Addr} {n c : Nat} {d : DataW H} {p : List MemPlace} (h : DataW.Trod enc Try.prog W 0 (fun _ => true) held 22 (.slice a n c) d p) : n ≤ c := by
  obtain ⟨fuel, hf⟩ := h
  rcases open_slice Try.underlying22 (show DataW.trod enc Try.prog W 0 (fun _ => true) held fuel 22 [.slice a n c] = some (d, p) from hf) with ⟨hcs, _⟩ | ⟨x, len, cap, m, n', D, Pl, hcs, _, hl, hm, hmm, _, hx⟩
  · simp only [List.cons.injEq, Value.slice.injEq, and_true] at hcs
    omega
  · simp only [List.cons.injEq, Value.slice.injEq, and_true] at hcs
    omega
theorem ints_take {w : World} {ao : Option Addr} {L : List Int} (h : Ints w ao L) (n : Nat) : Ints w ao (L.take n) := fun k x hx => by
  rw [List.getElem?_take] at hx
  split at hx
  · exact h k x hx
  · cases hx
set_option maxHeartbeats 8000000 in
set_option maxRecDepth 100000 in
theorem walk (ao : Option Addr) (B : List Int) (cap : Nat) (ho : Option Addr) (H : List (Sl × Cp)) (cap2 : Nat) (c : Cp) (wo : Option Addr) (L : List Int) (wc : Nat) (w : World) (hb : Bd w ao B ho H) (hc : c.Fits) (hL : Ints w wo L) (_hl : L.length ≤ 9223372036854775807) (hu : L.length ≤ wc) :
    Calls Try.prog 4 #[encB ao B.length cap ho H.length cap2, encC c, .slice wo L.length wc] w fun e w' => e = .returned (.bool true) ∧ Below w.heap.size w w' := by
  have HX : Hid (c.Fits ∧ Ints w wo (L.take 20) ∧ L.length ≤ wc) := ⟨hc, ints_take hL 20, hu⟩
  clear hc hL hu
  obtain ⟨r, HR⟩ : ∃ r, Hid (w.heap.size = r) := ⟨_, rfl⟩
  obtain ⟨x1, x2, _, xb⟩ := box2 w (objB ao B.length cap ho H.length cap2) (objC c)
  have BD : Hid (Ints ((w.alloc (objB ao B.length cap ho H.length cap2)).alloc (objC c)) ao B ∧ Helds ((w.alloc (objB ao B.length cap ho H.length cap2)).alloc (objC c)) ho H ∧ B.length ≤ 9223372036854775807 ∧ H.length ≤ 9223372036854775807) := ⟨hb.ints.below xb (Nat.le_refl _), hb.helds.below xb (Nat.le_refl _), hb.lb, hb.lh⟩
  obtain ⟨y0, y1⟩ := bld_cells x1
  have Y : Hid (Below w.heap.size w ((w.alloc (objB ao B.length cap ho H.length cap2)).alloc (objC c)) ∧ ((w.alloc (objB ao B.length cap ho H.length cap2)).alloc (objC c)).heap[w.heap.size + 1]? = some (objC c)) := ⟨xb, x2⟩
  clear xb x1 x2 hb
  simp only [encB, objB, encC, objC] at BD Y y0 y1 ⊢
  go_enter Try.func4, Try.ntmps4
  go_wp2_with fail
  refine (built_any ao B cap ho H cap2 _ BD.out.1 BD.out.2.1 BD.out.2.2.1 BD.out.2.2.2).mono ?_
  rintro e w1 ⟨p, F, p2, F2, rfl, h1⟩
  have H1 : Hid (Bk w w.heap.size w1 p F p2 F2 (builtS B H) (builtS B H) [(w.heap.size + 1, objC c)]) := h1.rebase Y.out.1 Y.out.1.size fun z hz => by
    rcases List.mem_cons.1 hz with rfl | hz
    · exact Y.out.2
    · cases hz
  clear h1 Y y0 y1 BD
  obtain ⟨T, HT⟩ : ∃ T, Hid (builtS B H = T) := ⟨_, rfl⟩
  rw [HT.out] at H1
  generalize w.heap.size + 1 = r1 at *
  rw [HR.out] at H1 ⊢
  obtain ⟨ra, rx, re, HV⟩ : ∃ ra rx re, Hid (wayR T c (L.take 20) = (ra, rx, re)) := ⟨_, _, _, rfl⟩
  obtain ⟨k0, k1, k2, k3, k4, k5⟩ := (H1.out.atC (q := r1) (c := c) (by simp)).cells
  have NB : Hid (∀ W, Bk w r W p F p2 F2 T T [(r1, objC c)] → ∀ b o, wo = some ⟨b, o, none⟩ → L.take 20 ≠ [] → ¬ F2 b) := fun W hW b o e hne hF => by
    have := hW.own2 b hF
    cases hk : L.take 20 with
    | nil => exact hne hk
    | cons x l =>
      obtain ⟨_, b', o', e', hb', _⟩ := HX.out.2.1 0 x (by rw [hk]; rfl)
      rw [e] at e'
      cases e'
      have := HR.out
      omega
  rcases Nat.lt_or_ge 20 L.length with h20 | h20
  · have hln : (L.take 20).length = 20 := by rw [List.length_take]; omega
    have hwc : (20 : Int) ≤ (wc : Int) := by have := HX.out.2.2; omega
    have h20' : (20 : Int) < (L.length : Int) := by omega
    have AC : Hid (∀ W, Bk w r W p F p2 F2 T T [(r1, objC c)] → Calls Try.prog 18 #[.pointer (some ⟨p, 0, none⟩), .agg #[.int .i64 c.k, .int .i64 c.o, .int .i64 c.r, .int .u64 c.b, .int .u64 c.g, .int .i64 c.z], .slice wo 20 wc] W fun e w' => e = .returned (.tuple #[.int .u64 ra, .int .i64 rx, .int .i64 re]) ∧ Below W.heap.size W w') := fun W hW => by
      have h := addr_any p F T c wo (L.take 20) wc W hW.nds HX.out.1 (HX.out.2.1.below hW.low (by rw [HR.out]; exact Nat.le_refl _)) (by rw [List.length_take]; omega)
      rw [HV.out, hln] at h
      exact h
    have RC : Hid (∀ W, Bk w r W p F p2 F2 T T [(r1, objC c)] → Calls Try.prog 19 #[.pointer (some ⟨p2, 0, none⟩), .agg #[.int .i64 c.k, .int .i64 c.o, .int .i64 c.r, .int .u64 c.b, .int .u64 c.g, .int .i64 c.z], .slice wo 20 wc] W fun e w' => e = .returned (.tuple #[.int .u64 ra, .int .i64 rx, .int .i64 re]) ∧ RLeaves W p2 F2 T w') := fun W hW => by
      have h := raddr_any p2 F2 T c wo (L.take 20) wc W hW.rds HX.out.1 (HX.out.2.1.below hW.low (by rw [HR.out]; exact Nat.le_refl _)) (by rw [List.length_take]; omega) (NB.out W hW)
      rw [HV.out, hln] at h
      exact h
    clear hln
    go_wp2_with fail
    refine (AC.out _ H1.out).mono ?_
    rintro e w2 ⟨rfl, b2⟩
    have K2 : Hid (Bk w r w2 p F p2 F2 T T [(r1, objC c)]) := H1.out.below b2
    clear b2 H1 k0 k1 k2 k3 k4 k5
    obtain ⟨k0, k1, k2, k3, k4, k5⟩ := (K2.out.atC (q := r1) (c := c) (by simp)).cells
    go_wp2_with fail
    refine (RC.out _ K2.out).mono ?_
    rintro e w3 ⟨rfl, b3⟩
    have K3 : Hid (Bk w r w3 p F p2 F2 T T [(r1, objC c)]) := K2.out.rleaves b3
    clear b3 K2 k0 k1 k2 k3 k4 k5
    have h1 : (ra == ra) = true := by simp
    have h2 : (rx == rx) = true := by simp
    have h3 : (re == re) = true := by simp
    go_wp2_with fail
    refine (fixed_any _).mono ?_
    rintro e w9 ⟨rfl, b9⟩
    have KL : Hid (Below r w w9) := (K3.out.below b9).low
    clear b9 K3
    go_wp2
    go_ret
    exact ⟨rfl, by rw [HR.out]; exact KL.out⟩
  · have hln : (L.take 20).length = L.length := by rw [List.length_take]; omega
    have hwc : (L.length : Int) ≤ (wc : Int) := by have := HX.out.2.2; omega
    have h20' : (L.length : Int) ≤ 20 := by omega
    have AC : Hid (∀ W, Bk w r W p F p2 F2 T T [(r1, objC c)] → Calls Try.prog 18 #[.pointer (some ⟨p, 0, none⟩), .agg #[.int .i64 c.k, .int .i64 c.o, .int .i64 c.r, .int .u64 c.b, .int .u64 c.g, .int .i64 c.z], .slice wo L.length wc] W fun e w' => e = .returned (.tuple #[.int .u64 ra, .int .i64 rx, .int .i64 re]) ∧ Below W.heap.size W w') := fun W hW => by
      have h := addr_any p F T c wo (L.take 20) wc W hW.nds HX.out.1 (HX.out.2.1.below hW.low (by rw [HR.out]; exact Nat.le_refl _)) (by rw [List.length_take]; omega)
      rw [HV.out, hln] at h
      exact h
    have RC : Hid (∀ W, Bk w r W p F p2 F2 T T [(r1, objC c)] → Calls Try.prog 19 #[.pointer (some ⟨p2, 0, none⟩), .agg #[.int .i64 c.k, .int .i64 c.o, .int .i64 c.r, .int .u64 c.b, .int .u64 c.g, .int .i64 c.z], .slice wo L.length wc] W fun e w' => e = .returned (.tuple #[.int .u64 ra, .int .i64 rx, .int .i64 re]) ∧ RLeaves W p2 F2 T w') := fun W hW => by
      have h := raddr_any p2 F2 T c wo (L.take 20) wc W hW.rds HX.out.1 (HX.out.2.1.below hW.low (by rw [HR.out]; exact Nat.le_refl _)) (by rw [List.length_take]; omega) (NB.out W hW)
      rw [HV.out, hln] at h
      exact h
    clear hln
    go_wp2_with fail
    refine (AC.out _ H1.out).mono ?_
    rintro e w2 ⟨rfl, b2⟩
    have K2 : Hid (Bk w r w2 p F p2 F2 T T [(r1, objC c)]) := H1.out.below b2
    clear b2 H1 k0 k1 k2 k3 k4 k5
    obtain ⟨k0, k1, k2, k3, k4, k5⟩ := (K2.out.atC (q := r1) (c := c) (by simp)).cells
    go_wp2_with fail
    refine (RC.out _ K2.out).mono ?_
    rintro e w3 ⟨rfl, b3⟩
    have K3 : Hid (Bk w r w3 p F p2 F2 T T [(r1, objC c)]) := K2.out.rleaves b3
    clear b3 K2 k0 k1 k2 k3 k4 k5
    have h1 : (ra == ra) = true := by simp
    have h2 : (rx == rx) = true := by simp
    have h3 : (re == re) = true := by simp
    go_wp2_with fail
    refine (fixed_any _).mono ?_
    rintro e w9 ⟨rfl, b9⟩
    have KL : Hid (Below r w w9) := (K3.out.below b9).low
    clear b9 K3
    go_wp2
    go_ret
    exact ⟨rfl, by rw [HR.out]; exact KL.out⟩
end
open Go.ChangeShapes Go.WideShapes Go.ChangeAt Go.RowKit Go.Joins

/-! ### From the walk to the statement -/
set_option maxRecDepth 100000 in
theorem lifted (os : Os) (started : os.Started) (H : Type) (enc : TypeId × Value → H) :
    ReturnsInHanded {} Try.checked os 4 .any (Rows.lookupWaysSpec.pre6 enc Try.prog Try.f4 Rows.lookupWaysRow.domain false) (Rows.lookupWaysSpec.post enc Try.prog Try.f4 false true false false) := by
  have dCp : DecidableEq Cp := fun a b => Classical.propDecidable (a = b)
  have dLim : ∀ k, Decidable (Lim k) := fun k => Classical.propDecidable (Lim k)
  have dBad : ∀ k, Decidable (Bad k) := fun k => Classical.propDecidable (Bad k)
  have dFit : ∀ g z, Decidable (Fit g z) := fun g z => Classical.propDecidable (Fit g z)
  have dFine : ∀ c, Decidable (Fine c) := fun c => Classical.propDecidable (Fine c)
  have dMint : ∀ c v, Decidable (MintR c v) := fun c v => Classical.propDecidable (MintR c v)
  have dWho : ∀ x y, Decidable (Whose x y) := fun x y => Classical.propDecidable (Whose x y)
  have dSl : DecidableEq Sl := fun a b => Classical.propDecidable (a = b)
  have dLt : ∀ a b, Decidable (ltS a b) := fun a b => Classical.propDecidable (ltS a b)
  have dIsN : ∀ S c, Decidable (isN S c) := fun S c => Classical.propDecidable (isN S c)
  have dGuN : ∀ a c d, Decidable (GuardN a c d) := fun a c d => Classical.propDecidable (GuardN a c d)
  refine returnsInHanded_of_change (C := Try.checked) own started (by kernel_rfl) Try.func4
    (ChangeSpec.witness6 (enc := enc) (C := Try.checked) false ⟨#[], #[.agg #[.slice none 0 0, .slice none 0 0], .agg #[.int .i64 0, .int .i64 0, .int .i64 0, .int .u64 0, .int .u64 0, .int .i64 0], .slice none 0 0], []⟩ 8 (by kernel_rfl) (by kernel_rfl) (by kernel_rfl) (by kernel_rfl)) ?_
  intro W base args ds gs before hval0 hW hcnd _
  have hval : ∀ (j : Nat) t v, Try.f4.params[j]? = some t → args[j]? = some v → Value.okWide Try.prog W .any base t v := hval0
  have hW' := hW
  obtain ⟨p, q, hA0, hV, rfl, hfz, hnd⟩ := hW
  have hA : DataW.TrodAll enc Try.prog W 0 (fun _ => true) true Try.f4.params.toList args.toList ds p := hA0
  rw [Try.params4] at hA hval
  obtain ⟨v0, vs0, d0, ds0, p0, q0, hargs, rfl, rfl, h0, r0⟩ := trodAll_cons hA
  obtain ⟨v1, vs1, d1, ds1, p1, q1, rfl, rfl, rfl, h1, r1⟩ := trodAll_cons r0
  obtain ⟨v2, vs2, d2, ds2, p2, q2, rfl, rfl, rfl, h2, r2⟩ := trodAll_cons r1
  obtain ⟨rfl, rfl, rfl⟩ := trodAll_nil r2
  obtain rfl : args = #[v0, v1, v2] := by cases args; simp_all
  obtain ⟨rfl, rfl⟩ := trodVars_none hV
  have k0 := h0
  have lt0 : ∀ x ∈ p0, x.block < W.heap.size := by obtain ⟨m, hm⟩ := k0; exact DataW.trod_lt m _ _ _ hm
  obtain ⟨a0, l0, c0, g0, m0, e0, rfl, w0⟩ := open_build (hval 0 25 v0 rfl rfl) h0
  have k1 := h1
  have lt1 : ∀ x ∈ p1, x.block < W.heap.size := by obtain ⟨m, hm⟩ := k1; exact DataW.trod_lt m _ _ _ hm
  obtain ⟨a1, rfl, w1⟩ := open_cap (hval 1 28 v1 rfl rfl) h1
  have k2 := h2
  have lt2 : ∀ x ∈ p2, x.block < W.heap.size := by obtain ⟨m, hm⟩ := k2; exact DataW.trod_lt m _ _ _ hm
  obtain ⟨a2, l2, c2, rfl, t2, s2⟩ := open_ints (hval 2 22 v2 rfl rfl) h2
  have u2 := ints_le h2
  clear hA0 hval0
  refine (walk a0 l0 c0 g0 m0 e0 a1 a2 l2 c2 W w0 w1 t2 s2 u2).mono fun e W' ⟨he, bel⟩ => ?_
  subst he
  exact ⟨_, rfl, _, _, _, [], _, [], hW', trodAll_mk1 (shut_bool Try.underlying4 _), (trodAll_cons_mk (Below.trod laidOut (by kernel_rfl) (of_decide_eq_true (by kernel_rfl)) k0 bel lt0) (trodAll_cons_mk (Below.trod laidOut (by kernel_rfl) (of_decide_eq_true (by kernel_rfl)) k1 bel lt1) (trodAll_cons_mk (Below.trod laidOut (by kernel_rfl) (of_decide_eq_true (by kernel_rfl)) k2 bel lt2) trodAll_mk0))), rfl, bel.frame _, fun h => by cases h⟩
theorem over : Rows.lookupWaysRow.holds Try.pinned (OpenSpec.ofChange Rows.lookupWaysSpec) :=
  OpenClaim.holds_of_wide 4 Try.f4 rfl rfl rfl rfl rfl rfl rfl ⟨rfl, rfl, rfl, rfl, rfl⟩ rfl rfl rfl rfl rfl (by kernel_rfl) Try.func4 (by kernel_rfl)
    (of_decide_eq_true (by kernel_rfl)) (by unfold Func.isWrapper; first | (rw [if_pos (by decide +kernel)]; kernel_rfl) | (rw [if_neg (by decide +kernel)]; exact ⟨rfl, rfl⟩))
    (fun os started H enc _ => lifted os started H enc)
end Go.Proofs.Ytafjgoelofobmaa.lookupWays
namespace Go.Proofs.Ytafjgoelofobmaa
/-- THE STATEMENT. -/
theorem lookupWays_said : Rows.LookupWaysSaid := lookupWays.over
#print axioms lookupWays_said
end Go.Proofs.Ytafjgoelofobmaa

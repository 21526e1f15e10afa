/-
  What Get of package threads answers; no condition but that all is right ahead.
-/
import Derived.Test.YtchamgecalfmpaaDoorHRuns
import Derived.Test.YtchamgecalfmpaaDoorHMeth
namespace Go.Proofs.YtchamgecalfmpaaDoor
open Go.RowKit Go.Deep Go.Shelf

def put12 (w : World) (q o : Nat) (x : Td) : World := (((((((((((w.setCell ⟨q, o, none⟩ (.int .i64 x.st)).setCell ⟨q, o + 1, none⟩ (.int .i64 x.p)).setCell ⟨q, o + 2, none⟩ (.int .i64 x.c)).setCell ⟨q, o + 3, none⟩ (.int .i64 x.l)).setCell ⟨q, o + 4, none⟩ (.int .u64 (rg x 0))).setCell ⟨q, o + 5, none⟩ (.int .u64 (rg x 1))).setCell ⟨q, o + 6, none⟩ (.int .u64 (rg x 2))).setCell ⟨q, o + 7, none⟩ (.int .u64 (rg x 3))).setCell ⟨q, o + 8, none⟩ (.int .u64 (rg x 4))).setCell ⟨q, o + 9, none⟩ (.int .u64 (rg x 5))).setCell ⟨q, o + 10, none⟩ (.int .u64 (rg x 6))).setCell ⟨q, o + 11, none⟩ (.int .u64 (rg x 7))
theorem turn_put12 (F : Nat → Prop) (w : World) (q o : Nat) (x : Td) (h : F q) : Turn F w (put12 w q o x) := by
  unfold put12
  have st : ∀ {a b : World} (k : Turn F a b) (o : Nat) (v : Value), Turn F a (b.setCell ⟨q, o, none⟩ v) := fun k o v => k.trans (Turn.setCell F _ ⟨q, o, none⟩ v h) fun x hx => .inl hx
  exact st (st (st (st (st (st (st (st (st (st (st (st (Turn.refl F w) _ _) _ _) _ _) _ _) _ _) _ _) _ _) _ _) _ _) _ _) _ _) _ _
theorem put12_below {r q : Nat} {w w' : World} (b : Below r w w') (hq : r ≤ q) (hr : r ≤ w'.heap.size) (o : Nat) (x : Td) : Below r w (put12 w' q o x) :=
  (turn_put12 (fun k => k = q) w' q o x rfl).below b (fun k hk => by rw [hk]; exact hq) hr
theorem frozen12 {w : World} {q : Nat} {x : Td} (h : w.heap[q]? = some (objT x)) (j : Nat) : w.frozen? ⟨q, j, none⟩ = false := by
  unfold objT at h
  simp [World.frozen?, h]
theorem at12_of {w : World} {q : Nat} {x : Td} (h : w.heap[q]? = some (objT x)) : At12 w q 0 x := fun j c hj => by
  simp only [World.cell?]
  rw [h, Nat.zero_add]
  simpa [cT, objT] using hj
section
variable {w0 w : World} {F : Nat → Prop} {p : Nat} {v u : Value} {qs : List Nat} {h : Hs}
set_option maxHeartbeats 4000000 in
theorem get_any (t : At qkP w0 F p v u qs h w) (i : Int) :
    Calls Tryd.prog 16 #[ptr p, .int .i64 i] w fun e w' => e = .returned (.tuple #[encT (getT h i), .int .i64 (getE h i)]) ∧ Below w.heap.size w w' := by
  have hmf : ∀ (fn : Fn) (first cap : Array Value) (w : World), (Instr.makeFunc fn first cap).run Tryd.prog w = .ok (.func fn first cap) w := fun _ _ _ _ => rfl
  obtain ⟨ao, cap, rfl, hg⟩ := t.slice
  have B0 := hid (below_new w (objT td0))
  have Z0 := hid (blk_alloc_new w (objT td0))
  have T1 := hid (t.below B0.out)
  have HG := hid hg
  clear t hg
  have hobj : objT td0 = .cells #[.int .i64 0, .int .i64 0, .int .i64 0, .int .i64 0, .int .u64 0, .int .u64 0, .int .u64 0, .int .u64 0, .int .u64 0, .int .u64 0, .int .u64 0, .int .u64 0] 46 := rfl
  rcases isT_cases h i with ⟨j, rfl, hj, hT, hjn⟩ | hT
  · have HJ := hid hj
    have hE0 : inE (j : Int) (h.L.length : Int) 100 = 0 := inE_yes (by omega)
    have HR : Hid (getT h j = thr h j ∧ getE h j = 0) := ⟨by unfold getT; rw [if_pos hT, Int.toNat_natCast], by unfold getE; rw [if_pos hT]⟩
    clear hj hT hjn
    rw [hobj] at B0 Z0 T1
    go_enter Tryd.func16, Tryd.ntmps16
    go_wp2_with fail
    refine Calls.mono (there_any p j _ _ _ _ T1.out.var0) ?_
    rintro e w1 ⟨c1, rfl, k1, b1⟩
    obtain ⟨g1, l1, rfl⟩ := k1.form
    have K1 := hid k1
    have B1 := hid (Below.then B0.out b1 B0.out.size)
    have Z1 := hid ((b1.block _ (by simp)).trans Z0.out)
    have T2 := hid (T1.out.below b1)
    clear k1 b1 B0 Z0 T1
    go_wp2_with fail
    refine Calls.mono (first1 w1 _ _ K1.out) ?_
    rintro e w2 ⟨rfl, b2⟩
    have B2 := hid (Below.then B1.out b2 B1.out.size)
    have Z2 := hid ((b2.block _ (Array.getElem?_eq_some_iff.1 Z1.out).1).trans Z1.out)
    have T3 := hid (T2.out.below b2)
    clear b2 B1 Z1 T2 K1
    rw [hE0]
    have hF : firstE [0] = 0 := rfl
    rw [hF]
    obtain ⟨g, rfl⟩ := HG.out j HJ.out
    have c0 := T3.out.cell0
    obtain ⟨d0, d1, d2, d3, d4, d5, d6, d7, d8, d9, d10, d11⟩ := (T3.out.all HJ.out).cells
    have z12 : w2.heap[w.heap.size]? = some (objT td0) := Z2.out
    obtain ⟨z0, z1, z2, z3, z4, z5, z6, z7, z8, z9, z10, z11⟩ := (at12_of z12).cells
    have zf := frozen12 z12
    have HK := hid (put12_below B2.out (Nat.le_refl _) B2.out.size 0 (thr h j))
    have hjz : (j : Int) < (h.L.length : Int) := by have := HJ.out; omega
    clear T3 Z2 z12 hE0 hF hobj HG HJ B2
    unfold put12 at HK
    simp only [Nat.zero_add] at *
    generalize thr h j = x at *
    generalize hnL : h.L.length = nL at *
    generalize hr : w.heap.size = r at *
    go_wp2
    refine bodyPost_ret (v := .tuple #[encT x, .int .i64 0]) ?_ rfl ⟨by rw [HR.out.1, HR.out.2], by rw [hr]; exact HK.out⟩
    simp [results, Tryd.f16, go_sem, encT, z0, z1, z2, z3, z4, z5, z6, z7, z8, z9, z10, z11]
  · have hE0 : inE i (h.L.length : Int) 100 = 100 := inE_no hT
    have HR : Hid (getT h i = td0 ∧ getE h i = 100) := ⟨by unfold getT; rw [if_neg hT], by unfold getE; rw [if_neg hT]⟩
    clear hT
    rw [hobj] at B0 Z0 T1
    go_enter Tryd.func16, Tryd.ntmps16
    go_wp2_with fail
    refine Calls.mono (there_any p i _ _ _ _ T1.out.var0) ?_
    rintro e w1 ⟨c1, rfl, k1, b1⟩
    obtain ⟨g1, l1, rfl⟩ := k1.form
    have K1 := hid k1
    have B1 := hid (Below.then B0.out b1 B0.out.size)
    have Z1 := hid ((b1.block _ (by simp)).trans Z0.out)
    clear k1 b1 B0 Z0 T1
    go_wp2_with fail
    refine Calls.mono (first1 w1 _ _ K1.out) ?_
    rintro e w2 ⟨rfl, b2⟩
    have B2 := hid (Below.then B1.out b2 B1.out.size)
    have Z2 := hid ((b2.block _ (Array.getElem?_eq_some_iff.1 Z1.out).1).trans Z1.out)
    clear b2 B1 Z1 K1
    rw [hE0]
    have hF : firstE [100] = 100 := rfl
    rw [hF]
    have z12 : w2.heap[w.heap.size]? = some (objT td0) := Z2.out
    obtain ⟨z0, z1, z2, z3, z4, z5, z6, z7, z8, z9, z10, z11⟩ := (at12_of z12).cells
    have zf := frozen12 z12
    have HK := hid (put12_below B2.out (Nat.le_refl _) B2.out.size 0 td0)
    clear Z2 z12 hE0 hF hobj HG B2
    have hrg : ∀ k, rg td0 k = 0 := fun k => by
      unfold rg td0
      simp only [List.getD_eq_getElem?_getD, List.getElem?_replicate]
      split <;> rfl
    have HE : Hid (encT td0 = .agg #[.int .i64 0, .int .i64 0, .int .i64 0, .int .i64 0, .int .u64 0, .int .u64 0, .int .u64 0, .int .u64 0, .int .u64 0, .int .u64 0, .int .u64 0, .int .u64 0]) := rfl
    have HR1 : Hid (encT (getT h i) = encT td0 ∧ getE h i = 100) := ⟨by rw [HR.out.1], HR.out.2⟩
    rw [HE.out] at HR1
    clear HE HR
    unfold put12 at HK
    simp only [Nat.zero_add, hrg] at HK z0 z1 z2 z3 z4 z5 z6 z7 z8 z9 z10 z11
    simp only [td0] at HK z0 z1 z2 z3 z4 z5 z6 z7 z8 z9 z10 z11
    generalize hr : w.heap.size = r at *
    go_wp2
    refine bodyPost_ret (v := .tuple #[.agg #[.int .i64 0, .int .i64 0, .int .i64 0, .int .i64 0, .int .u64 0, .int .u64 0, .int .u64 0, .int .u64 0, .int .u64 0, .int .u64 0, .int .u64 0, .int .u64 0], .int .i64 100]) ?_ rfl ⟨by rw [HR1.out.1, HR1.out.2], by rw [hr]; exact HK.out⟩
    simp [results, Tryd.f16, go_sem, z0, z1, z2, z3, z4, z5, z6, z7, z8, z9, z10, z11]
end
end Go.Proofs.YtchamgecalfmpaaDoor

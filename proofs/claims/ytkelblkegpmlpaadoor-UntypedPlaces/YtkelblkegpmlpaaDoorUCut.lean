/-
  A new box, whenever it is laid: what two calls and three stores leave; no condition of ours.
-/
import Derived.Test.YtkelblkegpmlpaaDoorUSay
import Derived.Deep.CutRange
import Derived.Deep.RegionHeld3
namespace Go.Proofs.YtkelblkegpmlpaaDoor
open Go.RowKit Go.Deep
abbrev grw0 (w : World) : Inhabited (Grw w) := ⟨⟨w, Below.refl _ _⟩⟩
theorem AtU.set3 {w : World} {q : Nat} {u : Un} (h : AtU w q u) (a b c : Int) :
    AtU (((w.setCell ⟨q, 0, none⟩ (.int .u64 a)).setCell ⟨q, 1, none⟩ (.int .i64 b)).setCell ⟨q, 2, none⟩ (.int .u64 c)) q ⟨a, b, c⟩ := by
  unfold AtU objU at *
  simp only [World.setCell, Array.getElem?_modify, h, if_true, Option.map_some]
  rfl
/-- The box was laid first. -/
theorem at_first {v w : World} {z : Obj} (b : Below (v.drew.alloc z).heap.size (v.drew.alloc z) w) : Below v.heap.size v w ∧ w.heap[v.heap.size]? = some z := by
  have b1 : Below v.heap.size v v.drew := ⟨rfl, rfl, rfl, Nat.le_refl _, fun _ _ => rfl⟩
  have b2 := below_new v.drew z
  refine ⟨(b1.trans b2).trans (b.mono (by rw [World.size_alloc]; exact Nat.le_succ _)), (b.block _ ?_).trans (blk_alloc_new v.drew z)⟩
  rw [World.size_alloc]
  exact Nat.lt_succ_self _
theorem at_firstd {v w : World} {z : Obj} (b : Below (v.alloc z).drew.heap.size (v.alloc z).drew w) : Below v.heap.size v w ∧ w.heap[v.heap.size]? = some z := by
  have b2 := below_new v z
  have b3 : Below (v.alloc z).heap.size (v.alloc z) w := ⟨b.os, b.tape, b.output, b.size, b.block⟩
  refine ⟨b2.trans (b3.mono (by rw [World.size_alloc]; exact Nat.le_succ _)), (b3.block _ ?_).trans (blk_alloc_new v z)⟩
  rw [World.size_alloc]
  exact Nat.lt_succ_self _
theorem at_none {v w : World} (b : Below v.drew.heap.size v.drew w) : Below v.heap.size v w := ⟨b.os, b.tape, b.output, b.size, b.block⟩
/-- The box was laid between the calls. -/
theorem at_mid {v w w' : World} {z : Obj} (h : Below v.heap.size v w) (b : Below (w.alloc z).heap.size (w.alloc z) w') : Below v.heap.size v w' ∧ w'.heap[w.heap.size]? = some z ∧ v.heap.size ≤ w.heap.size := by
  refine ⟨(h.trans ((below_new w z).mono h.size)).trans (b.mono (by have := h.size; rw [World.size_alloc]; omega)), (b.block _ ?_).trans (blk_alloc_new w z), h.size⟩
  rw [World.size_alloc]
  exact Nat.lt_succ_self _
theorem at_next {v w w' : World} {q : Nat} {z : Obj} (h : Below v.heap.size v w) (hz : w.heap[q]? = some z) (b : Below w.heap.size w w') : Below v.heap.size v w' ∧ w'.heap[q]? = some z :=
  ⟨h.trans (b.mono h.size), (b.block _ (Array.getElem?_eq_some_iff.1 hz).1).trans hz⟩
theorem at_on {v w w' : World} (h : Below v.heap.size v w) (b : Below w.heap.size w w') : Below v.heap.size v w' := h.trans (b.mono h.size)
theorem place_agg (v : Un) (k b n : Int) (w : World) (hT : Tab w) (hf : v.Fits) (hb : -9223372036854775808 ≤ b ∧ b ≤ 9223372036854775807) (hn : -9223372036854775808 ≤ n ∧ n ≤ 9223372036854775807) :
    Calls Tryd.prog 9 #[.agg #[.int .u64 v.base, .int .i64 v.bits, .int .u64 v.used], .int .i64 k, .int .i64 b, .int .i64 n] w fun e w' => ∃ ao cap, e = .returned (.tuple #[.slice ao (plL v k b n).length cap, .agg #[.int .u64 (plU v k b n).base, .int .i64 (plU v k b n).bits, .int .u64 (plU v k b n).used], .int .i64 (plE v k b n)]) ∧ Told w' ao (plL v k b n) ∧ (∀ x, ao = some x → w.heap.size ≤ x.block) ∧ Below w.heap.size w w' :=
  place_any v k b n w hT hf hb hn
theorem place_aggis (u v : Un) (k b n e : Int) (A : List Int) (w : World) (hT : Tab w) (hf : u.Fits) (hb : -9223372036854775808 ≤ b ∧ b ≤ 9223372036854775807) (hn : -9223372036854775808 ≤ n ∧ n ≤ 9223372036854775807) (h1 : plL u k b n = A) (h2 : plU u k b n = v) (h3 : plE u k b n = e) :
    Calls Tryd.prog 9 #[.agg #[.int .u64 u.base, .int .i64 u.bits, .int .u64 u.used], .int .i64 k, .int .i64 b, .int .i64 n] w fun e' w' => ∃ ao cap, e' = .returned (.tuple #[.slice ao A.length cap, .agg #[.int .u64 v.base, .int .i64 v.bits, .int .u64 v.used], .int .i64 e]) ∧ Told w' ao A ∧ (∀ x, ao = some x → w.heap.size ≤ x.block) ∧ Below w.heap.size w w' := by
  have := place_agg u k b n w hT hf hb hn
  rwa [h1, h2, h3] at this
theorem reset_agg (v : Un) (w : World) : Calls Tryd.prog 17 #[.agg #[.int .u64 v.base, .int .i64 v.bits, .int .u64 v.used]] w fun e w' => e = .returned (.agg #[.int .u64 v.base, .int .i64 v.bits, .int .u64 0]) ∧ Below w.heap.size w w' :=
  reset_any v w
theorem bw_drew (v : World) : Below v.heap.size v v.drew := ⟨rfl, rfl, rfl, Nat.le_refl _, fun _ _ => rfl⟩
theorem bw_alloc {v w : World} (h : Below v.heap.size v w) (z : Obj) : Below v.heap.size v (w.alloc z) := h.trans ((below_new w z).mono h.size)
theorem bw_ad (v : World) (z : Obj) : Below v.heap.size v (v.alloc z).drew := (below_new v z).trans ⟨rfl, rfl, rfl, Nat.le_refl _, fun _ _ => rfl⟩
theorem told_in {w : World} {ao : Option Addr} {A : List Int} {m : Nat} (hm : A.length = m) (h1 : 1 ≤ A.length) (h : Told w ao A) :
    ∃ b o, ao = some ⟨b, o, none⟩ ∧ ∀ W, Below w.heap.size w W → ∀ j, j < m → W.cell? ⟨b, o + j, none⟩ = some (.int .u64 (A.getD j 0)) := by
  rcases h with h | ⟨b, o, e, hb, hc⟩
  · subst h
    simp at h1
  · exact ⟨b, o, e, fun W hW j hj => (hW.cell (p := ⟨b, o + j, none⟩) hb).trans (hc j (by omega))⟩
section
variable {w0 : World} {r : Nat} {v w : World} {L : List (Nat × Obj)} {M : List (Option Addr × List Int)} {ao : Option Addr} {A : List Int} {q : Nat}
/-- The bundle behind the stores into the box. -/
theorem Kp.boxed3 (k : Kp w0 r v L M) (b : Below v.heap.size v w) (hz : AtU w q Un.zero) (hq : v.heap.size ≤ q) (t : Told w ao A) (hx : ∀ x, ao = some x → x.block ≠ q) (u : Un) :
    Kp w0 r (((w.setCell ⟨q, 0, none⟩ (.int .u64 u.base)).setCell ⟨q, 1, none⟩ (.int .i64 u.bits)).setCell ⟨q, 2, none⟩ (.int .u64 u.used)) ((q, objU u) :: L) ((ao, A) :: M) := by
  have g := (k.below (three_sets b hq (.int .u64 u.base) (.int .i64 u.bits) (.int .u64 u.used))).told (told_sets t hx _ _ _)
  exact ⟨g.tab, g.bel, g.one, g.size, fun x hxm => by
    rcases List.mem_cons.1 hxm with rfl | hxm
    · exact hz.set3 _ _ _
    · exact g.blk x hxm, g.tld⟩
/-- The box was laid last. -/
theorem Kp.boxed0 (k : Kp w0 r v L M) (b : Below v.heap.size v w) (t : Told w ao A) (u : Un) : Kp w0 r (w.alloc (objU u)) ((w.heap.size, objU u) :: L) ((ao, A) :: M) :=
  ((k.below b).told t).alloc (objU u)
end
end Go.Proofs.YtkelblkegpmlpaaDoor

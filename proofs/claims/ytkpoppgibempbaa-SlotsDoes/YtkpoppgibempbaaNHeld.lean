/-
  What Held of package slots answers: all that is held, in order, in a list of its own; no condition of ours.
-/
import Derived.Test.YtkpoppgibempbaaNPut
import Derived.Test.YtkpoppgibempbaaNSort
namespace Go.Proofs.Ytkpoppgibempbaa
open Go.RowKit Go.Deep Go.MapKept Go.Maps
set_option linter.unusedSectionVars false
variable [dCp : DecidableEq Cp] [dLim : ∀ k, Decidable (Lim k)] [dBad : ∀ k, Decidable (Bad k)] [dFit : ∀ g z, Decidable (Fit g z)] [dFine : ∀ c, Decidable (Fine c)] [dMint : ∀ c v, Decidable (MintR c v)] [dWho : ∀ x y, Decidable (Whose x y)] [dSl : DecidableEq Sl] [dLt : ∀ a b, Decidable (ltS a b)] [iSl : Inhabited Sl] [iCp : Inhabited Cp]

/-- append as a law for the walk, where its run is known. -/
theorem wpList_append_run {w : World} {ops : Array Oper} {rest : List Oper} {o : Oper} {a : Act} {Q : Exit → Act → World → Prop} (hgd : o.guard = none) (s x : Operand) (t : TypeId)
    (ho : o.op = .call { callee := .builtin .append, args := #[s, x], argTypes := #[t, t] }) (v y v' : Value) (w' : World) (hs : a.eval s = v) (hx : a.eval x = y)
    (hrun : (Builtin.append_ #[t, t] o.type #[v, y]).run Try.prog w = .ok v' w') (h : wpList Try.prog ops Q rest (a.put o.dst v') w') : wpList Try.prog ops Q (o :: rest) a w := by
  refine wpList_plain hgd fun K hK => ?_
  unfold Oper.wp
  simp [execOp, ho, resolve, invoke, builtin, hs, hx, hrun, Result.andThen]
  exact hK _ _ h
theorem infoH : (Try.prog.info? 50).map (fun i => (i.zero, i.size, i.bytes)) = some (some (.agg #[.int .i64 0, .int .i64 0, .int .i64 0, .int .i64 0, .int .i64 0, .int .u64 0, .int .u64 0, .int .i64 0]), 8, 64) := by kernel_rfl
theorem add_none (b o j : Nat) : (⟨b, o, none⟩ : Addr).add j = ⟨b, o + j, none⟩ := by unfold Addr.add; split <;> simp_all
/-- One more that is held. -/
theorem append_held (B : Nat) (w : World) (ty : TypeId) (v : Value) (A : List (Sl × Cp)) (x : Sl × Cp) (hown : OwnH B w v A) (hl : A.length ≤ 1000000) (hB : B ≤ w.heap.size) :
    ∃ v' w', (Builtin.append_ #[46, 46] ty #[v, .slice (some ⟨w.heap.size, 0, none⟩) 1 1]).run Try.prog (w.alloc (objH x)) = .ok v' w' ∧ OwnH B w' v' (A ++ [x]) ∧ w.grownBy w' v.ownBlock ∧ (v'.ownBlock = v.ownBlock ∨ v'.ownBlock = some (w.heap.size + 1)) := by
  obtain ⟨i, hi, hz⟩ := Option.map_eq_some_iff.1 infoH
  simp only [Prod.mk.injEq] at hz
  have h1 : (w.alloc (objH x)).ownsRow B 50 8 v A.length (flatH A) := World.ownsRow.alloc hown _
  obtain ⟨v', w', r1, r2, r3, _, r5⟩ := run_append_own_at (P := Try.prog) (w.alloc (objH x)) B 46 ty 50 i _ 8 64 Try.underlying46 hi hz.1 hz.2.1 hz.2.2 rfl (by decide) v A.length (flatH A) h1 ⟨w.heap.size, 0, none⟩ 1 1 (encH x) rfl
    (fun j u hju => by
      rw [add_none]
      have e := blk_alloc_new w (objH x)
      unfold objH at e ⊢
      simp only [World.cell?, e, Nat.zero_add]
      simpa using hju) (encH_one x) (by unfold maxLen; omega) (by omega) (by simp; omega)
  refine ⟨v', w', r1, ?_, (World.grownBy_alloc w _ _).trans r3, by simpa using r5⟩
  unfold OwnH
  rw [List.length_append, flatH_app, show flatH [x] = encH x by simp [flatH]]
  exact r2
theorem OwnH.grown {B : Nat} {w w' : World} {v : Value} {A : List (Sl × Cp)} {r : Option Nat} (h : OwnH B w v A) (g : w.grownBy w' r) (hr : ∀ k, r = some k → v.ownBlock ≠ some k) : OwnH B w' v A :=
  own_of_block h fun q hq => g.block q (World.ownsRow.lt h q hq).2 fun e => hr q e.symm hq
theorem OwnH.block_ne {B : Nat} {w : World} {v : Value} {A : List (Sl × Cp)} (h : OwnH B w v A) {k : Nat} (hk : ∀ c t f, w.heap[k]? ≠ some (.cells c t f)) : v.ownBlock ≠ some k := by
  obtain ⟨_, ⟨rfl, _⟩ | ⟨g, cap, cur, rfl, _, hg, _⟩⟩ := h
  · simp [Value.ownBlock]
  · intro e
    have : g = k := by simpa [Value.ownBlock] using e
    subst this
    exact hk _ _ _ hg
theorem Ranges.row_ne {w : World} {b r : Nat} {f : Sl → Option Cp} {A A' : List (Sl × Cp)} {cnt B : Nat} {v : Value} (h : Ranges w b r f A cnt) (k : OwnH B w v A') : v.ownBlock ≠ some b ∧ v.ownBlock ≠ some r := by
  obtain ⟨es, clock, since, seen, c0, hb, _, _, hr, _⟩ := h
  exact ⟨k.block_ne fun c t f e => (by rw [hb] at e; cases e), k.block_ne fun c t f e => (by rw [hr] at e; cases e)⟩
theorem Ranges.grown {w w' : World} {b r : Nat} {f : Sl → Option Cp} {A : List (Sl × Cp)} {cnt : Nat} {q : Option Nat} (h : Ranges w b r f A cnt) (g : w.grownBy w' q) (h1 : q ≠ some b) (h2 : q ≠ some r) : Ranges w' b r f A cnt :=
  h.of_block (g.block _ h.lt.1 fun e => h1 e.symm) (g.block _ h.lt.2 fun e => h2 e.symm)
/-- All have come, sorted: what is held. -/
theorem held_of {S : St} {A A' : List (Sl × Cp)} (hA : ∀ p, p ∈ A ↔ holdS S p.1 = some p.2) (hap : A.Pairwise (fun p q => p.1 ≠ q.1)) (hp : A'.Perm A) (hs : A'.Pairwise (fun p q => ¬ ltS q.1 p.1)) : A' = held S := by
  refine sorted_eq _ _ ?_ (held_sorted S) fun p => ?_
  · have hap' : A'.Pairwise (fun p q => p.1 ≠ q.1) := (hp.pairwise_iff fun h => Ne.symm h).2 hap
    have := hs.and hap'
    refine this.imp fun {p q} ⟨h1, h2⟩ => Decidable.byContradiction fun h3 => h2 (ltS_total h3 h1)
  · rw [hp.mem_iff, hA, ← mem_held]
theorem part_le {S : St} (ok : Okay S) {A : List (Sl × Cp)} (hA : ∀ p ∈ A, holdS S p.1 = some p.2) (hap : A.Pairwise (fun p q => p.1 ≠ q.1)) : A.length ≤ 16384 :=
  Nat.le_trans (len_le A (held S) (hap.imp fun {p q} h e => h (by rw [e])) fun p hp => (mem_held S p.1 p.2).2 (hA p hp)) (held_le ok)
set_option maxHeartbeats 1000000 in
set_option maxRecDepth 100000 in
theorem held_any (p : Nat) (F : Nat → Prop) (S : St) (w : World) (h : Nds w p F S) :
    Calls Try.prog 20 #[.pointer (some ⟨p, 0, none⟩)] w fun e w' => ∃ v, e = .returned v ∧ OwnH w.heap.size w' v (held S) ∧ Below w.heap.size w w' := by
  obtain ⟨m, v, h⟩ := h
  have OK : Hid (Okay S) := h.ok
  obtain ⟨c0, c1⟩ := h.cells
  have hm := h.map
  have hml : Hid (m < w.heap.size) := h.lt _ h.fm
  clear h c0
  go_enter Try.func20, Try.ntmps20
  go_wp2_with (first | (at_range; refine wpList_range rfl _ rfl rfl hm ?_; intro w0 cnt0 hrg0 hg0 hs0) | go_in)
  go_frame
  go_loopw [3] (fun l wr => ∃ A cnt, OwnH w.heap.size wr l A ∧ Ranges wr m w.heap.size (holdS S) A cnt ∧ Below w.heap.size w wr) (fun _ wr => wr.rangeLeft m w.heap.size)
  case atStart => exact ⟨[], _, World.ownsRow_nil _ _ _ _, hrg0, (Below.refl _ _).grown hg0 (Nat.le_refl _) fun j hj => by cases hj⟩
  case round =>
    obtain ⟨A, cnt, hown, hrg, hnx⟩ := hrel
    go_wp2_with (first | (at_next; refine wpList_next rfl _ rfl rfl hrg ?_ ?_) | go_in)
    · intro hc0
      subst hc0
      have HD : Hid (OwnH w.heap.size _ _ A ∧ Ranges _ m w.heap.size (holdS S) A 0 ∧ Below w.heap.size w _) := ⟨hown, hrg, hnx⟩
      clear hown hrg hnx
      go_wp2_with fail
      refine (sort_any w.heap.size _ A _ HD.out.1 (by have := part_le OK.out HD.out.2.1.mem HD.out.2.1.apart; omega)).mono ?_
      rintro e w5 ⟨rfl, A', hp, hs, ho, hg⟩
      have e1 := held_of HD.out.2.1.all HD.out.2.1.apart hp hs
      subst e1
      go_wp2
      go_ret
      exact ⟨_, rfl, ho, HD.out.2.2.grown hg HD.out.2.2.size fun k hk => (World.ownsRow.lt HD.out.1 k hk).1⟩
    · intro s c w1 cnt1 hrg1 hlt hg1 hs1 hen
      have own1 : OwnH w.heap.size w1 u3 A := hown.grown hg1 fun k hk => by cases hk; exact (hrg.row_ne hown).2
      have x4 := (box2 w1 (objS s) (objC c)).2.2.2
      have x3 := (box2 w1 (objS s) (objC c)).2.2.1
      have own2 : OwnH w.heap.size ((w1.alloc (objS s)).alloc (objC c)) u3 A := World.ownsRow.alloc (World.ownsRow.alloc own1 _) _
      have hrg2 : Ranges ((w1.alloc (objS s)).alloc (objC c)) m w.heap.size (holdS S) (A ++ [(s, c)]) cnt1 := hrg1.of_block (x4.block _ hrg1.lt.1) (x4.block _ hrg1.lt.2)
      have hlen := part_le OK.out hrg1.mem hrg1.apart
      rw [List.length_append] at hlen
      have hsz : w.heap.size ≤ w1.heap.size := Nat.le_trans hnx.size hg1.size
      obtain ⟨v', w5, hrun, own5, g5, _⟩ := append_held w.heap.size ((w1.alloc (objS s)).alloc (objC c)) 46 u3 A (s, c) own2 (by omega) (by rw [x3]; omega)
      have hrg5 : Ranges w5 m w.heap.size (holdS S) (A ++ [(s, c)]) cnt1 := hrg2.grown g5 (hrg2.row_ne own2).1 (hrg2.row_ne own2).2
      have hb5 : Below w.heap.size w w5 := by
        have b1 : Below w.heap.size w w1 := hnx.grown hg1 hnx.size fun k hk => by cases hk; exact Nat.le_refl _
        have b2 : Below w.heap.size w ((w1.alloc (objS s)).alloc (objC c)) := Below.then b1 x4 hsz
        exact b2.grown g5 (by rw [x3]; omega) fun k hk => (World.ownsRow.lt own2 k hk).1
      have HD : Hid (OwnH w.heap.size w5 v' (A ++ [(s, c)]) ∧ Ranges w5 m w.heap.size (holdS S) (A ++ [(s, c)]) cnt1 ∧ Below w.heap.size w w5 ∧ w5.rangeLeft m w.heap.size < wr.rangeLeft m w.heap.size) := ⟨own5, hrg5, hb5, by rw [hrg5.left, hrg.left]; exact hlt⟩
      rw [x3] at hrun
      have HRun : Hid _ := hrun
      clear hrg0 hg0 hs0 hown hrg hnx hrg1 hlt hg1 hs1 own1 own2 hrg2 hlen hsz own5 g5 hrg5 hb5 x3 x4 hm hrun
      simp only [encS, encC, objS, objC, objH, encH] at *
      go_wp2_with (at_builtin; refine wpList_append_run rfl (.tmp 16) (.tmp 20) 46 rfl _ _ _ _ rfl rfl HRun.out ?_)
      go_roundw
      case rel => exact ⟨_, _, HD.out.1, HD.out.2.1, HD.out.2.2.1⟩
      case measure => exact HD.out.2.2.2
end Go.Proofs.Ytkpoppgibempbaa

/-
  A map of pages by their numbers: what it holds as a function, how it is looked up, stored into, deleted from; no condition of ours.
-/
import Derived.Test.YthjcodkgcffamaaPMath
import Derived.Test.YthjcodkgcffamaaGRow
import Derived.Maps.Range
import Derived.Maps.RangeWalk
namespace Go.Proofs.Ythjcodkgcffamaa
open Go.RowKit Go.Deep Go.MapKept Go.Maps
open Go.ChangeMaps (heap_setBlock_same heap_setBlock_other modify_eq_set)

abbrev encS (s : Int) : Value := .int .i64 s
def encC (c : Pg) : Value := .agg #[.int .i64 c.fr, .int .i64 c.rt]
theorem encS_inj {s t : Int} (h : encS s = encS t) : s = t := by simpa [encS] using h
theorem encC_inj {c d : Pg} (h : encC c = encC d) : c = d := by
  obtain ⟨a, b⟩ := c
  obtain ⟨a', b'⟩ := d
  simpa [encC] using h
theorem keyed : Keyed Try.prog 3 := int_keyed Try.underlying3
theorem wf_i64 {x : Int} (h : I64 x) : (Lit.int .i64 x).wf = true := by
  unfold I64 at h
  simp [Lit.wf, IntKind.min, IntKind.max, IntKind.bits, IntKind.signed]
  omega
theorem key_int {s : Int} (h : I64 s) : keyOf Try.prog 3 (encS s) = some (.int .i64 s) := by
  simp [keyOf, mapKey, Try.underlying3, wf_i64 h]
theorem key_of {s : Int} (h : I64 s) : ∃ l, keyOf Try.prog 3 (encS s) = some l := ⟨_, key_int h⟩
/-- Two places, two keys. -/
theorem idx_key {l : List MapEntry} (hp : l.Pairwise (fun x y => x.key ≠ y.key)) {i j : Nat} {x y : MapEntry} (hi : l[i]? = some x) (hj : l[j]? = some y) (hne : i ≠ j) : x.key ≠ y.key := by
  obtain ⟨hi1, rfl⟩ := List.getElem?_eq_some_iff.1 hi
  obtain ⟨hj1, rfl⟩ := List.getElem?_eq_some_iff.1 hj
  rcases Nat.lt_or_gt_of_ne hne with h | h
  · exact List.pairwise_iff_getElem.1 hp i j hi1 hj1 h
  · exact (List.pairwise_iff_getElem.1 hp j i hj1 hi1 h).symm
/-- The entries of f. -/
structure Full (es : Array MapEntry) (f : Int → Option Pg) : Prop where
  is : ∀ e ∈ es.toList, ∃ s c, I64 s ∧ e.key = encS s ∧ e.val = encC c ∧ f s = some c
  all : ∀ s c, f s = some c → ∃ e ∈ es.toList, e.key = encS s ∧ e.val = encC c
/-- Block b is a map that holds f. -/
def MapIs (w : World) (b : Nat) (f : Int → Option Pg) : Prop := ∃ es clock, w.heap[b]? = some (.map es clock) ∧ Stamped es clock ∧ Full es f
theorem MapIs.lt {w : World} {b : Nat} {f : Int → Option Pg} (h : MapIs w b f) : b < w.heap.size := by
  obtain ⟨es, clock, hb, _⟩ := h
  exact (Array.getElem?_eq_some_iff.1 hb).1
theorem MapIs.of_block {w w' : World} {b : Nat} {f : Int → Option Pg} (h : MapIs w b f) (e : w'.heap[b]? = w.heap[b]?) : MapIs w' b f := by
  obtain ⟨es, clock, hb, r⟩ := h
  exact ⟨es, clock, e.trans hb, r⟩
theorem MapIs.new (w : World) : MapIs (w.alloc (.map #[] 0)) w.heap.size fun _ => none :=
  ⟨#[], 0, blk_alloc_new _ _, stamped_empty 0, ⟨by simp, fun _ _ h => by cases h⟩⟩
theorem MapIs.congr {w : World} {b : Nat} {f g : Int → Option Pg} (h : MapIs w b f) (e : ∀ s, g s = f s) : MapIs w b g := by
  obtain rfl : g = f := funext e
  exact h
theorem Full.keys {es : Array MapEntry} {f : Int → Option Pg} (h : Full es f) : ∀ e ∈ es.toList, ∃ l, keyOf Try.prog 3 e.key = some l := fun e he => by
  obtain ⟨s, c, hs, e1, _, _⟩ := h.is e he
  rw [e1]
  exact key_of hs
theorem zero_page (w : World) : (zeroValue 31).run Try.prog w = .ok (encC pg0) w := by kernel_rfl
section
variable {w : World} {b : Nat} {f : Int → Option Pg}
theorem MapIs.look (h : MapIs w b f) {s : Int} (hs : I64 s) (ok : Bool) : (Instr.lookup 59 (.map (some b)) (encS s) ok).run Try.prog w = .ok (if ok then .tuple #[encC ((f s).getD pg0), .bool (f s).isSome] else encC ((f s).getD pg0)) w := by
  obtain ⟨es, clock, hb, st, F⟩ := h
  obtain ⟨l, hl⟩ := key_of hs
  rcases keyed.find w hl es.toList F.keys with ⟨h1, h2⟩ | ⟨j, e0, h1, h2, h3⟩
  · have hn : f s = none := by
      cases hf : f s with
      | none => rfl
      | some c =>
        obtain ⟨e, he, ek, _⟩ := F.all s c hf
        exact absurd ek (h2 e he)
    simp [Instr.lookup, run_underlying Try.underlying59, MapKept.run_getObj_map hb, keyed.check w _ hl, h1, zero_page w, Result.andThen, hn]
  · obtain ⟨t, c, _, ek, ev, ft⟩ := F.is e0 (List.mem_of_getElem? h2)
    obtain rfl : t = s := encS_inj (ek.symm.trans h3)
    simp [Instr.lookup, run_underlying Try.underlying59, MapKept.run_getObj_map hb, keyed.check w _ hl, h1, Result.andThen, ft, ev]
def updF (f : Int → Option Pg) (s : Int) (c : Pg) : Int → Option Pg := fun t => if t = s then some c else f t
def delF (f : Int → Option Pg) (s : Int) : Int → Option Pg := fun t => if t = s then none else f t
theorem MapIs.store (h : MapIs w b f) {s : Int} (hs : I64 s) (c : Pg) :
    ∃ w', (Instr.mapUpdate 59 (.map (some b)) (encS s) (encC c)).run Try.prog w = .ok () w' ∧ MapIs w' b (updF f s c) ∧ w.grownBy w' (some b) ∧ w'.heap.size = w.heap.size := by
  obtain ⟨es, clock, hb, st, F⟩ := h
  obtain ⟨l, hl⟩ := key_of hs
  have gb : ∀ o, w.grownBy (Go.ChangeMaps.setBlock w b o) (some b) := fun o => ⟨rfl, rfl, rfl, by simp [Go.ChangeMaps.setBlock], fun i _ hi => heap_setBlock_other hb _ (fun e => hi (by rw [e]))⟩
  rcases keyed.find w hl es.toList F.keys with ⟨h1, h2⟩ | ⟨j, e0, h1, h2, h3⟩
  · refine ⟨_, by simp [Instr.mapUpdate, run_underlying Try.underlying59, MapKept.run_getObj_map hb, keyed.check w false hl, h1, MapKept.run_setObj_map _ hb, Result.andThen]; rfl, ⟨es.push ⟨encS s, encC c, clock⟩, clock + 1, heap_setBlock_same hb _, stamped_push st h2, ?_, ?_⟩, gb _, by simp [Go.ChangeMaps.setBlock]⟩
    · intro e he
      simp only [Array.toList_push, List.mem_append, List.mem_singleton] at he
      rcases he with he | rfl
      · obtain ⟨t, d, ht, e1, e2, e3⟩ := F.is e he
        refine ⟨t, d, ht, e1, e2, ?_⟩
        have : ¬ t = s := fun q => h2 e he (by rw [e1, q])
        simp [updF, this, e3]
      · exact ⟨s, c, hs, rfl, rfl, by simp [updF]⟩
    · intro t d ht
      simp only [Array.toList_push, List.mem_append, List.mem_singleton]
      unfold updF at ht
      split at ht
      · rename_i q
        cases ht
        exact ⟨_, .inr rfl, by rw [q], rfl⟩
      · obtain ⟨e, he, r⟩ := F.all t d ht
        exact ⟨e, .inl he, r⟩
  · have hj : es[j]? = some e0 := by simpa using h2
    have hjl : j < es.toList.length := (List.getElem?_eq_some_iff.1 h2).1
    have hkeyf : ∀ e', es[j]? = some e' → ({ e' with key := encS s, val := encC c } : MapEntry).key = e'.key := fun e' he' => by rw [hj] at he'; cases he'; exact h3.symm
    have hlist : (es.modify j (fun e' => { e' with key := encS s, val := encC c })).toList = es.toList.set j { e0 with key := encS s, val := encC c } := by rw [Array.toList_modify, modify_eq_set _ _ _ _ h2]
    have hap := ((stamped_iff es clock).1 st).2.2
    refine ⟨_, by simp [Instr.mapUpdate, run_underlying Try.underlying59, MapKept.run_getObj_map hb, keyed.check w false hl, h1, hj, h3, keyed.stays w hl, MapKept.run_setObj_map _ hb, Result.andThen]; rfl,
      ⟨es.modify j (fun e' => { e' with key := encS s, val := encC c }), clock, heap_setBlock_same hb _, stamped_modify st _ _ (fun _ _ => rfl) (fun e' _ he' => hkeyf e' he'), ?_, ?_⟩, gb _, by simp [Go.ChangeMaps.setBlock]⟩
    · intro e he
      rw [hlist] at he
      obtain ⟨i, hi, ex⟩ := List.getElem_of_mem he
      rw [List.getElem_set] at ex
      split at ex
      · subst ex
        exact ⟨s, c, hs, rfl, rfl, by simp [updF]⟩
      · rename_i hne
        have hi' : i < es.toList.length := by simpa using hi
        obtain ⟨t, d, ht, e1, e2, e3⟩ := F.is e (ex ▸ List.getElem_mem hi')
        refine ⟨t, d, ht, e1, e2, ?_⟩
        have : ¬ t = s := fun q => by
          have a1 : es.toList[i]? = some e := by rw [List.getElem?_eq_getElem hi', ex]
          exact idx_key hap a1 h2 (fun h => hne h.symm) (by rw [e1, q, h3])
        simp [updF, this, e3]
    · intro t d ht
      rw [hlist]
      unfold updF at ht
      split at ht
      · rename_i q
        cases ht
        exact ⟨{ e0 with key := encS s, val := encC c }, List.mem_iff_getElem.2 ⟨j, by simpa using hjl, by simp⟩, by rw [q], rfl⟩
      · rename_i q
        obtain ⟨e, he, r1, r2⟩ := F.all t d ht
        obtain ⟨i, hi⟩ := List.getElem?_of_mem he
        refine ⟨e, List.mem_iff_getElem?.2 ⟨i, ?_⟩, r1, r2⟩
        rw [List.getElem?_set]
        by_cases hij : j = i
        · subst hij
          rw [h2] at hi
          cases hi
          exact absurd (encS_inj (r1.symm.trans h3)) q
        · simp [hij, hi]
theorem MapIs.drop (h : MapIs w b f) {s : Int} (hs : I64 s) (ty : TypeId) :
    ∃ w', (Builtin.delete_ #[59, 3] ty #[.map (some b), encS s]).run Try.prog w = .ok (.tuple #[]) w' ∧ MapIs w' b (delF f s) ∧ w.grownBy w' (some b) ∧ w'.heap.size = w.heap.size := by
  obtain ⟨es, clock, hb, st, F⟩ := h
  obtain ⟨l, hl⟩ := key_of hs
  have gb : ∀ o, w.grownBy (Go.ChangeMaps.setBlock w b o) (some b) := fun o => ⟨rfl, rfl, rfl, by simp [Go.ChangeMaps.setBlock], fun i _ hi => heap_setBlock_other hb _ (fun e => hi (by rw [e]))⟩
  rcases keyed.find w hl es.toList F.keys with ⟨h1, h2⟩ | ⟨j, e0, h1, h2, h3⟩
  · refine ⟨_, by simp [Builtin.delete_, run_underlying Try.underlying59, MapKept.run_getObj_map hb, keyed.check w _ hl, h1, MapKept.run_setObj_map _ hb, Result.andThen]; rfl, ⟨es, clock, heap_setBlock_same hb _, st, ?_, ?_⟩, gb _, by simp [Go.ChangeMaps.setBlock]⟩
    · intro e he
      obtain ⟨t, d, ht, e1, e2, e3⟩ := F.is e he
      have : ¬ t = s := fun q => h2 e he (by rw [e1, q])
      exact ⟨t, d, ht, e1, e2, by simp [delF, this, e3]⟩
    · intro t d ht
      unfold delF at ht
      split at ht
      · cases ht
      · exact F.all t d ht
  · have hjl : j < es.toList.length := (List.getElem?_eq_some_iff.1 h2).1
    have hjs : j < es.size := by simpa using hjl
    have hsub : (es.eraseIdxIfInBounds j).toList = es.toList.eraseIdx j := by
      unfold Array.eraseIdxIfInBounds
      rw [dif_pos hjs]
      simp
    have hap := ((stamped_iff es clock).1 st).2.2
    refine ⟨_, by simp [Builtin.delete_, run_underlying Try.underlying59, MapKept.run_getObj_map hb, keyed.check w _ hl, h1, MapKept.run_setObj_map _ hb, Result.andThen]; rfl, ⟨es.eraseIdxIfInBounds j, clock, heap_setBlock_same hb _, stamped_erase st j, ?_, ?_⟩, gb _, by simp [Go.ChangeMaps.setBlock]⟩
    · intro e he
      rw [hsub, List.mem_eraseIdx_iff_getElem?] at he
      obtain ⟨i, hne, hi⟩ := he
      obtain ⟨t, d, ht, e1, e2, e3⟩ := F.is e (List.mem_of_getElem? hi)
      refine ⟨t, d, ht, e1, e2, ?_⟩
      have : ¬ t = s := fun q => by
        exact idx_key hap hi h2 hne (by rw [e1, q, h3])
      simp [delF, this, e3]
    · intro t d ht
      unfold delF at ht
      split at ht
      · cases ht
      · rename_i q
        obtain ⟨e, he, r1, r2⟩ := F.all t d ht
        obtain ⟨i, hi⟩ := List.getElem?_of_mem he
        refine ⟨e, ?_, r1, r2⟩
        rw [hsub, List.mem_eraseIdx_iff_getElem?]
        refine ⟨i, fun hij => q ?_, hi⟩
        subst hij
        rw [h2] at hi
        cases hi
        exact encS_inj (r1.symm.trans h3)
end

/-! ### Ranged over -/
/-- Block r is an iterator over the map in block b, which holds f; A has come, cnt are to come. -/
def Ranges (w : World) (b r : Nat) (f : Int → Option Pg) (A : List (Int × Pg)) (cnt : Nat) : Prop :=
  ∃ es clock since seen c0, w.heap[b]? = some (.map es clock) ∧ Stamped es clock ∧ Full es f ∧ w.heap[r]? = some (.mapIter (some b) since seen c0) ∧ (∀ x ∈ es.toList, x.born < since) ∧ since ≤ c0 ∧ since ≤ clock ∧
    (leftOf es seen).size = cnt ∧ (∀ p, p ∈ A ↔ ∃ e ∈ es.toList, seen.contains e.born = true ∧ e.key = encS p.1 ∧ e.val = encC p.2) ∧ A.Pairwise (fun p q => p.1 ≠ q.1)
section
variable {w : World} {b r : Nat} {f : Int → Option Pg} {A : List (Int × Pg)} {cnt : Nat}
theorem Ranges.map (h : Ranges w b r f A cnt) : MapIs w b f := by
  obtain ⟨es, clock, _, _, _, hb, st, F, _⟩ := h
  exact ⟨es, clock, hb, st, F⟩
theorem Ranges.left (h : Ranges w b r f A cnt) : w.rangeLeft b r = cnt := by
  obtain ⟨es, clock, since, seen, c0, hb, _, _, hr, _, _, _, hc, _⟩ := h
  simp only [World.rangeLeft, hb, hr]
  exact hc
theorem Ranges.lt (h : Ranges w b r f A cnt) : b < w.heap.size ∧ r < w.heap.size := by
  obtain ⟨es, clock, since, seen, c0, hb, _, _, hr, _⟩ := h
  exact ⟨(Array.getElem?_eq_some_iff.1 hb).1, (Array.getElem?_eq_some_iff.1 hr).1⟩
theorem Ranges.ne (h : Ranges w b r f A cnt) : r ≠ b := by
  obtain ⟨es, clock, since, seen, c0, hb, _, _, hr, _⟩ := h
  intro e
  rw [e, hb] at hr
  cases hr
theorem Ranges.of_block {w' : World} (h : Ranges w b r f A cnt) (e : w'.heap[b]? = w.heap[b]?) (k : w'.heap[r]? = w.heap[r]?) : Ranges w' b r f A cnt := by
  obtain ⟨es, clock, since, seen, c0, hb, st, F, hr, q⟩ := h
  exact ⟨es, clock, since, seen, c0, e.trans hb, st, F, k.trans hr, q⟩
theorem Ranges.mem (h : Ranges w b r f A cnt) : ∀ p ∈ A, f p.1 = some p.2 := by
  obtain ⟨es, clock, since, seen, c0, hb, st, F, hr, _, _, _, _, hA, _⟩ := h
  intro p hp
  obtain ⟨e, he, _, k, v⟩ := (hA p).1 hp
  obtain ⟨s, c, _, k', v', hf⟩ := F.is e he
  rw [encS_inj (k.symm.trans k'), encC_inj (v.symm.trans v')]
  exact hf
theorem Ranges.apart (h : Ranges w b r f A cnt) : A.Pairwise (fun p q => p.1 ≠ q.1) := by
  obtain ⟨es, clock, since, seen, c0, hb, st, F, hr, _, _, _, _, _, hA⟩ := h
  exact hA
theorem Ranges.all (h : Ranges w b r f A 0) (p : Int × Pg) : p ∈ A ↔ f p.1 = some p.2 := by
  refine ⟨h.mem p, fun hf => ?_⟩
  obtain ⟨es, clock, since, seen, c0, hb, st, F, hr, _, _, _, h0, hA, _⟩ := h
  obtain ⟨e, he, k, v⟩ := F.all p.1 p.2 hf
  exact (hA p).2 ⟨e, he, all_seen es seen h0 e he, k, v⟩
theorem MapIs.range (h : MapIs w b f) : ∃ w' cnt, (Instr.range 59 (.map (some b))).run Try.prog w = .ok (.pointer (some ⟨w.heap.size, 0, none⟩)) w' ∧ Ranges w' b w.heap.size f [] cnt ∧ w.grownBy w' none ∧ w'.heap.size = w.heap.size + 1 := by
  have hlt := h.lt
  obtain ⟨es, clock, hb, st, F⟩ := h
  exact ⟨_, _, run_range_map w _ _ _ b es clock Try.underlying59 hb, ⟨es, clock, clock, #[], clock, (blk_alloc_lt _ _ _ hlt).trans hb, st, F, blk_alloc_new _ _, st.1, Nat.le_refl _, Nat.le_refl _, rfl, by simp, by simp⟩, World.grownBy_alloc w _ none, by simp⟩
theorem Ranges.next (h : Ranges w b r f A cnt) (ty : TypeId) :
    (cnt = 0 ∧ (Instr.next (.pointer (some ⟨r, 0, none⟩)) false ty).run Try.prog w = .ok (.tuple #[.bool false]) w) ∨
    ∃ s c w' cnt', (Instr.next (.pointer (some ⟨r, 0, none⟩)) false ty).run Try.prog w = .ok (.tuple #[.bool true, encS s, encC c]) w' ∧ Ranges w' b r f (A ++ [(s, c)]) cnt' ∧ cnt' < cnt ∧ w.grownBy w' (some r) ∧ w'.heap.size = w.heap.size ∧
      (Instr.entry (.pointer (some ⟨r, 0, none⟩))).run Try.prog w' = .ok (.tuple #[encS s, encC c]) w' := by
  have hne := h.ne
  obtain ⟨es, clock, since, seen, c0, hb, st, F, hr, hold, hsc, hsk, rfl, hA, hap⟩ := h
  have hst := (stamped_iff es clock).1 st
  rcases run_next_at (P := Try.prog) w ty r b since c0 seen es clock hr hb hold hsc with ⟨h0, hrun⟩ | ⟨e, he, w1, hal, hrun⟩
  · exact .inl ⟨h0, hrun⟩
  · obtain ⟨hem, hes⟩ := mem_left he
    obtain ⟨s, c, hs, ek, ev, hf⟩ := F.is e hem
    have hr1 : w1.heap[r]? = some (.mapIter (some b) since seen c0) := by rcases hal with rfl | rfl <;> exact hr
    have hb1 : w1.heap[b]? = some (.map es clock) := by rcases hal with rfl | rfl <;> exact hb
    have hset := heap_set (o' := .mapIter (some b) since (seen.push e.born) clock) hr1
    have hb' : (Go.ChangeMaps.setBlock w1 r (.mapIter (some b) since (seen.push e.born) clock)).heap[b]? = some (.map es clock) := (hset.2 b (fun e1 => hne e1.symm)).trans hb1
    rw [ek, ev] at hrun
    refine .inr ⟨s, c, _, _, hrun, ⟨es, clock, since, seen.push e.born, clock, hb', st, F, hset.1, hold, hsk, hsk, rfl, fun p => ?_, ?_⟩, left_shrinks es seen e he, ?_, ?_, ?_⟩
    · rw [List.mem_append, hA, List.mem_singleton]
      constructor
      · rintro (⟨x, hx, h1, h2, h3⟩ | rfl)
        · exact ⟨x, hx, by rw [contains_push, h1]; rfl, h2, h3⟩
        · exact ⟨e, hem, by rw [contains_push]; simp, ek, ev⟩
      · rintro ⟨x, hx, h1, h2, h3⟩
        rw [contains_push] at h1
        cases h4 : seen.contains x.born
        · rw [h4] at h1
          have h5 : x.born = e.born := by simpa using h1
          obtain rfl := born_inj hst.2.1 hx hem h5
          right
          obtain ⟨s', c'⟩ := p
          simp only at h2 h3
          rw [encS_inj (h2.symm.trans ek), encC_inj (h3.symm.trans ev)]
        · exact .inl ⟨x, hx, h4, h2, h3⟩
    · refine List.pairwise_append.2 ⟨hap, by simp, fun p hp q hq => ?_⟩
      rw [List.mem_singleton] at hq
      subst hq
      intro hk
      simp only at hk
      obtain ⟨x, hx, h1, h2, _⟩ := (hA p).1 hp
      have hxe := entry_eq_of_key hst.2.2 hx hem (by rw [h2, ek, hk])
      subst hxe
      rw [hes] at h1
      cases h1
    · rcases hal with rfl | rfl <;> exact ⟨rfl, rfl, rfl, by simp [Go.ChangeMaps.setBlock], fun i _ hi => hset.2 i (fun e1 => hi (by rw [e1]))⟩
    · rcases hal with rfl | rfl <;> simp [Go.ChangeMaps.setBlock]
    · have := run_entry_at (P := Try.prog) _ r b since seen es clock e hset.1 hb' hem hst.2.1
      rw [ek, ev] at this
      exact this
end

/-! ### At the operations -/
section
variable {w : World} {ops : Array Oper} {rest : List Oper} {o : Oper} {a : Act} {Q : Exit → Act → World → Prop} {b : Nat} {f : Int → Option Pg}
theorem wpList_look (hg : o.guard = none) (m x : Operand) (hop : o.op = Op.lookup 59 m x false) (s : Int) (hs : I64 s) (hm : a.eval m = .map (some b)) (hx : a.eval x = encS s) (h : MapIs w b f)
    (hK : wpList Try.prog ops Q rest (a.put o.dst (encC ((f s).getD pg0))) w) : wpList Try.prog ops Q (o :: rest) a w := by
  refine wpList_plain hg fun K' hK' => ?_
  have hrun := h.look hs false
  unfold Oper.wp
  simp [execOp, hop, hm, hx, hrun, Result.andThen]
  exact hK' _ _ hK
theorem wpList_look_ok (hg : o.guard = none) (m x : Operand) (hop : o.op = Op.lookup 59 m x true) (s : Int) (hs : I64 s) (hm : a.eval m = .map (some b)) (hx : a.eval x = encS s) (h : MapIs w b f)
    (hK : wpList Try.prog ops Q rest (a.put o.dst (.tuple #[encC ((f s).getD pg0), .bool (f s).isSome])) w) : wpList Try.prog ops Q (o :: rest) a w := by
  refine wpList_plain hg fun K' hK' => ?_
  have hrun := h.look hs true
  unfold Oper.wp
  simp [execOp, hop, hm, hx, hrun, Result.andThen]
  exact hK' _ _ hK
theorem wpList_store (hg : o.guard = none) (m x v : Operand) (hop : o.op = Op.mapUpdate 59 m x v) (s : Int) (c : Pg) (hs : I64 s) (hm : a.eval m = .map (some b)) (hx : a.eval x = encS s) (hv : a.eval v = encC c) (h : MapIs w b f)
    (hK : ∀ w', MapIs w' b (updF f s c) → w.grownBy w' (some b) → w'.heap.size = w.heap.size → wpList Try.prog ops Q rest (a.put o.dst undef) w') : wpList Try.prog ops Q (o :: rest) a w := by
  refine wpList_plain hg fun K' hK' => ?_
  obtain ⟨w', hrun, r1, r2, r3⟩ := h.store hs c
  unfold Oper.wp
  simp [execOp, hop, hm, hx, hv, hrun, Result.andThen]
  exact hK' _ _ (hK w' r1 r2 r3)
theorem wpList_drop (hg : o.guard = none) (m x : Operand) (hop : o.op = Op.call { callee := Callee.builtin Builtin.delete, args := #[m, x], argTypes := #[59, 3] }) (s : Int) (hs : I64 s) (hm : a.eval m = .map (some b)) (hx : a.eval x = encS s) (h : MapIs w b f)
    (hK : ∀ w', MapIs w' b (delF f s) → w.grownBy w' (some b) → w'.heap.size = w.heap.size → wpList Try.prog ops Q rest (a.put o.dst (.tuple #[])) w') : wpList Try.prog ops Q (o :: rest) a w := by
  refine wpList_plain hg fun K' hK' => ?_
  obtain ⟨w', hrun, r1, r2, r3⟩ := h.drop hs o.type
  unfold Oper.wp
  simp [execOp, hop, resolve, invoke, builtin, hm, hx, hrun, Result.andThen]
  exact hK' _ _ (hK w' r1 r2 r3)
theorem wpList_range (hg : o.guard = none) (m : Operand) (hop : o.op = Op.range 59 m) (hm : a.eval m = .map (some b)) (h : MapIs w b f)
    (hK : ∀ w' cnt, Ranges w' b w.heap.size f [] cnt → w.grownBy w' none → w'.heap.size = w.heap.size + 1 → wpList Try.prog ops Q rest (a.put o.dst (.pointer (some ⟨w.heap.size, 0, none⟩))) w') : wpList Try.prog ops Q (o :: rest) a w := by
  refine wpList_plain hg fun K' hK' => ?_
  obtain ⟨w', cnt, hrun, r1, r2, r3⟩ := h.range
  unfold Oper.wp
  simp [execOp, hop, hm, hrun, Result.andThen]
  exact hK' _ _ (hK w' cnt r1 r2 r3)
theorem wpList_next {r : Nat} {A : List (Int × Pg)} {cnt : Nat} (hg : o.guard = none) (it : Operand) (hop : o.op = Op.next it false) (hit : a.eval it = .pointer (some ⟨r, 0, none⟩)) (h : Ranges w b r f A cnt)
    (hDone : cnt = 0 → wpList Try.prog ops Q rest (a.put o.dst (.tuple #[.bool false])) w)
    (hMore : ∀ s c w' cnt', Ranges w' b r f (A ++ [(s, c)]) cnt' → cnt' < cnt → w.grownBy w' (some r) → w'.heap.size = w.heap.size → (Instr.entry (.pointer (some ⟨r, 0, none⟩))).run Try.prog w' = .ok (.tuple #[encS s, encC c]) w' →
      wpList Try.prog ops Q rest (a.put o.dst (.tuple #[.bool true, encS s, encC c])) w') : wpList Try.prog ops Q (o :: rest) a w := by
  refine wpList_plain hg fun K' hK' => ?_
  unfold Oper.wp
  rcases h.next o.type with ⟨h0, hrun⟩ | ⟨s, c, w', cnt', hrun, r1, r2, r3, r4, r5⟩
  · simp [execOp, hop, hit, hrun, Result.andThen]
    exact hK' _ _ (hDone h0)
  · simp [execOp, hop, hit, hrun, Result.andThen]
    exact hK' _ _ (hMore s c w' cnt' r1 r2 r3 r4 r5)
end
end Go.Proofs.Ythjcodkgcffamaa

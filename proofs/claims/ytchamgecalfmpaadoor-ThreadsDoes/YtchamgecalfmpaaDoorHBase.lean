/-
  How threads and their queues lie in memory, of the program and of the document alike: a struct of two slices, a row of threads, a row of pointers, each queue in blocks of its own; what stays while one of them is turned; no condition of ours.
-/
import Derived.Test.YtchamgecalfmpaaDoorHTurns
import Derived.Test.YtchamgecalfmpaaDoorXNext
namespace Go.Proofs.YtchamgecalfmpaaDoor
open Go.RowKit Go.Deep Go.Shelf

/-! ### Rows -/
theorem flat_set {α : Type} {enc : α → List Value} {k : Nat} (hk : ∀ x, (enc x).length = k) : ∀ (L : List α) (i j : Nat) (x y : α) (v : Value), L[i]? = some x → j < k → enc y = (enc x).set j v → (flatK enc L).set (i * k + j) v = flatK enc (L.set i y)
  | [], i, j, x, y, v, h, _, _ => by simp at h
  | z :: L, 0, j, x, y, v, h, hj, e => by
    obtain rfl : z = x := by simpa using h
    rw [Nat.zero_mul, Nat.zero_add, flatK_cons, List.set_append_left _ _ (by rw [hk]; exact hj), List.set_cons_zero, flatK_cons, e]
  | z :: L, i + 1, j, x, y, v, h, hj, e => by
    have h' : L[i]? = some x := by simpa using h
    have := flat_set hk L i j x y v h' hj e
    rw [flatK_cons, List.set_append_right _ _ (by rw [hk, Nat.add_mul]; omega), List.set_cons_succ, flatK_cons, hk, ← this]
    congr 2
    rw [Nat.add_mul]
    omega
theorem own_set {w : World} {e : TypeId} {k g n cap : Nat} {xs : List Value} (h : w.ownsRow 0 e k (.slice (some ⟨g, 0, none⟩) n cap) n xs) {m : Nat} (v : Value) : (w.setCell ⟨g, m, none⟩ v).ownsRow 0 e k (.slice (some ⟨g, 0, none⟩) n cap) n (xs.set m v) := by
  obtain ⟨h0, ⟨e1, _⟩ | ⟨g', cap', cur, e1, _, hg, h1, h2, h3, h4⟩⟩ := h
  · cases e1
  · cases e1
    refine ⟨by rw [List.length_set]; exact h0, .inr ⟨g, cap, cur.set! m v, rfl, Nat.zero_le _, ?_, h1, h2, by simpa using h3, ?_⟩⟩
    · simp only [World.setCell, Array.getElem?_modify, hg, Option.map_some]
      simp
    · rw [← h4]
      simp [List.take_set]
theorem own_frozen {w : World} {e : TypeId} {k g n cap : Nat} {xs : List Value} (h : w.ownsRow 0 e k (.slice (some ⟨g, 0, none⟩) n cap) n xs) (j : Nat) : w.frozen? ⟨g, j, none⟩ = false := by
  rcases h.2 with ⟨e1, _⟩ | ⟨g', cap', cur, e1, _, hg, _⟩
  · cases e1
  · cases e1
    simp [World.frozen?, hg]
theorem own_slice {w : World} {e : TypeId} {k n : Nat} {v : Value} {xs : List Value} (h : w.ownsRow 0 e k v n xs) : ∃ ao cap, v = .slice ao n cap ∧ ∀ i, i < n → ∃ g, ao = some ⟨g, 0, none⟩ := by
  rcases h.2 with ⟨rfl, h0⟩ | ⟨g, cap, cur, rfl, _⟩
  · exact ⟨none, 0, by rw [h0], fun i hi => by omega⟩
  · exact ⟨some ⟨g, 0, none⟩, cap, rfl, fun _ _ => ⟨g, rfl⟩⟩
/-- A row of elements of k cells each, of type e, as a thing. -/
def lstK {α : Type} (e : TypeId) (k : Nat) (enc : α → List Value) (v : Value) (L : List α) : Th where
  F := fun x => v.ownBlock = some x
  H := fun w => w.ownsRow 0 e k v L.length (flatK enc L)
  lt := fun _ h x hx => (World.ownsRow.lt h x hx).2
  keep := fun _ _ h k => own_of_block h k
theorem lstK_cell {α : Type} {e : TypeId} {k : Nat} {enc : α → List Value} (hk : ∀ x, (enc x).length = k) {w : World} {g n cap : Nat} {L : List α} (h : (lstK e k enc (.slice (some ⟨g, 0, none⟩) n cap) L).H w) {i : Nat} {x : α} (hi : L[i]? = some x) {j : Nat} {c : Value} (hj : (enc x)[j]? = some c) : w.cell? ⟨g, i * k + j, none⟩ = some c := by
  have hjk : j < k := by rw [← hk x]; exact (List.getElem?_eq_some_iff.1 hj).1
  have e1 := World.ownsRow.cells h (g := g) rfl (i * k + j) c (by rw [flatK_get hk hi hjk]; exact hj)
  rw [add_none, Nat.zero_add] at e1
  exact e1

/-- Its word k. -/
def rg (x : Td) (k : Nat) : Int := x.g.getD k 0
/-- A thread's cells. -/
def cT (x : Td) : List Value := [.int .i64 x.st, .int .i64 x.p, .int .i64 x.c, .int .i64 x.l, .int .u64 (rg x 0), .int .u64 (rg x 1), .int .u64 (rg x 2), .int .u64 (rg x 3), .int .u64 (rg x 4), .int .u64 (rg x 5), .int .u64 (rg x 6), .int .u64 (rg x 7)]
def encT (x : Td) : Value := .agg #[.int .i64 x.st, .int .i64 x.p, .int .i64 x.c, .int .i64 x.l, .int .u64 (rg x 0), .int .u64 (rg x 1), .int .u64 (rg x 2), .int .u64 (rg x 3), .int .u64 (rg x 4), .int .u64 (rg x 5), .int .u64 (rg x 6), .int .u64 (rg x 7)]
def objT (x : Td) : Obj := .cells #[.int .i64 x.st, .int .i64 x.p, .int .i64 x.c, .int .i64 x.l, .int .u64 (rg x 0), .int .u64 (rg x 1), .int .u64 (rg x 2), .int .u64 (rg x 3), .int .u64 (rg x 4), .int .u64 (rg x 5), .int .u64 (rg x 6), .int .u64 (rg x 7)] 46
theorem cT_len (x : Td) : (cT x).length = 12 := rfl
theorem cT_one (x : Td) : ∀ v ∈ cT x, v.oneCell' = true := by simp [cT, Value.oneCell']
theorem infoT : (Tryd.prog.info? 46).map (fun i => (i.zero, i.size, i.bytes)) = some (some (.agg #[.int .i64 0, .int .i64 0, .int .i64 0, .int .i64 0, .int .u64 0, .int .u64 0, .int .u64 0, .int .u64 0, .int .u64 0, .int .u64 0, .int .u64 0, .int .u64 0]), 12, 96) := by kernel_rfl
abbrev lstT (v : Value) (L : List Td) : Th := lstK 46 12 cT v L
/-- A pointer. -/
def cP (q : Nat) : List Value := [.pointer (some ⟨q, 0, none⟩)]
theorem cP_len (q : Nat) : (cP q).length = 1 := rfl
theorem cP_one (q : Nat) : ∀ v ∈ cP q, v.oneCell' = true := by simp [cP, Value.oneCell']
abbrev lstP (e : TypeId) (v : Value) (L : List Nat) : Th := lstK e 1 cP v L

/-! ### Many things, by numbers -/
structure Fam (R : Nat → Th) (n : Nat) (w : World) : Prop where
  each : ∀ i, i < n → (R i).H w
  apart : ∀ i j, i < n → j < n → i ≠ j → ∀ x, (R i).F x → ¬ (R j).F x
def fpF (R : Nat → Th) (n : Nat) : Nat → Prop := fun x => ∃ i, i < n ∧ (R i).F x
section
variable {R R' : Nat → Th} {n : Nat} {w w' : World}
theorem Fam.lt (f : Fam R n w) : ∀ x, fpF R n x → x < w.heap.size := by
  rintro x ⟨i, hi, hx⟩
  exact (R i).lt w (f.each i hi) x hx
theorem Fam.keep (f : Fam R n w) (k : ∀ x, fpF R n x → w'.heap[x]? = w.heap[x]?) : Fam R n w' :=
  ⟨fun i hi => (R i).keep w w' (f.each i hi) fun x hx => k x ⟨i, hi, hx⟩, f.apart⟩
theorem Fam.below (f : Fam R n w) (k : Below w.heap.size w w') : Fam R n w' := f.keep fun x hx => k.block x (f.lt x hx)
theorem Turn.mono {F G : Nat → Prop} {w w' : World} (h : Turn F w w') (k : ∀ x, F x → G x) : Turn G w w' := ⟨h.os, h.tape, h.output, h.size, fun i hi hn => h.block i hi fun hf => hn (k i hf)⟩
theorem Fam.turn (f : Fam R n w) {i : Nat} (hi : i < n) {t : Th} (e : R' i = t) (e' : ∀ j, j ≠ i → R' j = R j) (ht : t.H w') (k : Turn (R i).F w w') (o : Out (R i).F t.F w) :
    Fam R' n w' ∧ Turn (fpF R n) w w' ∧ Out (fpF R n) (fpF R' n) w := by
  subst e
  refine ⟨⟨fun j hj => ?_, fun a b ha hb hab x hx hy => ?_⟩, k.mono fun x hx => ⟨i, hi, hx⟩, ?_⟩
  · by_cases h : j = i
    · rw [h]
      exact ht
    · rw [e' j h]
      exact (R j).turn (f.each j hj) k fun x hx hx' => f.apart j i hj hi h x hx hx'
  · by_cases h1 : a = i <;> by_cases h2 : b = i
    · exact hab (h1.trans h2.symm)
    · rw [h1] at hx
      rw [e' b h2] at hy
      rcases o x hx with h3 | h3
      · exact f.apart i b hi hb (fun e => h2 e.symm) x h3 hy
      · have := f.lt x ⟨b, hb, hy⟩
        omega
    · rw [h2] at hy
      rw [e' a h1] at hx
      rcases o x hy with h3 | h3
      · exact f.apart a i ha hi h1 x hx h3
      · have := f.lt x ⟨a, ha, hx⟩
        omega
    · rw [e' a h1] at hx
      rw [e' b h2] at hy
      exact f.apart a b ha hb hab x hx hy
  · rintro x ⟨j, hj, hx⟩
    by_cases h : j = i
    · rw [h] at hx
      exact (o x hx).imp (fun h1 => ⟨i, hi, h1⟩) id
    · rw [e' j h] at hx
      exact .inl ⟨j, hj, hx⟩
end

/-! ### Threads -/
/-- A kind of queue: what a queue is as a thing, the struct's type, the pointer's. -/
structure QK where
  α : Type
  th : Nat → α → St → Th
  ty : TypeId
  pt : TypeId
def qkP : QK := ⟨Nat → Prop, quT, 63, 64⟩
variable {K : QK}
def memb (K : QK) (p : Nat) (v u : Value) (qs : List Nat) (a : Nat → K.α) (h : Hs) : Nat → Th
  | 0 => blk p (.cells #[v, u] K.ty (0, 0))
  | 1 => lstT v h.L
  | 2 => lstP K.pt u qs
  | c + 3 => K.th (qs.getD c 0) (a c) (que h c)
structure ThI (K : QK) (p : Nat) (v u : Value) (qs : List Nat) (a : Nat → K.α) (h : Hs) (w : World) : Prop where
  fam : Fam (memb K p v u qs a h) (3 + h.Q.length) w
  len : qs.length = h.Q.length
abbrev fpT (K : QK) (p : Nat) (v u : Value) (qs : List Nat) (a : Nat → K.α) (h : Hs) : Nat → Prop := fpF (memb K p v u qs a h) (3 + h.Q.length)
/-- The threads in block p, in blocks F. -/
def ThH (K : QK) (p : Nat) (F : Nat → Prop) (h : Hs) (w : World) : Prop := ∃ v u qs a, ThI K p v u qs a h w ∧ ∀ x, F x ↔ fpT K p v u qs a h x
def thT (K : QK) (p : Nat) (F : Nat → Prop) (h : Hs) : Th where
  F := F
  H := ThH K p F h
  lt := fun _ ⟨_, _, _, _, t, e⟩ x hx => t.fam.lt x ((e x).1 hx)
  keep := fun _ _ ⟨v, u, qs, a, t, e⟩ k => ⟨v, u, qs, a, ⟨t.fam.keep fun x hx => k x ((e x).2 hx), t.len⟩, e⟩
def GoT (K : QK) (w : World) (p : Nat) (F : Nat → Prop) (h : Hs) (w' : World) : Prop := ∃ F', ThH K p F' h w' ∧ Turn F w w' ∧ Out F F' w
/-- Within a call: since w0 only blocks of F, and new ones, have been turned. -/
structure At (K : QK) (w0 : World) (F : Nat → Prop) (p : Nat) (v u : Value) (qs : List Nat) (h : Hs) (w : World) : Prop where
  ex : ∃ a, ThI K p v u qs a h w ∧ Out F (fpT K p v u qs a h) w0
  turn : Turn F w0 w
section
variable {w0 w w' : World} {F : Nat → Prop} {p : Nat} {v u : Value} {qs : List Nat} {h : Hs}
theorem ThH.at (t : ThH K p F h w) : ∃ v u qs, At K w F p v u qs h w := by
  obtain ⟨v, u, qs, a, t, e⟩ := t
  exact ⟨v, u, qs, ⟨a, t, fun x hx => .inl ((e x).2 hx)⟩, Turn.refl _ _⟩
theorem At.goes (t : At K w0 F p v u qs h w) : GoT K w0 p F h w := by
  obtain ⟨a, t1, o⟩ := t.ex
  exact ⟨_, ⟨v, u, qs, a, t1, fun _ => Iff.rfl⟩, t.turn, o⟩
theorem Turn.thenBelow {G : Nat → Prop} {a b c : World} (k : Turn G a b) (l : Below b.heap.size b c) : Turn G a c := k.trans (Turn.of l (fun _ => False)) fun _ hx => hx.elim
theorem At.below (t : At K w0 F p v u qs h w) (k : Below w.heap.size w w') : At K w0 F p v u qs h w' := by
  obtain ⟨a, t1, o⟩ := t.ex
  exact ⟨⟨a, ⟨t1.fam.below k, t1.len⟩, o⟩, t.turn.thenBelow k⟩
theorem At.len (t : At K w0 F p v u qs h w) : qs.length = h.Q.length := by
  obtain ⟨a, t1, _⟩ := t.ex
  exact t1.len
theorem At.block (t : At K w0 F p v u qs h w) : w.heap[p]? = some (.cells #[v, u] K.ty (0, 0)) := by
  obtain ⟨a, t1, _⟩ := t.ex
  exact t1.fam.each 0 (by omega)
theorem At.cell0 (t : At K w0 F p v u qs h w) : w.cell? ⟨p, 0, none⟩ = some v := by
  simp [World.cell?, t.block]
theorem At.cell1 (t : At K w0 F p v u qs h w) : w.cell? ⟨p, 1, none⟩ = some u := by
  simp [World.cell?, t.block]
theorem At.lt (t : At K w0 F p v u qs h w) : p < w.heap.size := (Array.getElem?_eq_some_iff.1 t.block).1
theorem At.frozen (t : At K w0 F p v u qs h w) (j : Nat) : w.frozen? ⟨p, j, none⟩ = false := by
  simp [World.frozen?, t.block]
theorem At.row (t : At K w0 F p v u qs h w) : (lstT v h.L).H w := by
  obtain ⟨a, t1, _⟩ := t.ex
  exact t1.fam.each 1 (by omega)
theorem At.ptrs (t : At K w0 F p v u qs h w) : (lstP K.pt u qs).H w := by
  obtain ⟨a, t1, _⟩ := t.ex
  exact t1.fam.each 2 (by omega)
theorem At.slice (t : At K w0 F p v u qs h w) : ∃ ao cap, v = .slice ao h.L.length cap ∧ ∀ i, i < h.L.length → ∃ g, ao = some ⟨g, 0, none⟩ := own_slice t.row
theorem At.pslice (t : At K w0 F p v u qs h w) (hq : 1 ≤ h.Q.length) : ∃ g cap, u = .slice (some ⟨g, 0, none⟩) h.Q.length cap := by
  obtain ⟨ao, cap, e, hg⟩ := own_slice t.ptrs
  rw [t.len] at e hg
  obtain ⟨g, rfl⟩ := hg 0 (by omega)
  exact ⟨g, cap, e⟩
theorem At.cellP {g cap n : Nat} (t : At K w0 F p v (.slice (some ⟨g, 0, none⟩) n cap) qs h w) {c : Nat} (hc : c < h.Q.length) : w.cell? ⟨g, c, none⟩ = some (.pointer (some ⟨qs.getD c 0, 0, none⟩)) := by
  have hl := t.len
  have e : qs[c]? = some (qs.getD c 0) := by
    rw [List.getD_eq_getElem?_getD, List.getElem?_eq_getElem (by omega)]
    rfl
  have := lstK_cell cP_len t.ptrs e (j := 0) (c := .pointer (some ⟨qs.getD c 0, 0, none⟩)) rfl
  simpa using this
theorem At.cellT {g cap n : Nat} (t : At K w0 F p (.slice (some ⟨g, 0, none⟩) n cap) u qs h w) {i : Nat} (hi : i < h.L.length) {j : Nat} {c : Value} (hj : (cT (thr h i))[j]? = some c) : w.cell? ⟨g, i * 12 + j, none⟩ = some c :=
  lstK_cell cT_len t.row (thr_at hi) hj
theorem At.frozenT {g cap n : Nat} (t : At K w0 F p (.slice (some ⟨g, 0, none⟩) n cap) u qs h w) (j : Nat) : w.frozen? ⟨g, j, none⟩ = false := by
  have r := t.row
  obtain ⟨ao, cap', e, _⟩ := own_slice r
  cases e
  exact own_frozen r j
theorem At.ltT {g cap n : Nat} (t : At K w0 F p (.slice (some ⟨g, 0, none⟩) n cap) u qs h w) : g < w.heap.size := (lstT (.slice (some ⟨g, 0, none⟩) n cap) h.L).lt w t.row g rfl
/-- One of them is turned. -/
theorem At.step {a a' : Nat → K.α} (t1 : ThI K p v u qs a h w) (o : Out F (fpT K p v u qs a h) w0) (tn : Turn F w0 w) {i : Nat} {h' : Hs} (hl : h'.Q.length = h.Q.length) (hi : i < 3 + h.Q.length)
    (k1 : (memb K p v u qs a' h' i).H w') (k2 : Turn (memb K p v u qs a h i).F w w') (k3 : Out (memb K p v u qs a h i).F (memb K p v u qs a' h' i).F w) (k4 : ∀ j, j ≠ i → memb K p v u qs a' h' j = memb K p v u qs a h j) : At K w0 F p v u qs h' w' := by
  obtain ⟨f1, f2, f3⟩ := t1.fam.turn hi rfl k4 k1 k2 k3
  refine ⟨⟨a', ⟨by rw [hl]; exact f1, by rw [hl]; exact t1.len⟩, fun x hx => ?_⟩, tn.trans f2 fun x hx => o x hx⟩
  unfold fpT at hx
  rw [hl] at hx
  rcases f3 x hx with h1 | h1
  · exact o x h1
  · exact .inr (Nat.le_trans tn.size h1)
/-- A cell of a thread is written. -/
theorem At.set {g cap n : Nat} (t : At K w0 F p (.slice (some ⟨g, 0, none⟩) n cap) u qs h w) {i : Nat} (hi : i < h.L.length) {j : Nat} {c : Value} {y : Td} (hj : j < 12) (e : cT y = (cT (thr h i)).set j c) :
    At K w0 F p (.slice (some ⟨g, 0, none⟩) n cap) u qs ⟨h.L.set i y, h.Q⟩ (w.setCell ⟨g, i * 12 + j, none⟩ c) := by
  obtain ⟨a, t1, o⟩ := t.ex
  refine At.step (a' := a) (i := 1) t1 o t.turn rfl (by omega) ?_ (Turn.setCell _ _ _ _ rfl) (fun x hx => .inl hx) fun j hj => ?_
  · have r : w.ownsRow 0 46 12 (.slice (some ⟨g, 0, none⟩) n cap) h.L.length (flatK cT h.L) := t1.fam.each 1 (by omega)
    obtain ⟨ao, cap', ev, _⟩ := own_slice r
    cases ev
    show World.ownsRow _ 0 46 12 _ (h.L.set i y).length (flatK cT (h.L.set i y))
    rw [List.length_set, ← flat_set cT_len h.L i j _ y c (thr_at hi) hj e]
    exact own_set r c
  · match j, hj with
    | 0, _ => rfl
    | 2, _ => rfl
    | c + 3, _ => rfl
/-- A queue, and what comes of it when it is turned. -/
theorem At.qu (t : At K w0 F p v u qs h w) {c : Nat} (hc : c < h.Q.length) : ∃ a, (K.th (qs.getD c 0) a (que h c)).H w ∧ ∀ T w', (∃ a', (K.th (qs.getD c 0) a' T).H w' ∧ Turn (K.th (qs.getD c 0) a (que h c)).F w w' ∧ Out (K.th (qs.getD c 0) a (que h c)).F (K.th (qs.getD c 0) a' T).F w) → At K w0 F p v u qs ⟨h.L, h.Q.set c T⟩ w' := by
  obtain ⟨a, t1, o⟩ := t.ex
  refine ⟨a c, t1.fam.each (c + 3) (by omega), fun T w' ⟨a', k1, k2, k3⟩ => ?_⟩
  have hT : que ⟨h.L, h.Q.set c T⟩ c = T := by
    unfold que
    rw [getD_set hc, if_pos rfl]
  have hm : memb K p v u qs (updN a c a') ⟨h.L, h.Q.set c T⟩ (c + 3) = K.th (qs.getD c 0) a' T := by
    show K.th _ (updN a c a' c) (que ⟨h.L, h.Q.set c T⟩ c) = _
    rw [hT, updN_at]
  refine At.step (a' := updN a c a') (i := c + 3) t1 o t.turn List.length_set (by omega) (by rw [hm]; exact k1) k2 (by rw [hm]; exact k3) fun j hj => ?_
  match j, hj with
  | 0, _ => rfl
  | 1, _ => rfl
  | 2, _ => rfl
  | d + 3, hj =>
    have hd : d ≠ c := fun e => hj (by rw [e])
    show K.th _ (updN a c a' d) (que ⟨h.L, h.Q.set c T⟩ d) = K.th _ (a d) (que h d)
    rw [updN_ne _ _ hd]
    have : que ⟨h.L, h.Q.set c T⟩ d = que h d := by
      unfold que
      rw [List.getD_eq_getElem?_getD, List.getElem?_set_ne (fun e => hd e.symm), ← List.getD_eq_getElem?_getD]
    rw [this]
end
end Go.Proofs.YtchamgecalfmpaaDoor

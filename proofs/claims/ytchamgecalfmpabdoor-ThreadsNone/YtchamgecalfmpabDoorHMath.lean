/-
  Plain facts on threads and who runs where, without the program: each core's queue holds just those that are ready there; what each call makes of them; no condition but that this is so.
-/
import Derived.Test.YtchamgecalfmpabDoorQMath
namespace Go.Proofs.YtchamgecalfmpabDoor

/-- A thread: its state (0 idle, 1 ready, 2 running, 3 blocked), priority, core, ticks left, words. -/
structure Td where
  st : Int
  p : Nat
  c : Nat
  l : Int
  g : List Int
def td0 : Td := ⟨0, 0, 0, 0, List.replicate 8 0⟩
/-- Threads, and each core's queue. -/
structure Hs where
  L : List Td
  Q : List St
structure Okay (x : Td) (n : Nat) : Prop where
  p : x.p < 256
  c : x.c < n
  s : 0 ≤ x.st ∧ x.st ≤ 3
  l : 1 ≤ x.l ∧ x.l ≤ 5
  g : x.g.length = 8
  w : ∀ v ∈ x.g, 0 ≤ v ∧ v ≤ 18446744073709551615
def thr (h : Hs) (i : Nat) : Td := h.L.getD i td0
def que (h : Hs) (c : Nat) : St := h.Q.getD c []
structure Inv (h : Hs) : Prop where
  lo : 1 ≤ h.Q.length
  hi : h.Q.length ≤ 8
  few : h.L.length ≤ 64
  each : ∀ x ∈ h.L, Okay x h.Q.length
  good : ∀ S ∈ h.Q, Good S
  mem : ∀ c, c < h.Q.length → ∀ y : In, y ∈ que h c ↔ ∃ (i : Nat) (x : Td), h.L[i]? = some x ∧ y = ⟨x.p, (i : Int)⟩ ∧ x.st = 1 ∧ x.c = c
  one : ∀ (i j : Nat) (x y : Td), h.L[i]? = some x → h.L[j]? = some y → x.st = 2 → y.st = 2 → x.c = y.c → i = j
theorem thr_of {h : Hs} {i : Nat} {x : Td} (e : h.L[i]? = some x) : thr h i = x := by
  unfold thr
  rw [List.getD_eq_getElem?_getD, e]
  rfl
theorem thr_at {h : Hs} {i : Nat} (hi : i < h.L.length) : h.L[i]? = some (thr h i) := by
  unfold thr
  rw [List.getD_eq_getElem?_getD, List.getElem?_eq_getElem hi]
  rfl
theorem que_mem {h : Hs} {c : Nat} (hc : c < h.Q.length) : que h c ∈ h.Q := by
  unfold que
  rw [List.getD_eq_getElem?_getD, List.getElem?_eq_getElem hc]
  exact List.getElem_mem hc
theorem Inv.okay {h : Hs} (v : Inv h) {i : Nat} {x : Td} (e : h.L[i]? = some x) : Okay x h.Q.length := v.each x (List.mem_of_getElem? e)
theorem Inv.queue {h : Hs} (v : Inv h) {c : Nat} (hc : c < h.Q.length) : Good (que h c) := v.good _ (que_mem hc)
/-- A thread's number stands in its own core's queue alone, if it is ready. -/
theorem Inv.nums {h : Hs} (v : Inv h) {c : Nat} (hc : c < h.Q.length) {i : Nat} {x : Td} (e : h.L[i]? = some x) {y : In} (hy : y ∈ que h c) (hn : y.n = (i : Int)) : y = ⟨x.p, (i : Int)⟩ ∧ x.st = 1 ∧ x.c = c := by
  obtain ⟨j, z, e1, rfl, e2, e3⟩ := (v.mem c hc y).1 hy
  have : j = i := by
    simp only at hn
    omega
  subst this
  rw [e] at e1
  cases e1
  exact ⟨rfl, e2, e3⟩

/-! ### A thread becomes another one -/
def genQ (Q : List St) (c : Nat) (i : Nat) (x : Td) : List St :=
  let Q1 := Q.set c (takeS (Q.getD c []) i)
  if x.st = 1 then Q1.set x.c (Q1.getD x.c [] ++ [⟨x.p, (i : Int)⟩]) else Q1
/-- It leaves its queue, is x, and is put in line if it is ready then. -/
def genH (h : Hs) (i : Nat) (x : Td) : Hs := ⟨h.L.set i x, genQ h.Q (thr h i).c i x⟩
theorem genQ_len (Q : List St) (c i : Nat) (x : Td) : (genQ Q c i x).length = Q.length := by
  unfold genQ
  split <;> simp
theorem getD_set {Q : List St} {a c : Nat} {S : St} (hc : c < Q.length) : (Q.set a S).getD c [] = if c = a then S else Q.getD c [] := by
  rw [List.getD_eq_getElem?_getD, List.getD_eq_getElem?_getD, List.getElem?_set]
  by_cases e : a = c
  · subst e
    simp [hc]
  · have e2 : ¬ c = a := fun q => e q.symm
    simp [e, e2]
theorem que_gen {h : Hs} (v : Inv h) {i : Nat} (hi : i < h.L.length) (x : Td) {c : Nat} (hc : c < h.Q.length) :
    que (genH h i x) c = takeS (que h c) i ++ (if x.st = 1 ∧ c = x.c then [⟨x.p, (i : Int)⟩] else []) := by
  have ei := thr_at hi
  have h1 : (h.Q.set (thr h i).c (takeS (h.Q.getD (thr h i).c []) i)).getD c [] = takeS (que h c) i := by
    rw [getD_set hc]
    by_cases e : c = (thr h i).c
    · rw [if_pos e, e]
      rfl
    · rw [if_neg e]
      show que h c = _
      refine (take_none ?_).symm
      cases hb : whB (que h c) i with
      | false => rfl
      | true =>
        obtain ⟨y, hy, hn⟩ := whB_some hb
        exact absurd (v.nums hc ei hy hn).2.2.symm e
  unfold genH
  show (genQ h.Q (thr h i).c i x).getD c [] = _
  unfold genQ
  by_cases hs : x.st = 1
  · simp only [hs, if_true, true_and]
    rw [getD_set (by simpa using hc)]
    by_cases e : c = x.c
    · subst e
      rw [if_pos rfl, if_pos rfl, h1]
    · rw [if_neg e, if_neg e, h1, List.append_nil]
  · simp only [hs, if_false, false_and]
    rw [h1, List.append_nil]
theorem gen_at {h : Hs} {i : Nat} (hi : i < h.L.length) (x : Td) (j : Nat) : (genH h i x).L[j]? = if j = i then some x else h.L[j]? := by
  show (h.L.set i x)[j]? = _
  rw [List.getElem?_set]
  by_cases e : i = j
  · subst e
    simp [hi]
  · have e2 : ¬ j = i := fun q => e q.symm
    simp [e, e2]
theorem thr_gen {h : Hs} {i : Nat} (hi : i < h.L.length) (x : Td) (j : Nat) : thr (genH h i x) j = if j = i then x else thr h j := by
  unfold thr
  rw [List.getD_eq_getElem?_getD, List.getD_eq_getElem?_getD, gen_at hi]
  by_cases e : j = i
  · simp [e]
  · simp [e]
theorem inv_gen {h : Hs} (v : Inv h) {i : Nat} (hi : i < h.L.length) {x : Td} (ok : Okay x h.Q.length) (h2 : x.st = 2 → ∀ (j : Nat) (y : Td), j ≠ i → h.L[j]? = some y → y.st = 2 → y.c ≠ x.c) : Inv (genH h i x) := by
  have hl : (genH h i x).Q.length = h.Q.length := genQ_len _ _ _ _
  have hL : (genH h i x).L.length = h.L.length := List.length_set
  refine ⟨by rw [hl]; exact v.lo, by rw [hl]; exact v.hi, by rw [hL]; exact v.few, fun y hy => ?_, fun S hS => ?_, fun c hc y => ?_, fun a b y z ey ez sy sz ec => ?_⟩
  · rw [hl]
    rcases List.mem_or_eq_of_mem_set hy with hy | rfl
    · exact v.each y hy
    · exact ok
  · obtain ⟨c, hc, rfl⟩ := List.mem_iff_getElem.1 hS
    have e : (genH h i x).Q[c] = que (genH h i x) c := by
      unfold que
      rw [List.getD_eq_getElem?_getD, List.getElem?_eq_getElem hc]
      rfl
    rw [hl] at hc
    rw [e, que_gen v hi x hc]
    split
    · refine good_add (good_take (v.queue hc) i) ok.p ?_ fun y hy => (take_mem.1 hy).2
      have := v.few
      unfold I64
      simp only
      omega
    · rw [List.append_nil]
      exact good_take (v.queue hc) i
  · rw [hl] at hc
    rw [que_gen v hi x hc, List.mem_append, take_mem, v.mem c hc y]
    constructor
    · rintro (⟨⟨j, z, e1, rfl, e2, e3⟩, hn⟩ | hy)
      · have hj : j ≠ i := fun e => hn (by rw [e])
        exact ⟨j, z, by rw [gen_at hi, if_neg hj]; exact e1, rfl, e2, e3⟩
      · split at hy
        · rename_i hx
          obtain rfl := List.mem_singleton.1 hy
          exact ⟨i, x, by rw [gen_at hi, if_pos rfl], rfl, hx.1, hx.2.symm⟩
        · simp at hy
    · rintro ⟨j, z, e1, rfl, e2, e3⟩
      rw [gen_at hi] at e1
      by_cases hj : j = i
      · rw [if_pos hj] at e1
        cases e1
        right
        rw [if_pos ⟨e2, e3.symm⟩, hj]
        simp
      · rw [if_neg hj] at e1
        left
        refine ⟨⟨j, z, e1, rfl, e2, e3⟩, ?_⟩
        simp only
        omega
  · rw [gen_at hi] at ey ez
    by_cases ha : a = i <;> by_cases hb : b = i
    · rw [ha, hb]
    · rw [if_pos ha] at ey
      rw [if_neg hb] at ez
      cases ey
      exact absurd ec.symm (h2 sy b z hb ez sz)
    · rw [if_neg ha] at ey
      rw [if_pos hb] at ez
      cases ez
      exact absurd ec (h2 sz a y ha ey sy)
    · rw [if_neg ha] at ey
      rw [if_neg hb] at ez
      exact v.one a b y z ey ez sy sz ec
/-- Another field of it is changed alone. -/
def setH (h : Hs) (i : Nat) (x : Td) : Hs := ⟨h.L.set i x, h.Q⟩
theorem inv_set {h : Hs} (v : Inv h) {i : Nat} (hi : i < h.L.length) {x : Td} (ok : Okay x h.Q.length) (e1 : x.st = (thr h i).st) (e2 : x.p = (thr h i).p) (e3 : x.c = (thr h i).c) : Inv (setH h i x) := by
  have ei := thr_at hi
  have hat : ∀ j : Nat, (setH h i x).L[j]? = if j = i then some x else h.L[j]? := fun j => gen_at (h := h) hi x j
  have hL : (setH h i x).L.length = h.L.length := List.length_set
  refine ⟨v.lo, v.hi, by rw [hL]; exact v.few, fun y hy => ?_, v.good, fun c hc y => ?_, fun a b y z ey ez sy sz ec => ?_⟩
  · rcases List.mem_or_eq_of_mem_set hy with hy | rfl
    · exact v.each y hy
    · exact ok
  · show y ∈ que h c ↔ _
    rw [v.mem c hc y]
    constructor
    · rintro ⟨j, z, f1, rfl, f2, f3⟩
      by_cases hj : j = i
      · subst hj
        rw [ei] at f1
        cases f1
        exact ⟨j, x, by rw [hat, if_pos rfl], by rw [e2], by rw [e1]; exact f2, by rw [e3]; exact f3⟩
      · exact ⟨j, z, by rw [hat, if_neg hj]; exact f1, rfl, f2, f3⟩
    · rintro ⟨j, z, f1, rfl, f2, f3⟩
      rw [hat] at f1
      by_cases hj : j = i
      · rw [if_pos hj] at f1
        cases f1
        subst hj
        exact ⟨j, thr h j, ei, by rw [e2], by rw [← e1]; exact f2, by rw [← e3]; exact f3⟩
      · rw [if_neg hj] at f1
        exact ⟨j, z, f1, rfl, f2, f3⟩
  · rw [hat] at ey ez
    have key : ∀ (a : Nat) (y : Td), (if a = i then some x else h.L[a]?) = some y → y.st = 2 → ∃ y', h.L[a]? = some y' ∧ y'.st = 2 ∧ y'.c = y.c := by
      intro a y ey sy
      by_cases ha : a = i
      · rw [if_pos ha] at ey
        cases ey
        subst ha
        exact ⟨thr h a, ei, by rw [← e1]; exact sy, e3.symm⟩
      · rw [if_neg ha] at ey
        exact ⟨y, ey, sy, rfl⟩
    obtain ⟨y', f1, f2, f3⟩ := key a y ey sy
    obtain ⟨z', g1, g2, g3⟩ := key b z ez sz
    exact v.one a b y' z' f1 g1 f2 g2 (by rw [f3, g3]; exact ec)
end Go.Proofs.YtchamgecalfmpabDoor

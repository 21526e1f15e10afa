/-
  Items and bytes: what is right, what is printed, what is parsed, as lists; how they lie in the world; append onto a list that the call made itself; no condition of ours.
-/
import Derived.Test.YtkbbjpnkfmegnabRange
import Derived.Laws.BytesArg
import Derived.Laws.Strings2
import Derived.Laws.DeepStrings4
import Derived.Laws.OwnMore
namespace Go.Proofs.Ytkbbjpnkfmegnab
open Go.RowKit Go.Deep

/-! ### Lists -/
structure It where
  k : Int
  c : Int
  a : Int
  b : Int
def rightB (n : Int) (x : It) : Bool := decide (0 ≤ x.k ∧ x.k < 4) && (decide (0 ≤ x.c ∧ x.c < n ∧ x.c < 8) && (decide (0 ≤ x.a ∧ x.a < 256) && decide (0 ≤ x.b ∧ x.b < 256)))
theorem rightB_iff (n : Int) (x : It) : rightB n x = true ↔ (0 ≤ x.k ∧ x.k < 4) ∧ (0 ≤ x.c ∧ x.c < n ∧ x.c < 8) ∧ (0 ≤ x.a ∧ x.a < 256) ∧ 0 ≤ x.b ∧ x.b < 256 := by
  simp [rightB]
def bytesI (x : It) : List Int := [x.k, x.c, x.a, x.b]
def flat (L : List It) : List Int := L.flatMap bytesI
def items : List Int → List It
  | a :: b :: c :: d :: r => ⟨a, b, c, d⟩ :: items r
  | _ => []
theorem items_len : ∀ l : List Int, (items l).length = l.length / 4
  | [] => by simp [items]
  | [_] => by simp [items]
  | [_, _] => by simp [items]
  | [_, _, _] => by simp [items]
  | a :: b :: c :: d :: r => by
    have := items_len r
    simp only [items, List.length_cons, this]
    omega
theorem items_get : ∀ (l : List Int) (k : Nat), 4 * k + 4 ≤ l.length → (items l)[k]? = some ⟨l.getD (4 * k) 0, l.getD (4 * k + 1) 0, l.getD (4 * k + 2) 0, l.getD (4 * k + 3) 0⟩
  | [], k, h => by simp at h
  | [_], k, h => by simp at h
  | [_, _], k, h => by simp at h
  | [_, _, _], k, h => by simp at h
  | a :: b :: c :: d :: r, 0, _ => by simp [items]
  | a :: b :: c :: d :: r, k + 1, h => by
    have := items_get r k (by simp at h; omega)
    simp only [items, List.getElem?_cons_succ, this]
    simp [Nat.mul_add]
theorem items_flat_append : ∀ (L : List It) (r : List Int), items (flat L ++ r) = L ++ items r
  | [], r => rfl
  | x :: L, r => by
    have := items_flat_append L r
    simp only [flat, List.flatMap_cons, bytesI, List.cons_append, List.nil_append, items] at this ⊢
    rw [this]
theorem items_flat (L : List It) : items (flat L) = L := by simpa [items] using items_flat_append L []
theorem flat_len : ∀ L : List It, (flat L).length = 4 * L.length
  | [] => rfl
  | x :: L => by
    have := flat_len L
    simp only [flat, List.flatMap_cons, List.length_append, bytesI, List.length_cons, List.length_nil] at this ⊢
    omega
theorem flat_append (A B : List It) : flat (A ++ B) = flat A ++ flat B := by simp [flat]
theorem items_cut (l : List Int) : items (l.take (l.length / 4 * 4)) = items l := by
  apply List.ext_getElem?
  intro i
  by_cases h : 4 * i + 4 ≤ l.length
  · rw [items_get l i h, items_get _ i (by simp; omega)]
    have g : ∀ j, j < l.length / 4 * 4 → (l.take (l.length / 4 * 4)).getD j 0 = l.getD j 0 := fun j hj => by simp [hj]
    rw [g _ (by omega), g _ (by omega), g _ (by omega), g _ (by omega)]
  · rw [List.getElem?_eq_none (l := items l) (by rw [items_len]; omega), List.getElem?_eq_none (by rw [items_len, List.length_take]; omega)]
/-- Those that may be. -/
def pick (n : Int) (L : List It) : List It := L.filter (rightB n)
theorem pick_append (n : Int) (A B : List It) : pick n (A ++ B) = pick n A ++ pick n B := by simp [pick]
theorem pick_pick (n : Int) (L : List It) : pick n (pick n L) = pick n L := by simp [pick]
theorem pick_len (n : Int) (L : List It) : (pick n L).length ≤ L.length := List.length_filter_le _ _
theorem pick_hit (n : Int) (L : List It) (x : It) (h : rightB n x = true) : pick n (L ++ [x]) = pick n L ++ [x] := by simp [pick, h]
theorem pick_miss (n : Int) (L : List It) (x : It) (h : rightB n x = false) : pick n (L ++ [x]) = pick n L := by simp [pick, h]
theorem pick_none (L : List It) (n : Int) (h : n ≤ 0) : pick n L = [] := by
  simp only [pick, List.filter_eq_nil_iff]
  intro x _ hx
  rw [rightB_iff] at hx
  omega
theorem take_snoc {α : Type} {L : List α} {k : Nat} {x : α} (h : L[k]? = some x) : L.take (k + 1) = L.take k ++ [x] := by
  rw [List.take_add_one, h]; rfl
theorem take_drop_at {α : Type} {L : List α} {k : Nat} {x : α} (h : L[k]? = some x) : L = L.take k ++ x :: L.drop (k + 1) := by
  obtain ⟨hk, rfl⟩ := List.getElem?_eq_some_iff.1 h
  rw [← List.drop_eq_getElem_cons hk, List.take_append_drop]
/-- Bytes. -/
def Bytes8 (l : List Int) : Prop := ∀ x ∈ l, 0 ≤ x ∧ x < 256
theorem bytes_flat (n : Int) (L : List It) : Bytes8 (flat (pick n L)) := by
  intro x hx
  simp only [flat, List.mem_flatMap, pick, List.mem_filter, rightB_iff] at hx
  obtain ⟨y, ⟨_, h⟩, hy⟩ := hx
  simp only [bytesI, List.mem_cons, List.not_mem_nil, or_false] at hy
  rcases hy with rfl | rfl | rfl | rfl <;> omega
theorem Bytes8.append {a b : List Int} (h : Bytes8 a) (k : Bytes8 b) : Bytes8 (a ++ b) := fun x hx => (List.mem_append.1 hx).elim (h x) (k x)
theorem Bytes8.take {a : List Int} (h : Bytes8 a) (n : Nat) : Bytes8 (a.take n) := fun x hx => h x (List.mem_of_mem_take hx)

/-! ### Strings -/
theorem str_get (l : List Int) (h : Bytes8 l) (i : Nat) (hi : i < (strOfNums l).size) : (((strOfNums l)[i]'hi).toNat : Int) = l.getD i 0 := by
  have hl : i < l.length := by rwa [strOfNums_size] at hi
  have e : (strOfNums l)[i]'hi = UInt8.ofNat (l[i]).toNat := by
    show (strOfNums l).data[i] = _
    simp [strOfNums]
  have hb := h l[i] (List.getElem_mem hl)
  rw [e]
  have : (UInt8.ofNat (l[i]).toNat).toNat = (l[i]).toNat := by
    rw [UInt8.toNat_ofNat']
    exact Nat.mod_eq_of_lt (by omega)
  rw [this]
  simp only [List.getD_eq_getElem?_getD, List.getElem?_eq_getElem hl, Option.getD_some]
  omega
theorem str_extract (l : List Int) (a b : Nat) : (strOfNums l).extract a b = strOfNums ((l.drop a).take (b - a)) := by
  rw [strOfNums, ByteArray.extract_mk]
  simp [strOfNums, List.map_take, List.map_drop]
theorem str_append (a b : List Int) : strOfNums a ++ strOfNums b = strOfNums (a ++ b) := by
  apply ByteArray.ext
  simp [strOfNums]
/-- Each string's bytes. -/
def numsOf (s : ByteArray) : List Int := s.data.toList.map fun b => (b.toNat : Int)
theorem str_nums (s : ByteArray) : strOfNums (numsOf s) = s := by
  apply ByteArray.ext
  apply Array.ext'
  simp only [strOfNums, numsOf, List.map_map]
  have : (fun n : Int => UInt8.ofNat n.toNat) ∘ (fun b : UInt8 => (b.toNat : Int)) = id := by
    funext b
    simp
  rw [this]
  simp
theorem nums_bytes (s : ByteArray) : Bytes8 (numsOf s) := by
  intro x hx
  simp only [numsOf, List.mem_map] at hx
  obtain ⟨b, _, rfl⟩ := hx
  have := b.toNat_lt
  omega
theorem drop_four (l : List Int) (k : Nat) (h : k + 4 ≤ l.length) : (l.drop k).take 4 = [l.getD k 0, l.getD (k + 1) 0, l.getD (k + 2) 0, l.getD (k + 3) 0] := by
  apply List.ext_getElem?
  intro i
  by_cases hi : i < 4
  · rw [List.getElem?_take, if_pos hi, List.getElem?_drop]
    have : i = 0 ∨ i = 1 ∨ i = 2 ∨ i = 3 := by omega
    rcases this with rfl | rfl | rfl | rfl
    · rw [List.getElem?_eq_getElem (by omega)]; simp [show k < l.length by omega]
    · rw [List.getElem?_eq_getElem (by omega)]; simp [show k + 1 < l.length by omega]
    · rw [List.getElem?_eq_getElem (by omega)]; simp [show k + 2 < l.length by omega]
    · rw [List.getElem?_eq_getElem (by omega)]; simp [show k + 3 < l.length by omega]
  · rw [List.getElem?_eq_none (by simp; omega), List.getElem?_eq_none (by simp; omega)]

/-! ### Items in the world -/
theorem below_new (w : World) (o : Obj) : Below w.heap.size w (w.alloc o) := (Below.refl _ _).alloc (Nat.le_refl _) _
def fourI (x : It) : List Value := [.int .i64 x.k, .int .i64 x.c, .int .i64 x.a, .int .i64 x.b]
def encI (x : It) : Value := .agg (fourI x).toArray
def objI (x : It) : Obj := .cells (fourI x).toArray 24 (0, 0)
def cellsI (L : List It) : List Value := L.flatMap fourI
theorem cellsI_len : ∀ L : List It, (cellsI L).length = L.length * 4
  | [] => rfl
  | x :: L => by
    have := cellsI_len L
    simp only [cellsI, List.flatMap_cons, List.length_append, fourI, List.length_cons, List.length_nil] at this ⊢
    omega
theorem cellsI_append (A B : List It) : cellsI (A ++ B) = cellsI A ++ cellsI B := by simp [cellsI]
theorem cellsI_one (L : List It) : ∀ v ∈ cellsI L, v.oneCell' = true := by
  intro v hv
  simp only [cellsI, List.mem_flatMap, fourI] at hv
  obtain ⟨x, _, hx⟩ := hv
  simp only [List.mem_cons, List.not_mem_nil, or_false] at hx
  rcases hx with rfl | rfl | rfl | rfl <;> rfl
theorem cellsI_get : ∀ (L : List It) (j : Nat) (x : It), L[j]? = some x → (cellsI L)[j * 4]? = some (.int .i64 x.k) ∧ (cellsI L)[j * 4 + 1]? = some (.int .i64 x.c) ∧ (cellsI L)[j * 4 + 2]? = some (.int .i64 x.a) ∧ (cellsI L)[j * 4 + 3]? = some (.int .i64 x.b)
  | [], j, x, h => by simp at h
  | y :: L, 0, x, h => by
    simp at h
    subst h
    simp [cellsI, fourI]
  | y :: L, j + 1, x, h => by
    have := cellsI_get L j x (by simpa using h)
    have e0 : (j + 1) * 4 = j * 4 + 1 + 1 + 1 + 1 := by omega
    have e1 : (j + 1) * 4 + 1 = j * 4 + 1 + 1 + 1 + 1 + 1 := by omega
    have e2 : (j + 1) * 4 + 2 = j * 4 + 2 + 1 + 1 + 1 + 1 := by omega
    have e3 : (j + 1) * 4 + 3 = j * 4 + 3 + 1 + 1 + 1 + 1 := by omega
    simp only [cellsI, List.flatMap_cons, fourI, List.cons_append, List.nil_append] at this ⊢
    rw [e1, e2, e3, e0]
    simpa only [List.getElem?_cons_succ] using this
/-- The items L lie where the slice leads to. -/
def ToldI (w : World) (ao : Option Addr) (L : List It) : Prop := L = [] ∨ ∃ b o, ao = some ⟨b, o, none⟩ ∧ b < w.heap.size ∧ ∀ j x, L[j]? = some x →
  w.cell? ⟨b, o + j * 4, none⟩ = some (.int .i64 x.k) ∧ w.cell? ⟨b, o + j * 4 + 1, none⟩ = some (.int .i64 x.c) ∧ w.cell? ⟨b, o + j * 4 + 2, none⟩ = some (.int .i64 x.a) ∧ w.cell? ⟨b, o + j * 4 + 3, none⟩ = some (.int .i64 x.b)
theorem ToldI.of_block {w w' : World} {ao : Option Addr} {L : List It} (h : ToldI w ao L) (hs : w.heap.size ≤ w'.heap.size) (u : ∀ x, ao = some x → x.block < w.heap.size → w'.heap[x.block]? = w.heap[x.block]?) : ToldI w' ao L := by
  rcases h with h | ⟨b, o, rfl, hb, hc⟩
  · exact .inl h
  · refine .inr ⟨b, o, rfl, Nat.lt_of_lt_of_le hb hs, fun j x hj => ?_⟩
    have e : ∀ i, w'.cell? ⟨b, i, none⟩ = w.cell? ⟨b, i, none⟩ := fun i => World.cell?_of_block (a := ⟨b, i, none⟩) (u ⟨b, o, none⟩ rfl hb)
    rw [e, e, e, e]
    exact hc j x hj
theorem ToldI.below {w w' : World} {ao : Option Addr} {L : List It} (h : ToldI w ao L) (u : Below w.heap.size w w') : ToldI w' ao L := h.of_block u.size fun _ _ hx => u.block _ hx
/-- A slice of part of them. -/
theorem ToldI.take {w : World} {ao : Option Addr} {L : List It} (h : ToldI w ao L) (n : Nat) : ToldI w ao (L.take n) := by
  rcases h with rfl | ⟨b, o, rfl, hb, hc⟩
  · exact .inl (by simp)
  · refine .inr ⟨b, o, rfl, hb, fun j x hj => hc j x ?_⟩
    rw [List.getElem?_take] at hj
    split at hj
    · exact hj
    · cases hj
theorem ToldI.news {w : World} {b o : Nat} {L : List It} (h : ToldI w (some ⟨b, o, none⟩) L) : ∀ j u, (cellsI L)[j]? = some u → w.cell? ((⟨b, o, none⟩ : Addr).add j) = some u := by
  intro j u hj
  have hl := (List.getElem?_eq_some_iff.1 hj).1
  rw [cellsI_len] at hl
  rcases h with rfl | ⟨b', o', e, hb, hc⟩
  · simp at hl
  cases e
  rw [show (⟨b, o, none⟩ : Addr).add j = ⟨b, o + j, none⟩ by unfold Addr.add; split <;> simp_all]
  have hq : j / 4 < L.length := by omega
  have hx : L[j / 4]? = some L[j / 4] := List.getElem?_eq_getElem hq
  obtain ⟨c0, c1, c2, c3⟩ := hc _ _ hx
  obtain ⟨d0, d1, d2, d3⟩ := cellsI_get L _ _ hx
  have : j % 4 = 0 ∨ j % 4 = 1 ∨ j % 4 = 2 ∨ j % 4 = 3 := by omega
  rcases this with r | r | r | r
  · have e : j = j / 4 * 4 := by omega
    rw [e] at hj
    rw [d0] at hj
    rw [show o + j = o + j / 4 * 4 by omega, c0]; exact hj
  · have e : j = j / 4 * 4 + 1 := by omega
    rw [e] at hj
    rw [d1] at hj
    rw [show o + j = o + j / 4 * 4 + 1 by omega, c1]; exact hj
  · have e : j = j / 4 * 4 + 2 := by omega
    rw [e] at hj
    rw [d2] at hj
    rw [show o + j = o + j / 4 * 4 + 2 by omega, c2]; exact hj
  · have e : j = j / 4 * 4 + 3 := by omega
    rw [e] at hj
    rw [d3] at hj
    rw [show o + j = o + j / 4 * 4 + 3 by omega, c3]; exact hj
/-- The slice value v, of the call's own making from block B on, holds the items L. -/
def OwnI (B : Nat) (w : World) (v : Value) (L : List It) : Prop := w.ownsRow B 24 4 v L.length (cellsI L)
theorem OwnI.told {B : Nat} {w : World} {v : Value} {L : List It} (h : OwnI B w v L) : ∃ ao cap, v = .slice ao L.length cap ∧ ToldI w ao L ∧ L.length ≤ cap ∧ ∀ x, ao = some x → B ≤ x.block := by
  obtain ⟨_, ⟨rfl, h0⟩ | ⟨g, cap, cur, rfl, hg, hh, hn, hc, hs, ht⟩⟩ := h
  · obtain rfl : L = [] := List.eq_nil_of_length_eq_zero h0
    exact ⟨none, 0, rfl, .inl rfl, Nat.le_refl _, fun x hx => by cases hx⟩
  · refine ⟨some ⟨g, 0, none⟩, cap, rfl, .inr ⟨g, 0, rfl, (Array.getElem?_eq_some_iff.1 hh).1, fun j x hj => ?_⟩, hn, fun x hx => by cases hx; exact hg⟩
    have hl := (List.getElem?_eq_some_iff.1 hj).1
    obtain ⟨d0, d1, d2, d3⟩ := cellsI_get L j x hj
    rw [← ht, List.getElem?_take, if_pos (by omega)] at d0 d1 d2 d3
    simp only [World.cell?, hh, Nat.zero_add]
    simp only [Array.getElem?_toList] at d0 d1 d2 d3
    exact ⟨d0, d1, d2, d3⟩
theorem OwnI.block {B : Nat} {w : World} {v : Value} {L : List It} (h : OwnI B w v L) : ∀ k, v.ownBlock = some k → B ≤ k ∧ k < w.heap.size := fun k hk => World.ownsRow.lt h k hk
theorem ownI_nil (B : Nat) (w : World) : OwnI B w (.slice none 0 0) [] := World.ownsRow_nil _ _ _ _
theorem ownI_new (B : Nat) (w : World) (hB : B ≤ w.heap.size) : OwnI B (w.alloc (.cells #[] 24)) (.slice (some ⟨w.heap.size, 0, none⟩) 0 0) [] :=
  World.ownsRow_made w #[] 0 hB (by simp) rfl
theorem OwnI.of_block {B : Nat} {w w' : World} {v : Value} {L : List It} (h : OwnI B w v L) (u : ∀ k, v.ownBlock = some k → w'.heap[k]? = w.heap[k]?) : OwnI B w' v L := by
  obtain ⟨h1, ⟨rfl, h0⟩ | ⟨g, cap, cur, rfl, hg, hh, hr⟩⟩ := h
  · exact ⟨h1, .inl ⟨rfl, h0⟩⟩
  · exact ⟨h1, .inr ⟨g, cap, cur, rfl, hg, (u g rfl).trans hh, hr⟩⟩
theorem OwnI.below {B : Nat} {w w' : World} {v : Value} {L : List It} (h : OwnI B w v L) (u : Below w.heap.size w w') : OwnI B w' v L := h.of_block fun k hk => u.block k (h.block k hk).2
theorem infoI : (Try.prog.info? 24).map (fun i => (i.zero, i.size, i.bytes)) = some (some (encI ⟨0, 0, 0, 0⟩), 4, 32) := by kernel_rfl
theorem append_items (B : Nat) (w : World) (ty : TypeId) (v : Value) (A cs : List It) (ao : Option Addr) (cap : Nat) (hown : OwnI B w v A) (ht : ToldI w ao cs) (hz : ao = none → cap = 0) (hl : A.length + cs.length ≤ 1000000) (hB : B ≤ w.heap.size) :
    ∃ v' w', (Builtin.append_ #[22, 22] ty #[v, .slice ao cs.length cap]).run Try.prog w = .ok v' w' ∧ OwnI B w' v' (A ++ cs) ∧ w.grownBy w' v.ownBlock := by
  obtain ⟨i, hi, hz'⟩ := Option.map_eq_some_iff.1 infoI
  simp only [Prod.mk.injEq] at hz'
  cases ao with
  | none =>
    obtain rfl : cs = [] := by rcases ht with h | ⟨_, _, e, _⟩; exact h; cases e
    obtain rfl := hz rfl
    have hrun := run_append_owned_none (P := Try.prog) (w := w) B 22 ty 24 i 4 Try.underlying22 hi v A.length (cellsI A) hown
    exact ⟨v, w, hrun, by simpa using hown, ⟨rfl, rfl, rfl, Nat.le_refl _, fun _ _ _ => rfl⟩⟩
  | some ad =>
    have hc : ∀ j u, (cellsI cs)[j]? = some u → w.cell? (ad.add j) = some u := by
      rcases ht with rfl | ⟨b, o, e, hb, hc⟩
      · intro j u hj; simp [cellsI] at hj
      · cases e
        exact ToldI.news (.inr ⟨b, o, rfl, hb, hc⟩)
    obtain ⟨v', w', h1, h2, h3, _⟩ := run_append_own (P := Try.prog) w B 22 ty 24 i _ 4 32 Try.underlying22 hi hz'.1 hz'.2.1 hz'.2.2 rfl (by decide) v A.length (cellsI A) hown ad cs.length cap (cellsI cs) (cellsI_len cs)
      hc (cellsI_one cs) (by unfold maxLen; omega) (by omega) hB
    refine ⟨v', w', h1, ?_, h3⟩
    unfold OwnI
    rw [List.length_append, cellsI_append]
    exact h2

/-! ### Bytes in the world -/
def cells8 (L : List Int) : List Value := L.map (Value.int .u8)
theorem cells8_one (L : List Int) : ∀ v ∈ cells8 L, v.oneCell' = true := by
  intro v hv
  obtain ⟨x, _, rfl⟩ := List.mem_map.1 hv
  rfl
def Own8 (B : Nat) (w : World) (v : Value) (L : List Int) : Prop := w.ownsRow B 5 1 v L.length (cells8 L)
theorem info8 : (Try.prog.info? 5).map (fun i => (i.zero, i.size, i.bytes)) = some (some (.int .u8 0), 1, 1) := by kernel_rfl
theorem own8_nil (B : Nat) (w : World) : Own8 B w (.slice none 0 0) [] := World.ownsRow_nil _ _ _ _
theorem own8_new (B : Nat) (w : World) (hB : B ≤ w.heap.size) : Own8 B (w.alloc (.cells #[] 5)) (.slice (some ⟨w.heap.size, 0, none⟩) 0 0) [] :=
  World.ownsRow_made w #[] 0 hB (by simp) rfl
theorem Own8.block {B : Nat} {w : World} {v : Value} {L : List Int} (h : Own8 B w v L) : ∀ k, v.ownBlock = some k → B ≤ k ∧ k < w.heap.size := fun k hk => World.ownsRow.lt h k hk
theorem Own8.of_block {B : Nat} {w w' : World} {v : Value} {L : List Int} (h : Own8 B w v L) (u : ∀ k, v.ownBlock = some k → w'.heap[k]? = w.heap[k]?) : Own8 B w' v L := by
  obtain ⟨h1, ⟨rfl, h0⟩ | ⟨g, cap, cur, rfl, hg, hh, hr⟩⟩ := h
  · exact ⟨h1, .inl ⟨rfl, h0⟩⟩
  · exact ⟨h1, .inr ⟨g, cap, cur, rfl, hg, (u g rfl).trans hh, hr⟩⟩
theorem Own8.below {B : Nat} {w w' : World} {v : Value} {L : List Int} (h : Own8 B w v L) (u : Below w.heap.size w w') : Own8 B w' v L := h.of_block fun k hk => u.block k (h.block k hk).2
theorem Own8.slice {B : Nat} {w : World} {v : Value} {L : List Int} (h : Own8 B w v L) : ∃ ao cap, v = .slice ao L.length cap := by
  obtain ⟨_, ⟨rfl, h0⟩ | ⟨g, cap, cur, rfl, _⟩⟩ := h
  · exact ⟨none, 0, by rw [h0]⟩
  · exact ⟨_, cap, rfl⟩
theorem OwnI.slice {B : Nat} {w : World} {v : Value} {L : List It} (h : OwnI B w v L) : ∃ ao cap, v = .slice ao L.length cap := by
  obtain ⟨_, ⟨rfl, h0⟩ | ⟨g, cap, cur, rfl, _⟩⟩ := h
  · exact ⟨none, 0, by rw [h0]⟩
  · exact ⟨_, cap, rfl⟩
theorem append_bytes (B : Nat) (w : World) (ty : TypeId) (v : Value) (A cs : List Int) (hown : Own8 B w v A) (hl : A.length + cs.length ≤ 1000000) (hB : B ≤ w.heap.size) :
    ∃ v' w', (Builtin.append_ #[31, 31] ty #[v, .slice (some ⟨w.heap.size, 0, none⟩) cs.length cs.length]).run Try.prog (w.alloc (.cells (cells8 cs).toArray 5)) = .ok v' w' ∧ Own8 B w' v' (A ++ cs) ∧ (w.alloc (.cells (cells8 cs).toArray 5)).grownBy w' v.ownBlock := by
  obtain ⟨i, hi, hz'⟩ := Option.map_eq_some_iff.1 info8
  simp only [Prod.mk.injEq] at hz'
  obtain ⟨v', w', h1, h2, h3, _⟩ := run_append_own (P := Try.prog) (w.alloc (.cells (cells8 cs).toArray 5)) B 31 ty 5 i _ 1 1 Try.underlying31 hi hz'.1 hz'.2.1 hz'.2.2 rfl (by decide) v A.length (cells8 A)
    (Own8.below hown (below_new _ _)) ⟨w.heap.size, 0, none⟩ cs.length cs.length (cells8 cs) (by simp [cells8])
    (fun j u hj => by
      rw [show (⟨w.heap.size, 0, none⟩ : Addr).add j = ⟨w.heap.size, j, none⟩ by unfold Addr.add; split <;> simp_all]
      simp only [World.cell?, blk_alloc_new]
      simpa using hj) (cells8_one cs) (by unfold maxLen; omega) (by omega) (by simp; omega)
  refine ⟨v', w', h1, ?_, h3⟩
  unfold Own8
  rw [List.length_append, show cells8 (A ++ cs) = cells8 A ++ cells8 cs by simp [cells8]]
  exact h2
theorem to_string {B : Nat} {w : World} {v : Value} {L : List Int} (h : Own8 B w v L) : (convert 31 9 v).run Try.prog w = .ok (.string (strOfNums L)) w := by
  obtain ⟨hl, ⟨rfl, h0⟩ | ⟨g, cap, cur, rfl, hg, hh, hn, hc, hs, ht⟩⟩ := h
  · obtain rfl : L = [] := List.eq_nil_of_length_eq_zero h0
    exact run_convert_bytes_nil w 31 5 Try.underlying31 Try.underlying5 0 0 _ Try.underlying9
  · refine run_convert_bytes_arg w 31 5 Try.underlying31 Try.underlying5 g 0 L.length cap L rfl (fun i hi => ?_) _ Try.underlying9
    have e : (cells8 L)[i]? = some (.int .u8 (L.getD i 0)) := by simp [cells8, hi]
    rw [← ht, List.getElem?_take, if_pos (by omega)] at e
    simpa [World.cell?, hh] using e

/-! ### append as a law for the walk, where its run is known -/
theorem wpList_append_run {w : World} {ops : Array Oper} {rest : List Oper} {o : Oper} {a : Act} {Q : Exit → Act → World → Prop} (hgd : o.guard = none) (s x : Operand) (t : TypeId)
    (ho : o.op = .call { callee := .builtin .append, args := #[s, x], argTypes := #[t, t] }) (v y v' : Value) (w' : World) (hs : a.eval s = v) (hx : a.eval x = y)
    (hrun : (Builtin.append_ #[t, t] o.type #[v, y]).run Try.prog w = .ok v' w') (h : wpList Try.prog ops Q rest (a.put o.dst v') w') : wpList Try.prog ops Q (o :: rest) a w := by
  refine wpList_plain hgd fun K hK => ?_
  unfold Oper.wp
  simp [execOp, ho, resolve, invoke, builtin, hs, hx, hrun, Result.andThen]
  exact hK _ _ h
theorem wpListIn_append_run {F : Fence} {n : Nat} {w : World} {ops : Array Oper} {rest : List Oper} {o : Oper} {a : Act} {Q : Exit → Act → World → Prop} (hgd : o.guard = none) (s x : Operand) (t : TypeId)
    (ho : o.op = .call { callee := .builtin .append, args := #[s, x], argTypes := #[t, t] }) (v y v' : Value) (w' : World) (hs : a.eval s = v) (hx : a.eval x = y)
    (hrun : (Builtin.append_ #[t, t] o.type #[v, y]).run Try.prog w = .ok v' w') (h : wpListIn F n Try.prog ops Q rest (a.put o.dst v') w') : wpListIn F n Try.prog ops Q (o :: rest) a w := by
  refine wpListIn_plain hgd fun K hK' => ?_
  unfold Oper.wpIn
  refine ⟨?_, ?_⟩
  · simp [Oper.about, ho, resolve, Target.leads, Sem.run_pure]
  · rw [Oper.semAt_plain F _ _ (by rw [ho]; intro c hc'; cases hc')]
    simp [execOp, ho, resolve, invoke, builtin, hs, hx, hrun, Result.andThen]
    exact hK' _ _ h
end Go.Proofs.Ytkbbjpnkfmegnab

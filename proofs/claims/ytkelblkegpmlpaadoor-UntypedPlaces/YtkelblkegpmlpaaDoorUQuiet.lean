/-
  A region that draws its order, whose operations only read and whose calls lay new blocks alone, walked once; no condition of ours.
-/
import Derived.Test.YtkelblkegpmlpaaDoorUPlace
import Derived.BigQuiet
namespace Go.Proofs.YtkelblkegpmlpaaDoor
open Go.RowKit Go.Deep
/-- A world in which all blocks of w are as they were. -/
structure Grw (w : World) where
  val : World
  bel : Below w.heap.size w val
theorem wp_region_grw {id : Nat} {Q : Exit → Act → World → Prop} {a : Act} {w : World} {l : List Oper} (hm : Tryd.prog.follows .mixedOrders = true) (hB : Region.lexB .any l.toArray = true)
    (h : wpQuiet Tryd.prog l.toArray (fun w' => ∃ p : Grw w, w' = p.val) (fun a' => ∀ w', (∃ p : Grw w, w' = p.val) → Q .normal a' w') l a) : (Code.region id l.toArray true).wp Tryd.prog Q a w :=
  wp_region_quiet (C := fun w' => ∃ p : Grw w, w' = p.val) hm hB ⟨⟨{ w with drawn := w.drawn + 1 }, ⟨rfl, rfl, rfl, Nat.le_refl _, fun _ _ => rfl⟩⟩, rfl⟩ (by simpa using h)
theorem grw_of {f : FuncId} {args : Array Value} {w : World} {p : Grw w} {v : Value} (h : Calls Tryd.prog f args p.val fun e w' => e = .returned v ∧ Below p.val.heap.size p.val w') :
    Calls Tryd.prog f args p.val fun e w'' => e = .returned v ∧ ∃ p' : Grw w, w'' = p'.val :=
  h.mono fun _ w' ⟨he, hb⟩ => ⟨he, ⟨w', p.bel.trans (hb.mono p.bel.size)⟩, rfl⟩
theorem grw_same {f : FuncId} {args : Array Value} {w : World} {p : Grw w} {v : Value} (h : Calls Tryd.prog f args p.val fun e w' => e = .returned v ∧ w' = p.val) :
    Calls Tryd.prog f args p.val fun e w'' => e = .returned v ∧ ∃ p' : Grw w, w'' = p'.val :=
  h.mono fun _ _ ⟨he, hb⟩ => ⟨he, p, hb⟩
theorem grw_drew {f : FuncId} {args : Array Value} {w : World} {p : Grw w} {v : Value} (h : Calls Tryd.prog f args p.val fun e w' => e = .returned v ∧ ∃ m, w' = p.val.drewN m) :
    Calls Tryd.prog f args p.val fun e w'' => e = .returned v ∧ ∃ p' : Grw w, w'' = p'.val :=
  h.mono fun _ _ ⟨he, m, hb⟩ => ⟨he, ⟨p.val.drewN m, below_drewN p.bel m⟩, hb⟩
theorem Grw.cell {w : World} (p : Grw w) {a : Addr} {v : Value} (hb : a.block < w.heap.size) (h : w.cell? a = some v) : p.val.cell? a = some v := (p.bel.cell (p := a) hb).trans h
theorem AtU.grw {w : World} {q : Nat} {u : Un} (h : AtU w q u) : (∀ p : Grw w, p.val.cell? ⟨q, 0, none⟩ = some (.int .u64 u.base)) ∧ (∀ p : Grw w, p.val.cell? ⟨q, 1, none⟩ = some (.int .i64 u.bits)) ∧ (∀ p : Grw w, p.val.cell? ⟨q, 2, none⟩ = some (.int .u64 u.used)) :=
  ⟨fun p => p.cell h.lt h.cells.1, fun p => p.cell h.lt h.cells.2.1, fun p => p.cell h.lt h.cells.2.2⟩

/-! ### What lies beside a call -/
def objO (k b n : Int) : Obj := .cells #[.int .i64 k, .int .i64 b, .int .i64 n] 26
def AtO (w : World) (q : Nat) (k b n : Int) : Prop := w.heap[q]? = some (objO k b n)
theorem AtO.lt {w : World} {q : Nat} {k b n : Int} (h : AtO w q k b n) : q < w.heap.size := (Array.getElem?_eq_some_iff.1 h).1
theorem AtO.cells {w : World} {q : Nat} {k b n : Int} (h : AtO w q k b n) : w.cell? ⟨q, 0, none⟩ = some (.int .i64 k) ∧ w.cell? ⟨q, 1, none⟩ = some (.int .i64 b) ∧ w.cell? ⟨q, 2, none⟩ = some (.int .i64 n) := by
  unfold AtO objO at h
  refine ⟨?_, ?_, ?_⟩ <;> simp [World.cell?, h]
theorem AtO.grw {w : World} {q : Nat} {k b n : Int} (h : AtO w q k b n) : (∀ p : Grw w, p.val.cell? ⟨q, 0, none⟩ = some (.int .i64 k)) ∧ (∀ p : Grw w, p.val.cell? ⟨q, 1, none⟩ = some (.int .i64 b)) ∧ (∀ p : Grw w, p.val.cell? ⟨q, 2, none⟩ = some (.int .i64 n)) :=
  ⟨fun p => p.cell h.lt h.cells.1, fun p => p.cell h.lt h.cells.2.1, fun p => p.cell h.lt h.cells.2.2⟩
/-- From block r on all is the law's own; the blocks L and the lists M lie as said. -/
structure Kp (w0 : World) (r : Nat) (w : World) (L : List (Nat × Obj)) (M : List (Option Addr × List Int)) : Prop where
  tab : Tab w
  bel : Below r w0 w
  one : 1 ≤ r
  size : r ≤ w.heap.size
  blk : ∀ x ∈ L, w.heap[x.1]? = some x.2
  tld : ∀ m ∈ M, Told w m.1 m.2
section
variable {w0 : World} {r : Nat} {w w' : World} {L : List (Nat × Obj)} {M : List (Option Addr × List Int)}
theorem Kp.lt (h : Kp w0 r w L M) : ∀ x ∈ L, x.1 < w.heap.size := fun x hx => (Array.getElem?_eq_some_iff.1 (h.blk x hx)).1
theorem Kp.start (h : Tab w) : Kp w w.heap.size w [] [] := ⟨h, Below.refl _ _, h.size, Nat.le_refl _, fun _ h => by simp at h, fun _ h => by simp at h⟩
theorem Kp.below (h : Kp w0 r w L M) (b : Below w.heap.size w w') : Kp w0 r w' L M :=
  ⟨h.tab.grow b, h.bel.trans (b.mono h.size), h.one, Nat.le_trans h.size b.size, fun x hx => (b.block _ (h.lt x hx)).trans (h.blk x hx), fun m hm => (h.tld m hm).below b⟩
theorem Kp.grw (h : Kp w0 r w L M) (p : Grw w) : Kp w0 r p.val L M := h.below p.bel
theorem Kp.alloc (h : Kp w0 r w L M) (o : Obj) : Kp w0 r (w.alloc o) ((w.heap.size, o) :: L) M := by
  have k := h.below (below_new w o)
  refine ⟨k.tab, k.bel, k.one, k.size, fun x hx => ?_, k.tld⟩
  rcases List.mem_cons.1 hx with rfl | hx
  · exact blk_alloc_new _ _
  · exact k.blk x hx
theorem Kp.told (h : Kp w0 r w L M) {ao : Option Addr} {A : List Int} (t : Told w ao A) : Kp w0 r w L ((ao, A) :: M) :=
  ⟨h.tab, h.bel, h.one, h.size, h.blk, fun m hm => by rcases List.mem_cons.1 hm with rfl | hm; exact t; exact h.tld m hm⟩
theorem Kp.drew (h : Kp w0 r w L M) (n : Nat) : Kp w0 r (w.drewN n) L M := h.below ⟨rfl, rfl, rfl, Nat.le_refl _, fun _ _ => rfl⟩
theorem Kp.drew1 (h : Kp w0 r w L M) : Kp w0 r w.drew L M := h.below ⟨rfl, rfl, rfl, Nat.le_refl _, fun _ _ => rfl⟩
theorem Kp.atU (h : Kp w0 r w L M) (q : Nat) (u : Un) (hq : (q, objU u) ∈ L) : AtU w q u := h.blk _ hq
theorem Kp.atO (h : Kp w0 r w L M) (q : Nat) (k b n : Int) (hq : (q, objO k b n) ∈ L) : AtO w q k b n := h.blk _ hq
theorem place_kp (u : Un) (k b n : Int) (h : Kp w0 r w L M) (hf : u.Fits) (hb : -9223372036854775808 ≤ b ∧ b ≤ 9223372036854775807) (hn : -9223372036854775808 ≤ n ∧ n ≤ 9223372036854775807) :
    Calls Tryd.prog 9 #[encU u, .int .i64 k, .int .i64 b, .int .i64 n] w fun e w' => ∃ ao cap, e = .returned (.tuple #[.slice ao (plL u k b n).length cap, encU (plU u k b n), .int .i64 (plE u k b n)]) ∧ Kp w0 r w' L ((ao, plL u k b n) :: M) :=
  (place_any u k b n w h.tab hf hb hn).mono fun _ _ ⟨ao, cap, he, t, _, b⟩ => ⟨ao, cap, he, (h.below b).told t⟩
theorem size_kp (k b : Int) (h : Kp w0 r w L M) (hb : -9223372036854775808 ≤ b ∧ b ≤ 9223372036854775807) :
    Calls Tryd.prog 11 #[.int .i64 k, .int .i64 b] w fun e w' => e = .returned (.tuple #[.int .i64 (szN k b), .int .i64 (szE k b)]) ∧ Kp w0 r w' L M :=
  (size_any k b w h.tab hb).mono fun _ _ ⟨he, b⟩ => ⟨he, h.below b⟩
theorem check_kp (u : Un) (h : Kp w0 r w L M) (hf : u.Fits) :
    Calls Tryd.prog 15 #[encU u] w fun e w' => e = .returned (.int .i64 (chkE u)) ∧ Kp w0 r w' L M :=
  (check_any u w hf).mono fun _ _ ⟨he, b⟩ => ⟨he, h.below b⟩
theorem reset_kp (u : Un) (h : Kp w0 r w L M) :
    Calls Tryd.prog 17 #[encU u] w fun e w' => e = .returned (encU ⟨u.base, u.bits, 0⟩) ∧ Kp w0 r w' L M :=
  (reset_any u w).mono fun _ _ ⟨he, b⟩ => ⟨he, h.below b⟩
end
end Go.Proofs.YtkelblkegpmlpaaDoor

/-
  What the laws over package memory share: an int's lowest bits, the call of a script as it is boxed, a memory with words laid in it; no condition of ours.
-/
import Derived.Test.YtfdddikgcfejpaaMemLaid
import Derived.Test.YtfdddikgcfejpaaMemFrame
namespace Go.Proofs.Ytfdddikgcfejpaa
open Go.RowKit Go.Deep
theorem i64_mask (x : Int) (m : Nat) (hm : m ≤ 62) : bits .and .i64 x ((2 ^ m - 1 : Nat) : Int) = x % ((2 ^ m : Nat) : Int) := by
  have hp : 0 < 2 ^ m := Nat.pow_pos (by omega)
  have hq : 2 ^ m ≤ 2 ^ 62 := Nat.pow_le_pow_right (by omega) hm
  show IntKind.i64.wrap ((BitVec.ofInt 64 x &&& BitVec.ofInt 64 ((2 ^ m - 1 : Nat) : Int)).toNat : Int) = _
  have e0 : (BitVec.ofInt 64 ((2 ^ m - 1 : Nat) : Int)).toNat = 2 ^ m - 1 := by
    rw [BitVec.ofInt_natCast, BitVec.toNat_ofNat, Nat.mod_eq_of_lt (by omega)]
  rw [BitVec.toNat_and, e0, Nat.and_two_pow_sub_one_eq_mod, BitVec.toNat_ofInt]
  have e : (((x % ((2 ^ 64 : Nat) : Int)).toNat % 2 ^ m : Nat) : Int) = x % ((2 ^ m : Nat) : Int) := by
    rw [Int.natCast_emod, Int.toNat_of_nonneg (Int.emod_nonneg _ (by decide))]
    apply Int.emod_emod_of_dvd
    exact Int.natCast_dvd_natCast.2 (Nat.pow_dvd_pow 2 (by omega))
  rw [e]
  have h1 : 0 ≤ x % ((2 ^ m : Nat) : Int) := Int.emod_nonneg _ (by omega)
  have h2 : x % ((2 ^ m : Nat) : Int) < ((2 ^ m : Nat) : Int) := Int.emod_lt_of_pos _ (by omega)
  generalize x % ((2 ^ m : Nat) : Int) = y at *
  generalize 2 ^ m = p at *
  have hy : y % (2 : Int) ^ 64 = y := Int.emod_eq_of_lt h1 (by omega)
  simp only [IntKind.wrap, IntKind.bits, IntKind.signed, hy]
  rw [if_neg]
  simp
  omega
theorem mask_nat (x : Int) (m : Nat) (hm : m ≤ 62) : ∃ a : Nat, a ≤ 2 ^ m - 1 ∧ bits BinOp.and IntKind.i64 x ((2 ^ m - 1 : Nat) : Int) = (a : Int) := by
  have hp : 0 < 2 ^ m := Nat.pow_pos (by omega)
  have h1 : 0 ≤ x % ((2 ^ m : Nat) : Int) := Int.emod_nonneg _ (by omega)
  have h2 : x % ((2 ^ m : Nat) : Int) < ((2 ^ m : Nat) : Int) := Int.emod_lt_of_pos _ (by omega)
  exact ⟨(x % ((2 ^ m : Nat) : Int)).toNat, by omega, by rw [i64_mask x m hm]; omega⟩
theorem mask15 (x : Int) : ∃ a : Nat, a ≤ 15 ∧ bits BinOp.and IntKind.i64 x 15 = (a : Int) := mask_nat x 4 (by decide)
theorem mask31 (x : Int) : ∃ a : Nat, a ≤ 31 ∧ bits BinOp.and IntKind.i64 x 31 = (a : Int) := mask_nat x 5 (by decide)
theorem mask63 (x : Int) : ∃ a : Nat, a ≤ 63 ∧ bits BinOp.and IntKind.i64 x 63 = (a : Int) := mask_nat x 6 (by decide)
theorem mask65535 (x : Int) : ∃ a : Nat, a ≤ 65535 ∧ bits BinOp.and IntKind.i64 x 65535 = (a : Int) := mask_nat x 16 (by decide)
theorem rem_nat (k : Nat) (d : Int) (hd : 0 < d) : ∃ n : Nat, (n : Int) < d ∧ (k : Int) % d = (n : Int) := by
  have h1 : 0 ≤ (k : Int) % d := Int.emod_nonneg _ (by omega)
  have h2 : (k : Int) % d < d := Int.emod_lt_of_pos _ hd
  exact ⟨((k : Int) % d).toNat, by omega, by omega⟩
/-- A block of the world. -/
def At (w : World) (q : Nat) (o : Obj) : Prop := w.heap[q]? = some o
theorem At.lt {w : World} {q : Nat} {o : Obj} (h : At w q o) : q < w.heap.size := (Array.getElem?_eq_some_iff.1 h).1
theorem At.below {w w' : World} {q : Nat} {o : Obj} (h : At w q o) (u : Below w.heap.size w w') : At w' q o := (u.block _ h.lt).trans h
theorem At.upto {w w' : World} {q c : Nat} {o : Obj} (h : At w q o) (u : Upto c w w') (hc : q ≠ c) : At w' q o := (u.block _ h.lt hc).trans h
theorem At.new (w : World) (o : Obj) : At (w.alloc o) w.heap.size o := blk_alloc_new _ _
/-- The cells of a call of a script. -/
def opObj (k a f n y : Int) : Obj := .cells #[.int .i64 k, .int .i64 a, .int .i64 f, .int .i64 n, .int .u64 y] 32 (0, 0)
theorem At.op {w : World} {q : Nat} {k a f n y : Int} (h : At w q (opObj k a f n y)) :
    w.cell? ⟨q, 0, none⟩ = some (.int .i64 k) ∧ w.cell? ⟨q, 1, none⟩ = some (.int .i64 a) ∧ w.cell? ⟨q, 2, none⟩ = some (.int .i64 f) ∧ w.cell? ⟨q, 3, none⟩ = some (.int .i64 n) ∧ w.cell? ⟨q, 4, none⟩ = some (.int .u64 y) := by
  unfold At opObj at h
  refine ⟨?_, ?_, ?_, ?_, ?_⟩ <;> simp [World.cell?, h]
theorem wordsL_all (L : List Int) (n : Nat) (h : L.length = n) : wordsL L 0 n = L := by subst h; simp [wordsL]
theorem laid_law (ao : Option Addr) (L : List Int) (cap : Nat) (w : World) (ha : Told w ao L) (hl : L.length ≤ 9223372036854775807) :
    Calls Try.prog 21 #[.slice ao L.length cap] w fun e w' => ∃ b c M, e = .returned (.pointer (some ⟨b, 0, none⟩)) ∧ M.length = 32 ∧ Mem 55 w' b c M ∧ w.heap.size ≤ b ∧ w.heap.size ≤ c ∧ Below w.heap.size w w' := by
  refine (laid_any ao L cap w ha hl).mono ?_
  rintro e w' ⟨rfl, ⟨M, h1, h2⟩, h3⟩
  exact ⟨_, _, M, rfl, h1, h2, by omega, Nat.le_refl _, h3⟩
theorem told_box (w : World) (ao : Option Addr) (L : List Int) (h : Told w ao L) (o : Obj) : Told (w.alloc o) ao L := h.below (below_new _ _)
theorem Mem.heap {t : TypeId} {w w' : World} {b c : Nat} {L : List Int} (h : Mem t w b c L) (e : w'.heap = w.heap) : Mem t w' b c L := ⟨by rw [e]; exact h.head, by unfold Row; rw [e]; exact h.row, h.ne⟩
/-- A call that leaves the world as it is, in a region that draws, behind other draws. -/
theorem quiet_more {P : Program} {f : FuncId} {args : Array Value} {w : World} {a x : Nat} {v : Value} (h : Calls P f args (w.drewN (a + x)) fun e w' => e = .returned v ∧ w' = w.drewN (a + x)) :
    Calls P f args (w.drewN (a + x)) fun e w' => e = .returned v ∧ ∃ n, w' = w.drewN (a + n) := h.mono fun _ _ ⟨h1, h2⟩ => ⟨h1, x, h2⟩
/-- Where a memory that came of an earlier world lies. -/
theorem Mem.c_lt {t : TypeId} {w : World} {b c : Nat} {L : List Int} (h : Mem t w b c L) : c < w.heap.size := h.row.lt
end Go.Proofs.Ytfdddikgcfejpaa

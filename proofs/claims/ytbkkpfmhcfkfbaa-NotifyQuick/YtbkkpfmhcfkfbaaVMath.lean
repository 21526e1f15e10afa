/-
  Plain facts on a notification, without the program: is it signalled, its word, those that wait, each once, nobody while it is signalled; what each call answers, and makes of it; no condition but that this is so.
-/
import Derived.Laws.BitsAllLaws
namespace Go.Proofs.Ytbkkpfmhcfkfbaa

def U64 (x : Int) : Prop := 0 ≤ x ∧ x ≤ 18446744073709551615
/-- All bits of both. -/
def orI (a b : Int) : Int := bits .or .u64 a b
theorem or_nat {a b : Int} (ha : U64 a) (hb : U64 b) : orI a b = ((a.toNat ||| b.toNat : Nat) : Int) := u64_or a b ha.1 (by have := ha.2; omega) hb.1 (by have := hb.2; omega)
theorem or_bd {a b : Int} (ha : U64 a) (hb : U64 b) : U64 (orI a b) := by
  rw [or_nat ha hb]
  have h1 : a.toNat < 2 ^ 64 := by have := ha.1; have := ha.2; omega
  have h2 : b.toNat < 2 ^ 64 := by have := hb.1; have := hb.2; omega
  have := Nat.or_lt_two_pow h1 h2
  exact ⟨by omega, by omega⟩
theorem or_comm {a b : Int} (ha : U64 a) (hb : U64 b) : orI a b = orI b a := by rw [or_nat ha hb, or_nat hb ha, Nat.or_comm]
theorem or_assoc {a b c : Int} (ha : U64 a) (hb : U64 b) (hc : U64 c) : orI (orI a b) c = orI a (orI b c) := by
  rw [or_nat (or_bd ha hb) hc, or_nat ha (or_bd hb hc), or_nat ha hb, or_nat hb hc, Int.toNat_natCast, Int.toNat_natCast, Nat.or_assoc]
theorem u64_zero : U64 0 := ⟨by omega, by omega⟩
theorem or_zero {a : Int} (ha : U64 a) : orI a 0 = a := by
  rw [or_nat ha u64_zero]
  simp
  have := ha.1
  omega
theorem zero_or {a : Int} (ha : U64 a) : orI 0 a = a := by rw [or_comm u64_zero ha, or_zero ha]

/-- A notification: is it signalled, its word, those that wait. -/
structure Ns where
  b : Bool
  w : Int
  l : List Int
def ns0 : Ns := ⟨false, 0, []⟩
def thB (S : Ns) (n : Int) : Bool := S.l.contains n
def outL (L : List Int) (n : Int) : List Int := L.filter (· != n)
def sigN (S : Ns) : Int := match S.l with
  | [] => 0
  | x :: _ => x
def sigW (S : Ns) (g : Int) : Int := match S.l with
  | [] => 0
  | _ :: _ => g
def sigB (S : Ns) : Bool := match S.l with
  | [] => false
  | _ :: _ => true
def sigS (S : Ns) (g : Int) : Ns := match S.l with
  | [] => ⟨true, orI S.w g, []⟩
  | _ :: T => ⟨S.b, S.w, T⟩
def waitE (S : Ns) (n : Int) : Int := if thB S n = true then 120 else 0
def waitW (S : Ns) (n : Int) : Int := if thB S n = true then 0 else if S.b = true then S.w else 0
def waitB (S : Ns) (n : Int) : Bool := if thB S n = true then false else S.b
def waitS (S : Ns) (n : Int) (z : Bool) : Ns := if thB S n = true then S else if S.b = true then ⟨false, 0, S.l⟩ else if z = true then ⟨S.b, S.w, S.l ++ [n]⟩ else S
def canS (S : Ns) (n : Int) : Ns := ⟨S.b, S.w, outL S.l n⟩
/-- Each once, nobody while it is signalled; no word unless it is. -/
structure Good (S : Ns) : Prop where
  one : S.l.Nodup
  sig : S.b = true → S.l = []
  zer : S.b = false → S.w = 0
  bd : U64 S.w
theorem good_0 : Good ns0 := ⟨List.nodup_nil, fun _ => rfl, fun _ => rfl, u64_zero⟩
theorem good_sig {S : Ns} (h : Good S) {g : Int} (hg : U64 g) : Good (sigS S g) := by
  obtain ⟨b, w, l⟩ := S
  cases l with
  | nil => exact ⟨List.nodup_nil, fun _ => rfl, fun e => (by cases e), or_bd h.bd hg⟩
  | cons x T => exact ⟨(List.nodup_cons.1 h.one).2, fun e => (by have := h.sig e; cases this), h.zer, h.bd⟩
theorem thB_mem {S : Ns} {n : Int} : thB S n = true ↔ n ∈ S.l := by simp [thB]
theorem good_wait {S : Ns} (h : Good S) (n : Int) (z : Bool) : Good (waitS S n z) := by
  unfold waitS
  split
  · exact h
  · rename_i h1
    split
    · exact ⟨h.one, fun e => (by cases e), fun _ => rfl, u64_zero⟩
    · rename_i h2
      split
      · refine ⟨?_, fun e => absurd e h2, h.zer, h.bd⟩
        rw [thB_mem] at h1
        refine List.nodup_append.2 ⟨h.one, by simp, fun a ha b hb => ?_⟩
        simp at hb
        subst hb
        exact fun e => h1 (e ▸ ha)
      · exact h
theorem good_can {S : Ns} (h : Good S) (n : Int) : Good (canS S n) :=
  ⟨h.one.sublist List.filter_sublist, fun e => by
    have : S.l = [] := h.sig e
    simp [canS, outL, this], h.zer, h.bd⟩
/-- The first one out: the rest. -/
theorem out_first {x : Int} {T : List Int} (h : (x :: T).Nodup) : outL (x :: T) x = T := by
  unfold outL
  have hx := (List.nodup_cons.1 h).1
  rw [List.filter_cons, if_neg (by simp), List.filter_eq_self]
  intro y hy
  have : y ≠ x := fun e => hx (e ▸ hy)
  simpa using this
theorem out_len (L : List Int) (n : Int) : (outL L n).length ≤ L.length := List.length_filter_le _ _
/-- Who waited is out. -/
theorem out_less (L : List Int) (n : Int) : decide ((outL L n).length < L.length) = L.contains n := by
  unfold outL
  by_cases h : n ∈ L
  · have h1 : L.contains n = true := by simpa using h
    rw [h1, decide_eq_true_eq]
    refine Nat.lt_of_le_of_ne (List.length_filter_le _ _) fun e => ?_
    have := List.length_filter_eq_length_iff.1 e n h
    simp at this
  · have h1 : L.contains n = false := by simpa using h
    rw [h1, decide_eq_false_iff_not, List.filter_eq_self.2]
    · omega
    · intro y hy
      have : y ≠ n := fun e => h (e ▸ hy)
      simpa using this
theorem sig_len (S : Ns) (g : Int) : (sigS S g).l.length ≤ S.l.length := by
  obtain ⟨b, w, l⟩ := S
  cases l with
  | nil => simp [sigS]
  | cons x T => simp [sigS]
theorem wait_len (S : Ns) (n : Int) (z : Bool) : (waitS S n z).l.length ≤ S.l.length + 1 := by
  unfold waitS
  split
  · omega
  · split
    · simp
    · split
      · simp
      · omega
theorem out_none {L : List Int} {n : Int} (h : ¬ n ∈ L) : outL L n = L := by
  unfold outL
  rw [List.filter_eq_self]
  intro y hy
  have : y ≠ n := fun e => h (e ▸ hy)
  simpa using this
end Go.Proofs.Ytbkkpfmhcfkfbaa

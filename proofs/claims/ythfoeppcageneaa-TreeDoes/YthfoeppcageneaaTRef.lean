/-
  The document's own tree: how it lies in the world; what its place and end answer; no condition but that the tree is small.
-/
import Derived.Test.YthfoeppcageneaaTSep
namespace Go.Proofs.Ythfoeppcageneaa
set_option linter.unusedSectionVars false
variable [DecidableEq Sl]
open Go.RowKit Go.Deep Go.Shelf

def cI (d : Int) : List Value := [.int .i64 d]
theorem cI_len (d : Int) : (cI d).length = 1 := rfl
theorem cI_one (d : Int) : ∀ v ∈ cI d, v.oneCell' = true := by simp [cI, Value.oneCell']
/-- A list of numbers in memory from block B on. -/
def OwnI (B : Nat) (w : World) (v : Value) (D : List Int) : Prop := w.ownsRow B 3 1 v D.length (flatK cI D)
def deps (S : St) : List Int := S.map En.d
theorem deps_len (S : St) : (deps S).length = S.length := by simp [deps]
theorem deps_get {S : St} {k : Nat} (h : k < S.length) : (deps S)[k]? = some (dep S k) := by
  unfold deps
  rw [List.getElem?_map, atE_some h]
  rfl
theorem alls_len (S : St) : (allS S).length = S.length := by simp [allS]
theorem alls_get {S : St} {k : Nat} (h : k < S.length) : (allS S)[k]? = some (slt S k) := by
  unfold allS
  rw [List.getElem?_map, atE_some h]
  rfl
structure RtH (p : Nat) (a b : Value) (S : St) (w : World) : Prop where
  head : w.heap[p]? = some (.cells #[a, b] 29 (0, 0))
  rowS : OwnS 0 w a (allS S)
  rowD : OwnI 0 w b (deps S)
  good : Good S
def fpR (p : Nat) (a b : Value) : Nat → Prop := fun x => x = p ∨ a.ownBlock = some x ∨ b.ownBlock = some x
def rtT (p : Nat) (a b : Value) (S : St) : Th where
  F := fpR p a b
  H := RtH p a b S
  lt := fun _ h x hx => by
    rcases hx with rfl | hx | hx
    · exact (Array.getElem?_eq_some_iff.1 h.head).1
    · exact (World.ownsRow.lt h.rowS x hx).2
    · exact (World.ownsRow.lt h.rowD x hx).2
  keep := fun _ _ h k => ⟨(k p (.inl rfl)).trans h.head, own_of_block h.rowS fun g hg => k g (.inr (.inl hg)), own_of_block h.rowD fun g hg => k g (.inr (.inr hg)), h.good⟩
section
variable {p : Nat} {a b : Value} {S : St} {w w' : World}
theorem RtH.below (h : RtH p a b S w) (u : Below w.heap.size w w') : RtH p a b S w' := (rtT p a b S).below h u
theorem RtH.lt (h : RtH p a b S w) : p < w.heap.size := (Array.getElem?_eq_some_iff.1 h.head).1
/-- Where the slots and the depths lie. -/
theorem RtH.slices (h : RtH p a b S w) : ∃ ao ca bo cb, a = .slice ao S.length ca ∧ b = .slice bo S.length cb ∧ S.length ≤ ca ∧ ca ≤ 9223372036854775807 ∧ w.cell? ⟨p, 0, none⟩ = some (.slice ao S.length ca) ∧ w.cell? ⟨p, 1, none⟩ = some (.slice bo S.length cb) ∧
    ∀ k, k < S.length → ∃ g g', ao = some ⟨g, 0, none⟩ ∧ bo = some ⟨g', 0, none⟩ ∧ w.cell? ⟨g, k * 2, none⟩ = some (.int .i64 (slt S k).n) ∧ w.cell? ⟨g, k * 2 + 1, none⟩ = some (.int .i64 (slt S k).i) ∧ w.cell? ⟨g', k, none⟩ = some (.int .i64 (dep S k)) ∧ (∀ j, w.frozen? ⟨g, j, none⟩ = false) := by
  have h0 : w.cell? ⟨p, 0, none⟩ = some a := by simp [World.cell?, h.head]
  have h1 : w.cell? ⟨p, 1, none⟩ = some b := by simp [World.cell?, h.head]
  have rs := h.rowS
  have rd := h.rowD
  unfold OwnS at rs
  unfold OwnI at rd
  rw [alls_len] at rs
  rw [deps_len] at rd
  rcases rs.2 with ⟨rfl, e0⟩ | ⟨g, cap, cur, rfl, _, hg, hc1, hc2, _, _⟩
  · rcases rd.2 with ⟨rfl, _⟩ | ⟨g', cap', cur', rfl, _⟩
    · exact ⟨none, 0, none, 0, by rw [e0], by rw [e0], by omega, by omega, by rw [e0]; exact h0, by rw [e0]; exact h1, fun k hk => by omega⟩
    · exact ⟨none, 0, _, cap', by rw [e0], rfl, by omega, by omega, by rw [e0]; exact h0, h1, fun k hk => by omega⟩
  · rcases rd.2 with ⟨rfl, e1⟩ | ⟨g', cap', cur', rfl, _, hg', _⟩
    · exact ⟨_, cap, none, 0, rfl, by rw [e1], hc1, by unfold maxLen at hc2; omega, h0, by rw [e1]; exact h1, fun k hk => by omega⟩
    · refine ⟨_, cap, _, cap', rfl, rfl, hc1, by unfold maxLen at hc2; omega, h0, h1, fun k hk => ?_⟩
      have es := fun j hj => flatK_get cS_len (alls_get hk) (j := j) hj
      have ed := flatK_get cI_len (deps_get hk) (j := 0) (by omega)
      have c := World.ownsRow.cells rs (g := g) rfl
      have d := World.ownsRow.cells rd (g := g') rfl
      have c0 := c (k * 2 + 0) _ (es 0 (by omega))
      have c1 := c (k * 2 + 1) _ (es 1 (by omega))
      have d0 := d (k * 1 + 0) _ ed
      rw [add_none] at c0 c1 d0
      simp only [Nat.zero_add, Nat.add_zero, Nat.mul_one] at c0 c1 d0
      exact ⟨g, g', rfl, rfl, c0, c1, d0, fun j => by simp [World.frozen?, hg]⟩
end
set_option maxHeartbeats 1000000 in
theorem rplace_any (p : Nat) (a b : Value) (S : St) (s : Sl) (w : World) (h : RtH p a b S w) (hl : S.length ≤ 1000) :
    Calls Try.prog 35 #[.pointer (some ⟨p, 0, none⟩), encS s] w fun e w' => e = .returned (.int .i64 (plI S s)) ∧ Below w.heap.size w w' := by
  have b1 := below_new w (objS s)
  have HS : Hid (RtH p a b S (w.alloc (objS s))) := h.below b1
  have HA : Hid (AtS (w.alloc (objS s)) w.heap.size s) := AtS.new w s
  have HB : Hid (Below w.heap.size w (w.alloc (objS s))) := b1
  clear b1 h
  simp only [encS, objS] at *
  go_enter Try.func35, Try.ntmps35
  go_wp2
  generalize w.alloc (Obj.cells _ _) = w1 at *
  generalize hr0 : w.heap.size = r at *
  have HR : Hid (w.heap.size = r) := hr0
  clear hr0
  go_loopw [5] (fun s5 wr => ∃ k : Nat, k ≤ S.length ∧ s5 = .int .i64 k ∧ RtH p a b S wr ∧ AtS wr r s ∧ Below r w wr ∧ Hid (∀ j, j < k → slt S j ≠ s)) (fun s5 _ => S.length - (intOf s5).toNat)
  case atStart => exact ⟨0, Nat.zero_le _, rfl, HS.out, HA.out, HB.out, fun j hj => by omega⟩
  case round =>
    clear HS HA HB
    obtain ⟨k, hk, rfl, hs, ha, hb, hn⟩ := hrel
    have HK : Hid (RtH p a b S wr ∧ AtS wr r s ∧ Below r w wr) := ⟨hs, ha, hb⟩
    obtain ⟨ao, ca, bo, cb, -, -, -, -, c0, -, hx⟩ := hs.slices
    by_cases hlt : k < S.length
    · obtain ⟨g, g', rfl, -, z0, z1, -, -⟩ := hx k hlt
      obtain ⟨s0, s1⟩ := ha.cells
      have HY : Hid (k < S.length) := hlt
      have hkz : (k : Int) < (S.length : Int) := by omega
      have hq := fun W => eq_slots W (slt S k) s
      clear hlt hk hs ha hb hx
      by_cases hys : slt S k = s
      · have hd : decide (slt S k = s) = true := by simp [hys]
        rw [hd] at hq
        have HE : Hid (plI S s = (k : Int)) := by
          have e := pl_of (S := S) (s := s) (k := k) (by have := HY.out; omega) hn.out (.inr hys)
          have : hasB S s = true := by unfold hasB; rw [e]; exact decide_eq_true HY.out
          show plI S s = _
          unfold plI
          rw [this, e]
          rfl
        clear hys hd
        go_wp2
        go_quiet (fail)
        go_wp2
        go_ret
        refine ⟨by rw [HE.out]; rfl, ?_⟩
        rw [HR.out]
        exact below_drewN HK.out.2.2 _
      · have hd : decide (slt S k = s) = false := by simp [hys]
        rw [hd] at hq
        have HN : Hid (∀ j, j < k + 1 → slt S j ≠ s) := fun j hj => by
          by_cases e : j = k
          · rw [e]; exact hys
          · exact hn.out j (by omega)
        clear hys hd hn
        go_wp2
        go_quiet (fail)
        go_wp2
        go_roundw
        case rel => exact ⟨k + 1, by have := HY.out; omega, by go_num, HK.out.1.below (below_drewN (Below.refl _ _) _), HK.out.2.1.below (below_drewN (Below.refl _ _) _), below_drewN HK.out.2.2 _, HN.out⟩
        case measure => simp [intOf]; have := HY.out; omega
    · have hkz : ¬ (k : Int) < (S.length : Int) := by omega
      have HE : Hid (plI S s = -1) := by
        have e := pl_of (S := S) (s := s) (k := k) hk hn.out (.inl (by omega))
        have : hasB S s = false := by unfold hasB; rw [e]; exact decide_eq_false (by omega)
        show plI S s = _
        unfold plI
        rw [this]
        rfl
      clear hlt hk hn hs ha hb hx
      go_wp2
      go_ret
      refine ⟨by rw [HE.out]; rfl, ?_⟩
      rw [HR.out]
      exact HK.out.2.2
set_option maxHeartbeats 1000000 in
theorem rend_any (p : Nat) (a b : Value) (S : St) (i : Nat) (w : World) (h : RtH p a b S w) (hi : i < S.length) (hl : S.length ≤ 1000) :
    Calls Try.prog 36 #[.pointer (some ⟨p, 0, none⟩), .int .i64 (i : Int)] w fun e w' => e = .returned (.int .i64 ((endN S i : Nat) : Int)) ∧ Below w.heap.size w w' := by
  have HS : Hid (RtH p a b S w ∧ i < S.length) := ⟨h, hi⟩
  have hw1 : IntKind.i64.wrap ((i : Int) + 1) = (i : Int) + 1 := by rw [IntKind.wrap_i64]; omega
  have hii : (i : Int) < (S.length : Int) := by omega
  clear h hi
  go_enter Try.func36, Try.ntmps36
  go_wp2
  go_loopw [5] (fun s5 wr => ∃ k : Nat, i < k ∧ k ≤ S.length ∧ s5 = .int .i64 k ∧ RtH p a b S wr ∧ Below w.heap.size w wr ∧ Hid (∀ j, i < j → j < k → dep S i < dep S j)) (fun s5 _ => S.length - (intOf s5).toNat)
  case atStart => exact ⟨i + 1, by omega, by have := HS.out.2; omega, by go_num, HS.out.1, Below.refl _ _, fun j h1 h2 => by omega⟩
  case round =>
    obtain ⟨k, hik, hk, rfl, hs, hb, hn⟩ := hrel
    have HK : Hid (RtH p a b S wr ∧ Below w.heap.size w wr) := ⟨hs, hb⟩
    obtain ⟨ao, ca, bo, cb, -, -, -, -, c0, c1, hx⟩ := hs.slices
    obtain ⟨g, g', rfl, rfl, -, -, y2, -⟩ := hx i HS.out.2
    by_cases hlt : k < S.length
    · obtain ⟨g2, g2', e1, e2, -, -, z2, -⟩ := hx k hlt
      cases e1
      cases e2
      have HY : Hid (i < k ∧ k < S.length) := ⟨hik, hlt⟩
      have hkz : (k : Int) < (S.length : Int) := by omega
      by_cases hq : dep S k ≤ dep S i
      · have HE : Hid (endN S i = k) := endN_of HS.out.2 hik hk hn.out (.inr hq)
        clear hik hlt hk hs hb hx hn
        generalize dep S k = dk at *
        generalize dep S i = di at *
        go_wp2
        go_quiet (fail)
        go_wp2
        go_ret
        exact ⟨by rw [HE.out]; rfl, below_drewN HK.out.2 _⟩
      · have HN : Hid (∀ j, i < j → j < k + 1 → dep S i < dep S j) := fun j h1 h2 => by
          by_cases e : j = k
          · rw [e]; omega
          · exact hn.out j h1 (by omega)
        have hqd : decide (dep S k ≤ dep S i) = false := by simp; omega
        clear hik hlt hk hs hb hx hn hq
        generalize hdk : dep S k = dk at *
        clear hdk
        generalize hdi : dep S i = di at *
        clear hdi
        go_wp2
        go_quiet (fail)
        go_wp2
        go_roundw
        case rel => exact ⟨k + 1, by have := HY.out; omega, by have := HY.out; omega, by go_num, HK.out.1.below (below_drewN (Below.refl _ _) _), below_drewN HK.out.2 _, HN.out⟩
        case measure => simp [intOf]; have := HY.out; omega
    · have hkz : ¬ (k : Int) < (S.length : Int) := by omega
      have HE : Hid (endN S i = S.length) := endN_of HS.out.2 (by omega) (Nat.le_refl _) (fun m h1 h2 => hn.out m h1 (by omega)) (.inl rfl)
      clear hik hlt hk hs hb hx hn
      go_wp2
      go_ret
      exact ⟨by rw [HE.out]; rfl, HK.out.2⟩
end Go.Proofs.Ythfoeppcageneaa

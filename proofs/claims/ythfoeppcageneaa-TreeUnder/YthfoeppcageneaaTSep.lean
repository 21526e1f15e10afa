/-
  Each call of package tree while other things lie beside the tree; whether a slot is among some; whether two lists are the same; no condition but that the tree is small.
-/
import Derived.Test.YthfoeppcageneaaTAsk
import Derived.Test.YthfoeppcageneaaTAdd
import Derived.Test.YthfoeppcageneaaTTake
namespace Go.Proofs.Ythfoeppcageneaa
set_option linter.unusedSectionVars false
variable [DecidableEq Sl]
open Go.RowKit Go.Deep Go.Shelf
section
variable {w0 : World} {r : Nat} {w : World} {p : Nat} {v : Value} {S : St} {R : List Th}
theorem root_sep (s : Sl) (h : Sep w0 r w (trT p v S :: R)) (hl : S.length ≤ 1000) :
    Calls Try.prog 12 #[.pointer (some ⟨p, 0, none⟩), encS s] w fun e w' => e = .returned (.int .i64 (rootE S s)) ∧ ∃ v', Sep w0 r w' (trT p v' (rootS S s) :: R) :=
  (root_any p v S s w h.head hl).mono fun _ _ ⟨he, g⟩ => ⟨he, h.goes g⟩
theorem add_sep (a s : Sl) (h : Sep w0 r w (trT p v S :: R)) (hl : S.length ≤ 1000) :
    Calls Try.prog 24 #[.pointer (some ⟨p, 0, none⟩), encS a, encS s] w fun e w' => e = .returned (.int .i64 (addE S a s)) ∧ ∃ v', Sep w0 r w' (trT p v' (addS S a s) :: R) :=
  (add_any p v S a s w h.head hl).mono fun _ _ ⟨he, g⟩ => ⟨he, h.goes g⟩
theorem take_sep (s : Sl) (h : Sep w0 r w (trT p v S :: R)) (hl : S.length ≤ 1000) :
    Calls Try.prog 11 #[.pointer (some ⟨p, 0, none⟩), encS s] w fun e w' => e = .returned (.int .i64 (takeE S s)) ∧ ∃ v', Sep w0 r w' (trT p v' (takeS S s) :: R) :=
  (take_any p v S s w h.head hl).mono fun _ _ ⟨he, g⟩ => ⟨he, h.goes g⟩
theorem move_sep (a b : Sl) (h : Sep w0 r w (trT p v S :: R)) (hl : S.length ≤ 1000) :
    Calls Try.prog 23 #[.pointer (some ⟨p, 0, none⟩), encS a, encS b] w fun e w' => e = .returned (.int .i64 (moveE S a b)) ∧ ∃ v', Sep w0 r w' (trT p v' (moveS S a b) :: R) :=
  (move_any p v S a b w h.head hl).mono fun _ _ ⟨he, g⟩ => ⟨he, h.goes g⟩
theorem parent_sep (s : Sl) (h : Sep w0 r w (trT p v S :: R)) (hl : S.length ≤ 1000) :
    Calls Try.prog 16 #[.pointer (some ⟨p, 0, none⟩), encS s] w fun e w' => e = .returned (.tuple #[encS (parS S s), .bool (parB S s)]) ∧ Sep w0 r w' (trT p v S :: R) :=
  (parent_any p v S s w h.head hl).mono fun _ _ ⟨he, b⟩ => ⟨he, h.below b⟩
theorem OwnS.slice {B : Nat} {w : World} {u : Value} {A : List Sl} (o : OwnS B w u A) : ∃ ao cap, u = .slice ao A.length cap := by
  obtain ⟨ao, cap, e, _⟩ := o.row.slice
  exact ⟨ao, cap, e⟩
theorem under_sep (s : Sl) (h : Sep w0 r w (trT p v S :: R)) (hl : S.length ≤ 1000) :
    Calls Try.prog 15 #[.pointer (some ⟨p, 0, none⟩), encS s] w fun e w' => ∃ ao cap, e = .returned (.slice ao (underS S s).length cap) ∧ Sep w0 r w' (trT p v S :: lstS (.slice ao (underS S s).length cap) (underS S s) :: R) :=
  (underS_any p v S s w h.head hl).mono fun _ _ ⟨u, he, o, b⟩ => by
    obtain ⟨ao, cap, rfl⟩ := o.slice
    exact ⟨ao, cap, he, h.told (u := lstS (.slice ao (underS S s).length cap) (underS S s)) o.row b o.new⟩
theorem all_sep (h : Sep w0 r w (trT p v S :: R)) (hl : S.length ≤ 1000) :
    Calls Try.prog 14 #[.pointer (some ⟨p, 0, none⟩)] w fun e w' => ∃ ao cap, e = .returned (.slice ao (allS S).length cap) ∧ Sep w0 r w' (trT p v S :: lstS (.slice ao (allS S).length cap) (allS S) :: R) :=
  (all_any p v S w h.head hl).mono fun _ _ ⟨u, he, o, b⟩ => by
    obtain ⟨ao, cap, rfl⟩ := o.slice
    exact ⟨ao, cap, he, h.told (u := lstS (.slice ao (allS S).length cap) (allS S)) o.row b o.new⟩
end

/-! ### Lists -/
/-- The slots A lie where the slice leads to. -/
def SeeS (w : World) (ao : Option Addr) (A : List Sl) : Prop := ∀ j s, A[j]? = some s → ∃ b, ao = some ⟨b, 0, none⟩ ∧ b < w.heap.size ∧ w.cell? ⟨b, j * 2, none⟩ = some (.int .i64 s.n) ∧ w.cell? ⟨b, j * 2 + 1, none⟩ = some (.int .i64 s.i)
theorem RowS.see {w : World} {ao : Option Addr} {n cap : Nat} {A : List Sl} (h : RowS w (.slice ao n cap) A) : SeeS w ao A := fun j s hj => by
  obtain ⟨ao', cap', e, hg⟩ := h.slice
  cases e
  obtain ⟨g, rfl⟩ := hg j (List.getElem?_eq_some_iff.1 hj).1
  obtain ⟨h0, h1⟩ := h.cells hj
  exact ⟨g, rfl, (World.ownsRow.lt h g rfl).2, h0, h1⟩
theorem SeeS.below {w w' : World} {ao : Option Addr} {A : List Sl} (h : SeeS w ao A) (u : Below w.heap.size w w') : SeeS w' ao A := fun j s hj => by
  obtain ⟨b, e, hb, h0, h1⟩ := h j s hj
  exact ⟨b, e, Nat.lt_of_lt_of_le hb u.size, (u.cell (p := ⟨b, j * 2, none⟩) hb).trans h0, (u.cell (p := ⟨b, j * 2 + 1, none⟩) hb).trans h1⟩
def amongB (A : List Sl) (s : Sl) : Bool := decide (s ∈ A)
set_option maxHeartbeats 1000000 in
theorem among_any (ao : Option Addr) (cap : Nat) (A : List Sl) (s : Sl) (w : World) (h : SeeS w ao A) (hl : A.length ≤ 1000) :
    Calls Try.prog 22 #[.slice ao A.length cap, encS s] w fun e w' => e = .returned (.bool (amongB A s)) ∧ Below w.heap.size w w' := by
  have b1 := below_new w (objS s)
  have HS : Hid (SeeS (w.alloc (objS s)) ao A) := h.below b1
  have HA : Hid (AtS (w.alloc (objS s)) w.heap.size s) := AtS.new w s
  have HB : Hid (Below w.heap.size w (w.alloc (objS s))) := b1
  clear b1 h
  simp only [encS, objS] at *
  go_enter Try.func22, Try.ntmps22
  go_wp2
  generalize w.alloc (Obj.cells _ _) = w1 at *
  generalize hr0 : w.heap.size = r at *
  have HR : Hid (w.heap.size = r) := hr0
  clear hr0
  go_loopw [5] (fun s5 wr => ∃ k : Nat, k ≤ A.length ∧ s5 = .int .i64 k ∧ SeeS wr ao A ∧ AtS wr r s ∧ Below r w wr ∧ Hid (∀ j, j < k → A[j]? ≠ some s)) (fun s5 _ => A.length - (intOf s5).toNat)
  case atStart => exact ⟨0, Nat.zero_le _, rfl, HS.out, HA.out, HB.out, fun j hj => by omega⟩
  case round =>
    clear HS HA HB
    obtain ⟨k, hk, rfl, hs, ha, hb, hn⟩ := hrel
    have HK : Hid (SeeS wr ao A ∧ AtS wr r s ∧ Below r w wr) := ⟨hs, ha, hb⟩
    by_cases hlt : k < A.length
    · obtain ⟨y, hy⟩ : ∃ y, A[k]? = some y := ⟨_, List.getElem?_eq_getElem hlt⟩
      obtain ⟨b, rfl, -, c0, c1⟩ := hs k y hy
      obtain ⟨s0, s1⟩ := ha.cells
      have HY : Hid (A[k]? = some y ∧ k < A.length) := ⟨hy, hlt⟩
      have hkz : (k : Int) < (A.length : Int) := by omega
      have hq := fun W => eq_slots W y s
      clear hy hlt hk hs ha hb
      by_cases hys : y = s
      · have hd : decide (y = s) = true := by simp [hys]
        rw [hd] at hq
        have HE : Hid (amongB A s = true) := decide_eq_true (List.mem_of_getElem? (hys ▸ HY.out.1))
        clear hys hd
        go_wp2
        go_quiet (fail)
        go_wp2
        go_ret
        refine ⟨by rw [HE.out]; rfl, ?_⟩
        rw [HR.out]
        exact below_drewN HK.out.2.2 _
      · have hd : decide (y = s) = false := by simp [hys]
        rw [hd] at hq
        have HN : Hid (∀ j, j < k + 1 → A[j]? ≠ some s) := fun j hj => by
          by_cases e : j = k
          · subst e
            rw [HY.out.1]
            exact fun e => hys (Option.some.inj e)
          · exact hn.out j (by omega)
        clear hys hd hn
        go_wp2
        go_quiet (fail)
        go_wp2
        go_roundw
        case rel => exact ⟨k + 1, by have := HY.out.2; omega, by go_num, HK.out.1.below (below_drewN (Below.refl _ _) _), HK.out.2.1.below (below_drewN (Below.refl _ _) _), below_drewN HK.out.2.2 _, HN.out⟩
        case measure => simp [intOf]; have := HY.out.2; omega
    · have hkz : ¬ (k : Int) < (A.length : Int) := by omega
      have HE : Hid (amongB A s = false) := decide_eq_false fun hm => by
        obtain ⟨j, hj⟩ := List.mem_iff_getElem?.1 hm
        have := (List.getElem?_eq_some_iff.1 hj).1
        exact hn.out j (by omega) hj
      clear hlt hk hn hs ha hb
      go_wp2
      go_ret
      refine ⟨by rw [HE.out]; rfl, ?_⟩
      rw [HR.out]
      exact HK.out.2.2
def sameB (A B : List Sl) : Bool := decide (A = B)
set_option maxHeartbeats 1000000 in
theorem same_any (ao bo : Option Addr) (cap cap' : Nat) (A B : List Sl) (w : World) (h : SeeS w ao A) (k : SeeS w bo B) (hl : A.length ≤ 1000) :
    Calls Try.prog 18 #[.slice ao A.length cap, .slice bo B.length cap'] w fun e w' => e = .returned (.bool (sameB A B)) ∧ Below w.heap.size w w' := by
  have HS : Hid (SeeS w ao A ∧ SeeS w bo B) := ⟨h, k⟩
  clear h k
  go_enter Try.func18, Try.ntmps18
  by_cases hlen : A.length = B.length
  · have hz : ((A.length : Int) != (B.length : Int)) = false := by simp [hlen]
    have HL : Hid (A.length = B.length) := hlen
    clear hlen
    go_wp2
    go_loopw [5] (fun s5 wr => ∃ k : Nat, k ≤ A.length ∧ s5 = .int .i64 k ∧ SeeS wr ao A ∧ SeeS wr bo B ∧ Below w.heap.size w wr ∧ Hid (∀ j, j < k → A[j]? = B[j]?)) (fun s5 _ => A.length - (intOf s5).toNat)
    case atStart => exact ⟨0, Nat.zero_le _, rfl, HS.out.1, HS.out.2, Below.refl _ _, fun j hj => by omega⟩
    case round =>
      clear HS
      obtain ⟨k, hk, rfl, hs, ht, hb, hn⟩ := hrel
      have HK : Hid (SeeS wr ao A ∧ SeeS wr bo B ∧ Below w.heap.size w wr) := ⟨hs, ht, hb⟩
      by_cases hlt : k < A.length
      · obtain ⟨y, hy⟩ : ∃ y, A[k]? = some y := ⟨_, List.getElem?_eq_getElem hlt⟩
        obtain ⟨x, hx⟩ : ∃ x, B[k]? = some x := ⟨_, List.getElem?_eq_getElem (by have := HL.out; omega)⟩
        obtain ⟨b, rfl, -, c0, c1⟩ := hs k y hy
        obtain ⟨b', rfl, -, d0, d1⟩ := ht k x hx
        have HY : Hid (A[k]? = some y ∧ k < A.length ∧ B[k]? = some x) := ⟨hy, hlt, hx⟩
        have hkz : (k : Int) < (A.length : Int) := by omega
        have hkz' : (k : Int) < (B.length : Int) := by have := HL.out; omega
        have hq := fun W => eq_slots W y x
        clear hy hx hlt hk hs ht hb hz
        by_cases hys : y = x
        · have hd : decide (y = x) = true := by simp [hys]
          rw [hd] at hq
          have HN : Hid (∀ j, j < k + 1 → A[j]? = B[j]?) := fun j hj => by
            by_cases e : j = k
            · subst e
              rw [HY.out.1, HY.out.2.2, hys]
            · exact hn.out j (by omega)
          clear hys hd hn
          go_wp2
          go_quiet (fail)
          go_wp2
          go_roundw
          case rel => exact ⟨k + 1, by have := HY.out.2.1; omega, by go_num, HK.out.1.below (below_drewN (Below.refl _ _) _), HK.out.2.1.below (below_drewN (Below.refl _ _) _), below_drewN HK.out.2.2 _, HN.out⟩
          case measure => simp [intOf]; have := HY.out.2.1; omega
        · have hd : decide (y = x) = false := by simp [hys]
          rw [hd] at hq
          have HE : Hid (sameB A B = false) := decide_eq_false fun e => by
            have h1 := HY.out.1
            rw [e, HY.out.2.2] at h1
            exact hys (Option.some.inj h1).symm
          clear hys hd
          go_wp2
          go_quiet (fail)
          go_wp2
          go_ret
          exact ⟨by rw [HE.out]; rfl, below_drewN HK.out.2.2 _⟩
      · have hkz : ¬ (k : Int) < (A.length : Int) := by omega
        have HE : Hid (sameB A B = true) := decide_eq_true (List.ext_getElem? fun j => by
          by_cases hj : j < k
          · exact hn.out j hj
          · rw [List.getElem?_eq_none (by omega), List.getElem?_eq_none (by have := HL.out; omega)])
        clear hlt hk hn hs ht hb hz
        go_wp2
        go_ret
        exact ⟨by rw [HE.out]; rfl, HK.out.2.2⟩
  · have hz : ((A.length : Int) != (B.length : Int)) = true := by simp; omega
    have HE : Hid (sameB A B = false) := decide_eq_false fun e => hlen (by rw [e])
    clear hlen
    go_wp2
    go_ret
    exact ⟨by rw [HE.out]; rfl, Below.refl _ _⟩
end Go.Proofs.Ythfoeppcageneaa

/-
  Two messages are equal just if their fields are: the model's own comparison, run; what Same says of two lists of messages; no condition but that they are short.
-/
import Derived.Test.YtpapjdmnhgnpfaaMBBase
namespace Go.Proofs.Ytpapjdmnhgnpfaa
open Go.RowKit Go.Deep Go.Shelf
def mlB (x y : Ml) : Bool := x.f == y.f && (x.k == y.k && x.a == y.a)
theorem mlB_iff {x y : Ml} : mlB x y = true ↔ x = y := by
  obtain ⟨a, b, c⟩ := x
  obtain ⟨a', b', c'⟩ := y
  simp [mlB]
theorem mlB_self (x : Ml) : mlB x x = true := mlB_iff.2 rfl
theorem eq_mail (w : World) (f k a f' k' a' : Int) : (Op.equalIn 10000 35 (.agg #[.int .i64 f, .int .i64 k, .int .i64 a]) (.agg #[.int .i64 f', .int .i64 k', .int .i64 a'])).run Try.prog w = .ok (mlB ⟨f, k, a⟩ ⟨f', k', a'⟩) w := by
  have u3 := Try.underlying3
  have a3 := Try.isAgg3
  have z3 := Try.sizeOf3
  have hS : Try.prog.underlying 35 = some (.struct (Try.prog.fieldsOf 35)) := by kernel_rfl
  have hp : Try.prog.stoodInHeld 35 = false := by kernel_rfl
  rw [show (10000 : Nat) = 9999 + 1 from rfl, run_equalIn_agg w 9999 35 _ _ hS hp]
  simp only [Program.fieldsOf, Try.underlying35]
  go_simp
  unfold mlB
  by_cases h1 : f = f' <;> by_cases h2 : k = k' <;> by_cases h3 : a = a' <;> simp [h1, h2, h3]
/-- The messages A lie where the slice leads to. -/
def SeeM (w : World) (ao : Option Addr) (A : Bx) : Prop := ∀ i x, A[i]? = some x → ∃ b o, ao = some ⟨b, o, none⟩ ∧ b < w.heap.size ∧ AtM w b (o + i * 3) x
theorem AtM.below {w w' : World} {g o : Nat} {x : Ml} (h : AtM w g o x) (hg : g < w.heap.size) (k : Below w.heap.size w w') : AtM w' g o x := fun j c hj => (k.cell (p := ⟨g, o + j, none⟩) hg).trans (h j c hj)
theorem SeeM.below {w w' : World} {ao : Option Addr} {A : Bx} (h : SeeM w ao A) (k : Below w.heap.size w w') : SeeM w' ao A := fun i x hx => by
  obtain ⟨b, o, e, hb, hc⟩ := h i x hx
  exact ⟨b, o, e, Nat.lt_of_lt_of_le hb k.size, hc.below hb k⟩
theorem RowM.see {w : World} {ao : Option Addr} {n cap : Nat} {A : Bx} (h : RowM w (.slice ao n cap) A) : SeeM w ao A := fun i x hx => by
  obtain ⟨ao', cap', e, _, _, hg, _⟩ := Row.slice h
  cases e
  obtain ⟨g, rfl⟩ := hg i (List.getElem?_eq_some_iff.1 hx).1
  exact ⟨g, 0, rfl, Row.lt h rfl, by rw [Nat.zero_add]; exact RowM.at h hx⟩
theorem RowM.seeDrop {w : World} {g n cap k : Nat} {A : Bx} (h : RowM w (.slice (some ⟨g, 0, none⟩) n cap) A) : SeeM w (some ⟨g, k * 3, none⟩) (A.drop k) := fun i y hy => by
  refine ⟨g, k * 3, rfl, Row.lt h rfl, ?_⟩
  rw [← Nat.add_mul]
  exact RowM.at h (i := k + i) (by simpa using hy)
theorem seeM_nil (w : World) (ao : Option Addr) : SeeM w ao [] := fun i x hx => by simp at hx
set_option maxRecDepth 100000 in
set_option maxHeartbeats 2000000 in
theorem same_see (Q : Bool) (ao bo : Option Addr) (ca cb : Nat) (A B : Bx) (w : World) (ha : SeeM w ao A) (hb : SeeM w bo B) (hl : A.length ≤ 5000) (hQ : Q = true ↔ A = B) :
    Calls Try.prog 19 #[.slice ao A.length ca, .slice bo B.length cb] w fun e w' => e = .returned (.bool Q) ∧ Below w.heap.size w w' := by
  have HQ := hid hQ
  clear hQ
  by_cases hlen : A.length = B.length
  · have HA := hid ha
    have HB := hid hb
    have HE : Hid (∀ k, k ≤ A.length → (∀ j, j < k → A[j]? = B[j]?) → k = A.length → A = B) := fun k _ h e => by
      apply List.ext_getElem?
      intro j
      by_cases hj : j < k
      · exact h j hj
      · rw [List.getElem?_eq_none (by omega), List.getElem?_eq_none (by omega)]
    clear ha hb
    have HLB := hid hlen
    have hn' : B.length = A.length := hlen.symm
    rw [hn']
    clear hlen hn'
    generalize hn : A.length = n at *
    go_enter Try.func19, Try.ntmps19
    go_wp2
    go_loopw [5] (fun i wr => ∃ k : Nat, k ≤ n ∧ i = .int .i64 k ∧ Below w.heap.size w wr ∧ Hid (∀ j, j < k → A[j]? = B[j]?)) (fun i _ => n - (intOf i).toNat)
    case atStart => exact ⟨0, Nat.zero_le _, rfl, Below.refl _ _, fun j hj => by omega⟩
    case round =>
      obtain ⟨k, hk, rfl, bel, HJ⟩ := hrel
      by_cases hlt : k < n
      · have hA : k < A.length := by omega
        have hB : k < B.length := by have := HLB.out; omega
        obtain ⟨g, o, rfl, -, ra⟩ := (HA.out.below bel) k _ (List.getElem?_eq_getElem hA)
        obtain ⟨g', o', rfl, -, rb⟩ := (HB.out.below bel) k _ (List.getElem?_eq_getElem hB)
        have HEQ : Hid (A[k]? = some A[k] ∧ B[k]? = some B[k]) := ⟨List.getElem?_eq_getElem hA, List.getElem?_eq_getElem hB⟩
        generalize A[k] = x at *
        generalize B[k] = y at *
        obtain ⟨c0, c1, c2⟩ := ra.cells
        obtain ⟨d0, d1, d2⟩ := rb.cells
        have hltz : (k : Int) < (n : Int) := by omega
        have HBel := hid bel
        clear bel ra rb
        obtain ⟨x1, x2, x3⟩ := x
        obtain ⟨y1, y2, y3⟩ := y
        simp only at c0 c1 c2 d0 d1 d2
        have he := fun W => eq_mail W x1 x2 x3 y1 y2 y3
        cases hb : mlB ⟨x1, x2, x3⟩ ⟨y1, y2, y3⟩ with
        | true =>
          have hx := mlB_iff.1 hb
          rw [hx] at HEQ
          rw [hb] at he
          clear hb hx
          go_wp2_with fail
          go_quiet (fail)
          go_wp2
          go_round
          case rel => exact ⟨k + 1, by omega, by go_num, below_drewN HBel.out _, fun j hj => by
            by_cases e : j = k
            · rw [e, HEQ.out.1, HEQ.out.2]
            · exact HJ.out j (by omega)⟩
          case measure => simp [intOf]; omega
        | false =>
          have HN : Hid (Q = false) := by
            show Q = false
            cases eQ : Q with
            | false => rfl
            | true =>
              have e := HQ.out.1 eQ
              have h2 := HEQ.out
              rw [e] at h2
              have h3 := mlB_iff.2 (Option.some.inj (h2.1.symm.trans h2.2))
              rw [hb] at h3
              cases h3
          rw [hb] at he
          clear hb
          go_wp2_with fail
          go_quiet (fail)
          go_wp2
          go_ret
          exact ⟨ret_one (congrArg Value.bool HN.out.symm), below_drewN HBel.out _⟩
      · obtain rfl : k = n := by omega
        have HBel := hid bel
        have HN : Hid (Q = true) := HQ.out.2 (HE.out k (Nat.le_refl _) HJ.out rfl)
        clear bel
        go_wp2
        go_ret
        exact ⟨ret_one (congrArg Value.bool HN.out.symm), HBel.out⟩
  · have hne : Q = false := by
      cases eQ : Q with
      | false => rfl
      | true => exact absurd (congrArg List.length (HQ.out.1 eQ)) hlen
    rw [hne]
    have hne1 : ¬ ((A.length : Int) = (B.length : Int)) := by omega
    clear ha hb hne
    generalize A.length = n at *
    generalize B.length = m at *
    go_enter Try.func19, Try.ntmps19
    go_wp2
    go_ret
    exact ⟨rfl, Below.refl _ _⟩
theorem same_is {w0 w : World} {r : Nat} {R : List Th} {u v : Value} {A B : Bx} (h : Sep w0 r w R) (hu : lstM u A ∈ R) (hv : lstM v B ∈ R) (hl : A.length ≤ 5000) (e : A = B) :
    Calls Try.prog 19 #[u, v] w fun e w' => e = .returned (.bool true) ∧ Sep w0 r w' R := by
  have ha : RowM w u A := (h.each _ hu).1
  have hb : RowM w v B := (h.each _ hv).1
  obtain ⟨ao, ca, rfl, _⟩ := Row.slice ha
  obtain ⟨bo, cb, rfl, _⟩ := Row.slice hb
  exact (same_see true ao bo ca cb A B w ha.see hb.see hl ⟨fun _ => e, fun _ => rfl⟩).mono fun _ _ ⟨he, b⟩ => ⟨he, h.below b⟩
end Go.Proofs.Ytpapjdmnhgnpfaa

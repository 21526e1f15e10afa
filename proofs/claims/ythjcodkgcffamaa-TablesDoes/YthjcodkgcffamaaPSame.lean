/-
  What Same of the document's answer says of two rows of pages: whether they are the same; no condition but that they are short.
-/
import Derived.Test.YthjcodkgcffamaaPEq
namespace Go.Proofs.Ythjcodkgcffamaa
open Go.RowKit Go.Deep Go.Shelf
set_option maxRecDepth 100000 in
set_option maxHeartbeats 2000000 in
theorem same_any (Q : Bool) (u v : Value) (A B : List La) (w : World) (ha : Row elL w u A) (hb : Row elL w v B) (hl : A.length ≤ 5000) (hQ : Q = true ↔ A = B) :
    Calls Try.prog 25 #[u, v] w fun e w' => e = .returned (.bool Q) ∧ Below w.heap.size w w' := by
  have HQ := hid hQ
  clear hQ
  obtain ⟨ao, ca, rfl, _, _, ga, _⟩ := Row.slice ha
  obtain ⟨bo, cb, rfl, _, _, gb, _⟩ := Row.slice hb
  by_cases hlen : A.length = B.length
  · have HA := hid ha
    have HB := hid hb
    have HE : Hid (∀ k, k ≤ A.length → (∀ j, j < k → A[j]? = B[j]?) → k = A.length → A = B) := fun k _ h e => by
      apply List.ext_getElem?
      intro j
      by_cases hj : j < k
      · exact h j hj
      · rw [List.getElem?_eq_none (by omega), List.getElem?_eq_none (by omega)]
    clear ha hb
    have HLB := hid hlen
    have hn' : B.length = A.length := hlen.symm
    rw [hn'] at HB gb ⊢
    clear hlen hn'
    generalize hn : A.length = n at *
    go_enter Try.func25, Try.ntmps25
    go_wp2
    go_loopw [5] (fun i wr => ∃ k : Nat, k ≤ n ∧ i = .int .i64 k ∧ Below w.heap.size w wr ∧ Hid (∀ j, j < k → A[j]? = B[j]?)) (fun i _ => n - (intOf i).toNat)
    case atStart => exact ⟨0, Nat.zero_le _, rfl, Below.refl _ _, fun j hj => by omega⟩
    case round =>
      obtain ⟨k, hk, rfl, bel, HJ⟩ := hrel
      by_cases hlt : k < n
      · have hA : k < A.length := by omega
        have hB : k < B.length := by have := HLB.out; omega
        obtain ⟨g, rfl⟩ := ga k hlt
        obtain ⟨g', rfl⟩ := gb k hlt
        have ra := HA.out.below bel
        have rb := HB.out.below bel
        have e1 := List.getElem?_eq_getElem hA
        have e2 := List.getElem?_eq_getElem hB
        have HEQ : Hid (A[k]? = some A[k] ∧ B[k]? = some B[k]) := ⟨e1, e2⟩
        generalize A[k] = x at *
        generalize B[k] = y at *
        have c0 : wr.cell? ⟨g, k * 3, none⟩ = some (.int .i64 x.1) := ra.cell okL e1 (j := 0) rfl
        have c1 : wr.cell? ⟨g, k * 3 + 1, none⟩ = some (.int .i64 x.2.fr) := ra.cell okL e1 (j := 1) rfl
        have c2 : wr.cell? ⟨g, k * 3 + 2, none⟩ = some (.int .i64 x.2.rt) := ra.cell okL e1 (j := 2) rfl
        have d0 : wr.cell? ⟨g', k * 3, none⟩ = some (.int .i64 y.1) := rb.cell okL e2 (j := 0) rfl
        have d1 : wr.cell? ⟨g', k * 3 + 1, none⟩ = some (.int .i64 y.2.fr) := rb.cell okL e2 (j := 1) rfl
        have d2 : wr.cell? ⟨g', k * 3 + 2, none⟩ = some (.int .i64 y.2.rt) := rb.cell okL e2 (j := 2) rfl
        have hltz : (k : Int) < (n : Int) := by omega
        have HBel := hid bel
        clear bel ra rb e1 e2
        obtain ⟨x1, x2, x3⟩ := x
        obtain ⟨y1, y2, y3⟩ := y
        simp only at c0 c1 c2 d0 d1 d2
        have he := fun W => eq_laid W x1 x2 x3 y1 y2 y3
        cases hb : laB (x1, ⟨x2, x3⟩) (y1, ⟨y2, y3⟩) with
        | true =>
          have hx := laB_iff.1 hb
          rw [hx] at HEQ
          rw [hb] at he
          clear hb hx
          go_wp2_with fail
          go_quiet (fail)
          go_wp2
          go_round
          case rel => exact ⟨k + 1, by omega, by go_num, below_drewN HBel.out _, fun j hj => by
            by_cases e : j = k
            · rw [e, HEQ.out.1, HEQ.out.2]
            · exact HJ.out j (by omega)⟩
          case measure => simp [intOf]; omega
        | false =>
          have HN : Hid (Q = false) := by
            show Q = false
            cases eQ : Q with
            | false => rfl
            | true =>
              have e := HQ.out.1 eQ
              have h2 := HEQ.out
              rw [e] at h2
              have h3 := laB_iff.2 (Option.some.inj (h2.1.symm.trans h2.2))
              rw [hb] at h3
              cases h3
          rw [hb] at he
          clear hb
          go_wp2_with fail
          go_quiet (fail)
          go_wp2
          go_ret
          exact ⟨ret_one (congrArg Value.bool HN.out.symm), below_drewN HBel.out _⟩
      · obtain rfl : k = n := by omega
        have HBel := hid bel
        have HN : Hid (Q = true) := HQ.out.2 (HE.out k (Nat.le_refl _) HJ.out rfl)
        clear bel
        go_wp2
        go_ret
        exact ⟨ret_one (congrArg Value.bool HN.out.symm), HBel.out⟩
  · have hne : Q = false := by
      cases eQ : Q with
      | false => rfl
      | true => exact absurd (congrArg List.length (HQ.out.1 eQ)) hlen
    rw [hne]
    have hne1 : ¬ ((A.length : Int) = (B.length : Int)) := by omega
    clear ha hb hne ga gb
    generalize A.length = n at *
    generalize B.length = m at *
    go_enter Try.func25, Try.ntmps25
    go_wp2
    go_ret
    exact ⟨rfl, Below.refl _ _⟩
theorem same_is {w0 w : World} {r : Nat} {R : List Th} {u v : Value} {A B : List La} (h : Sep w0 r w R) (hu : lstL u A ∈ R) (hv : lstL v B ∈ R) (hl : A.length ≤ 5000) (e : A = B) :
    Calls Try.prog 25 #[u, v] w fun e w' => e = .returned (.bool true) ∧ Sep w0 r w' R :=
  (same_any true u v A B w (h.each _ hu).1 (h.each _ hv).1 hl ⟨fun _ => e, fun _ => rfl⟩).mono fun _ _ ⟨he, b⟩ => ⟨he, h.below b⟩
end Go.Proofs.Ythjcodkgcffamaa

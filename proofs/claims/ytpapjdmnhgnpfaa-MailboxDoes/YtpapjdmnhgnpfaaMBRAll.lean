/-
  What All of the document's own boxes answers, and leaves, among things that lie apart; no condition but that few messages are there.
-/
import Derived.Test.YtpapjdmnhgnpfaaMBRSend
namespace Go.Proofs.Ytpapjdmnhgnpfaa
open Go.RowKit Go.Deep Go.Shelf
def fullD (D : Dl) (T : List Nat) : Bool := T.any fun c => decide (64 ≤ (boxD D (c : Int)).length)
def rallE (n : Nat) (D : Dl) (f : Int) : Int := if hasB n f = true then (if fullD D (othersN n f) = true then 2 else 0) else 1
def rallD (n : Nat) (D : Dl) (f a b : Int) : Dl := if rallE n D f = 0 then manyD D (othersN n f) ⟨f, a, b⟩ else D
theorem many_len (D : Dl) (T : List Nat) (m : Ml) : (manyD D T m).length = D.length + T.length := by
  unfold manyD
  rw [List.length_append, List.length_map]
/-- One more of those that All sends. -/
theorem many_next {n : Nat} {D : Dl} {f : Nat} (hf : f < n) (a b : Int) {c : Nat} (hc : c < n) (hb : c ≠ f → (boxD D (c : Int)).length < 64) : rsendD n (manyD D (othersN c (f : Int)) ⟨(f : Int), a, b⟩) (f : Int) (c : Int) a b = manyD D (othersN (c + 1) (f : Int)) ⟨(f : Int), a, b⟩ := by
  have h1 : hasB n (f : Int) = true := has_nat hf
  have h2 : hasB n (c : Int) = true := has_nat hc
  unfold rsendD rsendE
  rw [h1, h2, others_more]
  by_cases e : c = f
  · subst e
    simp
  · have e1 : ¬ ((f : Int) = (c : Int)) := by omega
    have e2 : ¬ ((c : Int) = (f : Int)) := by omega
    have e3 : boxD (manyD D (othersN c (f : Int)) ⟨(f : Int), a, b⟩) (c : Int) = boxD D (c : Int) := boxD_many _ _ _ _ fun i hi => by
      have := (others_mem.1 hi).1
      omega
    have e4 : ¬ 64 ≤ (boxD D (c : Int)).length := by have := hb e; omega
    rw [e3]
    simp only [Bool.and_self, if_true, e1, e2, if_false, e4]
    rw [manyD_more]
section
variable {w0 w w' : World} {r k n : Nat} {D : Dl} {R : List Th} {u : Value}
set_option maxHeartbeats 4000000 in
set_option maxRecDepth 100000 in
theorem rall_sep (s : Sep w0 r w (blk k (objR n u) :: lstT u D :: R)) (hn : n ≤ 8) (hl : D.length ≤ 900) (f a b : Int) :
    Calls Try.prog 14 #[ptr k, .int .i64 f, .int .i64 a, .int .i64 b] w fun e w' => e = .returned (.int .i64 (rallE n D f)) ∧ ∃ u', Sep w0 r w' (blk k (objR n u') :: lstT u' (rallD n D f a b) :: R) := by
  have HF := hid (ris_any s f)
  rcases has_cases n f with h1 | ⟨i, rfl, hi, h1⟩
  · rw [h1] at HF
    have HX : Hid (rallE n D f = 1 ∧ rallD n D f a b = D) := by
      have : rallE n D f = 1 := by unfold rallE; rw [h1]; rfl
      exact ⟨this, by unfold rallD; rw [this]; rfl⟩
    have S1 := hid s
    clear s h1
    go_enter Try.func14, Try.ntmps14
    go_wp2_with (go_at_call 26; refine Calls.mono HF.out ?_; rintro e w1 ⟨rfl, hw⟩; subst hw)
    go_ret
    rw [HX.out.1, HX.out.2]
    exact ⟨rfl, _, S1.out⟩
  · rw [h1] at HF
    have HE : Hid (rallE n D (i : Int) = if fullD D (othersN n (i : Int)) = true then 2 else 0) := by
      show rallE n D (i : Int) = _
      unfold rallE
      rw [if_pos h1]
    have HD : Hid (rallD n D (i : Int) a b = if rallE n D (i : Int) = 0 then manyD D (othersN n (i : Int)) ⟨(i : Int), a, b⟩ else D) := rfl
    have S1 := hid s
    have HL := hid hl
    clear s h1 hl
    go_enter Try.func14, Try.ntmps14
    go_wp2_with fail
    refine Calls.mono HF.out ?_
    rintro e w1 ⟨rfl, hw⟩
    subst hw
    clear HF
    go_wp2_with fail
    go_loopw [9] (fun s9 wr => ∃ c : Nat, c ≤ n ∧ s9 = .int .i64 c ∧ Hid (∀ d, d < c → d ≠ i → (boxD D (d : Int)).length < 64) ∧ Sep w0 r wr (blk k (objR n u) :: lstT u D :: R)) (fun s9 _ => n - (intOf s9).toNat)
    case atStart => exact ⟨0, Nat.zero_le _, rfl, fun d hd => by omega, S1.out⟩
    case round =>
      clear S1
      obtain ⟨c, hc, rfl, HJ, s2⟩ := hrel
      obtain ⟨c0, -, -⟩ := s2.cellsR
      have S2 := hid s2
      by_cases hlt : c < n
      · have hltz : (c : Int) < (n : Int) := by omega
        by_cases e : c = i
        · have e1 : ((c : Int) == (i : Int)) = true := by simp [e]
          have e2 : ((c : Int) != (i : Int)) = false := by simp [e]
          have HC := hid e
          clear s2 e
          go_wp2
          go_roundw
          case rel => exact ⟨c + 1, by omega, by go_num, fun d hd hne => HJ.out d (by have := HC.out; omega) hne, S2.out⟩
          case measure => simp [intOf]; omega
        · have e1 : ((c : Int) == (i : Int)) = false := beq_eq_false_iff_ne.2 (by omega)
          have e2 : ((c : Int) != (i : Int)) = true := by rw [bne, e1]; rfl
          obtain ⟨z, hz⟩ : ∃ z, (boxD D (c : Int)).length = z := ⟨_, rfl⟩
          have HBz : Hid (Calls Try.prog 20 #[ptr k, .int .i64 c] wr fun e w' => ∃ ao cap, e = .returned (.slice ao z cap) ∧ Below wr.heap.size wr w') := (rbox_new s2 (by have := HL.out; omega) (c : Int)).mono fun e w' ⟨v, he, k⟩ => by
            obtain ⟨ao, cap, rfl⟩ := k.listIs (E := elM) (v := v) (A := boxD D (c : Int)) (by simp)
            rw [hz] at he
            exact ⟨ao, cap, he, k.low⟩
          have HZ := hid hz
          have HN := hid e
          by_cases hf : 64 ≤ z
          · have hfz : (z : Int) ≥ 64 := by omega
            have HX : Hid (rallE n D (i : Int) = 2 ∧ rallD n D (i : Int) a b = D) := by
              have h1 : fullD D (othersN n (i : Int)) = true := List.any_eq_true.2 ⟨c, others_mem.2 ⟨hlt, by omega⟩, by simp only [decide_eq_true_eq]; omega⟩
              have : rallE n D (i : Int) = 2 := by rw [HE.out, h1]; rfl
              exact ⟨this, by rw [HD.out, this]; rfl⟩
            clear s2 e hz hf
            go_wp2_with fail
            refine Calls.mono HBz.out ?_
            rintro e w3 ⟨a3, k3, rfl, b3⟩
            have S3 := hid (S2.out.below b3)
            clear b3 S2 HBz
            go_wp2
            go_ret
            rw [HX.out.1, HX.out.2]
            exact ⟨rfl, _, S3.out⟩
          · have hfz : ¬ ((z : Int) ≥ 64) := by omega
            have HLT : Hid (z < 64) := show z < 64 by omega
            clear s2 e hz hf
            go_wp2_with fail
            refine Calls.mono HBz.out ?_
            rintro e w3 ⟨a3, k3, rfl, b3⟩
            have S3 := hid (S2.out.below b3)
            clear b3 S2 HBz
            go_wp2
            go_roundw
            case rel => exact ⟨c + 1, by omega, by go_num, fun d hd hne => by
              by_cases h : d = c
              · rw [h, HZ.out]
                exact HLT.out
              · exact HJ.out d (by omega) hne, S3.out⟩
            case measure => simp [intOf]; omega
      · obtain rfl : c = n := by omega
        have hltz : ¬ (c : Int) < (c : Int) := by omega
        have HX : Hid (rallE c D (i : Int) = 0 ∧ rallD c D (i : Int) a b = manyD D (othersN c (i : Int)) ⟨(i : Int), a, b⟩) := by
          have h1 : fullD D (othersN c (i : Int)) = false := by
            unfold fullD
            rw [List.any_eq_false]
            intro d hd
            obtain ⟨h2, h3⟩ := others_mem.1 hd
            have := HJ.out d h2 (by omega)
            simp only [decide_eq_true_eq]
            omega
          have : rallE c D (i : Int) = 0 := by rw [HE.out, h1]; rfl
          exact ⟨this, by rw [HD.out, this]; rfl⟩
        have S3 : Hid (Sep w0 r wr (blk k (objR c u) :: lstT u (manyD D (othersN 0 (i : Int)) ⟨(i : Int), a, b⟩) :: R)) := by
          have e : manyD D (othersN 0 (i : Int)) ⟨(i : Int), a, b⟩ = D := by
            unfold manyD
            exact List.append_nil D
          rw [e]
          exact s2
        clear s2 S2 HE HD hlt
        go_wp2_with fail
        go_loopw [10] (fun s10 wx => ∃ (d : Nat) (u' : Value), d ≤ c ∧ s10 = .int .i64 d ∧ Sep w0 r wx (blk k (objR c u') :: lstT u' (manyD D (othersN d (i : Int)) ⟨(i : Int), a, b⟩) :: R)) (fun s10 _ => c - (intOf s10).toNat)
        case atStart => exact ⟨0, u, Nat.zero_le _, rfl, S3.out⟩
        case round =>
          clear S3 c0
          obtain ⟨d, u2, hd, rfl, s4⟩ := hrel
          obtain ⟨c0, -, -⟩ := s4.cellsR
          by_cases hlt : d < c
          · have hltz : (d : Int) < (c : Int) := by omega
            have hlen : (manyD D (othersN d (i : Int)) ⟨(i : Int), a, b⟩).length ≤ 1000 := by
              rw [many_len]
              have := others_le d (i : Int)
              have := HL.out
              omega
            have HS := hid (rsend_sep s4 hlen (i : Int) (d : Int) a b)
            have hnx := many_next hi a b (D := D) hlt fun h => HJ.out d hlt h
            rw [hnx] at HS
            clear s4 hlen hnx
            generalize rsendE c (manyD D (othersN d (i : Int)) ⟨(i : Int), a, b⟩) (i : Int) (d : Int) = E0 at *
            go_wp2_with fail
            refine Calls.mono HS.out ?_
            rintro e w5 ⟨rfl, u5, s5⟩
            have S5 := hid s5
            clear s5 HS
            go_wp2
            go_roundw
            case rel => exact ⟨d + 1, u5, by omega, by go_num, S5.out⟩
            case measure => simp [intOf]; omega
          · obtain rfl : d = c := by omega
            have hltz : ¬ (d : Int) < (d : Int) := by omega
            have S5 := hid s4
            clear s4
            go_wp2
            go_ret
            rw [HX.out.1, HX.out.2]
            exact ⟨rfl, _, S5.out⟩
end
end Go.Proofs.Ytpapjdmnhgnpfaa

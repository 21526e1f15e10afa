/-
  ReadyDoes: whatever is put in, taken out and turned, in any order: each answer, the next one, all lines that are named, and which are not empty, is as the document says; what is told is its owner's; the variable words.halves starts as the program's text lays it (the card ties it).
-/
import Derived.Test.YtnjmjhmngjodcaaDoorQDo
namespace Go.Proofs.YtnjmjhmngjodcaaDoor.readyDoes
open Go.RowKit Go.Deep Go.Shelf
set_option maxHeartbeats 32000000 in
set_option maxRecDepth 100000 in
theorem walk (ao : Option Addr) (X : List Oc) (cap : Nat) (w : World) (ht : Tab w) (hX : Ops w ao X) (_hxl : X.length ≤ 9223372036854775807) :
    Calls Tryd.prog 3 #[.slice ao X.length cap] w fun e w' => e = .returned (.bool true) ∧ Below w.heap.size w w' := by
  have HT := hid (Sep.tabs ht)
  clear ht
  have HX := hid hX
  clear hX
  go_enter Tryd.func3, Tryd.ntmps3
  go_wp2_with fail
  refine Calls.mono (new_sep (sep_nil w)) ?_
  rintro e w1 ⟨q, F, rfl, s1⟩
  have S1 := hid s1
  clear s1
  generalize hr : w.heap.size = r at *
  have HR := hid hr
  clear hr
  go_wp2_with fail
  have S2 := hid S1.out.newR.swap
  clear S1
  generalize w1.heap.size = k at *
  go_loopw [3, 5] (fun s3 s5 wr => ∃ (n q : Nat) (F : Nat → Prop) (v : Value) (S : St), n ≤ 80 ∧ s3 = .pointer (some ⟨q, 0, none⟩) ∧ s5 = .int .i64 n ∧ S.length ≤ n ∧ Sep w r wr [quT q F S, rtT k v S]) (fun _ s5 _ => 80 - (intOf s5).toNat)
  case atStart => exact ⟨0, q, F, _, [], by omega, rfl, rfl, by simp, S2.out⟩
  case round =>
    clear S2
    obtain ⟨n, q, F, v, S, hn, rfl, rfl, hS, s1⟩ := hrel
    by_cases hgo : n < X.length ∧ n < 80
    · obtain ⟨hlt, h80⟩ := hgo
      obtain ⟨fx, b, a, rfl, c0, c1, c2⟩ := Ops.at (SeeK.below HX.out s1.low (by rw [HR.out]; exact Nat.le_refl _)) (List.getElem?_eq_getElem hlt)
      generalize hx : X[n] = x at *
      have HF := hid fx
      have HSl : Hid (S.length ≤ n) := hS
      have HN : Hid (n < 80) := h80
      have S2 := hid (s1.box (objO x)).swap
      have HG := hid s1.good
      clear fx hx hS s1
      generalize hm : X.length = m at *
      have hltz : (n : Int) < (m : Int) := by omega
      have h80z : (n : Int) < 80 := by omega
      have hcs : x.k = 0 ∨ x.k = 1 ∨ x.k = 2 ∨ x.k = 3 ∨ (¬ x.k = 0 ∧ ¬ x.k = 1 ∧ ¬ x.k = 2 ∧ ¬ x.k = 3) := by omega
      obtain ⟨o0, o1, o2⟩ := S2.out.opAt (q := wr.heap.size) (x := x) (by simp)
      simp only [objO] at o0 o1 o2
      rcases hcs with hk | hk | hk | hk | ⟨k0, k1, k2, k3⟩
      · have e0 : (x.k == 0) = true := by simp [hk]
        clear hk
        go_wp2_with fail
        refine Calls.mono (put_sep S2.out x.p x.n HF.out.n (by have := HSl.out; have := HN.out; omega)) ?_
        rintro e w3 ⟨rfl, F3, s3⟩
        generalize wr.heap.size = q0 at *
        have S3 := hid s3.third.swap
        clear s3 o0 o1 o2
        obtain ⟨o0, o1, o2⟩ := S3.out.opAt (q := q0) (x := x) (by simp)
        go_wp2_with fail
        refine Calls.mono (rput_sep S3.out x.p x.n HF.out.n (by have := HSl.out; have := HN.out; omega)) ?_
        rintro e w4 ⟨rfl, v4, s4⟩
        have S4 := hid s4.third.swap
        clear s4
        generalize putE S x.p x.n = pe at *
        try clear o0 o1 o2
        obtain ⟨o0, o1, o2⟩ := S4.out.opAt (q := q0) (x := x) (by simp)
        go_wp2_with fail
        have HTl : Hid ((putS S x.p x.n).length ≤ n + 1) := by
          have h1 := HSl.out
          have h2 := put_len S x.p x.n
          show (putS S x.p x.n).length ≤ n + 1
          omega
        have HTh : Hid ((putS S x.p x.n).length ≤ 1000) := by
          have h1 := HTl.out
          have h2 := HN.out
          show (putS S x.p x.n).length ≤ 1000
          omega
        refine Calls.mono (next_sep S4.out HT.out) ?_
        rintro e w20 ⟨rfl, s20⟩
        have S20 := hid s20.third.swap
        clear s20
        try clear o0 o1 o2
        obtain ⟨o0, o1, o2⟩ := S20.out.opAt (q := q0) (x := x) (by simp)
        go_wp2_with fail
        refine Calls.mono (rnext_sep S20.out HTh.out) ?_
        rintro e w21 ⟨rfl, s21⟩
        have S21 := hid s21.third.swap
        clear s21
        generalize nextN (putS S x.p x.n) = nn at *
        generalize nextB (putS S x.p x.n) = zz at *
        try clear o0 o1 o2
        obtain ⟨o0, o1, o2⟩ := S21.out.opAt (q := q0) (x := x) (by simp)
        go_wp2_with fail
        refine Calls.mono (where_sep S21.out x.n HF.out.n) ?_
        rintro e _ ⟨rfl, rfl⟩
        go_wp2_with fail
        refine Calls.mono (rwhere_sep S21.out.third.swap x.n HTh.out) ?_
        rintro e _ ⟨rfl, rfl⟩
        generalize whI (putS S x.p x.n) x.n = wi at *
        generalize whB (putS S x.p x.n) x.n = wz at *
        go_wp2_with fail
        obtain ⟨x0, x1, x2, x3, hw⟩ := wd_parts (occ (putS S x.p x.n))
        have HWd := hid hw
        have heq := eq_same x0 x1 x2 x3
        clear hw
        refine Calls.mono (line_sep S21.out x.p HTh.out) ?_
        rintro e w22 ⟨v22, rfl, s22⟩
        obtain ⟨a22, cap22, ev⟩ := s22.listIs (v := v22) (A := lineI (putS S x.p x.n) x.p) (by simp)
        subst ev
        have HA : Hid ((lineI (putS S x.p x.n) x.p).length ≤ 1000) := by
          have h2 := HTh.out
          show (lineI (putS S x.p x.n) x.p).length ≤ 1000
          unfold lineI
          split
          · exact Nat.le_trans (line_len _ _) h2
          · simp
        have S22 := hid s22.fourth
        clear s22
        generalize hAA : lineI (putS S x.p x.n) x.p = A at *
        have HAA := hid hAA
        clear hAA
        try clear o0 o1 o2
        obtain ⟨o0, o1, o2⟩ := S22.out.opAt (q := q0) (x := x) (by simp)
        go_wp2_with fail
        refine Calls.mono (rline_sep S22.out x.p HTh.out) ?_
        rintro e w23 ⟨v23, rfl, s23⟩
        rw [HAA.out] at s23
        have S23 := hid s23
        clear s23
        go_wp2_with fail
        refine Calls.mono (nums_is S23.out (u := .slice a22 A.length cap22) (v := v23) (A := A) (B := A) (by simp) (by simp) HA.out rfl) ?_
        rintro e w24 ⟨rfl, s24⟩
        have S24 := hid s24.third.swap
        clear s24
        go_wp2_with fail
        refine Calls.mono (bits_is S24.out HWd.out) ?_
        rintro e w25 ⟨rfl, s25⟩
        have S25 := hid s25.third.swap
        clear s25
        go_wp2_with fail
        refine Calls.mono (rbits_is S25.out HTh.out HWd.out) ?_
        rintro e w26 ⟨rfl, s26⟩
        have S26 := hid s26.drop2.third.swap.any
        clear s26
        try clear o0 o1 o2
        go_wp2_with fail
        clear heq
        have HAl := HA.out
        generalize hA2 : A.length = al at *
        go_loopw [20] (fun s20 wx => ∃ j : Nat, j ≤ al ∧ s20 = .int .i64 j ∧ Sep w r wx [anyI (.slice a22 al cap22) al, quT q F3 (putS S x.p x.n), rtT k v4 (putS S x.p x.n), blk q0 (objO x)]) (fun s20 _ => al - (intOf s20).toNat)
        case atStart => exact ⟨0, Nat.zero_le _, rfl, S26.out⟩
        case round =>
          clear S26
          obtain ⟨j, hj, rfl, s27⟩ := hrel
          by_cases hjl : j < al
          · obtain ⟨g, rfl, ⟨y, cy⟩, fy, sy⟩ := s27.over hjl
            have SY := hid (sy 99)
            have hjz : (j : Int) < (al : Int) := by omega
            clear s27 sy
            go_wp2
            go_round
            case rel => exact ⟨j + 1, by omega, by go_num, SY.out⟩
            case measure => simp [intOf]; omega
          · obtain rfl : j = al := by omega
            have S28 := hid s27.drop.third.drop2.swap
            clear s27
            go_wp2
            go_round
            case rel => exact ⟨n + 1, q, F3, v4, putS S x.p x.n, by have := HN.out; omega, rfl, by go_num, HTl.out, S28.out⟩
            case measure => simp [intOf]; have := HN.out; omega
      · have e0 : (x.k == 0) = false := by simp [hk]
        have e1 : (x.k == 1) = true := by simp [hk]
        clear hk
        go_wp2_with fail
        refine Calls.mono (take_sep S2.out x.n HF.out.n (by have := HSl.out; have := HN.out; omega)) ?_
        rintro e w3 ⟨rfl, F3, s3⟩
        generalize wr.heap.size = q0 at *
        have S3 := hid s3.third.swap
        clear s3 o0 o1 o2
        obtain ⟨o0, o1, o2⟩ := S3.out.opAt (q := q0) (x := x) (by simp)
        go_wp2_with fail
        refine Calls.mono (rtake_sep S3.out x.n (by have := HSl.out; have := HN.out; omega)) ?_
        rintro e w4 ⟨rfl, v4, s4⟩
        have S4 := hid s4.third.swap
        clear s4
        generalize takeE S x.n = pe at *
        try clear o0 o1 o2
        obtain ⟨o0, o1, o2⟩ := S4.out.opAt (q := q0) (x := x) (by simp)
        go_wp2_with fail
        have HTl : Hid ((takeS S x.n).length ≤ n + 1) := by
          have h1 := HSl.out
          have h2 := takeS_len S x.n
          show (takeS S x.n).length ≤ n + 1
          omega
        have HTh : Hid ((takeS S x.n).length ≤ 1000) := by
          have h1 := HTl.out
          have h2 := HN.out
          show (takeS S x.n).length ≤ 1000
          omega
        refine Calls.mono (next_sep S4.out HT.out) ?_
        rintro e w20 ⟨rfl, s20⟩
        have S20 := hid s20.third.swap
        clear s20
        try clear o0 o1 o2
        obtain ⟨o0, o1, o2⟩ := S20.out.opAt (q := q0) (x := x) (by simp)
        go_wp2_with fail
        refine Calls.mono (rnext_sep S20.out HTh.out) ?_
        rintro e w21 ⟨rfl, s21⟩
        have S21 := hid s21.third.swap
        clear s21
        generalize nextN (takeS S x.n) = nn at *
        generalize nextB (takeS S x.n) = zz at *
        try clear o0 o1 o2
        obtain ⟨o0, o1, o2⟩ := S21.out.opAt (q := q0) (x := x) (by simp)
        go_wp2_with fail
        refine Calls.mono (where_sep S21.out x.n HF.out.n) ?_
        rintro e _ ⟨rfl, rfl⟩
        go_wp2_with fail
        refine Calls.mono (rwhere_sep S21.out.third.swap x.n HTh.out) ?_
        rintro e _ ⟨rfl, rfl⟩
        generalize whI (takeS S x.n) x.n = wi at *
        generalize whB (takeS S x.n) x.n = wz at *
        go_wp2_with fail
        obtain ⟨x0, x1, x2, x3, hw⟩ := wd_parts (occ (takeS S x.n))
        have HWd := hid hw
        have heq := eq_same x0 x1 x2 x3
        clear hw
        refine Calls.mono (line_sep S21.out x.p HTh.out) ?_
        rintro e w22 ⟨v22, rfl, s22⟩
        obtain ⟨a22, cap22, ev⟩ := s22.listIs (v := v22) (A := lineI (takeS S x.n) x.p) (by simp)
        subst ev
        have HA : Hid ((lineI (takeS S x.n) x.p).length ≤ 1000) := by
          have h2 := HTh.out
          show (lineI (takeS S x.n) x.p).length ≤ 1000
          unfold lineI
          split
          · exact Nat.le_trans (line_len _ _) h2
          · simp
        have S22 := hid s22.fourth
        clear s22
        generalize hAA : lineI (takeS S x.n) x.p = A at *
        have HAA := hid hAA
        clear hAA
        try clear o0 o1 o2
        obtain ⟨o0, o1, o2⟩ := S22.out.opAt (q := q0) (x := x) (by simp)
        go_wp2_with fail
        refine Calls.mono (rline_sep S22.out x.p HTh.out) ?_
        rintro e w23 ⟨v23, rfl, s23⟩
        rw [HAA.out] at s23
        have S23 := hid s23
        clear s23
        go_wp2_with fail
        refine Calls.mono (nums_is S23.out (u := .slice a22 A.length cap22) (v := v23) (A := A) (B := A) (by simp) (by simp) HA.out rfl) ?_
        rintro e w24 ⟨rfl, s24⟩
        have S24 := hid s24.third.swap
        clear s24
        go_wp2_with fail
        refine Calls.mono (bits_is S24.out HWd.out) ?_
        rintro e w25 ⟨rfl, s25⟩
        have S25 := hid s25.third.swap
        clear s25
        go_wp2_with fail
        refine Calls.mono (rbits_is S25.out HTh.out HWd.out) ?_
        rintro e w26 ⟨rfl, s26⟩
        have S26 := hid s26.drop2.third.swap.any
        clear s26
        try clear o0 o1 o2
        go_wp2_with fail
        clear heq
        have HAl := HA.out
        generalize hA2 : A.length = al at *
        go_loopw [20] (fun s20 wx => ∃ j : Nat, j ≤ al ∧ s20 = .int .i64 j ∧ Sep w r wx [anyI (.slice a22 al cap22) al, quT q F3 (takeS S x.n), rtT k v4 (takeS S x.n), blk q0 (objO x)]) (fun s20 _ => al - (intOf s20).toNat)
        case atStart => exact ⟨0, Nat.zero_le _, rfl, S26.out⟩
        case round =>
          clear S26
          obtain ⟨j, hj, rfl, s27⟩ := hrel
          by_cases hjl : j < al
          · obtain ⟨g, rfl, ⟨y, cy⟩, fy, sy⟩ := s27.over hjl
            have SY := hid (sy 99)
            have hjz : (j : Int) < (al : Int) := by omega
            clear s27 sy
            go_wp2
            go_round
            case rel => exact ⟨j + 1, by omega, by go_num, SY.out⟩
            case measure => simp [intOf]; omega
          · obtain rfl : j = al := by omega
            have S28 := hid s27.drop.third.drop2.swap
            clear s27
            go_wp2
            go_round
            case rel => exact ⟨n + 1, q, F3, v4, takeS S x.n, by have := HN.out; omega, rfl, by go_num, HTl.out, S28.out⟩
            case measure => simp [intOf]; have := HN.out; omega
      · have e0 : (x.k == 0) = false := by simp [hk]
        have e1 : (x.k == 1) = false := by simp [hk]
        have e2 : (x.k == 2) = true := by simp [hk]
        clear hk
        go_wp2_with fail
        refine Calls.mono (turn_sep S2.out HT.out (by have := HSl.out; have := HN.out; omega)) ?_
        rintro e w3 ⟨rfl, F3, s3⟩
        generalize wr.heap.size = q0 at *
        have S3 := hid s3.third.swap
        clear s3 o0 o1 o2
        obtain ⟨o0, o1, o2⟩ := S3.out.opAt (q := q0) (x := x) (by simp)
        go_wp2_with fail
        refine Calls.mono (rturn_sep S3.out (by have := HSl.out; have := HN.out; omega)) ?_
        rintro e w4 ⟨rfl, v4, s4⟩
        have S4 := hid s4.third.swap
        clear s4
        generalize nextB S = zt at *
        try clear o0 o1 o2
        obtain ⟨o0, o1, o2⟩ := S4.out.opAt (q := q0) (x := x) (by simp)
        go_wp2_with fail
        have HTl : Hid ((turnS S).length ≤ n + 1) := by
          have h1 := HSl.out
          have h2 := turn_len HG.out
          show (turnS S).length ≤ n + 1
          omega
        have HTh : Hid ((turnS S).length ≤ 1000) := by
          have h1 := HTl.out
          have h2 := HN.out
          show (turnS S).length ≤ 1000
          omega
        refine Calls.mono (next_sep S4.out HT.out) ?_
        rintro e w20 ⟨rfl, s20⟩
        have S20 := hid s20.third.swap
        clear s20
        try clear o0 o1 o2
        obtain ⟨o0, o1, o2⟩ := S20.out.opAt (q := q0) (x := x) (by simp)
        go_wp2_with fail
        refine Calls.mono (rnext_sep S20.out HTh.out) ?_
        rintro e w21 ⟨rfl, s21⟩
        have S21 := hid s21.third.swap
        clear s21
        generalize nextN (turnS S) = nn at *
        generalize nextB (turnS S) = zz at *
        try clear o0 o1 o2
        obtain ⟨o0, o1, o2⟩ := S21.out.opAt (q := q0) (x := x) (by simp)
        go_wp2_with fail
        refine Calls.mono (where_sep S21.out x.n HF.out.n) ?_
        rintro e _ ⟨rfl, rfl⟩
        go_wp2_with fail
        refine Calls.mono (rwhere_sep S21.out.third.swap x.n HTh.out) ?_
        rintro e _ ⟨rfl, rfl⟩
        generalize whI (turnS S) x.n = wi at *
        generalize whB (turnS S) x.n = wz at *
        go_wp2_with fail
        obtain ⟨x0, x1, x2, x3, hw⟩ := wd_parts (occ (turnS S))
        have HWd := hid hw
        have heq := eq_same x0 x1 x2 x3
        clear hw
        refine Calls.mono (line_sep S21.out x.p HTh.out) ?_
        rintro e w22 ⟨v22, rfl, s22⟩
        obtain ⟨a22, cap22, ev⟩ := s22.listIs (v := v22) (A := lineI (turnS S) x.p) (by simp)
        subst ev
        have HA : Hid ((lineI (turnS S) x.p).length ≤ 1000) := by
          have h2 := HTh.out
          show (lineI (turnS S) x.p).length ≤ 1000
          unfold lineI
          split
          · exact Nat.le_trans (line_len _ _) h2
          · simp
        have S22 := hid s22.fourth
        clear s22
        generalize hAA : lineI (turnS S) x.p = A at *
        have HAA := hid hAA
        clear hAA
        try clear o0 o1 o2
        obtain ⟨o0, o1, o2⟩ := S22.out.opAt (q := q0) (x := x) (by simp)
        go_wp2_with fail
        refine Calls.mono (rline_sep S22.out x.p HTh.out) ?_
        rintro e w23 ⟨v23, rfl, s23⟩
        rw [HAA.out] at s23
        have S23 := hid s23
        clear s23
        go_wp2_with fail
        refine Calls.mono (nums_is S23.out (u := .slice a22 A.length cap22) (v := v23) (A := A) (B := A) (by simp) (by simp) HA.out rfl) ?_
        rintro e w24 ⟨rfl, s24⟩
        have S24 := hid s24.third.swap
        clear s24
        go_wp2_with fail
        refine Calls.mono (bits_is S24.out HWd.out) ?_
        rintro e w25 ⟨rfl, s25⟩
        have S25 := hid s25.third.swap
        clear s25
        go_wp2_with fail
        refine Calls.mono (rbits_is S25.out HTh.out HWd.out) ?_
        rintro e w26 ⟨rfl, s26⟩
        have S26 := hid s26.drop2.third.swap.any
        clear s26
        try clear o0 o1 o2
        go_wp2_with fail
        clear heq
        have HAl := HA.out
        generalize hA2 : A.length = al at *
        go_loopw [20] (fun s20 wx => ∃ j : Nat, j ≤ al ∧ s20 = .int .i64 j ∧ Sep w r wx [anyI (.slice a22 al cap22) al, quT q F3 (turnS S), rtT k v4 (turnS S), blk q0 (objO x)]) (fun s20 _ => al - (intOf s20).toNat)
        case atStart => exact ⟨0, Nat.zero_le _, rfl, S26.out⟩
        case round =>
          clear S26
          obtain ⟨j, hj, rfl, s27⟩ := hrel
          by_cases hjl : j < al
          · obtain ⟨g, rfl, ⟨y, cy⟩, fy, sy⟩ := s27.over hjl
            have SY := hid (sy 99)
            have hjz : (j : Int) < (al : Int) := by omega
            clear s27 sy
            go_wp2
            go_round
            case rel => exact ⟨j + 1, by omega, by go_num, SY.out⟩
            case measure => simp [intOf]; omega
          · obtain rfl : j = al := by omega
            have S28 := hid s27.drop.third.drop2.swap
            clear s27
            go_wp2
            go_round
            case rel => exact ⟨n + 1, q, F3, v4, turnS S, by have := HN.out; omega, rfl, by go_num, HTl.out, S28.out⟩
            case measure => simp [intOf]; have := HN.out; omega
      · have e0 : (x.k == 0) = false := by simp [hk]
        have e1 : (x.k == 1) = false := by simp [hk]
        have e2 : (x.k == 2) = false := by simp [hk]
        have e3 : (x.k == 3) = true := by simp [hk]
        clear hk
        go_wp2_with fail
        refine Calls.mono (copy_sep S2.out (by have := HSl.out; have := HN.out; omega)) ?_
        rintro e w3 ⟨q2, F3, rfl, s3⟩
        generalize wr.heap.size = q0 at *
        have S3 := hid s3.swap
        clear s3 o0 o1 o2
        obtain ⟨o0, o1, o2⟩ := S3.out.opAt (q := q0) (x := x) (by simp)
        go_wp2_with fail
        refine Calls.mono (put_sep S3.out 200 777 (by unfold I64; omega) (by have := HSl.out; have := HN.out; omega)) ?_
        rintro e w4 ⟨rfl, F4, s4⟩
        have S4 := hid s4
        clear s4
        have HPl : Hid ((putS S 200 777).length ≤ 1000) := by
          have h1 := HSl.out
          have h2 := HN.out
          have h3 := put_len S 200 777
          show (putS S 200 777).length ≤ 1000
          omega
        try clear o0 o1 o2
        obtain ⟨o0, o1, o2⟩ := S4.out.opAt (q := q0) (x := x) (by simp)
        go_wp2_with fail
        refine Calls.mono (take_sep S4.out x.n HF.out.n HPl.out) ?_
        rintro e w5 ⟨rfl, F5, s5⟩
        have S5 := hid s5.drop
        clear s5
        try clear o0 o1 o2
        obtain ⟨o0, o1, o2⟩ := S5.out.opAt (q := q0) (x := x) (by simp)
        go_wp2_with fail
        have HTl : Hid ((S).length ≤ n + 1) := by
          have h1 := HSl.out
          have h2 := HN.out
          show (S).length ≤ n + 1
          omega
        have HTh : Hid ((S).length ≤ 1000) := by
          have h1 := HTl.out
          have h2 := HN.out
          show (S).length ≤ 1000
          omega
        refine Calls.mono (next_sep S5.out HT.out) ?_
        rintro e w20 ⟨rfl, s20⟩
        have S20 := hid s20.third.swap
        clear s20
        try clear o0 o1 o2
        obtain ⟨o0, o1, o2⟩ := S20.out.opAt (q := q0) (x := x) (by simp)
        go_wp2_with fail
        refine Calls.mono (rnext_sep S20.out HTh.out) ?_
        rintro e w21 ⟨rfl, s21⟩
        have S21 := hid s21.third.swap
        clear s21
        generalize nextN (S) = nn at *
        generalize nextB (S) = zz at *
        try clear o0 o1 o2
        obtain ⟨o0, o1, o2⟩ := S21.out.opAt (q := q0) (x := x) (by simp)
        go_wp2_with fail
        refine Calls.mono (where_sep S21.out x.n HF.out.n) ?_
        rintro e _ ⟨rfl, rfl⟩
        go_wp2_with fail
        refine Calls.mono (rwhere_sep S21.out.third.swap x.n HTh.out) ?_
        rintro e _ ⟨rfl, rfl⟩
        generalize whI (S) x.n = wi at *
        generalize whB (S) x.n = wz at *
        go_wp2_with fail
        obtain ⟨x0, x1, x2, x3, hw⟩ := wd_parts (occ (S))
        have HWd := hid hw
        have heq := eq_same x0 x1 x2 x3
        clear hw
        refine Calls.mono (line_sep S21.out x.p HTh.out) ?_
        rintro e w22 ⟨v22, rfl, s22⟩
        obtain ⟨a22, cap22, ev⟩ := s22.listIs (v := v22) (A := lineI (S) x.p) (by simp)
        subst ev
        have HA : Hid ((lineI (S) x.p).length ≤ 1000) := by
          have h2 := HTh.out
          show (lineI (S) x.p).length ≤ 1000
          unfold lineI
          split
          · exact Nat.le_trans (line_len _ _) h2
          · simp
        have S22 := hid s22.fourth
        clear s22
        generalize hAA : lineI (S) x.p = A at *
        have HAA := hid hAA
        clear hAA
        try clear o0 o1 o2
        obtain ⟨o0, o1, o2⟩ := S22.out.opAt (q := q0) (x := x) (by simp)
        go_wp2_with fail
        refine Calls.mono (rline_sep S22.out x.p HTh.out) ?_
        rintro e w23 ⟨v23, rfl, s23⟩
        rw [HAA.out] at s23
        have S23 := hid s23
        clear s23
        go_wp2_with fail
        refine Calls.mono (nums_is S23.out (u := .slice a22 A.length cap22) (v := v23) (A := A) (B := A) (by simp) (by simp) HA.out rfl) ?_
        rintro e w24 ⟨rfl, s24⟩
        have S24 := hid s24.third.swap
        clear s24
        go_wp2_with fail
        refine Calls.mono (bits_is S24.out HWd.out) ?_
        rintro e w25 ⟨rfl, s25⟩
        have S25 := hid s25.third.swap
        clear s25
        go_wp2_with fail
        refine Calls.mono (rbits_is S25.out HTh.out HWd.out) ?_
        rintro e w26 ⟨rfl, s26⟩
        have S26 := hid s26.drop2.third.swap.any
        clear s26
        try clear o0 o1 o2
        go_wp2_with fail
        clear heq
        have HAl := HA.out
        generalize hA2 : A.length = al at *
        go_loopw [20] (fun s20 wx => ∃ j : Nat, j ≤ al ∧ s20 = .int .i64 j ∧ Sep w r wx [anyI (.slice a22 al cap22) al, quT q2 F3 (S), rtT k v (S), blk q0 (objO x)]) (fun s20 _ => al - (intOf s20).toNat)
        case atStart => exact ⟨0, Nat.zero_le _, rfl, S26.out⟩
        case round =>
          clear S26
          obtain ⟨j, hj, rfl, s27⟩ := hrel
          by_cases hjl : j < al
          · obtain ⟨g, rfl, ⟨y, cy⟩, fy, sy⟩ := s27.over hjl
            have SY := hid (sy 99)
            have hjz : (j : Int) < (al : Int) := by omega
            clear s27 sy
            go_wp2
            go_round
            case rel => exact ⟨j + 1, by omega, by go_num, SY.out⟩
            case measure => simp [intOf]; omega
          · obtain rfl : j = al := by omega
            have S28 := hid s27.drop.third.drop2.swap
            clear s27
            go_wp2
            go_round
            case rel => exact ⟨n + 1, q2, F3, v, S, by have := HN.out; omega, rfl, by go_num, HTl.out, S28.out⟩
            case measure => simp [intOf]; have := HN.out; omega
      · have e0 : (x.k == 0) = false := by simpa using k0
        have e1 : (x.k == 1) = false := by simpa using k1
        have e2 : (x.k == 2) = false := by simpa using k2
        have e3 : (x.k == 3) = false := by simpa using k3
        clear k0 k1 k2 k3
        have HTl : Hid ((S).length ≤ n + 1) := by
          have h1 := HSl.out
          have h2 := HN.out
          show (S).length ≤ n + 1
          omega
        go_wp2_with fail
        have HTh : Hid ((S).length ≤ 1000) := by
          have h1 := HTl.out
          have h2 := HN.out
          show (S).length ≤ 1000
          omega
        refine Calls.mono (next_sep S2.out HT.out) ?_
        rintro e w20 ⟨rfl, s20⟩
        generalize wr.heap.size = q0 at *
        have S20 := hid s20.third.swap
        clear s20
        try clear o0 o1 o2
        obtain ⟨o0, o1, o2⟩ := S20.out.opAt (q := q0) (x := x) (by simp)
        go_wp2_with fail
        refine Calls.mono (rnext_sep S20.out HTh.out) ?_
        rintro e w21 ⟨rfl, s21⟩
        have S21 := hid s21.third.swap
        clear s21
        generalize nextN (S) = nn at *
        generalize nextB (S) = zz at *
        try clear o0 o1 o2
        obtain ⟨o0, o1, o2⟩ := S21.out.opAt (q := q0) (x := x) (by simp)
        go_wp2_with fail
        refine Calls.mono (where_sep S21.out x.n HF.out.n) ?_
        rintro e _ ⟨rfl, rfl⟩
        go_wp2_with fail
        refine Calls.mono (rwhere_sep S21.out.third.swap x.n HTh.out) ?_
        rintro e _ ⟨rfl, rfl⟩
        generalize whI (S) x.n = wi at *
        generalize whB (S) x.n = wz at *
        go_wp2_with fail
        obtain ⟨x0, x1, x2, x3, hw⟩ := wd_parts (occ (S))
        have HWd := hid hw
        have heq := eq_same x0 x1 x2 x3
        clear hw
        refine Calls.mono (line_sep S21.out x.p HTh.out) ?_
        rintro e w22 ⟨v22, rfl, s22⟩
        obtain ⟨a22, cap22, ev⟩ := s22.listIs (v := v22) (A := lineI (S) x.p) (by simp)
        subst ev
        have HA : Hid ((lineI (S) x.p).length ≤ 1000) := by
          have h2 := HTh.out
          show (lineI (S) x.p).length ≤ 1000
          unfold lineI
          split
          · exact Nat.le_trans (line_len _ _) h2
          · simp
        have S22 := hid s22.fourth
        clear s22
        generalize hAA : lineI (S) x.p = A at *
        have HAA := hid hAA
        clear hAA
        try clear o0 o1 o2
        obtain ⟨o0, o1, o2⟩ := S22.out.opAt (q := q0) (x := x) (by simp)
        go_wp2_with fail
        refine Calls.mono (rline_sep S22.out x.p HTh.out) ?_
        rintro e w23 ⟨v23, rfl, s23⟩
        rw [HAA.out] at s23
        have S23 := hid s23
        clear s23
        go_wp2_with fail
        refine Calls.mono (nums_is S23.out (u := .slice a22 A.length cap22) (v := v23) (A := A) (B := A) (by simp) (by simp) HA.out rfl) ?_
        rintro e w24 ⟨rfl, s24⟩
        have S24 := hid s24.third.swap
        clear s24
        go_wp2_with fail
        refine Calls.mono (bits_is S24.out HWd.out) ?_
        rintro e w25 ⟨rfl, s25⟩
        have S25 := hid s25.third.swap
        clear s25
        go_wp2_with fail
        refine Calls.mono (rbits_is S25.out HTh.out HWd.out) ?_
        rintro e w26 ⟨rfl, s26⟩
        have S26 := hid s26.drop2.third.swap.any
        clear s26
        try clear o0 o1 o2
        go_wp2_with fail
        clear heq
        have HAl := HA.out
        generalize hA2 : A.length = al at *
        go_loopw [20] (fun s20 wx => ∃ j : Nat, j ≤ al ∧ s20 = .int .i64 j ∧ Sep w r wx [anyI (.slice a22 al cap22) al, quT q F (S), rtT k v (S), blk q0 (objO x)]) (fun s20 _ => al - (intOf s20).toNat)
        case atStart => exact ⟨0, Nat.zero_le _, rfl, S26.out⟩
        case round =>
          clear S26
          obtain ⟨j, hj, rfl, s27⟩ := hrel
          by_cases hjl : j < al
          · obtain ⟨g, rfl, ⟨y, cy⟩, fy, sy⟩ := s27.over hjl
            have SY := hid (sy 99)
            have hjz : (j : Int) < (al : Int) := by omega
            clear s27 sy
            go_wp2
            go_round
            case rel => exact ⟨j + 1, by omega, by go_num, SY.out⟩
            case measure => simp [intOf]; omega
          · obtain rfl : j = al := by omega
            have S28 := hid s27.drop.third.drop2.swap
            clear s27
            go_wp2
            go_round
            case rel => exact ⟨n + 1, q, F, v, S, by have := HN.out; omega, rfl, by go_num, HTl.out, S28.out⟩
            case measure => simp [intOf]; have := HN.out; omega
    · have hex : (¬ ((n : Int) < (X.length : Int))) ∨ ((n : Int) < (X.length : Int) ∧ ¬ ((n : Int) < 80)) := by omega
      have S2 := hid s1
      clear hgo s1
      generalize hm : X.length = m at *
      rcases hex with h | ⟨h, h2⟩
      all_goals
        go_wp2_with fail
        refine Calls.mono (fixed_sep S2.out HT.out) ?_
        rintro e w5 ⟨rfl, s5⟩
        have S5 := hid s5
        clear s5
        go_wp2
        go_ret
        exact ⟨rfl, by rw [HR.out]; exact S5.out.low⟩
open Go.ChangeShapes Go.WideShapes Go.ChangeAt Go.RowKit Go.Joins

/-! ### From the walk to the statement -/
theorem contract (H : Type) (enc : TypeId × Value → H) (W : World) (base : Nat) (args : Array Value) (ds gs : List (DataW H)) (before : List MemPlace)
    (hval : ∀ (j : Nat) t v, Tryd.f3.params[j]? = some t → args[j]? = some v → Value.okWide Tryd.prog W .any base t v)
    (hW : DataW.Whole enc Tryd.prog Tryd.f3.params.toList Rows.readyDoesSpec.vars false W args.toList ds gs before) (hL : laidMetH Tryd.prog Rows.readyDoesRow.laid W) :
    Calls Tryd.prog 3 args W fun e W' => ∃ v, e = .returned v ∧ Rows.readyDoesSpec.post enc Tryd.prog Tryd.f3 false true false false W args v W' := by
  have hW' := hW
  obtain ⟨p, q, hA0, hV, rfl, hfz, hnd⟩ := hW
  have hA : DataW.TrodAll enc Tryd.prog W 0 (fun _ => true) true Tryd.f3.params.toList args.toList ds p := hA0
  rw [Tryd.params3] at hA hval
  obtain ⟨v0, vs0, d0, ds0, p0, q0, hargs, rfl, rfl, h0, r0⟩ := trodAll_cons hA
  obtain ⟨rfl, rfl, rfl⟩ := trodAll_nil r0
  obtain rfl : args = #[v0] := by cases args; simp_all
  obtain ⟨rfl, rfl⟩ := trodVars_none hV
  have k0 := h0
  have lt0 : ∀ x ∈ p0, x.block < W.heap.size := by obtain ⟨m, hm⟩ := k0; exact DataW.trod_lt m _ _ _ hm
  obtain ⟨a0, l0, c0, rfl, t0, s0⟩ := open_ops (hval 0 22 v0 rfl rfl) h0
  clear hA0
  refine (walk a0 l0 c0 W (table hL) t0 s0).mono fun e W' ⟨he, bel⟩ => ?_
  subst he
  exact ⟨_, rfl, _, _, _, [], _, [], hW', trodAll_mk1 (shut_bool Tryd.underlying4 _), (trodAll_cons_mk (Below.trod laidOut (by kernel_rfl) (of_decide_eq_true (by kernel_rfl)) k0 bel lt0) trodAll_mk0), rfl, bel.frame _, fun h => by cases h⟩

theorem laid_met (os : Os) : laidMet Tryd.prog Rows.readyDoesRow.laid ((World.doorLaid Tryd.prog 40 os).forCall (fun _ _ => 0) ⟨#[], #[.slice none 0 0], []⟩).memory :=
  laidMet_of_run' 8 (by kernel_rfl) (by kernel_rfl)
theorem reads (os : Os) {H : Type} (enc : TypeId × Value → H) : ∃ places, DataW.whole enc Tryd.prog ((World.doorLaid Tryd.prog 40 os).forCall (fun _ _ => 0) ⟨#[], #[.slice none 0 0], []⟩).memory Tryd.f3.params.toList Rows.readyDoesSpec.vars false (#[.slice none 0 0] : Array Value).toList 8 = some ([.nil], [], places) :=
  ⟨[], by kernel_rfl⟩
set_option maxRecDepth 100000 in
theorem lifted (os : Os) (started : os.Started) (H : Type) (enc : TypeId × Value → H) (F : Stop.Interp) :
    ReturnsInHanded {} Tryd.checked os 3 .any ((OpenSpec.ofChange Rows.readyDoesSpec).preRow enc Tryd.prog Tryd.f3 Rows.readyDoesRow.domain false Rows.readyDoesRow.laid) (((OpenSpec.ofChange Rows.readyDoesSpec).at F).post enc Tryd.prog Tryd.f3 false true false false) := by
  obtain ⟨places, hx⟩ := reads os enc
  refine returnsInHanded_of_row (C := Tryd.checked) (s := OpenSpec.ofChange Rows.readyDoesSpec) own started (by kernel_rfl) Tryd.func3
    (witness_row_at (enc := enc) (C := Tryd.checked) false (World.doorLaid Tryd.prog 40 os) #[.slice none 0 0] rfl (by kernel_rfl) (by kernel_rfl) (by kernel_rfl)
      (OpenSpec.preRow_of_cond 8 hx (by kernel_rfl) (fun k hk => by cases hk) (by kernel_rfl) (laid_met os))) ?_
  intro W base args ds gs before hval hW _ _ _ hL _ _
  exact contract H enc W base args ds gs before hval hW hL
theorem said : Rows.ReadyDoesSaid :=
  OpenClaim.holds_of_cond 3 Tryd.f3 rfl rfl rfl rfl rfl rfl rfl ⟨rfl, rfl, rfl, rfl, rfl⟩ rfl rfl rfl rfl rfl (by kernel_rfl) Tryd.func3 (by kernel_rfl)
    (of_decide_eq_true (by kernel_rfl)) (by unfold Func.isWrapper; first | (rw [if_pos (by decide +kernel)]; kernel_rfl) | (rw [if_neg (by decide +kernel)]; exact ⟨rfl, rfl⟩))
    (fun os started H enc _ F => by rw [OpenClaim.pre_eq_preRow]; exact lifted os started H enc F)
theorem plain (f : FuncId) (fn : Func) (hf : Tryd.pinned.checked.prog.funcNamed "buttress/buttresslaw09.ReadyDoes" = some f) (hfn : Tryd.pinned.checked.prog.funcs[f]? = some fn) :
    false = Tryd.pinned.checked.prog.looks [] ∧ ∀ (j : Nat) t, fn.params[j]? = some t → Tryd.pinned.checked.prog.wantsStandIn t = false := by
  obtain rfl : f = 3 := Option.some.inj ((show Tryd.prog.funcNamed "buttress/buttresslaw09.ReadyDoes" = some 3 by kernel_rfl).symm.trans hf) |>.symm
  obtain rfl : fn = Tryd.f3 := (Option.some.inj (Tryd.func3.symm.trans hfn)).symm
  refine ⟨by kernel_rfl, fun j t ht => ?_⟩
  rw [Tryd.params3] at ht
  have hm : t ∈ [22] := by simpa using Array.mem_of_getElem? ht
  have hall : ([22].all fun u => !Tryd.prog.wantsStandIn u) = true := by kernel_rfl
  exact (show Tryd.prog.wantsStandIn t = false by simpa using List.all_eq_true.1 hall t hm)
end Go.Proofs.YtnjmjhmngjodcaaDoor.readyDoes
namespace Go.Proofs.YtnjmjhmngjodcaaDoor
/-- THE CARD. -/
theorem readyDoes_card : Rows.ReadyDoesCardSaid :=
  Claim7.holds_tied_plain_at .later [] _ _ _ _ readyDoes.said (fun _ h => by cases h) (by kernel_rfl) (fun _ h => by cases h) readyDoes_row_tie rfl ⟨rfl, rfl⟩ (by kernel_rfl) rfl readyDoes.plain (by kernel_rfl)
#print axioms readyDoes_card
end Go.Proofs.YtnjmjhmngjodcaaDoor

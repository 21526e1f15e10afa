/-
  MailboxOwes: a core is owed as many as it sent, less those that were heard; nobody else's change it; no condition.
-/
import Derived.Test.YtpapjdmnhgnpfaaMBFixed
import Derived.Test.YtpapjdmnhgnpfaaMBSay
import Derived.Test.YtpapjdmnhgnpfaaMBSums
import Derived.Test.YtpapjdmnhgnpfaaGQuiet
import Derived.Deep.Cut
import Derived.Deep.CutRange
namespace Go.Proofs.Ytpapjdmnhgnpfaa.mailboxOwes
open Go.RowKit Go.Deep Go.Shelf
section
variable {w0 w : World} {r : Nat} {R : List Th}
theorem setI {g m cap i : Nat} {A : List Int} (h : Sep w0 r w (lstI (.slice (some ⟨g, 0, none⟩) m cap) A :: R)) {y : Int} (hi : A[i]? = some y) (x : Int) : Sep w0 r (w.setCell ⟨g, i, none⟩ (.int .i64 x)) (lstI (.slice (some ⟨g, 0, none⟩) m cap) (A.set i x) :: R) := by
  have row : RowI w (.slice (some ⟨g, 0, none⟩) m cap) A := h.head
  have := Row.set okI row hi (j := 0) (c := .int .i64 x) (y := x) (by decide) rfl
  rw [show elI.k = 1 from rfl, Nat.mul_one, Nat.add_zero] at this
  exact h.turn (t' := lstI (.slice (some ⟨g, 0, none⟩) m cap) (A.set i x)) this (Turn.setCell _ _ _ _ rfl) fun _ hx => .inl hx
end
def owl (L : St) : List Int := [(owedN 0 L : Int), (owedN 1 L : Int), (owedN 2 L : Int), (owedN 3 L : Int)]
theorem owl_get (L : St) {c : Nat} (h : c < 4) : (owl L)[c]? = some (owedN (c : Int) L : Int) := by
  have : c = 0 ∨ c = 1 ∨ c = 2 ∨ c = 3 := by omega
  rcases this with rfl | rfl | rfl | rfl <;> rfl
theorem owl_put {L : St} {j : Nat} (hj : j < L.length) {f : Nat} (hf : f < 4) (k a : Int) : (owl L).set f ((owedN (f : Int) L : Int) + 1) = owl (putN L j ⟨(f : Int), k, a⟩) := by
  have e := fun c => owed_put c hj ⟨(f : Int), k, a⟩
  unfold owl
  rw [e 0, e 1, e 2, e 3]
  have : f = 0 ∨ f = 1 ∨ f = 2 ∨ f = 3 := by omega
  rcases this with rfl | rfl | rfl | rfl <;> simp
theorem owl_tail {L : St} {j : Nat} (hj : j < L.length) {f : Nat} (hf : f < 4) {k a : Int} {b : Bx} (hb : boxN L j = ⟨(f : Int), k, a⟩ :: b) : (owl L).set f ((owedN (f : Int) L : Int) - 1) = owl (L.set j b) := by
  have e := fun c => owed_tail c hj hb
  unfold owl
  have e0 := e 0
  have e1 := e 1
  have e2 := e 2
  have e3 := e 3
  have : f = 0 ∨ f = 1 ∨ f = 2 ∨ f = 3 := by omega
  rcases this with rfl | rfl | rfl | rfl <;> simp at e0 e1 e2 e3 ⊢ <;> omega
set_option maxHeartbeats 16000000 in
set_option maxRecDepth 100000 in
theorem walk (ao : Option Addr) (X : List Oc) (cap : Nat) (w : World) (hX : Ops w ao X) (_hxl : X.length ≤ 9223372036854775807) :
    Calls Try.prog 8 #[.slice ao X.length cap] w fun e w' => e = .returned (.bool true) ∧ Below w.heap.size w w' := by
  have HX := hid hX
  clear hX
  go_enter Try.func8, Try.ntmps8
  go_wp2_with fail
  refine Calls.mono (new_sep (sep_nil w) (n := 4) (by omega) (by omega)) ?_
  rintro e w1 ⟨p, rfl, g, V0, s1⟩
  have s2 := (s1.lit okI [0, 0, 0, 0] (by decide) #[.int .i64 0, .int .i64 0, .int .i64 0, .int .i64 0] rfl).swap
  have S1 := hid s2
  clear s1 s2
  generalize hr : w.heap.size = r at *
  have HR := hid hr
  clear hr
  go_wp2_with fail
  generalize w1.heap.size = qa at *
  go_loopw [6] (fun s6 wr => ∃ (i : Nat) (V : List Sv) (L : St), i ≤ 60 ∧ s6 = .int .i64 i ∧ Sep w r wr [bxT 4 p g V L, lstI (.slice (some ⟨qa, 0, none⟩) 4 4) (owl L)]) (fun s6 _ => 60 - (intOf s6).toNat)
  case atStart => exact ⟨0, V0, _, by omega, rfl, S1.out⟩
  case round =>
    clear S1
    obtain ⟨i, V, L, hi, rfl, s2⟩ := hrel
    by_cases hgo : i < X.length ∧ i < 60
    · obtain ⟨hlt, h60⟩ := hgo
      obtain ⟨-, b, o, rfl, d0, d1, d2, d3, d4⟩ := Ops.at (SeeK.below HX.out s2.low (by rw [HR.out]; exact Nat.le_refl _)) (List.getElem?_eq_getElem hlt)
      generalize X[i] = x at *
      obtain ⟨xk, xf, xt, xh, xa⟩ := x
      simp only at d0 d1 d2 d3 d4
      generalize hn : X.length = n at *
      have hltz : (i : Int) < (n : Int) := by omega
      have h60z : (i : Int) < 60 := by omega
      have s5 := (s2.box (objO ⟨xk, xf, xt, xh, xa⟩)).third
      obtain ⟨o0, o1, o2, o3, o4⟩ := s5.opAt (q := wr.heap.size) (x := ⟨xk, xf, xt, xh, xa⟩) (by simp)
      simp only [objO] at o0 o1 o2 o3 o4
      have S5 : Hid (Sep w r (wr.alloc (.cells #[.int .i64 xk, .int .i64 xf, .int .i64 xt, .int .i64 xh, .int .i64 xa] 31)) [bxT 4 p g V L, lstI (.slice (some ⟨qa, 0, none⟩) 4 4) (owl L), blk wr.heap.size (objO ⟨xk, xf, xt, xh, xa⟩)]) := s5
      have HG := hid s2.goodB
      clear s2 s5
      by_cases hk2 : xk = 2
      · have hq2 : (xk == 2) = true := by simpa using hk2
        clear hk2
        rcases take_cases 4 L xt HG.out with ⟨h1, h2, h3⟩ | ⟨j, ⟨x1, x2, x3⟩, b2, rfl, hj, hbx, h1, h2, h3⟩
        · have HT : Hid (takeM L xt = ⟨0, 0, 0⟩ ∧ takeB L xt = false ∧ takeS L xt = L) := ⟨h1, h2, h3⟩
          clear h1 h2 h3
          go_wp2_with fail
          refine Calls.mono (take_is (x := ⟨0, 0, 0⟩) S5.out xt HT.out.1 HT.out.2.1 HT.out.2.2) ?_
          rintro e w6 ⟨rfl, V6, s6⟩
          have s7 := (s6.box (objM ⟨0, 0, 0⟩)).drop
          have S6 := hid (s7.sub (.cons_cons _ (.cons_cons _ (.cons _ (.refl _)))))
          clear s6 s7 S5
          clear o0 o1 o2 o3 o4
          obtain ⟨V2, hV2⟩ : ∃ V2, V6 = V2 := ⟨_, rfl⟩
          obtain ⟨L2, hL2⟩ : ∃ L2, L = L2 := ⟨_, rfl⟩
          rw [hV2, hL2] at S6
          clear hV2 hL2
          go_wp2_with fail
          go_loopw [10] (fun s10 wx => ∃ c : Nat, c ≤ 4 ∧ s10 = .int .i64 c ∧ Sep w r wx [bxT 4 p g V2 L2, lstI (.slice (some ⟨qa, 0, none⟩) 4 4) (owl L2)]) (fun s10 _ => 4 - (intOf s10).toNat)
          case atStart => exact ⟨0, by omega, rfl, S6.out⟩
          case round =>
            clear S6
            obtain ⟨c, hc, rfl, s7⟩ := hrel
            by_cases hlt : c < 4
            · have hltz : (c : Int) < 4 := by omega
              have S7 := hid s7
              obtain ⟨z, hz⟩ : ∃ z, owedN (c : Int) L2 = z := ⟨_, rfl⟩
              have hgt := owl_get L2 hlt
              rw [hz] at hgt
              have row : RowI _ (.slice (some ⟨qa, 0, none⟩) 4 4) (owl L2) := s7.drop.head
              have hcc := RowI.cell row hgt
              have hq := Row.lt row (x := qa) rfl
              have K1 := fun pw : Grw _ => pw.cell hq hcc
              have CO := hid (fun pw : Grw _ => owed_new (S7.out.grw pw) (c : Int))
              rw [hz] at CO
              have hzz : ((z : Int) != (z : Int)) = false := by simp
              clear s7 hgt row hz hq hcc
              have hgi : ∀ u : World, Inhabited (Grw u) := grw0
              go_wp2_with fail
              refine wp_region_grw (by kernel_rfl) (by kernel_rfl) ?_
              repeat (go_big_quiet_step ((go_at_call 21; exact grw_of (CO.out _))))
              refine wpQuiet_nil ?_
              intro _ hw'
              obtain ⟨p9, hw''⟩ := hw'
              subst hw''
              have S8 := hid (S7.out.grw p9)
              clear K1 CO S7
              generalize p9.val = wB at *
              go_wp2
              go_roundw
              case rel => exact ⟨c + 1, by omega, by go_num, S8.out⟩
              case measure => simp [intOf]; omega
            · obtain rfl : c = 4 := by omega
              have S7 := hid s7
              clear s7
              go_wp2
              go_roundw
              case rel => exact ⟨i + 1, V2, L2, by omega, by go_num, S7.out⟩
              case measure => simp [intOf]; omega
        · have HT : Hid (takeM L (j : Int) = ⟨x1, x2, x3⟩ ∧ takeB L (j : Int) = true ∧ takeS L (j : Int) = L.set j b2) := ⟨h1, h2, h3⟩
          have hjl : j < L.length := by rw [HG.out.len]; exact hj
          obtain ⟨hs1, hs2, -⟩ := HG.out.src j _ (HG.out.at hj) ⟨x1, x2, x3⟩ (by rw [hbx]; simp)
          simp only at hs1 hs2
          obtain ⟨f, rfl⟩ : ∃ f : Nat, x1 = (f : Int) := ⟨x1.toNat, by omega⟩
          have hf4 : f < 4 := by omega
          have hgt := owl_get L hf4
          have hot := owed_tail (f : Int) hjl hbx
          rw [if_pos rfl] at hot
          have how := owl_tail hjl hf4 hbx
          obtain ⟨z2, hz2⟩ : ∃ z2, owedN (f : Int) (L.set j b2) = z2 := ⟨_, rfl⟩
          rw [hz2] at hot
          have h512 := HG.out.owed (f : Int) 4
          rw [List.take_of_length_le (by rw [HG.out.len]; exact Nat.le_refl _), ← hot] at h512
          rw [← hot] at hgt how
          have hsub : ((z2 + 1 : Nat) : Int) - 1 = (z2 : Int) := by omega
          rw [hsub] at how
          have HOW := hid how
          generalize z2 + 1 = z3 at *
          have hwz : IntKind.i64.wrap ((z3 : Int) - 1) = (z2 : Int) := by
            rw [hsub]
            unfold IntKind.wrap
            simp [IntKind.bits, IntKind.signed]
            omega
          have hf0 : ¬ ((f : Int) < 0) := by omega
          have hf3 : ¬ ((f : Int) > 3) := by omega
          have hf4z : (f : Int) < 4 := by omega
          clear h1 h2 h3 hbx hot how hz2 hsub hs1 hs2 hj hjl
          have hz9 := hgt
          go_wp2_with fail
          refine Calls.mono (take_is (x := ⟨(f : Int), x2, x3⟩) S5.out (j : Int) HT.out.1 HT.out.2.1 HT.out.2.2) ?_
          rintro e w6 ⟨rfl, V6, s6⟩
          have s7 := (s6.box (objM ⟨(f : Int), x2, x3⟩)).drop.swap
          have row : RowI _ (.slice (some ⟨qa, 0, none⟩) 4 4) (owl L) := s7.head
          have hcc := RowI.cell row hgt
          have hff := Row.frozen row f
          have s8 := setI s7 hgt (z2 : Int)
          rw [HOW.out] at s8
          have S6 := hid (s8.swap.sub (.cons_cons _ (.cons_cons _ (.cons _ (.refl _)))))
          clear s6 s7 s8 S5 row hgt hz9
          unfold objM at hcc hff S6
          clear o0 o1 o2 o3 o4
          obtain ⟨V2, hV2⟩ : ∃ V2, V6 = V2 := ⟨_, rfl⟩
          obtain ⟨L2, hL2⟩ : ∃ L2, L.set j b2 = L2 := ⟨_, rfl⟩
          rw [hV2, hL2] at S6
          clear hV2 hL2 HOW
          go_wp2_with fail
          go_loopw [10] (fun s10 wx => ∃ c : Nat, c ≤ 4 ∧ s10 = .int .i64 c ∧ Sep w r wx [bxT 4 p g V2 L2, lstI (.slice (some ⟨qa, 0, none⟩) 4 4) (owl L2)]) (fun s10 _ => 4 - (intOf s10).toNat)
          case atStart => exact ⟨0, by omega, rfl, S6.out⟩
          case round =>
            clear S6
            obtain ⟨c, hc, rfl, s7⟩ := hrel
            by_cases hlt : c < 4
            · have hltz : (c : Int) < 4 := by omega
              have S7 := hid s7
              obtain ⟨z, hz⟩ : ∃ z, owedN (c : Int) L2 = z := ⟨_, rfl⟩
              have hgt := owl_get L2 hlt
              rw [hz] at hgt
              have row : RowI _ (.slice (some ⟨qa, 0, none⟩) 4 4) (owl L2) := s7.drop.head
              have hcc := RowI.cell row hgt
              have hq := Row.lt row (x := qa) rfl
              have K1 := fun pw : Grw _ => pw.cell hq hcc
              have CO := hid (fun pw : Grw _ => owed_new (S7.out.grw pw) (c : Int))
              rw [hz] at CO
              have hzz : ((z : Int) != (z : Int)) = false := by simp
              clear s7 hgt row hz hq hcc
              have hgi : ∀ u : World, Inhabited (Grw u) := grw0
              go_wp2_with fail
              refine wp_region_grw (by kernel_rfl) (by kernel_rfl) ?_
              repeat (go_big_quiet_step ((go_at_call 21; exact grw_of (CO.out _))))
              refine wpQuiet_nil ?_
              intro _ hw'
              obtain ⟨p9, hw''⟩ := hw'
              subst hw''
              have S8 := hid (S7.out.grw p9)
              clear K1 CO S7
              generalize p9.val = wB at *
              go_wp2
              go_roundw
              case rel => exact ⟨c + 1, by omega, by go_num, S8.out⟩
              case measure => simp [intOf]; omega
            · obtain rfl : c = 4 := by omega
              have S7 := hid s7
              clear s7
              go_wp2
              go_roundw
              case rel => exact ⟨i + 1, V2, L2, by omega, by go_num, S7.out⟩
              case measure => simp [intOf]; omega
      · have hq2 : (xk == 2) = false := by simpa using hk2
        clear hk2
        rcases send_cases 4 L xf xt xh xa with ⟨h1, h2⟩ | ⟨h1, j, rfl, hj, hf0, hf4, hne, hlen, h2⟩
        · obtain ⟨E0, hE⟩ : ∃ E0, sendE 4 L xf xt = E0 := ⟨_, rfl⟩
          rw [hE] at h1
          have HE := hid hE
          have HS := hid h2
          have heb : (E0 == 0) = false := by simpa using h1
          clear h1 h2 hE
          go_wp2_with fail
          refine Calls.mono (send_is S5.out xf xt xh xa HE.out HS.out) ?_
          rintro e w6 ⟨rfl, V6, s6⟩
          have S6 := hid (s6.sub (.cons_cons _ (.cons_cons _ (.cons _ (.refl _)))))
          clear s6 S5
          clear o0 o1 o2 o3 o4
          obtain ⟨V2, hV2⟩ : ∃ V2, V6 = V2 := ⟨_, rfl⟩
          obtain ⟨L2, hL2⟩ : ∃ L2, L = L2 := ⟨_, rfl⟩
          rw [hV2, hL2] at S6
          clear hV2 hL2
          go_wp2_with fail
          go_loopw [10] (fun s10 wx => ∃ c : Nat, c ≤ 4 ∧ s10 = .int .i64 c ∧ Sep w r wx [bxT 4 p g V2 L2, lstI (.slice (some ⟨qa, 0, none⟩) 4 4) (owl L2)]) (fun s10 _ => 4 - (intOf s10).toNat)
          case atStart => exact ⟨0, by omega, rfl, S6.out⟩
          case round =>
            clear S6
            obtain ⟨c, hc, rfl, s7⟩ := hrel
            by_cases hlt : c < 4
            · have hltz : (c : Int) < 4 := by omega
              have S7 := hid s7
              obtain ⟨z, hz⟩ : ∃ z, owedN (c : Int) L2 = z := ⟨_, rfl⟩
              have hgt := owl_get L2 hlt
              rw [hz] at hgt
              have row : RowI _ (.slice (some ⟨qa, 0, none⟩) 4 4) (owl L2) := s7.drop.head
              have hcc := RowI.cell row hgt
              have hq := Row.lt row (x := qa) rfl
              have K1 := fun pw : Grw _ => pw.cell hq hcc
              have CO := hid (fun pw : Grw _ => owed_new (S7.out.grw pw) (c : Int))
              rw [hz] at CO
              have hzz : ((z : Int) != (z : Int)) = false := by simp
              clear s7 hgt row hz hq hcc
              have hgi : ∀ u : World, Inhabited (Grw u) := grw0
              go_wp2_with fail
              refine wp_region_grw (by kernel_rfl) (by kernel_rfl) ?_
              repeat (go_big_quiet_step ((go_at_call 21; exact grw_of (CO.out _))))
              refine wpQuiet_nil ?_
              intro _ hw'
              obtain ⟨p9, hw''⟩ := hw'
              subst hw''
              have S8 := hid (S7.out.grw p9)
              clear K1 CO S7
              generalize p9.val = wB at *
              go_wp2
              go_roundw
              case rel => exact ⟨c + 1, by omega, by go_num, S8.out⟩
              case measure => simp [intOf]; omega
            · obtain rfl : c = 4 := by omega
              have S7 := hid s7
              clear s7
              go_wp2
              go_roundw
              case rel => exact ⟨i + 1, V2, L2, by omega, by go_num, S7.out⟩
              case measure => simp [intOf]; omega
        · have HE := hid h1
          obtain ⟨f, rfl⟩ : ∃ f : Nat, xf = (f : Int) := ⟨xf.toNat, by omega⟩
          have HS := hid h2
          have hjl : j < L.length := by rw [HG.out.len]; exact hj
          have hff4 : f < 4 := by omega
          have hgt := owl_get L hff4
          have how := owl_put hjl hff4 xh xa
          have h512 := HG.out.owed (f : Int) 4
          rw [List.take_of_length_le (by rw [HG.out.len]; exact Nat.le_refl _)] at h512
          obtain ⟨z2, hz2⟩ : ∃ z2, owedN (f : Int) L = z2 := ⟨_, rfl⟩
          rw [hz2] at hgt how h512
          have HOW := hid how
          have hf0z : ¬ ((f : Int) < 0) := by omega
          have hf3 : ¬ ((f : Int) > 3) := by omega
          have hf4z : (f : Int) < 4 := by omega
          clear h1 h2 how hz2 hne hlen hjl hj hf0 hf4
          go_wp2_with fail
          refine Calls.mono (send_is S5.out (f : Int) (j : Int) xh xa HE.out HS.out) ?_
          rintro e w6 ⟨rfl, V6, s6⟩
          obtain ⟨o0, o1, o2, o3, o4⟩ := s6.opAt (q := wr.heap.size) (x := ⟨xk, (f : Int), (j : Int), xh, xa⟩) (by simp)
          simp only at o0 o1 o2 o3 o4
          have s7 := s6.swap
          have row : RowI _ (.slice (some ⟨qa, 0, none⟩) 4 4) (owl L) := s7.head
          have hcc := RowI.cell row hgt
          have hff := Row.frozen row f
          have s8 := setI s7 hgt ((z2 : Int) + 1)
          rw [HOW.out] at s8
          have S6 := hid (s8.swap.sub (.cons_cons _ (.cons_cons _ (.cons _ (.refl _)))))
          clear s6 s7 s8 S5 row hgt
          obtain ⟨V2, hV2⟩ : ∃ V2, V6 = V2 := ⟨_, rfl⟩
          obtain ⟨L2, hL2⟩ : ∃ L2, putN L j ⟨(f : Int), xh, xa⟩ = L2 := ⟨_, rfl⟩
          rw [hV2, hL2] at S6
          clear hV2 hL2 HOW
          go_wp2_with fail
          go_loopw [10] (fun s10 wx => ∃ c : Nat, c ≤ 4 ∧ s10 = .int .i64 c ∧ Sep w r wx [bxT 4 p g V2 L2, lstI (.slice (some ⟨qa, 0, none⟩) 4 4) (owl L2)]) (fun s10 _ => 4 - (intOf s10).toNat)
          case atStart => exact ⟨0, by omega, rfl, S6.out⟩
          case round =>
            clear S6
            obtain ⟨c, hc, rfl, s7⟩ := hrel
            by_cases hlt : c < 4
            · have hltz : (c : Int) < 4 := by omega
              have S7 := hid s7
              obtain ⟨z, hz⟩ : ∃ z, owedN (c : Int) L2 = z := ⟨_, rfl⟩
              have hgt := owl_get L2 hlt
              rw [hz] at hgt
              have row : RowI _ (.slice (some ⟨qa, 0, none⟩) 4 4) (owl L2) := s7.drop.head
              have hcc := RowI.cell row hgt
              have hq := Row.lt row (x := qa) rfl
              have K1 := fun pw : Grw _ => pw.cell hq hcc
              have CO := hid (fun pw : Grw _ => owed_new (S7.out.grw pw) (c : Int))
              rw [hz] at CO
              have hzz : ((z : Int) != (z : Int)) = false := by simp
              clear s7 hgt row hz hq hcc
              have hgi : ∀ u : World, Inhabited (Grw u) := grw0
              go_wp2_with fail
              refine wp_region_grw (by kernel_rfl) (by kernel_rfl) ?_
              repeat (go_big_quiet_step ((go_at_call 21; exact grw_of (CO.out _))))
              refine wpQuiet_nil ?_
              intro _ hw'
              obtain ⟨p9, hw''⟩ := hw'
              subst hw''
              have S8 := hid (S7.out.grw p9)
              clear K1 CO S7
              generalize p9.val = wB at *
              go_wp2
              go_roundw
              case rel => exact ⟨c + 1, by omega, by go_num, S8.out⟩
              case measure => simp [intOf]; omega
            · obtain rfl : c = 4 := by omega
              have S7 := hid s7
              clear s7
              go_wp2
              go_roundw
              case rel => exact ⟨i + 1, V2, L2, by omega, by go_num, S7.out⟩
              case measure => simp [intOf]; omega
    · have hex : (¬ ((i : Int) < (X.length : Int))) ∨ ((i : Int) < (X.length : Int) ∧ ¬ ((i : Int) < 60)) := by omega
      have S1 := hid s2
      clear hgo s2
      generalize hn : X.length = nX at *
      rcases hex with h | ⟨h, h2⟩
      all_goals
        go_wp2_with (go_at_call 23; refine Calls.mono (fixed_sep S1.out) ?_; rintro e wf ⟨rfl, sf⟩; have SF := hid sf; clear sf S1)
        go_ret
        exact ⟨rfl, by rw [HR.out]; exact SF.out.low⟩
open Go.ChangeShapes Go.WideShapes Go.ChangeAt Go.RowKit Go.Joins

/-! ### From the walk to the statement -/
set_option maxRecDepth 100000 in
theorem lifted (os : Os) (started : os.Started) (H : Type) (enc : TypeId × Value → H) :
    ReturnsInHanded {} Try.checked os 8 .any (Rows.mailboxOwesSpec.pre6 enc Try.prog Try.f8 Rows.mailboxOwesRow.domain false) (Rows.mailboxOwesSpec.post enc Try.prog Try.f8 false true false false) := by
  refine returnsInHanded_of_change (C := Try.checked) ownK started (by kernel_rfl) Try.func8
    (ChangeSpec.witness6 (enc := enc) (C := Try.checked) false ⟨#[], #[.slice none 0 0], []⟩ 8 (by kernel_rfl) (by kernel_rfl) (by kernel_rfl) (by kernel_rfl)) ?_
  intro W base args ds gs before hval0 hW hcnd _
  have hval : ∀ (j : Nat) t v, Try.f8.params[j]? = some t → args[j]? = some v → Value.okWide Try.prog W .any base t v := hval0
  have hW' := hW
  obtain ⟨p, q, hA0, hV, rfl, hfz, hnd⟩ := hW
  have hA : DataW.TrodAll enc Try.prog W 0 (fun _ => true) true Try.f8.params.toList args.toList ds p := hA0
  rw [Try.params8] at hA hval
  obtain ⟨v0, vs0, d0, ds0, p0, q0, hargs, rfl, rfl, h0, r0⟩ := trodAll_cons hA
  obtain ⟨rfl, rfl, rfl⟩ := trodAll_nil r0
  obtain rfl : args = #[v0] := by cases args; simp_all
  obtain ⟨rfl, rfl⟩ := trodVars_none hV
  have k0 := h0
  have lt0 : ∀ x ∈ p0, x.block < W.heap.size := by obtain ⟨m, hm⟩ := k0; exact DataW.trod_lt m _ _ _ hm
  obtain ⟨a0, l0, c0, rfl, t0, s0⟩ := open_ops (hval 0 22 v0 rfl rfl) h0
  clear hA0 hval0
  refine (walk a0 l0 c0 W t0 s0).mono fun e W' ⟨he, bel⟩ => ?_
  subst he
  exact ⟨_, rfl, _, _, _, [], _, [], hW', trodAll_mk1 (shut_bool Try.underlying4 _), (trodAll_cons_mk (Below.trod laidOut (by kernel_rfl) (of_decide_eq_true (by kernel_rfl)) k0 bel lt0) trodAll_mk0), rfl, bel.frame _, fun h => by cases h⟩
theorem over : Rows.mailboxOwesRow.holds Try.pinned (OpenSpec.ofChange Rows.mailboxOwesSpec) :=
  OpenClaim.holds_of_wide 8 Try.f8 rfl rfl rfl rfl rfl rfl rfl ⟨rfl, rfl, rfl, rfl, rfl⟩ rfl rfl rfl rfl rfl (by kernel_rfl) Try.func8 (by kernel_rfl)
    (of_decide_eq_true (by kernel_rfl)) (by unfold Func.isWrapper; first | (rw [if_pos (by decide +kernel)]; kernel_rfl) | (rw [if_neg (by decide +kernel)]; exact ⟨rfl, rfl⟩))
    (fun os started H enc _ => lifted os started H enc)
end Go.Proofs.Ytpapjdmnhgnpfaa.mailboxOwes
namespace Go.Proofs.Ytpapjdmnhgnpfaa
/-- THE STATEMENT. -/
theorem mailboxOwes_said : Rows.MailboxOwesSaid := mailboxOwes.over
#print axioms mailboxOwes_said
end Go.Proofs.Ytpapjdmnhgnpfaa

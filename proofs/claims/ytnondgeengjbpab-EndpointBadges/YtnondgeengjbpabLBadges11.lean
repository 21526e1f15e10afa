/-
  EndpointBadges: a badge that nobody sends with takes nobody back; those that receive are never taken back by one; no condition.
-/
import Derived.Test.YtnondgeengjbpabJLaw
import Derived.Deep.Cut
import Derived.Deep.CutRange
namespace Go.Proofs.Ytnondgeengjbpab.endpointBadges
open Go.RowKit Go.Deep Go.Shelf
theorem frozenM {w : World} {q : Nat} {m : Ms} (h : w.heap[q]? = some (objM m)) (j : Nat) : w.frozen? ⟨q, j, none⟩ = false := by
  unfold objM at h
  simp [World.frozen?, h]
theorem _root_.Go.Proofs.Ytnondgeengjbpab.Sep.setG {w0 w : World} {r q : Nat} {m : Ms} {R : List Th} (h : Sep w0 r w (blk q (objM m) :: R)) (G : Int) : Sep w0 r (w.setCell ⟨q, 5, none⟩ (.int .u64 G)) (blk q (objM ⟨m.l, m.a, m.b, m.c, m.d, G, m.q⟩) :: R) :=
  h.turn (t' := blk q (objM ⟨m.l, m.a, m.b, m.c, m.d, G, m.q⟩)) (by
    have h1 : w.heap[q]? = some (objM m) := h.head
    unfold objM at h1
    have := setBlock (j := 5) h1 (.int .u64 G)
    show (w.setCell ⟨q, 5, none⟩ (.int .u64 G)).heap[q]? = some (objM ⟨m.l, m.a, m.b, m.c, m.d, G, m.q⟩)
    rw [this]
    rfl) (Turn.setCell _ _ _ _ rfl) fun _ hx => .inl hx
/-- All of them receive. -/
def Rc (S : St) : Prop := ∀ x ∈ S, x.s = false
/-- All of them send, none with the badge. -/
def Nb (g : Int) (S : St) : Prop := ∀ x ∈ S, x.s = true ∧ x.m.g ≠ g
theorem rc_has {S : St} (h : Rc S) : hasB S true = false := by
  match S, h with
  | [], _ => rfl
  | x :: T, h => simp [hasB, h x (by simp)]
theorem rc_recv {S : St} (h : Rc S) (n : Int) (z : Bool) : Rc (recvS S n z) := by
  unfold recvS
  rw [rc_has h]
  split
  · exact h
  · simp only [Bool.false_eq_true, if_false]
    split
    · intro x hx
      rcases List.mem_append.1 hx with hx | hx
      · exact h x hx
      · obtain rfl : x = _ := by simpa using hx
        rfl
    · exact h
theorem nb_send {S : St} {g : Int} (h : Nb g S) (n : Int) (m : Ms) (hm : m.g ≠ g) : Nb g (sendS S n m true) := by
  have h0 : hasB S false = false := by
    match S, h with
    | [], _ => rfl
    | x :: T, h => simp [hasB, (h x (by simp)).1]
  unfold sendS
  rw [h0]
  split
  · exact h
  · simp only [Bool.false_eq_true, if_false, if_true]
    intro x hx
    rcases List.mem_append.1 hx with hx | hx
    · exact h x hx
    · obtain rfl : x = _ := by simpa using hx
      exact ⟨rfl, hm⟩
theorem nb_out {S : St} {g : Int} (h : Nb g S) : outN (isG g) S = [] ∧ outS (isG g) S = S := by
  have h0 : ∀ x ∈ S, isG g x = false := fun x hx => by simp [isG, (h x hx).2]
  refine ⟨?_, ?_⟩
  · unfold outN
    rw [List.map_eq_nil_iff, List.filter_eq_nil_iff]
    intro x hx
    rw [h0 x hx]
    decide
  · unfold outS
    rw [List.filter_eq_self]
    intro x hx
    rw [h0 x hx]
    rfl
theorem rc_out {S : St} (h : Rc S) (g : Int) : outN (isG g) S = [] ∧ outS (isG g) S = S := by
  have h0 : ∀ x ∈ S, isG g x = false := fun x hx => by simp [isG, h x hx]
  refine ⟨?_, ?_⟩
  · unfold outN
    rw [List.map_eq_nil_iff, List.filter_eq_nil_iff]
    intro x hx
    rw [h0 x hx]
    decide
  · unfold outS
    rw [List.filter_eq_self]
    intro x hx
    rw [h0 x hx]
    rfl
theorem sendE_or (S : St) (n : Int) : sendE S n = 0 ∨ sendE S n = 110 := by
  unfold sendE
  split
  · exact .inr rfl
  · exact .inl rfl
set_option maxHeartbeats 8000000 in
set_option maxRecDepth 100000 in
theorem walk (ao : Option Addr) (X : List Oc) (cap : Nat) (g : Int) (w : World) (hX : Ops w ao X) (_hxl : X.length ≤ 9223372036854775807) (hg : 0 ≤ g ∧ g ≤ 18446744073709551615) :
    Calls Try.prog 3 #[.slice ao X.length cap, .int .u64 g] w fun e w' => e = .returned (.bool true) ∧ Below w.heap.size w w' := by
  have HX := hid hX
  have HG := hid hg
  clear hX hg
  go_enter Try.func3, Try.ntmps3
  go_wp2_with fail
  refine Calls.mono (new_sep (sep_nil w)) ?_
  rintro e w1 ⟨p, v, rfl, s1⟩
  have S1 := hid s1
  clear s1
  go_wp2_with fail
  refine Calls.mono (new_sep S1.out) ?_
  rintro e w2 ⟨q, u, rfl, s2⟩
  have S2 := hid s2.swap
  clear s2 S1
  generalize hr : w.heap.size = r at *
  have HR := hid hr
  clear hr
  go_wp2_with fail
  go_loopw [7] (fun i wr => ∃ (k : Nat) (v u : Value) (S T : St), k ≤ 30 ∧ i = .int .i64 k ∧ S.length ≤ k ∧ T.length ≤ k ∧ Nb g S ∧ Rc T ∧ Sep w r wr [epT p v S, epT q u T]) (fun i _ => 30 - (intOf i).toNat)
  case atStart => exact ⟨0, v, u, [], [], by omega, rfl, by simp, by simp, fun x hx => by simp at hx, fun x hx => by simp at hx, S2.out⟩
  case round =>
    clear S2
    obtain ⟨k, v, u, S, T, hk, rfl, hS, hT, hnb, hrc, s1⟩ := hrel
    have S1 := hid s1
    have HC := hid (And.intro hnb hrc)
    clear s1 hnb hrc
    by_cases hgo : k < X.length ∧ k < 30
    · obtain ⟨hlt, h40⟩ := hgo
      have HAT := hid (fun (W : World) (h : Below r w W) => Ops.at (SeeK.below HX.out h (by rw [HR.out]; exact Nat.le_refl _)) (List.getElem?_eq_getElem hlt))
      obtain ⟨fx, b, a, rfl, c0, c1, c2, c3, c4, c5, c6, c7, c8, c9⟩ := HAT.out wr S1.out.low
      generalize hx : X[k] = x at *
      have HSl := hid (And.intro hS hT)
      clear hx hS hT c0 c9
      generalize hn : X.length = n at *
      have hltz : (k : Int) < (n : Int) := by omega
      have h40z : (k : Int) < 30 := by omega
      have HW := hid (rfl : wr.alloc (objM x.m) = wr.alloc (objM x.m))
      have s2 := S1.out.box (objM x.m)
      obtain ⟨m0, m1, m2, m3, m4, m5, m6⟩ := (s2.msgAt (q := wr.heap.size) (m := x.m) (by simp)).cells
      have mf := frozenM (m := x.m) s2.head
      have S2 := hid s2
      clear s2 S1
      generalize hw1 : wr.alloc (objM x.m) = w1 at *
      unfold objM at hw1
      clear HW
      have HW := hid hw1
      clear hw1
      by_cases hgg : x.m.g = g
      · have hq : (x.m.g == g) = true := by simpa using hgg
        obtain ⟨G, hG⟩ : ∃ G, IntKind.u64.wrap (g + 1) = G := ⟨_, rfl⟩
        have HGn : Hid (G ≠ g) := by
          show G ≠ g
          rw [← hG]
          have := HG.out
          unfold IntKind.wrap
          simp [IntKind.bits, IntKind.signed]
          omega
        have s3 := S2.out.setG G
        obtain ⟨-, _, _, ee, -, d1, -⟩ := HAT.out _ s3.low
        cases ee
        obtain ⟨n0, n1, n2, n3, n4, n5, n6⟩ := (s3.msgAt (q := wr.heap.size) (m := ⟨x.m.l, x.m.a, x.m.b, x.m.c, x.m.d, G, x.m.q⟩) (by simp)).cells
        have S3 := hid s3.swap
        clear s3 S2 hgg
        generalize hw2 : w1.setCell ⟨wr.heap.size, 5, none⟩ (.int .u64 G) = w2 at *
        have HW2 := hid hw2
        clear hw2
        go_wp2_with (first | (rw [HW.out]; clear HW) | (rw [HW2.out]; clear HW2))
        go_region_with (go_at_call 5; refine Calls.mono (send_is S3.out.drew x.n ⟨x.m.l, x.m.a, x.m.b, x.m.c, x.m.d, G, x.m.q⟩ true (by have := HSl.out; omega) rfl rfl rfl) ?_; rintro e w4 ⟨rfl, v4, s4⟩; have S4 := hid s4; clear s4)
        all_goals
          obtain ⟨-, _, _, ee, -, f1, -⟩ := HAT.out _ S4.out.low
          cases ee
          have HS4 := hid (And.intro (nb_send HC.out.1 x.n ⟨x.m.l, x.m.a, x.m.b, x.m.c, x.m.d, G, x.m.q⟩ HGn.out) (send_len S x.n ⟨x.m.l, x.m.a, x.m.b, x.m.c, x.m.d, G, x.m.q⟩ true))
          generalize sendM S x.n ⟨x.m.l, x.m.a, x.m.b, x.m.c, x.m.d, G, x.m.q⟩ = y4 at *
          generalize sendE S x.n = e4 at *
          generalize sendS S x.n ⟨x.m.l, x.m.a, x.m.b, x.m.c, x.m.d, G, x.m.q⟩ true = T4 at *
          go_wp2_with fail
          refine Calls.mono (recv_is S4.out.third.swap x.n true (by have := HSl.out; omega) rfl rfl rfl) ?_
          rintro e w5 ⟨rfl, u5, s5⟩
          have S5 := hid s5
          have HS5 := hid (And.intro (rc_recv HC.out.2 x.n true) (recv_len T x.n true))
          generalize recvM T x.n = y5 at *
          generalize sendE T x.n = e5 at *
          generalize recvS T x.n true = T5 at *
          clear s5 S4 S3
          go_wp2
          go_round
          case rel => exact ⟨k + 1, v4, u5, T4, T5, by omega, by go_num, by have := HS4.out.2; have := HSl.out; omega, by have := HS5.out.2; have := HSl.out; omega, HS4.out.1, HS5.out.1, S5.out.swap.drop.swap⟩
          case measure => simp [intOf]; omega
      · have hq : (x.m.g == g) = false := by simpa using hgg
        have HGn : Hid (x.m.g ≠ g) := hgg
        obtain ⟨-, _, _, ee, -, d1, -⟩ := HAT.out _ S2.out.low
        cases ee
        have S3 := hid S2.out.swap
        clear S2 hgg
        go_wp2_with (rw [HW.out]; clear HW)
        go_region_with (go_at_call 5; refine Calls.mono (send_is S3.out.drew x.n x.m true (by have := HSl.out; omega) rfl rfl rfl) ?_; rintro e w4 ⟨rfl, v4, s4⟩; have S4 := hid s4; clear s4)
        all_goals
          obtain ⟨-, _, _, ee, -, f1, -⟩ := HAT.out _ S4.out.low
          cases ee
          have HS4 := hid (And.intro (nb_send HC.out.1 x.n x.m HGn.out) (send_len S x.n x.m true))
          generalize sendM S x.n x.m = y4 at *
          generalize sendE S x.n = e4 at *
          generalize sendS S x.n x.m true = T4 at *
          go_wp2_with fail
          refine Calls.mono (recv_is S4.out.third.swap x.n true (by have := HSl.out; omega) rfl rfl rfl) ?_
          rintro e w5 ⟨rfl, u5, s5⟩
          have S5 := hid s5
          have HS5 := hid (And.intro (rc_recv HC.out.2 x.n true) (recv_len T x.n true))
          generalize recvM T x.n = y5 at *
          generalize sendE T x.n = e5 at *
          generalize recvS T x.n true = T5 at *
          clear s5 S4 S3
          go_wp2
          go_round
          case rel => exact ⟨k + 1, v4, u5, T4, T5, by omega, by go_num, by have := HS4.out.2; have := HSl.out; omega, by have := HS5.out.2; have := HSl.out; omega, HS4.out.1, HS5.out.1, S5.out.swap.drop.swap⟩
          case measure => simp [intOf]; omega
    · have hex : (¬ ((k : Int) < (X.length : Int))) ∨ ((k : Int) < (X.length : Int) ∧ ¬ ((k : Int) < 30)) := by omega
      have HSl : Hid (S.length ≤ 30 ∧ T.length ≤ 30) := ⟨Nat.le_trans hS hk, Nat.le_trans hT hk⟩
      clear hgo hS hT
      generalize hn : X.length = nX at *
      obtain ⟨A, hA⟩ : ∃ L, waitsN S = L := ⟨_, rfl⟩
      obtain ⟨B, hB⟩ : ∃ L, waitsN T = L := ⟨_, rfl⟩
      obtain ⟨β, hβ⟩ : ∃ β, hasB S true = β := ⟨_, rfl⟩
      have HL : Hid (waitsN S = A ∧ hasB S true = β ∧ A.length ≤ 1000) := ⟨hA, hβ, by rw [← hA, waits_len]; have := HSl.out; omega⟩
      have HM : Hid (waitsN T = B ∧ hasB T true = false ∧ B.length ≤ 1000) := ⟨hB, rc_has HC.out.2, by rw [← hB, waits_len]; have := HSl.out; omega⟩
      clear hA hB hβ
      rcases hex with h | ⟨h, h2⟩
      all_goals
        go_wp2_with fail
        refine Calls.mono (waits_is S1.out (by have := HSl.out; omega) HL.out.1 HL.out.2.1) ?_
        rintro e w2 ⟨a2, c2, rfl, s2⟩
        have S2 := hid s2.third.swap
        clear s2 S1
        go_wp2_with fail
        refine Calls.mono (waits_is S2.out (by have := HSl.out; omega) HM.out.1 HM.out.2.1) ?_
        rintro e w3 ⟨a3, c3, rfl, s3⟩
        have S3 := hid s3.fourth
        clear s3 S2
        go_wp2_with fail
        refine Calls.mono (badge_is (L := []) S3.out g (by have := HSl.out; omega) (nb_out HC.out.1).1 (nb_out HC.out.1).2) ?_
        rintro e w4 ⟨a4, c4, v4, rfl, s4⟩
        have S4 := hid s4.third.swap
        clear s4 S3
        go_wp2_with fail
        refine Calls.mono (badge_is (L := []) S4.out 0 (by have := HSl.out; omega) (rc_out HC.out.2 0).1 (rc_out HC.out.2 0).2) ?_
        rintro e w5 ⟨a5, c5, v5, rfl, s5⟩
        have S5 := hid s5.fourth
        clear s5 S4
        go_wp2_with fail
        refine Calls.mono (waits_is S5.out (by have := HSl.out; omega) HL.out.1 HL.out.2.1) ?_
        rintro e w6 ⟨a6, c6, rfl, s6⟩
        have S6 := hid s6.third.swap
        clear s6 S5
        go_wp2_with fail
        refine Calls.mono (waits_is S6.out (by have := HSl.out; omega) HM.out.1 HM.out.2.1) ?_
        rintro e w7 ⟨a7, c7, rfl, s7⟩
        have S7 := hid s7
        clear s7 S6
        go_wp2_with fail
        refine Calls.mono (send_is S7.out 1099511627776 ⟨0, 0, 0, 0, 0, 0, false⟩ false (by have := HSl.out; omega) rfl rfl rfl) ?_
        rintro e w8 ⟨rfl, v8, s8⟩
        generalize sendM T 1099511627776 ⟨0, 0, 0, 0, 0, 0, false⟩ = x8 at *
        generalize sendS T 1099511627776 ⟨0, 0, 0, 0, 0, 0, false⟩ false = T8 at *
        have S8 := hid (s8.box (objT x8))
        have HOR := hid (sendE_or T 1099511627776)
        generalize sendE T 1099511627776 = e8 at *
        clear s8 S7
        unfold objT at S8
        rcases HOR.out with rfl | rfl
        all_goals
          go_wp2_with fail
          refine Calls.mono (nums_is S8.out (u := .slice a2 A.length c2) (v := .slice a6 A.length c6) (A := A) (B := A) (by simp) (by simp) HL.out.2.2 rfl) ?_
          rintro e w9 ⟨rfl, s9⟩
          have S9 := hid s9
          clear s9 S8
          go_wp2_with fail
          refine Calls.mono (nums_is S9.out (u := .slice a3 B.length c3) (v := .slice a7 B.length c7) (A := B) (B := B) (by simp) (by simp) HM.out.2.2 rfl) ?_
          rintro e w10 ⟨rfl, s10⟩
          have S10 := hid s10
          clear s10 S9
          go_wp2_with fail
          refine Calls.mono (fixed_sep S10.out) ?_
          rintro e w11 ⟨rfl, s11⟩
          have S11 := hid s11
          clear s11 S10
          go_wp2
          go_ret
          exact ⟨rfl, by rw [HR.out]; exact S11.out.low⟩
open Go.ChangeShapes Go.WideShapes Go.ChangeAt Go.RowKit Go.Joins

/-! ### From the walk to the statement -/
set_option maxRecDepth 100000 in
theorem lifted (os : Os) (started : os.Started) (H : Type) (enc : TypeId × Value → H) :
    ReturnsInHanded {} Try.checked os 3 .any (Rows.endpointBadgesSpec.pre6 enc Try.prog Try.f3 Rows.endpointBadgesRow.domain false) (Rows.endpointBadgesSpec.post enc Try.prog Try.f3 false true false false) := by
  refine returnsInHanded_of_change (C := Try.checked) own started (by kernel_rfl) Try.func3
    (ChangeSpec.witness6 (enc := enc) (C := Try.checked) false ⟨#[], #[.slice none 0 0, .int .u64 0], []⟩ 8 (by kernel_rfl) (by kernel_rfl) (by kernel_rfl) (by kernel_rfl)) ?_
  intro W base args ds gs before hval0 hW hcnd _
  have hval : ∀ (j : Nat) t v, Try.f3.params[j]? = some t → args[j]? = some v → Value.okWide Try.prog W .any base t v := hval0
  have hW' := hW
  obtain ⟨p, q, hA0, hV, rfl, hfz, hnd⟩ := hW
  have hA : DataW.TrodAll enc Try.prog W 0 (fun _ => true) true Try.f3.params.toList args.toList ds p := hA0
  rw [Try.params3] at hA hval
  obtain ⟨v0, vs0, d0, ds0, p0, q0, hargs, rfl, rfl, h0, r0⟩ := trodAll_cons hA
  obtain ⟨v1, vs1, d1, ds1, p1, q1, rfl, rfl, rfl, h1, r1⟩ := trodAll_cons r0
  obtain ⟨rfl, rfl, rfl⟩ := trodAll_nil r1
  obtain rfl : args = #[v0, v1] := by cases args; simp_all
  obtain ⟨rfl, rfl⟩ := trodVars_none hV
  have k0 := h0
  have lt0 : ∀ x ∈ p0, x.block < W.heap.size := by obtain ⟨m, hm⟩ := k0; exact DataW.trod_lt m _ _ _ hm
  obtain ⟨a0, l0, c0, rfl, t0, s0⟩ := open_ops (hval 0 22 v0 rfl rfl) h0
  have k1 := h1
  have lt1 : ∀ x ∈ p1, x.block < W.heap.size := by obtain ⟨m, hm⟩ := k1; exact DataW.trod_lt m _ _ _ hm
  obtain ⟨a1, rfl, _, _, w1⟩ := open_int Try.underlying23 (hval 1 23 v1 rfl rfl) h1
  clear hA0 hval0
  refine (walk a0 l0 c0 a1 W t0 s0 (bounds_u64 w1)).mono fun e W' ⟨he, bel⟩ => ?_
  subst he
  exact ⟨_, rfl, _, _, _, [], _, [], hW', trodAll_mk1 (shut_bool Try.underlying4 _), (trodAll_cons_mk (Below.trod laidOut (by kernel_rfl) (of_decide_eq_true (by kernel_rfl)) k0 bel lt0) (trodAll_cons_mk (Below.trod laidOut (by kernel_rfl) (of_decide_eq_true (by kernel_rfl)) k1 bel lt1) trodAll_mk0)), rfl, bel.frame _, fun h => by cases h⟩
theorem over : Rows.endpointBadgesRow.holds Try.pinned (OpenSpec.ofChange Rows.endpointBadgesSpec) :=
  OpenClaim.holds_of_wide 3 Try.f3 rfl rfl rfl rfl rfl rfl rfl ⟨rfl, rfl, rfl, rfl, rfl⟩ rfl rfl rfl rfl rfl (by kernel_rfl) Try.func3 (by kernel_rfl)
    (of_decide_eq_true (by kernel_rfl)) (by unfold Func.isWrapper; first | (rw [if_pos (by decide +kernel)]; kernel_rfl) | (rw [if_neg (by decide +kernel)]; exact ⟨rfl, rfl⟩))
    (fun os started H enc _ => lifted os started H enc)
end Go.Proofs.Ytnondgeengjbpab.endpointBadges
namespace Go.Proofs.Ytnondgeengjbpab
/-- THE STATEMENT. -/
theorem endpointBadges_said : Rows.EndpointBadgesSaid := endpointBadges.over
#print axioms endpointBadges_said
end Go.Proofs.Ytnondgeengjbpab

/-
  Another right changes just the page's rights; given back it is as it was; no condition.
-/
import Derived.Test.YthjcodkgcffamaaPLaw
import Derived.Deep.Cut
import Derived.Deep.CutRange
namespace Go.Proofs.Ythjcodkgcffamaa.tablesRights
open Go.RowKit Go.Deep Go.Shelf
/-- One table, one page. -/
def oneS (i n : Int) (x : Pg) : Sp := ⟨upd (fun _ => none) i (some 7), upd (fun _ => none) n (some x)⟩
theorem upd_upd {α : Type} (g : Int → α) (i : Int) (a b : α) : upd (upd g i a) i b = upd g i b := by
  funext j
  unfold upd
  split <;> rfl
theorem one_all (n : Int) (x : Pg) (h0 : 0 ≤ n) (h1 : n < 4096) : allP (upd (fun _ => none) n (some x)) = [(n, x)] := by
  symm
  refine seg_ext (List.pairwise_singleton _ _) fun k y => ?_
  rw [List.mem_singleton]
  constructor
  · rintro ⟨rfl, rfl⟩
    exact ⟨by omega, by omega, upd_same _ _ _⟩
  · rintro ⟨_, _, h⟩
    unfold upd at h
    split at h
    · rename_i e
      cases h
      rw [e]
    · cases h
theorem facts (n f t s y : Nat) (hn : n < 4096) (ht : t < 8) (hs : s < 8) (hy : y < 4096) (hyn : y ≠ n) :
    (tabE sp0 ((n / 64 : Nat) : Int) 7 = 0 ∧ mapE (tabS sp0 ((n / 64 : Nat) : Int) 7) n ⟨f, t⟩ = 0 ∧ mapS (tabS sp0 ((n / 64 : Nat) : Int) 7) n ⟨f, t⟩ = oneS ((n / 64 : Nat) : Int) n ⟨f, t⟩) ∧
    (∀ a b c : Nat, c < 8 → rgtE (oneS ((n / 64 : Nat) : Int) n ⟨a, b⟩) n c = 0 ∧ rgtS (oneS ((n / 64 : Nat) : Int) n ⟨a, b⟩) n c = oneS ((n / 64 : Nat) : Int) n ⟨a, c⟩ ∧ wlkP (oneS ((n / 64 : Nat) : Int) n ⟨a, b⟩) n = ⟨a, b⟩ ∧ wlkB (oneS ((n / 64 : Nat) : Int) n ⟨a, b⟩) n = true) ∧
    (rgtE (oneS ((n / 64 : Nat) : Int) n ⟨f, t⟩) y s = 141 ∧ rgtS (oneS ((n / 64 : Nat) : Int) n ⟨f, t⟩) y s = oneS ((n / 64 : Nat) : Int) n ⟨f, t⟩ ∧ (allP (oneS ((n / 64 : Nat) : Int) n ⟨f, t⟩).f).length = 1) := by
  have hin : ((n / 64 : Nat) : Int) = (n : Int) / 64 := by omega
  have e1 : tabE sp0 ((n / 64 : Nat) : Int) 7 = 0 := by
    unfold tabE
    rw [if_neg (by omega), if_neg]
    rintro (h | h)
    · cases h
    · obtain ⟨k, _, hk⟩ := anyT_true.1 h
      cases hk
  have e2 : tabS sp0 ((n / 64 : Nat) : Int) 7 = ⟨upd (fun _ => none) ((n / 64 : Nat) : Int) (some 7), fun _ => none⟩ := by
    unfold tabS
    rw [if_pos e1]
    rfl
  have e3 : mapE (tabS sp0 ((n / 64 : Nat) : Int) 7) n ⟨f, t⟩ = 0 := by
    rw [e2]
    unfold mapE
    rw [if_neg (by simp only; omega), if_pos (by simp [upd, hin]), if_neg (by simp)]
  refine ⟨⟨e1, e3, ?_⟩, fun a b c hc => ?_, ?_, ?_, ?_⟩
  · unfold mapS
    rw [if_pos e3, e2]
    rfl
  · have e4 : rgtE (oneS ((n / 64 : Nat) : Int) n ⟨a, b⟩) n c = 0 := by
      unfold rgtE oneS
      rw [if_neg (by omega), if_pos (by simp [upd])]
    refine ⟨e4, ?_, by simp [wlkP, oneS, upd], by simp [wlkB, oneS, upd]⟩
    unfold rgtS
    rw [if_pos e4]
    simp only [oneS, upd_upd, upd_same, Option.getD_some]
  · unfold rgtE oneS
    rw [if_neg (by omega), if_neg (by simp [upd]; omega)]
  · have e5 : rgtE (oneS ((n / 64 : Nat) : Int) n ⟨f, t⟩) y s = 141 := by
      unfold rgtE oneS
      rw [if_neg (by omega), if_neg (by simp [upd]; omega)]
    unfold rgtS
    rw [e5]
    rfl
  · show (allP (upd (fun _ => none) (n : Int) (some ⟨f, t⟩))).length = 1
    rw [one_all _ _ (by omega) (by omega)]
    rfl
theorem xor_one (n : Nat) (hn : n < 4096) : ∃ y : Nat, y < 4096 ∧ y ≠ n ∧ bits .xor .i64 (n : Int) 1 = (y : Int) := by
  refine ⟨n ^^^ 1, ?_, ?_, ?_⟩
  · exact Nat.xor_lt_two_pow (n := 12) hn (by decide)
  · intro e
    have h1 := congrArg (fun z => n ^^^ z) e
    simp only [← Nat.xor_assoc, Nat.xor_self, Nat.zero_xor] at h1
    cases h1
  · show IntKind.i64.wrap ((BitVec.ofInt 64 (n : Int) ^^^ BitVec.ofInt 64 1).toNat : Int) = _
    have h9 : n ^^^ 1 < 4096 := Nat.xor_lt_two_pow (n := 12) hn (by decide)
    rw [BitVec.toNat_xor, ofInt_u64 n (by omega), show BitVec.ofInt 64 1 = BitVec.ofInt 64 ((1 : Nat) : Int) from rfl, ofInt_u64 1 (by omega), IntKind.wrap_i64]
    omega
set_option maxHeartbeats 8000000 in
set_option maxRecDepth 100000 in
theorem walk (a0 : Int) (a1 : Pg) (a2 : Int) (w : World) (_ : I64 a0) (_ : I64 a1.fr ∧ I64 a1.rt) (_ : I64 a2) :
    Calls Try.prog 8 #[.int .i64 a0, .agg #[.int .i64 a1.fr, .int .i64 a1.rt], .int .i64 a2] w fun e w' => e = .returned (.bool true) ∧ Below w.heap.size w w' := by
  obtain ⟨n, hn, en⟩ := mask_is a0 12 (by decide)
  obtain ⟨f, hf, ef⟩ := mask64k a1.fr
  obtain ⟨t, ht, et⟩ := mask7 a1.rt
  obtain ⟨s, hs, es⟩ := mask7 a2
  obtain ⟨y, hy, hyn, ey⟩ := xor_one n hn
  have en' : bits .and .i64 a0 4095 = (n : Int) := en
  have hq : (n : Int) / 64 = ((n / 64 : Nat) : Int) := by omega
  have hq2 : (n : Int).tdiv 64 = ((n / 64 : Nat) : Int) := by rw [Int.tdiv_eq_ediv_of_nonneg (by omega)]; omega
  obtain ⟨f1, f2, f3⟩ := facts n f t s y hn ht hs hy hyn
  have F1 := hid f1
  have F2 := hid f2
  have F3 := hid f3
  have HSm := hid (And.intro hn (And.intro ht hs))
  have HB := hid ((sep_nil w).box (objP a1))
  clear f1 f2 f3 en hyn
  obtain ⟨x0, x1⟩ := a1
  simp only at ef et
  go_enter Try.func8, Try.ntmps8
  go_wp2_with fail
  refine Calls.mono (new_sep HB.out) ?_
  rintro e w1 ⟨p, m1, rfl, s1⟩
  generalize hr : w.heap.size = r at *
  have HR := hid hr
  clear hr HB
  obtain ⟨c0, c1⟩ := s1.pageAt (q := r) (x := ⟨x0, x1⟩) (by simp)
  simp only at c0 c1
  have S1 := hid s1.drop2
  clear s1
  have d0 := cell_al c0 (.cells #[.int .i64 0, .int .i64 0] 31)
  have d1 := cell_al c1 (.cells #[.int .i64 0, .int .i64 0] 31)
  go_wp2_with fail
  go_region
  have s2 := (Sep.box S1.out (objP ⟨f, t⟩)).swap.drew
  simp only [objP] at s2
  generalize hw2 : (w1.alloc (.cells #[.int .i64 (f : Int), .int .i64 (t : Int)] 31)).drew = w2 at *
  generalize w1.heap.size = q at *
  obtain ⟨z0, z1⟩ := s2.pageAt (q := q) (x := ⟨f, t⟩) (by simp)
  simp only at z0 z1
  have S2 : Hid (Sep w r w2 [spT p m1 sp0, blk q (objP ⟨f, t⟩)]) := s2
  clear s2 S1 hw2 c0 c1 d0 d1
  go_wp2_with fail
  generalize hN : ((n / 64 : Nat) : Int) = N at *
  have hNw : IntKind.i64.wrap N = N := by rw [IntKind.wrap_i64]; omega
  clear hN
  have hS : w2.drew.cell? ⟨q, 0, none⟩ = some (.int .i64 (f : Int)) ∧ w2.drew.cell? ⟨q, 1, none⟩ = some (.int .i64 (t : Int)) := ⟨z0, z1⟩
  clear z0 z1
  go_region_held3 (fun W => W.cell? ⟨q, 0, none⟩ = some (.int .i64 (f : Int)) ∧ W.cell? ⟨q, 1, none⟩ = some (.int .i64 (t : Int))) ((first | with_reducible assumption | with_reducible exact hS))
    (first
      | (go_at_call 16; (with_reducible refine Calls.mono (rgt_is S4.out n s (F2.out f t s HSm.out.2.2).1 (F2.out f t s HSm.out.2.2).2.1) ?_); rintro e w5 ⟨rfl, s5⟩; have h5 : w5.cell? ⟨q, 0, none⟩ = some (.int .i64 (f : Int)) ∧ w5.cell? ⟨q, 1, none⟩ = some (.int .i64 (t : Int)) := s5.pageAt (q := q) (x := ⟨f, t⟩) (by simp); have S5 := hid s5; clear s5 S4)
      | (go_at_call 14; (with_reducible refine Calls.mono (mp_is S3.out n f t F1.out.2.1 F1.out.2.2) ?_); rintro e w4 ⟨rfl, s4⟩; have h4 : w4.cell? ⟨q, 0, none⟩ = some (.int .i64 (f : Int)) ∧ w4.cell? ⟨q, 1, none⟩ = some (.int .i64 (t : Int)) := s4.pageAt (q := q) (x := ⟨f, t⟩) (by simp); have S4 := hid s4; clear s4 S3)
      | (go_at_call 10; (with_reducible refine Calls.mono (tab_is S2.out.drew N 7 F1.out.1 rfl) ?_); rintro e w3 ⟨rfl, m3, s3⟩; have h3 : w3.cell? ⟨q, 0, none⟩ = some (.int .i64 (f : Int)) ∧ w3.cell? ⟨q, 1, none⟩ = some (.int .i64 (t : Int)) := s3.pageAt (q := q) (x := ⟨f, t⟩) (by simp); have S3 := hid s3; clear s3 S2))
  clear hS h3 h4 h5
  go_wp2_with fail
  refine Calls.mono (wlk_is S5.out n (F2.out f s 0 (by omega)).2.2.1 (F2.out f s 0 (by omega)).2.2.2) ?_
  rintro e w6 ⟨rfl, s6⟩
  have S6 := hid (Sep.box s6 (objP ⟨f, s⟩)).swap
  clear s6 S5
  have z1 : (w6.alloc (.cells #[.int .i64 (f : Int), .int .i64 (s : Int)] 31)).cell? ⟨q, 1, none⟩ = some (.int .i64 (t : Int)) := (S6.out.pageAt (q := q) (x := ⟨f, t⟩) (by simp)).2
  go_wp2_with fail
  refine Calls.mono (rgt_is S6.out n t (F2.out f s t HSm.out.2.1).1 (F2.out f s t HSm.out.2.1).2.1) ?_
  rintro e w7 ⟨rfl, s7⟩
  generalize w6.heap.size = q6 at *
  have S7 := hid s7
  clear s7 S6 z1
  go_wp2_with fail
  refine Calls.mono (wlk_is S7.out n (F2.out f t 0 (by omega)).2.2.1 (F2.out f t 0 (by omega)).2.2.2) ?_
  rintro e w8 ⟨rfl, s8⟩
  have S8 := hid (Sep.box s8 (objP ⟨f, t⟩)).swap
  clear s8 S7
  go_wp2_with fail
  refine Calls.mono (rgt_is S8.out y s F3.out.1 F3.out.2.1) ?_
  rintro e w9 ⟨rfl, s9⟩
  generalize w8.heap.size = q8 at *
  obtain ⟨z0, z1⟩ := s9.pageAt (q := q) (x := ⟨f, t⟩) (by simp)
  obtain ⟨u0, u1⟩ := s9.pageAt (q := q6) (x := ⟨f, s⟩) (by simp)
  obtain ⟨v0, v1⟩ := s9.pageAt (q := q8) (x := ⟨f, t⟩) (by simp)
  simp only at z0 z1 u0 u1 v0 v1
  have S9 := hid s9
  have HL : Hid _ := F3.out.2.2
  clear s9 S8 F3 F2 F1
  have he1 : ∀ W, (Op.equalIn 10000 31 (.agg #[.int .i64 (f : Int), .int .i64 (s : Int)]) (.agg #[.int .i64 (f : Int), .int .i64 (s : Int)])).run Try.prog W = .ok true W := fun W => (eq_page W f s f s).trans (by rw [pgB_self])
  have he2 : ∀ W, (Op.equalIn 10000 31 (.agg #[.int .i64 (f : Int), .int .i64 (t : Int)]) (.agg #[.int .i64 (f : Int), .int .i64 (t : Int)])).run Try.prog W = .ok true W := fun W => (eq_page W f t f t).trans (by rw [pgB_self])
  generalize oneS N n ⟨f, t⟩ = T at *
  go_wp2_with (first
    | (go_at_call 26; refine Calls.mono (pages_sep S9.out) ?_; rintro e wa ⟨v, rfl, sa⟩; obtain ⟨ao, cap, rfl⟩ := sa.listIs (E := elL) (v := v) (A := allP T.f) (by simp); rw [HL.out]; have SA := hid sa; clear sa S9)
    | (go_at_call 31; refine Calls.mono (fixed_sep SA.out) ?_; rintro e wf ⟨rfl, sf⟩; have SF := hid sf; clear sf SA))
  go_ret
  exact ⟨rfl, by rw [HR.out]; exact SF.out.low⟩
open Go.ChangeShapes Go.WideShapes Go.ChangeAt Go.RowKit Go.Joins

/-! ### From the walk to the statement -/
set_option maxRecDepth 100000 in
theorem lifted (os : Os) (started : os.Started) (H : Type) (enc : TypeId × Value → H) :
    ReturnsInHanded {} Try.checked os 8 .any (Rows.tablesRightsSpec.pre6 enc Try.prog Try.f8 Rows.tablesRightsRow.domain false) (Rows.tablesRightsSpec.post enc Try.prog Try.f8 false true false false) := by
  refine returnsInHanded_of_change (C := Try.checked) own started (by kernel_rfl) Try.func8
    (ChangeSpec.witness6 (enc := enc) (C := Try.checked) false ⟨#[], #[.int .i64 0, .agg #[.int .i64 0, .int .i64 0], .int .i64 0], []⟩ 8 (by kernel_rfl) (by kernel_rfl) (by kernel_rfl) (by kernel_rfl)) ?_
  intro W base args ds gs before hval0 hW hcnd _
  have hval : ∀ (j : Nat) t v, Try.f8.params[j]? = some t → args[j]? = some v → Value.okWide Try.prog W .any base t v := hval0
  have hW' := hW
  obtain ⟨p, q, hA0, hV, rfl, hfz, hnd⟩ := hW
  have hA : DataW.TrodAll enc Try.prog W 0 (fun _ => true) true Try.f8.params.toList args.toList ds p := hA0
  rw [Try.params8] at hA hval
  obtain ⟨v0, vs0, d0, ds0, p0, q0, hargs, rfl, rfl, h0, r0⟩ := trodAll_cons hA
  obtain ⟨v1, vs1, d1, ds1, p1, q1, rfl, rfl, rfl, h1, r1⟩ := trodAll_cons r0
  obtain ⟨v2, vs2, d2, ds2, p2, q2, rfl, rfl, rfl, h2, r2⟩ := trodAll_cons r1
  obtain ⟨rfl, rfl, rfl⟩ := trodAll_nil r2
  obtain rfl : args = #[v0, v1, v2] := by cases args; simp_all
  obtain ⟨rfl, rfl⟩ := trodVars_none hV
  have k0 := h0
  have lt0 : ∀ x ∈ p0, x.block < W.heap.size := by obtain ⟨m, hm⟩ := k0; exact DataW.trod_lt m _ _ _ hm
  obtain ⟨a0, rfl, _, _, w0⟩ := open_int Try.underlying3 (hval 0 3 v0 rfl rfl) h0
  have k1 := h1
  have lt1 : ∀ x ∈ p1, x.block < W.heap.size := by obtain ⟨m, hm⟩ := k1; exact DataW.trod_lt m _ _ _ hm
  obtain ⟨a1, rfl, w1⟩ := open_page (hval 1 31 v1 rfl rfl) h1
  have k2 := h2
  have lt2 : ∀ x ∈ p2, x.block < W.heap.size := by obtain ⟨m, hm⟩ := k2; exact DataW.trod_lt m _ _ _ hm
  obtain ⟨a2, rfl, _, _, w2⟩ := open_int Try.underlying3 (hval 2 3 v2 rfl rfl) h2
  clear hA0 hval0
  refine (walk a0 a1 a2 W (bounds_i64 w0) w1 (bounds_i64 w2)).mono fun e W' ⟨he, bel⟩ => ?_
  subst he
  exact ⟨_, rfl, _, _, _, [], _, [], hW', trodAll_mk1 (shut_bool Try.underlying4 _), (trodAll_cons_mk (Below.trod laidOut (by kernel_rfl) (of_decide_eq_true (by kernel_rfl)) k0 bel lt0) (trodAll_cons_mk (Below.trod laidOut (by kernel_rfl) (of_decide_eq_true (by kernel_rfl)) k1 bel lt1) (trodAll_cons_mk (Below.trod laidOut (by kernel_rfl) (of_decide_eq_true (by kernel_rfl)) k2 bel lt2) trodAll_mk0))), rfl, bel.frame _, fun h => by cases h⟩
theorem over : Rows.tablesRightsRow.holds Try.pinned (OpenSpec.ofChange Rows.tablesRightsSpec) :=
  OpenClaim.holds_of_wide 8 Try.f8 rfl rfl rfl rfl rfl rfl rfl ⟨rfl, rfl, rfl, rfl, rfl⟩ rfl rfl rfl rfl rfl (by kernel_rfl) Try.func8 (by kernel_rfl)
    (of_decide_eq_true (by kernel_rfl)) (by unfold Func.isWrapper; first | (rw [if_pos (by decide +kernel)]; kernel_rfl) | (rw [if_neg (by decide +kernel)]; exact ⟨rfl, rfl⟩))
    (fun os started H enc _ => lifted os started H enc)
end Go.Proofs.Ythjcodkgcffamaa.tablesRights
namespace Go.Proofs.Ythjcodkgcffamaa
/-- THE STATEMENT. -/
theorem tablesRights_said : Rows.TablesRightsSaid := tablesRights.over
#print axioms tablesRights_said
end Go.Proofs.Ythjcodkgcffamaa

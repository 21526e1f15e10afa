/-
  What the library's IndexFunc, DeleteFunc and Clone do to a row of lines; no condition but that the row is short.
-/
import Derived.Test.YtekjoeebomcmeaaYClo
namespace Go.Proofs.Ytekjoeebomcmeaa
open Go.RowKit Go.Deep Go.Shelf

set_option maxHeartbeats 2000000 in
theorem index_any {F : Nat → Prop} (c : Value) (q : Lr → Bool) (v : Value) (Z : St) (w : World) (hp : Clo F w c q) (hz : RowL w v Z) (hl : Z.length ≤ 1000) :
    Calls Try.prog 29 #[v, c] w fun e w' => e = .returned (.int .i64 (idx q Z)) ∧ Below w.heap.size w w' := by
  obtain ⟨g, lb, rfl, eg, hc⟩ := hp
  obtain ⟨ao, cap, rfl, -, -, hg, -⟩ := hz.slice
  have HZ := hid hz
  have HP := hid hc
  have HG := hid hg
  clear hz hc hg
  generalize hN : Z.length = N at *
  have HN := hid hN
  clear hN
  go_enter Try.func29, Try.ntmps29
  go_wp2
  go_loopw [5, 8] (fun _ s8 wr => ∃ kk : Nat, kk ≤ N ∧ s8 = .int .i64 kk ∧ Below w.heap.size w wr ∧ Hid (∀ j y, j < kk → Z[j]? = some y → q y = false)) (fun _ s8 _ => N - (intOf s8).toNat)
  case atStart => exact ⟨0, Nat.zero_le _, rfl, Below.refl _ w, fun j y hj => absurd hj (Nat.not_lt_zero _)⟩
  case round =>
    obtain ⟨kk, hkk, rfl, BW, A⟩ := hrel
    have HB := hid BW
    by_cases hlt : kk < N
    · have hltz : (kk : Int) < (N : Int) := by omega
      obtain ⟨b, rfl⟩ := HG.out kk hlt
      have hk1 : kk < Z.length := by have := HN.out; omega
      have HX := hid (List.getElem?_eq_getElem hk1)
      obtain ⟨c0, c1, c2, c3⟩ := (RowL.at (HZ.out.below BW) HX.out).cells
      have hcall := HP.out wr Z[kk] (Turn.of BW F)
      have HL := hid hlt
      clear hlt BW
      generalize Z[kk] = y at *
      clear hk1
      simp only [encL] at hcall
      cases hq : q y with
      | true =>
        rw [hq] at hcall
        have HR := hid (idx_hit HX.out hq A.out)
        go_wp2_with (go_at_fn g; refine hcall.mono ?_; rintro e w' ⟨rfl, hb'⟩)
        go_ret
        exact ⟨ret_int HR.out.symm, Below.then HB.out hb' HB.out.size⟩
      | false =>
        rw [hq] at hcall
        have HQ := hid hq
        clear hq
        go_wp2_with (go_at_fn g; refine hcall.mono ?_; rintro e w' ⟨rfl, hb'⟩)
        go_roundw
        case rel =>
          refine ⟨kk + 1, by have := HL.out; omega, by go_num, Below.then HB.out hb' HB.out.size, fun j z hj hz => ?_⟩
          by_cases e : j = kk
          · subst e
            rw [HX.out] at hz
            cases hz
            exact HQ.out
          · exact A.out j z (by omega) hz
        case measure => simp [intOf]; have := HL.out; omega
    · have hltz : ¬ (kk : Int) < (N : Int) := by omega
      have HE := hid (idx_miss (q := q) (S := Z) fun j y hj => A.out j y (by have := (List.getElem?_eq_some_iff.1 hj).1; have := HN.out; omega) hj)
      clear hlt hkk A BW
      go_wp2
      go_ret
      exact ⟨ret_int HE.out.symm, HB.out⟩
/-! ### DeleteFunc -/
def z4 (n : Nat) : List Value := flatK cL (List.replicate n lr0)
theorem zeros_line (n : Nat) : (Builtin.zeroCells (Value.agg #[.int .i64 0, .int .i64 0, .int .i64 0, .int .i64 0]).cells n).toList = z4 n := by
  have hl : (z4 n).length = n * 4 := by unfold z4; rw [flatK_len (k := 4) (fun _ => rfl), List.length_replicate]
  have hc : (Value.agg #[.int .i64 0, .int .i64 0, .int .i64 0, .int .i64 0]).cells = #[Value.int .i64 0, .int .i64 0, .int .i64 0, .int .i64 0] := rfl
  rw [hc]
  apply List.ext_getElem
  · rw [hl]
    simp [Builtin.zeroCells]
  · intro i h1 h2
    have hi : i < n * 4 := by rw [← hl]; exact h2
    have e : i = i / 4 * 4 + i % 4 := by omega
    have hr : i % 4 < 4 := Nat.mod_lt _ (by omega)
    have hx : (List.replicate n lr0)[i / 4]? = some lr0 := by rw [List.getElem?_replicate, if_pos (by omega)]
    have key := flatK_get (enc := cL) (k := 4) (fun _ => rfl) hx hr
    rw [← e] at key
    have k2 : (z4 n)[i]? = some (z4 n)[i] := List.getElem?_eq_getElem h2
    unfold z4 at k2
    rw [key] at k2
    have : (cL lr0)[i % 4]? = some (.int .i64 0) := by
      have : i % 4 = 0 ∨ i % 4 = 1 ∨ i % 4 = 2 ∨ i % 4 = 3 := by omega
      rcases this with e | e | e | e <;> rw [e] <;> rfl
    rw [this] at k2
    have k3 : (z4 n)[i] = .int .i64 0 := by
      injection k2 with k2
      exact k2.symm
    rw [k3]
    have : i % 4 = 0 ∨ i % 4 = 1 ∨ i % 4 = 2 ∨ i % 4 = 3 := by omega
    rcases this with e | e | e | e <;> simp [Builtin.zeroCells, e]
theorem clear_tail {w : World} (ty : TypeId) {g cap i : Nat} {M : St} (c : Nat) (h : RowL w (.slice (some ⟨g, 0, none⟩) M.length cap) M) (hi : i < M.length) :
    ∃ C : Array Value, (Builtin.clear_ #[42] ty #[.slice (some ⟨g, i * 4, none⟩) (M.length - i) c]).run Try.prog w = .ok (.tuple #[]) (w.setRow g C) ∧ RowL (w.setRow g C) (.slice (some ⟨g, 0, none⟩) i cap) (M.take i) := by
  obtain ⟨h0, ⟨e, _⟩ | ⟨g', cap', cur, e, _, hg, h1, h2, h3, h4⟩⟩ := h
  · cases e
  · cases e
    have k1 : elL.k = 4 := rfl
    have k2 : elL.enc = cL := rfl
    rw [k1] at h3 h4 h0
    rw [k2] at h4 h0
    have hzl : ∀ n, (z4 n).length = n * 4 := fun n => by unfold z4; rw [flatK_len (k := 4) (fun _ => rfl), List.length_replicate]
    have hst := run_storeCells_at Try.prog g (i * 4) 33 (z4 (M.length - i)) 0 cur w hg (by rw [hzl]; omega) (flatK_one okL.one _)
    simp only [Nat.add_zero] at hst
    obtain ⟨m, hm⟩ : ∃ m, M.length - i = m + 1 := ⟨M.length - i - 1, by omega⟩
    rw [hm] at hst ⊢
    have hzc := zeros_line (m + 1)
    have hv := Try.zeroValue33
    refine ⟨_, by simp [Builtin.clear_, run_underlying Try.underlying42, hv, hzc, hst]; rfl, ?_⟩
    have hh := setRow_heap w g cur (cur.toList.take (i * 4) ++ (z4 (m + 1) ++ cur.toList.drop (i * 4 + (z4 (m + 1)).length))).toArray _ _ hg
    have ht : (M.take i).length = i := by rw [List.length_take]; omega
    refine ⟨by rw [ht]; exact (flatK_len okL.len _).trans (by rw [ht]), .inr ⟨g, cap, _, by rw [ht], Nat.zero_le _, hh, by rw [ht]; omega, h2, ?_, ?_⟩⟩
    · rw [k1, List.size_toArray, List.length_append, List.length_append, List.length_take, List.length_drop, hzl, Array.length_toList]
      omega
    · rw [k1, k2, ht, flatK_take (k := 4) (fun _ => rfl), ← h4, List.take_take, Nat.min_eq_left (by omega)]
      show List.take (i * 4) (cur.toList.take (i * 4) ++ _) = _
      have hl : (cur.toList.take (i * 4)).length = i * 4 := by rw [List.length_take, Array.length_toList]; omega
      rw [List.take_append_of_le_length (by omega), List.take_take, Nat.min_self]
theorem grown_turn {w w' : World} {g : Nat} (h : Turn (fun k => k = g) w w') : w.grownBy w' (some g) := ⟨h.os, h.tape, h.output, h.size, fun k hk hn => h.block k hk fun e => hn (by rw [e])⟩
/-- A line is written over another one. -/
def put4 (w : World) (b o : Nat) (x : Lr) : World := (((w.setCell ⟨b, o, none⟩ (.int .i64 x.s)).setCell ⟨b, o + 1, none⟩ (.int .i64 x.p)).setCell ⟨b, o + 2, none⟩ (.int .i64 x.f)).setCell ⟨b, o + 3, none⟩ (.int .i64 x.r)
theorem Row.put4 {w : World} {b n cap i : Nat} {M : St} {y : Lr} (h : RowL w (.slice (some ⟨b, 0, none⟩) n cap) M) (hy : M[i]? = some y) (x : Lr) : RowL (put4 w b (i * 4) x) (.slice (some ⟨b, 0, none⟩) n cap) (M.set i x) := by
  have hk := (List.getElem?_eq_some_iff.1 hy).1
  have k : elL.k = 4 := rfl
  have h1 := Row.set okL h hy (j := 0) (y := ⟨x.s, y.p, y.f, y.r⟩) (c := .int .i64 x.s) (by decide) rfl
  have h2 := Row.set okL h1 (i := i) (x := ⟨x.s, y.p, y.f, y.r⟩) (j := 1) (y := ⟨x.s, x.p, y.f, y.r⟩) (c := .int .i64 x.p) (by simp [hk]) (by decide) rfl
  have h3 := Row.set okL h2 (i := i) (x := ⟨x.s, x.p, y.f, y.r⟩) (j := 2) (y := ⟨x.s, x.p, x.f, y.r⟩) (c := .int .i64 x.f) (by simp [hk]) (by decide) rfl
  have h4 := Row.set okL h3 (i := i) (x := ⟨x.s, x.p, x.f, y.r⟩) (j := 3) (y := x) (c := .int .i64 x.r) (by simp [hk]) (by decide) rfl
  simp only [List.set_set] at h4
  exact h4
theorem turn_put4 {F : Nat → Prop} (w : World) {b o : Nat} (x : Lr) (h : F b) : Turn F w (put4 w b o x) :=
  (((Turn.setCell F w ⟨b, o, none⟩ _ h).then (Turn.setCell F _ ⟨b, o + 1, none⟩ _ h)).then (Turn.setCell F _ ⟨b, o + 2, none⟩ _ h)).then (Turn.setCell F _ ⟨b, o + 3, none⟩ _ h)
set_option maxHeartbeats 8000000 in
set_option maxRecDepth 100000 in
theorem deleteF_any (c : Value) (q : Lr → Bool) (v : Value) (L : St) (w : World) (hp : Clo (fun k => v.ownBlock = some k) w c q) (h : RowL w v L) (hl : L.length ≤ 1000) :
    Calls Try.prog 32 #[v, c] w fun e w' => ∃ v', e = .returned v' ∧ RowL w' v' (lessS q L) ∧ w.grownBy w' v.ownBlock ∧ v'.ownBlock = v.ownBlock := by
  have HI := hid (index_any c q v L w hp h hl)
  obtain ⟨g, lb, rfl, eg, hc⟩ := hp
  obtain ⟨ao, cap, rfl, hcn, hc63, hg, -⟩ := h.slice
  rcases idx_cases q L with ⟨e1, e2⟩ | ⟨i, e1, hi, kp⟩
  · rw [e1] at HI
    rw [e2]
    have HR := hid h
    clear h hg hc e1 e2
    generalize L.length = n at *
    go_enter Try.func32, Try.ntmps32
    go_wp2_with (go_at_call 29; refine Calls.mono HI.out ?_; rintro e w' ⟨rfl, hb⟩)
    go_ret
    exact ⟨_, rfl, HR.out.below hb, ⟨hb.os, hb.tape, hb.output, hb.size, fun k hk _ => hb.block k hk⟩, rfl⟩
  · rw [e1] at HI
    obtain ⟨b, rfl⟩ := hg i hi
    have HR := hid h
    have HP := hid hc
    have HK := hid kp
    have hi1 : ¬ ((i : Int) = -1) := by omega
    have hi2 : ((i : Int) == -1) = false := by simp
    clear h hg hc e1 kp
    generalize hn : L.length = n at *
    have HN := hid hn
    clear hn
    go_enter Try.func32, Try.ntmps32
    go_wp2_with (go_at_call 29; refine Calls.mono HI.out ?_; rintro e wi ⟨rfl, hb⟩)
    have HB := hid hb
    clear hb
    go_loopw [5, 6, 7] (fun s5 s6 _ wr => ∃ (i j : Nat) (M : St), s5 = .int .i64 i ∧ s6 = .int .i64 j ∧ i < j ∧ j ≤ n ∧ Hid (Kept q L M i j ∧ RowL wr (.slice (some ⟨b, 0, none⟩) n cap) M ∧ Turn (fun k => k = b) w wr)) (fun _ s6 _ _ => n - (intOf s6).toNat)
    case atStart => exact ⟨i, i + 1, L, rfl, by go_num, by omega, by omega, HK.out, HR.out.below HB.out, Turn.of HB.out _⟩
    case round =>
      obtain ⟨i, j, M, rfl, rfl, hij, hjn, HM⟩ := hrel
      clear HI HR HK hi hi1 hi2 HB
      by_cases hlt : j < n
      · have hltz : (j : Int) < (n : Int) := by omega
        have hjL : j < L.length := by have := HN.out; omega
        obtain ⟨x, hx⟩ : ∃ x, L[j]? = some x := ⟨_, List.getElem?_eq_getElem hjL⟩
        have HX := hid hx
        obtain ⟨c0, c1, c2, c3⟩ := (RowL.at HM.out.2.1 (HM.out.1.at hx)).cells
        clear hjL hx
        have hin : i < n := by omega
        have hinz : (i : Int) < (n : Int) := by omega
        have hiM : i < M.length := by have := HM.out.1.len; have := HN.out; omega
        obtain ⟨y, hy⟩ : ∃ y, M[i]? = some y := ⟨_, List.getElem?_eq_getElem hiM⟩
        have HY := hid hy
        have hra := HM.out.2.1.below (below_new wr (objL x))
        have hta : Turn (fun k => k = b) w (wr.alloc (objL x)) := HM.out.2.2.then (Turn.of (below_new wr (objL x)) _)
        have hcall := HP.out (wr.alloc (objL x)) x (hta.mono fun k hk => by subst hk; rfl)
        have HS := hid (blk_alloc_new wr (objL x))
        have HRA := hid hra
        have HTA := hid hta
        clear hy hiM hlt hra hta
        simp only [encL] at hcall
        cases hq : q x with
        | true =>
          have HQ := hid hq
          rw [hq] at hcall
          clear hq
          have HK2 := hid (HM.out.1.skip HX.out HQ.out)
          have HAL : Hid (wr.alloc (objL x) = wr.alloc (.cells #[.int .i64 x.s, .int .i64 x.p, .int .i64 x.f, .int .i64 x.r] 33)) := rfl
          obtain ⟨d0, d1, d2, d3⟩ := cellsL HS.out
          simp only [objL] at hcall d0 d1 d2 d3
          go_wp2_with (go_at_fn g; refine hcall.mono ?_; rintro e w' ⟨rfl, hb'⟩)
          go_roundw
          case rel => exact ⟨i, j + 1, M, rfl, by go_num, by omega, by omega, HK2.out, HRA.out.below hb', HTA.out.then (Turn.of hb' _)⟩
          case measure => simp [intOf]; omega
        | false =>
          have HQ := hid hq
          rw [hq] at hcall
          clear hq
          have HK2 := hid (HM.out.1.put HX.out HQ.out)
          obtain ⟨d0, d1, d2, d3⟩ := cellsL HS.out
          simp only [objL] at hcall d0 d1 d2 d3
          go_wp2_with (go_at_fn g; refine hcall.mono ?_; rintro e w' ⟨rfl, hb'⟩; have HB' := hid hb'; have hr' := HRA.out.below hb'; have hs' := (hb'.block wr.heap.size (by rw [nblk_alloc]; omega)).trans HS.out; obtain ⟨t0, t1, t2, t3⟩ := cellsL hs'; have HR' := hid hr'; have f1 := fun j => Row.frozen HR'.out j; obtain ⟨y0, y1, y2, y3⟩ := (RowL.at hr' HY.out).cells; clear hb' hr' hs' d0 d1 d2 d3 c0 c1 c2 c3)
          have hrow := Row.put4 HR'.out HY.out x
          have htn : Turn (fun k => k = b) w (put4 w' b (i * 4) x) := (HTA.out.then (Turn.of HB'.out _)).then (turn_put4 w' x rfl)
          go_roundw
          case rel => exact ⟨i + 1, j + 1, _, by go_num, by go_num, by omega, by omega, HK2.out, hrow, htn⟩
          case measure => simp [intOf]; omega
      · have hltz : ¬ (j : Int) < (n : Int) := by omega
        have hjL : j = L.length := by have := HN.out; have := HM.out.1.le; omega
        have hlen : M.length = n := by have := HM.out.1.len; have := HN.out; omega
        have hrow := HM.out.2.1
        rw [← hlen] at hrow
        have hcl := fun ty c => clear_tail ty c hrow (i := i) (by omega)
        have hd := HM.out.1.head
        rw [hjL, List.take_length] at hd
        have HD := hid hd
        have hin : i < n := by omega
        have hinz : (i : Int) ≤ (n : Int) := by omega
        have hic : i ≤ cap := by omega
        have hic2 : ¬ (cap = i) := by omega
        rw [hlen] at hcl
        obtain ⟨C, hrun, hr2⟩ := hcl 0 (cap - i)
        have HF : Hid (RowL (wr.setRow b C) (.slice (some ⟨b, 0, none⟩) i cap) (M.take i) ∧ w.grownBy (wr.setRow b C) (some b)) := ⟨hr2, grown_turn (HM.out.2.2.then (Turn.setRow (fun k => k = b) wr b C rfl))⟩
        clear hr2 hcl hrow hd hjL hlen hlt
        go_wp2
        go_ret
        exact ⟨_, rfl, by rw [← HD.out]; exact HF.out.1, HF.out.2, rfl⟩
/-! ### Clone -/
theorem clone_any (v : Value) (L : St) (w : World) (h : RowL w v L) (hl : L.length ≤ 1000) :
    Calls Try.prog 31 #[v] w fun e w' => ∃ v', e = .returned v' ∧ Sep w w.heap.size w' [lstL v' L] := by
  have q22 : ∀ (w : World) (a : Option Addr) (n c n' c' : Nat), (binOp .eql 42 (.slice a n c) (.slice none n' c')).run Try.prog w = .ok (.bool a.isNone) w := fun w a n c n' c' => Lib.run_eql_slice_nil w _ _ a n c n' c' Try.underlying42
  obtain ⟨ao, cap, rfl, -, -, -, hn⟩ := h.slice
  cases ao with
  | none =>
    obtain rfl := hn rfl
    have HK := hid ((sep_nil w).nil (E := elL))
    clear h hn
    simp only [List.length_nil] at *
    go_enter Try.func31, Try.ntmps31
    go_wp2
    go_ret
    exact ⟨_, rfl, HK.out⟩
  | some a =>
    obtain ⟨v', w', r1, s1⟩ := ((sep_nil w).made (E := elL)).onto okL (h.below (below_new w _)) 42 (by simp; omega)
    have HK := hid s1
    simp only [elL] at r1
    have hRun := hid r1
    clear r1 s1 h hn
    generalize L.length = n at *
    go_enter Try.func31, Try.ntmps31
    go_wp2_with (at_builtin; refine wpList_append_run rfl _ _ _ _ rfl _ _ _ _ rfl rfl hRun.out ?_)
    go_ret
    exact ⟨_, rfl, HK.out⟩
end Go.Proofs.Ytekjoeebomcmeaa

/-
  What post of package mailbox answers, and leaves, among things that lie apart; no condition but that the cores are there, each once, and not who sends.
-/
import Derived.Test.YtpapjdmnhgnpfaaMBMeth
namespace Go.Proofs.Ytpapjdmnhgnpfaa
open Go.RowKit Go.Deep Go.Shelf
section
variable {w0 w w' : World} {r p g n : Nat} {V : List Sv} {L : St} {R : List Th}
theorem tI_get {T : List Nat} {k : Nat} (h : k < T.length) : ∃ c : Nat, T[k]? = some c ∧ (tI T)[k]? = some (c : Int) := ⟨_, List.getElem?_eq_getElem h, tI_at (List.getElem?_eq_getElem h)⟩
theorem not_take {T : List Nat} {k c : Nat} (hd : T.Nodup) (h : T[k]? = some c) : c ∉ T.take k := fun hm => by
  obtain ⟨j, hj⟩ := List.mem_iff_getElem?.1 hm
  obtain ⟨hk, e1⟩ := List.getElem?_eq_some_iff.1 h
  have hj1 := (List.getElem?_eq_some_iff.1 hj).1
  rw [List.length_take] at hj1
  rw [List.getElem?_take_of_lt (by omega)] at hj
  obtain ⟨h2, e2⟩ := List.getElem?_eq_some_iff.1 hj
  exact List.pairwise_iff_getElem.1 hd j k h2 hk (by omega) (e2.trans e1.symm)
set_option maxHeartbeats 4000000 in
set_option maxRecDepth 100000 in
theorem post_sep {v : Value} {T : List Nat} {m : Ml} (s : Sep w0 r w (bxT n p g V L :: lstI v (tI T) :: R)) (hd : T.Nodup) (hT : ∀ c ∈ T, c < n ∧ m.f ≠ (c : Int)) (hm : 0 ≤ m.f ∧ m.f < (n : Int)) (hle : T.length ≤ 8) :
    Calls Try.prog 25 #[ptr p, encM m, v] w fun e w' => e = .returned (.int .i64 (postE L T)) ∧ ∃ V', Sep w0 r w' (bxT n p g V' (postT L m T) :: lstI v (tI T) :: R) := by
  have hN : ∀ k, (tI T).length = k ↔ T.length = k := fun k => by rw [tI_len]
  obtain ⟨ao, cap, ev⟩ := s.listIs (E := elI) (v := v) (A := tI T) (by simp)
  rw [tI_len] at ev
  subst ev
  have s1 := (s.box (objM m)).perm (List.Perm.cons _ (List.Perm.refl _))
  obtain ⟨m0, m1, m2⟩ := cellsM (x := m) (blk_alloc_new w (objM m))
  have S1 := hid s1
  have HD := hid hd
  have HT := hid hT
  have HM := hid hm
  have c0 : (w.alloc (objM m)).cell? ⟨p, 0, none⟩ = some (ovS g n) := cell_al s.cellB _
  clear s s1 hd hT hm hN
  unfold encM
  generalize hn : T.length = z at *
  go_enter Try.func25, Try.ntmps25
  go_wp2_with fail
  have e0 : w.alloc (.cells #[.int .i64 m.f, .int .i64 m.k, .int .i64 m.a] 35) = w.alloc (objM m) := rfl
  try rw [e0]
  clear e0
  generalize hw1 : w.alloc (objM m) = w1 at *
  generalize hq : w.heap.size = q at *
  clear hw1
  go_loopw [8, 13] (fun _ s13 wr => ∃ k : Nat, k ≤ z ∧ s13 = .int .i64 k ∧ wr = w1 ∧ Hid (∀ (j : Nat) c, j < k → T[j]? = some c → (boxN L c).length < 64)) (fun _ s13 _ => z - (intOf s13).toNat)
  case atStart => exact ⟨0, Nat.zero_le _, rfl, rfl, fun j c hj => by omega⟩
  case round =>
    obtain ⟨k, hk, rfl, rfl, HJ⟩ := hrel
    by_cases hlt : k < z
    · obtain ⟨c, hc, hci⟩ := tI_get (T := T) (k := k) (by omega)
      obtain ⟨g2, rfl, hcc⟩ := S1.out.listAt okI (ao := ao) (n := z) (cap := cap) (A := tI T) (by simp) hci
      have hcell := hcc 0 (.int .i64 c) rfl
      rw [show elI.k = 1 from rfl, Nat.mul_one, Nat.add_zero] at hcell
      have hcn := (HT.out c (List.mem_of_getElem? hc)).1
      obtain ⟨ao2, cap2, hx, hbc, -⟩ := S1.out.swap.boxAt hcn
      have HC := hid hc
      have hltz : (k : Int) < (z : Int) := by omega
      have hcz : (c : Int) < (n : Int) := by omega
      clear hcc hc hci hx
      by_cases hfull : 64 ≤ (boxN L c).length
      · have HF : Hid (postE L T = 2 ∧ postT L m T = L) := by
          have := full_yes HC.out hfull
          exact ⟨by unfold postE; rw [if_pos this], by unfold postT; rw [if_pos this]⟩
        generalize (boxN L c).length = b at *
        have hfz : (b : Int) ≥ 64 := by omega
        go_wp2
        go_ret
        rw [HF.out.1, HF.out.2]
        exact ⟨rfl, _, S1.out.drop⟩
      · have HB : Hid ((boxN L c).length < 64) := show (boxN L c).length < 64 by omega
        generalize hb : (boxN L c).length = b at *
        have HBE := hid hb
        have hfz : ¬ ((b : Int) ≥ 64) := by have := HB.out; omega
        clear hb
        go_wp2
        go_roundw
        case rel => exact ⟨k + 1, by omega, by go_num, trivial, fun j d hj hd => by
          by_cases e : j = k
          · subst e
            have := HC.out
            rw [hd] at this
            cases this
            rw [HBE.out]
            exact HB.out
          · exact HJ.out j d (by omega) hd⟩
        case measure => simp [intOf]; omega
    · obtain rfl : k = z := by omega
      have hltz : ¬ (k : Int) < (k : Int) := by omega
      have hful : fullB L T = false := full_none fun j c hj => HJ.out j c (by have := (List.getElem?_eq_some_iff.1 hj).1; omega) hj
      have HF : Hid (postE L T = 0 ∧ postT L m T = postS L m T) := ⟨by unfold postE; rw [hful]; rfl, by unfold postT; rw [hful]; rfl⟩
      have HFU := hid (full_no hful)
      clear hful HJ c0
      go_wp2_with fail
      go_loopw [10, 29] (fun _ s29 wr => ∃ (k2 : Nat) (V2 : List Sv), k2 ≤ k ∧ s29 = .int .i64 k2 ∧ Sep w0 r wr (bxT n p g V2 (postS L m (T.take k2)) :: blk q (objM m) :: lstI (.slice ao k cap) (tI T) :: R)) (fun _ s29 _ => k - (intOf s29).toNat)
      case atStart => exact ⟨0, V, Nat.zero_le _, rfl, S1.out.swap⟩
      case round =>
        clear S1 m0 m1 m2
        obtain ⟨k2, V2, hk2, rfl, s2⟩ := hrel
        by_cases hlt2 : k2 < k
        · obtain ⟨c, hc, hci⟩ := tI_get (T := T) (k := k2) (by omega)
          obtain ⟨g2, rfl, hcc⟩ := s2.listAt okI (ao := ao) (n := k) (cap := cap) (A := tI T) (by simp) hci
          have hcell := hcc 0 (.int .i64 c) rfl
          rw [show elI.k = 1 from rfl, Nat.mul_one, Nat.add_zero] at hcell
          have hmem := List.mem_of_getElem? hc
          obtain ⟨hcn, hcf⟩ := HT.out c hmem
          have hlen : T.length = k := hn
          have hbx : boxN (postS L m (T.take k2)) c = boxN L c := by
            rw [boxN_post m _ L (HD.out.sublist (List.take_sublist _ _)) (fun d hd => by
              have hl := s2.goodB.len
              rw [postS_len] at hl
              rw [hl]
              exact (HT.out d (List.mem_of_mem_take hd)).1) c, if_neg (not_take HD.out hc)]
          have hgd : Good n (putN (postS L m (T.take k2)) c m) := s2.goodB.put hcn ⟨HM.out.1, HM.out.2, hcf⟩ (by rw [hbx]; exact HFU.out c hmem)
          have hps := postS_more L m hc
          obtain ⟨m0, m1, m2⟩ := cellsM (x := m) (s2.each (blk q (objM m)) (by simp)).1
          obtain ⟨ao2, cap2, hx, hbc, -⟩ := s2.boxAt hcn
          obtain ⟨a', c', w3, r3, d1, d2, d3, s3⟩ := s2.drew.moreBox hcn hx m hgd
          rw [← hps] at s3
          have S3 := hid s3
          have R3 := hid r3
          have cp := s2.cellB
          have cpa : (wr.alloc (objM m)).cell? ⟨p, 0, none⟩ = some (ovS g n) := cell_al s2.cellB _
          have cga : (wr.alloc (objM m)).cell? ⟨g, c, none⟩ = some (.slice ao2 (boxN (postS L m (T.take k2)) c).length cap2) := cell_al hbc _
          have hltz : (k2 : Int) < (k : Int) := by omega
          have hcz : (c : Int) < (n : Int) := by omega
          clear s2 s3 r3 hgd hps hbx hx hmem hcf hcc hc hci
          generalize (boxN (postS L m (T.take k2)) c).length = b at *
          unfold objM at R3 cpa cga
          go_wp2_with fail
          go_region_law (refine step_append_run rfl (.tmp 44) (.tmp 46) 39 39 rfl (.slice ao2 b cap2) (.slice (some ⟨wr.heap.size, 0, none⟩) 1 1) _ _ (by simp [Act.eval]) (by simp [Act.eval]) R3.out ?_)
          all_goals
            go_wp2
            go_roundw
            case rel => exact ⟨k2 + 1, _, by omega, by go_num, S3.out⟩
            case measure => simp [intOf]; omega
        · obtain rfl : k2 = k := by omega
          have hltz : ¬ (k2 : Int) < (k2 : Int) := by omega
          rw [← hn, List.take_length, hn] at s2
          have S2 := hid s2
          clear s2
          go_wp2
          go_ret
          rw [HF.out.1, HF.out.2]
          exact ⟨rfl, _, S2.out.drop2⟩
end
end Go.Proofs.Ytpapjdmnhgnpfaa

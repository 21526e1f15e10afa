/-
  What has, others and post of package mailbox answer, and leave, among things that lie apart; no condition but what post is asked for.
-/
import Derived.Test.YtpapjdmnhgnpfaaMBRow
namespace Go.Proofs.Ytpapjdmnhgnpfaa
open Go.RowKit Go.Deep Go.Shelf
def tI (T : List Nat) : List Int := T.map fun i : Nat => (i : Int)
theorem tI_len (T : List Nat) : (tI T).length = T.length := List.length_map _
theorem tI_at {T : List Nat} {k c : Nat} (h : T[k]? = some c) : (tI T)[k]? = some (c : Int) := by
  unfold tI
  rw [List.getElem?_map, h]
  rfl
section
variable {w0 w w' : World} {r p g n : Nat} {V : List Sv} {L : St} {R : List Th}
theorem has_any (s : Sep w0 r w (bxT n p g V L :: R)) (c : Int) :
    Calls Try.prog 24 #[ptr p, .int .i64 c] w fun e w' => e = .returned (.bool (hasB n c)) ∧ w' = w := by
  have c0 := s.cellB
  clear s
  unfold hasB
  by_cases h : 0 ≤ c
  · have h1 : decide (0 ≤ c) = true := by simpa using h
    rw [h1]
    go_enter Try.func24, Try.ntmps24
    go_wp2
    go_ret
    exact ⟨by simp, rfl⟩
  · have h1 : decide (0 ≤ c) = false := by simpa using h
    rw [h1]
    go_enter Try.func24, Try.ntmps24
    go_wp2
    go_ret
    exact ⟨by simp, rfl⟩
set_option maxHeartbeats 4000000 in
theorem others_sep (s : Sep w0 r w (bxT n p g V L :: R)) (c : Int) :
    Calls Try.prog 27 #[ptr p, .int .i64 c] w fun e w' => ∃ v, e = .returned v ∧ Sep w0 r w' (lstI v (tI (othersN n c)) :: bxT n p g V L :: R) := by
  have c0 := s.cellB
  have htop := s.goodB.top
  have S1 := hid (s.nil (E := elI))
  clear s
  go_enter Try.func27, Try.ntmps27
  go_wp2
  go_loopw [5, 6, 12] (fun s5 _ s12 wr => ∃ k : Nat, k ≤ n ∧ s12 = .int .i64 k ∧ Sep w0 r wr (lstI s5 (tI (othersN k c)) :: bxT n p g V L :: R)) (fun _ _ s12 _ => n - (intOf s12).toNat)
  case atStart => exact ⟨0, Nat.zero_le _, rfl, S1.out⟩
  case round =>
    clear S1
    obtain ⟨k, hk, rfl, s2⟩ := hrel
    obtain ⟨ao, cap, ev⟩ := s2.listIs (E := elI) (v := u5) (A := tI (othersN k c)) (by simp)
    subst ev
    by_cases hlt : k < n
    · have hltz : (k : Int) < (n : Int) := by omega
      have HO := hid (others_more k c)
      by_cases e : (k : Int) = c
      · have e1 : ((k : Int) == c) = true := by simpa using e
        have e2 : ((k : Int) != c) = false := by simpa using e
        rw [if_pos e, List.append_nil] at HO
        have HE := hid e
        have S2 := hid s2
        clear e s2
        generalize (tI (othersN k c)).length = z at *
        go_wp2
        go_roundw
        case rel => exact ⟨k + 1, by omega, by go_num, by rw [HO.out]; exact S2.out⟩
        case measure => simp [intOf]; omega
      · have e1 : ((k : Int) == c) = false := by simpa using e
        have e2 : ((k : Int) != c) = true := by simpa using e
        rw [if_neg e] at HO
        have hl : (tI (othersN k c)).length ≤ 1000000 := by
          have := others_le k c
          rw [tI_len]
          omega
        obtain ⟨v3, w3, r3, s3⟩ := s2.more okI 48 (k : Int) (C := #[.int .i64 (k : Int)]) rfl hl
        have S3 : Hid (Sep w0 r w3 (lstI v3 (tI (othersN (k + 1) c)) :: bxT n p g V L :: R)) := by
          rw [HO.out]
          unfold tI at s3 ⊢
          rw [List.map_append]
          exact s3
        simp only [elI] at r3
        have R3 := hid r3
        clear e s2 s3 r3 hl
        generalize (tI (othersN k c)).length = z at *
        go_wp2_with (at_builtin; refine wpList_append_run rfl _ _ _ _ rfl _ _ _ _ rfl rfl R3.out ?_)
        go_roundw
        case rel => exact ⟨k + 1, by omega, by go_num, S3.out⟩
        case measure => simp [intOf]; omega
    · obtain rfl : k = n := by omega
      have hltz : ¬ (k : Int) < (k : Int) := by omega
      have S2 := hid s2
      clear s2
      generalize (tI (othersN k c)).length = z at *
      go_wp2
      go_ret
      exact ⟨_, rfl, S2.out⟩
/-- One more message in a box: what append makes, and what is written down then. -/
theorem Sep.moreBox (s : Sep w0 r w (bxT n p g V L :: R)) {i : Nat} (hi : i < n) {ao : Option Addr} {cap : Nat} (hx : V[i]? = some ⟨ao, (boxN L i).length, cap⟩) (m : Ml) (gd : Good n (putN L i m)) :
    ∃ a' c' w', (Builtin.append_ #[39, 39] 39 #[.slice ao (boxN L i).length cap, .slice (some ⟨w.heap.size, 0, none⟩) 1 1]).run Try.prog (w.alloc (objM m)) = .ok (.slice a' ((boxN L i).length + 1) c') w' ∧ w'.cell? ⟨p, 0, none⟩ = some (ovS g n) ∧ w'.cell? ⟨g, i, none⟩ = some (.slice ao (boxN L i).length cap) ∧ w'.frozen? ⟨g, i, none⟩ = false ∧
      Sep w0 r (w'.setCell ⟨g, i, none⟩ (.slice a' ((boxN L i).length + 1) c')) (bxT n p g (V.set i ⟨a', (boxN L i).length + 1, c'⟩) (putN L i m) :: R) := by
  have s1 := s.below (below_new w (objM m))
  obtain ⟨ao', cap', e1, hc, row⟩ := s1.boxAt hi
  rw [hx] at e1
  simp only [Option.some.injEq, Sv.mk.injEq] at e1
  obtain ⟨rfl, -, rfl⟩ := e1
  have hfew := s.goodB.few i _ (s.goodB.at hi)
  obtain ⟨v', w', r1, r2, r3, r4⟩ := append_one okM 39 m w.heap.size row (fun j c hj => by
    have := atM_of (blk_alloc_new w (objM m)) j c hj
    rw [Nat.zero_add] at this
    exact this) (by omega)
  obtain ⟨a', c', ev, _⟩ := r2.slice
  rw [List.length_append] at ev
  subst ev
  have hop := s1.opn
  have ne1 : (Value.slice ao (boxN L i).length cap).ownBlock ≠ some p ∧ (Value.slice ao (boxN L i).length cap).ownBlock ≠ some g := by
    have hq := List.mem_of_getElem? (bxs_at hx (s.goodB.at hi))
    obtain ⟨b1, b2⟩ := List.pairwise_cons.1 s1.head.2.1
    obtain ⟨b3, b4⟩ := List.pairwise_cons.1 b2
    exact ⟨fun e => b1 _ (List.mem_cons_of_mem _ hq) p rfl e, fun e => b3 _ hq g rfl e⟩
  have hp : (w.alloc (objM m)).heap[p]? = some (objB g n) := s1.head.1 (blk p (objB g n)) (by simp [bxL])
  have hplt := (Array.getElem?_eq_some_iff.1 hp).1
  have hglt := Row.lt s1.rowB (x := g) rfl
  have hp' := (r3.block p hplt fun e => ne1.1 e.symm).trans hp
  have hg' := r3.block g hglt fun e => ne1.2 e.symm
  refine ⟨a', c', w', r1, by simp [World.cell?, hp'], ?_, ?_, ?_⟩
  · have : w'.cell? ⟨g, i, none⟩ = (w.alloc (objM m)).cell? ⟨g, i, none⟩ := by simp only [World.cell?, hg']
    rw [this]
    exact hc
  · have : w'.frozen? ⟨g, i, none⟩ = (w.alloc (objM m)).frozen? ⟨g, i, none⟩ := by simp only [World.frozen?, hg']
    rw [this]
    exact s1.frozenB i
  · exact s1.turnBox (x' := ⟨a', (boxN L i).length + 1, c'⟩) (b' := boxN L i ++ [m]) hi hx (by
      have := r2
      simpa using this) r3 (r4.imp id fun e k hk => by
        have : some (w.alloc (objM m)).heap.size = some k := e.symm.trans hk
        cases this
        exact Nat.le_refl _) gd
end
end Go.Proofs.Ytpapjdmnhgnpfaa

/-
  What Copy of package slots answers: others in the same state, in blocks of their own; no condition of ours.
-/
import Derived.Test.YtkpoppgibempbaaNMake
import Derived.Shelf.SlMaps.Clone
import Derived.Shelf.SlicesE.Clone
namespace Go.Proofs.Ytkpoppgibempbaa
open Go.RowKit Go.Deep Go.MapKept Go.Maps Go.Shelf
set_option linter.unusedSectionVars false
variable [dCp : DecidableEq Cp] [dLim : ∀ k, Decidable (Lim k)] [dBad : ∀ k, Decidable (Bad k)] [dFit : ∀ g z, Decidable (Fit g z)] [dFine : ∀ c, Decidable (Fine c)] [dMint : ∀ c v, Decidable (MintR c v)] [dWho : ∀ x y, Decidable (Whose x y)] [dSl : DecidableEq Sl] [dLt : ∀ a b, Decidable (ltS a b)] [iSl : Inhabited Sl] [iCp : Inhabited Cp]
def maps_ren : Go.Shelf.Ren := ⟨fun | 5 => 29 | 7 => 47 | n => n, fun | 23 => 58 | 25 => 30 | 3 => 33 | 4 => 4 | 20 => 20 | n => n, fun | n => n⟩
theorem maps_lays : Go.Proofs.SlLaysW.n5 Try.prog maps_ren := {
  mixed := by kernel_rfl
  f5 := ⟨Try.f29.name, by decide, Try.func29.trans (congrArg some (by kernel_rfl))⟩
  f7 := Try.func47.trans (congrArg some (by kernel_rfl))
  t4 := Try.underlying4
  a4 := Try.isAgg4
  z4 := Try.sizeOf4
  v4 := Try.zeroValue4
  t20 := Try.underlying20
  a20 := Try.isAgg20
  z20 := Try.sizeOf20
  v20 := Try.zeroValue20
  t23 := Try.underlying58
  a23 := Try.isAgg58
  z23 := Try.sizeOf58
  v23 := Try.zeroValue58 }
def clone_ren : Go.Shelf.Ren := ⟨fun | 41 => 28 | n => n, fun | 22 => 59 | 23 => 3 | 4 => 4 | n => n, fun | n => n⟩
theorem clone_lays : Go.Proofs.SlLaysE0.n41 Try.prog clone_ren := {
  mixed := by kernel_rfl
  f41 := ⟨Try.f28.name, by decide, Try.func28.trans (congrArg some (by kernel_rfl))⟩
  t4 := Try.underlying4
  a4 := Try.isAgg4
  z4 := Try.sizeOf4
  v4 := Try.zeroValue4
  t22 := Try.underlying59
  a22 := Try.isAgg59
  z22 := Try.sizeOf59
  v22 := Try.zeroValue59 }

theorem bits_one (S : St) : ∀ u ∈ S.map bitV, u.oneCell' = true := by
  intro u hu
  obtain ⟨l, _, rfl⟩ := List.mem_map.1 hu
  rfl
theorem clone_bits (v : Value) (S : St) (w : World) (h : w.ownsRow 0 3 1 v S.length (S.map bitV)) (hn : S.length ≤ 64) :
    Calls Try.prog 28 #[v] w fun e w' => ∃ ao cap, e = .returned (.slice ao S.length cap) ∧ w'.ownsRow w.heap.size 3 1 (.slice ao S.length cap) S.length (S.map bitV) ∧ Below w.heap.size w w' := by
  have h' := h
  obtain ⟨h0, ⟨rfl, hn0⟩ | ⟨g, cap, cur, rfl, hb, hg, h1, h2, h3, h4⟩⟩ := h'
  · refine (AnyE.slices_Clone_nil clone_lays 0 0 w).mono ?_
    rintro e w' ⟨rfl, rfl⟩
    rw [hn0]
    exact ⟨none, 0, rfl, ⟨by rw [hn0] at h0; exact h0, .inl ⟨rfl, rfl⟩⟩, Below.refl _ _⟩
  · obtain ⟨i, hi, hz⟩ := Option.map_eq_some_iff.1 infoN
    simp only [Prod.mk.injEq] at hz
    refine (AnyE.slices_Clone clone_lays i (.int .i64 0) 1 8 hi hz.1 hz.2.1 hz.2.2 rfl (by decide) Try.sizeOf3 g 0 S.length cap (S.map bitV) w (by simp) (by unfold maxLen; omega) (by omega) ?_ (bits_one S)).mono ?_
    · intro j u hj
      have := World.ownsRow.cells h (g := g) rfl j u hj
      rw [add_none] at this
      exact this
    · rintro e w' ⟨v', rfl, ho, hne, hB⟩
      have ho' := ho
      obtain ⟨_, ⟨e1, _⟩ | ⟨g', cap', cur', rfl, _⟩⟩ := ho'
      · exact absurd e1 hne
      · exact ⟨_, _, rfl, ho, hB⟩
theorem clone_map (b : Nat) (f : Sl → Option Cp) (w : World) (h : MapIs w b f) :
    Calls Try.prog 29 #[.map (some b)] w fun e w' => ∃ q, e = .returned (.map (some q)) ∧ MapIs w' q f ∧ w.heap.size ≤ q ∧ Below w.heap.size w w' := by
  obtain ⟨es, clock, hb, r⟩ := h
  refine (AnyW.maps_Clone maps_lays b es clock w hb).mono ?_
  rintro e w' ⟨rfl, rfl⟩
  exact ⟨_, rfl, ⟨es, clock, blk_alloc_new _ _, r⟩, Nat.le_refl _, below_new _ _⟩
theorem own_low {w : World} {B : Nat} {e : TypeId} {k : Nat} {v : Value} {n : Nat} {xs : List Value} (h : w.ownsRow B e k v n xs) : w.ownsRow 0 e k v n xs := by
  refine ⟨h.1, ?_⟩
  rcases h.2 with hn | ⟨g, cap, cur, rfl, _, r⟩
  · exact .inl hn
  · exact .inr ⟨g, cap, cur, rfl, Nat.zero_le _, r⟩
/-- Behind both, in whatever order, the struct is laid. -/
theorem copied {w0 w : World} {S : St} {v : Value} {q : Nat} (hv : w.ownsRow 0 3 1 v S.length (S.map bitV)) (hv' : ∀ k, v.ownBlock = some k → w0.heap.size ≤ k) (hq : MapIs w q (holdS S)) (hq' : w0.heap.size ≤ q) (ok : Okay S) (B : Below w0.heap.size w0 w) :
    ∃ p F, (Ending.returned (.pointer (some ⟨w.heap.size, 0, none⟩)) : Ending) = .returned (.pointer (some ⟨p, 0, none⟩)) ∧ Nds (w.alloc (.cells #[v, .map (some q)] 61)) p F S ∧ (∀ x, F x → w0.heap.size ≤ x) ∧ Below w0.heap.size w0 (w.alloc (.cells #[v, .map (some q)] 61)) := by
  have hl := hq.lt
  refine ⟨w.heap.size, fun x => x = w.heap.size ∨ x = q ∨ v.ownBlock = some x, rfl, ⟨q, v, ?_⟩, fun x hx => ?_, B.alloc B.size _⟩
  · exact {
      head := blk_alloc_new _ _
      row := own_of_block hv fun g hg => blk_alloc_lt _ _ _ (World.ownsRow.lt hv g hg).2
      map := hq.of_block (blk_alloc_lt _ _ _ hl)
      fp := .inl rfl
      fm := .inr (.inl rfl)
      fv := fun k hk => ⟨.inr (.inr hk), by have := (World.ownsRow.lt hv k hk).2; omega, fun e => by
        subst e
        obtain ⟨_, ⟨rfl, _⟩ | ⟨g, cap, cur, rfl, _, hg, _⟩⟩ := hv
        · cases hk
        · obtain ⟨es, clock, hb, _⟩ := hq
          have : g = k := by simpa [Value.ownBlock] using hk
          subst this
          rw [hb] at hg
          cases hg⟩
      pm := by omega
      lt := fun x hx => by
        have e : (w.alloc (.cells #[v, .map (some q)] 61)).heap.size = w.heap.size + 1 := by simp
        rw [e]
        rcases hx with rfl | rfl | hx
        · omega
        · omega
        · have := (World.ownsRow.lt hv x hx).2
          omega
      ok := ok }
  · rcases hx with rfl | rfl | hx
    · exact B.size
    · exact hq'
    · exact hv' x hx
/-- What the copying reads stays. -/
theorem y_next {W W' : World} {p m r : Nat} {v : Value} {F : Nat → Prop} {S : St} {w : World} (h : W.cell? ⟨p, 0, none⟩ = some v ∧ W.cell? ⟨p, 1, none⟩ = some (.map (some m)) ∧ (PN W p m v F S ∧ r ≤ W.heap.size ∧ Below r w W)) (b : Below W.heap.size W W') :
    W'.cell? ⟨p, 0, none⟩ = some v ∧ W'.cell? ⟨p, 1, none⟩ = some (.map (some m)) ∧ (PN W' p m v F S ∧ r ≤ W'.heap.size ∧ Below r w W') :=
  ⟨(h.2.2.1.below b).cells.1, (h.2.2.1.below b).cells.2, h.2.2.1.below b, Nat.le_trans h.2.2.2.1 b.size, Below.then h.2.2.2.2 b h.2.2.2.1⟩
theorem y_low {W : World} {p m r : Nat} {v : Value} {F : Nat → Prop} {S : St} {w : World} (h : W.cell? ⟨p, 0, none⟩ = some v ∧ W.cell? ⟨p, 1, none⟩ = some (.map (some m)) ∧ (PN W p m v F S ∧ r ≤ W.heap.size ∧ Below r w W)) : PN W p m v F S := h.2.2.1
set_option maxHeartbeats 1000000 in
theorem copy_any (p : Nat) (F : Nat → Prop) (S : St) (w : World) (h : Nds w p F S) :
    Calls Try.prog 10 #[.pointer (some ⟨p, 0, none⟩)] w fun e w' => ∃ q F', e = .returned (.pointer (some ⟨q, 0, none⟩)) ∧ Nds w' q F' S ∧ (∀ x, F' x → w.heap.size ≤ x) ∧ Below w.heap.size w w' := by
  obtain ⟨m, v, h⟩ := h
  obtain ⟨r, HR⟩ : ∃ r, Hid (w.heap.size = r) := ⟨_, rfl⟩
  have hS : w.cell? ⟨p, 0, none⟩ = some v ∧ w.cell? ⟨p, 1, none⟩ = some (.map (some m)) ∧ (PN w p m v F S ∧ r ≤ w.heap.size ∧ Below r w w) := ⟨h.cells.1, h.cells.2, h, Nat.le_of_eq HR.out.symm, Below.refl _ _⟩
  have OK : Hid (Okay S ∧ S.length ≤ 64) := ⟨h.ok, h.ok.len⟩
  clear h
  go_enter Try.func10, Try.ntmps10
  go_wp2
  go_region_held3 (fun W => W.cell? ⟨p, 0, none⟩ = some v ∧ W.cell? ⟨p, 1, none⟩ = some (.map (some m)) ∧ (PN W p m v F S ∧ r ≤ W.heap.size ∧ Below r w W)) ((first | assumption | with_reducible exact y_next hS ((Below.refl _ _).drew) | with_reducible exact y_next (by assumption) b2 | with_reducible exact y_next (by assumption) b3 | with_reducible exact y_next (by assumption) (below_new _ _)))
    (first | (go_at_call 28; refine (clone_bits v S _ (y_low (by assumption)).row OK.out.2).mono ?_; rintro e u ⟨ao2, cap2, rfl, o2, b2⟩) | (go_at_call 29; refine (clone_map m (holdS S) _ (y_low (by assumption)).map).mono ?_; rintro e u' ⟨q2, rfl, m2, l2, b3⟩))
  have B : Below w.heap.size w u' := Below.then (Below.refl _ w |>.drew.trans b2) b3 b2.size
  have K := copied (w0 := w) (w := u') (own_low (own_of_block o2 fun g hg => b3.block _ (World.ownsRow.lt o2 g hg).2)) (fun k hk => (World.ownsRow.lt o2 k hk).1) m2 (Nat.le_trans b2.size l2) OK.out.1 B
  go_wp2
  go_ret
  exact K
end Go.Proofs.Ytkpoppgibempbaa

/-
  A map's keys, put in order; no condition but that the keys are pages' numbers.
-/
import Derived.Test.YthjcodkgcffamaaPMap
import Derived.Test.YthjcodkgcffamaaPLays
import Derived.Test.YthjcodkgcffamaaGInts
namespace Go.Proofs.Ythjcodkgcffamaa
open Go.RowKit Go.Deep Go.MapKept Go.Maps Go.Shelf Go.Sort
open Go.WideShapes (sorted_perm)
open Go.WideElems (rd rg Fit rd_mk rg_of)

abbrev rdAny (_ : Value) : Option (DataW Unit × List MemPlace) := some (.nil, [])
theorem few {K : List Int} (hn : K.Nodup) (hk : ∀ x ∈ K, 0 ≤ x ∧ x < 4096) : K.length ≤ 4096 := by
  have hp : K.Perm (((List.range 4096).map fun n : Nat => (n : Int)).filter fun x => decide (x ∈ K)) := by
    refine (List.perm_ext_iff_of_nodup hn ?_).2 fun x => ?_
    · refine List.Pairwise.filter _ ?_
      refine List.pairwise_map.2 ((List.nodup_range (n := 4096)).imp fun {a b} h e => h (by omega))
    · rw [List.mem_filter, List.mem_map]
      simp only [List.mem_range, decide_eq_true_eq]
      constructor
      · intro h
        have := hk x h
        exact ⟨⟨x.toNat, by omega, by omega⟩, h⟩
      · exact fun h => h.2
  rw [hp.length_eq]
  refine Nat.le_trans (List.length_filter_le _ _) ?_
  rw [List.length_map, List.length_range]
  exact Nat.le_refl _
theorem rg_int {e : MapEntry} {s : Int} (hs : I64 s) (hk : e.key = encS s) : rd Try.prog 3 rdAny e = some (.int .i64 s, .nil) := by
  obtain ⟨key, val, born⟩ := e
  simp only at hk
  subst hk
  exact rd_mk (R := rdAny) (yv := (.nil, [])) (key_int hs) rfl
theorem keys_perm (l : List MapEntry) (g : MapEntry → Lit × DataW Unit) : (intKeys (.map ((l.map g).foldr DataW.insert []))).Perm (l.map fun e => Go.intOf (g e).1) := by
  have h := (sorted_perm (l.map g)).map fun p => Go.intOf p.1
  rw [List.map_map] at h
  exact h
theorem flat_ints : ∀ L : List Int, flatK cI L = L.map encZ
  | [] => rfl
  | x :: L => by rw [flatK_cons, flat_ints L]; rfl
/-- The map as the library's contracts read it. -/
theorem own_of {w : World} {b : Nat} {f : Int → Option Pg} (h : MapIs w b f) (hin : ∀ n p, f n = some p → 0 ≤ n ∧ n < 4096) :
    ∃ (D : DataW Unit) (nn : Nat), w.ownsMap Try.prog 3 rdAny b nn D ∧ Maps.size D ≤ 4096 ∧ (intKeys D).Nodup ∧ ∀ x, x ∈ intKeys D ↔ (f x).isSome = true := by
  obtain ⟨es, clock, hb, st, F⟩ := h
  have hrd : ∀ e ∈ es.toList, ∃ s p, I64 s ∧ e.key = encS s ∧ f s = some p ∧ rd Try.prog 3 rdAny e = some (.int .i64 s, .nil) := fun e he => by
    obtain ⟨s, c, hs, ek, _, hf⟩ := F.is e he
    exact ⟨s, c, hs, ek, hf, rg_int hs ek⟩
  have hrg : ∀ e ∈ es.toList, ∃ s p, e.key = encS s ∧ f s = some p ∧ rg Try.prog 3 rdAny e = (.int .i64 s, .nil) := fun e he => by
    obtain ⟨s, p, _, ek, hf, h1⟩ := hrd e he
    exact ⟨s, p, ek, hf, rg_of h1⟩
  have perm : ((es.toList.map (rg Try.prog 3 rdAny)).foldr DataW.insert []).Perm (es.toList.map (rg Try.prog 3 rdAny)) := sorted_perm _
  have kp : (intKeys (.map ((es.toList.map (rg Try.prog 3 rdAny)).foldr DataW.insert []))).Perm (es.toList.map fun e => Go.intOf (rg Try.prog 3 rdAny e).1) := by
    exact keys_perm _ _
  have hmem : ∀ x, x ∈ es.toList.map (fun e => Go.intOf (rg Try.prog 3 rdAny e).1) ↔ (f x).isSome = true := fun x => by
    rw [List.mem_map]
    constructor
    · rintro ⟨e, he, rfl⟩
      obtain ⟨s, p, ek, hf, h1⟩ := hrg e he
      rw [h1]
      simp only [Go.intOf, hf, Option.isSome_some]
    · intro hx
      obtain ⟨p, hp⟩ := Option.isSome_iff_exists.1 hx
      obtain ⟨e, he, ek, _⟩ := F.all x p hp
      obtain ⟨s, q, ek', hf, h1⟩ := hrg e he
      refine ⟨e, he, ?_⟩
      rw [h1]
      exact encS_inj (ek'.symm.trans ek)
  have hnd : (es.toList.map fun e => Go.intOf (rg Try.prog 3 rdAny e).1).Nodup := by
    refine List.pairwise_map.2 (((stamped_iff es clock).1 st).2.2.imp_of_mem fun {x y} hx hy hne e => hne ?_)
    obtain ⟨s, p, ek, _, h1⟩ := hrg x hx
    obtain ⟨s', p', ek', _, h1'⟩ := hrg y hy
    rw [h1, h1'] at e
    simp only [Go.intOf] at e
    rw [ek, ek', e]
  have hlen : es.toList.length ≤ 4096 := by
    have := few hnd fun x hx => by
      obtain ⟨p, hp⟩ := Option.isSome_iff_exists.1 ((hmem x).1 hx)
      exact hin x p hp
    rw [List.length_map] at this
    exact this
  have hsz : es.size ≤ 4096 := by simpa using hlen
  refine ⟨.map ((es.toList.map (rg Try.prog 3 rdAny)).foldr DataW.insert []), es.size, ⟨es, clock, hb, ⟨by unfold maxLen; omega, st, fun e he => ?_⟩, Nat.le_refl _, rfl⟩, ?_, kp.nodup_iff.2 hnd, fun x => by rw [kp.mem_iff]; exact hmem x⟩
  · obtain ⟨s, p, _, _, _, h1⟩ := hrd e he
    exact ⟨_, h1⟩
  · rw [Maps.size_eq, perm.length_eq, List.length_map]
    exact hlen
/-- A map's value: nil and nothing, or a block. -/
def MapAt (w : World) (m : Option Nat) (f : Int → Option Pg) : Prop := (m = none ∧ ∀ n, f n = none) ∨ ∃ b, m = some b ∧ MapIs w b f
theorem MapAt.below {w w' : World} {m : Option Nat} {f : Int → Option Pg} (h : MapAt w m f) (k : Below w.heap.size w w') : MapAt w' m f := by
  rcases h with h | ⟨b, rfl, h⟩
  · exact .inl h
  · exact .inr ⟨b, rfl, h.of_block (k.block b h.lt)⟩
theorem keys_call (m : Option Nat) (w : World) : Calls Try.prog 41 #[.map m] w fun e w' => e = .returned (.func (.func 46) #[] #[.pointer (some ⟨w.heap.size, 0, none⟩)]) ∧ w' = w.alloc (.cells #[.map m] 59) :=
  (callsIn_wide (n := 5)).1 (AnyZI.keys_in keys_lays Fence.wide 5 trivial rfl m w)
theorem sorts_in (m : Nat) : AnyZI.SortsIn Try.prog sorted_ren Fence.wide m :=
  ⟨fun blk off cap ss W hH hblk hsz => callsIn_wide.2 (AnyM.slices_Sort_int sort_lays blk off cap ss W hH hblk hsz),
   fun p cap W => callsIn_wide.2 (AnyM.slices_Sort_int_none sort_lays p cap W)⟩
set_option maxHeartbeats 1000000 in
theorem sorted_call (m : Option Nat) (f : Int → Option Pg) (q : Nat) (w : World) (h : MapAt w m f) (hin : ∀ n p, f n = some p → 0 ≤ n ∧ n < 4096) (hq : q < w.heap.size) (hc : w.cell? ⟨q, 0, none⟩ = some (.map m)) :
    Calls Try.prog 40 #[.func (.func 46) #[] #[.pointer (some ⟨q, 0, none⟩)]] w fun e w' => ∃ (v : Value) (K : List Int), e = .returned v ∧ K.Pairwise (· < ·) ∧ (∀ x, x ∈ K ↔ (f x).isSome = true) ∧ K.length ≤ 4096 ∧ RowI w' v K ∧ (∀ k, v.ownBlock = some k → w.heap.size ≤ k) ∧ Below w.heap.size w w' := by
  have done : ∀ (v : Value) (ss ks : List Int) (w' : World), ss.Perm ks → ks.Nodup → (∀ x, x ∈ ks ↔ (f x).isSome = true) → w'.ownsRow w.heap.size 3 1 v ss.length ((ss.mergeSort (fun x y => decide (x ≤ y))).map encZ) → Below w.heap.size w w' →
      ∃ (v' : Value) (K : List Int), Ending.returned v = .returned v' ∧ K.Pairwise (· < ·) ∧ (∀ x, x ∈ K ↔ (f x).isSome = true) ∧ K.length ≤ 4096 ∧ RowI w' v' K ∧ (∀ k, v'.ownBlock = some k → w.heap.size ≤ k) ∧ Below w.heap.size w w' := by
    intro v ss ks w' hp hn hm hrow hb
    obtain ⟨h1, h2⟩ := sorted_rise hp hn
    have hl : (ss.mergeSort fun x y => decide (x ≤ y)).length = ss.length := (List.mergeSort_perm _ _).length_eq
    refine ⟨v, _, rfl, h1, fun x => by rw [h2, hm], ?_, ?_, fun k hk => (World.ownsRow.lt hrow k hk).1, hb⟩
    · rw [hl, hp.length_eq]
      exact few hn fun x hx => by
        obtain ⟨p, hp⟩ := Option.isSome_iff_exists.1 ((hm x).1 hx)
        exact hin x p hp
    · have e : flatK cI (ss.mergeSort fun x y => decide (x ≤ y)) = (ss.mergeSort fun x y => decide (x ≤ y)).map encZ := by
        exact flat_ints _
      show w'.ownsRow 0 3 1 v _ (flatK cI _)
      rw [e, hl]
      exact own_low hrow
  refine (callsIn_wide (n := 5)).1 ?_
  rcases h with ⟨rfl, hn⟩ | ⟨b, rfl, hm⟩
  · have hseq : SeqGives Fence.wide 2 Try.prog 46 #[.pointer (some ⟨q, 0, none⟩)] encZ (fun ss : List Int => ss = []) 0 w :=
      AnyZI.keys_gives_nil (ρ := keys_ren) { keys_lays with } Fence.wide _ trivial rfl q w hq hc
    have cS := AnyZI.sorted_in sorted_lays Fence.wide 5 trivial trivial trivial trivial rfl (by omega) (sorts_in _) (enters_of Try.func45 (by kernel_rfl) rfl) 46 #[.pointer (some ⟨q, 0, none⟩)] trivial (enters_of Try.func46 (by kernel_rfl) rfl) _ 0 (Nat.zero_le _) (by omega) _ hseq
    refine cS.mono ?_
    rintro e w' ⟨v, ss, rfl, rfl, hrow, _, hb⟩
    exact done v [] [] w' (List.Perm.refl _) List.nodup_nil (fun x => by rw [hn]; simp) hrow hb
  · obtain ⟨D, nn, hown, hsz, hnd, hmem⟩ := own_of hm hin
    have hseq : SeqGives Fence.wide 2 Try.prog 46 #[.pointer (some ⟨q, 0, none⟩)] encZ (fun ss => ss.Perm (intKeys D)) (Maps.size D) w :=
      AnyZI.keys_gives (ρ := keys_ren) { keys_lays with } Fence.wide _ trivial rfl (by omega) q b nn D w hq hc hown
    have cS := AnyZI.sorted_in sorted_lays Fence.wide 5 trivial trivial trivial trivial rfl (by omega) (sorts_in _) (enters_of Try.func45 (by kernel_rfl) rfl) 46 #[.pointer (some ⟨q, 0, none⟩)] trivial (enters_of Try.func46 (by kernel_rfl) rfl) _ _ (by unfold maxLen; omega) (by omega) _ hseq
    refine cS.mono ?_
    rintro e w' ⟨v, ss, rfl, hp, hrow, _, hb⟩
    exact done v ss _ w' hp hnd hmem hrow hb
end Go.Proofs.Ythjcodkgcffamaa

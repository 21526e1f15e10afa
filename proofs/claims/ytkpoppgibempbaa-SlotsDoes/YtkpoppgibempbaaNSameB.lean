/-
  What same of the statements answers: a call on both sides: they answer alike; no condition of ours.
-/
import Derived.Test.YtkpoppgibempbaaNSameB1
import Derived.Test.YtkpoppgibempbaaNBothM
namespace Go.Proofs.Ytkpoppgibempbaa.slotsDoes
open Go.RowKit Go.Deep Go.MapKept Go.Maps
set_option linter.unusedSectionVars false
variable [dCp : DecidableEq Cp] [dLim : ∀ k, Decidable (Lim k)] [dBad : ∀ k, Decidable (Bad k)] [dFit : ∀ g z, Decidable (Fit g z)] [dFine : ∀ c, Decidable (Fine c)] [dMint : ∀ c v, Decidable (MintR c v)] [dWho : ∀ x y, Decidable (Whose x y)] [dSl : DecidableEq Sl] [dLt : ∀ a b, Decidable (ltS a b)] [iSl : Inhabited Sl] [iCp : Inhabited Cp]
set_option maxHeartbeats 2000000 in
set_option maxRecDepth 100000 in
theorem same_0 {w0 : World} {r : Nat} {w : World} {p : Nat} {F : Nat → Prop} {p2 : Nat} {F2 : Nat → Prop} {S : St} {L : List (Nat × Obj)} {M : List (Value × List (Sl × Cp))} (x : Oc) (fx : x.Fits) (h : Bo w0 r w p F p2 F2 S S L M) (hk : x.k = 0) :
    Calls Try.prog 15 #[.pointer (some ⟨p, 0, none⟩), .pointer (some ⟨p2, 0, none⟩), encOv x] w fun e w' => e = .returned (.bool true) ∧ ∃ F' F2' S', Bo w0 r w' p F' p2 F2' S' S' L M := by
  have HF : Hid x.Fits := fx
  have g1 : Hid (Bo w0 r (w.alloc (objO x)) p F p2 F2 S S ((w.heap.size, objO x) :: L) M) := h.alloc (objO x)
  obtain ⟨o0, o1, o2, o3, o4, o5, o6, o7, o8, o9, o10, o11⟩ := opcells (g1.out.has.blk (w.heap.size, objO x) (by simp)).1
  have k0 : (x.k == 0) = true := by simp [hk]
  clear hk
  clear fx h
  simp only [encOv, objO] at g1 o0 o1 o2 o3 o4 o5 o6 o7 o8 o9 o10 o11 ⊢
  go_enter Try.func15, Try.ntmps15
  go_wp2_with fail
  generalize w.alloc (Obj.cells #[.int .i64 x.k, .int .i64 x.n, .int .i64 x.a.n, .int .i64 x.a.i, .int .i64 x.b.n, .int .i64 x.b.i, .int .i64 x.c.k, .int .i64 x.c.o, .int .i64 x.c.r, .int .u64 x.c.b, .int .u64 x.c.g, .int .i64 x.c.z] 35) = v1 at *
  generalize w.heap.size = q at *
  have H1 : Hid (Bo w0 r v1 p F p2 F2 S S ((q, objO x) :: L) M) := g1
  clear g1 o0 o1 o2 o3 o4 o5 o6 o7 o8 o9 o10 o11
  obtain ⟨a, e, U, HU⟩ := (⟨_, _, _, rfl, rfl, rfl⟩ : ∃ a e U, Hid (makeN S x.n = a ∧ makeE S x.n = e ∧ makeS S x.n = U))
  refine (make_bo x.n a e U H1.out HU.out.1 HU.out.2.1 HU.out.2.2).mono ?_
  rintro e w2 ⟨rfl, F3, h2⟩
  have H2 : Hid (Bo w0 r w2 p F3 p2 F2 U S ((q, objO x) :: L) M) := h2
  clear h2 H1
  obtain ⟨o0, o1, o2, o3, o4, o5, o6, o7, o8, o9, o10, o11⟩ := opcells (w := w2) (q := q) (H2.out.has.blk (q, objO x) (by simp)).1
  go_wp2_with fail
  refine (rmake_bo x.n a e U H2.out HU.out.1 HU.out.2.1 HU.out.2.2).mono ?_
  rintro e w3 ⟨rfl, F4, h3⟩
  have H3 : Hid (Bo w0 r w3 p F3 p2 F4 U U ((q, objO x) :: L) M) := h3
  clear h3 H2
  clear o0 o1 o2 o3 o4 o5 o6 o7 o8 o9 o10 o11
  go_wp2
  go_ret
  exact ⟨rfl, F3, F4, U, H3.out.fewer (fun b hb => List.mem_cons_of_mem _ hb) fun b hb => hb⟩
theorem same_bo {w0 : World} {r : Nat} {w : World} {p : Nat} {F : Nat → Prop} {p2 : Nat} {F2 : Nat → Prop} {S : St} {L : List (Nat × Obj)} {M : List (Value × List (Sl × Cp))} (x : Oc) (fx : x.Fits) (h : Bo w0 r w p F p2 F2 S S L M) :
    Calls Try.prog 15 #[.pointer (some ⟨p, 0, none⟩), .pointer (some ⟨p2, 0, none⟩), encOv x] w fun e w' => e = .returned (.bool true) ∧ ∃ F' F2' S', Bo w0 r w' p F' p2 F2' S' S' L M := by
  by_cases n0 : x.k = 0
  · exact same_0 x fx h n0
  by_cases n1 : x.k = 1
  · exact same_1 x fx h n1
  by_cases n2 : x.k = 2
  · exact same_2 x fx h n2
  by_cases n3 : x.k = 3
  · exact same_3 x fx h n3
  by_cases n4 : x.k = 4
  · exact same_4 x fx h n4
  by_cases n5 : x.k = 5
  · exact same_5 x fx h n5
  exact same_else x fx h n0 n1 n2 n3 n4 n5
end Go.Proofs.Ytkpoppgibempbaa.slotsDoes

/-
  What same of the statements answers: a call on both sides: they answer alike; no condition of ours.
-/
import Derived.Test.YtkpoppgibempbaaNBoth
import Derived.Test.YtkpoppgibempbaaNLaw
namespace Go.Proofs.Ytkpoppgibempbaa.slotsDoes
open Go.RowKit Go.Deep Go.MapKept Go.Maps
set_option linter.unusedSectionVars false
variable [dCp : DecidableEq Cp] [dLim : ∀ k, Decidable (Lim k)] [dBad : ∀ k, Decidable (Bad k)] [dFit : ∀ g z, Decidable (Fit g z)] [dFine : ∀ c, Decidable (Fine c)] [dMint : ∀ c v, Decidable (MintR c v)] [dWho : ∀ x y, Decidable (Whose x y)] [dSl : DecidableEq Sl] [dLt : ∀ a b, Decidable (ltS a b)] [iSl : Inhabited Sl] [iCp : Inhabited Cp]
def objO (x : Oc) : Obj := .cells #[.int .i64 x.k, .int .i64 x.n, .int .i64 x.a.n, .int .i64 x.a.i, .int .i64 x.b.n, .int .i64 x.b.i, .int .i64 x.c.k, .int .i64 x.c.o, .int .i64 x.c.r, .int .u64 x.c.b, .int .u64 x.c.g, .int .i64 x.c.z] 35
def encOv (x : Oc) : Value := .agg #[.int .i64 x.k, .int .i64 x.n, .int .i64 x.a.n, .int .i64 x.a.i, .int .i64 x.b.n, .int .i64 x.b.i, .int .i64 x.c.k, .int .i64 x.c.o, .int .i64 x.c.r, .int .u64 x.c.b, .int .u64 x.c.g, .int .i64 x.c.z]
theorem opcells {w : World} {q : Nat} {x : Oc} (h : w.heap[q]? = some (objO x)) : w.cell? ⟨q, 0, none⟩ = some (.int .i64 x.k) ∧ w.cell? ⟨q, 1, none⟩ = some (.int .i64 x.n) ∧ w.cell? ⟨q, 2, none⟩ = some (.int .i64 x.a.n) ∧ w.cell? ⟨q, 3, none⟩ = some (.int .i64 x.a.i) ∧ w.cell? ⟨q, 4, none⟩ = some (.int .i64 x.b.n) ∧ w.cell? ⟨q, 5, none⟩ = some (.int .i64 x.b.i) ∧ w.cell? ⟨q, 6, none⟩ = some (.int .i64 x.c.k) ∧ w.cell? ⟨q, 7, none⟩ = some (.int .i64 x.c.o) ∧ w.cell? ⟨q, 8, none⟩ = some (.int .i64 x.c.r) ∧ w.cell? ⟨q, 9, none⟩ = some (.int .u64 x.c.b) ∧ w.cell? ⟨q, 10, none⟩ = some (.int .u64 x.c.g) ∧ w.cell? ⟨q, 11, none⟩ = some (.int .i64 x.c.z) := by
  unfold objO at h
  refine ⟨?_, ?_, ?_, ?_, ?_, ?_, ?_, ?_, ?_, ?_, ?_, ?_⟩ <;> simp [World.cell?, h]
set_option maxHeartbeats 2000000 in
set_option maxRecDepth 100000 in
theorem same_1 {w0 : World} {r : Nat} {w : World} {p : Nat} {F : Nat → Prop} {p2 : Nat} {F2 : Nat → Prop} {S : St} {L : List (Nat × Obj)} {M : List (Value × List (Sl × Cp))} (x : Oc) (fx : x.Fits) (h : Bo w0 r w p F p2 F2 S S L M) (hk : x.k = 1) :
    Calls Try.prog 15 #[.pointer (some ⟨p, 0, none⟩), .pointer (some ⟨p2, 0, none⟩), encOv x] w fun e w' => e = .returned (.bool true) ∧ ∃ F' F2' S', Bo w0 r w' p F' p2 F2' S' S' L M := by
  have HF : Hid x.Fits := fx
  have g1 : Hid (Bo w0 r (w.alloc (objO x)) p F p2 F2 S S ((w.heap.size, objO x) :: L) M) := h.alloc (objO x)
  obtain ⟨o0, o1, o2, o3, o4, o5, o6, o7, o8, o9, o10, o11⟩ := opcells (g1.out.has.blk (w.heap.size, objO x) (by simp)).1
  have k0 : (x.k == 0) = false := by simp [hk]
  have k1 : (x.k == 1) = true := by simp [hk]
  clear hk
  clear fx h
  simp only [encOv, objO] at g1 o0 o1 o2 o3 o4 o5 o6 o7 o8 o9 o10 o11 ⊢
  go_enter Try.func15, Try.ntmps15
  go_wp2_with fail
  generalize w.alloc (Obj.cells #[.int .i64 x.k, .int .i64 x.n, .int .i64 x.a.n, .int .i64 x.a.i, .int .i64 x.b.n, .int .i64 x.b.i, .int .i64 x.c.k, .int .i64 x.c.o, .int .i64 x.c.r, .int .u64 x.c.b, .int .u64 x.c.g, .int .i64 x.c.z] 35) = v1 at *
  generalize w.heap.size = q at *
  have H1 : Hid (Bo w0 r v1 p F p2 F2 S S ((q, objO x) :: L) M) := g1
  clear g1 o0 o1 o2 o3 o4 o5 o6 o7 o8 o9 o10 o11
  obtain ⟨e, U, HU⟩ := (⟨_, _, rfl, rfl⟩ : ∃ e U, Hid (dropE S x.n = e ∧ dropS S x.n = U))
  refine (drop_bo x.n e U H1.out HU.out.1 HU.out.2).mono ?_
  rintro e w2 ⟨rfl, h2⟩
  have H2 : Hid (Bo w0 r w2 p F p2 F2 U S ((q, objO x) :: L) M) := h2
  clear h2 H1
  obtain ⟨o0, o1, o2, o3, o4, o5, o6, o7, o8, o9, o10, o11⟩ := opcells (w := w2) (q := q) (H2.out.has.blk (q, objO x) (by simp)).1
  go_wp2_with fail
  refine (rdrop_bo x.n e U H2.out HU.out.1 HU.out.2).mono ?_
  rintro e w3 ⟨rfl, h3⟩
  have H3 : Hid (Bo w0 r w3 p F p2 F2 U U ((q, objO x) :: L) M) := h3
  clear h3 H2
  clear o0 o1 o2 o3 o4 o5 o6 o7 o8 o9 o10 o11
  go_wp2
  go_ret
  exact ⟨rfl, F, F2, U, H3.out.fewer (fun b hb => List.mem_cons_of_mem _ hb) fun b hb => hb⟩
set_option maxHeartbeats 2000000 in
set_option maxRecDepth 100000 in
theorem same_2 {w0 : World} {r : Nat} {w : World} {p : Nat} {F : Nat → Prop} {p2 : Nat} {F2 : Nat → Prop} {S : St} {L : List (Nat × Obj)} {M : List (Value × List (Sl × Cp))} (x : Oc) (fx : x.Fits) (h : Bo w0 r w p F p2 F2 S S L M) (hk : x.k = 2) :
    Calls Try.prog 15 #[.pointer (some ⟨p, 0, none⟩), .pointer (some ⟨p2, 0, none⟩), encOv x] w fun e w' => e = .returned (.bool true) ∧ ∃ F' F2' S', Bo w0 r w' p F' p2 F2' S' S' L M := by
  have HF : Hid x.Fits := fx
  have g1 : Hid (Bo w0 r (w.alloc (objO x)) p F p2 F2 S S ((w.heap.size, objO x) :: L) M) := h.alloc (objO x)
  obtain ⟨o0, o1, o2, o3, o4, o5, o6, o7, o8, o9, o10, o11⟩ := opcells (g1.out.has.blk (w.heap.size, objO x) (by simp)).1
  have k0 : (x.k == 0) = false := by simp [hk]
  have k1 : (x.k == 1) = false := by simp [hk]
  have k2 : (x.k == 2) = true := by simp [hk]
  clear hk
  clear fx h
  simp only [encOv, objO] at g1 o0 o1 o2 o3 o4 o5 o6 o7 o8 o9 o10 o11 ⊢
  go_enter Try.func15, Try.ntmps15
  go_wp2_with fail
  generalize w.alloc (Obj.cells #[.int .i64 x.k, .int .i64 x.n, .int .i64 x.a.n, .int .i64 x.a.i, .int .i64 x.b.n, .int .i64 x.b.i, .int .i64 x.c.k, .int .i64 x.c.o, .int .i64 x.c.r, .int .u64 x.c.b, .int .u64 x.c.g, .int .i64 x.c.z] 35) = v1 at *
  generalize w.heap.size = q at *
  have H1 : Hid (Bo w0 r v1 p F p2 F2 S S ((q, objO x) :: L) M) := g1
  clear g1 o0 o1 o2 o3 o4 o5 o6 o7 o8 o9 o10 o11
  obtain ⟨e, U, HU⟩ := (⟨_, _, rfl, rfl⟩ : ∃ e U, Hid (putE S x.a x.c = e ∧ putS S x.a x.c = U))
  refine (put_bo x.a x.c e U H1.out HF.out.a HF.out.c HU.out.1 HU.out.2).mono ?_
  rintro e w2 ⟨rfl, h2⟩
  have H2 : Hid (Bo w0 r w2 p F p2 F2 U S ((q, objO x) :: L) M) := h2
  clear h2 H1
  obtain ⟨o0, o1, o2, o3, o4, o5, o6, o7, o8, o9, o10, o11⟩ := opcells (w := w2) (q := q) (H2.out.has.blk (q, objO x) (by simp)).1
  go_wp2_with fail
  refine (rput_bo x.a x.c e U H2.out HF.out.c HU.out.1 HU.out.2).mono ?_
  rintro e w3 ⟨rfl, h3⟩
  have H3 : Hid (Bo w0 r w3 p F p2 F2 U U ((q, objO x) :: L) M) := h3
  clear h3 H2
  clear o0 o1 o2 o3 o4 o5 o6 o7 o8 o9 o10 o11
  go_wp2
  go_ret
  exact ⟨rfl, F, F2, U, H3.out.fewer (fun b hb => List.mem_cons_of_mem _ hb) fun b hb => hb⟩
set_option maxHeartbeats 2000000 in
set_option maxRecDepth 100000 in
theorem same_4 {w0 : World} {r : Nat} {w : World} {p : Nat} {F : Nat → Prop} {p2 : Nat} {F2 : Nat → Prop} {S : St} {L : List (Nat × Obj)} {M : List (Value × List (Sl × Cp))} (x : Oc) (fx : x.Fits) (h : Bo w0 r w p F p2 F2 S S L M) (hk : x.k = 4) :
    Calls Try.prog 15 #[.pointer (some ⟨p, 0, none⟩), .pointer (some ⟨p2, 0, none⟩), encOv x] w fun e w' => e = .returned (.bool true) ∧ ∃ F' F2' S', Bo w0 r w' p F' p2 F2' S' S' L M := by
  have HF : Hid x.Fits := fx
  have g1 : Hid (Bo w0 r (w.alloc (objO x)) p F p2 F2 S S ((w.heap.size, objO x) :: L) M) := h.alloc (objO x)
  obtain ⟨o0, o1, o2, o3, o4, o5, o6, o7, o8, o9, o10, o11⟩ := opcells (g1.out.has.blk (w.heap.size, objO x) (by simp)).1
  have k0 : (x.k == 0) = false := by simp [hk]
  have k1 : (x.k == 1) = false := by simp [hk]
  have k2 : (x.k == 2) = false := by simp [hk]
  have k3 : (x.k == 3) = false := by simp [hk]
  have k4 : (x.k == 4) = true := by simp [hk]
  clear hk
  clear fx h
  simp only [encOv, objO] at g1 o0 o1 o2 o3 o4 o5 o6 o7 o8 o9 o10 o11 ⊢
  go_enter Try.func15, Try.ntmps15
  go_wp2_with fail
  generalize w.alloc (Obj.cells #[.int .i64 x.k, .int .i64 x.n, .int .i64 x.a.n, .int .i64 x.a.i, .int .i64 x.b.n, .int .i64 x.b.i, .int .i64 x.c.k, .int .i64 x.c.o, .int .i64 x.c.r, .int .u64 x.c.b, .int .u64 x.c.g, .int .i64 x.c.z] 35) = v1 at *
  generalize w.heap.size = q at *
  have H1 : Hid (Bo w0 r v1 p F p2 F2 S S ((q, objO x) :: L) M) := g1
  clear g1 o0 o1 o2 o3 o4 o5 o6 o7 o8 o9 o10 o11
  obtain ⟨e, U, HU⟩ := (⟨_, _, rfl, rfl⟩ : ∃ e U, Hid (moveE S x.a x.b = e ∧ moveS S x.a x.b = U))
  refine (move_bo x.a x.b e U H1.out HF.out.a HF.out.b HU.out.1 HU.out.2).mono ?_
  rintro e w2 ⟨rfl, h2⟩
  have H2 : Hid (Bo w0 r w2 p F p2 F2 U S ((q, objO x) :: L) M) := h2
  clear h2 H1
  obtain ⟨o0, o1, o2, o3, o4, o5, o6, o7, o8, o9, o10, o11⟩ := opcells (w := w2) (q := q) (H2.out.has.blk (q, objO x) (by simp)).1
  go_wp2_with fail
  refine (rmove_bo x.a x.b e U H2.out HU.out.1 HU.out.2).mono ?_
  rintro e w3 ⟨rfl, h3⟩
  have H3 : Hid (Bo w0 r w3 p F p2 F2 U U ((q, objO x) :: L) M) := h3
  clear h3 H2
  clear o0 o1 o2 o3 o4 o5 o6 o7 o8 o9 o10 o11
  go_wp2
  go_ret
  exact ⟨rfl, F, F2, U, H3.out.fewer (fun b hb => List.mem_cons_of_mem _ hb) fun b hb => hb⟩
set_option maxHeartbeats 2000000 in
set_option maxRecDepth 100000 in
theorem same_5 {w0 : World} {r : Nat} {w : World} {p : Nat} {F : Nat → Prop} {p2 : Nat} {F2 : Nat → Prop} {S : St} {L : List (Nat × Obj)} {M : List (Value × List (Sl × Cp))} (x : Oc) (fx : x.Fits) (h : Bo w0 r w p F p2 F2 S S L M) (hk : x.k = 5) :
    Calls Try.prog 15 #[.pointer (some ⟨p, 0, none⟩), .pointer (some ⟨p2, 0, none⟩), encOv x] w fun e w' => e = .returned (.bool true) ∧ ∃ F' F2' S', Bo w0 r w' p F' p2 F2' S' S' L M := by
  have HF : Hid x.Fits := fx
  have g1 : Hid (Bo w0 r (w.alloc (objO x)) p F p2 F2 S S ((w.heap.size, objO x) :: L) M) := h.alloc (objO x)
  obtain ⟨o0, o1, o2, o3, o4, o5, o6, o7, o8, o9, o10, o11⟩ := opcells (g1.out.has.blk (w.heap.size, objO x) (by simp)).1
  have k0 : (x.k == 0) = false := by simp [hk]
  have k1 : (x.k == 1) = false := by simp [hk]
  have k2 : (x.k == 2) = false := by simp [hk]
  have k3 : (x.k == 3) = false := by simp [hk]
  have k4 : (x.k == 4) = false := by simp [hk]
  have k5 : (x.k == 5) = true := by simp [hk]
  clear hk
  clear fx h
  simp only [encOv, objO] at g1 o0 o1 o2 o3 o4 o5 o6 o7 o8 o9 o10 o11 ⊢
  go_enter Try.func15, Try.ntmps15
  go_wp2_with fail
  generalize w.alloc (Obj.cells #[.int .i64 x.k, .int .i64 x.n, .int .i64 x.a.n, .int .i64 x.a.i, .int .i64 x.b.n, .int .i64 x.b.i, .int .i64 x.c.k, .int .i64 x.c.o, .int .i64 x.c.r, .int .u64 x.c.b, .int .u64 x.c.g, .int .i64 x.c.z] 35) = v1 at *
  generalize w.heap.size = q at *
  have H1 : Hid (Bo w0 r v1 p F p2 F2 S S ((q, objO x) :: L) M) := g1
  clear g1 o0 o1 o2 o3 o4 o5 o6 o7 o8 o9 o10 o11
  obtain ⟨e, U, HU⟩ := (⟨_, _, rfl, rfl⟩ : ∃ e U, Hid (swapE S x.a x.b = e ∧ swapS S x.a x.b = U))
  refine (swap_bo x.a x.b e U H1.out HF.out.a HF.out.b HU.out.1 HU.out.2).mono ?_
  rintro e w2 ⟨rfl, h2⟩
  have H2 : Hid (Bo w0 r w2 p F p2 F2 U S ((q, objO x) :: L) M) := h2
  clear h2 H1
  obtain ⟨o0, o1, o2, o3, o4, o5, o6, o7, o8, o9, o10, o11⟩ := opcells (w := w2) (q := q) (H2.out.has.blk (q, objO x) (by simp)).1
  go_wp2_with fail
  refine (rswap_bo x.a x.b e U H2.out HU.out.1 HU.out.2).mono ?_
  rintro e w3 ⟨rfl, h3⟩
  have H3 : Hid (Bo w0 r w3 p F p2 F2 U U ((q, objO x) :: L) M) := h3
  clear h3 H2
  clear o0 o1 o2 o3 o4 o5 o6 o7 o8 o9 o10 o11
  go_wp2
  go_ret
  exact ⟨rfl, F, F2, U, H3.out.fewer (fun b hb => List.mem_cons_of_mem _ hb) fun b hb => hb⟩
set_option maxHeartbeats 2000000 in
set_option maxRecDepth 100000 in
theorem same_else {w0 : World} {r : Nat} {w : World} {p : Nat} {F : Nat → Prop} {p2 : Nat} {F2 : Nat → Prop} {S : St} {L : List (Nat × Obj)} {M : List (Value × List (Sl × Cp))} (x : Oc) (fx : x.Fits) (h : Bo w0 r w p F p2 F2 S S L M) (n0 : x.k ≠ 0) (n1 : x.k ≠ 1) (n2 : x.k ≠ 2) (n3 : x.k ≠ 3) (n4 : x.k ≠ 4) (n5 : x.k ≠ 5) :
    Calls Try.prog 15 #[.pointer (some ⟨p, 0, none⟩), .pointer (some ⟨p2, 0, none⟩), encOv x] w fun e w' => e = .returned (.bool true) ∧ ∃ F' F2' S', Bo w0 r w' p F' p2 F2' S' S' L M := by
  have HF : Hid x.Fits := fx
  have g1 : Hid (Bo w0 r (w.alloc (objO x)) p F p2 F2 S S ((w.heap.size, objO x) :: L) M) := h.alloc (objO x)
  obtain ⟨o0, o1, o2, o3, o4, o5, o6, o7, o8, o9, o10, o11⟩ := opcells (g1.out.has.blk (w.heap.size, objO x) (by simp)).1
  have k0 : (x.k == 0) = false := by simp [n0]
  have k1 : (x.k == 1) = false := by simp [n1]
  have k2 : (x.k == 2) = false := by simp [n2]
  have k3 : (x.k == 3) = false := by simp [n3]
  have k4 : (x.k == 4) = false := by simp [n4]
  have k5 : (x.k == 5) = false := by simp [n5]
  clear n0 n1 n2 n3 n4 n5
  clear fx h
  simp only [encOv, objO] at g1 o0 o1 o2 o3 o4 o5 o6 o7 o8 o9 o10 o11 ⊢
  go_enter Try.func15, Try.ntmps15
  go_wp2
  go_ret
  exact ⟨rfl, F, F2, S, g1.out.fewer (fun b hb => List.mem_cons_of_mem _ hb) fun b hb => hb⟩
set_option maxHeartbeats 2000000 in
set_option maxRecDepth 100000 in
theorem same_3 {w0 : World} {r : Nat} {w : World} {p : Nat} {F : Nat → Prop} {p2 : Nat} {F2 : Nat → Prop} {S : St} {L : List (Nat × Obj)} {M : List (Value × List (Sl × Cp))} (x : Oc) (fx : x.Fits) (h : Bo w0 r w p F p2 F2 S S L M) (hk : x.k = 3) :
    Calls Try.prog 15 #[.pointer (some ⟨p, 0, none⟩), .pointer (some ⟨p2, 0, none⟩), encOv x] w fun e w' => e = .returned (.bool true) ∧ ∃ F' F2' S', Bo w0 r w' p F' p2 F2' S' S' L M := by
  have HF : Hid x.Fits := fx
  have g1 : Hid (Bo w0 r (w.alloc (objO x)) p F p2 F2 S S ((w.heap.size, objO x) :: L) M) := h.alloc (objO x)
  obtain ⟨o0, o1, o2, o3, o4, o5, o6, o7, o8, o9, o10, o11⟩ := opcells (g1.out.has.blk (w.heap.size, objO x) (by simp)).1
  have k0 : (x.k == 0) = false := by simp [hk]
  have k1 : (x.k == 1) = false := by simp [hk]
  have k2 : (x.k == 2) = false := by simp [hk]
  have k3 : (x.k == 3) = true := by simp [hk]
  clear hk
  clear fx h
  simp only [encOv, objO] at g1 o0 o1 o2 o3 o4 o5 o6 o7 o8 o9 o10 o11 ⊢
  go_enter Try.func15, Try.ntmps15
  go_wp2_with fail
  generalize w.alloc (Obj.cells #[.int .i64 x.k, .int .i64 x.n, .int .i64 x.a.n, .int .i64 x.a.i, .int .i64 x.b.n, .int .i64 x.b.i, .int .i64 x.c.k, .int .i64 x.c.o, .int .i64 x.c.r, .int .u64 x.c.b, .int .u64 x.c.g, .int .i64 x.c.z] 35) = v1 at *
  generalize w.heap.size = q at *
  have H1 : Hid (Bo w0 r v1 p F p2 F2 S S ((q, objO x) :: L) M) := g1
  clear g1 o0 o1 o2 o3 o4 o5 o6 o7 o8 o9 o10 o11
  obtain ⟨c, e, U, HU⟩ := (⟨_, _, _, rfl, rfl, rfl⟩ : ∃ c e U, Hid (takeC S x.a = c ∧ takeE S x.a = e ∧ takeS S x.a = U))
  have HQ : ∀ W, (Op.equalIn 10000 33 (.agg #[.int .i64 c.k, .int .i64 c.o, .int .i64 c.r, .int .u64 c.b, .int .u64 c.g, .int .i64 c.z]) (.agg #[.int .i64 c.k, .int .i64 c.o, .int .i64 c.r, .int .u64 c.b, .int .u64 c.g, .int .i64 c.z])).run Try.prog W = .ok true W := fun W => by
    have h := eq_caps W c c
    simpa using h
  refine (take_bo x.a c e U H1.out HF.out.a HU.out.1 HU.out.2.1 HU.out.2.2).mono ?_
  rintro e2 w2 ⟨he, h2⟩
  obtain rfl : e2 = .returned (.tuple #[.agg #[.int .i64 c.k, .int .i64 c.o, .int .i64 c.r, .int .u64 c.b, .int .u64 c.g, .int .i64 c.z], .int .i64 e]) := he
  have g2 : Hid (Bo w0 r (w2.alloc (objC c)) p F p2 F2 U S ((w2.heap.size, objC c) :: (q, objO x) :: L) M) := h2.alloc (objC c)
  clear h2 H1
  obtain ⟨o0, o1, o2, o3, o4, o5, o6, o7, o8, o9, o10, o11⟩ := opcells (w := w2.alloc (objC c)) (q := q) (g2.out.has.blk (q, objO x) (by simp)).1
  simp only [objC] at g2 o0 o1 o2 o3 o4 o5 o6 o7 o8 o9 o10 o11
  go_wp2_with fail
  generalize w2.alloc (Obj.cells #[.int .i64 c.k, .int .i64 c.o, .int .i64 c.r, .int .u64 c.b, .int .u64 c.g, .int .i64 c.z] 33) = v2 at *
  generalize w2.heap.size = q2 at *
  have H2 : Hid (Bo w0 r v2 p F p2 F2 U S ((q2, objC c) :: (q, objO x) :: L) M) := g2
  clear g2 o0 o1 o2 o3 o4 o5 o6 o7 o8 o9 o10 o11
  refine (rtake_bo x.a c e U H2.out HU.out.1 HU.out.2.1 HU.out.2.2).mono ?_
  rintro e3 w3 ⟨he, h3⟩
  obtain rfl : e3 = .returned (.tuple #[.agg #[.int .i64 c.k, .int .i64 c.o, .int .i64 c.r, .int .u64 c.b, .int .u64 c.g, .int .i64 c.z], .int .i64 e]) := he
  have g3 : Hid (Bo w0 r (w3.alloc (objC c)) p F p2 F2 U U ((w3.heap.size, objC c) :: (q2, objC c) :: (q, objO x) :: L) M) := h3.alloc (objC c)
  clear h3 H2
  obtain ⟨d0, d1, d2, d3, d4, d5⟩ := (g3.out.has.atC (q := q2) (c := c) (by simp)).cells
  obtain ⟨e0, e1, e2, e3, e4, e5⟩ := (g3.out.has.atC (q := w3.heap.size) (c := c) (by simp)).cells
  simp only [objC] at g3 d0 d1 d2 d3 d4 d5 e0 e1 e2 e3 e4 e5
  go_wp2
  go_ret
  exact ⟨rfl, F, F2, U, g3.out.fewer (fun b hb => List.mem_cons_of_mem _ (List.mem_cons_of_mem _ (List.mem_cons_of_mem _ hb))) fun b hb => hb⟩
end Go.Proofs.Ytkpoppgibempbaa.slotsDoes

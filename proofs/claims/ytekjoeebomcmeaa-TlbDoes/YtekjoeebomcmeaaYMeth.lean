/-
  What forget, Drop, Space, Frame, Lines, Copy and New of package tlb answer, and leave, among things that lie apart; no condition.
-/
import Derived.Test.YtekjoeebomcmeaaYRow
namespace Go.Proofs.Ytekjoeebomcmeaa
open Go.RowKit Go.Deep Go.Shelf

def funs (cs : List Value) : Obj := .cells cs.toArray 56
theorem arg_two {F : Nat → Prop} {w : World} {c1 c2 : Value} {q1 q2 : Lr → Bool} (k1 : Clo F w c1 q1) (k2 : Clo F w c2 q2) (hF : ∀ x, F x → x < w.heap.size) : Arg F (w.alloc (.cells #[c1, c2] 56)) w.heap.size [c1, c2] [q1, q2] := by
  have b := below_new w (.cells #[c1, c2] 56)
  refine ⟨rfl, by simp, by simp, fun h => Nat.lt_irrefl _ (hF _ h), fun k c hc => ?_, fun k c q hc hq => ?_⟩
  · have := blk_alloc_new w (.cells #[c1, c2] 56)
    simp only [World.cell?]
    rw [this]
    simpa using hc
  · match k with
    | 0 => cases hc; cases hq; exact k1.below b
    | 1 => cases hc; cases hq; exact k2.below b
    | k + 2 => simp at hc
theorem arg_one {F : Nat → Prop} {w : World} {c1 : Value} {q1 : Lr → Bool} (k1 : Clo F w c1 q1) (hF : ∀ x, F x → x < w.heap.size) : Arg F (w.alloc (.cells #[c1] 56)) w.heap.size [c1] [q1] := by
  have b := below_new w (.cells #[c1] 56)
  refine ⟨rfl, by simp, by simp, fun h => Nat.lt_irrefl _ (hF _ h), fun k c hc => ?_, fun k c q hc hq => ?_⟩
  · have := blk_alloc_new w (.cells #[c1] 56)
    simp only [World.cell?]
    rw [this]
    simpa using hc
  · match k with
    | 0 => cases hc; cases hq; exact k1.below b
    | k + 1 => simp at hc
theorem allB_two (s p : Int) : ∀ x, allB [isS s, isP p] x = isK s p x := fun x => by simp [allB, isK]
theorem allB_one (q : Lr → Bool) : ∀ x, allB [q] x = q x := fun x => by simp [allB]
/-- The blocks of a row. -/
def own (v : Value) (x : Nat) : Prop := v.ownBlock = some x
section
variable {w0 w w' : World} {r p n : Nat} {v : Value} {S : St} {R : List Th}
theorem Sep.ownLt {K : Kd} (s : Sep w0 r w (tbT K n p v S :: R)) : ∀ x, own v x → x < w.heap.size := fun _ hx => Row.lt s.rowP hx
theorem Sep.headP {K : Kd} (ok : K.Ok) (s : Sep w0 r w (tbT K n p v S :: R)) (gr : w.grownBy w' v.ownBlock) : w'.cell? ⟨p, K.j, none⟩ = some v ∧ w'.frozen? ⟨p, K.j, none⟩ = false := by
  have h1 : TbH K n p v S w := s.head
  have hp := (Array.getElem?_eq_some_iff.1 h1.head).1
  have := (gr.block p hp fun e => h1.ne e.symm).trans h1.head
  have h2 := ok.get n v
  exact ⟨by simp [World.cell?, this, h2], by simp [World.frozen?, this]⟩
theorem Sep.headP1 (s : Sep w0 r w (tbT kP n p v S :: R)) (gr : w.grownBy w' v.ownBlock) : w'.cell? ⟨p, 1, none⟩ = some v ∧ w'.frozen? ⟨p, 1, none⟩ = false := s.headP okP gr
theorem Sep.regrow1 {v' : Value} {T : St} (h : Sep w0 r w (tbT kP n p v S :: R)) (g5 : w.grownBy w' v.ownBlock) (row : RowL w' v' T) (loc : v'.ownBlock = v.ownBlock ∨ ∀ x, v'.ownBlock = some x → w.heap.size ≤ x) (g : Good n T) : Sep w0 r (w'.setCell ⟨p, 1, none⟩ v') (tbT kP n p v' T :: R) := h.regrow okP g5 row loc g
set_option maxHeartbeats 4000000 in
theorem forget_sep (s : Sep w0 r w (tbT kP n p v S :: R)) {g cap : Nat} {cs : List Value} {qs : List (Lr → Bool)} (ha : Arg (own v) w g cs qs) :
    Calls Try.prog 25 #[ptr p, .slice (some ⟨g, 0, none⟩) cs.length cap] w fun e w' => ∃ v', e = .returned (.int .i64 ((lessN (allB qs) S : Nat) : Int)) ∧ Sep w0 r w' (tbT kP n p v' (lessS (allB qs) S) :: R) := by
  have c0 := s.cellP
  have hF := s.ownLt
  have S1 := hid s.drew
  have HA := hid (ha.turn (Turn.of ((Below.refl w.heap.size w).drew) _))
  have HC := hid (all_any g cap cs qs w.drew HA.out hF)
  have hle := less_le (allB qs) S
  have hsub : ((S.length : Int) - ((lessS (allB qs) S).length : Int)) = ((lessN (allB qs) S : Nat) : Int) := by unfold lessN; omega
  have h256 : S.length ≤ 256 := by have := s.good.le; have := s.good.top; omega
  have HL := hid s.good.few
  have HG := hid (s.good.less (allB qs))
  obtain ⟨ao, sc, rfl, -⟩ := s.sliceP
  clear s ha hF HA
  generalize hcl : cs.length = cl at *
  clear hcl
  generalize hm : lessN (allB qs) S = m at *
  clear hm
  generalize hN : S.length = N at *
  go_enter Try.func25, Try.ntmps25
  go_wp2_with fail
  go_region_with (first
    | (go_at_call 30; refine Calls.mono HC.out ?_; rintro e w1 ⟨c, rfl, k1, b1⟩; obtain ⟨g1, l1, rfl⟩ := k1.form; have K1 := hid k1; have S2 := hid (S1.out.below b1); have c1 := S2.out.cellP; clear k1 b1)
    | (go_at_call 32; refine Calls.mono (deleteF_any _ _ _ _ _ K1.out S2.out.rowP (by rw [hN]; exact HL.out)) ?_; rintro e w2 ⟨v2, rfl, row, gr, loc⟩; obtain ⟨c2, f2⟩ := S2.out.headP1 gr; have S3 := hid (S2.out.regrow1 gr row (.inl loc) HG.out); obtain ⟨a2, k2, rfl, -⟩ := Row.slice row; clear row gr loc c1 S2 K1))
  all_goals
    generalize (lessS (allB qs) S).length = M at *
    go_wp2
    go_ret
    exact ⟨_, rfl, S3.out⟩
end
end Go.Proofs.Ytekjoeebomcmeaa

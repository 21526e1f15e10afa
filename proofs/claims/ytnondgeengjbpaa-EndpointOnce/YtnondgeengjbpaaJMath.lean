/-
  Plain facts on an endpoint, without the program: those that wait, each once, all to send or all to receive; what each call answers, and makes of them; no condition but that this is so.
-/
namespace Go.Proofs.Ytnondgeengjbpaa

/-- A message: a label, four words, a badge, does it call. -/
structure Ms where
  l : Int
  a : Int
  b : Int
  c : Int
  d : Int
  g : Int
  q : Bool
def ms0 : Ms := ⟨0, 0, 0, 0, 0, 0, false⟩
/-- One that waits: who, does it send, its message. -/
structure Wt where
  n : Int
  s : Bool
  m : Ms
/-- Who met whom. -/
structure Mt where
  i : Bool
  f : Int
  t : Int
  m : Ms
def mt0 : Mt := ⟨false, 0, 0, ms0⟩
abbrev St := List Wt
def isW (n : Int) (x : Wt) : Bool := decide (x.n = n)
def isG (g : Int) (x : Wt) : Bool := x.s && decide (x.m.g = g)
def thB (S : St) (n : Int) : Bool := S.any (isW n)
def hasB (S : St) (s : Bool) : Bool := match S with
  | [] => false
  | x :: _ => x.s == s
def outS (p : Wt → Bool) (S : St) : St := S.filter fun x => !p x
def outN (p : Wt → Bool) (S : St) : List Int := (S.filter p).map (·.n)
def sendE (S : St) (n : Int) : Int := if thB S n = true then 110 else 0
def sendM (S : St) (n : Int) (m : Ms) : Mt := if thB S n = true then mt0 else match S with
  | [] => mt0
  | x :: _ => if x.s = true then mt0 else ⟨true, n, x.n, m⟩
def sendS (S : St) (n : Int) (m : Ms) (z : Bool) : St := if thB S n = true then S else if hasB S false = true then S.tail else if z = true then S ++ [⟨n, true, m⟩] else S
def recvM (S : St) (n : Int) : Mt := if thB S n = true then mt0 else match S with
  | [] => mt0
  | x :: _ => if x.s = true then ⟨true, x.n, n, x.m⟩ else mt0
def recvS (S : St) (n : Int) (z : Bool) : St := if thB S n = true then S else if hasB S true = true then S.tail else if z = true then S ++ [⟨n, false, ms0⟩] else S
def waitsN (S : St) : List Int := S.map (·.n)
/-- Each once, all of one kind, those that receive with no message. -/
structure Good (S : St) : Prop where
  one : S.Pairwise fun x y => x.n ≠ y.n
  all : ∀ x ∈ S, ∀ y ∈ S, x.s = y.s
  zer : ∀ x ∈ S, x.s = false → x.m = ms0
theorem good_nil : Good [] := ⟨List.Pairwise.nil, fun x hx => by simp at hx, fun x hx => by simp at hx⟩
theorem good_sub {S T : St} (g : Good S) (h : T.Sublist S) : Good T := ⟨g.one.sublist h, fun x hx y hy => g.all x (h.subset hx) y (h.subset hy), fun x hx => g.zer x (h.subset hx)⟩
theorem good_out {S : St} (g : Good S) (p : Wt → Bool) : Good (outS p S) := good_sub g List.filter_sublist
theorem good_tail {S : St} (g : Good S) : Good S.tail := good_sub g (List.tail_sublist S)
theorem thB_false {S : St} {n : Int} (h : thB S n = false) : ∀ x ∈ S, x.n ≠ n := by
  intro x hx e
  have : thB S n = true := List.any_eq_true.2 ⟨x, hx, by simp [isW, e]⟩
  rw [this] at h
  cases h
theorem thB_true {S : St} {n : Int} (h : thB S n = true) : ∃ x ∈ S, x.n = n := by
  obtain ⟨x, hx, e⟩ := List.any_eq_true.1 h
  exact ⟨x, hx, by simpa [isW] using e⟩
theorem has_all {S : St} (g : Good S) {b : Bool} (h : hasB S b = false) : ∀ x ∈ S, x.s = !b := by
  match S, g, h with
  | [], _, _ => intro x hx; simp at hx
  | y :: S, g, h =>
    intro x hx
    have e : x.s = y.s := g.all x hx y (by simp)
    have h' : (y.s == b) = false := h
    rw [e]
    cases hy : y.s <;> cases b <;> simp_all
theorem good_add {S : St} (g : Good S) (x : Wt) (hn : thB S x.n = false) (hs : hasB S (!x.s) = false) (hz : x.s = false → x.m = ms0) : Good (S ++ [x]) := by
  have h1 := thB_false hn
  have h2 := has_all g hs
  refine ⟨List.pairwise_append.2 ⟨g.one, by simp, fun a ha b hb => ?_⟩, fun a ha b hb => ?_, fun a ha => ?_⟩
  · obtain rfl : b = x := by simpa using hb
    exact h1 a ha
  · have k : ∀ y ∈ S ++ [x], y.s = x.s := fun y hy => by
      rcases List.mem_append.1 hy with hy | hy
      · have := h2 y hy
        rw [Bool.not_not] at this
        exact this
      · obtain rfl : y = x := by simpa using hy
        rfl
    rw [k a ha, k b hb]
  · rcases List.mem_append.1 ha with ha | ha
    · exact g.zer a ha
    · obtain rfl : a = x := by simpa using ha
      exact hz
theorem good_send {S : St} (g : Good S) (n : Int) (m : Ms) (z : Bool) : Good (sendS S n m z) := by
  unfold sendS
  cases h1 : thB S n
  · cases h2 : hasB S false
    · cases z
      · simpa using g
      · simpa using good_add g ⟨n, true, m⟩ h1 h2 (by simp)
    · simpa using good_tail g
  · simpa using g
theorem good_recv {S : St} (g : Good S) (n : Int) (z : Bool) : Good (recvS S n z) := by
  unfold recvS
  cases h1 : thB S n
  · cases h2 : hasB S true
    · cases z
      · simpa using g
      · simpa using good_add g ⟨n, false, ms0⟩ h1 h2 (by simp)
    · simpa using good_tail g
  · simpa using g
/-- The first one out: the rest. -/
theorem out_first {x : Wt} {S : St} (g : Good (x :: S)) : outS (isW x.n) (x :: S) = S := by
  have h := (List.pairwise_cons.1 g.one).1
  unfold outS
  rw [List.filter_cons, if_neg (by simp [isW]), List.filter_eq_self]
  intro y hy
  have := h y hy
  simp [isW]
  exact fun e => this e.symm
theorem out_len (p : Wt → Bool) (S : St) : (outS p S).length ≤ S.length := List.length_filter_le _ _
theorem outN_len (p : Wt → Bool) (S : St) : (outN p S).length ≤ S.length := by
  unfold outN
  rw [List.length_map]
  exact List.length_filter_le _ _
theorem send_len (S : St) (n : Int) (m : Ms) (z : Bool) : (sendS S n m z).length ≤ S.length + 1 := by
  unfold sendS
  split
  · omega
  · split
    · simp; omega
    · split
      · simp
      · omega
theorem recv_len (S : St) (n : Int) (z : Bool) : (recvS S n z).length ≤ S.length + 1 := by
  unfold recvS
  split
  · omega
  · split
    · simp; omega
    · split
      · simp
      · omega
theorem waits_len (S : St) : (waitsN S).length = S.length := by simp [waitsN]
/-- Who waited is told when it is taken out. -/
theorem cancel_is (S : St) (n : Int) : decide (0 < (outN (isW n) S).length) = thB S n := by
  unfold outN thB
  rw [List.length_map]
  cases h : S.any (isW n)
  · have : S.filter (isW n) = [] := by
      rw [List.filter_eq_nil_iff]
      intro x hx e
      have : S.any (isW n) = true := List.any_eq_true.2 ⟨x, hx, e⟩
      rw [this] at h
      cases h
    simp [this]
  · obtain ⟨x, hx, e⟩ := List.any_eq_true.1 h
    have : x ∈ S.filter (isW n) := List.mem_filter.2 ⟨hx, e⟩
    have := List.length_pos_of_mem this
    simpa using this
end Go.Proofs.Ytnondgeengjbpaa

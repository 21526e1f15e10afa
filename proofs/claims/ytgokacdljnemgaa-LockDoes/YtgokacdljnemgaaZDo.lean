/-
  What LockDoes needs besides: Line and Ahead that lay new blocks alone; no condition.
-/
import Derived.Test.YtgokacdljnemgaaZFixed
import Derived.Test.YtgokacdljnemgaaZSay
import Derived.Test.YtgokacdljnemgaaZRef
import Derived.Test.YtgokacdljnemgaaGQuiet
namespace Go.Proofs.Ytgokacdljnemgaa
open Go.RowKit Go.Deep Go.Shelf
section
variable {w0 w w' : World} {r p n q : Nat} {L A : St} {R : List Th} {v : Value} {C : Array Value} {t : Int} {a : Int → Int}
set_option maxHeartbeats 4000000 in
theorem line_new (hC : w.heap[p]? = some (objK C)) (lk : LkIs n L C t a) :
    Calls Try.prog 20 #[ptr p] w fun e w' => ∃ a c, e = .returned (.slice a L.length c) ∧ Sep w w.heap.size w' [lstI (.slice a L.length c) L] := by
  have hfew := lk.good.few
  have s1 := (sep_nil w).box (.cells #[.slice none 0 0] 38)
  have s2 : Sep w w.heap.size (w.alloc (.cells #[.slice none 0 0] 38)) [lstI (.slice none 0 0) (L.reverse.take 0), bxS w.heap.size (.slice none 0 0)] := Sep.nil s1
  have hf := find_any (p := p) (w := w.alloc (.cells #[.slice none 0 0] 38)) 30 #[ptr w.heap.size] (fun _ _ => by kernel_rfl) (fun _ => false) (fun k W => ∃ v, Sep w w.heap.size W [lstI v (L.reverse.take k), bxS w.heap.size v]) lk (fun k W ⟨v, h⟩ => heap_below hC h.low) (fun k x W hx ⟨v, h⟩ => by
    refine (line1_any h x (by rw [List.length_take, List.length_reverse]; omega)).mono fun _ _ ⟨he, v', h'⟩ => ⟨he, v', ?_⟩
    rw [List.take_add_one, hx]
    exact h') ⟨_, s2⟩
  rw [ask_none] at hf
  have HF := hid hf
  clear s1 s2 hf hC lk
  generalize findI (fun _ => false) L.reverse = z at *
  go_enter Try.func20, Try.ntmps20
  go_wp2_with fail
  refine Calls.mono HF.out ?_
  rintro e w2 ⟨rfl, v2, s2⟩
  generalize hr : w.heap.size = q at *
  have HR := hid hr
  clear hr
  rw [List.take_length] at s2
  obtain ⟨a2, k2, rfl⟩ := s2.listIs (E := elI) (v := v2) (A := L.reverse) (by simp)
  obtain ⟨c2, -⟩ := s2.swap.cellS
  have HV := hid (reverse_sep s2 (by rw [List.length_reverse]; omega))
  rw [List.reverse_reverse] at HV
  rw [List.length_reverse] at HV c2
  clear HF s2
  generalize hLl : L.length = m at *
  go_wp2_with fail
  refine Calls.mono HV.out ?_
  rintro e w3 ⟨rfl, s3⟩
  obtain ⟨c3, -⟩ := s3.swap.cellS
  have S3 := hid s3.drop2
  clear s3 HV c2
  go_wp2
  go_ret
  exact ⟨a2, k2, by rw [hLl]; rfl, by rw [hLl, HR.out]; exact S3.out⟩
theorem ahead_below (hC : w.heap[p]? = some (objK C)) (lk : LkIs n L C t a) (c : Int) :
    Calls Try.prog 22 #[ptr p, .int .i64 c] w fun e w' => e = .returned (.int .i64 (aheadI L c)) ∧ Below w.heap.size w w' := by
  have hfew := lk.good.few
  have HL := hid (line_new hC lk)
  clear hC lk
  go_enter Try.func22, Try.ntmps22
  go_wp2_with fail
  refine Calls.mono HL.out ?_
  rintro e w2 ⟨a2, k2, rfl, s2⟩
  have HI := hid (index_any (v := .slice a2 L.length k2) L c w2 s2.head (by omega))
  have S2 := hid s2
  clear s2 HL
  go_wp2_with fail
  refine Calls.mono HI.out ?_
  rintro e w3 ⟨rfl, b3⟩
  go_wp2
  go_ret
  exact ⟨rfl, Below.then S2.out.low b3 S2.out.size⟩
end
end Go.Proofs.Ytgokacdljnemgaa

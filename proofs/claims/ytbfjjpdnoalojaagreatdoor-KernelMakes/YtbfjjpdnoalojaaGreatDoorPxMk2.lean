/- Below: KSlA; no condition. -/
import Derived.Test.YtbfjjpdnoalojaaGreatDoorPa5
set_option maxRecDepth 100000
set_option linter.unusedSectionVars false
namespace Go.Proofs.YtbfjjpdnoalojaaGreatDoor
namespace Sl
open Go.RowKit Go.Deep Go.MapKept Go.Maps
variable [dCp:DecidableEq Cp] [dLim:∀ k,Decidable (ZV k)] [dBad:∀ k,Decidable (Xn k)] [dFit:∀ g z,Decidable (Fit g z)] [dFine:∀ c,Decidable (Fine c)] [dMint:∀ c v,Decidable (JK c v)] [dWho:∀ x y,Decidable (Zx x y)] [dSl:DecidableEq Sl] [dLt:∀ a b,Decidable (MC a b)] [iSl:Inhabited Sl] [iCp:Inhabited Cp]
section
variable {w0:World} {r:Nat} {w w':World} {p:Nat} {F:Nat->Prop} {S T:St} {L:List (Nat×Obj)} {M:List (Value×List (Sl×Cp))}
theorem Has.below (h:Has w0 r w p F S L M) (b:Below w.heap.size w w'):Has w0 r w' p F S L M:=h.leaves (Leaves.same h.nds b)
theorem Has.alloc (h:Has w0 r w p F S L M) (o:Obj):Has w0 r (w.alloc o) p F S ((w.heap.size,o)::L) M:=by
 have k:=h.below (Jb w o)
 refine { k with blk:=fun b hb=>?_ }
 rcases List.mem_cons.1 hb with rfl|hb
 ·exact⟨blk_alloc_new _ _,fun hx=>by have:=h.nds.lt _ hx;simp at this⟩
 ·exact k.blk b hb
end
end Sl
namespace Sl
open Go.RowKit Go.Deep Go.MapKept Go.Maps
variable [dCp:DecidableEq Cp] [dLim:∀ k,Decidable (ZV k)] [dBad:∀ k,Decidable (Xn k)] [dFit:∀ g z,Decidable (Fit g z)] [dFine:∀ c,Decidable (Fine c)] [dMint:∀ c v,Decidable (JK c v)] [dWho:∀ x y,Decidable (Zx x y)] [dSl:DecidableEq Sl] [dLt:∀ a b,Decidable (MC a b)] [dIsN:∀ S c,Decidable (Gq S c)] [dGuN:∀ a c d,Decidable (XT a c d)]
section
variable {w w' u:World} {q x:Nat} {F:Nat->Prop}
theorem Turn.low {q:Nat} (t:Turn (One q) w u) (h:Below q w' w) (hq:q<=w.heap.size):Below q w' u:=t.below h (fun x hx=>by unfold One at hx;omega) hq
end
end Sl
end Go.Proofs.YtbfjjpdnoalojaaGreatDoor

/- Below: KThA; no condition. -/
import Derived.Test.YtbfjjpdnoalojaaGreatDoorPa8
import Derived.Test.YtbfjjpdnoalojaaGreatDoorPxEr1
set_option maxRecDepth 100000
namespace Go.Proofs.YtbfjjpdnoalojaaGreatDoor
namespace Th
open Go.RowKit Go.Deep Go.MapKept Go.Maps
open Go.ChangeMaps (setBlock heap_setBlock_same heap_setBlock_other modify_eq_set)
section
variable {w:World} {b r:Nat} {f:Int->Option Int} {A:List (Int×Int)} {cnt:Nat}
theorem MapIs.range (h:MapIs w b f):∃ w' cnt,(Instr.range 325 (.map (some b))).run Tryz.prog w=.ok (.pointer (some ⟨w.heap.size,0,none⟩)) w'/\Ranges w' b w.heap.size f [] cnt/\w.grownBy w' none/\w'.heap.size=w.heap.size+1:=by
 have hlt:=h.lt
 obtain⟨es,clock,hb,st,F⟩:=h
 exact⟨_,_,run_range_map w _ _ _ b es clock Tryz.underlying325 hb,⟨es,clock,clock,#[],clock,(blk_alloc_lt _ _ _ hlt).trans hb,st,F,blk_alloc_new _ _,st.1,Jqd _,Jqd _,rfl,by simp,by simp⟩,World.grownBy_alloc w _ none,by simp⟩
end
end Th
end Go.Proofs.YtbfjjpdnoalojaaGreatDoor

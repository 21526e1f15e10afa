/- Below: KThA; no condition. -/
import Derived.Test.YtbfjjpdnoalojaaGreatDoorPa8
import Derived.Test.YtbfjjpdnoalojaaGreatDoorPxMk1
set_option maxRecDepth 100000
namespace Go.Proofs.YtbfjjpdnoalojaaGreatDoor
namespace Th
open Go.RowKit Go.Deep Go.MapKept Go.Maps
open Go.ChangeMaps (setBlock heap_setBlock_same heap_setBlock_other modify_eq_set)
theorem Jag {s t:Int} (h:Jg s=Jg t):s=t:=by simpa [Jg] using h
section
variable {w:World} {b r:Nat} {f:Int->Option Int} {A:List (Int×Int)} {cnt:Nat}
theorem Ranges.mem (h:Ranges w b r f A cnt):∀ p∈A,f p.1=some p.2:=by
 obtain⟨es,clock,since,seen,c0,hb,st,F,hr,_,_,_,_,hA,_⟩:=h
 intro p hp
 obtain⟨e,he,_,k,v⟩:=(hA p).1 hp
 obtain⟨s,c,_,k',v',hf⟩:=F.is e he
 rw[ZC (k.symm.trans k'),Jag (v.symm.trans v')]
 exact hf
theorem Ranges.all (h:Ranges w b r f A 0) (p:Int×Int):p∈A↔f p.1=some p.2:=by
 refine⟨h.mem p,fun hf=>?_⟩
 obtain⟨es,clock,since,seen,c0,hb,st,F,hr,_,_,_,h0,hA,_⟩:=h
 obtain⟨e,he,k,v⟩:=F.all p.1 p.2 hf
 exact(hA p).2 ⟨e,he,all_seen es seen h0 e he,k,v⟩
theorem MapIs.range (h:MapIs w b f):∃ w' cnt,(Instr.range 325 (.map (some b))).run Tryz.prog w=.ok (.pointer (some ⟨w.heap.size,0,none⟩)) w'/\Ranges w' b w.heap.size f [] cnt/\w.grownBy w' none/\w'.heap.size=w.heap.size+1:=by
 have hlt:=h.lt
 obtain⟨es,clock,hb,st,F⟩:=h
 exact⟨_,_,run_range_map w _ _ _ b es clock Tryz.underlying325 hb,⟨es,clock,clock,#[],clock,(blk_alloc_lt _ _ _ hlt).trans hb,st,F,blk_alloc_new _ _,st.1,Jqd _,Jqd _,rfl,by simp,by simp⟩,World.grownBy_alloc w _ none,by simp⟩
end
end Th
end Go.Proofs.YtbfjjpdnoalojaaGreatDoor

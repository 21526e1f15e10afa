/- Below: KSlH; no condition. -/
import Derived.Test.YtbfjjpdnoalojaaGreatDoorPa6
import Derived.Test.YtbfjjpdnoalojaaGreatDoorPa19
namespace Go.Proofs.YtbfjjpdnoalojaaGreatDoor
section
open Go.RowKit Go.Deep Go.Shelf
def elH:El (Sl.Sl×Sl.Cp):=⟨84,63,8,64,Sl.Vs⟩
theorem Jkf:(Tryz.prog.info? 84).map (fun i=>(i.zero,i.size,i.bytes))=some (some (.agg #[.int .i64 0,.int .i64 0,.int .i64 0,.int .i64 0,.int .i64 0,.int .u64 0,.int .u64 0,.int .i64 0]),8,64):=by kernel_rfl
theorem okH:El.Ok elH:=⟨Tryz.underlying63,ZA Jkf rfl,by decide,by decide,fun _=>rfl,by simp[elH,Sl.Vs,Value.oneCell']⟩
theorem Jak:∀ A:List (Sl.Sl×Sl.Cp),Sl.XS A=Jc Sl.Vs A
 | []=>rfl
 | x::A=>by
  have:=Jak A
  unfold Sl.XS Jc at *
  simp only[List.flatMap_cons]
open Classical in
theorem Jo5 {w0 w:World} {r p:Nat} {F:Nat->Prop} {S:Sl.St} {R:List Th} (s:Sep w0 r w (nT p F S::R)) :
  Calls Tryz.prog 88 #[Je p] w fun e w'=>∃ v,e=.returned v/\Sep w0 r w' (nT p F S::Jv elH v (Sl.JX S)::R):=by
 haveI:Inhabited Sl.Sl:=⟨⟨0,0⟩⟩
 haveI:Inhabited Sl.Cp:=⟨Sl.no⟩
 refine Jqa (Sl.IH p F S w s.head) ?_
 rintro e w' ⟨v,rfl,o,b⟩
 refine⟨v,rfl,s.told (u:=Jv elH v (Sl.JX S)) ?_ b fun x hx=>(World.ownsRow.lt o x hx).1⟩
 have h:=GE o
 rw[Jak] at h
 exact h
end
end Go.Proofs.YtbfjjpdnoalojaaGreatDoor

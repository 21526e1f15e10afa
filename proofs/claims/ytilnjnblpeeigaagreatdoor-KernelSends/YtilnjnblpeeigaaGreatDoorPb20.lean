/-
  What stands below: KSlH; no condition but what each says.
-/
import Derived.Test.YtilnjnblpeeigaaGreatDoorPb6
import Derived.Test.YtilnjnblpeeigaaGreatDoorPb19
namespace Go.Proofs.YtilnjnblpeeigaaGreatDoor
open Go.RowKit Go.Deep Go.Shelf
def elH:El (Sl.Sl×Sl.Cp):=⟨238,103,8,64,Sl.encH⟩
theorem infoH:(Tryz.prog.info? 238).map (fun i=>(i.zero,i.size,i.bytes))=some (some (.agg #[.int .i64 0,.int .i64 0,.int .i64 0,.int .i64 0,.int .i64 0,.int .u64 0,.int .u64 0,.int .i64 0]),8,64):=by kernel_rfl
theorem okH:El.Ok elH:=⟨Tryz.underlying103,info_of infoH rfl,by decide,by decide,fun _=>rfl,by simp [elH,Sl.encH,Value.oneCell']⟩
theorem flatH_is:∀ A:List (Sl.Sl×Sl.Cp),Sl.flatH A=flatK Sl.encH A
 | []=>rfl
 | x::A=>by
  have:=flatH_is A
  unfold Sl.flatH flatK at *
  simp only [List.flatMap_cons]
open Classical in
theorem nd_held {w0 w:World} {r p:Nat} {F:Nat->Prop} {S:Sl.St} {R:List Th} (s:Sep w0 r w (nT p F S::R)) :
  Calls Tryz.prog 88 #[ptr p] w fun e w'=>∃ v,e = .returned v/\Sep w0 r w' (nT p F S::lst elH v (Sl.held S)::R):=by
 haveI:Inhabited Sl.Sl:=⟨⟨0,0⟩⟩
 haveI:Inhabited Sl.Cp:=⟨Sl.no⟩
 refine Calls.mono (Sl.held_any p F S w s.head) ?_
 rintro e w' ⟨v,rfl,o,b⟩
 refine ⟨v,rfl,s.told (u:=lst elH v (Sl.held S)) ?_ b fun x hx=>(World.ownsRow.lt o x hx).1⟩
 have h:=own_low o
 rw [flatH_is] at h
 exact h
end Go.Proofs.YtilnjnblpeeigaaGreatDoor

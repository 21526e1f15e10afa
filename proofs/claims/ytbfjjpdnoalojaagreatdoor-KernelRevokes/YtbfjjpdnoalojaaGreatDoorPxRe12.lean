/- Below: KQRevokes; no condition. -/
import Derived.Test.YtbfjjpdnoalojaaGreatDoorRows
import Derived.JoinedCond
import Derived.JoinedOf
set_option maxRecDepth 100000
namespace Go.Proofs.YtbfjjpdnoalojaaGreatDoor
namespace kernelRevokes
theorem an {a b:Bool} (h:a=true) (k:b=true):(a && b)=true:=by rw[h,k];rfl
variable {P:Program} {F:Func} {S:ChangeSpec} {C:OpenClaim}
def Wq (P:Program) (F:Func) (S:ChangeSpec) (C:OpenClaim):Prop:=P=Tryz.pinned.checked.prog/\F=Tryz.f6 /\ S=(OpenSpec.ofChange Rows.kernelRevokesSpec).bare/\C=Rows.kernelRevokesRow
theorem jf0 (h:Wq P F S C):(C.wf (OpenSpec.ofChange S))=true:=by
 obtain⟨rfl,rfl,rfl,rfl⟩:=h
 kernel_rfl
theorem jf1 (h:Wq P F S C):(laidOutB P)=true:=by
 obtain⟨rfl,rfl,rfl,rfl⟩:=h
 kernel_rfl
theorem jf2 (h:Wq P F S C):(mapsRowed P)=true:=by
 obtain⟨rfl,rfl,rfl,rfl⟩:=h
 kernel_rfl
theorem jf3 (h:Wq P F S C):(F.params.all (P.readableRec ·))=true:=by
 obtain⟨rfl,rfl,rfl,rfl⟩:=h
 kernel_rfl
theorem jf4 (h:Wq P F S C):(namedTie P C.named S.vars)=true:=by
 obtain⟨rfl,rfl,rfl,rfl⟩:=h
 kernel_rfl
theorem jf5 (h:Wq P F S C):(C.stops == [])=true:=by
 obtain⟨rfl,rfl,rfl,rfl⟩:=h
 kernel_rfl
theorem jf6 (h:Wq P F S C):(P.stops == [])=true:=by
 obtain⟨rfl,rfl,rfl,rfl⟩:=h
 kernel_rfl
theorem jf7 (h:Wq P F S C):(C.knobs == [])=true:=by
 obtain⟨rfl,rfl,rfl,rfl⟩:=h
 kernel_rfl
theorem jf8 (h:Wq P F S C):(P.stopKnobs == [])=true:=by
 obtain⟨rfl,rfl,rfl,rfl⟩:=h
 kernel_rfl
theorem jf9 (h:Wq P F S C):(C.inPlace == P.inPlace 6)=true:=by
 obtain⟨rfl,rfl,rfl,rfl⟩:=h
 kernel_rfl
theorem jf10 (h:Wq P F S C):(C.unfollowed == P.unfollowed 6)=true:=by
 obtain⟨rfl,rfl,rfl,rfl⟩:=h
 kernel_rfl
theorem jf11 (h:Wq P F S C):(C.recurses == P.recurses 6)=true:=by
 obtain⟨rfl,rfl,rfl,rfl⟩:=h
 kernel_rfl
theorem jf12 (h:Wq P F S C):(C.named == P.varsNamed 6)=true:=by
 obtain⟨rfl,rfl,rfl,rfl⟩:=h
 kernel_rfl
theorem jf13 (h:Wq P F S C):(C.maps == (F.params.toList++S.plain.varTypes P).any (P.mapsRec ·))=true:=by
 obtain⟨rfl,rfl,rfl,rfl⟩:=h
 kernel_rfl
theorem jf14 (h:Wq P F S C):(C.ifaces == (F.params.toList++S.plain.varTypes P).any (P.ifacesRec ·))=true:=by
 obtain⟨rfl,rfl,rfl,rfl⟩:=h
 kernel_rfl
theorem jf15 (h:Wq P F S C):(C.mapsOut == P.mapsAmong F.resultTypes.toList)=true:=by
 obtain⟨rfl,rfl,rfl,rfl⟩:=h
 kernel_rfl
theorem jf16 (h:Wq P F S C):(C.loops == (F.params.toList++S.plain.varTypes P).any (P.loopsFrom ·))=true:=by
 obtain⟨rfl,rfl,rfl,rfl⟩:=h
 kernel_rfl
theorem jf17 (h:Wq P F S C):(C.wideKeys == (F.params.toList++S.plain.varTypes P++F.resultTypes.toList).any (P.wideKeysFrom ·))=true:=by
 obtain⟨rfl,rfl,rfl,rfl⟩:=h
 kernel_rfl
theorem jf18 (h:Wq P F S C):(S.vars.all (P.varReadable ·))=true:=by
 obtain⟨rfl,rfl,rfl,rfl⟩:=h
 kernel_rfl
theorem jf19 (h:Wq P F S C):(F.resultTypes.all (fun t=>P.readableRec t && decide (t<P.types.size)))=true:=by
 obtain⟨rfl,rfl,rfl,rfl⟩:=h
 kernel_rfl
theorem jf20 (h:Wq P F S C):(C.ifacesOut == F.resultTypes.toList.any (P.ifacesRec ·))=true:=by
 obtain⟨rfl,rfl,rfl,rfl⟩:=h
 kernel_rfl
theorem jf21 (h:Wq P F S C):(C.loopsOut == F.resultTypes.toList.any (P.loopsFrom ·))=true:=by
 obtain⟨rfl,rfl,rfl,rfl⟩:=h
 kernel_rfl
theorem jf22 (h:Wq P F S C):(C.plainKeys == P.plainKeys)=true:=by
 obtain⟨rfl,rfl,rfl,rfl⟩:=h
 kernel_rfl
theorem jf23 (h:Wq P F S C):(C.shortTexts.isNone)=true:=by
 obtain⟨rfl,rfl,rfl,rfl⟩:=h
 kernel_rfl
theorem jf24 (h:Wq P F S C):(P.stopsHeard)=true:=by
 obtain⟨rfl,rfl,rfl,rfl⟩:=h
 kernel_rfl
theorem jf25 (h:Wq P F S C):(P.mayEnter)=true:=by
 obtain⟨rfl,rfl,rfl,rfl⟩:=h
 kernel_rfl
theorem jf26 (h:Wq P F S C):(C.lifted == P.liftsFinal)=true:=by
 obtain⟨rfl,rfl,rfl,rfl⟩:=h
 kernel_rfl
theorem jf27 (h:Wq P F S C):(P.make == some C.make)=true:=by
 obtain⟨rfl,rfl,rfl,rfl⟩:=h
 kernel_rfl
theorem jf28 (h:Wq P F S C):(C.kinds == (if C.domain.isEmpty then [] else F.params.toList.map fun t=>match P.underlying t with|some (.int k)=>some k|_=>none))=true:=by
 obtain⟨rfl,rfl,rfl,rfl⟩:=h
 kernel_rfl
theorem jf29 (h:Wq P F S C):(C.pinned == C.pinnedBy)=true:=by
 obtain⟨rfl,rfl,rfl,rfl⟩:=h
 kernel_rfl
theorem jf30 (h:Wq P F S C):(C.veiled == (F.params.toList++S.plain.varTypes P++F.resultTypes.toList).any (P.veiledRec ·))=true:=by
 obtain⟨rfl,rfl,rfl,rfl⟩:=h
 kernel_rfl
theorem jf31 (h:Wq P F S C):(C.veiledFits P F.params.toList (F.params.toList++S.plain.varTypes P++F.resultTypes.toList))=true:=by
 obtain⟨rfl,rfl,rfl,rfl⟩:=h
 kernel_rfl
theorem joined:joinedFacts Tryz.pinned.checked.prog 6 Tryz.f6 (OpenSpec.ofChange Rows.kernelRevokesSpec).bare Rows.kernelRevokesRow=true:=by
 have w:Wq Tryz.pinned.checked.prog Tryz.f6 (OpenSpec.ofChange Rows.kernelRevokesSpec).bare Rows.kernelRevokesRow:=⟨rfl,rfl,rfl,rfl⟩
 unfold joinedFacts
 exact(an (an (an (an (an (an (an (an (an (an (an (an (an (an (an (an (an (an (an (an (an (an (an (an (an (an (an (an (an (an (an (jf0 w) (jf1 w)) (jf2 w)) (jf3 w)) (jf4 w)) (jf5 w)) (jf6 w)) (jf7 w)) (jf8 w)) (jf9 w)) (jf10 w)) (jf11 w)) (jf12 w)) (jf13 w)) (jf14 w)) (jf15 w)) (jf16 w)) (jf17 w)) (jf18 w)) (jf19 w)) (jf20 w)) (jf21 w)) (jf22 w)) (jf23 w)) (jf24 w)) (jf25 w)) (jf26 w)) (jf27 w)) (jf28 w)) (jf29 w)) (jf30 w)) (jf31 w))
end kernelRevokes
end Go.Proofs.YtbfjjpdnoalojaaGreatDoor

/-
  What stands below: KEn; no condition but what each says.
-/
import Derived.Test.YtilnjnblpeeigaaGreatDoorPb1
import Derived.Test.YtilnjnblpeeigaaGreatDoorPb3
import Derived.Test.YtilnjnblpeeigaaGreatDoorPb11
import Derived.Test.YtilnjnblpeeigaaGreatDoorPxMi1
import Derived.Below
import Derived.BigQuiet
import Derived.Deep.OwnRows
import Derived.Deep.QuietTactic
import Derived.Deep.RegionHeld3
import Derived.Deep.RegionLaw
import Derived.Deep.RegionWith
import Derived.Laws.AppendOwnNone
import Derived.Laws.CopyOwn
import Derived.Laws.StructEq
import Derived.Lib.SliceRun
import Derived.Lib.Walk
import Derived.Maps.AppendAt
import Derived.Shelf.Abstract
import Derived.Shelf.RegionOpenPlain
import Derived.Test.YtilnjnblpeeigaaGreatDoorRows
import Derived.WalkKit
import Derived.WalkLawsBesides
set_option maxRecDepth 100000
namespace Go.Proofs.YtilnjnblpeeigaaGreatDoor.En
open Go.RowKit Go.Deep Go.Shelf
section
variable {w0 w:World} {r p:Nat} {v:Value} {S:St} {R:List Th}
set_option maxHeartbeats 2000000 in
theorem waits_sep (s:Sep w0 r w (epT p v S::R)) (hl:S.length<=1000) :
  Calls Tryz.prog 45 #[ptr p] w fun e w'=>∃ ao cap,e = .returned (.tuple #[.slice ao (waitsN S).length cap,.bool (hasB S true)])/\Sep w0 r w' (epT p v S::lstI (.slice ao (waitsN S).length cap) (waitsN S)::R):=by
 have c0:=s.cellP
 obtain ⟨ao,cap,rfl,hg⟩:=s.slicePEn
 have HS:=hid s
 have HG:=hid hg
 have HL:=hid hl
 clear s hg
 generalize hN:S.length=N at *
 have HN:=hid hN
 clear hN
 go_enter Tryz.func45,Tryz.ntmps45
 go_wp2
 go_loopw [4,12] (fun s4 s12 wr=>∃ k:Nat,k<=N/\s12 = .int .i64 k/\Sep w w.heap.size wr [lstI s4 (waitsN (S.take k))]) (fun _ s12 _=>N - (intOf s12).toNat)
 case atStart=>exact ⟨0,Nat.zero_le _,rfl,(sep_nil w).nil⟩
 case round =>
  obtain ⟨k,hk,rfl,s1⟩:=hrel
  clear c0
  by_cases hlt:k<N
  ·have hltz:(k:Int)<(N:Int):=by omega
   obtain ⟨b,rfl⟩:=HG.out k hlt
   have hk1:k<S.length:=by have:=HN.out;omega
   have hx:=List.getElem?_eq_getElem hk1
   obtain ⟨c0,c1,c2,c3,c4,c5,c6,c7,c8⟩:=(RowW.at (EpH.row (EpH.below HS.out.head s1.low)) hx).cells
   have s2:=s1.box (objW S[k])
   obtain ⟨v3,w3,r3,s3⟩:=s2.drop.more okI 26 S[k].n (C:=#[.int .i64 S[k].n]) rfl (by rw [waits_len,List.length_take];omega)
   have e9:(wr.alloc (objW S[k])).heap.size=wr.heap.size+1:=by simp
   simp only [elI] at r3
   rw [e9] at r3
   have e1:waitsN (S.take (k+1))=waitsN (S.take k)++[S[k].n]:=by
    rw [List.take_add_one,hx]
    unfold waitsN
    rw [List.map_append]
    rfl
   have R3:=hid r3
   have S3:=hid (e1 ▸ s3)
   clear s1 s2 s3 r3 hx e1 e9
   generalize S[k]=y at *
   clear hk1
   simp only [objW] at *
   go_wp2_with (at_builtin;refine wpList_append_run rfl _ _ _ _ rfl _ _ _ _ rfl rfl R3.out ?_)
   go_roundw
   case rel=>exact ⟨k+1,by omega,by go_num,S3.out⟩
   case measure=>simp [intOf];omega
  ·have hltz:¬ (k:Int)<(N:Int):=by omega
   have hkS:S.take k=S:=List.take_of_length_le (by have:=HN.out;omega)
   rw [hkS] at s1
   obtain ⟨a4,c4,rfl⟩:=s1.listIs (E:=elI) (v:=u4) (A:=waitsN S) (by simp)
   have S2:=hid (HS.out.join s1).swap
   clear s1 hlt hkS
   generalize hm:(waitsN S).length=m at *
   go_wp2_with (go_at_call 94;refine Calls.mono (has_any p _ S true _ S2.out.head) ?_;rintro e w5 ⟨rfl,rfl⟩)
   go_ret2
   subst hm
   exact ⟨_,_,rfl,S2.out⟩
end
end Go.Proofs.YtilnjnblpeeigaaGreatDoor.En
namespace Go.Proofs.YtilnjnblpeeigaaGreatDoor.En
open Go.RowKit Go.Deep Go.Shelf
section
variable {w0 w:World} {r p:Nat} {v:Value} {S:St} {R:List Th}
theorem waits_is (s:Sep w0 r w (epT p v S::R)) (hl:S.length<=1000) {L:List Int} {b:Bool} (hL:waitsN S=L) (hb:hasB S true=b) :
  Calls Tryz.prog 45 #[ptr p] w fun e w'=>∃ ao cap,e = .returned (.tuple #[.slice ao L.length cap,.bool b])/\Sep w0 r w' (epT p v S::lstI (.slice ao L.length cap) L::R):=by
 subst hL hb
 exact waits_sep s hl
end
end Go.Proofs.YtilnjnblpeeigaaGreatDoor.En

/-
  What stands below: KrMints KrSends GMask KBgM; no condition but what each says.
-/
import Derived.Test.YtilnjnblpeeigaaGreatDoorPb1
import Derived.Test.YtilnjnblpeeigaaGreatDoorPb2
import Derived.Test.YtilnjnblpeeigaaGreatDoorPb3
import Derived.Test.YtilnjnblpeeigaaGreatDoorPb4
import Derived.Test.YtilnjnblpeeigaaGreatDoorPb15
import Derived.Test.YtilnjnblpeeigaaGreatDoorPb16
import Derived.Test.YtilnjnblpeeigaaGreatDoorPb25
import Derived.Test.YtilnjnblpeeigaaGreatDoorPb32
import Derived.Test.YtilnjnblpeeigaaGreatDoorPxSe1
import Derived.Test.YtilnjnblpeeigaaGreatDoorPxSe3
import Derived.Below
import Derived.BigQuiet
import Derived.Deep.OwnRows
import Derived.Deep.QuietTactic
import Derived.Deep.RegionHeld3
import Derived.Deep.RegionLaw
import Derived.Deep.RegionWith
import Derived.Laws.AppendOwnNone
import Derived.Laws.BitsAllLaws
import Derived.Laws.BitsLemmas
import Derived.Laws.CopyOwn
import Derived.Laws.StructEq
import Derived.Lib.SliceRun
import Derived.Lib.Walk
import Derived.Maps.AppendAt
import Derived.Shelf.Abstract
import Derived.Shelf.RegionOpenPlain
import Derived.Test.YtilnjnblpeeigaaGreatDoorRows
import Derived.WalkKit
import Derived.WalkLawsBesides
namespace Go.Proofs.YtilnjnblpeeigaaGreatDoor
set_option maxRecDepth 100000
theorem put_go {S:Sl.St} {s:Sl.Sl} {c d:Sl.Cp} (hd:letI:=decTr;letI:=Sl.decFine;letI:=Ca.decLim;letI:=Ca.decFine;letI:=Ca.decMint;letI:=Ca.decCp;letI:=Ca.decBad;letI:=Ca.decFit;letI:=Ca.decWho;Sl.atS S s=some d) (hdk:d.k=0) (hc:letI:=decTr;letI:=Sl.decFine;letI:=Ca.decLim;letI:=Ca.decFine;letI:=Ca.decMint;letI:=Ca.decCp;letI:=Ca.decBad;letI:=Ca.decFit;letI:=Ca.decWho;Sl.Fine c) (hk:c.k≠0):letI:=decTr;letI:=Sl.decFine;letI:=Ca.decLim;letI:=Ca.decFine;letI:=Ca.decMint;letI:=Ca.decCp;letI:=Ca.decBad;letI:=Ca.decFit;letI:=Ca.decWho;Sl.putS S s c=Sl.setS S s c:=by
 letI:=decTr
 letI:=Sl.decFine
 letI:=Ca.decLim
 letI:=Ca.decFine
 letI:=Ca.decMint
 letI:=Ca.decCp
 letI:=Ca.decBad
 letI:=Ca.decFit
 letI:=Ca.decWho
 have hE:Sl.putE S s c=0:=by
  unfold Sl.putE
  rw [hd]
  simp only [hc,hk,hdk,if_true,if_false]
 unfold Sl.putS
 rw [hE]
 rfl
theorem mint_go {K:Kr} {core a w r b k:Int} (hk:k=4\/k=5) (run:letI:=decTr;letI:=Sl.decFine;letI:=Ca.decLim;letI:=Ca.decFine;letI:=Ca.decMint;letI:=Ca.decCp;letI:=Ca.decBad;letI:=Ca.decFit;letI:=Ca.decWho;Th.runsB (pickedK K core).h core=true) (hx:letI:=decTr;letI:=Sl.decFine;letI:=Ca.decLim;letI:=Ca.decFine;letI:=Ca.decMint;letI:=Ca.decCp;letI:=Ca.decBad;letI:=Ca.decFit;letI:=Ca.decWho;capN K a=⟨k,0,7,0,0,0⟩) (hr:0<=r/\r<=7) (hb:0<b/\b<=65536) (hf:letI:=decTr;letI:=Sl.decFine;letI:=Ca.decLim;letI:=Ca.decFine;letI:=Ca.decMint;letI:=Ca.decCp;letI:=Ca.decBad;letI:=Ca.decFit;letI:=Ca.decWho;freeE (pickedK K core) w 1=0) {d:Sl.Cp} (hd:letI:=decTr;letI:=Sl.decFine;letI:=Ca.decLim;letI:=Ca.decFine;letI:=Ca.decMint;letI:=Ca.decCp;letI:=Ca.decBad;letI:=Ca.decFit;letI:=Ca.decWho;Sl.atS K.S (sl w)=some d) (hdk:d.k=0) :
  letI:=decTr;letI:=Sl.decFine;letI:=Ca.decLim;letI:=Ca.decFine;letI:=Ca.decMint;letI:=Ca.decCp;letI:=Ca.decBad;letI:=Ca.decFit;letI:=Ca.decWho;goK K core ⟨1,a,w,r,b,0⟩=({ K with h:=Th.pickH K.h core,S:=Sl.setS K.S (sl w) ⟨k,0,bits .and .i64 7 r,b,0,0⟩,E:=Tr.addS K.E (tr a) (tr w) },tlE 0):=by
 letI:=decTr
 letI:=Sl.decFine
 letI:=Ca.decLim
 letI:=Ca.decFine
 letI:=Ca.decMint
 letI:=Ca.decCp
 letI:=Ca.decBad
 letI:=Ca.decFit
 letI:=Ca.decWho
 have hm:mayB ⟨1,a,w,r,b,0⟩ ⟨k,0,7,0,0,0⟩=true:=by
  rcases hk with rfl | rfl
  ·rfl
  ·rfl
 have hfine:Ca.Fine ⟨k,0,7,0,0,0⟩:=by
  rcases hk with rfl | rfl
  ·decide
  ·decide
 have hbad:Ca.Bad k:=hk
 have hlim:Ca.Lim k:=by
  unfold Ca.Lim
  omega
 have hu:u64 b=b:=by
  unfold u64
  omega
 have hM:¬ Ca.MintR ⟨k,0,7,0,0,0⟩ b:=by
  unfold Ca.MintR
  rintro (h | ⟨_,h⟩)
  ·have:k=0:=h
   omega
  ·exact h ⟨hbad,rfl⟩
 have e0:Ca.mintE ⟨k,0,7,0,0,0⟩ r b=0:=by
  unfold Ca.mintE
  rw [if_pos hfine,if_pos hr,if_neg hM]
 have e1:mintE (pickedK K core) ⟨1,a,w,r,b,0⟩ ⟨k,0,7,0,0,0⟩=0:=by
  unfold mintE
  show (if freeE (pickedK K core) w 1≠0 then _ else Ca.mintE ⟨k,0,7,0,0,0⟩ r (u64 b))=0
  rw [if_neg (by rw [hf];decide),hu,e0]
 have e2:ofCa (Ca.mintR (toCa ⟨k,0,7,0,0,0⟩) r (u64 b))=⟨k,0,bits .and .i64 7 r,b,0,0⟩:=by
  show ofCa (Ca.mintR ⟨k,0,7,0,0,0⟩ r (u64 b))=_
  unfold Ca.mintR
  rw [hu,if_pos e0]
  unfold Ca.mintC
  rw [if_pos hlim,if_neg (by omega)]
  rfl
 have e3:mintK (pickedK K core) ⟨1,a,w,r,b,0⟩ ⟨k,0,7,0,0,0⟩={ K with h:=Th.pickH K.h core,S:=Sl.setS K.S (sl w) ⟨k,0,bits .and .i64 7 r,b,0,0⟩,E:=Tr.addS K.E (tr a) (tr w) }:=by
  unfold mintK
  rw [if_pos e1]
  show layK (pickedK K core) a w (ofCa (Ca.mintR (toCa ⟨k,0,7,0,0,0⟩) r (u64 b)))=_
  rw [e2]
  unfold layK
  show ({ K with h:=Th.pickH K.h core,S:=Sl.putS K.S (sl w) ⟨k,0,bits .and .i64 7 r,b,0,0⟩,E:=Tr.addS K.E (tr a) (tr w) }:Kr)=_
  have hf2:Ca.Fine (Ca.mintC ⟨k,0,7,0,0,0⟩ r b):=Ca.mint_fine hfine (show k≠0 by omega) hr (.inr hbad)
  have e4:Ca.mintC ⟨k,0,7,0,0,0⟩ r b=⟨k,0,bits .and .i64 7 r,b,0,0⟩:=by
   unfold Ca.mintC
   rw [if_pos hlim,if_neg (by omega)]
  rw [e4] at hf2
  have hf3:Sl.Fine ⟨k,0,bits .and .i64 7 r,b,0,0⟩:=by
   rcases hf2 with h | h
   ·have:k=0:=congrArg Ca.Cp.k h
    omega
   ·exact .inr h
  rw [put_go hd hdk hf3 (show k≠0 by omega)]
 unfold goK doK
 rw [if_pos run,if_pos (show (0:Int)<=1/\(1:Int)<=17 by decide),if_neg (show ¬ (1:Int)=17 by decide)]
 show (if mayB _ (capN K a)=true then doesK _ _ _ _ (capN K a) else _)=_
 rw [hx,if_pos hm]
 unfold doesK
 rw [if_neg (show ¬ (1:Int)=0 by decide),if_pos rfl,e1,e3]
def K1:Kr:=letI:=decTr;letI:=Sl.decFine;letI:=Ca.decLim;letI:=Ca.decFine;letI:=Ca.decMint;letI:=Ca.decCp;letI:=Ca.decBad;letI:=Ca.decFit;letI:=Ca.decWho;(goK K0 0 ⟨0,1,20,4,0,1⟩).1
def K2 (r b:Int):Kr:=letI:=decTr;letI:=Sl.decFine;letI:=Ca.decLim;letI:=Ca.decFine;letI:=Ca.decMint;letI:=Ca.decCp;letI:=Ca.decBad;letI:=Ca.decFit;letI:=Ca.decWho;{ K1 with h:=Th.pickH K1.h 0,S:=Sl.setS K1.S (sl 21) ⟨4,0,bits .and .i64 7 r,b,0,0⟩,E:=Tr.addS K1.E (tr 20) (tr 21) }
theorem k1_ok:letI:=decTr;letI:=Sl.decFine;letI:=Ca.decLim;letI:=Ca.decFine;letI:=Ca.decMint;letI:=Ca.decCp;letI:=Ca.decBad;letI:=Ca.decFit;letI:=Ca.decWho;(goK K0 0 ⟨0,1,20,4,0,1⟩).2.e=0:=by kernel_rfl
def K3 (r:Int):Kr:=letI:=decTr;letI:=Sl.decFine;letI:=Ca.decLim;letI:=Ca.decFine;letI:=Ca.decMint;letI:=Ca.decCp;letI:=Ca.decBad;letI:=Ca.decFit;letI:=Ca.decWho;(goK K1 0 ⟨1,20,21,r,0,0⟩).1
end Go.Proofs.YtilnjnblpeeigaaGreatDoor
namespace Go.Proofs.YtilnjnblpeeigaaGreatDoor
set_option maxRecDepth 100000
def S1:Kr:=letI:=decTr;letI:=Sl.decFine;letI:=Ca.decLim;letI:=Ca.decFine;letI:=Ca.decMint;(goK K1 0 ⟨0,1,21,3,0,1⟩).1
def S2 (b:Int):Kr:=letI:=decTr;letI:=Sl.decFine;letI:=Ca.decLim;letI:=Ca.decFine;letI:=Ca.decMint;{ S1 with h:=Th.pickH S1.h 0,S:=Sl.setS S1.S (sl 22) ⟨4,0,bits .and .i64 7 2,b,0,0⟩,E:=Tr.addS S1.E (tr 20) (tr 22) }
def S3 (b:Int):Kr:=letI:=decTr;letI:=Sl.decFine;letI:=Ca.decLim;letI:=Ca.decFine;letI:=Ca.decMint;(goK (S2 b) 0 ⟨7,21,0,5,0,0⟩).1
def S4 (b:Int):Kr:=letI:=decTr;letI:=Sl.decFine;letI:=Ca.decLim;letI:=Ca.decFine;letI:=Ca.decMint;(goK (S3 b) 0 ⟨5,21,0,0,0,0⟩).1
def S5 (b:Int):Kr:=letI:=decTr;letI:=Sl.decFine;letI:=Ca.decLim;letI:=Ca.decFine;letI:=Ca.decMint;(goK (S4 b) 0 ⟨9,20,0,0,0,1⟩).1
theorem s1_ok:letI:=decTr;letI:=Sl.decFine;letI:=Ca.decLim;letI:=Ca.decFine;letI:=Ca.decMint;(goK K1 0 ⟨0,1,21,3,0,1⟩).2.e=0:=by kernel_rfl
theorem s2_is {b:Int} (hb:0<b/\b<=65536):letI:=decTr;letI:=Sl.decFine;letI:=Ca.decLim;letI:=Ca.decFine;letI:=Ca.decMint;goK S1 0 ⟨1,20,22,2,b,0⟩=(S2 b,tlE 0):=
 mint_go (.inl rfl) (by kernel_rfl) (by kernel_rfl) ⟨by decide,by decide⟩ hb (by kernel_rfl) (show Sl.atS S1.S (sl 22)=some Sl.no by kernel_rfl) rfl
theorem s3_ok (b:Int):letI:=decTr;letI:=Sl.decFine;letI:=Ca.decLim;letI:=Ca.decFine;letI:=Ca.decMint;(goK (S2 b) 0 ⟨7,21,0,5,0,0⟩).2.e=0:=by kernel_rfl
theorem s4_ok (b:Int):letI:=decTr;letI:=Sl.decFine;letI:=Ca.decLim;letI:=Ca.decFine;letI:=Ca.decMint;(goK (S3 b) 0 ⟨5,21,0,0,0,0⟩).2.e=0:=by kernel_rfl
theorem s5_ok (b:Int):letI:=decTr;letI:=Sl.decFine;letI:=Ca.decLim;letI:=Ca.decFine;letI:=Ca.decMint;(goK (S4 b) 0 ⟨9,20,0,0,0,1⟩).2.e=0/\(Th.getT (S5 b).h 0).st=3/\Th.runsB (S5 b).h 0=true/\Th.runsN (S5 b).h 0=1:=⟨by kernel_rfl,by kernel_rfl,by kernel_rfl,by kernel_rfl⟩
theorem s6_ok (b l x:Int):letI:=decTr;letI:=Sl.decFine;letI:=Ca.decLim;letI:=Ca.decFine;letI:=Ca.decMint;(goK (S5 b) 0 ⟨8,22,0,l,x,0⟩).2.e=0/\(goK (S5 b) 0 ⟨8,22,0,l,x,0⟩).2.k=0/\(Th.getT (goK (S5 b) 0 ⟨8,22,0,l,x,0⟩).1.h 0).st=1:=⟨by kernel_rfl,by kernel_rfl,by kernel_rfl⟩
theorem s6_regs (b l x:Int):letI:=decTr;letI:=Sl.decFine;letI:=Ca.decLim;letI:=Ca.decFine;letI:=Ca.decMint;(Th.getT (goK (S5 b) 0 ⟨8,22,0,l,x,0⟩).1.h 0).g=[b,u64 l,u64 x,0,0,0,0,0]:=by kernel_rfl
end Go.Proofs.YtilnjnblpeeigaaGreatDoor
namespace Go.Proofs.YtilnjnblpeeigaaGreatDoor
theorem i64_mask (x:Int) (m:Nat) (hm:m<=62):bits .and .i64 x ((2 ^ m - 1:Nat):Int)=x % ((2 ^ m:Nat):Int):=by
 have hp:=Nat.two_pow_pos m
 have hq:2 ^ m<=2 ^ 62:=Nat.pow_le_pow_right (by omega) hm
 show IntKind.i64.wrap ((BitVec.ofInt 64 x &&& BitVec.ofInt 64 ((2 ^ m - 1:Nat):Int)).toNat:Int)=_
 rw [BitVec.toNat_and,ofInt_u64 (2 ^ m - 1) (by omega),Nat.and_two_pow_sub_one_eq_mod,BitVec.toNat_ofInt]
 have e:(((x % ((2 ^ 64:Nat):Int)).toNat % 2 ^ m:Nat):Int)=x % ((2 ^ m:Nat):Int):=by
  rw [Int.natCast_emod,Int.toNat_of_nonneg (Int.emod_nonneg _ (by decide))]
  apply Int.emod_emod_of_dvd
  exact Int.natCast_dvd_natCast.2 (Nat.pow_dvd_pow 2 (by omega))
 rw [e]
 have h1:0<=x % ((2 ^ m:Nat):Int):=Int.emod_nonneg _ (by omega)
 have h2:x % ((2 ^ m:Nat):Int)<((2 ^ m:Nat):Int):=Int.emod_lt_of_pos _ (by omega)
 generalize x % ((2 ^ m:Nat):Int)=y at *
 generalize 2 ^ m=p at *
 have hy:y % (2:Int) ^ 64=y:=Int.emod_eq_of_lt h1 (by omega)
 simp only [IntKind.wrap,IntKind.bits,IntKind.signed,hy]
 rw [if_neg]
 simp
 omega
theorem mask_is (x:Int) (m:Nat) (hm:m<=62):∃ p:Nat,p<2 ^ m/\bits .and .i64 x ((2 ^ m - 1:Nat):Int)=(p:Int):=by
 have hp:(0:Int)<((2 ^ m:Nat):Int):=by
  have:=Nat.two_pow_pos m
  omega
 have h0:0<=x % ((2 ^ m:Nat):Int):=Int.emod_nonneg _ (by omega)
 have h1:x % ((2 ^ m:Nat):Int)<((2 ^ m:Nat):Int):=Int.emod_lt_of_pos _ hp
 exact ⟨(x % ((2 ^ m:Nat):Int)).toNat,by omega,by rw [i64_mask x m hm];omega⟩
theorem mask64k (x:Int):∃ p:Nat,p<65536/\bits .and .i64 x 65535=(p:Int):=mask_is x 16 (by decide)
end Go.Proofs.YtilnjnblpeeigaaGreatDoor
namespace Go.Proofs.YtilnjnblpeeigaaGreatDoor
section
variable {α:Type} {a b c d e f g:α} {l:List α}
theorem mm0:a∈a::l:=List.mem_cons_self
theorem mm1:b∈a::b::l:=List.mem_cons_of_mem _ mm0
theorem mm2:c∈a::b::c::l:=List.mem_cons_of_mem _ mm1
theorem mm3:d∈a::b::c::d::l:=List.mem_cons_of_mem _ mm2
end
end Go.Proofs.YtilnjnblpeeigaaGreatDoor

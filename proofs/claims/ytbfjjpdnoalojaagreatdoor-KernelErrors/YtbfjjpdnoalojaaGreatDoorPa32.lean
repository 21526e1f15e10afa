/- Below: KrRoot KBo3 KLaw KBo4 KrRuns KrFixed KFx; no condition. -/
import Derived.Test.YtbfjjpdnoalojaaGreatDoorPa31
import Derived.KernelRfl
set_option maxHeartbeats 16000000
set_option maxRecDepth 100000
namespace Go.Proofs.YtbfjjpdnoalojaaGreatDoor
section
section
variable [dT:DecidableEq Tr.Sl] [dF:∀ c:Sl.Cp,Decidable (Sl.Fine c)]
def VA (K:Kr) (L:List (Int×Int)):Kr:=L.foldl (fun K x=>Xw K x.1 x.2) K
end
end
section
open Classical
variable {K:Kr}
theorem UP (K:Kr) (L M:List (Int×Int)):VA K (L++M)=VA (VA K L) M:=List.foldl_append
def Am (h:Th.Hs) (p core:Int):Th.Hs:=Th.JB (Th.JR (Th.JS h p core) core) core
def UZ:Th.Hs->Nat->List Int->Th.Hs
 | h,_,[]=>h
 | h,i,p::L=>UZ (Am h p (i:Int)) (i+1) L
theorem GW:∀ (L:List Int) (h:Th.Hs) (i:Nat) (p:Int),UZ h i (L++[p])=Am (UZ h i L) p ((i+L.length:Nat):Int)
 | [],_,_,_=>rfl
 | x::L,h,i,p=>by
  have e:=GW L (Am h x (i:Int)) (i+1) p
  rw[show i+1+L.length=i+(x::L).length by rw[List.length_cons];omega] at e
  exact e
def thL (i n:Nat):List (Int×Int):=(List.range' i n).map fun j:Nat=>((3:Int),(j:Int))
def irL (i n:Nat):List (Int×Int):=(List.range' i n).map fun j:Nat=>((9:Int),(j:Int))
theorem Ar:∀ (Q:List Int) (K:Kr) (i:Nat),OL K i Q=VA { K with h:=UZ K.h i Q } (thL i Q.length)
 | [],_,_=>rfl
 | p::Q,K,i=>by
  show OL (Xw { K with h:=Am K.h p (i:Int) } 3 (i:Int)) (i+1) Q=_
  rw[Ar Q]
  show VA { Xw K 3 (i:Int) with h:=UZ (Am K.h p (i:Int)) (i+1) Q } (thL (i+1) Q.length)=VA { K with h:=UZ (Am K.h p (i:Int)) (i+1) Q } (thL i (p::Q).length)
  rw[List.length_cons]
  unfold thL
  rw[List.range'_succ,List.map_cons]
  rfl
theorem Ap:∀ (m:Nat) (K:Kr) (i:Nat),G0 K i m=VA K (irL i m)
 | 0,_,_=>rfl
 | m+1,K,i=>by
  show G0 (Xw K 9 (i:Int)) (i+1) m=_
  rw[Ap m]
  unfold irL
  rw[List.range'_succ,List.map_cons]
  rfl
def XA (n m:Nat):List (Int×Int):=[(2,0),(1,0)]++thL 0 n++[(8,0)]++irL 0 m
def ED (n:Nat) (b:Int) (Q:List Int):Kr:={ Mi n b with h:=UZ (Th.Vu n) 0 Q }
theorem EX (n:Nat) (b:Int) (m:Nat) (Q:List Int) (hn:Q.length=n):Aq n b m Q=VA (ED n b Q) (XA n m):=by
 unfold Aq
 rw[Ap,Ar]
 unfold XA
 rw[UP,UP,UP,hn]
 congr 1
theorem Jpj (h:(K.S.getD 0 []).length=64) (k o:Int):((Xw K k o).S.getD 0 []).length=64:=by
 unfold Xw
 show((Sl.ZL K.S (sl K.E.length) ⟨k,o,7,0,0,0⟩).getD 0 []).length=64
 unfold Sl.ZL
 split
 ·unfold Sl.Xj
  rw[Sl.Xt]
  split
  ·rename_i e
   rw[List.length_set,<- e.1]
   exact h
  ·exact h
 ·exact h
theorem Jb1:∀ (L:List (Int×Int)) {K:Kr},(K.S.getD 0 []).length=64->((VA K L).S.getD 0 []).length=64
 | [],_,h=>h
 | x::L,_,h=>Jb1 L (Jpj h x.1 x.2)
def enL (j:Nat):Tr.St:=(List.range j).map fun i:Nat=>⟨tr (i:Int),0⟩
theorem F7 (j:Nat):(enL j).length=j:=by simp[enL]
theorem Jt3 {j:Nat} (h:K.E=enL j) (k o:Int):(Xw K k o).E=enL (j+1):=by
 show Tr.rootS K.E (tr K.E.length)=_
 rw[h,F7]
 unfold Tr.rootS
 rw[if_neg]
 ·unfold enL
  rw[List.range_succ,List.map_append]
  rfl
 ·intro hh
  have hm:=(Tr.VF _ _).2 hh
  unfold Tr.JA enL at hm
  rw[List.map_map] at hm
  obtain⟨i,hi,e⟩:=List.mem_map.1 hm
  have hi:=List.mem_range.1 hi
  have e2:((i:Nat):Int)=(j:Int):=congrArg Tr.Sl.i e
  omega
theorem Jfq:∀ (L:List (Int×Int)) {K:Kr} {j:Nat},K.E=enL j->(VA K L).E=enL (j+L.length)
 | [],_,_,h=>h
 | x::L,K,j,h=>by
  have e:=Jfq L (Jt3 h x.1 x.2)
  rw[show j+1+L.length=j+(x::L).length by rw[List.length_cons];omega] at e
  exact e
theorem Jnq (n:Nat) (b:Int) (Q:List Int):((ED n b Q).S.getD 0 []).length=64:=by
 show((Sl.Zq [] 6).getD 0 []).length=64
 rfl
theorem Jec {L:List (Int×Int)} {j:Nat} {x:Int×Int} (h:L[j]? = some x) (K:Kr):VA K (L.take (j+1))=Xw (VA K (L.take j)) x.1 x.2:=by
 obtain⟨hl,e⟩:=Jqb.1 h
 rw[List.take_succ_eq_append_getElem hl,e,UP]
 rfl
theorem Jf8 (n m:Nat):(XA n m).length=3+n+m:=by
 unfold XA thL irL
 simp
 omega
theorem Jjr {n m:Nat} (hn:n<=8) (hm:m<=8):∀ x∈XA n m,(1<=x.1/\x.1<=9)/\0<=x.2/\x.2<=8:=fun x hx=>by
 unfold XA thL irL at hx
 simp only[List.mem_append,List.mem_cons,List.mem_map,List.mem_range',List.not_mem_nil,or_false] at hx
 rcases hx with (((rfl|rfl)|⟨j,⟨k,hk,rfl⟩,rfl⟩)|rfl)|⟨j,⟨k,hk,rfl⟩,rfl⟩
 all_goals simp only
 all_goals omega
theorem Jfg {h:Th.Hs} {i n:Nat} (hl:h.L.length=i) (hq:h.Q.length=n) (hin:i<n) (hn:n<=8) {p:Int} (hp:0<=p/\p<256):Th.JV h p (i:Int)=0/\Th.JW h p (i:Int)=(i:Int):=by
 have e:Th.JV h p (i:Int)=0:=by
  unfold Th.JV
  rw[if_pos ⟨hp,by unfold Th.OQ;omega⟩,if_neg (by omega)]
 refine⟨e,?_⟩
 unfold Th.JW
 rw[if_pos e,hl]
theorem Jjj {h:Th.Hs} {i n:Nat} (hl:h.L.length=i) (hq:h.Q.length=n) (hin:i<n) (hn:n<=8) {p:Int} (hp:0<=p/\p<256):(Am h p (i:Int)).L.length=i+1/\(Am h p (i:Int)).Q.length=n:=by
 have e:=(Jfg hl hq hin hn hp).1
 have h1:(Th.JS h p (i:Int)).L.length=h.L.length+1/\(Th.JS h p (i:Int)).Q.length=h.Q.length:=by
  unfold Th.JS
  rw[if_pos e]
  simp
 have h2:=(VY (Th.JS h p (i:Int)) (i:Int)).then (VU _ (i:Int))
 unfold Am
 exact⟨h2.1.trans (by omega),h2.2.trans (by omega)⟩
theorem GX {n:Nat} (hn:n<=8):∀ (L:List Int) {h:Th.Hs} {i:Nat},h.L.length=i->h.Q.length=n->i+L.length<=n->(∀ p∈L,0<=p/\p<256)->(UZ h i L).L.length=i+L.length/\(UZ h i L).Q.length=n
 | [],_,_,hl,hq,_,_=>⟨hl,hq⟩
 | p::L,h,i,hl,hq,hi,hp=>by
  rw[List.length_cons] at hi
  have b:=Jjj hl hq (by omega) hn (hp p (by simp))
  have e:=GX hn L (h:=Am h p (i:Int)) (i:=i+1) b.1 b.2 (by omega) (fun q hq=>hp q (by simp[hq]))
  rw[show i+1+L.length=i+(p::L).length by rw[List.length_cons];omega] at e
  exact e
theorem Jmx (i n:Nat):thL i (n+1)=thL i n++[((3:Int),((i+n:Nat):Int))]:=by
 unfold thL
 rw[List.range'_concat,List.map_append,Nat.one_mul]
 rfl
theorem Jkj (i n:Nat):irL i (n+1)=irL i n++[((9:Int),((i+n:Nat):Int))]:=by
 unfold irL
 rw[List.range'_concat,List.map_append,Nat.one_mul]
 rfl
theorem Jf0 (i n:Nat):(thL i n).length=n:=by simp[thL]
theorem Jod (i n:Nat):(irL i n).length=n:=by simp[irL]
end
section
open Go.RowKit Go.Deep Go.Shelf
open Classical
def cRc (x:Int×Int):List Value:=[.int .i64 x.1,.int .i64 x.2,.int .i64 7,.int .u64 0,.int .u64 0,.int .i64 0]
def Uj:El (Int×Int):=⟨82,100,6,48,cRc⟩
theorem Jtd:(Tryz.prog.info? 82).map (fun i=>(i.zero,i.size,i.bytes))=some (some (.agg #[.int .i64 0,.int .i64 0,.int .i64 0,.int .u64 0,.int .u64 0,.int .i64 0]),6,48):=by kernel_rfl
theorem Jlh:El.Ok Uj:=⟨Tryz.underlying100,ZA Jtd rfl,by decide,by decide,fun _=>rfl,by simp[Uj,cRc,Value.oneCell']⟩
def kr1 (_n:Nat) (b:Int) (h:Th.Hs):Kr:=⟨Sl.Zq [] 6,[],h,List.replicate 8 Ir.ln0,[⟨0,b,0⟩],[],[],[],0,0⟩
section
variable {w0 w w':World} {r p:Nat} {Y:Ly} {K:Kr} {R:List Th}
theorem Joi (s:Sep w0 r w (kT p Y K::R)) {j:Nat} (hE:K.E=enL j) (hj:j<=60):Calls Tryz.prog 41 #[Je Y.t,.agg #[.int .i64 0,.int .i64 (j:Int)]] w fun e w'=>∃ v,e=.returned v/\∃ xx,Sep w0 r w' (kT p { Y with tv:=xx } { K with E:=Tr.rootS K.E (tr K.E.length) }::R):=by
 have hl:K.E.length=j:=by rw[hE,F7]
 have h:=Jtk s (tr j) (by omega)
 rw[hl]
 refine Jqa h ?_
 rintro e w' ⟨rfl,x,s2⟩
 exact⟨_,rfl,x,s2⟩
theorem J0r {Q:List Int} {v:Value} (s:Sep w0 r w (Ta.Xa v Q::R)) (ht:∀ u,Below r w0 u->Th.Tab u) {n m:Nat} {b:Int} (hn:Q.length=n) (hB:Ao n b m Q=true) :
  Calls Tryz.prog 10 #[Jgd n b m v] w fun e w'=>∃ p,e=.returned (.tuple #[Je p,.int .i64 0])/\KS w0 r w' p (Aq n b m Q) (Ta.Xa v Q::R):=by
 rw[EX n b m Q hn]
 have hB2:=hB
 unfold Ao at hB2
 simp only[Bool.and_eq_true,decide_eq_true_eq,Bool.not_eq_true'] at hB2
 obtain⟨⟨⟨⟨hn8,hb⟩,hm8⟩,-⟩,hbad⟩:=hB2
 obtain⟨ao,cap,rfl⟩:=s.listIs (E:=Ta.Ui) (v:=v) (A:=Q) (by simp)
 rw[hn] at s ⊢
 have hbt:=MH s n b m
 rw[hB] at hbt
 have HBT:=Ja hbt
 have S1:=Ja (s.box (Zs n b m (.slice ao n cap)))
 have HN:=Ja (And.intro hn (And.intro hn8 (And.intro hb hm8)))
 have HT:=Ja ht
 have HPQ:Hid (∀ p∈Q,0<=p/\p<256):=fun p hp=>by
  have h:=List.any_eq_false.1 hbad p hp
  unfold UY at h
  simp at h
  omega
 obtain⟨w1,hw1⟩:∃ w1,w.alloc (Zs n b m (.slice ao n cap))=w1:=⟨_,rfl⟩
 rw[hw1] at S1
 have HW:=Ja hw1
 obtain⟨e0,e1,e2,e3⟩:=S1.out.bootCells (q:=w.heap.size) (n:=n) (b:=b) (m:=m) (v:=.slice ao n cap) (by simp)
 have hbt2:=MH (S1.out.swap) n b m
 rw[hB] at hbt2
 have HBT2:=Ja hbt2
 clear hbt hbt2 s hB hn hn8 hb hm8 hbad ht hw1 HBT
 have HMK:Hid (∀ (W:World) (Y2:Ly) (T:List Th),∀ {p:Nat},Sep w0 r W (kT p Y2 (Go.Proofs.YtbfjjpdnoalojaaGreatDoor.kr0 n)::T)->Calls Tryz.prog 33 #[Je Y2.n,.int .i64 6] W fun e w'=>e=.returned (.tuple #[.int .i64 0,.int .i64 0])/\∃ xx,Sep w0 r w' (kT p { Y2 with F:=xx } { Go.Proofs.YtbfjjpdnoalojaaGreatDoor.kr0 n with S:=Sl.Zq [] 6 }::T)):=fun W Y2 T p s=>Jko s 6
 unfold Jgd
 unfold Zs at HW
 go_enter Tryz.func10,Tryz.ntmps10
 go_wp2_with (first
  | (rw[HW.out])
  | (go_at_call 31;refine Jqa HBT2.out ?_;rintro e w2 ⟨rfl,s2⟩;obtain⟨d0,d1,d2,d3⟩:=s2.bootCells (q:=w.heap.size) (n:=n) (b:=b) (m:=m) (v:=.slice ao n cap) (by simp);have S2:=Ja s2.swap;clear s2 e0 e1 e2 e3)
  | (go_at_call 32;refine Jqa (Jgc S2.out n (by have:=HN.out.2.1;omega) (by have:=HN.out.2.1;omega)) ?_;rintro e w3 ⟨p,rfl,Y,s3⟩;have c0:=s3.k0;have S3:=Ja s3;clear s3 d0 d1 d2 d3)
  | (go_at_call 33;refine Jqa (HMK.out _ _ _ S3.out) ?_;rintro e w4 ⟨rfl,F4,s4⟩;have S4:=Ja s4;clear s4)
  | fail)
 generalize w.heap.size=q at *
 have HS:Hid (∀ (W:World) (T:List Th),Sep w0 r W T->blk q (Zs n b m (.slice ao n cap))∈T->W.cell? ⟨q,1,none⟩=some (.int .i64 b)):=fun W T s h=>(s.bootCells h).2.1
 have HADD:Hid (∀ (W:World) (T:List Th) (Y2:Ly),Sep w0 r W (kT p Y2 { Go.Proofs.YtbfjjpdnoalojaaGreatDoor.kr0 n with S:=Sl.Zq [] 6 }::T)->Calls Tryz.prog 35 #[.pointer (some ⟨p,4,none⟩),.agg #[.int .u64 0,.int .i64 b,.int .u64 0]] W fun e w'=>e=.returned (.int .i64 0)/\∃ Y3,Sep w0 r w' (kT p Y3 (kr1 n b (Th.Vu n))::T)):=fun W T Y2 s=>by
  refine Jqa (Jkm s ⟨0,b,0⟩ (by show(0:Nat)<=_;omega)) ?_
  rintro e w' ⟨rfl,v,h⟩
  exact⟨rfl,_,h⟩
 go_cut [7] from 29 to 39 (fun s7 wx=>∃ v Y5,s7=v/\Sep w0 r wx (kT p Y5 (kr1 n b (Th.Vu n))::Jv Uj v [(2,0),(1,0)]::blk q (Zs n b m (.slice ao n cap))::Ta.Xa (.slice ao n cap) Q::R))
 case first =>
  have SC:=Ja S4.out.drew
  have hS:=HS.out _ _ SC.out (by simp)
  go_region_held3 (fun W=>W.cell? ⟨q,1,none⟩=some (.int .i64 b)) (first|with_reducible assumption|with_reducible exact hS) (first
   | (go_at_call 34;refine Jqa (X8 _ _ _) ?_;rintro e w6 ⟨rfl,b6⟩;have sx:=SC.out.below b6;have hSx:=HS.out _ _ sx (by simp);have hSa:=HS.out _ _ (sx.box (.cells #[.int .i64 2,.int .i64 0,.int .i64 7,.int .u64 0,.int .u64 0,.int .i64 0,.int .i64 1,.int .i64 0,.int .i64 7,.int .u64 0,.int .u64 0,.int .i64 0] 82)) (by simp);have SC:=Ja sx;clear sx b6;simp only[EF])
   | (go_at_call 35;refine Jqa (HADD.out _ _ _ SC.out) ?_;rintro e w7 ⟨rfl,Y7,s7⟩;have hS7:=HS.out _ _ s7 (by simp);have SC:=Ja s7;clear s7))
  all_goals go_wp2_with fail
  all_goals go_meet
  all_goals exact⟨_,_,rfl,(Sep.lit (E:=Uj) Jlh SC.out [(2,0),(1,0)] (by simp) #[.int .i64 2,.int .i64 0,.int .i64 7,.int .u64 0,.int .u64 0,.int .i64 0,.int .i64 1,.int .i64 0,.int .i64 7,.int .u64 0,.int .u64 0,.int .i64 0] rfl).swap⟩
 case rest =>
  obtain⟨v7,Y5,rfl,s8⟩:=hcut
  have S8:=Ja s8
  have c3:=(s8.bootCells (q:=q) (n:=n) (b:=b) (m:=m) (v:=.slice ao n cap) (by simp)).2.2.2
  clear s8 S1 S2 S3 S4 HADD HBT2 HS HW
  have HP:Hid (∀ p∈Q,0<=p/\p<256):=HPQ
  go_wp2_with fail
  go_loopw [7,8,9,43] (fun s7 _ _ s43 wr=>∃ (j:Nat) (Y':Ly),j<=n/\s43=.int .i64 j/\Sep w0 r wr (kT p Y' (kr1 n b (UZ (Th.Vu n) 0 (Q.take j)))::Jv Uj s7 ([(2,0),(1,0)]++thL 0 j)::blk q (Zs n b m (.slice ao n cap))::Ta.Xa (.slice ao n cap) Q::R)) (fun _ _ _ s43 _=>n - (intOf s43).toNat)
  case atStart=>exact⟨0,_,Jqp _,rfl,S8.out⟩
  case round =>
   clear S8 c3
   obtain⟨j,Y',hj,rfl,s2⟩:=hrel
   by_cases hlt:j<n
   ·have hltz:(j:Int)<(n:Int):=by omega
    have hQn:=HN.out.1
    obtain⟨x,hx⟩:∃ x,Q[j]? = some x:=⟨_,Jqc (by omega)⟩
    obtain⟨g,rfl,hc⟩:=s2.listAt Ta.okI (ao:=ao) (n:=n) (cap:=cap) (A:=Q) (by simp) hx
    have d0:=hc 0 (.int .i64 x) rfl
    rw[show Ta.Ui.k=1 from rfl,Nat.mul_one,Nat.add_zero] at d0
    have hxp:=HP.out x (Jqi hx)
    obtain⟨hl1,hl2⟩:=GX (n:=n) (by have:=HN.out.2.1;omega) (Q.take j) (h:=Th.Vu n) (i:=0) rfl (by simp[Th.Vu]) (by rw[List.length_take];omega) (fun p hp=>HP.out p (List.mem_of_mem_take hp))
    rw[List.length_take,Nat.zero_add,Nat.min_eq_left (by omega)] at hl1
    have hmk:=(Jfg hl1 hl2 hlt (by have:=HN.out.2.1;omega) hxp).2
    have hmore:UZ (Th.Vu n) 0 (Q.take (j+1))=Am (UZ (Th.Vu n) 0 (Q.take j)) x (j:Int):=by
     obtain⟨hjl,e⟩:=Jqb.1 hx
     rw[List.take_succ_eq_append_getElem hjl,e,GW,List.length_take,Nat.zero_add,Nat.min_eq_left (by omega)]
    have hbg:=Jf5 s2 HT.out x (j:Int)
    rw[show Th.JW (kr1 n b (UZ (Th.Vu n) 0 (Q.take j))).h x (j:Int)=(j:Int) from hmk] at hbg
    have HBG:Hid (Calls Tryz.prog 36 #[Je p,.int .i64 x,.int .i64 (j:Int)] wr fun e w'=>e=.returned (.int .i64 (j:Int))/\KS w0 r w' p (kr1 n b (UZ (Th.Vu n) 0 (Q.take (j+1)))) (Jv Uj u7 ([(2,0),(1,0)]++thL 0 j)::blk q (Zs n b m (.slice (some ⟨g,0,none⟩) n cap))::Ta.Xa (.slice (some ⟨g,0,none⟩) n cap) Q::R)):=by
     rw[hmore]
     exact hbg
    obtain⟨RL,hRL⟩:∃ RL,[((2:Int),(0:Int)),(1,0)]++thL 0 j=RL:=⟨_,rfl⟩
    have HL7:Hid (RL.length<=1000):=by
     show RL.length<=1000
     rw[<- hRL,List.length_append,Jf0]
     have:=HN.out.2.1
     simp
     omega
    rw[hRL] at HBG s2
    have HRL:=Ja hRL
    clear hRL
    obtain⟨a7,c7,rfl⟩:=s2.listIs (E:=Uj) (v:=u7) (A:=RL) (by simp)
    have HJ:=Ja hlt
    clear s2 hc hx hlt hbg hmk hmore hl1 hl2 hQn hxp
    generalize hl7:RL.length=l7 at *
    have HLL:=Ja hl7
    clear hl7
    have hwj:IntKind.i64.wrap ((j:Int)+1)=(j:Int)+1:=by have h1:=HN.out.2.1;have h2:=HJ.out;rw[IntKind.wrap_i64];omega
    go_wp2_with (first
     | (go_at_call 36;refine Jqa HBG.out ?_;rintro e w6 ⟨rfl,Y6,s6⟩;have S6:=Ja s6;clear s6)
     | (go_at_call 34;refine Jqa (X8 _ _ _) ?_;rintro e w7 ⟨rfl,b7⟩;obtain⟨v8,w8,r8,s8⟩:=Sep.more Jlh ((S6.out.below b7).swap) 100 (3,(j:Int)) (C:=#[.int .i64 3,.int .i64 (j:Int),.int .i64 7,.int .u64 0,.int .u64 0,.int .i64 0]) rfl (by have h1:=HL7.out;have h2:=HLL.out;omega);simp only[Uj] at r8;have R8:=Ja r8;have S8:=Ja s8;clear b7 r8 s8;simp only[EF])
     | (at_builtin;refine Jd rfl _ _ _ _ rfl _ _ _ _ rfl rfl R8.out ?_)
     | fail)
    go_roundw
    case rel=>exact⟨j+1,Y6,by have:=HJ.out;omega,rfl,by rw[Jmx,Nat.zero_add,<- List.append_assoc,HRL.out];exact S8.out.swap⟩
    case measure=>simp[intOf];have:=HJ.out;omega
   ·have hltz:¬ (j:Int)<(n:Int):=by omega
    obtain rfl:j=n:=by omega
    have hQn:=HN.out.1
    rw[show Q.take j=Q by rw[<- hQn,List.take_length]] at s2
    have hd2:=(s2.bootCells (q:=q) (n:=(j:Int)) (b:=b) (m:=m) (v:=.slice ao j cap) (by simp)).2.2.1
    obtain⟨RL,hRL⟩:∃ RL,[((2:Int),(0:Int)),(1,0)]++thL 0 j=RL:=⟨_,rfl⟩
    have HL7:Hid (RL.length<=1000):=by
     show RL.length<=1000
     rw[<- hRL,List.length_append,Jf0]
     have:=HN.out.2.1
     simp
     omega
    rw[hRL] at s2
    have HRL:=Ja hRL
    clear hRL
    obtain⟨a7,c7,rfl⟩:=s2.listIs (E:=Uj) (v:=u7) (A:=RL) (by simp)
    have SC:=Ja s2.drew
    have HADD:Hid (∀ (W:World) (T:List Th) (Y2:Ly) (q2:Nat) (v2:Nat->Option Nat),Sep w0 r W (Ta.UA q2 v2 Ta.FN::kT p Y2 (kr1 j b (UZ (Th.Vu j) 0 Q))::T)->Calls Tryz.prog 37 #[.pointer (some ⟨p,7,none⟩),Je q2] W fun e w'=>e=.returned (.int .i64 0)/\∃ Y3,Sep w0 r w' (kT p Y3 (ED j b Q)::T)):=fun W T Y2 q2 v2 s=>by
     refine Jqa (Jkl s (by show(0:Nat)<=_;omega)) ?_
     rintro e w' ⟨rfl,v,h⟩
     exact⟨rfl,_,h⟩
    clear s2 hlt
    generalize hl7:RL.length=l7 at *
    have HLL:=Ja hl7
    clear hl7
    go_wp2_with fail
    go_cut [7] from 57 to 65 (fun s7 wx=>∃ v Y9,s7=v/\Sep w0 r wx (kT p Y9 (ED j b Q)::Jv Uj v (RL++[(8,0)])::blk q (Zs j b m (.slice ao j cap))::Ta.Xa (.slice ao j cap) Q::R))
    case first =>
     go_region_law (first
      | (go_simp;go_at_call 38;refine Jqa (Ta.V8 SC.out) ?_;rintro e w6 ⟨tp,tm,rfl,s6⟩;have S6:=Ja s6;clear s6)
      | (go_simp;go_at_call 37;refine Jqa (HADD.out _ _ _ _ _ S6.out) ?_;rintro e w7 ⟨rfl,Y7,s7⟩;have S7:=Ja s7;clear s7)
      | (go_simp;go_at_call 34;refine Jqa (X8 _ _ _) ?_;rintro e w8 ⟨rfl,b8⟩;obtain⟨v9,w9,r9,s9⟩:=Sep.more Jlh ((S7.out.below b8).swap) 100 (8,0) (C:=#[.int .i64 8,.int .i64 0,.int .i64 7,.int .u64 0,.int .u64 0,.int .i64 0]) rfl (by have h1:=HL7.out;have h2:=HLL.out;omega);simp only[Uj] at r9;have R9:=Ja r9;have S9:=Ja s9;clear b8 r9 s9;simp only[EF])
      | (refine Jy rfl (.tmp 57) (.tmp 64) 100 100 rfl (.slice a7 l7 c7) (.slice (some ⟨w8.heap.size,0,none⟩) 1 1) _ _ (by simp[Act.eval]) (by simp[Act.eval]) R9.out ?_))
     all_goals go_wp2_with fail
     all_goals go_meet
     all_goals exact⟨_,_,rfl,S9.out.swap⟩
    case rest =>
     obtain⟨v7,Y9,rfl,s9⟩:=hcut
     have hd3:=(s9.bootCells (q:=q) (n:=(j:Int)) (b:=b) (m:=m) (v:=.slice ao j cap) (by simp)).2.2.1
     have S9:=Ja s9
     clear s9 SC HADD hd2
     have HB2:Hid (RL++[(8,0)]++irL 0 m=XA j m):=by
      show RL++[(8,0)]++irL 0 m=XA j m
      rw[<- HRL.out]
      rfl
     obtain⟨RB,hRB⟩:∃ RB,RL++[((8:Int),(0:Int))]=RB:=⟨_,rfl⟩
     rw[hRB] at S9 HB2
     have HRB:Hid (RB.length<=1001):=by
      show RB.length<=1001
      rw[<- hRB,List.length_append]
      have h1:=HL7.out
      have h2:=HLL.out
      simp
      omega
     clear hRB
     go_wp2_with fail
     go_loopw [7,10,68] (fun s7 _ s68 wr=>∃ (i:Nat) (Y':Ly),i<=m/\s68=.int .i64 i/\Sep w0 r wr (kT p Y' (ED j b Q)::Jv Uj s7 (RB++irL 0 i)::blk q (Zs j b m (.slice ao j cap))::Ta.Xa (.slice ao j cap) Q::R)) (fun _ _ s68 _=>m - (intOf s68).toNat)
     case atStart=>exact⟨0,_,Jqp _,rfl,by rw[show irL 0 0=[] from rfl,List.append_nil];exact S9.out⟩
     case round =>
      clear S9 hd3
      obtain⟨i,Y',hi,rfl,s2⟩:=hrel
      by_cases hlt:i<m
      ·have hltz:(i:Int)<(m:Int):=by omega
       obtain⟨RI,hRI⟩:∃ RI,RB++irL 0 i=RI:=⟨_,rfl⟩
       have HL9:Hid (RI.length<=2000):=by
        show RI.length<=2000
        rw[<- hRI,List.length_append,Jod]
        have h1:=HN.out.2.2.2
        have h2:=HRB.out
        omega
       rw[hRI] at s2
       have HRI:=Ja hRI
       clear hRI
       obtain⟨a9,c9,rfl⟩:=s2.listIs (E:=Uj) (v:=u7) (A:=RI) (by simp)
       have HJ:=Ja hlt
       have S2:=Ja s2
       have hwj:IntKind.i64.wrap ((i:Int)+1)=(i:Int)+1:=by have h1:=HN.out.2.2.2;rw[IntKind.wrap_i64];omega
       clear s2 hlt
       generalize hl9:RI.length=l9 at *
       have HLL9:=Ja hl9
       clear hl9
       go_wp2_with (first
        | (go_at_call 34;refine Jqa (X8 _ _ _) ?_;rintro e w7 ⟨rfl,b7⟩;obtain⟨v8,w8,r8,s8⟩:=Sep.more Jlh ((S2.out.below b7).swap) 100 (9,(i:Int)) (C:=#[.int .i64 9,.int .i64 (i:Int),.int .i64 7,.int .u64 0,.int .u64 0,.int .i64 0]) rfl (by have h1:=HL9.out;have h2:=HLL9.out;omega);simp only[Uj] at r8;have R8:=Ja r8;have S8:=Ja s8;clear b7 r8 s8;simp only[EF])
        | (at_builtin;refine Jd rfl _ _ _ _ rfl _ _ _ _ rfl rfl R8.out ?_)
        | fail)
       go_roundw
       case rel=>exact⟨i+1,Y',by have:=HJ.out;omega,rfl,by rw[Jkj,Nat.zero_add,<- List.append_assoc,HRI.out];exact S8.out.swap⟩
       case measure=>simp[intOf];have:=HJ.out;omega
      ·have hltz:¬ (i:Int)<(m:Int):=by omega
       obtain rfl:i=m:=by omega
       rw[HB2.out] at s2
       obtain⟨a9,c9,rfl⟩:=s2.listIs (E:=Uj) (v:=u7) (A:=XA j i) (by simp)
       have SL:=Ja s2
       clear s2 hlt HB2
       generalize hz:(XA j i).length=z at *
       have HZ:=Ja hz
       have hzz:Hid (z<=19):=by
        have h1:=HN.out.2.1
        have h2:=HN.out.2.2.2
        show z<=19
        rw[<- hz,Jf8]
        omega
       clear hz
       go_wp2_with fail
       go_loopw [11,12,13,14,79] (fun _ _ _ _ s79 wr=>∃ (t:Nat) (Y':Ly),t<=z/\s79=.int .i64 t/\Sep w0 r wr (kT p Y' (VA (ED j b Q) ((XA j i).take t))::Jv Uj (.slice a9 z c9) (XA j i)::blk q (Zs j b i (.slice ao j cap))::Ta.Xa (.slice ao j cap) Q::R)) (fun _ _ _ _ s79 _=>z - (intOf s79).toNat)
       case atStart=>exact⟨0,_,Jqp _,rfl,SL.out⟩
       case round =>
        clear SL
        obtain⟨t,Y',htz,rfl,s2⟩:=hrel
        by_cases hlt:t<z
        ·have hltz2:(t:Int)<(z:Int):=by omega
         have hz19:=hzz.out
         obtain⟨⟨k,o⟩,hx⟩:∃ x,(XA j i)[t]? = some x:=⟨_,Jqc (by have:=HZ.out;omega)⟩
         obtain⟨g,rfl,hc⟩:=s2.listAt Jlh (ao:=a9) (n:=z) (cap:=c9) (A:=XA j i) (by simp) hx
         have d0:=hc 0 (.int .i64 k) rfl
         have d1:=hc 1 (.int .i64 o) rfl
         have d2:=hc 2 (.int .i64 7) rfl
         have d3:=hc 3 (.int .u64 0) rfl
         have d4:=hc 4 (.int .u64 0) rfl
         have d5:=hc 5 (.int .i64 0) rfl
         rw[show Uj.k=6 from rfl] at d0 d1 d2 d3 d4 d5
         rw[Nat.add_zero] at d0
         have hin:=Jjr (n:=j) (m:=i) (by have:=HN.out.2.1;omega) (by have:=HN.out.2.2.2;omega) _ (Jqi hx)
         have hmore:=Jec hx (ED j b Q)
         have h64:=Jb1 ((XA j i).take t) (Jnq j b Q)
         have hE:=Jfq ((XA j i).take t) (K:=ED j b Q) (j:=0) rfl
         rw[List.length_take,Nat.zero_add,Nat.min_eq_left (by have:=HZ.out;omega)] at hE
         obtain⟨Kt,hKt⟩:∃ Kt,VA (ED j b Q) ((XA j i).take t)=Kt:=⟨_,rfl⟩
         rw[hKt] at hmore h64 hE s2
         have hM2:VA (ED j b Q) ((XA j i).take (t+1))={ Kt with S:=Sl.ZL Kt.S ⟨0,(t:Int)⟩ ⟨k,o,7,0,0,0⟩,E:=Tr.rootS Kt.E (tr Kt.E.length) }:=by
          rw[hmore]
          unfold Xw sl
          rw[hE,F7]
         have HM:=Ja hM2
         have HE2:=Ja hE
         have H64:=Ja h64
         have HJ:=Ja hlt
         have HIN:=Ja hin
         have S3:=Ja ((s2.box (.cells #[.int .i64 k,.int .i64 o,.int .i64 7,.int .u64 0,.int .u64 0,.int .i64 0] 82)).swap)
         clear s2 hc hx hin hmore h64 hE hKt hM2 hlt
         have hwj:IntKind.i64.wrap ((t:Int)+1)=(t:Int)+1:=by have:=HJ.out;rw[IntKind.wrap_i64];omega
         go_wp2_with (first
          | (go_at_call 39;refine Jqa (Eq S3.out H64.out (n:=(t:Int)) (by omega) (by have h1:=HJ.out;have h2:=hzz.out;omega)) ?_;rintro e w5 ⟨rfl,s5⟩;have S5:=Ja ((s5.box (.cells #[.int .i64 0,.int .i64 (t:Int)] 80)).swap);clear s5)
          | fail)
         generalize wr.heap.size=xb at *
         generalize w5.heap.size=sb at *
         have HA2:Hid (∀ (W:World) (K':Kr) (T:List Th),Sep w0 r W (kT p Y' K'::blk sb (.cells #[.int .i64 0,.int .i64 (t:Int)] 80)::blk xb (.cells #[.int .i64 k,.int .i64 o,.int .i64 7,.int .u64 0,.int .u64 0,.int .i64 0] 82)::T)->W.cell? ⟨p,0,none⟩=some (Je Y'.n)/\W.cell? ⟨sb,0,none⟩=some (.int .i64 0)/\W.cell? ⟨sb,1,none⟩=some (.int .i64 (t:Int))/\W.cell? ⟨xb,0,none⟩=some (.int .i64 k)/\W.cell? ⟨xb,1,none⟩=some (.int .i64 o)/\W.cell? ⟨xb,2,none⟩=some (.int .i64 7)/\W.cell? ⟨xb,3,none⟩=some (.int .u64 0)/\W.cell? ⟨xb,4,none⟩=some (.int .u64 0)/\W.cell? ⟨xb,5,none⟩=some (.int .i64 0)):=fun W K' T s =>
          ⟨s.k0,(s.blkCell (p:=sb) (Jmc (Jms)) 0).1,(s.blkCell (p:=sb) (Jmc (Jms)) 1).1,(s.blkCell (p:=xb) (Jmc (Jmc (Jms))) 0).1,(s.blkCell (p:=xb) (Jmc (Jmc (Jms))) 1).1,(s.blkCell (p:=xb) (Jmc (Jmc (Jms))) 2).1,(s.blkCell (p:=xb) (Jmc (Jmc (Jms))) 3).1,(s.blkCell (p:=xb) (Jmc (Jmc (Jms))) 4).1,(s.blkCell (p:=xb) (Jmc (Jmc (Jms))) 5).1⟩
         have HB3:Hid (∀ (W:World) (Y2:Ly) (K':Kr) (T:List Th),Y2.t=Y'.t->Sep w0 r W (kT p Y2 K'::blk sb (.cells #[.int .i64 0,.int .i64 (t:Int)] 80)::blk xb (.cells #[.int .i64 k,.int .i64 o,.int .i64 7,.int .u64 0,.int .u64 0,.int .i64 0] 82)::T)->W.cell? ⟨p,1,none⟩=some (Je Y'.t)/\W.cell? ⟨sb,0,none⟩=some (.int .i64 0)/\W.cell? ⟨sb,1,none⟩=some (.int .i64 (t:Int))):=fun W Y2 K' T hy s =>
          ⟨by rw[<- hy];exact s.k1,(s.blkCell (p:=sb) (Jmc (Jms)) 0).1,(s.blkCell (p:=sb) (Jmc (Jms)) 1).1⟩
         have hS:=HA2.out _ _ _ S5.out.drew
         have hp:=Jq7 S5.out.drew ⟨0,(t:Int)⟩ ⟨k,o,7,0,0,0⟩ ⟨⟨by show _<=(0:Int);omega,by show(0:Int)<=_;omega⟩,⟨by show _<=(t:Int);omega,by have h1:=HJ.out;have h2:=hzz.out;show(t:Int)<=_;omega⟩⟩ (by have h:=HIN.out;exact⟨by simp only;omega,by simp only;omega,by simp only;omega,by simp only;omega,by simp only;omega,by simp only;omega⟩)
         simp only[Sl.Jh,Sl.Jg] at hp
         have HPT:=Ja hp
         clear hp
         go_region_held3 (fun W=>W.cell? ⟨p,0,none⟩=some (Je Y'.n)/\W.cell? ⟨sb,0,none⟩=some (.int .i64 0)/\W.cell? ⟨sb,1,none⟩=some (.int .i64 (t:Int))/\W.cell? ⟨xb,0,none⟩=some (.int .i64 k)/\W.cell? ⟨xb,1,none⟩=some (.int .i64 o)/\W.cell? ⟨xb,2,none⟩=some (.int .i64 7)/\W.cell? ⟨xb,3,none⟩=some (.int .u64 0)/\W.cell? ⟨xb,4,none⟩=some (.int .u64 0)/\W.cell? ⟨xb,5,none⟩=some (.int .i64 0)) (first|with_reducible assumption|with_reducible exact hS) (first|(go_at_call 40;refine Jqa HPT.out ?_;rintro e w6 ⟨rfl,s6⟩;have hS6:=HA2.out _ _ _ s6;have S6:=Ja s6;clear s6))
         clear hS hS6 HA2 S5
         go_wp2_with fail
         have hT:=HB3.out _ _ _ _ rfl S6.out.drew
         have hr2:=Joi S6.out.drew (j:=t) HE2.out (by have h1:=HJ.out;have h2:=hzz.out;omega)
         have HRT:=Ja hr2
         clear hr2
         go_region_held3 (fun W=>W.cell? ⟨p,1,none⟩=some (Je Y'.t)/\W.cell? ⟨sb,0,none⟩=some (.int .i64 0)/\W.cell? ⟨sb,1,none⟩=some (.int .i64 (t:Int))) (first|with_reducible assumption|with_reducible exact hT) (first|(go_at_call 41;refine Jqa HRT.out ?_;rintro e w7 ⟨v7,rfl,x7,s7⟩;have hT7:=HB3.out _ _ _ _ (by rfl) s7;have S7:=Ja s7.drop2.drop2;clear s7))
         clear hT hT7
         go_wp2_with fail
         go_roundw
         case rel=>exact⟨t+1,_,by have:=HJ.out;omega,rfl,by rw[HM.out];exact S7.out⟩
         case measure=>simp[intOf];have:=HJ.out;omega
        ·have hltz2:¬ (t:Int)<(z:Int):=by omega
         obtain rfl:t=z:=by omega
         rw[show(XA j i).take t=XA j i by rw[<- HZ.out,List.take_length]] at s2
         have S2:=Ja s2
         clear s2 hlt
         go_wp2_with fail
         refine bodyPost_ret (v:=.tuple #[Je p,.int .i64 0]) ?_ rfl ⟨_,rfl,_,S2.out.drop2.drop2⟩
         simp[results,Tryz.f10,go_sem]
end
structure Lt (w:World):Prop where
 u:Un.Tab w
 n:NTab w
 t:Th.Tab w
structure Kv (n m:Nat) (K:Kr):Prop where
 v:Iv n m K
 fu:Full K.S
theorem Kv.call {n m:Nat} {K K':Kr} (h:Kv n m K) (hm:m<=100000) {core:Int} {c:Cl} {t:Tl} (hB:VC c.B) (hX:doK K core c=(K',t)):Kv n (m+64) K':=by
 have h1:=h.v.call (by omega) core c hB
 have h2:=Jgk h.fu core c
 rw[hX] at h1 h2
 exact⟨h1,h2⟩
section
variable {w0 w w':World} {p n m:Nat} {Y:Ly} {K K':Kr} {R:List Th}
theorem J0t {n m:Nat} {b:Int} {Q:List Int} (hn:Q.length=n) (hB:Ao n b m Q=true):Kv n 0 (Aq n b m Q):=by
 have hB2:=hB
 unfold Ao at hB2
 simp only[Bool.and_eq_true,decide_eq_true_eq,Bool.not_eq_true'] at hB2
 obtain⟨⟨⟨⟨hn8,hb⟩,hm8⟩,-⟩,hbad⟩:=hB2
 have hQ:∀ p∈Q,0<=p/\p<256:=fun p hp=>by
  have h:=List.any_eq_false.1 hbad p hp
  unfold UY at h
  simp at h
  omega
 refine⟨Jnr (by omega) (by omega) hb (by omega) hn hQ,?_⟩
 rw[EX n b m Q hn]
 have hf:∀ (L:List (Int×Int)) {K:Kr},Full K.S->Full (VA K L).S:=by
  intro L
  induction L with
  | nil=>exact fun h=>h
  | cons x L ih=>exact fun h=>ih (K:=Xw _ x.1 x.2) (AN h _ _)
 refine hf _ ?_
 show Full (Sl.Zq [] 6)
 exact Fb (fun l hl=>by cases hl) 6
end
section
variable {w0 w w':World} {r:Nat} {R:List Th}
theorem J0q {Q:List Int} {v:Value} (s:Sep w0 r w (Ta.Xa v Q::R)) {n b m:Int} (hB:Ao n b m Q=false) :
  Calls Tryz.prog 10 #[Jgd n b m v] w fun e w'=>e=.returned (.tuple #[.pointer none,.int .i64 1])/\Sep w0 r w' (Ta.Xa v Q::R):=by
 obtain⟨ao,cap,rfl⟩:=s.listIs (E:=Ta.Ui) (v:=v) (A:=Q) (by simp)
 have S1:=Ja (s.box (Zs n b m (.slice ao Q.length cap))).swap
 obtain⟨w1,hw1⟩:∃ w1,w.alloc (Zs n b m (.slice ao Q.length cap))=w1:=⟨_,rfl⟩
 rw[hw1] at S1
 have HW:=Ja hw1
 obtain⟨e0,e1,e2,e3⟩:=S1.out.bootCells (q:=w.heap.size) (n:=n) (b:=b) (m:=m) (v:=.slice ao Q.length cap) (by simp)
 have hbt2:=MH (S1.out) n b m
 rw[hB] at hbt2
 have HBT2:=Ja hbt2
 clear hbt2 s hB hw1
 generalize Q.length=N at *
 unfold Jgd at *
 unfold Zs at *
 go_enter Tryz.func10,Tryz.ntmps10
 go_wp2_with (first
  | (rw[HW.out])
  | (go_at_call 31;refine Jqa HBT2.out ?_;rintro e w2 ⟨rfl,s2⟩;have S2:=Ja s2;clear s2 e0 e1 e2 e3)
  | fail)
 refine bodyPost_ret (v:=.tuple #[.pointer none,.int .i64 1]) ?_ rfl ⟨rfl,S2.out.drop2⟩
 simp[results,Tryz.f10,go_sem]
end
end
section
abbrev Jez:DecidableEq Tr.Sl:=fun a b =>
 if h:a.n=b.n/\a.i=b.i then .isTrue (by obtain⟨h1,h2⟩:=h;cases a;cases b;simp only at h1 h2;subst h1 h2;rfl) else .isFalse fun e=>h (by rw[e];exact⟨rfl,rfl⟩)
def Gg (K:Kr) (core:Int) (c:Cl):Kr×Tl:=@doK Jez Sl.ML Ca.Ax Ca.ML Ca.Jey K core c
def Jw2 (n:Nat) (b:Int) (m:Nat) (Q:List Int):Kr:=@Aq Jez Sl.ML n b m Q
theorem Jx6 [dT:DecidableEq Tr.Sl] [dF:∀ c:Sl.Cp,Decidable (Sl.Fine c)] [dL:∀ k:Int,Decidable (Ca.ZV k)] [dC:∀ c:Ca.Cp,Decidable (Ca.Fine c)] [dM:∀ (c:Ca.Cp) (v:Int),Decidable (Ca.JK c v)] (K:Kr) (core:Int) (c:Cl):doK K core c=Gg K core c:=by
 obtain rfl:dT=Jez:=Subsingleton.elim _ _
 obtain rfl:dF=Sl.ML:=Subsingleton.elim _ _
 obtain rfl:dL=Ca.Ax:=Subsingleton.elim _ _
 obtain rfl:dC=Ca.ML:=Subsingleton.elim _ _
 obtain rfl:dM=Ca.Jey:=Subsingleton.elim _ _
 rfl
theorem J0x [dT:DecidableEq Tr.Sl] [dF:∀ c:Sl.Cp,Decidable (Sl.Fine c)] (n:Nat) (b:Int) (m:Nat) (Q:List Int):Aq n b m Q=Jw2 n b m Q:=by
 obtain rfl:dT=Jez:=Subsingleton.elim _ _
 obtain rfl:dF=Sl.ML:=Subsingleton.elim _ _
 rfl
def cf1:Cl:=⟨0,1,20,4,0,1⟩
def cf2:Cl:=⟨1,20,21,2,7,0⟩
def cf3:Cl:=⟨9,21,0,0,0,0⟩
def cf4:Cl:=⟨4,1,0,0,0,0⟩
def cf5:Cl:=⟨18,0,0,0,0,0⟩
def cf6:Cl:=⟨0,0,0,0,0,0⟩
def cf7:Cl:=⟨6,2,0,0,0,0⟩
def cf8:Cl:=⟨17,0,0,0,0,0⟩
def Kf0:Kr:=Jw2 1 10 2 [5]
def Kf1:Kr:=(Gg Kf0 0 cf1).1
def Kf2:Kr:=(Gg Kf1 0 cf2).1
def Kf3:Kr:=(Gg Kf2 0 cf3).1
def Kf4:Kr:=(Gg Kf3 0 cf4).1
def Kf5:Kr:=(Gg Kf4 0 cf5).1
def Kf6:Kr:=(Gg Kf5 1 cf6).1
def Kf7:Kr:=(Gg Kf6 0 cf7).1
def Kf8:Kr:=(Gg Kf7 0 cf8).1
theorem f1:(Gg Kf0 0 cf1).2=⟨0,0,-1,[]⟩:=by kernel_rfl
theorem f2:(Gg Kf1 0 cf2).2=⟨0,0,-1,[]⟩:=by kernel_rfl
theorem f3:(Gg Kf2 0 cf3).2=⟨181,0,-1,[]⟩:=by kernel_rfl
theorem f4:(Gg Kf3 0 cf4).2=⟨0,2,-1,[]⟩:=by kernel_rfl
theorem f5:(Gg Kf4 0 cf5).2=⟨180,0,-1,[]⟩:=by kernel_rfl
theorem f6:(Gg Kf5 1 cf6).2=⟨182,0,-1,[]⟩:=by kernel_rfl
theorem f7:(Gg Kf6 0 cf7).2=⟨0,0,-1,[]⟩:=by kernel_rfl
theorem f8:(Gg Kf7 0 cf8).2=⟨182,0,-1,[]⟩:=by kernel_rfl
theorem fh3:(Sl.JX Kf3.S).length=8:=by kernel_rfl
theorem fh8:(Sl.JX Kf8.S).length=6:=by kernel_rfl
theorem fu6:Kf6.U[0]? = some ⟨0,10,0⟩:=by kernel_rfl
section
variable [dT:DecidableEq Tr.Sl] [dF:∀ c:Sl.Cp,Decidable (Sl.Fine c)] [dL:∀ k:Int,Decidable (Ca.ZV k)] [dC:∀ c:Ca.Cp,Decidable (Ca.Fine c)] [dM:∀ (c:Ca.Cp) (v:Int),Decidable (Ca.JK c v)]
theorem J07 {K K':Kr} {core:Int} {c:Cl} {t:Tl} (h1:(Gg K core c).1=K') (h2:(Gg K core c).2=t):doK K core c=(K',t):=by
 rw[Jx6]
 exact Prod.ext h1 h2
end
end
section
open Go.RowKit Go.Deep Go.Shelf
open Classical
section
variable {w0 w w':World} {r:Nat} {R:List Th}
theorem Js4 (w:World) (a b c a' b' c':Int) :
  (Op.equalIn 10000 70 (.agg #[.int .u64 a,.int .i64 b,.int .u64 c]) (.agg #[.int .u64 a',.int .i64 b',.int .u64 c'])).run Tryz.prog w
   = .ok (decide (a=a'/\b=b'/\c=c')) w:=by
 have u3:=Tryz.underlying3
 have a3:=Tryz.isAgg3
 have z3:=Tryz.sizeOf3
 have u4:=Tryz.underlying39
 have a4:=Tryz.isAgg39
 have z4:=Tryz.sizeOf39
 have hS:Tryz.prog.underlying 70 = some (.struct (Tryz.prog.fieldsOf 70)):=by kernel_rfl
 have hp:Tryz.prog.stoodInHeld 70 = false:=by kernel_rfl
 rw[show(10000:Nat)=9999+1 from rfl,run_equalIn_agg w 9999 70 _ _ hS hp]
 simp only[Program.fieldsOf,Tryz.underlying70]
 go_simp
 by_cases h1:a=a'<;>by_cases h2:b=b'<;>by_cases h3:c=c'<;>simp[h1,h2,h3]
theorem J0u (s:Sep w0 r w R):Calls Tryz.prog 86 #[] w fun e w'=>∃ g,e=.returned (.agg #[.int .i64 1,.int .i64 10,.int .i64 2,.slice (some ⟨g,0,none⟩) 1 1])/\Sep w0 r w' (Ta.Xa (.slice (some ⟨g,0,none⟩) 1 1) [5]::R):=by
 have s1:=s.box (.cells #[.int .i64 1,.int .i64 10,.int .i64 2,.slice (some ⟨w.heap.size+1,0,none⟩) 1 1] 24)
 have s2:=Sep.lit (E:=Ta.Ui) Ta.okI s1 [5] (by simp) #[.int .i64 5] rfl
 rw[show(w.alloc (.cells #[.int .i64 1,.int .i64 10,.int .i64 2,.slice (some ⟨w.heap.size+1,0,none⟩) 1 1] 24)).heap.size=w.heap.size+1 by simp] at s2
 have S3:=Ja s2.drop2
 clear s s1 s2
 go_enter Tryz.func86,Tryz.ntmps86
 go_wp2
 refine bodyPost_ret (v:=.agg #[.int .i64 1,.int .i64 10,.int .i64 2,.slice (some ⟨w.heap.size+1,0,none⟩) 1 1]) ?_ rfl ⟨_,rfl,S3.out⟩
 simp[results,Tryz.f86,go_sem]
theorem small (x:Int) (h:0<=x/\x<=1000):VC x:=⟨by omega,by omega⟩
end
end
end Go.Proofs.YtbfjjpdnoalojaaGreatDoor

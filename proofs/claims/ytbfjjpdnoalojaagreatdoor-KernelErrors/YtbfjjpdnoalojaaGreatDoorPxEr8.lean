/- Below: KTa; no condition. -/
import Derived.Test.YtbfjjpdnoalojaaGreatDoorPa13
import Derived.Test.YtbfjjpdnoalojaaGreatDoorPxEr1
set_option maxHeartbeats 16000000
set_option maxRecDepth 100000
namespace Go.Proofs.YtbfjjpdnoalojaaGreatDoor
namespace Ta
open Go.RowKit Go.Deep Go.Shelf
def SeeI (w:World) (ao:Option Addr) (A:List Int):Prop:=∀ i x,A[i]? = some x->∃ b o,ao=some ⟨b,o,none⟩/\b<w.heap.size/\w.cell? ⟨b,o+i,none⟩=some (.int .i64 x)
theorem SeeI.below {w w':World} {ao:Option Addr} {A:List Int} (h:SeeI w ao A) (k:Below w.heap.size w w'):SeeI w' ao A:=fun i x hx=>by
 obtain⟨b,o,e,hb,hc⟩:=h i x hx
 exact⟨b,o,e,Jrb hb k.size,(k.cell (p:=⟨b,o+i,none⟩) hb).trans hc⟩
open Go.MapKept Go.Maps
open Go.ChangeMaps (heap_setBlock_same heap_setBlock_other modify_eq_set)
section
variable {w:World} {b:Nat} {f:Int->Option Pg}
def UF (f:Int->Option Pg) (s:Int) (c:Pg):Int->Option Pg:=fun t=>if t=s then some c else f t
theorem MapIs.store (h:MapIs w b f) {s:Int} (hs:VC s) (c:Pg) :
  ∃ w',(Instr.mapUpdate 194 (.map (some b)) (Jh s) (Jg c)).run Tryz.prog w=.ok () w'/\MapIs w' b (UF f s c)/\w.grownBy w' (some b)/\w'.heap.size=w.heap.size:=by
 obtain⟨es,clock,hb,st,F⟩:=h
 obtain⟨l,hl⟩:=XX hs
 have gb:∀ o,w.grownBy (Go.ChangeMaps.setBlock w b o) (some b):=fun o=>⟨rfl,rfl,rfl,by simp[Go.ChangeMaps.setBlock],fun i _ hi=>heap_setBlock_other hb _ (fun e=>hi (by rw[e]))⟩
 rcases Zy.find w hl es.toList F.keys with ⟨h1,h2⟩|⟨j,e0,h1,h2,h3⟩
 ·refine⟨_,by simp[Instr.mapUpdate,run_underlying Tryz.underlying194,MapKept.run_getObj_map hb,Zy.check w false hl,h1,MapKept.run_setObj_map _ hb,Result.andThen];rfl,⟨es.push ⟨Jh s,Jg c,clock⟩,clock+1,heap_setBlock_same hb _,stamped_push st h2,?_,?_⟩,gb _,by simp[Go.ChangeMaps.setBlock]⟩
  ·intro e he
   simp only[Array.toList_push,List.mem_append,List.mem_singleton] at he
   rcases he with he|rfl
   ·obtain⟨t,d,ht,e1,e2,e3⟩:=F.is e he
    refine⟨t,d,ht,e1,e2,?_⟩
    have:¬ t=s:=fun q=>h2 e he (by rw[e1,q])
    simp[UF,this,e3]
   ·exact⟨s,c,hs,rfl,rfl,by simp[UF]⟩
  ·intro t d ht
   simp only[Array.toList_push,List.mem_append,List.mem_singleton]
   unfold UF at ht
   split at ht
   ·rename_i q
    cases ht
    exact⟨_,.inr rfl,by rw[q],rfl⟩
   ·obtain⟨e,he,r⟩:=F.all t d ht
    exact⟨e,.inl he,r⟩
 ·have hj:es[j]? = some e0:=by simpa using h2
  have hjl:j<es.toList.length:=(Jqb.1 h2).1
  have hkeyf:∀ e',es[j]? = some e'->({ e' with key:=Jh s,val:=Jg c }:MapEntry).key=e'.key:=fun e' he'=>by rw[hj] at he';cases he';exact h3.symm
  have hlist:(es.modify j (fun e'=>{ e' with key:=Jh s,val:=Jg c })).toList=es.toList.set j { e0 with key:=Jh s,val:=Jg c }:=by rw[Array.toList_modify,modify_eq_set _ _ _ _ h2]
  have hap:=((stamped_iff es clock).1 st).2.2
  refine⟨_,by simp[Instr.mapUpdate,run_underlying Tryz.underlying194,MapKept.run_getObj_map hb,Zy.check w false hl,h1,hj,h3,Zy.stays w hl,MapKept.run_setObj_map _ hb,Result.andThen];rfl,
   ⟨es.modify j (fun e'=>{ e' with key:=Jh s,val:=Jg c }),clock,heap_setBlock_same hb _,stamped_modify st _ _ (fun _ _=>rfl) (fun e' _ he'=>hkeyf e' he'),?_,?_⟩,gb _,by simp[Go.ChangeMaps.setBlock]⟩
  ·intro e he
   rw[hlist] at he
   obtain⟨i,hi,ex⟩:=List.getElem_of_mem he
   rw[List.getElem_set] at ex
   split at ex
   ·subst ex
    exact⟨s,c,hs,rfl,rfl,by simp[UF]⟩
   ·rename_i hne
    have hi':i<es.toList.length:=by simpa using hi
    obtain⟨t,d,ht,e1,e2,e3⟩:=F.is e (ex ▸ List.getElem_mem hi')
    refine⟨t,d,ht,e1,e2,?_⟩
    have:¬ t=s:=fun q=>by
     have a1:es.toList[i]? = some e:=by rw[List.getElem?_eq_getElem hi',ex]
     exact MR hap a1 h2 (fun h=>hne h.symm) (by rw[e1,q,h3])
    simp[UF,this,e3]
  ·intro t d ht
   rw[hlist]
   unfold UF at ht
   split at ht
   ·rename_i q
    cases ht
    exact⟨{ e0 with key:=Jh s,val:=Jg c },List.mem_iff_getElem.2 ⟨j,by simpa using hjl,by simp⟩,by rw[q],rfl⟩
   ·rename_i q
    obtain⟨e,he,r1,r2⟩:=F.all t d ht
    obtain⟨i,hi⟩:=List.getElem?_of_mem he
    refine⟨e,List.mem_iff_getElem?.2 ⟨i,?_⟩,r1,r2⟩
    rw[List.getElem?_set]
    by_cases hij:j=i
    ·subst hij
     rw[h2] at hi
     cases hi
     exact absurd (ZC (r1.symm.trans h3)) q
    ·simp[hij,hi]
end
section
variable {w:World} {b r:Nat} {f:Int->Option Pg} {A:List (Int×Pg)} {cnt:Nat}
theorem MapIs.range (h:MapIs w b f):∃ w' cnt,(Instr.range 194 (.map (some b))).run Tryz.prog w=.ok (.pointer (some ⟨w.heap.size,0,none⟩)) w'/\Ranges w' b w.heap.size f [] cnt/\w.grownBy w' none/\w'.heap.size=w.heap.size+1:=by
 have hlt:=h.lt
 obtain⟨es,clock,hb,st,F⟩:=h
 exact⟨_,_,run_range_map w _ _ _ b es clock Tryz.underlying194 hb,⟨es,clock,clock,#[],clock,(blk_alloc_lt _ _ _ hlt).trans hb,st,F,blk_alloc_new _ _,st.1,Jqd _,Jqd _,rfl,by simp,by simp⟩,World.grownBy_alloc w _ none,by simp⟩
end
end Ta
namespace Ta
open Go.RowKit Go.Deep Go.Shelf
theorem J1n (i:Int) (w:World) (h0:0<=i) (h1:i<=7):Calls Tryz.prog 322 #[.int .i64 i] w fun e w'=>e=.returned (.bool true)/\w'=w:=by
 go_enter Tryz.func322,Tryz.ntmps322
 go_wp2
 go_ret
 exact⟨rfl,rfl⟩
theorem J1v (i:Int) (w:World) (h:i<0\/7<i):Calls Tryz.prog 322 #[.int .i64 i] w fun e w'=>e=.returned (.bool false)/\w'=w:=by
 rcases h with h|h
 ·have h':¬ 0<=i:=by omega
  go_enter Tryz.func322,Tryz.ntmps322
  go_wp2
  go_ret
  exact⟨rfl,rfl⟩
 ·have h0:0<=i:=by omega
  have h':¬ i<=7:=by omega
  go_enter Tryz.func322,Tryz.ntmps322
  go_wp2
  go_ret
  exact⟨rfl,rfl⟩
section
variable {w0 w:World} {r p:Nat} {m:Nat->Option Nat} {S:Sp} {R:List Th}
theorem J45 (f:Int->Option Pg) {N i:Int} (h:N / 64=i) (c:Pg) (n:Int):Zf (UR f N (some c)) i n=UF (Zf f i) N c n:=by
 unfold Zf UR UF
 by_cases e:n=N
 ·simp[e,h]
 ·simp[e]
theorem J5v (h:SpP p m S w) (n:Int) (x:Pg):Calls Tryz.prog 240 #[Je p,.int .i64 n,.agg #[.int .i64 x.fr,.int .i64 x.rt]] w fun e w'=>e=.returned (.int .i64 (Jow S n x))/\SpP p m (Jtq S n x) w'/\Turn (fpS p m) w w':=by
 have HS:=Ja h
 have HB0:∀ a c:Int,Hid (Below w.heap.size w (w.alloc (.cells #[.int .i64 a,.int .i64 c] 182))):=fun a c=>Jb _ _
 by_cases hp:x.fr<0\/x.rt<0\/7<x.rt
 ·have hE:Jow S n x=1:=by unfold Jow;rw[if_pos (by omega)]
  have hS:Jtq S n x=S:=by unfold Jtq;rw[hE];rfl
  rw[hE,hS]
  obtain⟨a,c⟩:=x
  simp only at hp ⊢
  have HB:=HB0 a c
  clear h hE hS HB0
  by_cases ha:a<0
  ·clear hp
   go_enter Tryz.func240,Tryz.ntmps240
   go_wp2
   go_ret
   exact⟨rfl,HS.out.below HB.out,Turn.of HB.out _⟩
  ·have HR:=Ja (fun w=>J1v c w (by omega))
   clear hp
   go_enter Tryz.func240,Tryz.ntmps240
   go_wp2_with (go_at_call 322;refine Jqa (HR.out _) ?_;rintro e w' ⟨rfl,rfl⟩)
   go_ret
   exact⟨rfl,HS.out.below HB.out,Turn.of HB.out _⟩
 ·have HR:=Ja (fun w=>J1n x.rt w (by omega) (by omega))
  have ha:¬ x.fr<0:=by omega
  by_cases hn:n<0\/4096<=n
  ·have hE:Jow S n x=1:=by unfold Jow;rw[if_pos (by omega)]
   have hS:Jtq S n x=S:=by unfold Jtq;rw[hE];rfl
   rw[hE,hS]
   obtain⟨a,c⟩:=x
   simp only at ha HR ⊢
   have HB:=HB0 a c
   have HT:=Ja (fun w=>Jce (p:=p) n hn w)
   clear h hE hS HB0 hn hp
   go_enter Tryz.func240,Tryz.ntmps240
   go_wp2_with (first|(go_at_call 322;refine Jqa (HR.out _) ?_;rintro e w' ⟨rfl,rfl⟩)|(go_at_call 323;refine Jqa (HT.out _) ?_;rintro e w' ⟨rfl,rfl⟩))
   go_ret
   exact⟨rfl,HS.out.below HB.out,Turn.of HB.out _⟩
  ·obtain⟨N,rfl⟩:=Jqg (show 0<=n by omega)
   have hN:N<4096:=by omega
   have hi:N / 64<64:=by omega
   have hin:((N / 64:Nat):Int)=(N:Int) / 64:=by omega
   have his:=h.is _ hi
   have h2:=h.below (Jb w (.cells #[.int .i64 x.fr,.int .i64 x.rt] 182))
   have HT:=Ja (Eu h2 N hN)
   have hm2:=h2.maps _ hi
   have HG:=Ja (Jj6 h.good N x)
   have HE:Jow S N x=if (S.t ((N:Int) / 64)).isSome=true then (if (S.f N).isSome=true then 140 else 0) else 141:=by unfold Jow;rw[if_neg (by omega)]
   unfold Jl at his
   rw[hin] at his
   rw[<- his] at HE
   cases hm:m (N / 64) with
   | none =>
    rw[hm] at HE HT
    simp only[Option.isSome_none,Bool.false_eq_true,if_false,Jp2] at HE HT
    have hS:Jtq S N x=S:=by unfold Jtq;rw[HE];rfl
    rw[HE,hS]
    obtain⟨a,c⟩:=x
    simp only at ha HR HT ⊢
    have HB:=HB0 a c
    clear h HB0 hn hp his h2 hm2 HG HE hS hin hm
    go_enter Tryz.func240,Tryz.ntmps240
    go_wp2_with (first|(go_at_call 322;refine Jqa (HR.out _) ?_;rintro e w' ⟨rfl,rfl⟩)|(go_at_call 323;refine Jqa HT.out ?_;rintro e w' ⟨rfl,rfl⟩))
    go_ret
    exact⟨rfl,HS.out.below HB.out,Turn.of HB.out _⟩
   | some b =>
    rw[hm] at HE HT hm2
    simp only[Option.isSome_some,if_true,Jp2] at HE HT
    have hfa:Zf S.f ((N / 64:Nat):Int) (N:Int)=S.f N:=by unfold Zf;rw[if_pos hin.symm]
    have hlk:=hm2.is.look (s:=(N:Int)) (by unfold VC;omega) true
    rw[hfa] at hlk
    simp only[Jg,Jh,if_true] at hlk
    cases hf:S.f (N:Int) with
    | some y =>
     rw[hf] at HE hlk
     simp only[Option.isSome_some,Option.getD_some,if_true] at HE hlk
     have hS:Jtq S N x=S:=by unfold Jtq;rw[HE];rfl
     rw[HE,hS]
     obtain⟨a,c⟩:=x
     obtain⟨a2,c2⟩:=y
     simp only at ha HR HT hlk ⊢
     have HB:Hid (Below w.heap.size w ((w.alloc (.cells #[.int .i64 a,.int .i64 c] 182)).alloc (.cells #[.int .i64 a2,.int .i64 c2] 182))):=Below.then (Jb _ _) (Jb _ _) (by simp)
     clear h HB0 hn hp his h2 hm2 HG HE hS hin hm hfa hf
     go_enter Tryz.func240,Tryz.ntmps240
     go_wp2_with (first|(go_at_call 322;refine Jqa (HR.out _) ?_;rintro e w' ⟨rfl,rfl⟩)|(go_at_call 323;refine Jqa HT.out ?_;rintro e w' ⟨rfl,rfl⟩))
     go_ret
     exact⟨rfl,HS.out.below HB.out,Turn.of HB.out _⟩
    | none =>
     rw[hf] at HE hlk
     simp only[Option.isSome_none,Option.getD_none,Bool.false_eq_true,if_false,pg0] at HE hlk
     have hS:Jtq S N x=⟨S.t,UR S.f N (some x)⟩:=by unfold Jtq;rw[HE];rfl
     rw[hS] at HG ⊢
     rw[HE]
     obtain⟨a,c⟩:=x
     simp only at ha HR HT hlk h2 ⊢
     have bel:Below w.heap.size w ((w.alloc (.cells #[.int .i64 a,.int .i64 c] 182)).alloc (.cells #[.int .i64 0,.int .i64 0] 182)):=Below.then (Jb _ _) (Jb _ _) (by simp)
     have h4:=h.below bel
     have hm4:=h4.maps _ hi
     rw[hm] at hm4
     obtain⟨w3,hst,m3,g3,z3⟩:=hm4.is.store (s:=(N:Int)) (by unfold VC;omega) ⟨a,c⟩
     simp only[Jh,Jg] at hst
     obtain⟨h3,t3⟩:=h4.mapped hi hm m3 g3 (fun k=>J45 S.f (by omega) ⟨a,c⟩ k) (fun j k hj=>Jji S.f (by omega) _ k) HG.out
     have HK:=Ja (And.intro h3 ((Turn.of bel (fpS p m)).trans t3 (fun x hx=>.inl hx)))
     clear h HB0 hn hp his h2 hm2 HG HE hS hin hm hfa hf bel h4 hm4 m3 g3 z3 h3 t3
     go_enter Tryz.func240,Tryz.ntmps240
     go_wp2_with (first|(go_at_call 322;refine Jqa (HR.out _) ?_;rintro e w' ⟨rfl,rfl⟩)|(go_at_call 323;refine Jqa HT.out ?_;rintro e w' ⟨rfl,rfl⟩))
     go_ret
     exact⟨rfl,HK.out⟩
theorem J4t (s:Sep w0 r w (UA p m S::R)) (n:Int) (x:Pg):Calls Tryz.prog 240 #[Je p,.int .i64 n,.agg #[.int .i64 x.fr,.int .i64 x.rt]] w fun e w'=>e=.returned (.int .i64 (Jow S n x))/\Sep w0 r w' (UA p m (Jtq S n x)::R):=by
 refine Jqa (J5v s.head n x) ?_
 rintro e w' ⟨rfl,h,k⟩
 exact⟨rfl,SpP.sep s h k (Out.refl _ _)⟩
theorem J3b (s:Sep w0 r w (UA p m S::R)) (i n:Int):Calls Tryz.prog 239 #[Je p,.int .i64 i,.int .i64 n] w fun e w'=>e=.returned (.int .i64 (IS S i n))/\∃ m',Sep w0 r w' (UA p m' (IT S i n)::R):=by
 refine Jqa (J0v s.head i n) ?_
 rintro e w' ⟨rfl,m',h,k,o⟩
 exact⟨rfl,m',SpP.sep s h k o⟩
theorem J24 (s:Sep w0 r w (UA p m S::R)):Calls Tryz.prog 92 #[Je p] w fun e w'=>∃ v,e=.returned v/\Sep w0 r w' (UA p m S::AX v (Ji5 S.f)::R):=by
 refine Jqa (Jhs s.head) ?_
 rintro e w' ⟨v,rfl,k⟩
 exact⟨v,rfl,(s.join k).swap⟩
end
section
variable {w0 w:World} {r p:Nat} {m:Nat->Option Nat} {S T:Sp} {R:List Th}
theorem J5l (s:Sep w0 r w (UA p m S::R)) (i n:Int) {E:Int} (hE:IS S i n=E) (hT:IT S i n=T):Calls Tryz.prog 239 #[Je p,.int .i64 i,.int .i64 n] w fun e w'=>e=.returned (.int .i64 E)/\∃ m',Sep w0 r w' (UA p m' T::R):=by
 subst hE hT
 exact J3b s i n
theorem J5x (s:Sep w0 r w (UA p m S::R)) (n a c:Int) {E:Int} (hE:Jow S n ⟨a,c⟩=E) (hT:Jtq S n ⟨a,c⟩=T):Calls Tryz.prog 240 #[Je p,.int .i64 n,.agg #[.int .i64 a,.int .i64 c]] w fun e w'=>e=.returned (.int .i64 E)/\Sep w0 r w' (UA p m T::R):=by
 subst hE hT
 exact J4t s n ⟨a,c⟩
theorem J5i (s:Sep w0 r w (UA p m S::R)) {L:List La} (hL:Ji5 S.f=L):Calls Tryz.prog 92 #[Je p] w fun e w'=>∃ v,e=.returned v/\Sep w0 r w' (UA p m S::AX v L::R):=by
 subst hL
 exact J24 s
end
end Ta
namespace Ta
open Go.ChangeShapes Go.WideShapes Go.ChangeAt Go.RowKit Go.Joins Go.Deep
def SeeK {α:Type} (k:Nat) (enc:α->List Value) (P:α->Prop) (W:World) (ao:Option Addr) (X:List α):Prop:=
 ∀ i x,X[i]? = some x->P x/\∃ b o,ao=some ⟨b,o,none⟩/\b<W.heap.size/\∀ j v,(enc x)[j]? = some v->W.cell? ⟨b,o+i*k+j,none⟩=some v
theorem SeeK.below {α:Type} {k:Nat} {enc:α->List Value} {P:α->Prop} {W W':World} {ao:Option Addr} {X:List α} {r:Nat} (h:SeeK k enc P W ao X) (hb:Below r W W') (hr:W.heap.size<=r):SeeK k enc P W' ao X:=fun i x hx=>by
 obtain⟨h1,b,o,e,hlt,hc⟩:=h i x hx
 exact⟨h1,b,o,e,Jrb hlt hb.size,fun j v hj=>(hb.cell (p:=⟨b,o+i*k+j,none⟩) (by simp only;omega)).trans (hc j v hj)⟩
end Ta
end Go.Proofs.YtbfjjpdnoalojaaGreatDoor

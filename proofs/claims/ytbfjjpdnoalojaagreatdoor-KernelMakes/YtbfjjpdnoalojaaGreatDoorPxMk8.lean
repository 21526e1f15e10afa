/- Below: KrMakes KSame GMask KBgM; no condition. -/
import Derived.Test.YtbfjjpdnoalojaaGreatDoorPxMk5
set_option maxHeartbeats 16000000
set_option maxRecDepth 100000
namespace Go.Proofs.YtbfjjpdnoalojaaGreatDoor
section
theorem J1s:((List.range 32).all fun w=>J09 4 1 (w+10))=true:=by kernel_rfl
theorem J1t:((List.range 32).all fun w=>J09 4 2 (w+10))=true:=by kernel_rfl
theorem J1u:((List.range 32).all fun w=>J09 4 3 (w+10))=true:=by kernel_rfl
theorem J1v:((List.range 32).all fun w=>J09 4 4 (w+10))=true:=by kernel_rfl
theorem J1w:((List.range 32).all fun w=>J09 4 5 (w+10))=true:=by kernel_rfl
theorem J1x:((List.range 32).all fun w=>J09 4 6 (w+10))=true:=by kernel_rfl
theorem J1y:((List.range 32).all fun w=>J09 4 7 (w+10))=true:=by kernel_rfl
theorem J1z:((List.range 32).all fun w=>J09 4 8 (w+10))=true:=by kernel_rfl
theorem J27 (m w:Nat) (hm:m<8) (hw:w<32):J09 4 (m+1) (w+10)=true:=by
 have h:=List.mem_range.2 hw
 rcases(by omega:m=0\/m=1\/m=2\/m=3\/m=4\/m=5\/m=6\/m=7) with rfl|rfl|rfl|rfl|rfl|rfl|rfl|rfl
 ·exact List.all_eq_true.1 J1s w h
 ·exact List.all_eq_true.1 J1t w h
 ·exact List.all_eq_true.1 J1u w h
 ·exact List.all_eq_true.1 J1v w h
 ·exact List.all_eq_true.1 J1w w h
 ·exact List.all_eq_true.1 J1x w h
 ·exact List.all_eq_true.1 J1y w h
 ·exact List.all_eq_true.1 J1z w h
theorem J10:((List.range 32).all fun w=>J09 5 1 (w+10))=true:=by kernel_rfl
theorem J11:((List.range 32).all fun w=>J09 5 2 (w+10))=true:=by kernel_rfl
theorem J12:((List.range 32).all fun w=>J09 5 3 (w+10))=true:=by kernel_rfl
theorem J13:((List.range 32).all fun w=>J09 5 4 (w+10))=true:=by kernel_rfl
theorem J14:((List.range 32).all fun w=>J09 5 5 (w+10))=true:=by kernel_rfl
theorem J15:((List.range 32).all fun w=>J09 5 6 (w+10))=true:=by kernel_rfl
theorem J16:((List.range 32).all fun w=>J09 5 7 (w+10))=true:=by kernel_rfl
theorem J17:((List.range 32).all fun w=>J09 5 8 (w+10))=true:=by kernel_rfl
theorem J28 (m w:Nat) (hm:m<8) (hw:w<32):J09 5 (m+1) (w+10)=true:=by
 have h:=List.mem_range.2 hw
 rcases(by omega:m=0\/m=1\/m=2\/m=3\/m=4\/m=5\/m=6\/m=7) with rfl|rfl|rfl|rfl|rfl|rfl|rfl|rfl
 ·exact List.all_eq_true.1 J10 w h
 ·exact List.all_eq_true.1 J11 w h
 ·exact List.all_eq_true.1 J12 w h
 ·exact List.all_eq_true.1 J13 w h
 ·exact List.all_eq_true.1 J14 w h
 ·exact List.all_eq_true.1 J15 w h
 ·exact List.all_eq_true.1 J16 w h
 ·exact List.all_eq_true.1 J17 w h
theorem J18:((List.range 32).all fun w=>J09 6 1 (w+10))=true:=by kernel_rfl
theorem J19:((List.range 32).all fun w=>J09 6 2 (w+10))=true:=by kernel_rfl
theorem J2a:((List.range 32).all fun w=>J09 6 3 (w+10))=true:=by kernel_rfl
theorem J2b:((List.range 32).all fun w=>J09 6 4 (w+10))=true:=by kernel_rfl
theorem J2c:((List.range 32).all fun w=>J09 6 5 (w+10))=true:=by kernel_rfl
theorem J2d:((List.range 32).all fun w=>J09 6 6 (w+10))=true:=by kernel_rfl
theorem J2e:((List.range 32).all fun w=>J09 6 7 (w+10))=true:=by kernel_rfl
theorem J2f:((List.range 32).all fun w=>J09 6 8 (w+10))=true:=by kernel_rfl
theorem J29 (m w:Nat) (hm:m<8) (hw:w<32):J09 6 (m+1) (w+10)=true:=by
 have h:=List.mem_range.2 hw
 rcases(by omega:m=0\/m=1\/m=2\/m=3\/m=4\/m=5\/m=6\/m=7) with rfl|rfl|rfl|rfl|rfl|rfl|rfl|rfl
 ·exact List.all_eq_true.1 J18 w h
 ·exact List.all_eq_true.1 J19 w h
 ·exact List.all_eq_true.1 J2a w h
 ·exact List.all_eq_true.1 J2b w h
 ·exact List.all_eq_true.1 J2c w h
 ·exact List.all_eq_true.1 J2d w h
 ·exact List.all_eq_true.1 J2e w h
 ·exact List.all_eq_true.1 J2f w h
theorem J2g:((List.range 32).all fun w=>J09 7 1 (w+10))=true:=by kernel_rfl
theorem J2h:((List.range 32).all fun w=>J09 7 2 (w+10))=true:=by kernel_rfl
theorem J2i:((List.range 32).all fun w=>J09 7 3 (w+10))=true:=by kernel_rfl
theorem J2j:((List.range 32).all fun w=>J09 7 4 (w+10))=true:=by kernel_rfl
theorem J2k:((List.range 32).all fun w=>J09 7 5 (w+10))=true:=by kernel_rfl
theorem J2l:((List.range 32).all fun w=>J09 7 6 (w+10))=true:=by kernel_rfl
theorem J2m:((List.range 32).all fun w=>J09 7 7 (w+10))=true:=by kernel_rfl
theorem J2n:((List.range 32).all fun w=>J09 7 8 (w+10))=true:=by kernel_rfl
theorem J3a (m w:Nat) (hm:m<8) (hw:w<32):J09 7 (m+1) (w+10)=true:=by
 have h:=List.mem_range.2 hw
 rcases(by omega:m=0\/m=1\/m=2\/m=3\/m=4\/m=5\/m=6\/m=7) with rfl|rfl|rfl|rfl|rfl|rfl|rfl|rfl
 ·exact List.all_eq_true.1 J2g w h
 ·exact List.all_eq_true.1 J2h w h
 ·exact List.all_eq_true.1 J2i w h
 ·exact List.all_eq_true.1 J2j w h
 ·exact List.all_eq_true.1 J2k w h
 ·exact List.all_eq_true.1 J2l w h
 ·exact List.all_eq_true.1 J2m w h
 ·exact List.all_eq_true.1 J2n w h
theorem J2o:((List.range 32).all fun w=>J09 8 1 (w+10))=true:=by kernel_rfl
theorem J2p:((List.range 32).all fun w=>J09 8 2 (w+10))=true:=by kernel_rfl
theorem J2q:((List.range 32).all fun w=>J09 8 3 (w+10))=true:=by kernel_rfl
theorem J2r:((List.range 32).all fun w=>J09 8 4 (w+10))=true:=by kernel_rfl
theorem J2s:((List.range 32).all fun w=>J09 8 5 (w+10))=true:=by kernel_rfl
theorem J2t:((List.range 32).all fun w=>J09 8 6 (w+10))=true:=by kernel_rfl
theorem J2u:((List.range 32).all fun w=>J09 8 7 (w+10))=true:=by kernel_rfl
theorem J2v:((List.range 32).all fun w=>J09 8 8 (w+10))=true:=by kernel_rfl
theorem J3b (m w:Nat) (hm:m<8) (hw:w<32):J09 8 (m+1) (w+10)=true:=by
 have h:=List.mem_range.2 hw
 rcases(by omega:m=0\/m=1\/m=2\/m=3\/m=4\/m=5\/m=6\/m=7) with rfl|rfl|rfl|rfl|rfl|rfl|rfl|rfl
 ·exact List.all_eq_true.1 J2o w h
 ·exact List.all_eq_true.1 J2p w h
 ·exact List.all_eq_true.1 J2q w h
 ·exact List.all_eq_true.1 J2r w h
 ·exact List.all_eq_true.1 J2s w h
 ·exact List.all_eq_true.1 J2t w h
 ·exact List.all_eq_true.1 J2u w h
 ·exact List.all_eq_true.1 J2v w h
theorem J1k:((List.range 32).all fun w=>J09 3 1 (w+10))=true:=by kernel_rfl
theorem J1l:((List.range 32).all fun w=>J09 3 2 (w+10))=true:=by kernel_rfl
theorem J1m:((List.range 32).all fun w=>J09 3 3 (w+10))=true:=by kernel_rfl
theorem J1n:((List.range 32).all fun w=>J09 3 4 (w+10))=true:=by kernel_rfl
theorem J1o:((List.range 32).all fun w=>J09 3 5 (w+10))=true:=by kernel_rfl
theorem J1p:((List.range 32).all fun w=>J09 3 6 (w+10))=true:=by kernel_rfl
theorem J1q:((List.range 32).all fun w=>J09 3 7 (w+10))=true:=by kernel_rfl
theorem J1r:((List.range 32).all fun w=>J09 3 8 (w+10))=true:=by kernel_rfl
theorem J26 (m w:Nat) (hm:m<8) (hw:w<32):J09 3 (m+1) (w+10)=true:=by
 have h:=List.mem_range.2 hw
 rcases(by omega:m=0\/m=1\/m=2\/m=3\/m=4\/m=5\/m=6\/m=7) with rfl|rfl|rfl|rfl|rfl|rfl|rfl|rfl
 ·exact List.all_eq_true.1 J1k w h
 ·exact List.all_eq_true.1 J1l w h
 ·exact List.all_eq_true.1 J1m w h
 ·exact List.all_eq_true.1 J1n w h
 ·exact List.all_eq_true.1 J1o w h
 ·exact List.all_eq_true.1 J1p w h
 ·exact List.all_eq_true.1 J1q w h
 ·exact List.all_eq_true.1 J1r w h
open Go.RowKit Go.Deep Go.Shelf
def SeeC {α:Type} (k:Nat) (enc:α->List Value) (W:World) (ao:Option Addr) (A:List α):Prop:=∀ i x,A[i]? = some x->∃ g,ao=some ⟨g,0,none⟩/\∀ j c,(enc x)[j]? = some c->W.cell? ⟨g,i*k+j,none⟩=some c
theorem SeeC.of {α:Type} {E:El α} (ok:El.Ok E) {w0 w:World} {r n cap:Nat} {R:List Th} {ao:Option Addr} {A:List α} (s:Sep w0 r w R) (hm:Jv E (.slice ao n cap) A∈R):SeeC E.k E.enc w ao A:=fun _ _ hk=>s.listAt ok hm hk
theorem SeeC.head {α:Type} {k:Nat} {enc:α->List Value} {W:World} {ao:Option Addr} {A B:List α} (h:SeeC k enc W ao (A++B)):SeeC k enc W ao A:=fun i x hx=>h i x (by rw[List.getElem?_append_left (List.getElem?_eq_some_iff.1 hx).1];exact hx)
theorem J3k (d:Nat) (w:World) (a b a' b':Int):(Op.equalIn (d+2) 80 (.agg #[.int .i64 a,.int .i64 b]) (.agg #[.int .i64 a',.int .i64 b'])).run Tryz.prog w=.ok (decide (a=a'/\b=b')) w:=by
 have u3:=Tryz.underlying3
 have a3:=Tryz.isAgg3
 have z3:=Tryz.sizeOf3
 have hS:Tryz.prog.underlying 80 = some (.struct (Tryz.prog.fieldsOf 80)):=by kernel_rfl
 have hp:Tryz.prog.stoodInHeld 80 = false:=by kernel_rfl
 rw[run_equalIn_agg w (d+1) 80 _ _ hS hp]
 simp only[Program.fieldsOf,Tryz.underlying80]
 go_simp
 by_cases h1:a=a'<;>by_cases h2:b=b'<;>simp[h1,h2]
theorem J3j (d:Nat) (w:World) (k o r b g z k' o' r' b' g' z':Int):(Op.equalIn (d+2) 82 (.agg #[.int .i64 k,.int .i64 o,.int .i64 r,.int .u64 b,.int .u64 g,.int .i64 z]) (.agg #[.int .i64 k',.int .i64 o',.int .i64 r',.int .u64 b',.int .u64 g',.int .i64 z'])).run Tryz.prog w=.ok (decide (k=k'/\o=o'/\r=r'/\b=b'/\g=g'/\z=z')) w:=by
 have u3:=Tryz.underlying3
 have u4:=Tryz.underlying39
 have a3:=Tryz.isAgg3
 have a4:=Tryz.isAgg39
 have z3:=Tryz.sizeOf3
 have z4:=Tryz.sizeOf39
 have hS:Tryz.prog.underlying 82 = some (.struct (Tryz.prog.fieldsOf 82)):=by kernel_rfl
 have hp:Tryz.prog.stoodInHeld 82 = false:=by kernel_rfl
 rw[run_equalIn_agg w (d+1) 82 _ _ hS hp]
 simp only[Program.fieldsOf,Tryz.underlying82]
 go_simp
 by_cases h1:k=k'<;>by_cases h2:o=o'<;>by_cases h3:r=r'<;>by_cases h4:b=b'<;>by_cases h5:g=g'<;>by_cases h6:z=z'<;>simp[h1,h2,h3,h4,h5,h6]
theorem J20 (w:World) (n i k o r b g z n' i' k' o' r' b' g' z':Int):(Op.equalIn 10000 84 (.agg #[.int .i64 n,.int .i64 i,.int .i64 k,.int .i64 o,.int .i64 r,.int .u64 b,.int .u64 g,.int .i64 z]) (.agg #[.int .i64 n',.int .i64 i',.int .i64 k',.int .i64 o',.int .i64 r',.int .u64 b',.int .u64 g',.int .i64 z'])).run Tryz.prog w=.ok (decide (n=n'/\i=i') && decide (k=k'/\o=o'/\r=r'/\b=b'/\g=g'/\z=z')) w:=by
 have a1:=Tryz.isAgg80
 have a2:=Tryz.isAgg82
 have z1:=Tryz.sizeOf80
 have z2:=Tryz.sizeOf82
 have hS:Tryz.prog.underlying 84 = some (.struct (Tryz.prog.fieldsOf 84)):=by kernel_rfl
 have hp:Tryz.prog.stoodInHeld 84 = false:=by kernel_rfl
 have e1:=fun W=>J3k 9997 W n i n' i'
 have e2:=fun W=>J3j 9997 W k o r b g z k' o' r' b' g' z'
 generalize decide (n=n'/\i=i')=p at *
 generalize decide (k=k'/\o=o'/\r=r'/\b=b'/\g=g'/\z=z')=q at *
 rw[show(10000:Nat)=9999+1 from rfl,run_equalIn_agg w 9999 84 _ _ hS hp]
 simp only[Program.fieldsOf,Tryz.underlying84]
 go_simp
 cases p<;>cases q<;>rfl
theorem J2z (w:World) (x:Sl.Sl×Sl.Cp):(Op.equalIn 10000 84 (.agg #[.int .i64 x.1.n,.int .i64 x.1.i,.int .i64 x.2.k,.int .i64 x.2.o,.int .i64 x.2.r,.int .u64 x.2.b,.int .u64 x.2.g,.int .i64 x.2.z]) (.agg #[.int .i64 x.1.n,.int .i64 x.1.i,.int .i64 x.2.k,.int .i64 x.2.o,.int .i64 x.2.r,.int .u64 x.2.b,.int .u64 x.2.g,.int .i64 x.2.z])).run Tryz.prog w=.ok true w:=by
 rw[J20,decide_eq_true ⟨rfl,rfl⟩,decide_eq_true ⟨rfl,rfl,rfl,rfl,rfl,rfl⟩]
 rfl
theorem J1h (w:World) (ao ao':Option Addr) (cap cap':Nat) (A:List (Sl.Sl×Sl.Cp)) (h:SeeC 8 Sl.Vs w ao A) (h':SeeC 8 Sl.Vs w ao' A) (hl:A.length<=1000000) :
  Calls Tryz.prog 28 #[.slice ao A.length cap,.slice ao' A.length cap'] w fun e w'=>e=.returned (.bool true)/\Below w.heap.size w w':=by
 have H1:=Ja h
 have H2:=Ja h'
 clear h h'
 have hl':(A.length:Int)<=1000000:=by omega
 have hne:((A.length:Int) != (A.length:Int))=false:=by simp
 go_enter Tryz.func28,Tryz.ntmps28
 go_wp2
 go_loopw [5] (fun i wr=>∃ k j:Nat,k<=A.length/\i=.int .i64 k/\wr=w.drewN j) (fun i _=>A.length - (intOf i).toNat)
 case atStart=>exact⟨0,0,Jqp _,rfl,rfl⟩
 case round =>
  obtain⟨k,j,hk,rfl,rfl⟩:=hrel
  by_cases hlt:k<A.length
  ·obtain⟨x,hx⟩:∃ x,A[k]? = some x:=⟨_,Jqc hlt⟩
   obtain⟨g,rfl,c⟩:=H1.out k x hx
   obtain⟨g',rfl,d⟩:=H2.out k x hx
   have c0:w.cell? ⟨g,k*8,none⟩=some (.int .i64 x.1.n):=c 0 _ rfl
   have d0:w.cell? ⟨g',k*8,none⟩=some (.int .i64 x.1.n):=d 0 _ rfl
   have c1:w.cell? ⟨g,k*8+1,none⟩=some (.int .i64 x.1.i):=c 1 _ rfl
   have d1:w.cell? ⟨g',k*8+1,none⟩=some (.int .i64 x.1.i):=d 1 _ rfl
   have c2:w.cell? ⟨g,k*8+2,none⟩=some (.int .i64 x.2.k):=c 2 _ rfl
   have d2:w.cell? ⟨g',k*8+2,none⟩=some (.int .i64 x.2.k):=d 2 _ rfl
   have c3:w.cell? ⟨g,k*8+3,none⟩=some (.int .i64 x.2.o):=c 3 _ rfl
   have d3:w.cell? ⟨g',k*8+3,none⟩=some (.int .i64 x.2.o):=d 3 _ rfl
   have c4:w.cell? ⟨g,k*8+4,none⟩=some (.int .i64 x.2.r):=c 4 _ rfl
   have d4:w.cell? ⟨g',k*8+4,none⟩=some (.int .i64 x.2.r):=d 4 _ rfl
   have c5:w.cell? ⟨g,k*8+5,none⟩=some (.int .u64 x.2.b):=c 5 _ rfl
   have d5:w.cell? ⟨g',k*8+5,none⟩=some (.int .u64 x.2.b):=d 5 _ rfl
   have c6:w.cell? ⟨g,k*8+6,none⟩=some (.int .u64 x.2.g):=c 6 _ rfl
   have d6:w.cell? ⟨g',k*8+6,none⟩=some (.int .u64 x.2.g):=d 6 _ rfl
   have c7:w.cell? ⟨g,k*8+7,none⟩=some (.int .i64 x.2.z):=c 7 _ rfl
   have d7:w.cell? ⟨g',k*8+7,none⟩=some (.int .i64 x.2.z):=d 7 _ rfl
   clear c d
   have HQ:=fun W=>J2z W x
   have hlt':(k:Int)<(A.length:Int):=by omega
   have HL:Hid (k<A.length):=hlt
   clear hlt hk hx H1 H2
   generalize hAl:A.length=n at *
   have HA:Hid (A.length=n):=hAl
   clear hAl
   go_wp2
   go_quiet (fail)
   go_wp2
   go_roundw
   case rel=>exact⟨k+1,_,HL.out,by go_num,rfl⟩
   case measure=>simp[intOf];have:=HL.out;omega
  ·have hlt':¬ ((k:Int)<(A.length:Int)):=by omega
   clear hlt hk
   go_wp2
   go_ret
   exact⟨rfl,⟨rfl,rfl,rfl,Jqd _,fun _ _=>rfl⟩⟩
theorem J21 (x:Int) (m:Nat) (hm:m<=62):bits .and .i64 x ((2 ^ m - 1:Nat):Int)=x % ((2 ^ m:Nat):Int):=by
 have hp:=Nat.two_pow_pos m
 have hq:2 ^ m<=2 ^ 62:=Nat.pow_le_pow_right (by omega) hm
 show IntKind.i64.wrap ((BitVec.ofInt 64 x &&& BitVec.ofInt 64 ((2 ^ m - 1:Nat):Int)).toNat:Int)=_
 rw[BitVec.toNat_and,ofInt_u64 (2 ^ m - 1) (by omega),Nat.and_two_pow_sub_one_eq_mod,BitVec.toNat_ofInt]
 have e:(((x % ((2 ^ 64:Nat):Int)).toNat % 2 ^ m:Nat):Int)=x % ((2 ^ m:Nat):Int):=by
  rw[Int.natCast_emod,Int.toNat_of_nonneg (Int.emod_nonneg _ (by decide))]
  apply Int.emod_emod_of_dvd
  exact Int.natCast_dvd_natCast.2 (Nat.pow_dvd_pow 2 (by omega))
 rw[e]
 have h1:0<=x % ((2 ^ m:Nat):Int):=Int.emod_nonneg _ (by omega)
 have h2:x % ((2 ^ m:Nat):Int)<((2 ^ m:Nat):Int):=Int.emod_lt_of_pos _ (by omega)
 generalize x % ((2 ^ m:Nat):Int)=y at *
 generalize 2 ^ m=p at *
 have hy:y % (2:Int) ^ 64=y:=Int.emod_eq_of_lt h1 (by omega)
 simp only[IntKind.wrap,IntKind.bits,IntKind.signed,hy]
 rw[if_neg]
 simp
 omega
theorem J1f (x:Int) (m:Nat) (hm:m<=62):∃ p:Nat,p<2 ^ m/\bits .and .i64 x ((2 ^ m - 1:Nat):Int)=(p:Int):=by
 have hp:(0:Int)<((2 ^ m:Nat):Int):=by
  have:=Nat.two_pow_pos m
  omega
 have h0:0<=x % ((2 ^ m:Nat):Int):=Int.emod_nonneg _ (by omega)
 have h1:x % ((2 ^ m:Nat):Int)<((2 ^ m:Nat):Int):=Int.emod_lt_of_pos _ hp
 exact⟨(x % ((2 ^ m:Nat):Int)).toNat,by omega,by rw[J21 x m hm];omega⟩
theorem J3m (x:Int):∃ p:Nat,p<8/\bits .and .i64 x 7=(p:Int):=J1f x 3 (by decide)
theorem J3c (x:Int):∃ p:Nat,p<65536/\bits .and .i64 x 65535=(p:Int):=J1f x 16 (by decide)
theorem J3e (k:Nat) (d:Int) (hd:0<d):∃ n:Nat,(n:Int)<d/\(k:Int) % d=(n:Int):=by
 have h1:0<=(k:Int) % d:=Int.emod_nonneg _ (by omega)
 have h2:(k:Int) % d<d:=Int.emod_lt_of_pos _ hd
 exact⟨((k:Int) % d).toNat,by omega,by omega⟩
section
variable {α:Type} {a b c d e f g:α} {l:List α}
theorem mm0:a∈a::l:=Jms
theorem mm1:b∈a::b::l:=Jmc mm0
theorem mm2:c∈a::b::c::l:=Jmc mm1
theorem mm3:d∈a::b::c::d::l:=Jmc mm2
theorem mm4:e∈a::b::c::d::e::l:=Jmc mm3
theorem mm5:f∈a::b::c::d::e::f::l:=Jmc mm4
end
end
end Go.Proofs.YtbfjjpdnoalojaaGreatDoor

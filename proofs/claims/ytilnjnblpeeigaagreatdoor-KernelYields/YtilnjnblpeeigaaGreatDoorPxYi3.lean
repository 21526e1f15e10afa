/-
  What stands below: KrYields GMask; no condition but what each says.
-/
import Derived.Test.YtilnjnblpeeigaaGreatDoorPb1
import Derived.Test.YtilnjnblpeeigaaGreatDoorPb2
import Derived.Test.YtilnjnblpeeigaaGreatDoorPb3
import Derived.Test.YtilnjnblpeeigaaGreatDoorPb4
import Derived.Test.YtilnjnblpeeigaaGreatDoorPb15
import Derived.Test.YtilnjnblpeeigaaGreatDoorPb16
import Derived.Test.YtilnjnblpeeigaaGreatDoorPb25
import Derived.Test.YtilnjnblpeeigaaGreatDoorPb32
import Derived.Test.YtilnjnblpeeigaaGreatDoorPxYi2
import Derived.Laws.BitsAllLaws
import Derived.Laws.BitsLemmas
import Derived.WalkKit
namespace Go.Proofs.YtilnjnblpeeigaaGreatDoor
set_option maxRecDepth 100000
theorem next_same {S:Th.St} {p:Nat} (hp:p<256) (h:∀ x∈S,x.p=p):Th.nextO S=S.head?:=by
 cases S with
 | nil=>rfl
 | cons x T =>
  have hx:x.p=p:=h x List.mem_cons_self
  have ht:Th.topS (x::T)=(p:Int):=by
   unfold Th.topS
   refine Th.topTo_of _ p ?_ 256 hp fun k h1 _=>?_
   ·unfold Th.occ
    rw [List.any_cons,hx]
    simp
   ·unfold Th.occ
    rw [List.any_eq_false]
    intro y hy
    rw [h y hy]
    simp
    omega
  unfold Th.nextO
  rw [ht,List.find?_cons_of_pos (by rw [hx];simp)]
  rfl
theorem pick_stay {h:Th.Hs} {p j:Nat} (hp:p<256) (ha:∀ x∈Th.que h 0,x.p=p) (hr:Th.runsO h 0=some j) (hj:(Th.thr h j).p=p):Th.pickH h 0=h:=by
 unfold Th.pickH
 split
 ·show (match Th.nextO (Th.que h 0) with | none=>h | some y=>match Th.runsO h 0 with | none=>Th.runH h y.n.toNat | some j=>if (Th.thr h j).p<y.p then Th.runH (Th.upH h j) y.n.toNat else h)=h
  rw [next_same hp ha,hr]
  cases hq:Th.que h 0 with
  | nil=>rfl
  | cons x T =>
   have hx:x.p=p:=ha x (by rw [hq];exact List.mem_cons_self)
   show (if (Th.thr h j).p<x.p then _ else h)=h
   rw [if_neg (by omega)]
 ·rfl
theorem pick_run {h:Th.Hs} {p:Nat} (hp:p<256) (ha:∀ x∈Th.que h 0,x.p=p) (hc:Th.isC h 0) (hr:Th.runsO h 0=none) {x:Th.In} {T:Th.St} (hq:Th.que h 0=x::T):Th.pickH h 0=Th.runH h x.n.toNat:=by
 unfold Th.pickH
 rw [if_pos hc]
 show (match Th.nextO (Th.que h 0) with | none=>h | some y=>match Th.runsO h 0 with | none=>Th.runH h y.n.toNat | some j=>if (Th.thr h j).p<y.p then Th.runH (Th.upH h j) y.n.toNat else h)=_
 rw [next_same hp ha,hr,hq]
 rfl
def Y (n p k:Nat):Th.Hs:=⟨(List.range n).map fun j=>⟨if j=k % n then 2 else 1,p,0,5,List.replicate 8 0⟩,[(List.range (n - 1)).map fun j=>⟨p,(((k+1+j) % n:Nat):Int)⟩]⟩
theorem y_all (n p k:Nat):∀ x∈Th.que (Y n p k) 0,x.p=p:=by
 intro x hx
 obtain ⟨j,_,rfl⟩:=List.mem_map.1 (show x∈(List.range (n - 1)).map fun j=>(⟨p,(((k+1+j) % n:Nat):Int)⟩:Th.In) from hx)
 rfl
theorem y_mod (n p k:Nat):Y n p k=Y n p (k % n):=by
 unfold Y
 rw [Nat.mod_mod]
 congr 2
 refine List.map_congr_left fun j _=>?_
 rw [show k+1+j=k+(1+j) by omega,show k % n+1+j=k % n+(1+j) by omega,Nat.mod_add_mod]
def Y' (n p k:Nat):Th.Hs:=⟨(List.range n).map fun _=>⟨1,p,0,5,List.replicate 8 0⟩,[(List.range n).map fun j=>⟨p,(((k+1+j) % n:Nat):Int)⟩]⟩
theorem y_yield {n p:Nat} (hp:p<256) (hn:2<=n/\n<=5) (k:Nat) (hk:k<n):Th.yieldH (Y n p k) 0=Y n p (k+1):=by
 have step:∀ h':Th.Hs,(Th.yieldH (Y n p k) 0=Th.pickH h' 0)->(∀ x∈Th.que h' 0,x.p=p)->Th.isC h' 0->Th.runsO h' 0=none->∀ x T,Th.que h' 0=x::T->Th.runH h' x.n.toNat=Y n p (k+1)->Th.yieldH (Y n p k) 0=Y n p (k+1):=fun h' e1 e2 e3 e4 x T e5 e6=>by
  rw [e1,pick_run hp e2 e3 e4 e5,e6]
 have hall:∀ x∈Th.que (Y' n p k) 0,x.p=p:=by
  intro x hx
  obtain ⟨j,_,rfl⟩:=List.mem_map.1 (show x∈(List.range n).map fun j=>(⟨p,(((k+1+j) % n:Nat):Int)⟩:Th.In) from hx)
  rfl
 have hc:Th.isC (Y' n p k) 0:=⟨Int.le_refl 0,(by decide:(0:Int)<1)⟩
 rcases (by omega:n=2\/n=3\/n=4\/n=5) with rfl | rfl | rfl | rfl
 ·rcases (by omega:k=0\/k=1) with rfl | rfl
  all_goals exact step (Y' 2 p _) (by kernel_rfl) hall hc (by kernel_rfl) _ _ rfl (by kernel_rfl)
 ·rcases (by omega:k=0\/k=1\/k=2) with rfl | rfl | rfl
  all_goals exact step (Y' 3 p _) (by kernel_rfl) hall hc (by kernel_rfl) _ _ rfl (by kernel_rfl)
 ·rcases (by omega:k=0\/k=1\/k=2\/k=3) with rfl | rfl | rfl | rfl
  all_goals exact step (Y' 4 p _) (by kernel_rfl) hall hc (by kernel_rfl) _ _ rfl (by kernel_rfl)
 ·rcases (by omega:k=0\/k=1\/k=2\/k=3\/k=4) with rfl | rfl | rfl | rfl | rfl
  all_goals exact step (Y' 5 p _) (by kernel_rfl) hall hc (by kernel_rfl) _ _ rfl (by kernel_rfl)
def Hm (m p i:Nat):Th.Hs:=⟨⟨2,p,0,5,List.replicate 8 0⟩::(List.range m).map fun j=>if j<i then ⟨1,p,0,5,List.replicate 8 0⟩ else ⟨0,0,0,5,List.replicate 8 0⟩,[(List.range i).map fun j=>⟨p,((j+1:Nat):Int)⟩]⟩
def Hn (m p i:Nat):Th.Hs:=⟨⟨2,p,0,5,List.replicate 8 0⟩::(List.range m).map fun j=>if j<i then ⟨1,p,0,5,List.replicate 8 0⟩ else if j=i then ⟨0,p,0,5,List.replicate 8 0⟩ else ⟨0,0,0,5,List.replicate 8 0⟩,[(List.range i).map fun j=>⟨p,((j+1:Nat):Int)⟩]⟩
theorem hm_all (m p i:Nat):∀ x∈Th.que (Hm m p i) 0,x.p=p:=by
 intro x hx
 obtain ⟨j,_,rfl⟩:=List.mem_map.1 (show x∈(List.range i).map fun j=>(⟨p,((j+1:Nat):Int)⟩:Th.In) from hx)
 rfl
theorem hm_pick {p:Nat} (hp:p<256) (m i:Nat):Th.pickH (Hm m p i) 0=Hm m p i:=pick_stay hp (hm_all m p i) (show Th.runsO (Hm m p i) 0=some 0 from rfl) rfl
theorem hn_pick {p:Nat} (hp:p<256) (m i:Nat):Th.pickH (Hn m p i) 0=Hn m p i:=pick_stay hp (hm_all m p i) (show Th.runsO (Hn m p i) 0=some 0 from rfl) rfl
section
def goI (K:Kr) (core:Int) (c:Cl):Kr×Tl:=
 letI:=decTr;letI:=Sl.decFine;letI:=Ca.decLim;letI:=Ca.decFine;letI:=Ca.decMint;
 if Th.runsB K.h core=true then
  (if 0<=c.q/\c.q<=17 then
   (if c.q=17 then ({ K with h:=Th.yieldH K.h core },tlE 0)
       else if mayB c (capN K c.a)=true then doesK K core (Th.runsN K.h core) c (capN K c.a)
       else (K,tlE 181))
     else (K,tlE 180))
 else (K,tlE 182)
theorem go_picked {K:Kr} {core:Int} (h:letI:=decTr;letI:=Sl.decFine;letI:=Ca.decLim;letI:=Ca.decFine;letI:=Ca.decMint;pickedK K core=K) (c:Cl):letI:=decTr;letI:=Sl.decFine;letI:=Ca.decLim;letI:=Ca.decFine;letI:=Ca.decMint;goK K core c=goI K core c:=by
 letI:=decTr
 letI:=Sl.decFine
 letI:=Ca.decLim
 letI:=Ca.decFine
 letI:=Ca.decMint
 have e:goK K core c=(if Th.runsB (pickedK K core).h core=true then (if 0<=c.q/\c.q<=17 then (if c.q=17 then ({ K with h:=Th.yieldH (pickedK K core).h core },tlE 0) else if mayB c (capN K c.a)=true then doesK (pickedK K core) core (Th.runsN (pickedK K core).h core) c (capN K c.a) else (pickedK K core,tlE 181)) else (pickedK K core,tlE 180)) else (pickedK K core,tlE 182)):=rfl
 rw [e,h]
 rfl
end
def withH (K:Kr) (h:Th.Hs):Kr:={ K with h:=h }
theorem beg_p {p:Nat} (hp:p<256):begK 1 12 0 [(p:Int)]=withH K0 (Hm 0 p 0):=by
 have e1:begK 1 12 0 [(p:Int)]=withH K0 (Th.pickH (Th.resumeH (Th.makeH (Th.newH 1) (p:Int) 0) 0) 0):=by kernel_rfl
 have e2:Th.makeE (Th.newH 1) (p:Int) 0=0:=by
  unfold Th.makeE
  rw [if_pos ⟨⟨by omega,by omega⟩,⟨by decide,by decide⟩⟩]
  rfl
 have e3:Th.makeH (Th.newH 1) (p:Int) 0=⟨[⟨0,p,0,5,List.replicate 8 0⟩],[[]]⟩:=by
  unfold Th.makeH
  rw [if_pos e2,Int.toNat_natCast]
  rfl
 have e4:Th.resumeH ⟨[⟨0,p,0,5,List.replicate 8 0⟩],[[]]⟩ 0=⟨[⟨1,p,0,5,List.replicate 8 0⟩],[[⟨p,0⟩]]⟩:=by kernel_rfl
 have e5:Th.pickH ⟨[⟨1,p,0,5,List.replicate 8 0⟩],[[⟨p,0⟩]]⟩ 0=Hm 0 p 0:=by
  have ha:∀ x∈Th.que (⟨[⟨1,p,0,5,List.replicate 8 0⟩],[[⟨p,0⟩]]⟩:Th.Hs) 0,x.p=p:=fun x hx=>by
   obtain rfl:=List.mem_singleton.1 (show x∈[(⟨p,0⟩:Th.In)] from hx)
   rfl
  have hc:Th.isC (⟨[⟨1,p,0,5,List.replicate 8 0⟩],[[⟨p,0⟩]]⟩:Th.Hs) 0:=⟨Int.le_refl 0,(by decide:(0:Int)<1)⟩
  exact (pick_run hp ha hc (by kernel_rfl) (show _=(⟨p,0⟩:Th.In)::[] from rfl)).trans (by kernel_rfl)
 rw [e1,e3,e4,e5]
def Km (m:Nat):Kr:=(goK K0 0 ⟨0,1,20,3,0,m⟩).1
theorem km_is {m:Nat} (p:Nat) (hm:1<=m/\m<=4):goK (withH K0 (Hm 0 p 0)) 0 ⟨0,1,20,3,0,m⟩=(withH (Km m) (Hm m p 0),tlE 0):=by
 rcases (by omega:m=1\/m=2\/m=3\/m=4) with rfl | rfl | rfl | rfl
 all_goals kernel_rfl
theorem prio_raw {m p:Nat} (i:Nat) (hm:1<=m/\m<=4) (hi:i<m) (hp:p<256):goK (withH (Km m) (Hm m p i)) 0 ⟨7,20+(i:Int),0,p,0,0⟩=(withH (Km m) (Th.prioH (Hm m p i) ((i:Int)+1) p),tlE (Th.prioE (Hm m p i) ((i:Int)+1) p)):=by
 have hpk:pickedK (withH (Km m) (Hm m p i)) 0=withH (Km m) (Hm m p i):=congrArg (withH (Km m)) (hm_pick hp m i)
 refine (go_picked hpk _).trans ?_
 rcases (by omega:m=1\/m=2\/m=3\/m=4) with rfl | rfl | rfl | rfl
 ·obtain rfl:i=0:=by omega
  kernel_rfl
 ·rcases (by omega:i=0\/i=1) with rfl | rfl
  all_goals kernel_rfl
 ·rcases (by omega:i=0\/i=1\/i=2) with rfl | rfl | rfl
  all_goals kernel_rfl
 ·rcases (by omega:i=0\/i=1\/i=2\/i=3) with rfl | rfl | rfl | rfl
  all_goals kernel_rfl
theorem prio_is {m p:Nat} (i:Nat) (hm:1<=m/\m<=4) (hi:i<m) (hp:p<256):goK (withH (Km m) (Hm m p i)) 0 ⟨7,20+(i:Int),0,p,0,0⟩=(withH (Km m) (Hn m p i),tlE 0):=by
 have hT:Th.isT (Hm m p i) ((i:Int)+1):=by
  unfold Th.isT Hm
  simp
  omega
 have e:Th.prioE (Hm m p i) ((i:Int)+1) p=0:=by
  unfold Th.prioE
  rw [if_pos hT,if_pos ⟨by omega,by omega⟩]
 have e2:Th.prioH (Hm m p i) ((i:Int)+1) p=Hn m p i:=by
  unfold Th.prioH
  rw [if_pos e,Int.toNat_natCast]
  rcases (by omega:m=1\/m=2\/m=3\/m=4) with rfl | rfl | rfl | rfl
  ·obtain rfl:i=0:=by omega
   kernel_rfl
  ·rcases (by omega:i=0\/i=1) with rfl | rfl
   all_goals kernel_rfl
  ·rcases (by omega:i=0\/i=1\/i=2) with rfl | rfl | rfl
   all_goals kernel_rfl
  ·rcases (by omega:i=0\/i=1\/i=2\/i=3) with rfl | rfl | rfl | rfl
   all_goals kernel_rfl
 rw [prio_raw i hm hi hp,e,e2]
theorem wake_is {m p:Nat} (i:Nat) (hm:1<=m/\m<=4) (hi:i<m) (hp:p<256):goK (withH (Km m) (Hn m p i)) 0 ⟨5,20+(i:Int),0,0,0,0⟩=(withH (Km m) (Hm m p (i+1)),⟨0,0,(i:Int)+1,[]⟩):=by
 have hpk:pickedK (withH (Km m) (Hn m p i)) 0=withH (Km m) (Hn m p i):=congrArg (withH (Km m)) (hn_pick hp m i)
 refine (go_picked hpk _).trans ?_
 rcases (by omega:m=1\/m=2\/m=3\/m=4) with rfl | rfl | rfl | rfl
 ·obtain rfl:i=0:=by omega
  kernel_rfl
 ·rcases (by omega:i=0\/i=1) with rfl | rfl
  all_goals kernel_rfl
 ·rcases (by omega:i=0\/i=1\/i=2) with rfl | rfl | rfl
  all_goals kernel_rfl
 ·rcases (by omega:i=0\/i=1\/i=2\/i=3) with rfl | rfl | rfl | rfl
  all_goals kernel_rfl
theorem hm_y {m p:Nat} (hm:1<=m/\m<=4):Hm m p m=Y (m+1) p 0:=by
 rcases (by omega:m=1\/m=2\/m=3\/m=4) with rfl | rfl | rfl | rfl
 all_goals kernel_rfl
theorem y_runs {m p:Nat} (hm:1<=m/\m<=4) (k:Nat) (hk:k<m+1):Th.runsO (Y (m+1) p k) 0=some k/\(Th.thr (Y (m+1) p k) k).p=p:=by
 rcases (by omega:m=1\/m=2\/m=3\/m=4) with rfl | rfl | rfl | rfl
 ·rcases (by omega:k=0\/k=1) with rfl | rfl
  all_goals exact ⟨by kernel_rfl,by kernel_rfl⟩
 ·rcases (by omega:k=0\/k=1\/k=2) with rfl | rfl | rfl
  all_goals exact ⟨by kernel_rfl,by kernel_rfl⟩
 ·rcases (by omega:k=0\/k=1\/k=2\/k=3) with rfl | rfl | rfl | rfl
  all_goals exact ⟨by kernel_rfl,by kernel_rfl⟩
 ·rcases (by omega:k=0\/k=1\/k=2\/k=3\/k=4) with rfl | rfl | rfl | rfl | rfl
  all_goals exact ⟨by kernel_rfl,by kernel_rfl⟩
theorem turn_is {m p:Nat} (hm:1<=m/\m<=4) (hp:p<256) (k:Nat) (hk:k<m+1):goK (withH (Km m) (Y (m+1) p k)) 0 ⟨17,0,0,0,0,0⟩=(withH (Km m) (Y (m+1) p (k+1)),tlE 0)/\Th.runsB (Y (m+1) p k) 0=true/\Th.runsN (Y (m+1) p k) 0=k:=by
 obtain ⟨e1,e2⟩:=y_runs (p:=p) hm k hk
 have hpk:pickedK (withH (Km m) (Y (m+1) p k)) 0=withH (Km m) (Y (m+1) p k):=congrArg (withH (Km m)) (pick_stay hp (y_all _ _ _) e1 e2)
 have hb:Th.runsB (Y (m+1) p k) 0=true:=by
  unfold Th.runsB
  rw [e1]
  rfl
 refine ⟨?_,hb,?_⟩
 ·rw [go_picked hpk]
  unfold goI
  rw [if_pos (show Th.runsB (withH (Km m) (Y (m+1) p k)).h 0=true from hb),if_pos (show (0:Int)<=17/\(17:Int)<=17 by decide),if_pos rfl]
  show (withH (Km m) (Th.yieldH (Y (m+1) p k) 0),tlE 0)=_
  rw [y_yield hp ⟨by omega,by omega⟩ k hk]
 ·unfold Th.runsN
  rw [e1]
  rfl
end Go.Proofs.YtilnjnblpeeigaaGreatDoor
namespace Go.Proofs.YtilnjnblpeeigaaGreatDoor
theorem i64_mask (x:Int) (m:Nat) (hm:m<=62):bits .and .i64 x ((2 ^ m - 1:Nat):Int)=x % ((2 ^ m:Nat):Int):=by
 have hp:=Nat.two_pow_pos m
 have hq:2 ^ m<=2 ^ 62:=Nat.pow_le_pow_right (by omega) hm
 show IntKind.i64.wrap ((BitVec.ofInt 64 x &&& BitVec.ofInt 64 ((2 ^ m - 1:Nat):Int)).toNat:Int)=_
 rw [BitVec.toNat_and,ofInt_u64 (2 ^ m - 1) (by omega),Nat.and_two_pow_sub_one_eq_mod,BitVec.toNat_ofInt]
 have e:(((x % ((2 ^ 64:Nat):Int)).toNat % 2 ^ m:Nat):Int)=x % ((2 ^ m:Nat):Int):=by
  rw [Int.natCast_emod,Int.toNat_of_nonneg (Int.emod_nonneg _ (by decide))]
  apply Int.emod_emod_of_dvd
  exact Int.natCast_dvd_natCast.2 (Nat.pow_dvd_pow 2 (by omega))
 rw [e]
 have h1:0<=x % ((2 ^ m:Nat):Int):=Int.emod_nonneg _ (by omega)
 have h2:x % ((2 ^ m:Nat):Int)<((2 ^ m:Nat):Int):=Int.emod_lt_of_pos _ (by omega)
 generalize x % ((2 ^ m:Nat):Int)=y at *
 generalize 2 ^ m=p at *
 have hy:y % (2:Int) ^ 64=y:=Int.emod_eq_of_lt h1 (by omega)
 simp only [IntKind.wrap,IntKind.bits,IntKind.signed,hy]
 rw [if_neg]
 simp
 omega
theorem mask_is (x:Int) (m:Nat) (hm:m<=62):∃ p:Nat,p<2 ^ m/\bits .and .i64 x ((2 ^ m - 1:Nat):Int)=(p:Int):=by
 have hp:(0:Int)<((2 ^ m:Nat):Int):=by
  have:=Nat.two_pow_pos m
  omega
 have h0:0<=x % ((2 ^ m:Nat):Int):=Int.emod_nonneg _ (by omega)
 have h1:x % ((2 ^ m:Nat):Int)<((2 ^ m:Nat):Int):=Int.emod_lt_of_pos _ hp
 exact ⟨(x % ((2 ^ m:Nat):Int)).toNat,by omega,by rw [i64_mask x m hm];omega⟩
theorem mask3 (x:Int):∃ p:Nat,p<4/\bits .and .i64 x 3=(p:Int):=mask_is x 2 (by decide)
end Go.Proofs.YtilnjnblpeeigaaGreatDoor

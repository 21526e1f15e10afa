/- Below: KSlA; no condition. -/
import Derived.Test.YtbfjjpdnoalojaaGreatDoorPa5
set_option maxHeartbeats 16000000
set_option maxRecDepth 100000
set_option linter.unusedSectionVars false
namespace Go.Proofs.YtbfjjpdnoalojaaGreatDoor
namespace Sl
open Go.RowKit Go.Deep Go.MapKept Go.Maps
variable [dCp:DecidableEq Cp] [dLim:∀ k,Decidable (ZV k)] [dBad:∀ k,Decidable (Xn k)] [dFit:∀ g z,Decidable (Fit g z)] [dFine:∀ c,Decidable (Fine c)] [dMint:∀ c v,Decidable (JK c v)] [dWho:∀ x y,Decidable (Zx x y)] [dSl:DecidableEq Sl] [dLt:∀ a b,Decidable (MC a b)]
theorem Leaves.behind {a b c:World} {p:Nat} {F:Nat->Prop} {S:St} (h:Below a.heap.size a b) (k:Leaves b p F S c):Leaves a p F S c:=⟨k.1,(Turn.of h F).trans k.2 fun _ hx=>.inl hx⟩
theorem Jy8 (p:Nat) (F:Nat->Prop) (S:St) (s t:Sl) (w:World) (h:Nds w p F S) (hs:s.Fits) (ht:t.Fits) :
  Calls Tryz.prog 226 #[.pointer (some ⟨p,0,none⟩),Jh s,Jh t] w fun e w'=>e=.returned (.int .i64 (AZ S s t))/\Leaves w p F (moveS S s t) w':=by
 have HS:Hid (s.Fits/\t.Fits):=⟨hs,ht⟩
 have H:Hid (Nds w p F S):=h
 obtain⟨x1,x2,x3,x4⟩:=O3 w (Jo s) (Jo t)
 have HE:Hid (AZ S s t=(match JZ S s,JZ S t with|some c,some d=>if c.k=0 then 52 else if d.k=0 then 0 else 51|_,_=>50)/\moveS S s t=if AZ S s t=0 then Xj (Xj S t (Vt S s)) s no else S):=⟨rfl,rfl⟩
 generalize AZ S s t=me at *
 generalize moveS S s t=ms at *
 simp only[Jh,Jo] at *
 go_enter Tryz.func226,Tryz.ntmps226
 go_wp2_with fail
 refine(JN p F S s _ (H.out.below x4)).mono ?_
 rintro e w3 ⟨rfl,b3⟩
 clear h hs ht
 have a1:AtS w3 w.heap.size s:=(b3.block _ (by rw[x3];omega)).trans x1
 have a2:AtS w3 (w.heap.size+1) t:=(b3.block _ (by rw[x3];omega)).trans x2
 have B:Hid (Below w.heap.size w w3):=Below.then x4 b3 x4.size
 clear x1 x2 x3 x4 b3
 have A1:Hid (AtS w3 w.heap.size s):=a1
 have A2:Hid (AtS w3 (w.heap.size+1) t):=a2
 obtain⟨s0,s1⟩:=a1.cells
 obtain⟨z0,z1⟩:=a2.cells
 clear a1 a2
 generalize hr0:w.heap.size=r at *
 have HR:Hid (w.heap.size=r):=hr0
 clear hr0
 cases hq:JZ S s with
 | none =>
  rw[hq] at HE
  obtain⟨e1,e2⟩:=HE.out
  obtain rfl:me=50:=e1
  obtain rfl:ms=S:=e2.trans (if_neg (show ¬ (50:Int)=0 by decide))
  clear e2 HE
  go_wp2
  go_ret
  exact⟨rfl,Leaves.same H.out (by rw[HR.out];exact B.out)⟩
 | some c =>
  have HQ:Hid (JZ S s=some c):=hq
  rw[hq] at HE
  clear hq
  go_wp2_with fail
  refine(JN p F S t _ (H.out.below (by rw[HR.out];exact B.out))).mono ?_
  rintro e w4 ⟨rfl,b4⟩
  have a1:=A1.out.below b4
  have a2:=A2.out.below b4
  have B4:Hid (Below r w w4):=Below.then B.out b4 (by have:=B.out.size;have:=HR.out;omega)
  clear s0 s1 z0 z1 A1 A2 B b4
  have A1:Hid (AtS w4 r s):=a1
  have A2:Hid (AtS w4 (r+1) t):=a2
  obtain⟨s0,s1⟩:=a1.cells
  obtain⟨z0,z1⟩:=a2.cells
  clear a1 a2
  cases hq:JZ S t with
  | none =>
   rw[hq] at HE
   obtain⟨e1,e2⟩:=HE.out
   obtain rfl:me=50:=e1
   obtain rfl:ms=S:=e2.trans (if_neg (show ¬ (50:Int)=0 by decide))
   clear e2 HE
   go_wp2
   go_ret
   exact⟨rfl,Leaves.same H.out (by rw[HR.out];exact B4.out)⟩
  | some d =>
   have HT:Hid (JZ S t=some d):=hq
   rw[hq] at HE
   clear hq
   go_wp2_with fail
   refine(Jal p F S s _ (H.out.below (by rw[HR.out];exact B4.out)) HS.out.1).mono ?_
   rintro e w5 ⟨rfl,b5⟩
   have a1:=A1.out.below b5
   have a2:=A2.out.below b5
   have B5:Hid (Below r w w5):=Below.then B4.out b5 (by have:=B4.out.size;have:=HR.out;omega)
   clear s0 s1 z0 z1 A1 A2 B4 b5
   have A1:Hid (AtS w5 r s):=a1
   have A2:Hid (AtS w5 (r+1) t):=a2
   obtain⟨s0,s1⟩:=a1.cells
   obtain⟨z0,z1⟩:=a2.cells
   clear a1 a2
   rw[Fl HQ.out]
   by_cases hc:c.k=0
   ·have hdd:(!decide (c.k≠0))=true:=by simp[hc]
    rw[hdd]
    obtain⟨e1,e2⟩:=HE.out
    simp only[hc,if_true] at e1
    subst e1
    obtain rfl:ms=S:=e2.trans (if_neg (show ¬ (52:Int)=0 by decide))
    clear e2 HE hdd hc
    go_wp2
    go_ret
    exact⟨rfl,Leaves.same H.out (by rw[HR.out];exact B5.out)⟩
   ·have hdd:(!decide (c.k≠0))=false:=by simp[hc]
    rw[hdd]
    have HC:Hid (¬ c.k=0):=hc
    clear hdd hc
    go_wp2_with fail
    refine(Jal p F S t _ (H.out.below (by rw[HR.out];exact B5.out)) HS.out.2).mono ?_
    rintro e w6 ⟨rfl,b6⟩
    have a1:=A1.out.below b6
    have a2:=A2.out.below b6
    have B6:Hid (Below r w w6):=Below.then B5.out b6 (by have:=B5.out.size;have:=HR.out;omega)
    clear s0 s1 z0 z1 A1 A2 B5 b6
    obtain⟨s0,s1⟩:=a1.cells
    obtain⟨z0,z1⟩:=a2.cells
    rw[Fl HT.out]
    by_cases hd:d.k=0
    ·have hdd:decide (d.k≠0)=false:=by simp[hd]
     rw[hdd]
     obtain⟨e1,e2⟩:=HE.out
     simp only[HC.out,hd,if_true,if_false] at e1
     subst e1
     have gc:Vt S s=c:=by unfold Vt;rw[HQ.out];rfl
     obtain rfl:ms=Xj (Xj S t c) s no:=by rw[e2,if_pos rfl,gc]
     clear e2 HE hdd hd gc
     obtain⟨m,v,h6⟩:Nds w6 p F S:=H.out.below (by rw[HR.out];exact B6.out)
     have hl1:Sem.run Tryz.prog _ w6.drew=_:=(h6.map.of_block (w':=w6.drew) rfl).look HS.out.1 false
     rw[Ja1 h6.ok HQ.out] at hl1
     obtain⟨c0,c1⟩:=h6.cells
     obtain⟨w7,hrun,k1,k2,k3⟩:=(h6.map.of_block (w':=w6.drew) rfl).store HS.out.2 c
     have g:=Jcy k2
     have h7:PN w7 p m v F (Xj S t c):=h6.put HT.out (h6.ok.at HQ.out).1 HC.out g k1
     have hm:m<r:=by have:=H.out.lt m h6.fm;have:=HR.out;omega
     have d1:AtS w7 r s:=(OO g a1.lt (by omega)).trans a1
     obtain⟨s0',s1'⟩:=d1.cells
     have hat:∃ x,JZ (Xj S t c) s=some x:=by
      rw[XL HT.out]
      split
      ·exact⟨_,rfl⟩
      ·exact⟨_,HQ.out⟩
     obtain⟨x,hat⟩:=hat
     obtain⟨c0',c1'⟩:=h7.cells
     obtain⟨w8,hrun2,k4,k5,k6⟩:=(h7.map.of_block (w':=w7.drew) rfl).drop HS.out.1 0
     have g2:=Jcy k5
     have K:Hid (Leaves w p F (Xj (Xj S t c) s no) w8):=
      Leaves.behind (by rw[HR.out];exact B6.out) (Leaves.trans ⟨⟨m,v,h7⟩,Jbh h6 g⟩ ⟨⟨m,v,h7.del hat g2 k4⟩,Jbh h7 g2⟩)
     clear k1 k2 k3 k4 k5 k6 h6 h7 g g2 a1 a2 d1 hat hm
     simp only[Jh,Jg] at *
     go_wp2
     go_region
     go_wp2
     go_region
     go_wp2
     go_ret
     exact⟨rfl,K.out⟩
    ·have hdd:decide (d.k≠0)=true:=by simp[hd]
     rw[hdd]
     obtain⟨e1,e2⟩:=HE.out
     simp only[HC.out,hd,if_false] at e1
     subst e1
     obtain rfl:ms=S:=e2.trans (if_neg (show ¬ (51:Int)=0 by decide))
     clear e2 HE hdd hd a1 a2
     go_wp2
     go_ret
     exact⟨rfl,Leaves.same H.out (by rw[HR.out];exact B6.out)⟩
end Sl
namespace Sl
open Go.RowKit Go.Deep Go.MapKept Go.Maps
variable [dCp:DecidableEq Cp] [dLim:∀ k,Decidable (ZV k)] [dBad:∀ k,Decidable (Xn k)] [dFit:∀ g z,Decidable (Fit g z)] [dFine:∀ c,Decidable (Fine c)] [dMint:∀ c v,Decidable (JK c v)] [dWho:∀ x y,Decidable (Zx x y)] [dSl:DecidableEq Sl] [dLt:∀ a b,Decidable (MC a b)] [iSl:Inhabited Sl] [iCp:Inhabited Cp]
section
variable {w0:World} {r:Nat} {w w':World} {p:Nat} {F:Nat->Prop} {S T:St} {L:List (Nat×Obj)} {M:List (Value×List (Sl×Cp))}
theorem Has.below (h:Has w0 r w p F S L M) (b:Below w.heap.size w w'):Has w0 r w' p F S L M:=h.leaves (Leaves.same h.nds b)
theorem J36 (s t:Sl) (e:Int) (T:St) (h:Has w0 r w p F S L M) (hs:s.Fits) (ht:t.Fits) (he:AZ S s t=e) (hT:moveS S s t=T) :
  Calls Tryz.prog 226 #[.pointer (some ⟨p,0,none⟩),Jh s,Jh t] w fun x w'=>x=.returned (.int .i64 e)/\Has w0 r w' p F T L M:=by
 subst he hT
 refine(Jy8 p F S s t w h.nds hs ht).mono ?_
 rintro x w' ⟨rfl,l⟩
 exact⟨rfl,h.leaves l⟩
end
end Sl
namespace Sl
open Go.RowKit Go.Deep Go.MapKept Go.Maps
variable [dCp:DecidableEq Cp] [dLim:∀ k,Decidable (ZV k)] [dBad:∀ k,Decidable (Xn k)] [dFit:∀ g z,Decidable (Fit g z)] [dFine:∀ c,Decidable (Fine c)] [dMint:∀ c v,Decidable (JK c v)] [dWho:∀ x y,Decidable (Zx x y)] [dSl:DecidableEq Sl] [dLt:∀ a b,Decidable (MC a b)] [dIsN:∀ S c,Decidable (Gq S c)] [dGuN:∀ a c d,Decidable (XT a c d)]
section
variable {w w' u:World} {q x:Nat} {F:Nat->Prop}
theorem Turn.low {q:Nat} (t:Turn (One q) w u) (h:Below q w' w) (hq:q<=w.heap.size):Below q w' u:=t.below h (fun x hx=>by unfold One at hx;omega) hq
end
end Sl
end Go.Proofs.YtbfjjpdnoalojaaGreatDoor

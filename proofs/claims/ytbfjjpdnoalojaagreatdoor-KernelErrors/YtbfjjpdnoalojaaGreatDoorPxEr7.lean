/- Below: KNo; no condition. -/
import Derived.Test.YtbfjjpdnoalojaaGreatDoorPa12
import Derived.Test.YtbfjjpdnoalojaaGreatDoorPxEr1
set_option maxHeartbeats 16000000
set_option maxRecDepth 100000
namespace Go.Proofs.YtbfjjpdnoalojaaGreatDoor
namespace No
open Go.RowKit Go.Deep Go.Shelf
section
variable {w0 w w':World} {r p:Nat} {v:Value} {S:Ns} {R:List Th}
theorem NtH.frozen (h:NtH p v S w) (j:Nat):w.frozen? ⟨p,j,none⟩=false:=by
 have:=h.head
 unfold Ee at this
 simp[World.frozen?,this]
theorem _root_.Go.Proofs.YtbfjjpdnoalojaaGreatDoor.Sep.frozenP (h:Sep w0 r w (Ed p v S::R)) (j:Nat):w.frozen? ⟨p,j,none⟩=false:=NtH.frozen h.head j
theorem _root_.Go.Proofs.YtbfjjpdnoalojaaGreatDoor.Sep.flag {T:Ns} (h:Sep w0 r w (Ed p v S::R)) (g:Good T) (e:T.l=S.l):Sep w0 r ((w.setCell ⟨p,0,none⟩ (.bool T.b)).setCell ⟨p,1,none⟩ (.int .u64 T.w)) (Ed p v T::R):=by
 have h2:NtH p v S w:=h.head
 have hd:=h2.head
 unfold Ee at hd
 have st:=(Turn.setCell (Ed p v S).F w ⟨p,0,none⟩ (.bool T.b) (.inl rfl)).trans (Turn.setCell (Ed p v S).F _ ⟨p,1,none⟩ (.int .u64 T.w) (.inl rfl)) fun x hx=>.inl hx
 refine h.turn (t':=Ed p v T) ⟨?_,?_,h2.ne,g⟩ st fun x hx=>.inl hx
 ·rw[setBlock (setBlock hd _) _]
  simp[Ee]
 ·rw[e]
  refine h2.row.keep fun x hx=>?_
  have ne:x≠p:=fun e=>h2.ne (e ▸ hx)
  rw[blk_setCell_other _ _ _ _ ne,blk_setCell_other _ _ _ _ ne]
end
theorem J3y (L:List Int) (n:Int):decide (0<=EK (· == n) L)=L.contains n:=by
 unfold EK
 by_cases h:L.findIdx (· == n)<L.length
 ·rw[if_pos h]
  obtain⟨x,hx,e⟩:=List.findIdx_lt_length.1 h
  have e':x=n:=by simpa using e
  have:n∈L:=e' ▸ hx
  simp[this]
 ·rw[if_neg h]
  have:n ∉ L:=fun hm=>h (List.findIdx_lt_length.2 ⟨n,hm,by simp⟩)
  simp[this]
theorem MK (v:Value) (L:List Int) (n:Int) (w:World) (h:RowI w v L) (hl:L.length<=1000) :
  Calls Tryz.prog 277 #[v,.int .i64 n] w fun e w'=>e=.returned (.bool (L.contains n))/\w'=w:=by
 have HI:=Ja (XW v L n w h hl)
 have hd:=J3y L n
 obtain⟨ao,cap,rfl,-⟩:=h.slice
 clear h
 generalize L.length=N at *
 generalize EK (· == n) L=z at *
 generalize L.contains n=b at *
 go_enter Tryz.func277,Tryz.ntmps277
 go_wp2_with (go_at_call 341;refine Jqa HI.out ?_;rintro e w' ⟨rfl,rfl⟩)
 go_ret
 exact⟨rfl,rfl⟩
section
variable {w0 w:World} {r p:Nat} {v:Value} {S:Ns} {R:List Th}
theorem J2k (s:Sep w0 r w (Ed p v S::R)) (g:Int) (hg:U64 g) (hl:S.l.length<=1000) :
  Calls Tryz.prog 262 #[Je p,.int .u64 g] w fun e w'=>e=.returned (.tuple #[.int .i64 (Jh5 S),.int .u64 (Jt5 S g),.bool (Jt4 S)])/\∃ v',Sep w0 r w' (Ed p v' (Jmh S g)::R):=by
 obtain⟨c0,c1,c2⟩:=s.cellsP
 obtain⟨b,x,L⟩:=S
 cases L with
 | nil =>
  have f0:=s.frozenP 0
  have f1:=s.frozenP 1
  obtain⟨ao,cap,rfl,-⟩:=s.slicePNo
  have S1:=Ja (s.flag (T:=Jmh ⟨b,x,[]⟩ g) (Jj7 s.goodNo hg) rfl)
  simp only[Jh5,Jt5,Jt4,Jmh,orI,List.length_nil] at *
  clear s
  go_enter Tryz.func262,Tryz.ntmps262
  go_wp2
  go_ret3
  exact⟨rfl,_,S1.out⟩
 | cons n T =>
  have HC:=Ja (U3 s n hl)
  have HO:Hid (G4 ⟨b,x,n::T⟩ n=⟨b,x,T⟩):=by
   show G4 _ _=_
   simp only[G4,Jhr s.goodNo.one]
  obtain⟨ao,cap,rfl,hgr⟩:=s.slicePNo
  obtain⟨gb,rfl⟩:=hgr 0 (by simp)
  have c3:=RowI.cell (NtH.row s.head) (i:=0) (x:=n) rfl
  have hn0:(0:Int)<((n::T).length:Int):=by simp
  have hn1:0<(n::T).length:=by simp
  simp only[Jh5,Jt5,Jt4,Jmh] at *
  clear s hgr
  generalize(n::T).length=m at *
  go_enter Tryz.func262,Tryz.ntmps262
  go_wp2_with fail
  refine Jqa HC.out ?_
  rintro e w1 ⟨rfl,v1,s1⟩
  rw[HO.out] at s1
  have S1:=Ja s1
  clear s1 HC c0 c1 c2 c3
  go_wp2
  go_ret3
  exact⟨rfl,_,S1.out⟩
theorem J4f (s:Sep w0 r w (Ed p v S::R)) (n:Int) (z:Bool) (hl:S.l.length<=1000) :
  Calls Tryz.prog 237 #[Je p,.int .i64 n,.bool z] w fun e w'=>e=.returned (.tuple #[.int .u64 (J0o S n),.bool (J0n S n),.int .i64 (Jq8 S n)])/\∃ v',Sep w0 r w' (Ed p v' (J6b S n z)::R):=by
 obtain⟨c0,c1,c2⟩:=s.cellsP
 have HC:=Ja (MK v S.l n w (NtH.row s.head) hl)
 have hth:S.l.contains n=Ik S n:=rfl
 rw[hth] at HC
 cases ht:Ik S n with
 | true =>
  obtain⟨ao,cap,rfl,-⟩:=s.slicePNo
  have S1:=Ja s
  simp only[J0o,J0n,Jq8,J6b,ht,if_true]
  rw[ht] at HC
  clear s ht hth
  generalize S.l.length=m at *
  go_enter Tryz.func237,Tryz.ntmps237
  go_wp2_with (go_at_call 277;refine Jqa HC.out ?_;rintro e w' ⟨rfl,rfl⟩)
  go_ret3
  exact⟨rfl,_,S1.out⟩
 | false =>
  rw[ht] at HC
  have HG:=Ja (Jgs s.goodNo n z)
  cases hb:S.b with
  | true =>
   have f0:=s.frozenP 0
   have f1:=s.frozenP 1
   obtain⟨ao,cap,rfl,-⟩:=s.slicePNo
   simp only[J0o,J0n,Jq8,J6b,ht,hb,if_true] at HG ⊢
   have S1:=Ja (s.flag HG.out rfl)
   rw[hb] at c0
   simp only[Bool.false_eq_true,if_false] at S1 ⊢
   clear s ht hth hb HG
   generalize S.l.length=m at *
   go_enter Tryz.func237,Tryz.ntmps237
   go_wp2_with (go_at_call 277;refine Jqa HC.out ?_;rintro e w' ⟨rfl,rfl⟩)
   go_ret3
   exact⟨rfl,_,S1.out⟩
  | false =>
   rw[hb] at c0
   cases z with
   | false =>
    obtain⟨ao,cap,rfl,-⟩:=s.slicePNo
    have S1:=Ja s
    simp only[J0o,J0n,Jq8,J6b,ht,hb,Bool.false_eq_true,if_false]
    clear s ht hth hb HG
    generalize S.l.length=m at *
    go_enter Tryz.func237,Tryz.ntmps237
    go_wp2_with (go_at_call 277;refine Jqa HC.out ?_;rintro e w' ⟨rfl,rfl⟩)
    go_ret3
    exact⟨rfl,_,S1.out⟩
   | true =>
    have f2:=s.frozenP 2
    have b1:=Jb w (.cells #[.int .i64 n] 3)
    have s1:=s.below b1
    obtain⟨v3,w3,r3,row3,g3,o3⟩:=XU okI 22 n w.heap.size (NtH.row s1.head) (fun j c hj=>by
     have:=blk_alloc_new w (.cells #[.int .i64 n] 3)
     simp only[World.cell?]
     rw[this]
     simpa [Ui,cI] using hj) (by omega)
    simp only[J0o,J0n,Jq8,J6b,ht,hb,Bool.false_eq_true,if_false,if_true] at HG ⊢
    rw[<- hb] at HG ⊢
    have S3:=Ja (s1.regrowNo g3 row3 (o3.imp id fun e x hx=>by rw[e] at hx;cases hx;exact Jqd _) HG.out rfl rfl)
    rw[hb] at S3 ⊢
    obtain⟨ao,cap,rfl,-⟩:=s.slicePNo
    obtain⟨a3,k3,rfl,-⟩:=Row.slice row3
    have f3:w3.frozen? ⟨p,2,none⟩=false:=by
     have h1:NtH p _ S _:=s1.head
     have hp:=(Jqf.1 h1.head).1
     have:=(g3.block p hp fun e=>h1.ne e.symm).trans h1.head
     unfold Ee at this
     simp[World.frozen?,this]
    have c3:w3.cell? ⟨p,2,none⟩=some (.slice ao S.l.length cap):=by
     have h1:NtH p _ S _:=s1.head
     have hp:=(Jqf.1 h1.head).1
     have:=(g3.block p hp fun e=>h1.ne e.symm).trans h1.head
     unfold Ee at this
     simp[World.cell?,this]
    simp only[Ui] at r3
    have R3:=Ja r3
    clear s s1 r3 row3 g3 o3 b1 ht hth hb HG
    generalize(S.l++[n]).length=m3 at *
    generalize S.l.length=m at *
    go_enter Tryz.func237,Tryz.ntmps237
    go_wp2_with (first
     | (at_builtin;refine Jd rfl _ _ _ _ rfl _ _ _ _ rfl rfl R3.out ?_)
     | (go_at_call 277;refine Jqa HC.out ?_;rintro e w' ⟨rfl,rfl⟩))
    go_ret3
    exact⟨rfl,_,S3.out⟩
theorem J1u (s:Sep w0 r w (Ed p v S::R)) (g:Int) (hg:U64 g) (hl:S.l.length<=1000) {a x:Int} {q:Bool} {T:Ns} (ha:Jh5 S=a) (hx:Jt5 S g=x) (hq:Jt4 S=q) (hT:Jmh S g=T) :
  Calls Tryz.prog 262 #[Je p,.int .u64 g] w fun e w'=>e=.returned (.tuple #[.int .i64 a,.int .u64 x,.bool q])/\∃ v',Sep w0 r w' (Ed p v' T::R):=by
 subst ha hx hq hT
 exact J2k s g hg hl
theorem J4y (s:Sep w0 r w (Ed p v S::R)) (n:Int) (z:Bool) (hl:S.l.length<=1000) {x e0:Int} {q:Bool} {T:Ns} (hx:J0o S n=x) (hq:J0n S n=q) (he:Jq8 S n=e0) (hT:J6b S n z=T) :
  Calls Tryz.prog 237 #[Je p,.int .i64 n,.bool z] w fun e w'=>e=.returned (.tuple #[.int .u64 x,.bool q,.int .i64 e0])/\∃ v',Sep w0 r w' (Ed p v' T::R):=by
 subst hx hq he hT
 exact J4f s n z hl
end
end No
end Go.Proofs.YtbfjjpdnoalojaaGreatDoor

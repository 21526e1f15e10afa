/- Below: KNo; no condition. -/
import Derived.Test.YtilnjnblpeeigaaGreatDoorPb12
import Derived.Test.YtilnjnblpeeigaaGreatDoorPxIr1
set_option maxHeartbeats 16000000
set_option maxRecDepth 100000
namespace Go.Proofs.YtilnjnblpeeigaaGreatDoor
namespace No
open Go.RowKit Go.Deep Go.Shelf
section
variable {w0 w w':World} {r p:Nat} {v:Value} {S:Ns} {R:List Th}
theorem NtH.frozen (h:NtH p v S w) (j:Nat):w.frozen? ⟨p,j,none⟩=false:=by
 have:=h.head
 unfold objN at this
 simp[World.frozen?,this]
theorem NtH.below (h:NtH p v S w) (k:Below w.heap.size w w'):NtH p v S w':=(ntT p v S).below h k
theorem _root_.Go.Proofs.YtilnjnblpeeigaaGreatDoor.Sep.frozenP (h:Sep w0 r w (ntT p v S::R)) (j:Nat):w.frozen? ⟨p,j,none⟩=false:=NtH.frozen h.head j
theorem _root_.Go.Proofs.YtilnjnblpeeigaaGreatDoor.Sep.flag {T:Ns} (h:Sep w0 r w (ntT p v S::R)) (g:Good T) (e:T.l=S.l):Sep w0 r ((w.setCell ⟨p,0,none⟩ (.bool T.b)).setCell ⟨p,1,none⟩ (.int .u64 T.w)) (ntT p v T::R):=by
 have h2:NtH p v S w:=h.head
 have hd:=h2.head
 unfold objN at hd
 have st:=(Turn.setCell (ntT p v S).F w ⟨p,0,none⟩ (.bool T.b) (.inl rfl)).trans (Turn.setCell (ntT p v S).F _ ⟨p,1,none⟩ (.int .u64 T.w) (.inl rfl)) fun x hx=>.inl hx
 refine h.turn (t':=ntT p v T) ⟨?_,?_,h2.ne,g⟩ st fun x hx=>.inl hx
 ·rw[setBlock (setBlock hd _) _]
  simp[objN]
 ·rw[e]
  refine h2.row.keep fun x hx=>?_
  have ne:x≠p:=fun e=>h2.ne (e ▸ hx)
  rw[blk_setCell_other _ _ _ _ ne,blk_setCell_other _ _ _ _ ne]
end
theorem JQ (L:List Int) (n:Int):decide (0<=idxP (· == n) L)=L.contains n:=by
 unfold idxP
 by_cases h:L.findIdx (· == n)<L.length
 ·rw[if_pos h]
  obtain⟨x,hx,e⟩:=List.findIdx_lt_length.1 h
  have e':x=n:=by simpa using e
  have:n∈L:=e' ▸ hx
  simp[this]
 ·rw[if_neg h]
  have:n ∉ L:=fun hm=>h (List.findIdx_lt_length.2 ⟨n,hm,by simp⟩)
  simp[this]
theorem contains_any (v:Value) (L:List Int) (n:Int) (w:World) (h:RowI w v L) (hl:L.length<=1000) :
  Calls Tryz.prog 151 #[v,.int .i64 n] w fun e w'=>e=.returned (.bool (L.contains n))/\w'=w:=by
 have HI:=hid (index_any v L n w h hl)
 have hd:=JQ L n
 obtain⟨ao,cap,rfl,-⟩:=h.slice
 clear h
 generalize L.length=N at *
 generalize idxP (· == n) L=z at *
 generalize L.contains n=b at *
 go_enter Tryz.func151,Tryz.ntmps151
 go_wp2_with (go_at_call 205;refine Calls.mono HI.out ?_;rintro e w' ⟨rfl,rfl⟩)
 go_ret
 exact⟨rfl,rfl⟩
section
variable {w0 w:World} {r p:Nat} {v:Value} {S:Ns} {R:List Th}
theorem JZ (p:Nat) (v:Value) (S:Ns) (w:World) (h:NtH p v S w) :
  Calls Tryz.prog 43 #[ptr p] w fun e w'=>e=.returned (.tuple #[.int .u64 S.w,.bool S.b])/\Below w.heap.size w w':=by
 obtain⟨c0,c1,-⟩:=h.cells
 clear h
 go_enter Tryz.func43,Tryz.ntmps43
 go_wp2_with fail
 go_quiet (fail)
 go_wp2
 go_ret2
 exact⟨rfl,below_drewN (Below.refl _ _) _⟩
theorem Jx (s:Sep w0 r w (ntT p v S::R)) (g:Int) (hg:U64 g) (hl:S.l.length<=1000) :
  Calls Tryz.prog 145 #[ptr p,.int .u64 g] w fun e w'=>e=.returned (.tuple #[.int .i64 (sigN S),.int .u64 (sigW S g),.bool (sigB S)])/\∃ v',Sep w0 r w' (ntT p v' (sigS S g)::R):=by
 obtain⟨c0,c1,c2⟩:=s.cellsP
 obtain⟨b,x,L⟩:=S
 cases L with
 | nil =>
  have f0:=s.frozenP 0
  have f1:=s.frozenP 1
  obtain⟨ao,cap,rfl,-⟩:=s.slicePNo
  have S1:=hid (s.flag (T:=sigS ⟨b,x,[]⟩ g) (good_sig s.goodNo hg) rfl)
  simp only[sigN,sigW,sigB,sigS,orI,List.length_nil] at *
  clear s
  go_enter Tryz.func145,Tryz.ntmps145
  go_wp2
  go_ret3
  exact⟨rfl,_,S1.out⟩
 | cons n T =>
  have HC:=hid (cancel_sep s n hl)
  have HO:Hid (canS ⟨b,x,n::T⟩ n=⟨b,x,T⟩):=by
   show canS _ _=_
   simp only[canS,out_first s.goodNo.one]
  obtain⟨ao,cap,rfl,hgr⟩:=s.slicePNo
  obtain⟨gb,rfl⟩:=hgr 0 (by simp)
  have c3:=RowI.cell (NtH.row s.head) (i:=0) (x:=n) rfl
  have hn0:(0:Int)<((n::T).length:Int):=by simp
  have hn1:0<(n::T).length:=by simp
  simp only[sigN,sigW,sigB,sigS] at *
  clear s hgr
  generalize(n::T).length=m at *
  go_enter Tryz.func145,Tryz.ntmps145
  go_wp2_with fail
  refine Calls.mono HC.out ?_
  rintro e w1 ⟨rfl,v1,s1⟩
  rw[HO.out] at s1
  have S1:=hid s1
  clear s1 HC c0 c1 c2 c3
  go_wp2
  go_ret3
  exact⟨rfl,_,S1.out⟩
theorem JY (s:Sep w0 r w (ntT p v S::R)) (n:Int) (z:Bool) (hl:S.l.length<=1000) :
  Calls Tryz.prog 129 #[ptr p,.int .i64 n,.bool z] w fun e w'=>e=.returned (.tuple #[.int .u64 (waitW S n),.bool (waitB S n),.int .i64 (waitE S n)])/\∃ v',Sep w0 r w' (ntT p v' (waitS S n z)::R):=by
 obtain⟨c0,c1,c2⟩:=s.cellsP
 have HC:=hid (contains_any v S.l n w (NtH.row s.head) hl)
 have hth:S.l.contains n=thB S n:=rfl
 rw[hth] at HC
 cases ht:thB S n with
 | true =>
  obtain⟨ao,cap,rfl,-⟩:=s.slicePNo
  have S1:=hid s
  simp only[waitW,waitB,waitE,waitS,ht,if_true]
  rw[ht] at HC
  clear s ht hth
  generalize S.l.length=m at *
  go_enter Tryz.func129,Tryz.ntmps129
  go_wp2_with (go_at_call 151;refine Calls.mono HC.out ?_;rintro e w' ⟨rfl,rfl⟩)
  go_ret3
  exact⟨rfl,_,S1.out⟩
 | false =>
  rw[ht] at HC
  have HG:=hid (good_wait s.goodNo n z)
  cases hb:S.b with
  | true =>
   have f0:=s.frozenP 0
   have f1:=s.frozenP 1
   obtain⟨ao,cap,rfl,-⟩:=s.slicePNo
   simp only[waitW,waitB,waitE,waitS,ht,hb,if_true] at HG ⊢
   have S1:=hid (s.flag HG.out rfl)
   rw[hb] at c0
   simp only[Bool.false_eq_true,if_false] at S1 ⊢
   clear s ht hth hb HG
   generalize S.l.length=m at *
   go_enter Tryz.func129,Tryz.ntmps129
   go_wp2_with (go_at_call 151;refine Calls.mono HC.out ?_;rintro e w' ⟨rfl,rfl⟩)
   go_ret3
   exact⟨rfl,_,S1.out⟩
  | false =>
   rw[hb] at c0
   cases z with
   | false =>
    obtain⟨ao,cap,rfl,-⟩:=s.slicePNo
    have S1:=hid s
    simp only[waitW,waitB,waitE,waitS,ht,hb,Bool.false_eq_true,if_false]
    clear s ht hth hb HG
    generalize S.l.length=m at *
    go_enter Tryz.func129,Tryz.ntmps129
    go_wp2_with (go_at_call 151;refine Calls.mono HC.out ?_;rintro e w' ⟨rfl,rfl⟩)
    go_ret3
    exact⟨rfl,_,S1.out⟩
   | true =>
    have f2:=s.frozenP 2
    have b1:=below_new w (.cells #[.int .i64 n] 3)
    have s1:=s.below b1
    obtain⟨v3,w3,r3,row3,g3,o3⟩:=append_one okI 26 n w.heap.size (NtH.row s1.head) (fun j c hj=>by
     have:=blk_alloc_new w (.cells #[.int .i64 n] 3)
     simp only[World.cell?]
     rw[this]
     simpa [elI,cI] using hj) (by omega)
    simp only[waitW,waitB,waitE,waitS,ht,hb,Bool.false_eq_true,if_false,if_true] at HG ⊢
    rw[<- hb] at HG ⊢
    have S3:=hid (s1.regrowNo g3 row3 (o3.imp id fun e x hx=>by rw[e] at hx;cases hx;exact Nat.le_refl _) HG.out rfl rfl)
    rw[hb] at S3 ⊢
    obtain⟨ao,cap,rfl,-⟩:=s.slicePNo
    obtain⟨a3,k3,rfl,-⟩:=Row.slice row3
    have f3:w3.frozen? ⟨p,2,none⟩=false:=by
     have h1:NtH p _ S _:=s1.head
     have hp:=(Array.getElem?_eq_some_iff.1 h1.head).1
     have:=(g3.block p hp fun e=>h1.ne e.symm).trans h1.head
     unfold objN at this
     simp[World.frozen?,this]
    have c3:w3.cell? ⟨p,2,none⟩=some (.slice ao S.l.length cap):=by
     have h1:NtH p _ S _:=s1.head
     have hp:=(Array.getElem?_eq_some_iff.1 h1.head).1
     have:=(g3.block p hp fun e=>h1.ne e.symm).trans h1.head
     unfold objN at this
     simp[World.cell?,this]
    simp only[elI] at r3
    have R3:=hid r3
    clear s s1 r3 row3 g3 o3 b1 ht hth hb HG
    generalize(S.l++[n]).length=m3 at *
    generalize S.l.length=m at *
    go_enter Tryz.func129,Tryz.ntmps129
    go_wp2_with (first
     | (at_builtin;refine wpList_append_run rfl _ _ _ _ rfl _ _ _ _ rfl rfl R3.out ?_)
     | (go_at_call 151;refine Calls.mono HC.out ?_;rintro e w' ⟨rfl,rfl⟩))
    go_ret3
    exact⟨rfl,_,S3.out⟩
end
def SeeI (w:World) (ao:Option Addr) (A:List Int):Prop:=∀ i x,A[i]? = some x->∃ b o,ao=some ⟨b,o,none⟩/\b<w.heap.size/\w.cell? ⟨b,o+i,none⟩=some (.int .i64 x)
theorem SeeI.below {w w':World} {ao:Option Addr} {A:List Int} (h:SeeI w ao A) (k:Below w.heap.size w w'):SeeI w' ao A:=fun i x hx=>by
 obtain⟨b,o,e,hb,hc⟩:=h i x hx
 exact⟨b,o,e,Nat.lt_of_lt_of_le hb k.size,(k.cell (p:=⟨b,o+i,none⟩) hb).trans hc⟩
section
variable {w0 w:World} {r p:Nat} {v:Value} {S:Ns} {R:List Th}
theorem Jn (s:Sep w0 r w (ntT p v S::R)) (g:Int) (hg:U64 g) (hl:S.l.length<=1000) {a x:Int} {q:Bool} {T:Ns} (ha:sigN S=a) (hx:sigW S g=x) (hq:sigB S=q) (hT:sigS S g=T) :
  Calls Tryz.prog 145 #[ptr p,.int .u64 g] w fun e w'=>e=.returned (.tuple #[.int .i64 a,.int .u64 x,.bool q])/\∃ v',Sep w0 r w' (ntT p v' T::R):=by
 subst ha hx hq hT
 exact Jx s g hg hl
theorem J8 (s:Sep w0 r w (ntT p v S::R)) (n:Int) (z:Bool) (hl:S.l.length<=1000) {x e0:Int} {q:Bool} {T:Ns} (hx:waitW S n=x) (hq:waitB S n=q) (he:waitE S n=e0) (hT:waitS S n z=T) :
  Calls Tryz.prog 129 #[ptr p,.int .i64 n,.bool z] w fun e w'=>e=.returned (.tuple #[.int .u64 x,.bool q,.int .i64 e0])/\∃ v',Sep w0 r w' (ntT p v' T::R):=by
 subst hx hq he hT
 exact JY s n z hl
theorem Za (s:Sep w0 r w (ntT p v S::R)) {x:Int} {q:Bool} (hx:S.w=x) (hq:S.b=q) :
  Calls Tryz.prog 43 #[ptr p] w fun e w'=>e=.returned (.tuple #[.int .u64 x,.bool q])/\Sep w0 r w' (ntT p v S::R):=by
 subst hx hq
 exact(JZ p v S w s.head).mono fun _ _ ⟨he,b⟩=>⟨he,s.below b⟩
end
end No
end Go.Proofs.YtilnjnblpeeigaaGreatDoor

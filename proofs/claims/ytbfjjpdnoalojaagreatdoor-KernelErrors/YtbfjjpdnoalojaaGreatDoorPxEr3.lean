/- Below: KTr; no condition. -/
import Derived.Test.YtbfjjpdnoalojaaGreatDoorPa7
import Derived.Test.YtbfjjpdnoalojaaGreatDoorPxEr1
set_option maxRecDepth 100000
set_option linter.unusedSectionVars false
namespace Go.Proofs.YtbfjjpdnoalojaaGreatDoor
namespace Tr
variable [DecidableEq Sl]
open Go.RowKit Go.Deep
theorem J46 (s:Sl):(cS s).length=2:=rfl
theorem RowS.cells {w:World} {g cap n:Nat} {A:List Sl} (h:RowS w (.slice (some ⟨g,0,none⟩) n cap) A) {i:Nat} {s:Sl} (hi:A[i]? = some s):w.cell? ⟨g,i*2,none⟩=some (.int .i64 s.n)/\w.cell? ⟨g,i*2+1,none⟩=some (.int .i64 s.i):=by
 have hc:=World.ownsRow.cells h (g:=g) rfl
 have e:=fun j hj=>Mm J46 hi (j:=j) hj
 have e0:=hc (i*2+0) _ (e 0 (by omega))
 have e1:=hc (i*2+1) _ (e 1 (by omega))
 rw[JG] at e0 e1
 simp only[Nat.zero_add,Nat.add_zero] at e0 e1
 exact⟨e0,e1⟩
open Go.Shelf
theorem J4j (p:Nat) (v:Value) (S:St) (w:World) (h:TrH p v S w) (hl:S.length<=1000) :
  Calls Tryz.prog 89 #[.pointer (some ⟨p,0,none⟩)] w fun e w'=>∃ v,e=.returned v/\OwnS w.heap.size w' v (JA S)/\Below w.heap.size w w':=by
 obtain⟨ao,cap,rfl,-,-,-⟩:=h.row.slice
 have c0:=h.cell
 have HI:Hid _:=Uz ao cap S w h.row.see hl
 clear h
 go_enter Tryz.func89,Tryz.ntmps89
 go_wp2_with (go_at_call 191;refine Jqa HI.out ?_;rintro e w' ⟨v,rfl,o,b⟩)
 go_ret
 exact⟨_,rfl,o,b⟩
section
variable {w0:World} {r:Nat} {w:World} {p:Nat} {v:Value} {S:St} {R:List Th}
theorem J33 (a b:Sl) (h:Sep w0 r w (trT p v S::R)) (hl:S.length<=1000) :
  Calls Tryz.prog 227 #[.pointer (some ⟨p,0,none⟩),Jh a,Jh b] w fun e w'=>e=.returned (.int .i64 (AZ S a b))/\∃ v',Sep w0 r w' (trT p v' (moveS S a b)::R):=
 (Jy8 p v S a b w h.head hl).mono fun _ _ ⟨he,g⟩=>⟨he,h.goes g⟩
theorem J4k (h:Sep w0 r w (trT p v S::R)) (hl:S.length<=1000) :
  Calls Tryz.prog 89 #[.pointer (some ⟨p,0,none⟩)] w fun e w'=>∃ ao cap,e=.returned (.slice ao (JA S).length cap)/\Sep w0 r w' (trT p v S::Joq (.slice ao (JA S).length cap) (JA S)::R):=
 (J4j p v S w h.head hl).mono fun _ _ ⟨u,he,o,b⟩=>by
  obtain⟨ao,cap,rfl⟩:=o.slice
  exact⟨ao,cap,he,h.told (u:=Joq (.slice ao (JA S).length cap) (JA S)) o.row b o.new⟩
end
def SeeS (w:World) (ao:Option Addr) (A:List Sl):Prop:=∀ j s,A[j]? = some s->∃ b,ao=some ⟨b,0,none⟩/\b<w.heap.size/\w.cell? ⟨b,j*2,none⟩=some (.int .i64 s.n)/\w.cell? ⟨b,j*2+1,none⟩=some (.int .i64 s.i)
theorem SeeS.below {w w':World} {ao:Option Addr} {A:List Sl} (h:SeeS w ao A) (u:Below w.heap.size w w'):SeeS w' ao A:=fun j s hj=>by
 obtain⟨b,e,hb,h0,h1⟩:=h j s hj
 exact⟨b,e,Jrb hb u.size,(u.cell (p:=⟨b,j*2,none⟩) hb).trans h0,(u.cell (p:=⟨b,j*2+1,none⟩) hb).trans h1⟩
end Tr
end Go.Proofs.YtbfjjpdnoalojaaGreatDoor

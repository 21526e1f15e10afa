/-
  NARROWER THAN 'FOR EVERY INPUT', by the rows' own cells (each row's printed sentence says how): CapsChecks: laid · CapsMints: laid · CapsPacks: laid · CapsBack: laid · CapsDerive: laid · CapsSame: laid.
  DERIVED. THE GIVEN ROWS OF THIS SEAT. 6 by the template 'for every input the law returns true; each argument reads behind the call as it read before'; 0 by the template 'total and deterministic' (their statements: YtokehmkegnmfdaaDoorTotals.lean).
  GIVEN WITH THE SEED: the statements are not yours to turn. If you find one false, say at which input.
  Laid BY PROGRAM, IN A SANDBOX (cutbox-rows.mjs): the forced cells as the released guide's own fill.sh prints them over the translation b5e74ec19953105d… (all of the seat's roots in one cut). By AI agents, Wed Nov 11 2026. No macro, syntax, notation, axiom, sorry.
-/
import Derived.Test.YtokehmkegnmfdaaDoorChecked
import GoSem.Claim
import GoSem.ClaimJoined
import GoSem.ClaimMapViews
import Derived.JoinedTies
import Derived.KernelRfl
namespace Go.Proofs.YtokehmkegnmfdaaDoor
/- THE CELL 'sum', in the pinned program and in every row, IS THE sha256 OF THE DUMP (.gsa) THAT YtokehmkegnmfdaaDoorProg.lean LOADS. Nothing in Lean hashes anything: it is a label: what it is worth is what the hold of that sum in a sandbox is worth. -/
noncomputable def Tryd.pinned : Pinned := { name := "ytokehmkegnmfdaadoor", sum := "b5e74ec19953105dcf7225f4b95e518700c81a17b22ac547132c258feb33b727", checked := Tryd.checked }
namespace Rows
def none {H : Type} : Left H := { results := [], args := [] }

/- WHAT THE LISTED PACKAGE-LEVEL VARIABLES READ AS WHEN THE CALL BEGINS. Each datum BY PROGRAM (the guide's laid-datum.mjs) off the statement by which the dump's own 'gosem.cut.vars' lays the variable. In a bare row this is a premise. The card (YtokehmkegnmfdaaDoorCards.lean) ties it to the program's text. -/
def laid_buttress_caps_kindPlace {H : Type} : DataW H := .agg [.lit (.int .i64 0), .lit (.int .i64 4)]
def laid_buttress_caps_rightsPlace {H : Type} : DataW H := .agg [.lit (.int .i64 4), .lit (.int .i64 3)]
def laid_buttress_caps_bitsPlace {H : Type} : DataW H := .agg [.lit (.int .i64 7), .lit (.int .i64 7)]
def laid_buttress_caps_objPlace {H : Type} : DataW H := .agg [.lit (.int .i64 16), .lit (.int .i64 31)]

/-- 'buttresslaw04.CapsChecks': WHATEVER THE INPUT: true; the input reads as it did. -/
def capsChecksSpec : ChangeSpec := { name := "capsChecks", fn := fun _ => fun
  | [d1, d2] => { results := [.lit (.bool true)], args := [d1, d2] }
  | _ => none }
def capsChecksRow : OpenClaim := { program := "ytokehmkegnmfdaadoor", sum := "b5e74ec19953105dcf7225f4b95e518700c81a17b22ac547132c258feb33b727", func := "buttress/buttresslaw04.CapsChecks", spec := "capsChecks", named := ["buttress/caps.kindPlace", "buttress/caps.rightsPlace", "buttress/caps.bitsPlace", "buttress/caps.objPlace"], apart := false, laid := [("buttress/caps.kindPlace", laid_buttress_caps_kindPlace), ("buttress/caps.rightsPlace", laid_buttress_caps_rightsPlace), ("buttress/caps.bitsPlace", laid_buttress_caps_bitsPlace), ("buttress/caps.objPlace", laid_buttress_caps_objPlace)] }
def CapsChecksSaid : Prop := capsChecksRow.holds Tryd.pinned (OpenSpec.ofChange capsChecksSpec)

/-- ITS FALSE NEIGHBOUR: 'it returns false'. Refute it at one input. -/
def capsChecksWrong : ChangeSpec := { name := "capsChecks", fn := fun _ => fun
  | [d1, d2] => { results := [.lit (.bool false)], args := [d1, d2] }
  | _ => none }
def CapsChecksWrongFalsely : Prop := capsChecksRow.holds Tryd.pinned (OpenSpec.ofChange capsChecksWrong)

/-- 'buttresslaw04.CapsMints': WHATEVER THE INPUT: true; the input reads as it did. -/
def capsMintsSpec : ChangeSpec := { name := "capsMints", fn := fun _ => fun
  | [d1, d2, d3] => { results := [.lit (.bool true)], args := [d1, d2, d3] }
  | _ => none }
def capsMintsRow : OpenClaim := { program := "ytokehmkegnmfdaadoor", sum := "b5e74ec19953105dcf7225f4b95e518700c81a17b22ac547132c258feb33b727", func := "buttress/buttresslaw04.CapsMints", spec := "capsMints", named := ["buttress/caps.kindPlace", "buttress/caps.rightsPlace", "buttress/caps.bitsPlace", "buttress/caps.objPlace"], apart := false, laid := [("buttress/caps.kindPlace", laid_buttress_caps_kindPlace), ("buttress/caps.rightsPlace", laid_buttress_caps_rightsPlace), ("buttress/caps.bitsPlace", laid_buttress_caps_bitsPlace), ("buttress/caps.objPlace", laid_buttress_caps_objPlace)] }
def CapsMintsSaid : Prop := capsMintsRow.holds Tryd.pinned (OpenSpec.ofChange capsMintsSpec)

/-- ITS FALSE NEIGHBOUR: 'it returns false'. Refute it at one input. -/
def capsMintsWrong : ChangeSpec := { name := "capsMints", fn := fun _ => fun
  | [d1, d2, d3] => { results := [.lit (.bool false)], args := [d1, d2, d3] }
  | _ => none }
def CapsMintsWrongFalsely : Prop := capsMintsRow.holds Tryd.pinned (OpenSpec.ofChange capsMintsWrong)

/-- 'buttresslaw04.CapsPacks': WHATEVER THE INPUT: true; the input reads as it did. -/
def capsPacksSpec : ChangeSpec := { name := "capsPacks", fn := fun _ => fun
  | [d1, d2] => { results := [.lit (.bool true)], args := [d1, d2] }
  | _ => none }
def capsPacksRow : OpenClaim := { program := "ytokehmkegnmfdaadoor", sum := "b5e74ec19953105dcf7225f4b95e518700c81a17b22ac547132c258feb33b727", func := "buttress/buttresslaw04.CapsPacks", spec := "capsPacks", named := ["buttress/caps.kindPlace", "buttress/caps.rightsPlace", "buttress/caps.bitsPlace", "buttress/caps.objPlace"], apart := false, laid := [("buttress/caps.kindPlace", laid_buttress_caps_kindPlace), ("buttress/caps.rightsPlace", laid_buttress_caps_rightsPlace), ("buttress/caps.bitsPlace", laid_buttress_caps_bitsPlace), ("buttress/caps.objPlace", laid_buttress_caps_objPlace)] }
def CapsPacksSaid : Prop := capsPacksRow.holds Tryd.pinned (OpenSpec.ofChange capsPacksSpec)

/-- ITS FALSE NEIGHBOUR: 'it returns false'. Refute it at one input. -/
def capsPacksWrong : ChangeSpec := { name := "capsPacks", fn := fun _ => fun
  | [d1, d2] => { results := [.lit (.bool false)], args := [d1, d2] }
  | _ => none }
def CapsPacksWrongFalsely : Prop := capsPacksRow.holds Tryd.pinned (OpenSpec.ofChange capsPacksWrong)

/-- 'buttresslaw04.CapsBack': WHATEVER THE INPUT: true; the input reads as it did. -/
def capsBackSpec : ChangeSpec := { name := "capsBack", fn := fun _ => fun
  | [d1, d2, d3] => { results := [.lit (.bool true)], args := [d1, d2, d3] }
  | _ => none }
def capsBackRow : OpenClaim := { program := "ytokehmkegnmfdaadoor", sum := "b5e74ec19953105dcf7225f4b95e518700c81a17b22ac547132c258feb33b727", func := "buttress/buttresslaw04.CapsBack", spec := "capsBack", named := ["buttress/caps.kindPlace", "buttress/caps.rightsPlace", "buttress/caps.bitsPlace", "buttress/caps.objPlace"], apart := false, laid := [("buttress/caps.kindPlace", laid_buttress_caps_kindPlace), ("buttress/caps.rightsPlace", laid_buttress_caps_rightsPlace), ("buttress/caps.bitsPlace", laid_buttress_caps_bitsPlace), ("buttress/caps.objPlace", laid_buttress_caps_objPlace)] }
def CapsBackSaid : Prop := capsBackRow.holds Tryd.pinned (OpenSpec.ofChange capsBackSpec)

/-- ITS FALSE NEIGHBOUR: 'it returns false'. Refute it at one input. -/
def capsBackWrong : ChangeSpec := { name := "capsBack", fn := fun _ => fun
  | [d1, d2, d3] => { results := [.lit (.bool false)], args := [d1, d2, d3] }
  | _ => none }
def CapsBackWrongFalsely : Prop := capsBackRow.holds Tryd.pinned (OpenSpec.ofChange capsBackWrong)

/-- 'buttresslaw04.CapsDerive': WHATEVER THE INPUT: true; the input reads as it did. -/
def capsDeriveSpec : ChangeSpec := { name := "capsDerive", fn := fun _ => fun
  | [d1, d2, d3] => { results := [.lit (.bool true)], args := [d1, d2, d3] }
  | _ => none }
def capsDeriveRow : OpenClaim := { program := "ytokehmkegnmfdaadoor", sum := "b5e74ec19953105dcf7225f4b95e518700c81a17b22ac547132c258feb33b727", func := "buttress/buttresslaw04.CapsDerive", spec := "capsDerive", named := ["buttress/caps.kindPlace", "buttress/caps.rightsPlace", "buttress/caps.bitsPlace", "buttress/caps.objPlace"], apart := false, laid := [("buttress/caps.kindPlace", laid_buttress_caps_kindPlace), ("buttress/caps.rightsPlace", laid_buttress_caps_rightsPlace), ("buttress/caps.bitsPlace", laid_buttress_caps_bitsPlace), ("buttress/caps.objPlace", laid_buttress_caps_objPlace)] }
def CapsDeriveSaid : Prop := capsDeriveRow.holds Tryd.pinned (OpenSpec.ofChange capsDeriveSpec)

/-- ITS FALSE NEIGHBOUR: 'it returns false'. Refute it at one input. -/
def capsDeriveWrong : ChangeSpec := { name := "capsDerive", fn := fun _ => fun
  | [d1, d2, d3] => { results := [.lit (.bool false)], args := [d1, d2, d3] }
  | _ => none }
def CapsDeriveWrongFalsely : Prop := capsDeriveRow.holds Tryd.pinned (OpenSpec.ofChange capsDeriveWrong)

/-- 'buttresslaw04.CapsSame': WHATEVER THE INPUT: true; the input reads as it did. -/
def capsSameSpec : ChangeSpec := { name := "capsSame", fn := fun _ => fun
  | [d1, d2, d3] => { results := [.lit (.bool true)], args := [d1, d2, d3] }
  | _ => none }
def capsSameRow : OpenClaim := { program := "ytokehmkegnmfdaadoor", sum := "b5e74ec19953105dcf7225f4b95e518700c81a17b22ac547132c258feb33b727", func := "buttress/buttresslaw04.CapsSame", spec := "capsSame", named := ["buttress/caps.kindPlace", "buttress/caps.rightsPlace", "buttress/caps.bitsPlace", "buttress/caps.objPlace"], apart := false, laid := [("buttress/caps.kindPlace", laid_buttress_caps_kindPlace), ("buttress/caps.rightsPlace", laid_buttress_caps_rightsPlace), ("buttress/caps.bitsPlace", laid_buttress_caps_bitsPlace), ("buttress/caps.objPlace", laid_buttress_caps_objPlace)] }
def CapsSameSaid : Prop := capsSameRow.holds Tryd.pinned (OpenSpec.ofChange capsSameSpec)

/-- ITS FALSE NEIGHBOUR: 'it returns false'. Refute it at one input. -/
def capsSameWrong : ChangeSpec := { name := "capsSame", fn := fun _ => fun
  | [d1, d2, d3] => { results := [.lit (.bool false)], args := [d1, d2, d3] }
  | _ => none }
def CapsSameWrongFalsely : Prop := capsSameRow.holds Tryd.pinned (OpenSpec.ofChange capsSameWrong)

/- THE SECOND FORM. 'bulk': how many values and letters a reading holds, each counted each time it is reached (what is shared counts as often as it is met; a slice's spare places count too). A statement '..UptoSaid' is the law's where the arguments, and the package variables that the reading takes, are together of bulk at most 1048576: NARROWER than '..Said'. Prove '..Said' where nothing that the law and all that it calls make is longer than what came in: it says more and counts as full. Else prove '..UptoSaid'. A law counts once. -/
mutual
def uptoBulk {H : Type} : DataW H → Nat
  | .lit (.string bytes) => bytes.length + 1
  | .lit _ => 1
  | .nil => 1
  | .ptr d => uptoBulk d + 1
  | .slice elems spare => uptoBulkAll elems + uptoBulkAll spare + 1
  | .agg parts => uptoBulkAll parts + 1
  | .iface _ d => uptoBulk d + 1
  | .map entries => uptoBulkEntries entries + 1
  | .held _ => 1
def uptoBulkAll {H : Type} : List (DataW H) → Nat
  | [] => 0
  | d :: r => uptoBulk d + uptoBulkAll r
def uptoBulkEntries {H : Type} : List (Lit × DataW H) → Nat
  | [] => 0
  | x :: r => uptoBulkEntry x + uptoBulkEntries r
def uptoBulkEntry {H : Type} : Lit × DataW H → Nat
  | (.string bytes, d) => bytes.length + uptoBulk d + 1
  | (_, d) => uptoBulk d + 1
 end
def uptoSmall : (H : Type) → List (DataW H) → Bool := fun _ ds => decide (uptoBulkAll ds ≤ 1048576)
def OpenSpec.upto (s : _root_.Go.ChangeSpec) : _root_.Go.OpenSpec := { _root_.Go.OpenSpec.ofChange s with cond := some uptoSmall }

/-- 'buttresslaw04.CapsChecks', WHERE WHAT IT READS IS OF BULK AT MOST 1048576: true; the input reads as it did. -/
def capsChecksUptoRow : OpenClaim := { program := "ytokehmkegnmfdaadoor", sum := "b5e74ec19953105dcf7225f4b95e518700c81a17b22ac547132c258feb33b727", func := "buttress/buttresslaw04.CapsChecks", spec := "capsChecks", named := ["buttress/caps.kindPlace", "buttress/caps.rightsPlace", "buttress/caps.bitsPlace", "buttress/caps.objPlace"], apart := false, laid := [("buttress/caps.kindPlace", laid_buttress_caps_kindPlace), ("buttress/caps.rightsPlace", laid_buttress_caps_rightsPlace), ("buttress/caps.bitsPlace", laid_buttress_caps_bitsPlace), ("buttress/caps.objPlace", laid_buttress_caps_objPlace)], narrowed := true }
def CapsChecksUptoSaid : Prop := capsChecksUptoRow.holds Tryd.pinned (OpenSpec.upto capsChecksSpec)

/-- 'buttresslaw04.CapsMints', WHERE WHAT IT READS IS OF BULK AT MOST 1048576: true; the input reads as it did. -/
def capsMintsUptoRow : OpenClaim := { program := "ytokehmkegnmfdaadoor", sum := "b5e74ec19953105dcf7225f4b95e518700c81a17b22ac547132c258feb33b727", func := "buttress/buttresslaw04.CapsMints", spec := "capsMints", named := ["buttress/caps.kindPlace", "buttress/caps.rightsPlace", "buttress/caps.bitsPlace", "buttress/caps.objPlace"], apart := false, laid := [("buttress/caps.kindPlace", laid_buttress_caps_kindPlace), ("buttress/caps.rightsPlace", laid_buttress_caps_rightsPlace), ("buttress/caps.bitsPlace", laid_buttress_caps_bitsPlace), ("buttress/caps.objPlace", laid_buttress_caps_objPlace)], narrowed := true }
def CapsMintsUptoSaid : Prop := capsMintsUptoRow.holds Tryd.pinned (OpenSpec.upto capsMintsSpec)

/-- 'buttresslaw04.CapsPacks', WHERE WHAT IT READS IS OF BULK AT MOST 1048576: true; the input reads as it did. -/
def capsPacksUptoRow : OpenClaim := { program := "ytokehmkegnmfdaadoor", sum := "b5e74ec19953105dcf7225f4b95e518700c81a17b22ac547132c258feb33b727", func := "buttress/buttresslaw04.CapsPacks", spec := "capsPacks", named := ["buttress/caps.kindPlace", "buttress/caps.rightsPlace", "buttress/caps.bitsPlace", "buttress/caps.objPlace"], apart := false, laid := [("buttress/caps.kindPlace", laid_buttress_caps_kindPlace), ("buttress/caps.rightsPlace", laid_buttress_caps_rightsPlace), ("buttress/caps.bitsPlace", laid_buttress_caps_bitsPlace), ("buttress/caps.objPlace", laid_buttress_caps_objPlace)], narrowed := true }
def CapsPacksUptoSaid : Prop := capsPacksUptoRow.holds Tryd.pinned (OpenSpec.upto capsPacksSpec)

/-- 'buttresslaw04.CapsBack', WHERE WHAT IT READS IS OF BULK AT MOST 1048576: true; the input reads as it did. -/
def capsBackUptoRow : OpenClaim := { program := "ytokehmkegnmfdaadoor", sum := "b5e74ec19953105dcf7225f4b95e518700c81a17b22ac547132c258feb33b727", func := "buttress/buttresslaw04.CapsBack", spec := "capsBack", named := ["buttress/caps.kindPlace", "buttress/caps.rightsPlace", "buttress/caps.bitsPlace", "buttress/caps.objPlace"], apart := false, laid := [("buttress/caps.kindPlace", laid_buttress_caps_kindPlace), ("buttress/caps.rightsPlace", laid_buttress_caps_rightsPlace), ("buttress/caps.bitsPlace", laid_buttress_caps_bitsPlace), ("buttress/caps.objPlace", laid_buttress_caps_objPlace)], narrowed := true }
def CapsBackUptoSaid : Prop := capsBackUptoRow.holds Tryd.pinned (OpenSpec.upto capsBackSpec)

/-- 'buttresslaw04.CapsDerive', WHERE WHAT IT READS IS OF BULK AT MOST 1048576: true; the input reads as it did. -/
def capsDeriveUptoRow : OpenClaim := { program := "ytokehmkegnmfdaadoor", sum := "b5e74ec19953105dcf7225f4b95e518700c81a17b22ac547132c258feb33b727", func := "buttress/buttresslaw04.CapsDerive", spec := "capsDerive", named := ["buttress/caps.kindPlace", "buttress/caps.rightsPlace", "buttress/caps.bitsPlace", "buttress/caps.objPlace"], apart := false, laid := [("buttress/caps.kindPlace", laid_buttress_caps_kindPlace), ("buttress/caps.rightsPlace", laid_buttress_caps_rightsPlace), ("buttress/caps.bitsPlace", laid_buttress_caps_bitsPlace), ("buttress/caps.objPlace", laid_buttress_caps_objPlace)], narrowed := true }
def CapsDeriveUptoSaid : Prop := capsDeriveUptoRow.holds Tryd.pinned (OpenSpec.upto capsDeriveSpec)

/-- 'buttresslaw04.CapsSame', WHERE WHAT IT READS IS OF BULK AT MOST 1048576: true; the input reads as it did. -/
def capsSameUptoRow : OpenClaim := { program := "ytokehmkegnmfdaadoor", sum := "b5e74ec19953105dcf7225f4b95e518700c81a17b22ac547132c258feb33b727", func := "buttress/buttresslaw04.CapsSame", spec := "capsSame", named := ["buttress/caps.kindPlace", "buttress/caps.rightsPlace", "buttress/caps.bitsPlace", "buttress/caps.objPlace"], apart := false, laid := [("buttress/caps.kindPlace", laid_buttress_caps_kindPlace), ("buttress/caps.rightsPlace", laid_buttress_caps_rightsPlace), ("buttress/caps.bitsPlace", laid_buttress_caps_bitsPlace), ("buttress/caps.objPlace", laid_buttress_caps_objPlace)], narrowed := true }
def CapsSameUptoSaid : Prop := capsSameUptoRow.holds Tryd.pinned (OpenSpec.upto capsSameSpec)

end Rows
end Go.Proofs.YtokehmkegnmfdaaDoor

/-
  NARROWER THAN 'FOR EVERY INPUT', by the rows' own cells (each row's printed sentence says how): CapsOrder: laid · CapsLess: laid · CapsGuards: laid.
  DERIVED. THE GIVEN ROWS OF THIS SEAT. 3 by the template 'for every input the law returns true; each argument reads behind the call as it read before'; 0 by the template 'total and deterministic' (their statements: YtokehmkegnmfdabDoorTotals.lean).
  GIVEN WITH THE SEED: the statements are not yours to turn. If you find one false, say at which input.
  Laid BY PROGRAM, IN A SANDBOX (cutbox-rows.mjs): the forced cells as the released guide's own fill.sh prints them over the translation 5b600703e002df37… (all of the seat's roots in one cut). By AI agents, Wed Nov 11 2026. No macro, syntax, notation, axiom, sorry.
-/
import Derived.Test.YtokehmkegnmfdabDoorChecked
import GoSem.Claim
import GoSem.ClaimJoined
import GoSem.ClaimMapViews
import Derived.JoinedTies
import Derived.KernelRfl
namespace Go.Proofs.YtokehmkegnmfdabDoor
/- THE CELL 'sum', in the pinned program and in every row, IS THE sha256 OF THE DUMP (.gsa) THAT YtokehmkegnmfdabDoorProg.lean LOADS. Nothing in Lean hashes anything: it is a label: what it is worth is what the hold of that sum in a sandbox is worth. -/
noncomputable def Tryd.pinned : Pinned := { name := "ytokehmkegnmfdabdoor", sum := "5b600703e002df37d831dfbf350984c00bb5d1beaddb5cf80b315ef98868abb0", checked := Tryd.checked }
namespace Rows
def none {H : Type} : Left H := { results := [], args := [] }

/- WHAT THE LISTED PACKAGE-LEVEL VARIABLES READ AS WHEN THE CALL BEGINS. Each datum BY PROGRAM (the guide's laid-datum.mjs) off the statement by which the dump's own 'gosem.cut.vars' lays the variable. In a bare row this is a premise. The card (YtokehmkegnmfdabDoorCards.lean) ties it to the program's text. -/
def laid_buttress_caps_kindPlace {H : Type} : DataW H := .agg [.lit (.int .i64 0), .lit (.int .i64 4)]
def laid_buttress_caps_rightsPlace {H : Type} : DataW H := .agg [.lit (.int .i64 4), .lit (.int .i64 3)]
def laid_buttress_caps_bitsPlace {H : Type} : DataW H := .agg [.lit (.int .i64 7), .lit (.int .i64 7)]
def laid_buttress_caps_objPlace {H : Type} : DataW H := .agg [.lit (.int .i64 16), .lit (.int .i64 31)]

/-- 'buttresslaw04.CapsOrder': WHATEVER THE INPUT: true; the input reads as it did. -/
def capsOrderSpec : ChangeSpec := { name := "capsOrder", fn := fun _ => fun
  | [d1, d2, d3] => { results := [.lit (.bool true)], args := [d1, d2, d3] }
  | _ => none }
def capsOrderRow : OpenClaim := { program := "ytokehmkegnmfdabdoor", sum := "5b600703e002df37d831dfbf350984c00bb5d1beaddb5cf80b315ef98868abb0", func := "buttress/buttresslaw04.CapsOrder", spec := "capsOrder", named := ["buttress/caps.kindPlace", "buttress/caps.rightsPlace", "buttress/caps.bitsPlace", "buttress/caps.objPlace"], apart := false, laid := [("buttress/caps.kindPlace", laid_buttress_caps_kindPlace), ("buttress/caps.rightsPlace", laid_buttress_caps_rightsPlace), ("buttress/caps.bitsPlace", laid_buttress_caps_bitsPlace), ("buttress/caps.objPlace", laid_buttress_caps_objPlace)] }
def CapsOrderSaid : Prop := capsOrderRow.holds Tryd.pinned (OpenSpec.ofChange capsOrderSpec)

/-- ITS FALSE NEIGHBOUR: 'it returns false'. Refute it at one input. -/
def capsOrderWrong : ChangeSpec := { name := "capsOrder", fn := fun _ => fun
  | [d1, d2, d3] => { results := [.lit (.bool false)], args := [d1, d2, d3] }
  | _ => none }
def CapsOrderWrongFalsely : Prop := capsOrderRow.holds Tryd.pinned (OpenSpec.ofChange capsOrderWrong)

/-- 'buttresslaw04.CapsLess': WHATEVER THE INPUT: true; the input reads as it did. -/
def capsLessSpec : ChangeSpec := { name := "capsLess", fn := fun _ => fun
  | [d1, d2, d3] => { results := [.lit (.bool true)], args := [d1, d2, d3] }
  | _ => none }
def capsLessRow : OpenClaim := { program := "ytokehmkegnmfdabdoor", sum := "5b600703e002df37d831dfbf350984c00bb5d1beaddb5cf80b315ef98868abb0", func := "buttress/buttresslaw04.CapsLess", spec := "capsLess", named := ["buttress/caps.kindPlace", "buttress/caps.rightsPlace", "buttress/caps.bitsPlace", "buttress/caps.objPlace"], apart := false, laid := [("buttress/caps.kindPlace", laid_buttress_caps_kindPlace), ("buttress/caps.rightsPlace", laid_buttress_caps_rightsPlace), ("buttress/caps.bitsPlace", laid_buttress_caps_bitsPlace), ("buttress/caps.objPlace", laid_buttress_caps_objPlace)] }
def CapsLessSaid : Prop := capsLessRow.holds Tryd.pinned (OpenSpec.ofChange capsLessSpec)

/-- ITS FALSE NEIGHBOUR: 'it returns false'. Refute it at one input. -/
def capsLessWrong : ChangeSpec := { name := "capsLess", fn := fun _ => fun
  | [d1, d2, d3] => { results := [.lit (.bool false)], args := [d1, d2, d3] }
  | _ => none }
def CapsLessWrongFalsely : Prop := capsLessRow.holds Tryd.pinned (OpenSpec.ofChange capsLessWrong)

/-- 'buttresslaw04.CapsGuards': WHATEVER THE INPUT: true; the input reads as it did. -/
def capsGuardsSpec : ChangeSpec := { name := "capsGuards", fn := fun _ => fun
  | [d1, d2, d3] => { results := [.lit (.bool true)], args := [d1, d2, d3] }
  | _ => none }
def capsGuardsRow : OpenClaim := { program := "ytokehmkegnmfdabdoor", sum := "5b600703e002df37d831dfbf350984c00bb5d1beaddb5cf80b315ef98868abb0", func := "buttress/buttresslaw04.CapsGuards", spec := "capsGuards", named := ["buttress/caps.kindPlace", "buttress/caps.rightsPlace", "buttress/caps.bitsPlace", "buttress/caps.objPlace"], apart := false, laid := [("buttress/caps.kindPlace", laid_buttress_caps_kindPlace), ("buttress/caps.rightsPlace", laid_buttress_caps_rightsPlace), ("buttress/caps.bitsPlace", laid_buttress_caps_bitsPlace), ("buttress/caps.objPlace", laid_buttress_caps_objPlace)] }
def CapsGuardsSaid : Prop := capsGuardsRow.holds Tryd.pinned (OpenSpec.ofChange capsGuardsSpec)

/-- ITS FALSE NEIGHBOUR: 'it returns false'. Refute it at one input. -/
def capsGuardsWrong : ChangeSpec := { name := "capsGuards", fn := fun _ => fun
  | [d1, d2, d3] => { results := [.lit (.bool false)], args := [d1, d2, d3] }
  | _ => none }
def CapsGuardsWrongFalsely : Prop := capsGuardsRow.holds Tryd.pinned (OpenSpec.ofChange capsGuardsWrong)

/- THE SECOND FORM. 'bulk': how many values and letters a reading holds, each counted each time it is reached (what is shared counts as often as it is met; a slice's spare places count too). A statement '..UptoSaid' is the law's where the arguments, and the package variables that the reading takes, are together of bulk at most 1048576: NARROWER than '..Said'. Prove '..Said' where nothing that the law and all that it calls make is longer than what came in: it says more and counts as full. Else prove '..UptoSaid'. A law counts once. -/
mutual
def uptoBulk {H : Type} : DataW H → Nat
  | .lit (.string bytes) => bytes.length + 1
  | .lit _ => 1
  | .nil => 1
  | .ptr d => uptoBulk d + 1
  | .slice elems spare => uptoBulkAll elems + uptoBulkAll spare + 1
  | .agg parts => uptoBulkAll parts + 1
  | .iface _ d => uptoBulk d + 1
  | .map entries => uptoBulkEntries entries + 1
  | .held _ => 1
def uptoBulkAll {H : Type} : List (DataW H) → Nat
  | [] => 0
  | d :: r => uptoBulk d + uptoBulkAll r
def uptoBulkEntries {H : Type} : List (Lit × DataW H) → Nat
  | [] => 0
  | x :: r => uptoBulkEntry x + uptoBulkEntries r
def uptoBulkEntry {H : Type} : Lit × DataW H → Nat
  | (.string bytes, d) => bytes.length + uptoBulk d + 1
  | (_, d) => uptoBulk d + 1
 end
def uptoSmall : (H : Type) → List (DataW H) → Bool := fun _ ds => decide (uptoBulkAll ds ≤ 1048576)
def OpenSpec.upto (s : _root_.Go.ChangeSpec) : _root_.Go.OpenSpec := { _root_.Go.OpenSpec.ofChange s with cond := some uptoSmall }

/-- 'buttresslaw04.CapsOrder', WHERE WHAT IT READS IS OF BULK AT MOST 1048576: true; the input reads as it did. -/
def capsOrderUptoRow : OpenClaim := { program := "ytokehmkegnmfdabdoor", sum := "5b600703e002df37d831dfbf350984c00bb5d1beaddb5cf80b315ef98868abb0", func := "buttress/buttresslaw04.CapsOrder", spec := "capsOrder", named := ["buttress/caps.kindPlace", "buttress/caps.rightsPlace", "buttress/caps.bitsPlace", "buttress/caps.objPlace"], apart := false, laid := [("buttress/caps.kindPlace", laid_buttress_caps_kindPlace), ("buttress/caps.rightsPlace", laid_buttress_caps_rightsPlace), ("buttress/caps.bitsPlace", laid_buttress_caps_bitsPlace), ("buttress/caps.objPlace", laid_buttress_caps_objPlace)], narrowed := true }
def CapsOrderUptoSaid : Prop := capsOrderUptoRow.holds Tryd.pinned (OpenSpec.upto capsOrderSpec)

/-- 'buttresslaw04.CapsLess', WHERE WHAT IT READS IS OF BULK AT MOST 1048576: true; the input reads as it did. -/
def capsLessUptoRow : OpenClaim := { program := "ytokehmkegnmfdabdoor", sum := "5b600703e002df37d831dfbf350984c00bb5d1beaddb5cf80b315ef98868abb0", func := "buttress/buttresslaw04.CapsLess", spec := "capsLess", named := ["buttress/caps.kindPlace", "buttress/caps.rightsPlace", "buttress/caps.bitsPlace", "buttress/caps.objPlace"], apart := false, laid := [("buttress/caps.kindPlace", laid_buttress_caps_kindPlace), ("buttress/caps.rightsPlace", laid_buttress_caps_rightsPlace), ("buttress/caps.bitsPlace", laid_buttress_caps_bitsPlace), ("buttress/caps.objPlace", laid_buttress_caps_objPlace)], narrowed := true }
def CapsLessUptoSaid : Prop := capsLessUptoRow.holds Tryd.pinned (OpenSpec.upto capsLessSpec)

/-- 'buttresslaw04.CapsGuards', WHERE WHAT IT READS IS OF BULK AT MOST 1048576: true; the input reads as it did. -/
def capsGuardsUptoRow : OpenClaim := { program := "ytokehmkegnmfdabdoor", sum := "5b600703e002df37d831dfbf350984c00bb5d1beaddb5cf80b315ef98868abb0", func := "buttress/buttresslaw04.CapsGuards", spec := "capsGuards", named := ["buttress/caps.kindPlace", "buttress/caps.rightsPlace", "buttress/caps.bitsPlace", "buttress/caps.objPlace"], apart := false, laid := [("buttress/caps.kindPlace", laid_buttress_caps_kindPlace), ("buttress/caps.rightsPlace", laid_buttress_caps_rightsPlace), ("buttress/caps.bitsPlace", laid_buttress_caps_bitsPlace), ("buttress/caps.objPlace", laid_buttress_caps_objPlace)], narrowed := true }
def CapsGuardsUptoSaid : Prop := capsGuardsUptoRow.holds Tryd.pinned (OpenSpec.upto capsGuardsSpec)

end Rows
end Go.Proofs.YtokehmkegnmfdabDoor

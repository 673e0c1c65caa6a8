/-
  NARROWER THAN 'FOR EVERY INPUT', by the rows' own cells (each row's printed sentence says how): Controls: laid · ControlStalls: laid · ControlAborts: laid · ControlGives: laid.
  DERIVED. THE GIVEN ROWS OF THIS SEAT. 4 by the template 'for every input the law returns true; each argument reads behind the call as it read before'; 0 by the template 'total and deterministic' (their statements: YtmlfkbkpkgaefaaGreatDoorTotals.lean).
  GIVEN WITH THE SEED: the statements are not yours to turn. If you find one false, say at which input.
  Laid BY PROGRAM, IN A SANDBOX (cutbox-rows.mjs): the forced cells as the released guide's own fill.sh prints them over the translation 98278586f9847625… (all of the seat's roots in one cut). By AI agents, Wed Nov 11 2026. No macro, syntax, notation, axiom, sorry.
-/
import Derived.Test.YtmlfkbkpkgaefaaGreatDoorChecked
import GoSem.Claim
import GoSem.ClaimJoined
import GoSem.ClaimMapViews
import Derived.JoinedTies
import Derived.KernelRfl
namespace Go.Proofs.YtmlfkbkpkgaefaaGreatDoor
/- THE CELL 'sum', in the pinned program and in every row, IS THE sha256 OF THE DUMP (.gsa) THAT YtmlfkbkpkgaefaaGreatDoorProg.lean LOADS. Nothing in Lean hashes anything: it is a label: what it is worth is what the hold of that sum in a sandbox is worth. -/
noncomputable def Tryz.pinned : Pinned := { name := "ytmlfkbkpkgaefaagreatdoor", sum := "98278586f984762523930be812210c57302fdf7528197e92949bf67f5345dd87", checked := Tryz.checked }
namespace Rows
def none {H : Type} : Left H := { results := [], args := [] }

/- WHAT THE LISTED PACKAGE-LEVEL VARIABLES READ AS WHEN THE CALL BEGINS. Each datum BY PROGRAM (the guide's laid-datum.mjs) off the statement by which the dump's own 'gosem.cut.vars' lays the variable. In a bare row this is a premise. The card (YtmlfkbkpkgaefaaGreatDoorCards.lean) ties it to the program's text. -/
def laid_skiff_table_allowed {H : Type} : DataW H := .agg [.agg [.lit (.int .i64 0), .lit (.int .i64 1)], .agg [.lit (.int .i64 3), .lit (.int .i64 1)], .agg [.lit (.int .i64 0), .lit (.int .i64 2)], .agg [.lit (.int .i64 6), .lit (.int .i64 2)], .agg [.lit (.int .i64 7), .lit (.int .i64 4)], .agg [.lit (.int .i64 0), .lit (.int .i64 6)], .agg [.lit (.int .i64 3), .lit (.int .i64 6)], .agg [.lit (.int .i64 6), .lit (.int .i64 6)]]

/-- 'skifflaw21.Controls': WHATEVER THE INPUT: true; the input reads as it did. -/
def controlsSpec : ChangeSpec := { name := "controls", fn := fun _ => fun
  | [d1, d2, d3, d4] => { results := [.lit (.bool true)], args := [d1, d2, d3, d4] }
  | _ => none }
def controlsRow : OpenClaim := { program := "ytmlfkbkpkgaefaagreatdoor", sum := "98278586f984762523930be812210c57302fdf7528197e92949bf67f5345dd87", func := "skiff/skifflaw21.Controls", spec := "controls", unfollowed := true, recurses := true, named := ["skiff/table.allowed"], apart := false, laid := [("skiff/table.allowed", laid_skiff_table_allowed)] }
def ControlsSaid : Prop := controlsRow.holds Tryz.pinned (OpenSpec.ofChange controlsSpec)

/-- ITS FALSE NEIGHBOUR: 'it returns false'. Refute it at one input. -/
def controlsWrong : ChangeSpec := { name := "controls", fn := fun _ => fun
  | [d1, d2, d3, d4] => { results := [.lit (.bool false)], args := [d1, d2, d3, d4] }
  | _ => none }
def ControlsWrongFalsely : Prop := controlsRow.holds Tryz.pinned (OpenSpec.ofChange controlsWrong)

/-- 'skifflaw21.ControlStalls': WHATEVER THE INPUT: true; the input reads as it did. -/
def controlStallsSpec : ChangeSpec := { name := "controlStalls", fn := fun _ => fun
  | [d1, d2, d3, d4, d5] => { results := [.lit (.bool true)], args := [d1, d2, d3, d4, d5] }
  | _ => none }
def controlStallsRow : OpenClaim := { program := "ytmlfkbkpkgaefaagreatdoor", sum := "98278586f984762523930be812210c57302fdf7528197e92949bf67f5345dd87", func := "skiff/skifflaw21.ControlStalls", spec := "controlStalls", unfollowed := true, recurses := true, named := ["skiff/table.allowed"], apart := false, laid := [("skiff/table.allowed", laid_skiff_table_allowed)] }
def ControlStallsSaid : Prop := controlStallsRow.holds Tryz.pinned (OpenSpec.ofChange controlStallsSpec)

/-- ITS FALSE NEIGHBOUR: 'it returns false'. Refute it at one input. -/
def controlStallsWrong : ChangeSpec := { name := "controlStalls", fn := fun _ => fun
  | [d1, d2, d3, d4, d5] => { results := [.lit (.bool false)], args := [d1, d2, d3, d4, d5] }
  | _ => none }
def ControlStallsWrongFalsely : Prop := controlStallsRow.holds Tryz.pinned (OpenSpec.ofChange controlStallsWrong)

/-- 'skifflaw21.ControlAborts': WHATEVER THE INPUT: true; the input reads as it did. -/
def controlAbortsSpec : ChangeSpec := { name := "controlAborts", fn := fun _ => fun
  | [d1, d2] => { results := [.lit (.bool true)], args := [d1, d2] }
  | _ => none }
def controlAbortsRow : OpenClaim := { program := "ytmlfkbkpkgaefaagreatdoor", sum := "98278586f984762523930be812210c57302fdf7528197e92949bf67f5345dd87", func := "skiff/skifflaw21.ControlAborts", spec := "controlAborts", unfollowed := true, recurses := true, named := ["skiff/table.allowed"], apart := false, laid := [("skiff/table.allowed", laid_skiff_table_allowed)] }
def ControlAbortsSaid : Prop := controlAbortsRow.holds Tryz.pinned (OpenSpec.ofChange controlAbortsSpec)

/-- ITS FALSE NEIGHBOUR: 'it returns false'. Refute it at one input. -/
def controlAbortsWrong : ChangeSpec := { name := "controlAborts", fn := fun _ => fun
  | [d1, d2] => { results := [.lit (.bool false)], args := [d1, d2] }
  | _ => none }
def ControlAbortsWrongFalsely : Prop := controlAbortsRow.holds Tryz.pinned (OpenSpec.ofChange controlAbortsWrong)

/-- 'skifflaw21.ControlGives': WHATEVER THE INPUT: true; the input reads as it did. -/
def controlGivesSpec : ChangeSpec := { name := "controlGives", fn := fun _ => fun
  | [d1, d2, d3] => { results := [.lit (.bool true)], args := [d1, d2, d3] }
  | _ => none }
def controlGivesRow : OpenClaim := { program := "ytmlfkbkpkgaefaagreatdoor", sum := "98278586f984762523930be812210c57302fdf7528197e92949bf67f5345dd87", func := "skiff/skifflaw21.ControlGives", spec := "controlGives", unfollowed := true, recurses := true, named := ["skiff/table.allowed"], apart := false, laid := [("skiff/table.allowed", laid_skiff_table_allowed)] }
def ControlGivesSaid : Prop := controlGivesRow.holds Tryz.pinned (OpenSpec.ofChange controlGivesSpec)

/-- ITS FALSE NEIGHBOUR: 'it returns false'. Refute it at one input. -/
def controlGivesWrong : ChangeSpec := { name := "controlGives", fn := fun _ => fun
  | [d1, d2, d3] => { results := [.lit (.bool false)], args := [d1, d2, d3] }
  | _ => none }
def ControlGivesWrongFalsely : Prop := controlGivesRow.holds Tryz.pinned (OpenSpec.ofChange controlGivesWrong)

/- THE SECOND FORM. 'bulk': how many values and letters a reading holds, each counted each time it is reached (what is shared counts as often as it is met; a slice's spare places count too). A statement '..UptoSaid' is the law's where the arguments, and the package variables that the reading takes, are together of bulk at most 1048576: NARROWER than '..Said'. Prove '..Said' where nothing that the law and all that it calls make is longer than what came in: it says more and counts as full. Else prove '..UptoSaid'. A law counts once. -/
mutual
def uptoBulk {H : Type} : DataW H → Nat
  | .lit (.string bytes) => bytes.length + 1
  | .lit _ => 1
  | .nil => 1
  | .ptr d => uptoBulk d + 1
  | .slice elems spare => uptoBulkAll elems + uptoBulkAll spare + 1
  | .agg parts => uptoBulkAll parts + 1
  | .iface _ d => uptoBulk d + 1
  | .map entries => uptoBulkEntries entries + 1
  | .held _ => 1
def uptoBulkAll {H : Type} : List (DataW H) → Nat
  | [] => 0
  | d :: r => uptoBulk d + uptoBulkAll r
def uptoBulkEntries {H : Type} : List (Lit × DataW H) → Nat
  | [] => 0
  | x :: r => uptoBulkEntry x + uptoBulkEntries r
def uptoBulkEntry {H : Type} : Lit × DataW H → Nat
  | (.string bytes, d) => bytes.length + uptoBulk d + 1
  | (_, d) => uptoBulk d + 1
 end
def uptoSmall : (H : Type) → List (DataW H) → Bool := fun _ ds => decide (uptoBulkAll ds ≤ 1048576)
def OpenSpec.upto (s : _root_.Go.ChangeSpec) : _root_.Go.OpenSpec := { _root_.Go.OpenSpec.ofChange s with cond := some uptoSmall }

/-- 'skifflaw21.Controls', WHERE WHAT IT READS IS OF BULK AT MOST 1048576: true; the input reads as it did. -/
def controlsUptoRow : OpenClaim := { program := "ytmlfkbkpkgaefaagreatdoor", sum := "98278586f984762523930be812210c57302fdf7528197e92949bf67f5345dd87", func := "skiff/skifflaw21.Controls", spec := "controls", unfollowed := true, recurses := true, named := ["skiff/table.allowed"], apart := false, laid := [("skiff/table.allowed", laid_skiff_table_allowed)], narrowed := true }
def ControlsUptoSaid : Prop := controlsUptoRow.holds Tryz.pinned (OpenSpec.upto controlsSpec)

/-- 'skifflaw21.ControlStalls', WHERE WHAT IT READS IS OF BULK AT MOST 1048576: true; the input reads as it did. -/
def controlStallsUptoRow : OpenClaim := { program := "ytmlfkbkpkgaefaagreatdoor", sum := "98278586f984762523930be812210c57302fdf7528197e92949bf67f5345dd87", func := "skiff/skifflaw21.ControlStalls", spec := "controlStalls", unfollowed := true, recurses := true, named := ["skiff/table.allowed"], apart := false, laid := [("skiff/table.allowed", laid_skiff_table_allowed)], narrowed := true }
def ControlStallsUptoSaid : Prop := controlStallsUptoRow.holds Tryz.pinned (OpenSpec.upto controlStallsSpec)

/-- 'skifflaw21.ControlAborts', WHERE WHAT IT READS IS OF BULK AT MOST 1048576: true; the input reads as it did. -/
def controlAbortsUptoRow : OpenClaim := { program := "ytmlfkbkpkgaefaagreatdoor", sum := "98278586f984762523930be812210c57302fdf7528197e92949bf67f5345dd87", func := "skiff/skifflaw21.ControlAborts", spec := "controlAborts", unfollowed := true, recurses := true, named := ["skiff/table.allowed"], apart := false, laid := [("skiff/table.allowed", laid_skiff_table_allowed)], narrowed := true }
def ControlAbortsUptoSaid : Prop := controlAbortsUptoRow.holds Tryz.pinned (OpenSpec.upto controlAbortsSpec)

/-- 'skifflaw21.ControlGives', WHERE WHAT IT READS IS OF BULK AT MOST 1048576: true; the input reads as it did. -/
def controlGivesUptoRow : OpenClaim := { program := "ytmlfkbkpkgaefaagreatdoor", sum := "98278586f984762523930be812210c57302fdf7528197e92949bf67f5345dd87", func := "skiff/skifflaw21.ControlGives", spec := "controlGives", unfollowed := true, recurses := true, named := ["skiff/table.allowed"], apart := false, laid := [("skiff/table.allowed", laid_skiff_table_allowed)], narrowed := true }
def ControlGivesUptoSaid : Prop := controlGivesUptoRow.holds Tryz.pinned (OpenSpec.upto controlGivesSpec)

end Rows
end Go.Proofs.YtmlfkbkpkgaefaaGreatDoor

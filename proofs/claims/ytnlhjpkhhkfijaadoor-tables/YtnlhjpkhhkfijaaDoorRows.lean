/-
  NARROWER THAN 'FOR EVERY INPUT', by the rows' own cells (each row's printed sentence says how): Tables: laid · TableAll: laid · TableWays: laid.
  DERIVED. THE GIVEN ROWS OF THIS SEAT. 3 by the template 'for every input the law returns true; each argument reads behind the call as it read before'; 0 by the template 'total and deterministic' (their statements: YtnlhjpkhhkfijaaDoorTotals.lean).
  GIVEN WITH THE SEED: the statements are not yours to turn. If you find one false, say at which input.
  Laid BY PROGRAM, IN A SANDBOX (cutbox-rows.mjs): the forced cells as the released guide's own fill.sh prints them over the translation dddbaaba79e02f66… (all of the seat's roots in one cut). By AI agents, Wed Nov 11 2026. No macro, syntax, notation, axiom, sorry.
-/
import Derived.Test.YtnlhjpkhhkfijaaDoorChecked
import GoSem.Claim
import GoSem.ClaimJoined
import GoSem.ClaimMapViews
import Derived.JoinedTies
import Derived.KernelRfl
namespace Go.Proofs.YtnlhjpkhhkfijaaDoor
/- THE CELL 'sum', in the pinned program and in every row, IS THE sha256 OF THE DUMP (.gsa) THAT YtnlhjpkhhkfijaaDoorProg.lean LOADS. Nothing in Lean hashes anything: it is a label: what it is worth is what the hold of that sum in a sandbox is worth. -/
noncomputable def Tryd.pinned : Pinned := { name := "ytnlhjpkhhkfijaadoor", sum := "dddbaaba79e02f66e6441eb007adc5c29335ff041b06655e870c7515b378b652", checked := Tryd.checked }
namespace Rows
def none {H : Type} : Left H := { results := [], args := [] }

/- WHAT THE LISTED PACKAGE-LEVEL VARIABLES READ AS WHEN THE CALL BEGINS. Each datum BY PROGRAM (the guide's laid-datum.mjs) off the statement by which the dump's own 'gosem.cut.vars' lays the variable. In a bare row this is a premise. The card (YtnlhjpkhhkfijaaDoorCards.lean) ties it to the program's text. -/
def laid_skiff_table_allowed {H : Type} : DataW H := .agg [.agg [.lit (.int .i64 0), .lit (.int .i64 1)], .agg [.lit (.int .i64 3), .lit (.int .i64 1)], .agg [.lit (.int .i64 0), .lit (.int .i64 2)], .agg [.lit (.int .i64 6), .lit (.int .i64 2)], .agg [.lit (.int .i64 7), .lit (.int .i64 4)], .agg [.lit (.int .i64 0), .lit (.int .i64 6)], .agg [.lit (.int .i64 3), .lit (.int .i64 6)], .agg [.lit (.int .i64 6), .lit (.int .i64 6)]]

/-- 'skifflaw15.Tables': WHATEVER THE INPUT: true; the input reads as it did. -/
def tablesSpec : ChangeSpec := { name := "tables", fn := fun _ => fun
  | [d1, d2] => { results := [.lit (.bool true)], args := [d1, d2] }
  | _ => none }
def tablesRow : OpenClaim := { program := "ytnlhjpkhhkfijaadoor", sum := "dddbaaba79e02f66e6441eb007adc5c29335ff041b06655e870c7515b378b652", func := "skiff/skifflaw15.Tables", spec := "tables", named := ["skiff/table.allowed"], apart := false, laid := [("skiff/table.allowed", laid_skiff_table_allowed)] }
def TablesSaid : Prop := tablesRow.holds Tryd.pinned (OpenSpec.ofChange tablesSpec)

/-- ITS FALSE NEIGHBOUR: 'it returns false'. Refute it at one input. -/
def tablesWrong : ChangeSpec := { name := "tables", fn := fun _ => fun
  | [d1, d2] => { results := [.lit (.bool false)], args := [d1, d2] }
  | _ => none }
def TablesWrongFalsely : Prop := tablesRow.holds Tryd.pinned (OpenSpec.ofChange tablesWrong)

/-- 'skifflaw15.TableAll': WHATEVER THE INPUT: true; the input reads as it did. -/
def tableAllSpec : ChangeSpec := { name := "tableAll", fn := fun _ => fun
  | [d1, d2, d3] => { results := [.lit (.bool true)], args := [d1, d2, d3] }
  | _ => none }
def tableAllRow : OpenClaim := { program := "ytnlhjpkhhkfijaadoor", sum := "dddbaaba79e02f66e6441eb007adc5c29335ff041b06655e870c7515b378b652", func := "skiff/skifflaw15.TableAll", spec := "tableAll", named := ["skiff/table.allowed"], apart := false, laid := [("skiff/table.allowed", laid_skiff_table_allowed)] }
def TableAllSaid : Prop := tableAllRow.holds Tryd.pinned (OpenSpec.ofChange tableAllSpec)

/-- ITS FALSE NEIGHBOUR: 'it returns false'. Refute it at one input. -/
def tableAllWrong : ChangeSpec := { name := "tableAll", fn := fun _ => fun
  | [d1, d2, d3] => { results := [.lit (.bool false)], args := [d1, d2, d3] }
  | _ => none }
def TableAllWrongFalsely : Prop := tableAllRow.holds Tryd.pinned (OpenSpec.ofChange tableAllWrong)

/-- 'skifflaw15.TableWays': WHATEVER THE INPUT: true; the input reads as it did. -/
def tableWaysSpec : ChangeSpec := { name := "tableWays", fn := fun _ => fun
  | [d] => { results := [.lit (.bool true)], args := [d] }
  | _ => none }
def tableWaysRow : OpenClaim := { program := "ytnlhjpkhhkfijaadoor", sum := "dddbaaba79e02f66e6441eb007adc5c29335ff041b06655e870c7515b378b652", func := "skiff/skifflaw15.TableWays", spec := "tableWays", named := ["skiff/table.allowed"], apart := false, laid := [("skiff/table.allowed", laid_skiff_table_allowed)] }
def TableWaysSaid : Prop := tableWaysRow.holds Tryd.pinned (OpenSpec.ofChange tableWaysSpec)

/-- ITS FALSE NEIGHBOUR: 'it returns false'. Refute it at one input. -/
def tableWaysWrong : ChangeSpec := { name := "tableWays", fn := fun _ => fun
  | [d] => { results := [.lit (.bool false)], args := [d] }
  | _ => none }
def TableWaysWrongFalsely : Prop := tableWaysRow.holds Tryd.pinned (OpenSpec.ofChange tableWaysWrong)

/- THE SECOND FORM. 'bulk': how many values and letters a reading holds, each counted each time it is reached (what is shared counts as often as it is met; a slice's spare places count too). A statement '..UptoSaid' is the law's where the arguments, and the package variables that the reading takes, are together of bulk at most 1048576: NARROWER than '..Said'. Prove '..Said' where nothing that the law and all that it calls make is longer than what came in: it says more and counts as full. Else prove '..UptoSaid'. A law counts once. -/
mutual
def uptoBulk {H : Type} : DataW H → Nat
  | .lit (.string bytes) => bytes.length + 1
  | .lit _ => 1
  | .nil => 1
  | .ptr d => uptoBulk d + 1
  | .slice elems spare => uptoBulkAll elems + uptoBulkAll spare + 1
  | .agg parts => uptoBulkAll parts + 1
  | .iface _ d => uptoBulk d + 1
  | .map entries => uptoBulkEntries entries + 1
  | .held _ => 1
def uptoBulkAll {H : Type} : List (DataW H) → Nat
  | [] => 0
  | d :: r => uptoBulk d + uptoBulkAll r
def uptoBulkEntries {H : Type} : List (Lit × DataW H) → Nat
  | [] => 0
  | x :: r => uptoBulkEntry x + uptoBulkEntries r
def uptoBulkEntry {H : Type} : Lit × DataW H → Nat
  | (.string bytes, d) => bytes.length + uptoBulk d + 1
  | (_, d) => uptoBulk d + 1
 end
def uptoSmall : (H : Type) → List (DataW H) → Bool := fun _ ds => decide (uptoBulkAll ds ≤ 1048576)
def OpenSpec.upto (s : _root_.Go.ChangeSpec) : _root_.Go.OpenSpec := { _root_.Go.OpenSpec.ofChange s with cond := some uptoSmall }

/-- 'skifflaw15.Tables', WHERE WHAT IT READS IS OF BULK AT MOST 1048576: true; the input reads as it did. -/
def tablesUptoRow : OpenClaim := { program := "ytnlhjpkhhkfijaadoor", sum := "dddbaaba79e02f66e6441eb007adc5c29335ff041b06655e870c7515b378b652", func := "skiff/skifflaw15.Tables", spec := "tables", named := ["skiff/table.allowed"], apart := false, laid := [("skiff/table.allowed", laid_skiff_table_allowed)], narrowed := true }
def TablesUptoSaid : Prop := tablesUptoRow.holds Tryd.pinned (OpenSpec.upto tablesSpec)

/-- 'skifflaw15.TableAll', WHERE WHAT IT READS IS OF BULK AT MOST 1048576: true; the input reads as it did. -/
def tableAllUptoRow : OpenClaim := { program := "ytnlhjpkhhkfijaadoor", sum := "dddbaaba79e02f66e6441eb007adc5c29335ff041b06655e870c7515b378b652", func := "skiff/skifflaw15.TableAll", spec := "tableAll", named := ["skiff/table.allowed"], apart := false, laid := [("skiff/table.allowed", laid_skiff_table_allowed)], narrowed := true }
def TableAllUptoSaid : Prop := tableAllUptoRow.holds Tryd.pinned (OpenSpec.upto tableAllSpec)

/-- 'skifflaw15.TableWays', WHERE WHAT IT READS IS OF BULK AT MOST 1048576: true; the input reads as it did. -/
def tableWaysUptoRow : OpenClaim := { program := "ytnlhjpkhhkfijaadoor", sum := "dddbaaba79e02f66e6441eb007adc5c29335ff041b06655e870c7515b378b652", func := "skiff/skifflaw15.TableWays", spec := "tableWays", named := ["skiff/table.allowed"], apart := false, laid := [("skiff/table.allowed", laid_skiff_table_allowed)], narrowed := true }
def TableWaysUptoSaid : Prop := tableWaysUptoRow.holds Tryd.pinned (OpenSpec.upto tableWaysSpec)

end Rows
end Go.Proofs.YtnlhjpkhhkfijaaDoor

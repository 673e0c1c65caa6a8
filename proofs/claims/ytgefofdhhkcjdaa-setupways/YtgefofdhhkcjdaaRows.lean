/-
  No cell of these rows narrows 'for every input' (looked for: loops, veiled, ifaces, maps, wideKeys, modest, calm, conditions, laid).
  DERIVED. THE GIVEN ROWS OF THIS SEAT. 4 by the template 'for every input the law returns true; each argument reads behind the call as it read before'; 0 by the template 'total and deterministic' (their statements: YtgefofdhhkcjdaaTotals.lean).
  GIVEN WITH THE SEED: the statements are not yours to turn. If you find one false, say at which input.
  Laid BY PROGRAM, IN A SANDBOX (cutbox-rows.mjs): the forced cells as the released guide's own fill.sh prints them over the translation d3a4da2b5298d5ca… (all of the seat's roots in one cut). By AI agents, Wed Nov 11 2026. No macro, syntax, notation, axiom, sorry.
-/
import Derived.Test.YtgefofdhhkcjdaaChecked
import GoSem.Claim
import GoSem.ClaimJoined
import GoSem.ClaimMapViews
import Derived.JoinedTies
import Derived.KernelRfl
namespace Go.Proofs.Ytgefofdhhkcjdaa
/- THE CELL 'sum', in the pinned program and in every row, IS THE sha256 OF THE DUMP (.gsa) THAT YtgefofdhhkcjdaaProg.lean LOADS. Nothing in Lean hashes anything: it is a label: what it is worth is what the hold of that sum in a sandbox is worth. -/
noncomputable def Try.pinned : Pinned := { name := "ytgefofdhhkcjdaa", sum := "d3a4da2b5298d5ca9755d384f479d1787a0960e67cb47aec90be37c2deeeed2e", checked := Try.checked }
namespace Rows
def none {H : Type} : Left H := { results := [], args := [] }

/-- 'skifflaw13.Setups': WHATEVER THE INPUT: true; the input reads as it did. -/
def setupsSpec : ChangeSpec := { name := "setups", fn := fun _ => fun
  | [d1, d2, d3] => { results := [.lit (.bool true)], args := [d1, d2, d3] }
  | _ => none }
def setupsRow : OpenClaim := { program := "ytgefofdhhkcjdaa", sum := "d3a4da2b5298d5ca9755d384f479d1787a0960e67cb47aec90be37c2deeeed2e", func := "skiff/skifflaw13.Setups", spec := "setups", apart := false }
def SetupsSaid : Prop := setupsRow.holds Try.pinned (OpenSpec.ofChange setupsSpec)

/-- ITS FALSE NEIGHBOUR: 'it returns false'. Refute it at one input. -/
def setupsWrong : ChangeSpec := { name := "setups", fn := fun _ => fun
  | [d1, d2, d3] => { results := [.lit (.bool false)], args := [d1, d2, d3] }
  | _ => none }
def SetupsWrongFalsely : Prop := setupsRow.holds Try.pinned (OpenSpec.ofChange setupsWrong)

/-- 'skifflaw13.SetupForms': WHATEVER THE INPUT: true; the input reads as it did. -/
def setupFormsSpec : ChangeSpec := { name := "setupForms", fn := fun _ => fun
  | [d1, d2] => { results := [.lit (.bool true)], args := [d1, d2] }
  | _ => none }
def setupFormsRow : OpenClaim := { program := "ytgefofdhhkcjdaa", sum := "d3a4da2b5298d5ca9755d384f479d1787a0960e67cb47aec90be37c2deeeed2e", func := "skiff/skifflaw13.SetupForms", spec := "setupForms", apart := false }
def SetupFormsSaid : Prop := setupFormsRow.holds Try.pinned (OpenSpec.ofChange setupFormsSpec)

/-- ITS FALSE NEIGHBOUR: 'it returns false'. Refute it at one input. -/
def setupFormsWrong : ChangeSpec := { name := "setupForms", fn := fun _ => fun
  | [d1, d2] => { results := [.lit (.bool false)], args := [d1, d2] }
  | _ => none }
def SetupFormsWrongFalsely : Prop := setupFormsRow.holds Try.pinned (OpenSpec.ofChange setupFormsWrong)

/-- 'skifflaw13.SetupBack': WHATEVER THE INPUT: true; the input reads as it did. -/
def setupBackSpec : ChangeSpec := { name := "setupBack", fn := fun _ => fun
  | [d1, d2, d3, d4] => { results := [.lit (.bool true)], args := [d1, d2, d3, d4] }
  | _ => none }
def setupBackRow : OpenClaim := { program := "ytgefofdhhkcjdaa", sum := "d3a4da2b5298d5ca9755d384f479d1787a0960e67cb47aec90be37c2deeeed2e", func := "skiff/skifflaw13.SetupBack", spec := "setupBack", apart := false }
def SetupBackSaid : Prop := setupBackRow.holds Try.pinned (OpenSpec.ofChange setupBackSpec)

/-- ITS FALSE NEIGHBOUR: 'it returns false'. Refute it at one input. -/
def setupBackWrong : ChangeSpec := { name := "setupBack", fn := fun _ => fun
  | [d1, d2, d3, d4] => { results := [.lit (.bool false)], args := [d1, d2, d3, d4] }
  | _ => none }
def SetupBackWrongFalsely : Prop := setupBackRow.holds Try.pinned (OpenSpec.ofChange setupBackWrong)

/-- 'skifflaw13.SetupWays': WHATEVER THE INPUT: true; the input reads as it did. -/
def setupWaysSpec : ChangeSpec := { name := "setupWays", fn := fun _ => fun
  | [d1, d2] => { results := [.lit (.bool true)], args := [d1, d2] }
  | _ => none }
def setupWaysRow : OpenClaim := { program := "ytgefofdhhkcjdaa", sum := "d3a4da2b5298d5ca9755d384f479d1787a0960e67cb47aec90be37c2deeeed2e", func := "skiff/skifflaw13.SetupWays", spec := "setupWays", apart := false }
def SetupWaysSaid : Prop := setupWaysRow.holds Try.pinned (OpenSpec.ofChange setupWaysSpec)

/-- ITS FALSE NEIGHBOUR: 'it returns false'. Refute it at one input. -/
def setupWaysWrong : ChangeSpec := { name := "setupWays", fn := fun _ => fun
  | [d1, d2] => { results := [.lit (.bool false)], args := [d1, d2] }
  | _ => none }
def SetupWaysWrongFalsely : Prop := setupWaysRow.holds Try.pinned (OpenSpec.ofChange setupWaysWrong)

/- THE SECOND FORM. 'bulk': how many values and letters a reading holds, each counted each time it is reached (what is shared counts as often as it is met; a slice's spare places count too). A statement '..UptoSaid' is the law's where the arguments, and the package variables that the reading takes, are together of bulk at most 1048576: NARROWER than '..Said'. Prove '..Said' where nothing that the law and all that it calls make is longer than what came in: it says more and counts as full. Else prove '..UptoSaid'. A law counts once. -/
mutual
def uptoBulk {H : Type} : DataW H → Nat
  | .lit (.string bytes) => bytes.length + 1
  | .lit _ => 1
  | .nil => 1
  | .ptr d => uptoBulk d + 1
  | .slice elems spare => uptoBulkAll elems + uptoBulkAll spare + 1
  | .agg parts => uptoBulkAll parts + 1
  | .iface _ d => uptoBulk d + 1
  | .map entries => uptoBulkEntries entries + 1
  | .held _ => 1
def uptoBulkAll {H : Type} : List (DataW H) → Nat
  | [] => 0
  | d :: r => uptoBulk d + uptoBulkAll r
def uptoBulkEntries {H : Type} : List (Lit × DataW H) → Nat
  | [] => 0
  | x :: r => uptoBulkEntry x + uptoBulkEntries r
def uptoBulkEntry {H : Type} : Lit × DataW H → Nat
  | (.string bytes, d) => bytes.length + uptoBulk d + 1
  | (_, d) => uptoBulk d + 1
 end
def uptoSmall : (H : Type) → List (DataW H) → Bool := fun _ ds => decide (uptoBulkAll ds ≤ 1048576)
def OpenSpec.upto (s : _root_.Go.ChangeSpec) : _root_.Go.OpenSpec := { _root_.Go.OpenSpec.ofChange s with cond := some uptoSmall }

/-- 'skifflaw13.Setups', WHERE WHAT IT READS IS OF BULK AT MOST 1048576: true; the input reads as it did. -/
def setupsUptoRow : OpenClaim := { program := "ytgefofdhhkcjdaa", sum := "d3a4da2b5298d5ca9755d384f479d1787a0960e67cb47aec90be37c2deeeed2e", func := "skiff/skifflaw13.Setups", spec := "setups", apart := false, narrowed := true }
def SetupsUptoSaid : Prop := setupsUptoRow.holds Try.pinned (OpenSpec.upto setupsSpec)

/-- 'skifflaw13.SetupForms', WHERE WHAT IT READS IS OF BULK AT MOST 1048576: true; the input reads as it did. -/
def setupFormsUptoRow : OpenClaim := { program := "ytgefofdhhkcjdaa", sum := "d3a4da2b5298d5ca9755d384f479d1787a0960e67cb47aec90be37c2deeeed2e", func := "skiff/skifflaw13.SetupForms", spec := "setupForms", apart := false, narrowed := true }
def SetupFormsUptoSaid : Prop := setupFormsUptoRow.holds Try.pinned (OpenSpec.upto setupFormsSpec)

/-- 'skifflaw13.SetupBack', WHERE WHAT IT READS IS OF BULK AT MOST 1048576: true; the input reads as it did. -/
def setupBackUptoRow : OpenClaim := { program := "ytgefofdhhkcjdaa", sum := "d3a4da2b5298d5ca9755d384f479d1787a0960e67cb47aec90be37c2deeeed2e", func := "skiff/skifflaw13.SetupBack", spec := "setupBack", apart := false, narrowed := true }
def SetupBackUptoSaid : Prop := setupBackUptoRow.holds Try.pinned (OpenSpec.upto setupBackSpec)

/-- 'skifflaw13.SetupWays', WHERE WHAT IT READS IS OF BULK AT MOST 1048576: true; the input reads as it did. -/
def setupWaysUptoRow : OpenClaim := { program := "ytgefofdhhkcjdaa", sum := "d3a4da2b5298d5ca9755d384f479d1787a0960e67cb47aec90be37c2deeeed2e", func := "skiff/skifflaw13.SetupWays", spec := "setupWays", apart := false, narrowed := true }
def SetupWaysUptoSaid : Prop := setupWaysUptoRow.holds Try.pinned (OpenSpec.upto setupWaysSpec)

end Rows
end Go.Proofs.Ytgefofdhhkcjdaa

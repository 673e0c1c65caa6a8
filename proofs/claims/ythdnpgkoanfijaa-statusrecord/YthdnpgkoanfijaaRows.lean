/-
  No cell of these rows narrows 'for every input' (looked for: loops, veiled, ifaces, maps, wideKeys, modest, calm, conditions, laid).
  DERIVED. THE GIVEN ROWS OF THIS SEAT. 5 by the template 'for every input the law returns true; each argument reads behind the call as it read before'; 0 by the template 'total and deterministic' (their statements: YthdnpgkoanfijaaTotals.lean).
  GIVEN WITH THE SEED: the statements are not yours to turn. If you find one false, say at which input.
  Laid BY PROGRAM, IN A SANDBOX (cutbox-rows.mjs): the forced cells as the released guide's own fill.sh prints them over the translation b281fe0853c95117… (all of the seat's roots in one cut). By AI agents, Wed Nov 11 2026. No macro, syntax, notation, axiom, sorry.
-/
import Derived.Test.YthdnpgkoanfijaaChecked
import GoSem.Claim
import GoSem.ClaimJoined
import GoSem.ClaimMapViews
import Derived.JoinedTies
import Derived.KernelRfl
namespace Go.Proofs.Ythdnpgkoanfijaa
/- THE CELL 'sum', in the pinned program and in every row, IS THE sha256 OF THE DUMP (.gsa) THAT YthdnpgkoanfijaaProg.lean LOADS. Nothing in Lean hashes anything: it is a label: what it is worth is what the hold of that sum in a sandbox is worth. -/
noncomputable def Try.pinned : Pinned := { name := "ythdnpgkoanfijaa", sum := "b281fe0853c95117a57cc734fc1942b0cc5e6142de3c67531c94689c49e82fb3", checked := Try.checked }
namespace Rows
def none {H : Type} : Left H := { results := [], args := [] }

/-- 'skifflaw19.Gets': WHATEVER THE INPUT: true; the input reads as it did. -/
def getsSpec : ChangeSpec := { name := "gets", fn := fun _ => fun
  | [d1, d2] => { results := [.lit (.bool true)], args := [d1, d2] }
  | _ => none }
def getsRow : OpenClaim := { program := "ythdnpgkoanfijaa", sum := "b281fe0853c95117a57cc734fc1942b0cc5e6142de3c67531c94689c49e82fb3", func := "skiff/skifflaw19.Gets", spec := "gets", unfollowed := true, recurses := true, apart := false }
def GetsSaid : Prop := getsRow.holds Try.pinned (OpenSpec.ofChange getsSpec)

/-- ITS FALSE NEIGHBOUR: 'it returns false'. Refute it at one input. -/
def getsWrong : ChangeSpec := { name := "gets", fn := fun _ => fun
  | [d1, d2] => { results := [.lit (.bool false)], args := [d1, d2] }
  | _ => none }
def GetsWrongFalsely : Prop := getsRow.holds Try.pinned (OpenSpec.ofChange getsWrong)

/-- 'skifflaw19.StatusForms': WHATEVER THE INPUT: true; the input reads as it did. -/
def statusFormsSpec : ChangeSpec := { name := "statusForms", fn := fun _ => fun
  | [d1, d2] => { results := [.lit (.bool true)], args := [d1, d2] }
  | _ => none }
def statusFormsRow : OpenClaim := { program := "ythdnpgkoanfijaa", sum := "b281fe0853c95117a57cc734fc1942b0cc5e6142de3c67531c94689c49e82fb3", func := "skiff/skifflaw19.StatusForms", spec := "statusForms", unfollowed := true, recurses := true, apart := false }
def StatusFormsSaid : Prop := statusFormsRow.holds Try.pinned (OpenSpec.ofChange statusFormsSpec)

/-- ITS FALSE NEIGHBOUR: 'it returns false'. Refute it at one input. -/
def statusFormsWrong : ChangeSpec := { name := "statusForms", fn := fun _ => fun
  | [d1, d2] => { results := [.lit (.bool false)], args := [d1, d2] }
  | _ => none }
def StatusFormsWrongFalsely : Prop := statusFormsRow.holds Try.pinned (OpenSpec.ofChange statusFormsWrong)

/-- 'skifflaw19.StatusTells': WHATEVER THE INPUT: true; the input reads as it did. -/
def statusTellsSpec : ChangeSpec := { name := "statusTells", fn := fun _ => fun
  | [d1, d2] => { results := [.lit (.bool true)], args := [d1, d2] }
  | _ => none }
def statusTellsRow : OpenClaim := { program := "ythdnpgkoanfijaa", sum := "b281fe0853c95117a57cc734fc1942b0cc5e6142de3c67531c94689c49e82fb3", func := "skiff/skifflaw19.StatusTells", spec := "statusTells", unfollowed := true, recurses := true, apart := false }
def StatusTellsSaid : Prop := statusTellsRow.holds Try.pinned (OpenSpec.ofChange statusTellsSpec)

/-- ITS FALSE NEIGHBOUR: 'it returns false'. Refute it at one input. -/
def statusTellsWrong : ChangeSpec := { name := "statusTells", fn := fun _ => fun
  | [d1, d2] => { results := [.lit (.bool false)], args := [d1, d2] }
  | _ => none }
def StatusTellsWrongFalsely : Prop := statusTellsRow.holds Try.pinned (OpenSpec.ofChange statusTellsWrong)

/-- 'skifflaw19.StatusRecord': WHATEVER THE INPUT: true; the input reads as it did. -/
def statusRecordSpec : ChangeSpec := { name := "statusRecord", fn := fun _ => fun
  | [d1, d2, d3] => { results := [.lit (.bool true)], args := [d1, d2, d3] }
  | _ => none }
def statusRecordRow : OpenClaim := { program := "ythdnpgkoanfijaa", sum := "b281fe0853c95117a57cc734fc1942b0cc5e6142de3c67531c94689c49e82fb3", func := "skiff/skifflaw19.StatusRecord", spec := "statusRecord", unfollowed := true, recurses := true, apart := false }
def StatusRecordSaid : Prop := statusRecordRow.holds Try.pinned (OpenSpec.ofChange statusRecordSpec)

/-- ITS FALSE NEIGHBOUR: 'it returns false'. Refute it at one input. -/
def statusRecordWrong : ChangeSpec := { name := "statusRecord", fn := fun _ => fun
  | [d1, d2, d3] => { results := [.lit (.bool false)], args := [d1, d2, d3] }
  | _ => none }
def StatusRecordWrongFalsely : Prop := statusRecordRow.holds Try.pinned (OpenSpec.ofChange statusRecordWrong)

/-- 'skifflaw19.StatusTwice': WHATEVER THE INPUT: true; the input reads as it did. -/
def statusTwiceSpec : ChangeSpec := { name := "statusTwice", fn := fun _ => fun
  | [d1, d2] => { results := [.lit (.bool true)], args := [d1, d2] }
  | _ => none }
def statusTwiceRow : OpenClaim := { program := "ythdnpgkoanfijaa", sum := "b281fe0853c95117a57cc734fc1942b0cc5e6142de3c67531c94689c49e82fb3", func := "skiff/skifflaw19.StatusTwice", spec := "statusTwice", unfollowed := true, recurses := true, apart := false }
def StatusTwiceSaid : Prop := statusTwiceRow.holds Try.pinned (OpenSpec.ofChange statusTwiceSpec)

/-- ITS FALSE NEIGHBOUR: 'it returns false'. Refute it at one input. -/
def statusTwiceWrong : ChangeSpec := { name := "statusTwice", fn := fun _ => fun
  | [d1, d2] => { results := [.lit (.bool false)], args := [d1, d2] }
  | _ => none }
def StatusTwiceWrongFalsely : Prop := statusTwiceRow.holds Try.pinned (OpenSpec.ofChange statusTwiceWrong)

/- THE SECOND FORM. 'bulk': how many values and letters a reading holds, each counted each time it is reached (what is shared counts as often as it is met; a slice's spare places count too). A statement '..UptoSaid' is the law's where the arguments, and the package variables that the reading takes, are together of bulk at most 1048576: NARROWER than '..Said'. Prove '..Said' where nothing that the law and all that it calls make is longer than what came in: it says more and counts as full. Else prove '..UptoSaid'. A law counts once. -/
mutual
def uptoBulk {H : Type} : DataW H → Nat
  | .lit (.string bytes) => bytes.length + 1
  | .lit _ => 1
  | .nil => 1
  | .ptr d => uptoBulk d + 1
  | .slice elems spare => uptoBulkAll elems + uptoBulkAll spare + 1
  | .agg parts => uptoBulkAll parts + 1
  | .iface _ d => uptoBulk d + 1
  | .map entries => uptoBulkEntries entries + 1
  | .held _ => 1
def uptoBulkAll {H : Type} : List (DataW H) → Nat
  | [] => 0
  | d :: r => uptoBulk d + uptoBulkAll r
def uptoBulkEntries {H : Type} : List (Lit × DataW H) → Nat
  | [] => 0
  | x :: r => uptoBulkEntry x + uptoBulkEntries r
def uptoBulkEntry {H : Type} : Lit × DataW H → Nat
  | (.string bytes, d) => bytes.length + uptoBulk d + 1
  | (_, d) => uptoBulk d + 1
 end
def uptoSmall : (H : Type) → List (DataW H) → Bool := fun _ ds => decide (uptoBulkAll ds ≤ 1048576)
def OpenSpec.upto (s : _root_.Go.ChangeSpec) : _root_.Go.OpenSpec := { _root_.Go.OpenSpec.ofChange s with cond := some uptoSmall }

/-- 'skifflaw19.Gets', WHERE WHAT IT READS IS OF BULK AT MOST 1048576: true; the input reads as it did. -/
def getsUptoRow : OpenClaim := { program := "ythdnpgkoanfijaa", sum := "b281fe0853c95117a57cc734fc1942b0cc5e6142de3c67531c94689c49e82fb3", func := "skiff/skifflaw19.Gets", spec := "gets", unfollowed := true, recurses := true, apart := false, narrowed := true }
def GetsUptoSaid : Prop := getsUptoRow.holds Try.pinned (OpenSpec.upto getsSpec)

/-- 'skifflaw19.StatusForms', WHERE WHAT IT READS IS OF BULK AT MOST 1048576: true; the input reads as it did. -/
def statusFormsUptoRow : OpenClaim := { program := "ythdnpgkoanfijaa", sum := "b281fe0853c95117a57cc734fc1942b0cc5e6142de3c67531c94689c49e82fb3", func := "skiff/skifflaw19.StatusForms", spec := "statusForms", unfollowed := true, recurses := true, apart := false, narrowed := true }
def StatusFormsUptoSaid : Prop := statusFormsUptoRow.holds Try.pinned (OpenSpec.upto statusFormsSpec)

/-- 'skifflaw19.StatusTells', WHERE WHAT IT READS IS OF BULK AT MOST 1048576: true; the input reads as it did. -/
def statusTellsUptoRow : OpenClaim := { program := "ythdnpgkoanfijaa", sum := "b281fe0853c95117a57cc734fc1942b0cc5e6142de3c67531c94689c49e82fb3", func := "skiff/skifflaw19.StatusTells", spec := "statusTells", unfollowed := true, recurses := true, apart := false, narrowed := true }
def StatusTellsUptoSaid : Prop := statusTellsUptoRow.holds Try.pinned (OpenSpec.upto statusTellsSpec)

/-- 'skifflaw19.StatusRecord', WHERE WHAT IT READS IS OF BULK AT MOST 1048576: true; the input reads as it did. -/
def statusRecordUptoRow : OpenClaim := { program := "ythdnpgkoanfijaa", sum := "b281fe0853c95117a57cc734fc1942b0cc5e6142de3c67531c94689c49e82fb3", func := "skiff/skifflaw19.StatusRecord", spec := "statusRecord", unfollowed := true, recurses := true, apart := false, narrowed := true }
def StatusRecordUptoSaid : Prop := statusRecordUptoRow.holds Try.pinned (OpenSpec.upto statusRecordSpec)

/-- 'skifflaw19.StatusTwice', WHERE WHAT IT READS IS OF BULK AT MOST 1048576: true; the input reads as it did. -/
def statusTwiceUptoRow : OpenClaim := { program := "ythdnpgkoanfijaa", sum := "b281fe0853c95117a57cc734fc1942b0cc5e6142de3c67531c94689c49e82fb3", func := "skiff/skifflaw19.StatusTwice", spec := "statusTwice", unfollowed := true, recurses := true, apart := false, narrowed := true }
def StatusTwiceUptoSaid : Prop := statusTwiceUptoRow.holds Try.pinned (OpenSpec.upto statusTwiceSpec)

end Rows
end Go.Proofs.Ythdnpgkoanfijaa

/-
  No cell of these rows narrows 'for every input' (looked for: loops, veiled, ifaces, maps, wideKeys, modest, calm, conditions, laid).
  DERIVED. THE GIVEN ROWS OF THIS SEAT. 4 by the template 'for every input the law returns true; each argument reads behind the call as it read before'; 0 by the template 'total and deterministic' (their statements: YtddelbjnnkhgbaaTotals.lean).
  GIVEN WITH THE SEED: the statements are not yours to turn. If you find one false, say at which input.
  Laid BY PROGRAM, IN A SANDBOX (cutbox-rows.mjs): the forced cells as the released guide's own fill.sh prints them over the translation f49cd6a7d5f89962… (all of the seat's roots in one cut). By AI agents, Wed Nov 11 2026. No macro, syntax, notation, axiom, sorry.
-/
import Derived.Test.YtddelbjnnkhgbaaChecked
import GoSem.Claim
import GoSem.ClaimJoined
import GoSem.ClaimMapViews
import Derived.JoinedTies
import Derived.KernelRfl
namespace Go.Proofs.Ytddelbjnnkhgbaa
/- THE CELL 'sum', in the pinned program and in every row, IS THE sha256 OF THE DUMP (.gsa) THAT YtddelbjnnkhgbaaProg.lean LOADS. Nothing in Lean hashes anything: it is a label: what it is worth is what the hold of that sum in a sandbox is worth. -/
noncomputable def Try.pinned : Pinned := { name := "ytddelbjnnkhgbaa", sum := "f49cd6a7d5f8996218f09daf2fb68ed1697f3de44ae4dc9b4758b1b903a9385c", checked := Try.checked }
namespace Rows
def none {H : Type} : Left H := { results := [], args := [] }

/-- 'skifflaw14.Answers': WHATEVER THE INPUT: true; the input reads as it did. -/
def answersSpec : ChangeSpec := { name := "answers", fn := fun _ => fun
  | [d1, d2, d3] => { results := [.lit (.bool true)], args := [d1, d2, d3] }
  | _ => none }
def answersRow : OpenClaim := { program := "ytddelbjnnkhgbaa", sum := "f49cd6a7d5f8996218f09daf2fb68ed1697f3de44ae4dc9b4758b1b903a9385c", func := "skiff/skifflaw14.Answers", spec := "answers", apart := false }
def AnswersSaid : Prop := answersRow.holds Try.pinned (OpenSpec.ofChange answersSpec)

/-- ITS FALSE NEIGHBOUR: 'it returns false'. Refute it at one input. -/
def answersWrong : ChangeSpec := { name := "answers", fn := fun _ => fun
  | [d1, d2, d3] => { results := [.lit (.bool false)], args := [d1, d2, d3] }
  | _ => none }
def AnswersWrongFalsely : Prop := answersRow.holds Try.pinned (OpenSpec.ofChange answersWrong)

/-- 'skifflaw14.AnswerForms': WHATEVER THE INPUT: true; the input reads as it did. -/
def answerFormsSpec : ChangeSpec := { name := "answerForms", fn := fun _ => fun
  | [d1, d2] => { results := [.lit (.bool true)], args := [d1, d2] }
  | _ => none }
def answerFormsRow : OpenClaim := { program := "ytddelbjnnkhgbaa", sum := "f49cd6a7d5f8996218f09daf2fb68ed1697f3de44ae4dc9b4758b1b903a9385c", func := "skiff/skifflaw14.AnswerForms", spec := "answerForms", apart := false }
def AnswerFormsSaid : Prop := answerFormsRow.holds Try.pinned (OpenSpec.ofChange answerFormsSpec)

/-- ITS FALSE NEIGHBOUR: 'it returns false'. Refute it at one input. -/
def answerFormsWrong : ChangeSpec := { name := "answerForms", fn := fun _ => fun
  | [d1, d2] => { results := [.lit (.bool false)], args := [d1, d2] }
  | _ => none }
def AnswerFormsWrongFalsely : Prop := answerFormsRow.holds Try.pinned (OpenSpec.ofChange answerFormsWrong)

/-- 'skifflaw14.AnswerBack': WHATEVER THE INPUT: true; the input reads as it did. -/
def answerBackSpec : ChangeSpec := { name := "answerBack", fn := fun _ => fun
  | [d1, d2, d3, d4] => { results := [.lit (.bool true)], args := [d1, d2, d3, d4] }
  | _ => none }
def answerBackRow : OpenClaim := { program := "ytddelbjnnkhgbaa", sum := "f49cd6a7d5f8996218f09daf2fb68ed1697f3de44ae4dc9b4758b1b903a9385c", func := "skiff/skifflaw14.AnswerBack", spec := "answerBack", apart := false }
def AnswerBackSaid : Prop := answerBackRow.holds Try.pinned (OpenSpec.ofChange answerBackSpec)

/-- ITS FALSE NEIGHBOUR: 'it returns false'. Refute it at one input. -/
def answerBackWrong : ChangeSpec := { name := "answerBack", fn := fun _ => fun
  | [d1, d2, d3, d4] => { results := [.lit (.bool false)], args := [d1, d2, d3, d4] }
  | _ => none }
def AnswerBackWrongFalsely : Prop := answerBackRow.holds Try.pinned (OpenSpec.ofChange answerBackWrong)

/-- 'skifflaw14.AnswerBytes': WHATEVER THE INPUT: true; the input reads as it did. -/
def answerBytesSpec : ChangeSpec := { name := "answerBytes", fn := fun _ => fun
  | [d1, d2, d3, d4, d5] => { results := [.lit (.bool true)], args := [d1, d2, d3, d4, d5] }
  | _ => none }
def answerBytesRow : OpenClaim := { program := "ytddelbjnnkhgbaa", sum := "f49cd6a7d5f8996218f09daf2fb68ed1697f3de44ae4dc9b4758b1b903a9385c", func := "skiff/skifflaw14.AnswerBytes", spec := "answerBytes", apart := false }
def AnswerBytesSaid : Prop := answerBytesRow.holds Try.pinned (OpenSpec.ofChange answerBytesSpec)

/-- ITS FALSE NEIGHBOUR: 'it returns false'. Refute it at one input. -/
def answerBytesWrong : ChangeSpec := { name := "answerBytes", fn := fun _ => fun
  | [d1, d2, d3, d4, d5] => { results := [.lit (.bool false)], args := [d1, d2, d3, d4, d5] }
  | _ => none }
def AnswerBytesWrongFalsely : Prop := answerBytesRow.holds Try.pinned (OpenSpec.ofChange answerBytesWrong)

/- THE SECOND FORM. 'bulk': how many values and letters a reading holds, each counted each time it is reached (what is shared counts as often as it is met; a slice's spare places count too). A statement '..UptoSaid' is the law's where the arguments, and the package variables that the reading takes, are together of bulk at most 1048576: NARROWER than '..Said'. Prove '..Said' where nothing that the law and all that it calls make is longer than what came in: it says more and counts as full. Else prove '..UptoSaid'. A law counts once. -/
mutual
def uptoBulk {H : Type} : DataW H → Nat
  | .lit (.string bytes) => bytes.length + 1
  | .lit _ => 1
  | .nil => 1
  | .ptr d => uptoBulk d + 1
  | .slice elems spare => uptoBulkAll elems + uptoBulkAll spare + 1
  | .agg parts => uptoBulkAll parts + 1
  | .iface _ d => uptoBulk d + 1
  | .map entries => uptoBulkEntries entries + 1
  | .held _ => 1
def uptoBulkAll {H : Type} : List (DataW H) → Nat
  | [] => 0
  | d :: r => uptoBulk d + uptoBulkAll r
def uptoBulkEntries {H : Type} : List (Lit × DataW H) → Nat
  | [] => 0
  | x :: r => uptoBulkEntry x + uptoBulkEntries r
def uptoBulkEntry {H : Type} : Lit × DataW H → Nat
  | (.string bytes, d) => bytes.length + uptoBulk d + 1
  | (_, d) => uptoBulk d + 1
 end
def uptoSmall : (H : Type) → List (DataW H) → Bool := fun _ ds => decide (uptoBulkAll ds ≤ 1048576)
def OpenSpec.upto (s : _root_.Go.ChangeSpec) : _root_.Go.OpenSpec := { _root_.Go.OpenSpec.ofChange s with cond := some uptoSmall }

/-- 'skifflaw14.Answers', WHERE WHAT IT READS IS OF BULK AT MOST 1048576: true; the input reads as it did. -/
def answersUptoRow : OpenClaim := { program := "ytddelbjnnkhgbaa", sum := "f49cd6a7d5f8996218f09daf2fb68ed1697f3de44ae4dc9b4758b1b903a9385c", func := "skiff/skifflaw14.Answers", spec := "answers", apart := false, narrowed := true }
def AnswersUptoSaid : Prop := answersUptoRow.holds Try.pinned (OpenSpec.upto answersSpec)

/-- 'skifflaw14.AnswerForms', WHERE WHAT IT READS IS OF BULK AT MOST 1048576: true; the input reads as it did. -/
def answerFormsUptoRow : OpenClaim := { program := "ytddelbjnnkhgbaa", sum := "f49cd6a7d5f8996218f09daf2fb68ed1697f3de44ae4dc9b4758b1b903a9385c", func := "skiff/skifflaw14.AnswerForms", spec := "answerForms", apart := false, narrowed := true }
def AnswerFormsUptoSaid : Prop := answerFormsUptoRow.holds Try.pinned (OpenSpec.upto answerFormsSpec)

/-- 'skifflaw14.AnswerBack', WHERE WHAT IT READS IS OF BULK AT MOST 1048576: true; the input reads as it did. -/
def answerBackUptoRow : OpenClaim := { program := "ytddelbjnnkhgbaa", sum := "f49cd6a7d5f8996218f09daf2fb68ed1697f3de44ae4dc9b4758b1b903a9385c", func := "skiff/skifflaw14.AnswerBack", spec := "answerBack", apart := false, narrowed := true }
def AnswerBackUptoSaid : Prop := answerBackUptoRow.holds Try.pinned (OpenSpec.upto answerBackSpec)

/-- 'skifflaw14.AnswerBytes', WHERE WHAT IT READS IS OF BULK AT MOST 1048576: true; the input reads as it did. -/
def answerBytesUptoRow : OpenClaim := { program := "ytddelbjnnkhgbaa", sum := "f49cd6a7d5f8996218f09daf2fb68ed1697f3de44ae4dc9b4758b1b903a9385c", func := "skiff/skifflaw14.AnswerBytes", spec := "answerBytes", apart := false, narrowed := true }
def AnswerBytesUptoSaid : Prop := answerBytesUptoRow.holds Try.pinned (OpenSpec.upto answerBytesSpec)

end Rows
end Go.Proofs.Ytddelbjnnkhgbaa

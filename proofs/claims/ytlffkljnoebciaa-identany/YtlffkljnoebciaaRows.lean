/-
  No cell of these rows narrows 'for every input' (looked for: loops, veiled, ifaces, maps, wideKeys, modest, calm, conditions, laid).
  DERIVED. THE GIVEN ROWS OF THIS SEAT. 4 by the template 'for every input the law returns true; each argument reads behind the call as it read before'; 0 by the template 'total and deterministic' (their statements: YtlffkljnoebciaaTotals.lean).
  GIVEN WITH THE SEED: the statements are not yours to turn. If you find one false, say at which input.
  Laid BY PROGRAM, IN A SANDBOX (cutbox-rows.mjs): the forced cells as the released guide's own fill.sh prints them over the translation 1aaeb67774591df4… (all of the seat's roots in one cut). By AI agents, Wed Nov 11 2026. No macro, syntax, notation, axiom, sorry.
-/
import Derived.Test.YtlffkljnoebciaaChecked
import GoSem.Claim
import GoSem.ClaimJoined
import GoSem.ClaimMapViews
import Derived.JoinedTies
import Derived.KernelRfl
namespace Go.Proofs.Ytlffkljnoebciaa
/- THE CELL 'sum', in the pinned program and in every row, IS THE sha256 OF THE DUMP (.gsa) THAT YtlffkljnoebciaaProg.lean LOADS. Nothing in Lean hashes anything: it is a label: what it is worth is what the hold of that sum in a sandbox is worth. -/
noncomputable def Try.pinned : Pinned := { name := "ytlffkljnoebciaa", sum := "1aaeb67774591df4319c70a6bd36d2342f4653c76f594e5696c5f3650e6ff914", checked := Try.checked }
namespace Rows
def none {H : Type} : Left H := { results := [], args := [] }

/-- 'skifflaw12.Idents': WHATEVER THE INPUT: true; the input reads as it did. -/
def identsSpec : ChangeSpec := { name := "idents", fn := fun _ => fun
  | [d1, d2] => { results := [.lit (.bool true)], args := [d1, d2] }
  | _ => none }
def identsRow : OpenClaim := { program := "ytlffkljnoebciaa", sum := "1aaeb67774591df4319c70a6bd36d2342f4653c76f594e5696c5f3650e6ff914", func := "skiff/skifflaw12.Idents", spec := "idents", apart := false }
def IdentsSaid : Prop := identsRow.holds Try.pinned (OpenSpec.ofChange identsSpec)

/-- ITS FALSE NEIGHBOUR: 'it returns false'. Refute it at one input. -/
def identsWrong : ChangeSpec := { name := "idents", fn := fun _ => fun
  | [d1, d2] => { results := [.lit (.bool false)], args := [d1, d2] }
  | _ => none }
def IdentsWrongFalsely : Prop := identsRow.holds Try.pinned (OpenSpec.ofChange identsWrong)

/-- 'skifflaw12.IdentForms': WHATEVER THE INPUT: true; the input reads as it did. -/
def identFormsSpec : ChangeSpec := { name := "identForms", fn := fun _ => fun
  | [d1, d2] => { results := [.lit (.bool true)], args := [d1, d2] }
  | _ => none }
def identFormsRow : OpenClaim := { program := "ytlffkljnoebciaa", sum := "1aaeb67774591df4319c70a6bd36d2342f4653c76f594e5696c5f3650e6ff914", func := "skiff/skifflaw12.IdentForms", spec := "identForms", apart := false }
def IdentFormsSaid : Prop := identFormsRow.holds Try.pinned (OpenSpec.ofChange identFormsSpec)

/-- ITS FALSE NEIGHBOUR: 'it returns false'. Refute it at one input. -/
def identFormsWrong : ChangeSpec := { name := "identForms", fn := fun _ => fun
  | [d1, d2] => { results := [.lit (.bool false)], args := [d1, d2] }
  | _ => none }
def IdentFormsWrongFalsely : Prop := identFormsRow.holds Try.pinned (OpenSpec.ofChange identFormsWrong)

/-- 'skifflaw12.IdentAny': WHATEVER THE INPUT: true; the input reads as it did. -/
def identAnySpec : ChangeSpec := { name := "identAny", fn := fun _ => fun
  | [d1, d2, d3, d4] => { results := [.lit (.bool true)], args := [d1, d2, d3, d4] }
  | _ => none }
def identAnyRow : OpenClaim := { program := "ytlffkljnoebciaa", sum := "1aaeb67774591df4319c70a6bd36d2342f4653c76f594e5696c5f3650e6ff914", func := "skiff/skifflaw12.IdentAny", spec := "identAny", apart := false }
def IdentAnySaid : Prop := identAnyRow.holds Try.pinned (OpenSpec.ofChange identAnySpec)

/-- ITS FALSE NEIGHBOUR: 'it returns false'. Refute it at one input. -/
def identAnyWrong : ChangeSpec := { name := "identAny", fn := fun _ => fun
  | [d1, d2, d3, d4] => { results := [.lit (.bool false)], args := [d1, d2, d3, d4] }
  | _ => none }
def IdentAnyWrongFalsely : Prop := identAnyRow.holds Try.pinned (OpenSpec.ofChange identAnyWrong)

/-- 'skifflaw12.IdentSame': WHATEVER THE INPUT: true; the input reads as it did. -/
def identSameSpec : ChangeSpec := { name := "identSame", fn := fun _ => fun
  | [d1, d2] => { results := [.lit (.bool true)], args := [d1, d2] }
  | _ => none }
def identSameRow : OpenClaim := { program := "ytlffkljnoebciaa", sum := "1aaeb67774591df4319c70a6bd36d2342f4653c76f594e5696c5f3650e6ff914", func := "skiff/skifflaw12.IdentSame", spec := "identSame", apart := false }
def IdentSameSaid : Prop := identSameRow.holds Try.pinned (OpenSpec.ofChange identSameSpec)

/-- ITS FALSE NEIGHBOUR: 'it returns false'. Refute it at one input. -/
def identSameWrong : ChangeSpec := { name := "identSame", fn := fun _ => fun
  | [d1, d2] => { results := [.lit (.bool false)], args := [d1, d2] }
  | _ => none }
def IdentSameWrongFalsely : Prop := identSameRow.holds Try.pinned (OpenSpec.ofChange identSameWrong)

/- THE SECOND FORM. 'bulk': how many values and letters a reading holds, each counted each time it is reached (what is shared counts as often as it is met; a slice's spare places count too). A statement '..UptoSaid' is the law's where the arguments, and the package variables that the reading takes, are together of bulk at most 1048576: NARROWER than '..Said'. Prove '..Said' where nothing that the law and all that it calls make is longer than what came in: it says more and counts as full. Else prove '..UptoSaid'. A law counts once. -/
mutual
def uptoBulk {H : Type} : DataW H → Nat
  | .lit (.string bytes) => bytes.length + 1
  | .lit _ => 1
  | .nil => 1
  | .ptr d => uptoBulk d + 1
  | .slice elems spare => uptoBulkAll elems + uptoBulkAll spare + 1
  | .agg parts => uptoBulkAll parts + 1
  | .iface _ d => uptoBulk d + 1
  | .map entries => uptoBulkEntries entries + 1
  | .held _ => 1
def uptoBulkAll {H : Type} : List (DataW H) → Nat
  | [] => 0
  | d :: r => uptoBulk d + uptoBulkAll r
def uptoBulkEntries {H : Type} : List (Lit × DataW H) → Nat
  | [] => 0
  | x :: r => uptoBulkEntry x + uptoBulkEntries r
def uptoBulkEntry {H : Type} : Lit × DataW H → Nat
  | (.string bytes, d) => bytes.length + uptoBulk d + 1
  | (_, d) => uptoBulk d + 1
 end
def uptoSmall : (H : Type) → List (DataW H) → Bool := fun _ ds => decide (uptoBulkAll ds ≤ 1048576)
def OpenSpec.upto (s : _root_.Go.ChangeSpec) : _root_.Go.OpenSpec := { _root_.Go.OpenSpec.ofChange s with cond := some uptoSmall }

/-- 'skifflaw12.Idents', WHERE WHAT IT READS IS OF BULK AT MOST 1048576: true; the input reads as it did. -/
def identsUptoRow : OpenClaim := { program := "ytlffkljnoebciaa", sum := "1aaeb67774591df4319c70a6bd36d2342f4653c76f594e5696c5f3650e6ff914", func := "skiff/skifflaw12.Idents", spec := "idents", apart := false, narrowed := true }
def IdentsUptoSaid : Prop := identsUptoRow.holds Try.pinned (OpenSpec.upto identsSpec)

/-- 'skifflaw12.IdentForms', WHERE WHAT IT READS IS OF BULK AT MOST 1048576: true; the input reads as it did. -/
def identFormsUptoRow : OpenClaim := { program := "ytlffkljnoebciaa", sum := "1aaeb67774591df4319c70a6bd36d2342f4653c76f594e5696c5f3650e6ff914", func := "skiff/skifflaw12.IdentForms", spec := "identForms", apart := false, narrowed := true }
def IdentFormsUptoSaid : Prop := identFormsUptoRow.holds Try.pinned (OpenSpec.upto identFormsSpec)

/-- 'skifflaw12.IdentAny', WHERE WHAT IT READS IS OF BULK AT MOST 1048576: true; the input reads as it did. -/
def identAnyUptoRow : OpenClaim := { program := "ytlffkljnoebciaa", sum := "1aaeb67774591df4319c70a6bd36d2342f4653c76f594e5696c5f3650e6ff914", func := "skiff/skifflaw12.IdentAny", spec := "identAny", apart := false, narrowed := true }
def IdentAnyUptoSaid : Prop := identAnyUptoRow.holds Try.pinned (OpenSpec.upto identAnySpec)

/-- 'skifflaw12.IdentSame', WHERE WHAT IT READS IS OF BULK AT MOST 1048576: true; the input reads as it did. -/
def identSameUptoRow : OpenClaim := { program := "ytlffkljnoebciaa", sum := "1aaeb67774591df4319c70a6bd36d2342f4653c76f594e5696c5f3650e6ff914", func := "skiff/skifflaw12.IdentSame", spec := "identSame", apart := false, narrowed := true }
def IdentSameUptoSaid : Prop := identSameUptoRow.holds Try.pinned (OpenSpec.upto identSameSpec)

end Rows
end Go.Proofs.Ytlffkljnoebciaa

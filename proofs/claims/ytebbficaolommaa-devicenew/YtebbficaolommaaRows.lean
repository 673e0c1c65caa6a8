/-
  No cell of these rows narrows 'for every input' (looked for: loops, veiled, ifaces, maps, wideKeys, modest, calm, conditions, laid).
  DERIVED. THE GIVEN ROWS OF THIS SEAT. 4 by the template 'for every input the law returns true; each argument reads behind the call as it read before'; 0 by the template 'total and deterministic' (their statements: YtebbficaolommaaTotals.lean).
  GIVEN WITH THE SEED: the statements are not yours to turn. If you find one false, say at which input.
  Laid BY PROGRAM, IN A SANDBOX (cutbox-rows.mjs): the forced cells as the released guide's own fill.sh prints them over the translation 47f7d31ffbd7a4db… (all of the seat's roots in one cut). By AI agents, Wed Nov 11 2026. No macro, syntax, notation, axiom, sorry.
-/
import Derived.Test.YtebbficaolommaaChecked
import GoSem.Claim
import GoSem.ClaimJoined
import GoSem.ClaimMapViews
import Derived.JoinedTies
import Derived.KernelRfl
namespace Go.Proofs.Ytebbficaolommaa
/- THE CELL 'sum', in the pinned program and in every row, IS THE sha256 OF THE DUMP (.gsa) THAT YtebbficaolommaaProg.lean LOADS. Nothing in Lean hashes anything: it is a label: what it is worth is what the hold of that sum in a sandbox is worth. -/
noncomputable def Try.pinned : Pinned := { name := "ytebbficaolommaa", sum := "47f7d31ffbd7a4db62f0b29a838e00c4b37969765aa692e0c68ac9a70767375d", checked := Try.checked }
namespace Rows
def none {H : Type} : Left H := { results := [], args := [] }

/-- 'skifflaw16.Devices': WHATEVER THE INPUT: true; the input reads as it did. -/
def devicesSpec : ChangeSpec := { name := "devices", fn := fun _ => fun
  | [d1, d2] => { results := [.lit (.bool true)], args := [d1, d2] }
  | _ => none }
def devicesRow : OpenClaim := { program := "ytebbficaolommaa", sum := "47f7d31ffbd7a4db62f0b29a838e00c4b37969765aa692e0c68ac9a70767375d", func := "skiff/skifflaw16.Devices", spec := "devices", unfollowed := true, recurses := true, apart := false }
def DevicesSaid : Prop := devicesRow.holds Try.pinned (OpenSpec.ofChange devicesSpec)

/-- ITS FALSE NEIGHBOUR: 'it returns false'. Refute it at one input. -/
def devicesWrong : ChangeSpec := { name := "devices", fn := fun _ => fun
  | [d1, d2] => { results := [.lit (.bool false)], args := [d1, d2] }
  | _ => none }
def DevicesWrongFalsely : Prop := devicesRow.holds Try.pinned (OpenSpec.ofChange devicesWrong)

/-- 'skifflaw16.DeviceForms': WHATEVER THE INPUT: true; the input reads as it did. -/
def deviceFormsSpec : ChangeSpec := { name := "deviceForms", fn := fun _ => fun
  | [d1, d2] => { results := [.lit (.bool true)], args := [d1, d2] }
  | _ => none }
def deviceFormsRow : OpenClaim := { program := "ytebbficaolommaa", sum := "47f7d31ffbd7a4db62f0b29a838e00c4b37969765aa692e0c68ac9a70767375d", func := "skiff/skifflaw16.DeviceForms", spec := "deviceForms", unfollowed := true, recurses := true, apart := false }
def DeviceFormsSaid : Prop := deviceFormsRow.holds Try.pinned (OpenSpec.ofChange deviceFormsSpec)

/-- ITS FALSE NEIGHBOUR: 'it returns false'. Refute it at one input. -/
def deviceFormsWrong : ChangeSpec := { name := "deviceForms", fn := fun _ => fun
  | [d1, d2] => { results := [.lit (.bool false)], args := [d1, d2] }
  | _ => none }
def DeviceFormsWrongFalsely : Prop := deviceFormsRow.holds Try.pinned (OpenSpec.ofChange deviceFormsWrong)

/-- 'skifflaw16.DeviceFails': WHATEVER THE INPUT: true; the input reads as it did. -/
def deviceFailsSpec : ChangeSpec := { name := "deviceFails", fn := fun _ => fun
  | [d1, d2] => { results := [.lit (.bool true)], args := [d1, d2] }
  | _ => none }
def deviceFailsRow : OpenClaim := { program := "ytebbficaolommaa", sum := "47f7d31ffbd7a4db62f0b29a838e00c4b37969765aa692e0c68ac9a70767375d", func := "skiff/skifflaw16.DeviceFails", spec := "deviceFails", unfollowed := true, recurses := true, apart := false }
def DeviceFailsSaid : Prop := deviceFailsRow.holds Try.pinned (OpenSpec.ofChange deviceFailsSpec)

/-- ITS FALSE NEIGHBOUR: 'it returns false'. Refute it at one input. -/
def deviceFailsWrong : ChangeSpec := { name := "deviceFails", fn := fun _ => fun
  | [d1, d2] => { results := [.lit (.bool false)], args := [d1, d2] }
  | _ => none }
def DeviceFailsWrongFalsely : Prop := deviceFailsRow.holds Try.pinned (OpenSpec.ofChange deviceFailsWrong)

/-- 'skifflaw16.DeviceNew': WHATEVER THE INPUT: true; the input reads as it did. -/
def deviceNewSpec : ChangeSpec := { name := "deviceNew", fn := fun _ => fun
  | [d] => { results := [.lit (.bool true)], args := [d] }
  | _ => none }
def deviceNewRow : OpenClaim := { program := "ytebbficaolommaa", sum := "47f7d31ffbd7a4db62f0b29a838e00c4b37969765aa692e0c68ac9a70767375d", func := "skiff/skifflaw16.DeviceNew", spec := "deviceNew", unfollowed := true, recurses := true, apart := false }
def DeviceNewSaid : Prop := deviceNewRow.holds Try.pinned (OpenSpec.ofChange deviceNewSpec)

/-- ITS FALSE NEIGHBOUR: 'it returns false'. Refute it at one input. -/
def deviceNewWrong : ChangeSpec := { name := "deviceNew", fn := fun _ => fun
  | [d] => { results := [.lit (.bool false)], args := [d] }
  | _ => none }
def DeviceNewWrongFalsely : Prop := deviceNewRow.holds Try.pinned (OpenSpec.ofChange deviceNewWrong)

/- THE SECOND FORM. 'bulk': how many values and letters a reading holds, each counted each time it is reached (what is shared counts as often as it is met; a slice's spare places count too). A statement '..UptoSaid' is the law's where the arguments, and the package variables that the reading takes, are together of bulk at most 1048576: NARROWER than '..Said'. Prove '..Said' where nothing that the law and all that it calls make is longer than what came in: it says more and counts as full. Else prove '..UptoSaid'. A law counts once. -/
mutual
def uptoBulk {H : Type} : DataW H → Nat
  | .lit (.string bytes) => bytes.length + 1
  | .lit _ => 1
  | .nil => 1
  | .ptr d => uptoBulk d + 1
  | .slice elems spare => uptoBulkAll elems + uptoBulkAll spare + 1
  | .agg parts => uptoBulkAll parts + 1
  | .iface _ d => uptoBulk d + 1
  | .map entries => uptoBulkEntries entries + 1
  | .held _ => 1
def uptoBulkAll {H : Type} : List (DataW H) → Nat
  | [] => 0
  | d :: r => uptoBulk d + uptoBulkAll r
def uptoBulkEntries {H : Type} : List (Lit × DataW H) → Nat
  | [] => 0
  | x :: r => uptoBulkEntry x + uptoBulkEntries r
def uptoBulkEntry {H : Type} : Lit × DataW H → Nat
  | (.string bytes, d) => bytes.length + uptoBulk d + 1
  | (_, d) => uptoBulk d + 1
 end
def uptoSmall : (H : Type) → List (DataW H) → Bool := fun _ ds => decide (uptoBulkAll ds ≤ 1048576)
def OpenSpec.upto (s : _root_.Go.ChangeSpec) : _root_.Go.OpenSpec := { _root_.Go.OpenSpec.ofChange s with cond := some uptoSmall }

/-- 'skifflaw16.Devices', WHERE WHAT IT READS IS OF BULK AT MOST 1048576: true; the input reads as it did. -/
def devicesUptoRow : OpenClaim := { program := "ytebbficaolommaa", sum := "47f7d31ffbd7a4db62f0b29a838e00c4b37969765aa692e0c68ac9a70767375d", func := "skiff/skifflaw16.Devices", spec := "devices", unfollowed := true, recurses := true, apart := false, narrowed := true }
def DevicesUptoSaid : Prop := devicesUptoRow.holds Try.pinned (OpenSpec.upto devicesSpec)

/-- 'skifflaw16.DeviceForms', WHERE WHAT IT READS IS OF BULK AT MOST 1048576: true; the input reads as it did. -/
def deviceFormsUptoRow : OpenClaim := { program := "ytebbficaolommaa", sum := "47f7d31ffbd7a4db62f0b29a838e00c4b37969765aa692e0c68ac9a70767375d", func := "skiff/skifflaw16.DeviceForms", spec := "deviceForms", unfollowed := true, recurses := true, apart := false, narrowed := true }
def DeviceFormsUptoSaid : Prop := deviceFormsUptoRow.holds Try.pinned (OpenSpec.upto deviceFormsSpec)

/-- 'skifflaw16.DeviceFails', WHERE WHAT IT READS IS OF BULK AT MOST 1048576: true; the input reads as it did. -/
def deviceFailsUptoRow : OpenClaim := { program := "ytebbficaolommaa", sum := "47f7d31ffbd7a4db62f0b29a838e00c4b37969765aa692e0c68ac9a70767375d", func := "skiff/skifflaw16.DeviceFails", spec := "deviceFails", unfollowed := true, recurses := true, apart := false, narrowed := true }
def DeviceFailsUptoSaid : Prop := deviceFailsUptoRow.holds Try.pinned (OpenSpec.upto deviceFailsSpec)

/-- 'skifflaw16.DeviceNew', WHERE WHAT IT READS IS OF BULK AT MOST 1048576: true; the input reads as it did. -/
def deviceNewUptoRow : OpenClaim := { program := "ytebbficaolommaa", sum := "47f7d31ffbd7a4db62f0b29a838e00c4b37969765aa692e0c68ac9a70767375d", func := "skiff/skifflaw16.DeviceNew", spec := "deviceNew", unfollowed := true, recurses := true, apart := false, narrowed := true }
def DeviceNewUptoSaid : Prop := deviceNewUptoRow.holds Try.pinned (OpenSpec.upto deviceNewSpec)

end Rows
end Go.Proofs.Ytebbficaolommaa

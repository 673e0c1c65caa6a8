/-
  DERIVED. GIVEN WITH THE SEED: THE CARDS: each row of YtmlfkbkpkgaefaaDoorRows.lean that lists a variable, with what it lists TIED to the program's text (the seventh form; the later family's looks); each row that meets fmt, with fmt's text TOLD by the authors' own Lean function (tested against real Go, not proved from fmt's source: count such statements apart). THE CARD IS WHAT COUNTS. Prove the row's statement (the work); the ties are given (YtmlfkbkpkgaefaaDoorTie.lean); close each card by the builder's one call (the guide's Derived/Test/ToyasCard.lean, 'card_holds'). Laid BY PROGRAM, IN A SANDBOX (cutbox-door.mjs). By AI agents, Wed Nov 11 2026. No macro, syntax, notation, axiom, sorry.
-/
import Derived.Test.YtmlfkbkpkgaefaaDoorRows
import GoSem.ClaimSeven
namespace Go.Proofs.YtmlfkbkpkgaefaaDoor
namespace Rows

/-- THE TIED CARD OF 'skifflaw21.ControlForms'. -/
def controlFormsCard : Claim7 := { stood := { row := controlFormsRow, standIns := [], harness := (true, "19bc36c8b6bbdd83ef91f2b4af2976af60933eeaff24bddcf71a16fde9e1913d"), looks := false }, kinds := [], alts := [], laidByText := true, laidKinds := [.data], laidTests := true, laidLooks := .later }
def ControlFormsCardSaid : Prop := Claim7.holds Tryd.pinned (.plain (OpenSpec.ofChange controlFormsSpec)) controlFormsCard

/-- THE SECOND FORM's CARD OF 'skifflaw21.ControlForms'. -/
def controlFormsUptoCard : Claim7 := { stood := { row := controlFormsUptoRow, standIns := [], harness := (true, "19bc36c8b6bbdd83ef91f2b4af2976af60933eeaff24bddcf71a16fde9e1913d"), looks := false }, kinds := [], alts := [], laidByText := true, laidKinds := [.data], laidTests := true, laidLooks := .later }
def ControlFormsUptoCardSaid : Prop := Claim7.holds Tryd.pinned (.plain (OpenSpec.upto controlFormsSpec)) controlFormsUptoCard
end Rows
end Go.Proofs.YtmlfkbkpkgaefaaDoor

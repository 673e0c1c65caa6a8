/-
  DERIVED. GIVEN WITH THE SEED: THE CARDS: each row of YtmlfkbkpkgaefaaGreatDoorRows.lean that lists a variable, with what it lists TIED to the program's text (the seventh form; the later family's looks); each row that meets fmt, with fmt's text TOLD by the authors' own Lean function (tested against real Go, not proved from fmt's source: count such statements apart). THE CARD IS WHAT COUNTS. Prove the row's statement (the work); the ties are given (YtmlfkbkpkgaefaaGreatDoorTie.lean); close each card by the builder's one call (the guide's Derived/Test/ToyasCard.lean, 'card_holds'). Laid BY PROGRAM, IN A SANDBOX (cutbox-door.mjs). By AI agents, Wed Nov 11 2026. No macro, syntax, notation, axiom, sorry.
-/
import Derived.Test.YtmlfkbkpkgaefaaGreatDoorRows
import GoSem.ClaimSeven
namespace Go.Proofs.YtmlfkbkpkgaefaaGreatDoor
namespace Rows

/-- THE TIED CARD OF 'skifflaw21.Controls'. -/
def controlsCard : Claim7 := { stood := { row := controlsRow, standIns := [], harness := (true, "017f38650573cfe58818ade9622b288ff2b6ff37172e1615889237bc8143b09a"), looks := false }, kinds := [], alts := [], laidByText := true, laidKinds := [.data], laidTests := true, laidLooks := .later }
def ControlsCardSaid : Prop := Claim7.holds Tryz.pinned (.plain (OpenSpec.ofChange controlsSpec)) controlsCard

/-- THE TIED CARD OF 'skifflaw21.ControlStalls'. -/
def controlStallsCard : Claim7 := { stood := { row := controlStallsRow, standIns := [], harness := (true, "017f38650573cfe58818ade9622b288ff2b6ff37172e1615889237bc8143b09a"), looks := false }, kinds := [], alts := [], laidByText := true, laidKinds := [.data], laidTests := true, laidLooks := .later }
def ControlStallsCardSaid : Prop := Claim7.holds Tryz.pinned (.plain (OpenSpec.ofChange controlStallsSpec)) controlStallsCard

/-- THE TIED CARD OF 'skifflaw21.ControlAborts'. -/
def controlAbortsCard : Claim7 := { stood := { row := controlAbortsRow, standIns := [], harness := (true, "017f38650573cfe58818ade9622b288ff2b6ff37172e1615889237bc8143b09a"), looks := false }, kinds := [], alts := [], laidByText := true, laidKinds := [.data], laidTests := true, laidLooks := .later }
def ControlAbortsCardSaid : Prop := Claim7.holds Tryz.pinned (.plain (OpenSpec.ofChange controlAbortsSpec)) controlAbortsCard

/-- THE TIED CARD OF 'skifflaw21.ControlGives'. -/
def controlGivesCard : Claim7 := { stood := { row := controlGivesRow, standIns := [], harness := (true, "017f38650573cfe58818ade9622b288ff2b6ff37172e1615889237bc8143b09a"), looks := false }, kinds := [], alts := [], laidByText := true, laidKinds := [.data], laidTests := true, laidLooks := .later }
def ControlGivesCardSaid : Prop := Claim7.holds Tryz.pinned (.plain (OpenSpec.ofChange controlGivesSpec)) controlGivesCard

/-- THE SECOND FORM's CARD OF 'skifflaw21.Controls'. -/
def controlsUptoCard : Claim7 := { stood := { row := controlsUptoRow, standIns := [], harness := (true, "017f38650573cfe58818ade9622b288ff2b6ff37172e1615889237bc8143b09a"), looks := false }, kinds := [], alts := [], laidByText := true, laidKinds := [.data], laidTests := true, laidLooks := .later }
def ControlsUptoCardSaid : Prop := Claim7.holds Tryz.pinned (.plain (OpenSpec.upto controlsSpec)) controlsUptoCard

/-- THE SECOND FORM's CARD OF 'skifflaw21.ControlStalls'. -/
def controlStallsUptoCard : Claim7 := { stood := { row := controlStallsUptoRow, standIns := [], harness := (true, "017f38650573cfe58818ade9622b288ff2b6ff37172e1615889237bc8143b09a"), looks := false }, kinds := [], alts := [], laidByText := true, laidKinds := [.data], laidTests := true, laidLooks := .later }
def ControlStallsUptoCardSaid : Prop := Claim7.holds Tryz.pinned (.plain (OpenSpec.upto controlStallsSpec)) controlStallsUptoCard

/-- THE SECOND FORM's CARD OF 'skifflaw21.ControlAborts'. -/
def controlAbortsUptoCard : Claim7 := { stood := { row := controlAbortsUptoRow, standIns := [], harness := (true, "017f38650573cfe58818ade9622b288ff2b6ff37172e1615889237bc8143b09a"), looks := false }, kinds := [], alts := [], laidByText := true, laidKinds := [.data], laidTests := true, laidLooks := .later }
def ControlAbortsUptoCardSaid : Prop := Claim7.holds Tryz.pinned (.plain (OpenSpec.upto controlAbortsSpec)) controlAbortsUptoCard

/-- THE SECOND FORM's CARD OF 'skifflaw21.ControlGives'. -/
def controlGivesUptoCard : Claim7 := { stood := { row := controlGivesUptoRow, standIns := [], harness := (true, "017f38650573cfe58818ade9622b288ff2b6ff37172e1615889237bc8143b09a"), looks := false }, kinds := [], alts := [], laidByText := true, laidKinds := [.data], laidTests := true, laidLooks := .later }
def ControlGivesUptoCardSaid : Prop := Claim7.holds Tryz.pinned (.plain (OpenSpec.upto controlGivesSpec)) controlGivesUptoCard
end Rows
end Go.Proofs.YtmlfkbkpkgaefaaGreatDoor

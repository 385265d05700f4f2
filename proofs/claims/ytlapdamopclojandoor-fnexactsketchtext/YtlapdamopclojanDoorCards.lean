/-
  DERIVED. GIVEN WITH THE SEED: THE CARDS: each row of YtlapdamopclojanDoorRows.lean that lists a variable, with what it lists TIED to the program's text (the seventh form; the later family's looks); each row that meets fmt, with fmt's text TOLD by the authors' own Lean function (tested against real Go, not proved from fmt's source: count such statements apart). THE CARD IS WHAT COUNTS. Prove the row's statement (the work); the ties are given (YtlapdamopclojanDoorTie.lean); close each card by the builder's one call (the guide's Derived/Test/ToyasCard.lean, 'card_holds'). Laid BY PROGRAM, IN A SANDBOX (cutbox-door.mjs). By AI agents, Wed Nov 11 2026. No macro, syntax, notation, axiom, sorry.
-/
import Derived.Test.YtlapdamopclojanDoorRows
import GoSem.ClaimSeven
namespace Go.Proofs.YtlapdamopclojanDoor
namespace Rows

/-- THE TIED CARD OF 'laws.FnExactSketchText'. -/
def fnExactSketchTextCard : Claim7 := { stood := { row := fnExactSketchTextRow, standIns := [], harness := (true, "f0c37c76cfd72e9e2ce5644330daab61eebc134762b584e38f62b283314e820d"), looks := false }, kinds := [], alts := [], laidByText := true, laidKinds := [.data, .data, .data], laidTests := true, laidLooks := .later }
def FnExactSketchTextCardSaid : Prop := Claim7.holds Tryd.pinned (.plain (OpenSpec.ofChange fnExactSketchTextSpec)) fnExactSketchTextCard

/-- THE SECOND FORM's CARD OF 'laws.FnExactSketchText'. -/
def fnExactSketchTextUptoCard : Claim7 := { stood := { row := fnExactSketchTextUptoRow, standIns := [], harness := (true, "f0c37c76cfd72e9e2ce5644330daab61eebc134762b584e38f62b283314e820d"), looks := false }, kinds := [], alts := [], laidByText := true, laidKinds := [.data, .data, .data], laidTests := true, laidLooks := .later }
def FnExactSketchTextUptoCardSaid : Prop := Claim7.holds Tryd.pinned (.plain (OpenSpec.upto fnExactSketchTextSpec)) fnExactSketchTextUptoCard
end Rows
end Go.Proofs.YtlapdamopclojanDoor

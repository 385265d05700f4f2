/-
  DERIVED. GIVEN WITH THE SEED: THE CARDS: each row of YtgkbhhlkaifnoabDoorRows.lean that lists a variable, with what it lists TIED to the program's text (the seventh form; the later family's looks); each row that meets fmt, with fmt's text TOLD by the authors' own Lean function (tested against real Go, not proved from fmt's source: count such statements apart). THE CARD IS WHAT COUNTS. Prove the row's statement (the work); the ties are given (YtgkbhhlkaifnoabDoorTie.lean); close each card by the builder's one call (the guide's Derived/Test/ToyasCard.lean, 'card_holds'). Laid BY PROGRAM, IN A SANDBOX (cutbox-door.mjs). By AI agents, Wed Nov 11 2026. No macro, syntax, notation, axiom, sorry.
-/
import Derived.Test.YtgkbhhlkaifnoabDoorRows
import GoSem.ClaimSeven
namespace Go.Proofs.YtgkbhhlkaifnoabDoor
namespace Rows

/-- THE TIED CARD OF 'laws.FnExactSeatData'. -/
def fnExactSeatDataCard : Claim7 := { stood := { row := fnExactSeatDataRow, standIns := [], harness := (true, "f57de8ffb53212c1421743d7f92bdaeec2aa83259d78c0ebcd69b0b7fe0f235f"), looks := true }, kinds := [], alts := [], laidByText := true, laidKinds := [.handle], laidTests := true, laidLooks := .later }
def FnExactSeatDataCardSaid : Prop := Claim7.holds Tryd.pinned (.plain (OpenSpec.ofChange fnExactSeatDataSpec)) fnExactSeatDataCard

/-- THE SECOND FORM's CARD OF 'laws.FnExactSeatData'. -/
def fnExactSeatDataUptoCard : Claim7 := { stood := { row := fnExactSeatDataUptoRow, standIns := [], harness := (true, "f57de8ffb53212c1421743d7f92bdaeec2aa83259d78c0ebcd69b0b7fe0f235f"), looks := true }, kinds := [], alts := [], laidByText := true, laidKinds := [.handle], laidTests := true, laidLooks := .later }
def FnExactSeatDataUptoCardSaid : Prop := Claim7.holds Tryd.pinned (.plain (OpenSpec.upto fnExactSeatDataSpec)) fnExactSeatDataUptoCard
end Rows
end Go.Proofs.YtgkbhhlkaifnoabDoor

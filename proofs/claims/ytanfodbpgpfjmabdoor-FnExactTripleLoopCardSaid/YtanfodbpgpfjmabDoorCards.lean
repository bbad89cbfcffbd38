/-
  DERIVED. GIVEN WITH THE SEED: THE CARDS: each row of YtanfodbpgpfjmabDoorRows.lean that lists a variable, with what it lists TIED to the program's text (the seventh form; the later family's looks); each row that meets fmt, with fmt's text TOLD by the authors' own Lean function (tested against real Go, not proved from fmt's source: count such statements apart). THE CARD IS WHAT COUNTS. Prove the row's statement (the work); the ties are given (YtanfodbpgpfjmabDoorTie.lean); close each card by the builder's one call (the guide's Derived/Test/ToyasCard.lean, 'card_holds'). Laid BY PROGRAM, IN A SANDBOX (cutbox-door.mjs). By AI agents, Wed Nov 11 2026. No macro, syntax, notation, axiom, sorry.
-/
import Derived.Test.YtanfodbpgpfjmabDoorRows
import GoSem.ClaimSeven
namespace Go.Proofs.YtanfodbpgpfjmabDoor
namespace Rows

/-- THE TIED CARD OF 'laws.FnExactIsTripleSystem'. -/
def fnExactIsTripleSystemCard : Claim7 := { stood := { row := fnExactIsTripleSystemRow, standIns := [], harness := (true, "35cb23541c0509358cbcd5bc5f2da2a74675db459bf519c6350f55f6cc3c133a"), looks := false }, kinds := [], alts := [], laidByText := true, laidKinds := [.data], laidTests := true, laidLooks := .later }
def FnExactIsTripleSystemCardSaid : Prop := Claim7.holds Tryd.pinned (.plain (OpenSpec.ofChange fnExactIsTripleSystemSpec)) fnExactIsTripleSystemCard

/-- THE TIED CARD OF 'laws.FnExactThirdPoint'. -/
def fnExactThirdPointCard : Claim7 := { stood := { row := fnExactThirdPointRow, standIns := [], harness := (true, "35cb23541c0509358cbcd5bc5f2da2a74675db459bf519c6350f55f6cc3c133a"), looks := false }, kinds := [], alts := [], laidByText := true, laidKinds := [.data], laidTests := true, laidLooks := .later }
def FnExactThirdPointCardSaid : Prop := Claim7.holds Tryd.pinned (.plain (OpenSpec.ofChange fnExactThirdPointSpec)) fnExactThirdPointCard

/-- THE TIED CARD OF 'laws.FnExactTripleSquare'. -/
def fnExactTripleSquareCard : Claim7 := { stood := { row := fnExactTripleSquareRow, standIns := [], harness := (true, "35cb23541c0509358cbcd5bc5f2da2a74675db459bf519c6350f55f6cc3c133a"), looks := false }, kinds := [], alts := [], laidByText := true, laidKinds := [.data], laidTests := true, laidLooks := .later }
def FnExactTripleSquareCardSaid : Prop := Claim7.holds Tryd.pinned (.plain (OpenSpec.ofChange fnExactTripleSquareSpec)) fnExactTripleSquareCard

/-- THE TIED CARD OF 'laws.FnExactTripleLoop'. -/
def fnExactTripleLoopCard : Claim7 := { stood := { row := fnExactTripleLoopRow, standIns := [], harness := (true, "35cb23541c0509358cbcd5bc5f2da2a74675db459bf519c6350f55f6cc3c133a"), looks := false }, kinds := [], alts := [], laidByText := true, laidKinds := [.data], laidTests := true, laidLooks := .later }
def FnExactTripleLoopCardSaid : Prop := Claim7.holds Tryd.pinned (.plain (OpenSpec.ofChange fnExactTripleLoopSpec)) fnExactTripleLoopCard

/-- THE SECOND FORM's CARD OF 'laws.FnExactIsTripleSystem'. -/
def fnExactIsTripleSystemUptoCard : Claim7 := { stood := { row := fnExactIsTripleSystemUptoRow, standIns := [], harness := (true, "35cb23541c0509358cbcd5bc5f2da2a74675db459bf519c6350f55f6cc3c133a"), looks := false }, kinds := [], alts := [], laidByText := true, laidKinds := [.data], laidTests := true, laidLooks := .later }
def FnExactIsTripleSystemUptoCardSaid : Prop := Claim7.holds Tryd.pinned (.plain (OpenSpec.upto fnExactIsTripleSystemSpec)) fnExactIsTripleSystemUptoCard

/-- THE SECOND FORM's CARD OF 'laws.FnExactThirdPoint'. -/
def fnExactThirdPointUptoCard : Claim7 := { stood := { row := fnExactThirdPointUptoRow, standIns := [], harness := (true, "35cb23541c0509358cbcd5bc5f2da2a74675db459bf519c6350f55f6cc3c133a"), looks := false }, kinds := [], alts := [], laidByText := true, laidKinds := [.data], laidTests := true, laidLooks := .later }
def FnExactThirdPointUptoCardSaid : Prop := Claim7.holds Tryd.pinned (.plain (OpenSpec.upto fnExactThirdPointSpec)) fnExactThirdPointUptoCard

/-- THE SECOND FORM's CARD OF 'laws.FnExactTripleSquare'. -/
def fnExactTripleSquareUptoCard : Claim7 := { stood := { row := fnExactTripleSquareUptoRow, standIns := [], harness := (true, "35cb23541c0509358cbcd5bc5f2da2a74675db459bf519c6350f55f6cc3c133a"), looks := false }, kinds := [], alts := [], laidByText := true, laidKinds := [.data], laidTests := true, laidLooks := .later }
def FnExactTripleSquareUptoCardSaid : Prop := Claim7.holds Tryd.pinned (.plain (OpenSpec.upto fnExactTripleSquareSpec)) fnExactTripleSquareUptoCard

/-- THE SECOND FORM's CARD OF 'laws.FnExactTripleLoop'. -/
def fnExactTripleLoopUptoCard : Claim7 := { stood := { row := fnExactTripleLoopUptoRow, standIns := [], harness := (true, "35cb23541c0509358cbcd5bc5f2da2a74675db459bf519c6350f55f6cc3c133a"), looks := false }, kinds := [], alts := [], laidByText := true, laidKinds := [.data], laidTests := true, laidLooks := .later }
def FnExactTripleLoopUptoCardSaid : Prop := Claim7.holds Tryd.pinned (.plain (OpenSpec.upto fnExactTripleLoopSpec)) fnExactTripleLoopUptoCard
end Rows
end Go.Proofs.YtanfodbpgpfjmabDoor

/-
  DERIVED. GIVEN WITH THE SEED: THE CARDS: each row of YtigcgpgkpkoodaaDoorRows.lean that lists a variable, with what it lists TIED to the program's text (the seventh form; the later family's looks); each row that meets fmt, with fmt's text TOLD by the authors' own Lean function (tested against real Go, not proved from fmt's source: count such statements apart). THE CARD IS WHAT COUNTS. Prove the row's statement (the work); the ties are given (YtigcgpgkpkoodaaDoorTie.lean); close each card by the builder's one call (the guide's Derived/Test/ToyasCard.lean, 'card_holds'). Laid BY PROGRAM, IN A SANDBOX (cutbox-door.mjs). By AI agents, Wed Nov 11 2026. No macro, syntax, notation, axiom, sorry.
-/
import Derived.Test.YtigcgpgkpkoodaaDoorRows
import GoSem.ClaimSeven
namespace Go.Proofs.YtigcgpgkpkoodaaDoor
namespace Rows

/-- THE TIED CARD OF 'laws.FnExactUnionSets'. -/
def fnExactUnionSetsCard : Claim7 := { stood := { row := fnExactUnionSetsRow, standIns := [], harness := (true, "53f1307a9987543703f3dd1513f36ad4738a21e4f8bcbfade68b97b0bad88a54"), looks := false }, kinds := [], alts := [], laidByText := true, laidKinds := [.data], laidTests := true, laidLooks := .later }
def FnExactUnionSetsCardSaid : Prop := Claim7.holds Tryd.pinned (.plain (OpenSpec.ofChange fnExactUnionSetsSpec)) fnExactUnionSetsCard

/-- THE TIED CARD OF 'laws.FnExactMeetSets'. -/
def fnExactMeetSetsCard : Claim7 := { stood := { row := fnExactMeetSetsRow, standIns := [], harness := (true, "53f1307a9987543703f3dd1513f36ad4738a21e4f8bcbfade68b97b0bad88a54"), looks := false }, kinds := [], alts := [], laidByText := true, laidKinds := [.data], laidTests := true, laidLooks := .later }
def FnExactMeetSetsCardSaid : Prop := Claim7.holds Tryd.pinned (.plain (OpenSpec.ofChange fnExactMeetSetsSpec)) fnExactMeetSetsCard

/-- THE TIED CARD OF 'laws.FnExactMinusSets'. -/
def fnExactMinusSetsCard : Claim7 := { stood := { row := fnExactMinusSetsRow, standIns := [], harness := (true, "53f1307a9987543703f3dd1513f36ad4738a21e4f8bcbfade68b97b0bad88a54"), looks := false }, kinds := [], alts := [], laidByText := true, laidKinds := [.data], laidTests := true, laidLooks := .later }
def FnExactMinusSetsCardSaid : Prop := Claim7.holds Tryd.pinned (.plain (OpenSpec.ofChange fnExactMinusSetsSpec)) fnExactMinusSetsCard

/-- THE TIED CARD OF 'laws.FnSets'. -/
def fnSetsCard : Claim7 := { stood := { row := fnSetsRow, standIns := [], harness := (true, "53f1307a9987543703f3dd1513f36ad4738a21e4f8bcbfade68b97b0bad88a54"), looks := false }, kinds := [], alts := [], laidByText := true, laidKinds := [.data], laidTests := true, laidLooks := .later }
def FnSetsCardSaid : Prop := Claim7.holds Tryd.pinned (.plain (OpenSpec.ofChange fnSetsSpec)) fnSetsCard

/-- THE TIED CARD OF 'laws.FnExactApplySet'. -/
def fnExactApplySetCard : Claim7 := { stood := { row := fnExactApplySetRow, standIns := [], harness := (true, "53f1307a9987543703f3dd1513f36ad4738a21e4f8bcbfade68b97b0bad88a54"), looks := false }, kinds := [], alts := [], laidByText := true, laidKinds := [.data], laidTests := true, laidLooks := .later }
def FnExactApplySetCardSaid : Prop := Claim7.holds Tryd.pinned (.plain (OpenSpec.ofChange fnExactApplySetSpec)) fnExactApplySetCard

/-- THE TIED CARD OF 'laws.FnExactIsSubsquare'. -/
def fnExactIsSubsquareCard : Claim7 := { stood := { row := fnExactIsSubsquareRow, standIns := [], harness := (true, "53f1307a9987543703f3dd1513f36ad4738a21e4f8bcbfade68b97b0bad88a54"), looks := false }, kinds := [], alts := [], laidByText := true, laidKinds := [.data], laidTests := true, laidLooks := .later }
def FnExactIsSubsquareCardSaid : Prop := Claim7.holds Tryd.pinned (.plain (OpenSpec.ofChange fnExactIsSubsquareSpec)) fnExactIsSubsquareCard

/-- THE TIED CARD OF 'laws.FnExactCandidatesAt'. -/
def fnExactCandidatesAtCard : Claim7 := { stood := { row := fnExactCandidatesAtRow, standIns := [], harness := (true, "53f1307a9987543703f3dd1513f36ad4738a21e4f8bcbfade68b97b0bad88a54"), looks := false }, kinds := [], alts := [], laidByText := true, laidKinds := [.data], laidTests := true, laidLooks := .later }
def FnExactCandidatesAtCardSaid : Prop := Claim7.holds Tryd.pinned (.plain (OpenSpec.ofChange fnExactCandidatesAtSpec)) fnExactCandidatesAtCard

/-- THE TIED CARD OF 'laws.FnExactClosureIn'. -/
def fnExactClosureInCard : Claim7 := { stood := { row := fnExactClosureInRow, standIns := [], harness := (true, "53f1307a9987543703f3dd1513f36ad4738a21e4f8bcbfade68b97b0bad88a54"), looks := false }, kinds := [], alts := [], laidByText := true, laidKinds := [.data], laidTests := true, laidLooks := .later }
def FnExactClosureInCardSaid : Prop := Claim7.holds Tryd.pinned (.plain (OpenSpec.ofChange fnExactClosureInSpec)) fnExactClosureInCard

/-- THE SECOND FORM's CARD OF 'laws.FnExactUnionSets'. -/
def fnExactUnionSetsUptoCard : Claim7 := { stood := { row := fnExactUnionSetsUptoRow, standIns := [], harness := (true, "53f1307a9987543703f3dd1513f36ad4738a21e4f8bcbfade68b97b0bad88a54"), looks := false }, kinds := [], alts := [], laidByText := true, laidKinds := [.data], laidTests := true, laidLooks := .later }
def FnExactUnionSetsUptoCardSaid : Prop := Claim7.holds Tryd.pinned (.plain (OpenSpec.upto fnExactUnionSetsSpec)) fnExactUnionSetsUptoCard

/-- THE SECOND FORM's CARD OF 'laws.FnExactMeetSets'. -/
def fnExactMeetSetsUptoCard : Claim7 := { stood := { row := fnExactMeetSetsUptoRow, standIns := [], harness := (true, "53f1307a9987543703f3dd1513f36ad4738a21e4f8bcbfade68b97b0bad88a54"), looks := false }, kinds := [], alts := [], laidByText := true, laidKinds := [.data], laidTests := true, laidLooks := .later }
def FnExactMeetSetsUptoCardSaid : Prop := Claim7.holds Tryd.pinned (.plain (OpenSpec.upto fnExactMeetSetsSpec)) fnExactMeetSetsUptoCard

/-- THE SECOND FORM's CARD OF 'laws.FnExactMinusSets'. -/
def fnExactMinusSetsUptoCard : Claim7 := { stood := { row := fnExactMinusSetsUptoRow, standIns := [], harness := (true, "53f1307a9987543703f3dd1513f36ad4738a21e4f8bcbfade68b97b0bad88a54"), looks := false }, kinds := [], alts := [], laidByText := true, laidKinds := [.data], laidTests := true, laidLooks := .later }
def FnExactMinusSetsUptoCardSaid : Prop := Claim7.holds Tryd.pinned (.plain (OpenSpec.upto fnExactMinusSetsSpec)) fnExactMinusSetsUptoCard

/-- THE SECOND FORM's CARD OF 'laws.FnSets'. -/
def fnSetsUptoCard : Claim7 := { stood := { row := fnSetsUptoRow, standIns := [], harness := (true, "53f1307a9987543703f3dd1513f36ad4738a21e4f8bcbfade68b97b0bad88a54"), looks := false }, kinds := [], alts := [], laidByText := true, laidKinds := [.data], laidTests := true, laidLooks := .later }
def FnSetsUptoCardSaid : Prop := Claim7.holds Tryd.pinned (.plain (OpenSpec.upto fnSetsSpec)) fnSetsUptoCard

/-- THE SECOND FORM's CARD OF 'laws.FnExactApplySet'. -/
def fnExactApplySetUptoCard : Claim7 := { stood := { row := fnExactApplySetUptoRow, standIns := [], harness := (true, "53f1307a9987543703f3dd1513f36ad4738a21e4f8bcbfade68b97b0bad88a54"), looks := false }, kinds := [], alts := [], laidByText := true, laidKinds := [.data], laidTests := true, laidLooks := .later }
def FnExactApplySetUptoCardSaid : Prop := Claim7.holds Tryd.pinned (.plain (OpenSpec.upto fnExactApplySetSpec)) fnExactApplySetUptoCard

/-- THE SECOND FORM's CARD OF 'laws.FnExactIsSubsquare'. -/
def fnExactIsSubsquareUptoCard : Claim7 := { stood := { row := fnExactIsSubsquareUptoRow, standIns := [], harness := (true, "53f1307a9987543703f3dd1513f36ad4738a21e4f8bcbfade68b97b0bad88a54"), looks := false }, kinds := [], alts := [], laidByText := true, laidKinds := [.data], laidTests := true, laidLooks := .later }
def FnExactIsSubsquareUptoCardSaid : Prop := Claim7.holds Tryd.pinned (.plain (OpenSpec.upto fnExactIsSubsquareSpec)) fnExactIsSubsquareUptoCard

/-- THE SECOND FORM's CARD OF 'laws.FnExactCandidatesAt'. -/
def fnExactCandidatesAtUptoCard : Claim7 := { stood := { row := fnExactCandidatesAtUptoRow, standIns := [], harness := (true, "53f1307a9987543703f3dd1513f36ad4738a21e4f8bcbfade68b97b0bad88a54"), looks := false }, kinds := [], alts := [], laidByText := true, laidKinds := [.data], laidTests := true, laidLooks := .later }
def FnExactCandidatesAtUptoCardSaid : Prop := Claim7.holds Tryd.pinned (.plain (OpenSpec.upto fnExactCandidatesAtSpec)) fnExactCandidatesAtUptoCard

/-- THE SECOND FORM's CARD OF 'laws.FnExactClosureIn'. -/
def fnExactClosureInUptoCard : Claim7 := { stood := { row := fnExactClosureInUptoRow, standIns := [], harness := (true, "53f1307a9987543703f3dd1513f36ad4738a21e4f8bcbfade68b97b0bad88a54"), looks := false }, kinds := [], alts := [], laidByText := true, laidKinds := [.data], laidTests := true, laidLooks := .later }
def FnExactClosureInUptoCardSaid : Prop := Claim7.holds Tryd.pinned (.plain (OpenSpec.upto fnExactClosureInSpec)) fnExactClosureInUptoCard
end Rows
end Go.Proofs.YtigcgpgkpkoodaaDoor

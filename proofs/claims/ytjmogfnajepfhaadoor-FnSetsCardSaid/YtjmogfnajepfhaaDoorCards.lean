/-
  DERIVED. GIVEN WITH THE SEED: THE CARDS: each row of YtjmogfnajepfhaaDoorRows.lean that lists a variable, with what it lists TIED to the program's text (the seventh form; the later family's looks); each row that meets fmt, with fmt's text TOLD by the authors' own Lean function (tested against real Go, not proved from fmt's source: count such statements apart). THE CARD IS WHAT COUNTS. Prove the row's statement (the work); the ties are given (YtjmogfnajepfhaaDoorTie.lean); close each card by the builder's one call (the guide's Derived/Test/ToyasCard.lean, 'card_holds'). Laid BY PROGRAM, IN A SANDBOX (cutbox-door.mjs). By AI agents, Wed Nov 11 2026. No macro, syntax, notation, axiom, sorry.
-/
import Derived.Test.YtjmogfnajepfhaaDoorRows
import GoSem.ClaimSeven
namespace Go.Proofs.YtjmogfnajepfhaaDoor
namespace Rows

/-- THE TIED CARD OF 'laws.FnSets'. -/
def fnSetsCard : Claim7 := { stood := { row := fnSetsRow, standIns := [], harness := (true, "e9b4a99dfb887513973d900cbc3ab02c60ce34ebad58db6da213969b8b8b9425"), looks := false }, kinds := [], alts := [], laidByText := true, laidKinds := [.data], laidTests := true, laidLooks := .later }
def FnSetsCardSaid : Prop := Claim7.holds Tryd.pinned (.plain (OpenSpec.ofChange fnSetsSpec)) fnSetsCard

/-- THE TIED CARD OF 'laws.FnExactUnionSets'. -/
def fnExactUnionSetsCard : Claim7 := { stood := { row := fnExactUnionSetsRow, standIns := [], harness := (true, "e9b4a99dfb887513973d900cbc3ab02c60ce34ebad58db6da213969b8b8b9425"), looks := false }, kinds := [], alts := [], laidByText := true, laidKinds := [.data], laidTests := true, laidLooks := .later }
def FnExactUnionSetsCardSaid : Prop := Claim7.holds Tryd.pinned (.plain (OpenSpec.ofChange fnExactUnionSetsSpec)) fnExactUnionSetsCard

/-- THE TIED CARD OF 'laws.FnExactMeetSets'. -/
def fnExactMeetSetsCard : Claim7 := { stood := { row := fnExactMeetSetsRow, standIns := [], harness := (true, "e9b4a99dfb887513973d900cbc3ab02c60ce34ebad58db6da213969b8b8b9425"), looks := false }, kinds := [], alts := [], laidByText := true, laidKinds := [.data], laidTests := true, laidLooks := .later }
def FnExactMeetSetsCardSaid : Prop := Claim7.holds Tryd.pinned (.plain (OpenSpec.ofChange fnExactMeetSetsSpec)) fnExactMeetSetsCard

/-- THE TIED CARD OF 'laws.FnExactMinusSets'. -/
def fnExactMinusSetsCard : Claim7 := { stood := { row := fnExactMinusSetsRow, standIns := [], harness := (true, "e9b4a99dfb887513973d900cbc3ab02c60ce34ebad58db6da213969b8b8b9425"), looks := false }, kinds := [], alts := [], laidByText := true, laidKinds := [.data], laidTests := true, laidLooks := .later }
def FnExactMinusSetsCardSaid : Prop := Claim7.holds Tryd.pinned (.plain (OpenSpec.ofChange fnExactMinusSetsSpec)) fnExactMinusSetsCard

/-- THE SECOND FORM's CARD OF 'laws.FnSets'. -/
def fnSetsUptoCard : Claim7 := { stood := { row := fnSetsUptoRow, standIns := [], harness := (true, "e9b4a99dfb887513973d900cbc3ab02c60ce34ebad58db6da213969b8b8b9425"), looks := false }, kinds := [], alts := [], laidByText := true, laidKinds := [.data], laidTests := true, laidLooks := .later }
def FnSetsUptoCardSaid : Prop := Claim7.holds Tryd.pinned (.plain (OpenSpec.upto fnSetsSpec)) fnSetsUptoCard

/-- THE SECOND FORM's CARD OF 'laws.FnExactUnionSets'. -/
def fnExactUnionSetsUptoCard : Claim7 := { stood := { row := fnExactUnionSetsUptoRow, standIns := [], harness := (true, "e9b4a99dfb887513973d900cbc3ab02c60ce34ebad58db6da213969b8b8b9425"), looks := false }, kinds := [], alts := [], laidByText := true, laidKinds := [.data], laidTests := true, laidLooks := .later }
def FnExactUnionSetsUptoCardSaid : Prop := Claim7.holds Tryd.pinned (.plain (OpenSpec.upto fnExactUnionSetsSpec)) fnExactUnionSetsUptoCard

/-- THE SECOND FORM's CARD OF 'laws.FnExactMeetSets'. -/
def fnExactMeetSetsUptoCard : Claim7 := { stood := { row := fnExactMeetSetsUptoRow, standIns := [], harness := (true, "e9b4a99dfb887513973d900cbc3ab02c60ce34ebad58db6da213969b8b8b9425"), looks := false }, kinds := [], alts := [], laidByText := true, laidKinds := [.data], laidTests := true, laidLooks := .later }
def FnExactMeetSetsUptoCardSaid : Prop := Claim7.holds Tryd.pinned (.plain (OpenSpec.upto fnExactMeetSetsSpec)) fnExactMeetSetsUptoCard

/-- THE SECOND FORM's CARD OF 'laws.FnExactMinusSets'. -/
def fnExactMinusSetsUptoCard : Claim7 := { stood := { row := fnExactMinusSetsUptoRow, standIns := [], harness := (true, "e9b4a99dfb887513973d900cbc3ab02c60ce34ebad58db6da213969b8b8b9425"), looks := false }, kinds := [], alts := [], laidByText := true, laidKinds := [.data], laidTests := true, laidLooks := .later }
def FnExactMinusSetsUptoCardSaid : Prop := Claim7.holds Tryd.pinned (.plain (OpenSpec.upto fnExactMinusSetsSpec)) fnExactMinusSetsUptoCard
end Rows
end Go.Proofs.YtjmogfnajepfhaaDoor

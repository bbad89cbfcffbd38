/-
  DERIVED. GIVEN WITH THE SEED: THE CARDS: each row of YtoioconlpdgndaaDoorRows.lean that lists a variable, with what it lists TIED to the program's text (the seventh form; the later family's looks); each row that meets fmt, with fmt's text TOLD by the authors' own Lean function (tested against real Go, not proved from fmt's source: count such statements apart). THE CARD IS WHAT COUNTS. Prove the row's statement (the work); the ties are given (YtoioconlpdgndaaDoorTie.lean); close each card by the builder's one call (the guide's Derived/Test/ToyasCard.lean, 'card_holds'). Laid BY PROGRAM, IN A SANDBOX (cutbox-door.mjs). By AI agents, Wed Nov 11 2026. No macro, syntax, notation, axiom, sorry.
-/
import Derived.Test.YtoioconlpdgndaaDoorRows
import GoSem.ClaimSeven
namespace Go.Proofs.YtoioconlpdgndaaDoor
namespace Rows

/-- THE TIED CARD OF 'laws.FnExactSquareText'. -/
def fnExactSquareTextCard : Claim7 := { stood := { row := fnExactSquareTextRow, standIns := [], harness := (true, "ff74c46fe52da5d86270f362b94c908f7e2339ff887b25f75ec947e926fc4ed6"), looks := false }, kinds := [], alts := [], laidByText := true, laidKinds := [.data, .data, .data], laidTests := true, laidLooks := .later }
def FnExactSquareTextCardSaid : Prop := Claim7.holds Tryd.pinned (.plain (OpenSpec.ofChange fnExactSquareTextSpec)) fnExactSquareTextCard

/-- THE TIED CARD OF 'laws.FnExactPartialText'. -/
def fnExactPartialTextCard : Claim7 := { stood := { row := fnExactPartialTextRow, standIns := [], harness := (true, "ff74c46fe52da5d86270f362b94c908f7e2339ff887b25f75ec947e926fc4ed6"), looks := false }, kinds := [], alts := [], laidByText := true, laidKinds := [.data, .data, .data], laidTests := true, laidLooks := .later }
def FnExactPartialTextCardSaid : Prop := Claim7.holds Tryd.pinned (.plain (OpenSpec.ofChange fnExactPartialTextSpec)) fnExactPartialTextCard

/-- THE SECOND FORM's CARD OF 'laws.FnExactSquareText'. -/
def fnExactSquareTextUptoCard : Claim7 := { stood := { row := fnExactSquareTextUptoRow, standIns := [], harness := (true, "ff74c46fe52da5d86270f362b94c908f7e2339ff887b25f75ec947e926fc4ed6"), looks := false }, kinds := [], alts := [], laidByText := true, laidKinds := [.data, .data, .data], laidTests := true, laidLooks := .later }
def FnExactSquareTextUptoCardSaid : Prop := Claim7.holds Tryd.pinned (.plain (OpenSpec.upto fnExactSquareTextSpec)) fnExactSquareTextUptoCard

/-- THE SECOND FORM's CARD OF 'laws.FnExactPartialText'. -/
def fnExactPartialTextUptoCard : Claim7 := { stood := { row := fnExactPartialTextUptoRow, standIns := [], harness := (true, "ff74c46fe52da5d86270f362b94c908f7e2339ff887b25f75ec947e926fc4ed6"), looks := false }, kinds := [], alts := [], laidByText := true, laidKinds := [.data, .data, .data], laidTests := true, laidLooks := .later }
def FnExactPartialTextUptoCardSaid : Prop := Claim7.holds Tryd.pinned (.plain (OpenSpec.upto fnExactPartialTextSpec)) fnExactPartialTextUptoCard
end Rows
end Go.Proofs.YtoioconlpdgndaaDoor

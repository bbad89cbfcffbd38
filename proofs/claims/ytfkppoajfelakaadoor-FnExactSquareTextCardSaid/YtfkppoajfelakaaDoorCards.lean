/-
  DERIVED. GIVEN WITH THE SEED: THE CARDS: each row of YtfkppoajfelakaaDoorRows.lean that lists a variable, with what it lists TIED to the program's text (the seventh form; the later family's looks); each row that meets fmt, with fmt's text TOLD by the authors' own Lean function (tested against real Go, not proved from fmt's source: count such statements apart). THE CARD IS WHAT COUNTS. Prove the row's statement (the work); the ties are given (YtfkppoajfelakaaDoorTie.lean); close each card by the builder's one call (the guide's Derived/Test/ToyasCard.lean, 'card_holds'). Laid BY PROGRAM, IN A SANDBOX (cutbox-door.mjs). By AI agents, Wed Nov 11 2026. No macro, syntax, notation, axiom, sorry.
-/
import Derived.Test.YtfkppoajfelakaaDoorRows
import GoSem.ClaimSeven
namespace Go.Proofs.YtfkppoajfelakaaDoor
namespace Rows

/-- THE TIED CARD OF 'laws.FnExactSquareText'. -/
def fnExactSquareTextCard : Claim7 := { stood := { row := fnExactSquareTextRow, standIns := [], harness := (true, "7cc8948ef612bd53e85cabff84dc2585d60048cd50f498dbd330566c8295b77c"), looks := false }, kinds := [], alts := [], laidByText := true, laidKinds := [.data, .data, .data], laidTests := true, laidLooks := .later }
def FnExactSquareTextCardSaid : Prop := Claim7.holds Tryd.pinned (.plain (OpenSpec.ofChange fnExactSquareTextSpec)) fnExactSquareTextCard

/-- THE SECOND FORM's CARD OF 'laws.FnExactSquareText'. -/
def fnExactSquareTextUptoCard : Claim7 := { stood := { row := fnExactSquareTextUptoRow, standIns := [], harness := (true, "7cc8948ef612bd53e85cabff84dc2585d60048cd50f498dbd330566c8295b77c"), looks := false }, kinds := [], alts := [], laidByText := true, laidKinds := [.data, .data, .data], laidTests := true, laidLooks := .later }
def FnExactSquareTextUptoCardSaid : Prop := Claim7.holds Tryd.pinned (.plain (OpenSpec.upto fnExactSquareTextSpec)) fnExactSquareTextUptoCard
end Rows
end Go.Proofs.YtfkppoajfelakaaDoor

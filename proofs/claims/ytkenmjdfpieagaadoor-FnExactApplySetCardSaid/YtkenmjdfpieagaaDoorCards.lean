/-
  DERIVED. GIVEN WITH THE SEED: THE CARDS: each row of YtkenmjdfpieagaaDoorRows.lean that lists a variable, with what it lists TIED to the program's text (the seventh form; the later family's looks); each row that meets fmt, with fmt's text TOLD by the authors' own Lean function (tested against real Go, not proved from fmt's source: count such statements apart). THE CARD IS WHAT COUNTS. Prove the row's statement (the work); the ties are given (YtkenmjdfpieagaaDoorTie.lean); close each card by the builder's one call (the guide's Derived/Test/ToyasCard.lean, 'card_holds'). Laid BY PROGRAM, IN A SANDBOX (cutbox-door.mjs). By AI agents, Wed Nov 11 2026. No macro, syntax, notation, axiom, sorry.
-/
import Derived.Test.YtkenmjdfpieagaaDoorRows
import GoSem.ClaimSeven
namespace Go.Proofs.YtkenmjdfpieagaaDoor
namespace Rows

/-- THE TIED CARD OF 'laws.FnImages'. -/
def fnImagesCard : Claim7 := { stood := { row := fnImagesRow, standIns := [], harness := (true, "6a72a10cb51a45ef54552bab27ccaa9e775eed3806b776f65d1619371deec6b0"), looks := false }, kinds := [], alts := [], laidByText := true, laidKinds := [.data], laidTests := true, laidLooks := .later }
def FnImagesCardSaid : Prop := Claim7.holds Tryd.pinned (.plain (OpenSpec.ofChange fnImagesSpec)) fnImagesCard

/-- THE TIED CARD OF 'laws.FnExactApplySet'. -/
def fnExactApplySetCard : Claim7 := { stood := { row := fnExactApplySetRow, standIns := [], harness := (true, "6a72a10cb51a45ef54552bab27ccaa9e775eed3806b776f65d1619371deec6b0"), looks := false }, kinds := [], alts := [], laidByText := true, laidKinds := [.data], laidTests := true, laidLooks := .later }
def FnExactApplySetCardSaid : Prop := Claim7.holds Tryd.pinned (.plain (OpenSpec.ofChange fnExactApplySetSpec)) fnExactApplySetCard

/-- THE SECOND FORM's CARD OF 'laws.FnImages'. -/
def fnImagesUptoCard : Claim7 := { stood := { row := fnImagesUptoRow, standIns := [], harness := (true, "6a72a10cb51a45ef54552bab27ccaa9e775eed3806b776f65d1619371deec6b0"), looks := false }, kinds := [], alts := [], laidByText := true, laidKinds := [.data], laidTests := true, laidLooks := .later }
def FnImagesUptoCardSaid : Prop := Claim7.holds Tryd.pinned (.plain (OpenSpec.upto fnImagesSpec)) fnImagesUptoCard

/-- THE SECOND FORM's CARD OF 'laws.FnExactApplySet'. -/
def fnExactApplySetUptoCard : Claim7 := { stood := { row := fnExactApplySetUptoRow, standIns := [], harness := (true, "6a72a10cb51a45ef54552bab27ccaa9e775eed3806b776f65d1619371deec6b0"), looks := false }, kinds := [], alts := [], laidByText := true, laidKinds := [.data], laidTests := true, laidLooks := .later }
def FnExactApplySetUptoCardSaid : Prop := Claim7.holds Tryd.pinned (.plain (OpenSpec.upto fnExactApplySetSpec)) fnExactApplySetUptoCard
end Rows
end Go.Proofs.YtkenmjdfpieagaaDoor

/-
  DERIVED. GIVEN WITH THE SEED: THE CARDS: each row of YtanfodbpgpfjmaaDoorRows.lean that lists a variable, with what it lists TIED to the program's text (the seventh form; the later family's looks); each row that meets fmt, with fmt's text TOLD by the authors' own Lean function (tested against real Go, not proved from fmt's source: count such statements apart). THE CARD IS WHAT COUNTS. Prove the row's statement (the work); the ties are given (YtanfodbpgpfjmaaDoorTie.lean); close each card by the builder's one call (the guide's Derived/Test/ToyasCard.lean, 'card_holds'). Laid BY PROGRAM, IN A SANDBOX (cutbox-door.mjs). By AI agents, Wed Nov 11 2026. No macro, syntax, notation, axiom, sorry.
-/
import Derived.Test.YtanfodbpgpfjmaaDoorRows
import GoSem.ClaimSeven
namespace Go.Proofs.YtanfodbpgpfjmaaDoor
namespace Rows

/-- THE TIED CARD OF 'laws.FnExactMakeTriples'. -/
def fnExactMakeTriplesCard : Claim7 := { stood := { row := fnExactMakeTriplesRow, standIns := [], harness := (true, "d951b99bedce26a2c8a159ef91b5edbfdd2e2d6992619edc78411e620b691912"), looks := false }, kinds := [], alts := [], laidByText := true, laidKinds := [.data], laidTests := true, laidLooks := .later }
def FnExactMakeTriplesCardSaid : Prop := Claim7.holds Tryd.pinned (.plain (OpenSpec.ofChange fnExactMakeTriplesSpec)) fnExactMakeTriplesCard

/-- THE TIED CARD OF 'laws.FnExactDerivedDesign'. -/
def fnExactDerivedDesignCard : Claim7 := { stood := { row := fnExactDerivedDesignRow, standIns := [], harness := (true, "d951b99bedce26a2c8a159ef91b5edbfdd2e2d6992619edc78411e620b691912"), looks := false }, kinds := [], alts := [], laidByText := true, laidKinds := [.data], laidTests := true, laidLooks := .later }
def FnExactDerivedDesignCardSaid : Prop := Claim7.holds Tryd.pinned (.plain (OpenSpec.ofChange fnExactDerivedDesignSpec)) fnExactDerivedDesignCard

/-- THE TIED CARD OF 'laws.FnExactResidualDesign'. -/
def fnExactResidualDesignCard : Claim7 := { stood := { row := fnExactResidualDesignRow, standIns := [], harness := (true, "d951b99bedce26a2c8a159ef91b5edbfdd2e2d6992619edc78411e620b691912"), looks := false }, kinds := [], alts := [], laidByText := true, laidKinds := [.data], laidTests := true, laidLooks := .later }
def FnExactResidualDesignCardSaid : Prop := Claim7.holds Tryd.pinned (.plain (OpenSpec.ofChange fnExactResidualDesignSpec)) fnExactResidualDesignCard

/-- THE TIED CARD OF 'laws.FnExactTriplesOfSquare'. -/
def fnExactTriplesOfSquareCard : Claim7 := { stood := { row := fnExactTriplesOfSquareRow, standIns := [], harness := (true, "d951b99bedce26a2c8a159ef91b5edbfdd2e2d6992619edc78411e620b691912"), looks := false }, kinds := [], alts := [], laidByText := true, laidKinds := [.data], laidTests := true, laidLooks := .later }
def FnExactTriplesOfSquareCardSaid : Prop := Claim7.holds Tryd.pinned (.plain (OpenSpec.ofChange fnExactTriplesOfSquareSpec)) fnExactTriplesOfSquareCard

/-- THE SECOND FORM's CARD OF 'laws.FnExactMakeTriples'. -/
def fnExactMakeTriplesUptoCard : Claim7 := { stood := { row := fnExactMakeTriplesUptoRow, standIns := [], harness := (true, "d951b99bedce26a2c8a159ef91b5edbfdd2e2d6992619edc78411e620b691912"), looks := false }, kinds := [], alts := [], laidByText := true, laidKinds := [.data], laidTests := true, laidLooks := .later }
def FnExactMakeTriplesUptoCardSaid : Prop := Claim7.holds Tryd.pinned (.plain (OpenSpec.upto fnExactMakeTriplesSpec)) fnExactMakeTriplesUptoCard

/-- THE SECOND FORM's CARD OF 'laws.FnExactDerivedDesign'. -/
def fnExactDerivedDesignUptoCard : Claim7 := { stood := { row := fnExactDerivedDesignUptoRow, standIns := [], harness := (true, "d951b99bedce26a2c8a159ef91b5edbfdd2e2d6992619edc78411e620b691912"), looks := false }, kinds := [], alts := [], laidByText := true, laidKinds := [.data], laidTests := true, laidLooks := .later }
def FnExactDerivedDesignUptoCardSaid : Prop := Claim7.holds Tryd.pinned (.plain (OpenSpec.upto fnExactDerivedDesignSpec)) fnExactDerivedDesignUptoCard

/-- THE SECOND FORM's CARD OF 'laws.FnExactResidualDesign'. -/
def fnExactResidualDesignUptoCard : Claim7 := { stood := { row := fnExactResidualDesignUptoRow, standIns := [], harness := (true, "d951b99bedce26a2c8a159ef91b5edbfdd2e2d6992619edc78411e620b691912"), looks := false }, kinds := [], alts := [], laidByText := true, laidKinds := [.data], laidTests := true, laidLooks := .later }
def FnExactResidualDesignUptoCardSaid : Prop := Claim7.holds Tryd.pinned (.plain (OpenSpec.upto fnExactResidualDesignSpec)) fnExactResidualDesignUptoCard

/-- THE SECOND FORM's CARD OF 'laws.FnExactTriplesOfSquare'. -/
def fnExactTriplesOfSquareUptoCard : Claim7 := { stood := { row := fnExactTriplesOfSquareUptoRow, standIns := [], harness := (true, "d951b99bedce26a2c8a159ef91b5edbfdd2e2d6992619edc78411e620b691912"), looks := false }, kinds := [], alts := [], laidByText := true, laidKinds := [.data], laidTests := true, laidLooks := .later }
def FnExactTriplesOfSquareUptoCardSaid : Prop := Claim7.holds Tryd.pinned (.plain (OpenSpec.upto fnExactTriplesOfSquareSpec)) fnExactTriplesOfSquareUptoCard
end Rows
end Go.Proofs.YtanfodbpgpfjmaaDoor

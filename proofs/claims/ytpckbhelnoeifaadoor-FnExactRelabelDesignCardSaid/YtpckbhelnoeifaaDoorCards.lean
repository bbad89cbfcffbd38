/-
  DERIVED. GIVEN WITH THE SEED: THE CARDS: each row of YtpckbhelnoeifaaDoorRows.lean that lists a variable, with what it lists TIED to the program's text (the seventh form; the later family's looks); each row that meets fmt, with fmt's text TOLD by the authors' own Lean function (tested against real Go, not proved from fmt's source: count such statements apart). THE CARD IS WHAT COUNTS. Prove the row's statement (the work); the ties are given (YtpckbhelnoeifaaDoorTie.lean); close each card by the builder's one call (the guide's Derived/Test/ToyasCard.lean, 'card_holds'). Laid BY PROGRAM, IN A SANDBOX (cutbox-door.mjs). By AI agents, Wed Nov 11 2026. No macro, syntax, notation, axiom, sorry.
-/
import Derived.Test.YtpckbhelnoeifaaDoorRows
import GoSem.ClaimSeven
namespace Go.Proofs.YtpckbhelnoeifaaDoor
namespace Rows

/-- THE TIED CARD OF 'laws.FnExactParametersOf'. -/
def fnExactParametersOfCard : Claim7 := { stood := { row := fnExactParametersOfRow, standIns := [], harness := (true, "47cb0ea37c6887f801c5ba95a156eca5c34f5fc98b8f1739ad54b118738eb6f2"), looks := false }, kinds := [], alts := [], laidByText := true, laidKinds := [.data], laidTests := true, laidLooks := .later }
def FnExactParametersOfCardSaid : Prop := Claim7.holds Tryd.pinned (.plain (OpenSpec.ofChange fnExactParametersOfSpec)) fnExactParametersOfCard

/-- THE TIED CARD OF 'laws.FnExactSortDesign'. -/
def fnExactSortDesignCard : Claim7 := { stood := { row := fnExactSortDesignRow, standIns := [], harness := (true, "47cb0ea37c6887f801c5ba95a156eca5c34f5fc98b8f1739ad54b118738eb6f2"), looks := false }, kinds := [], alts := [], laidByText := true, laidKinds := [.data], laidTests := true, laidLooks := .later }
def FnExactSortDesignCardSaid : Prop := Claim7.holds Tryd.pinned (.plain (OpenSpec.ofChange fnExactSortDesignSpec)) fnExactSortDesignCard

/-- THE TIED CARD OF 'laws.FnExactComplementDesign'. -/
def fnExactComplementDesignCard : Claim7 := { stood := { row := fnExactComplementDesignRow, standIns := [], harness := (true, "47cb0ea37c6887f801c5ba95a156eca5c34f5fc98b8f1739ad54b118738eb6f2"), looks := false }, kinds := [], alts := [], laidByText := true, laidKinds := [.data], laidTests := true, laidLooks := .later }
def FnExactComplementDesignCardSaid : Prop := Claim7.holds Tryd.pinned (.plain (OpenSpec.ofChange fnExactComplementDesignSpec)) fnExactComplementDesignCard

/-- THE TIED CARD OF 'laws.FnExactDualDesign'. -/
def fnExactDualDesignCard : Claim7 := { stood := { row := fnExactDualDesignRow, standIns := [], harness := (true, "47cb0ea37c6887f801c5ba95a156eca5c34f5fc98b8f1739ad54b118738eb6f2"), looks := false }, kinds := [], alts := [], laidByText := true, laidKinds := [.data], laidTests := true, laidLooks := .later }
def FnExactDualDesignCardSaid : Prop := Claim7.holds Tryd.pinned (.plain (OpenSpec.ofChange fnExactDualDesignSpec)) fnExactDualDesignCard

/-- THE TIED CARD OF 'laws.FnExactDerivedDesign'. -/
def fnExactDerivedDesignCard : Claim7 := { stood := { row := fnExactDerivedDesignRow, standIns := [], harness := (true, "47cb0ea37c6887f801c5ba95a156eca5c34f5fc98b8f1739ad54b118738eb6f2"), looks := false }, kinds := [], alts := [], laidByText := true, laidKinds := [.data], laidTests := true, laidLooks := .later }
def FnExactDerivedDesignCardSaid : Prop := Claim7.holds Tryd.pinned (.plain (OpenSpec.ofChange fnExactDerivedDesignSpec)) fnExactDerivedDesignCard

/-- THE TIED CARD OF 'laws.FnExactResidualDesign'. -/
def fnExactResidualDesignCard : Claim7 := { stood := { row := fnExactResidualDesignRow, standIns := [], harness := (true, "47cb0ea37c6887f801c5ba95a156eca5c34f5fc98b8f1739ad54b118738eb6f2"), looks := false }, kinds := [], alts := [], laidByText := true, laidKinds := [.data], laidTests := true, laidLooks := .later }
def FnExactResidualDesignCardSaid : Prop := Claim7.holds Tryd.pinned (.plain (OpenSpec.ofChange fnExactResidualDesignSpec)) fnExactResidualDesignCard

/-- THE TIED CARD OF 'laws.FnExactSumDesigns'. -/
def fnExactSumDesignsCard : Claim7 := { stood := { row := fnExactSumDesignsRow, standIns := [], harness := (true, "47cb0ea37c6887f801c5ba95a156eca5c34f5fc98b8f1739ad54b118738eb6f2"), looks := false }, kinds := [], alts := [], laidByText := true, laidKinds := [.data], laidTests := true, laidLooks := .later }
def FnExactSumDesignsCardSaid : Prop := Claim7.holds Tryd.pinned (.plain (OpenSpec.ofChange fnExactSumDesignsSpec)) fnExactSumDesignsCard

/-- THE TIED CARD OF 'laws.FnExactRelabelDesign'. -/
def fnExactRelabelDesignCard : Claim7 := { stood := { row := fnExactRelabelDesignRow, standIns := [], harness := (true, "47cb0ea37c6887f801c5ba95a156eca5c34f5fc98b8f1739ad54b118738eb6f2"), looks := false }, kinds := [], alts := [], laidByText := true, laidKinds := [.data], laidTests := true, laidLooks := .later }
def FnExactRelabelDesignCardSaid : Prop := Claim7.holds Tryd.pinned (.plain (OpenSpec.ofChange fnExactRelabelDesignSpec)) fnExactRelabelDesignCard

/-- THE TIED CARD OF 'laws.FnExactDesignOfMatrix'. -/
def fnExactDesignOfMatrixCard : Claim7 := { stood := { row := fnExactDesignOfMatrixRow, standIns := [], harness := (true, "47cb0ea37c6887f801c5ba95a156eca5c34f5fc98b8f1739ad54b118738eb6f2"), looks := false }, kinds := [], alts := [], laidByText := true, laidKinds := [.data], laidTests := true, laidLooks := .later }
def FnExactDesignOfMatrixCardSaid : Prop := Claim7.holds Tryd.pinned (.plain (OpenSpec.ofChange fnExactDesignOfMatrixSpec)) fnExactDesignOfMatrixCard

/-- THE SECOND FORM's CARD OF 'laws.FnExactParametersOf'. -/
def fnExactParametersOfUptoCard : Claim7 := { stood := { row := fnExactParametersOfUptoRow, standIns := [], harness := (true, "47cb0ea37c6887f801c5ba95a156eca5c34f5fc98b8f1739ad54b118738eb6f2"), looks := false }, kinds := [], alts := [], laidByText := true, laidKinds := [.data], laidTests := true, laidLooks := .later }
def FnExactParametersOfUptoCardSaid : Prop := Claim7.holds Tryd.pinned (.plain (OpenSpec.upto fnExactParametersOfSpec)) fnExactParametersOfUptoCard

/-- THE SECOND FORM's CARD OF 'laws.FnExactSortDesign'. -/
def fnExactSortDesignUptoCard : Claim7 := { stood := { row := fnExactSortDesignUptoRow, standIns := [], harness := (true, "47cb0ea37c6887f801c5ba95a156eca5c34f5fc98b8f1739ad54b118738eb6f2"), looks := false }, kinds := [], alts := [], laidByText := true, laidKinds := [.data], laidTests := true, laidLooks := .later }
def FnExactSortDesignUptoCardSaid : Prop := Claim7.holds Tryd.pinned (.plain (OpenSpec.upto fnExactSortDesignSpec)) fnExactSortDesignUptoCard

/-- THE SECOND FORM's CARD OF 'laws.FnExactComplementDesign'. -/
def fnExactComplementDesignUptoCard : Claim7 := { stood := { row := fnExactComplementDesignUptoRow, standIns := [], harness := (true, "47cb0ea37c6887f801c5ba95a156eca5c34f5fc98b8f1739ad54b118738eb6f2"), looks := false }, kinds := [], alts := [], laidByText := true, laidKinds := [.data], laidTests := true, laidLooks := .later }
def FnExactComplementDesignUptoCardSaid : Prop := Claim7.holds Tryd.pinned (.plain (OpenSpec.upto fnExactComplementDesignSpec)) fnExactComplementDesignUptoCard

/-- THE SECOND FORM's CARD OF 'laws.FnExactDualDesign'. -/
def fnExactDualDesignUptoCard : Claim7 := { stood := { row := fnExactDualDesignUptoRow, standIns := [], harness := (true, "47cb0ea37c6887f801c5ba95a156eca5c34f5fc98b8f1739ad54b118738eb6f2"), looks := false }, kinds := [], alts := [], laidByText := true, laidKinds := [.data], laidTests := true, laidLooks := .later }
def FnExactDualDesignUptoCardSaid : Prop := Claim7.holds Tryd.pinned (.plain (OpenSpec.upto fnExactDualDesignSpec)) fnExactDualDesignUptoCard

/-- THE SECOND FORM's CARD OF 'laws.FnExactDerivedDesign'. -/
def fnExactDerivedDesignUptoCard : Claim7 := { stood := { row := fnExactDerivedDesignUptoRow, standIns := [], harness := (true, "47cb0ea37c6887f801c5ba95a156eca5c34f5fc98b8f1739ad54b118738eb6f2"), looks := false }, kinds := [], alts := [], laidByText := true, laidKinds := [.data], laidTests := true, laidLooks := .later }
def FnExactDerivedDesignUptoCardSaid : Prop := Claim7.holds Tryd.pinned (.plain (OpenSpec.upto fnExactDerivedDesignSpec)) fnExactDerivedDesignUptoCard

/-- THE SECOND FORM's CARD OF 'laws.FnExactResidualDesign'. -/
def fnExactResidualDesignUptoCard : Claim7 := { stood := { row := fnExactResidualDesignUptoRow, standIns := [], harness := (true, "47cb0ea37c6887f801c5ba95a156eca5c34f5fc98b8f1739ad54b118738eb6f2"), looks := false }, kinds := [], alts := [], laidByText := true, laidKinds := [.data], laidTests := true, laidLooks := .later }
def FnExactResidualDesignUptoCardSaid : Prop := Claim7.holds Tryd.pinned (.plain (OpenSpec.upto fnExactResidualDesignSpec)) fnExactResidualDesignUptoCard

/-- THE SECOND FORM's CARD OF 'laws.FnExactSumDesigns'. -/
def fnExactSumDesignsUptoCard : Claim7 := { stood := { row := fnExactSumDesignsUptoRow, standIns := [], harness := (true, "47cb0ea37c6887f801c5ba95a156eca5c34f5fc98b8f1739ad54b118738eb6f2"), looks := false }, kinds := [], alts := [], laidByText := true, laidKinds := [.data], laidTests := true, laidLooks := .later }
def FnExactSumDesignsUptoCardSaid : Prop := Claim7.holds Tryd.pinned (.plain (OpenSpec.upto fnExactSumDesignsSpec)) fnExactSumDesignsUptoCard

/-- THE SECOND FORM's CARD OF 'laws.FnExactRelabelDesign'. -/
def fnExactRelabelDesignUptoCard : Claim7 := { stood := { row := fnExactRelabelDesignUptoRow, standIns := [], harness := (true, "47cb0ea37c6887f801c5ba95a156eca5c34f5fc98b8f1739ad54b118738eb6f2"), looks := false }, kinds := [], alts := [], laidByText := true, laidKinds := [.data], laidTests := true, laidLooks := .later }
def FnExactRelabelDesignUptoCardSaid : Prop := Claim7.holds Tryd.pinned (.plain (OpenSpec.upto fnExactRelabelDesignSpec)) fnExactRelabelDesignUptoCard

/-- THE SECOND FORM's CARD OF 'laws.FnExactDesignOfMatrix'. -/
def fnExactDesignOfMatrixUptoCard : Claim7 := { stood := { row := fnExactDesignOfMatrixUptoRow, standIns := [], harness := (true, "47cb0ea37c6887f801c5ba95a156eca5c34f5fc98b8f1739ad54b118738eb6f2"), looks := false }, kinds := [], alts := [], laidByText := true, laidKinds := [.data], laidTests := true, laidLooks := .later }
def FnExactDesignOfMatrixUptoCardSaid : Prop := Claim7.holds Tryd.pinned (.plain (OpenSpec.upto fnExactDesignOfMatrixSpec)) fnExactDesignOfMatrixUptoCard
end Rows
end Go.Proofs.YtpckbhelnoeifaaDoor

/-
  DERIVED. GIVEN WITH THE SEED: THE CARDS: each row of YtpgjomndfkkchaaDoorRows.lean that lists a variable, with what it lists TIED to the program's text (the seventh form; the later family's looks); each row that meets fmt, with fmt's text TOLD by the authors' own Lean function (tested against real Go, not proved from fmt's source: count such statements apart). THE CARD IS WHAT COUNTS. Prove the row's statement (the work); the ties are given (YtpgjomndfkkchaaDoorTie.lean); close each card by the builder's one call (the guide's Derived/Test/ToyasCard.lean, 'card_holds'). Laid BY PROGRAM, IN A SANDBOX (cutbox-door.mjs). By AI agents, Wed Nov 11 2026. No macro, syntax, notation, axiom, sorry.
-/
import Derived.Test.YtpgjomndfkkchaaDoorRows
import GoSem.ClaimSeven
namespace Go.Proofs.YtpgjomndfkkchaaDoor
namespace Rows

/-- THE TIED CARD OF 'laws.FnExactSortDesign'. -/
def fnExactSortDesignCard : Claim7 := { stood := { row := fnExactSortDesignRow, standIns := [], harness := (true, "d8afcda68d33a5148ebad5173418ad37de8a15cea5337e2b96d501ac26eab41c"), looks := false }, kinds := [], alts := [], laidByText := true, laidKinds := [.data], laidTests := true, laidLooks := .later }
def FnExactSortDesignCardSaid : Prop := Claim7.holds Tryd.pinned (.plain (OpenSpec.ofChange fnExactSortDesignSpec)) fnExactSortDesignCard

/-- THE TIED CARD OF 'laws.FnExactReplicationsOf'. -/
def fnExactReplicationsOfCard : Claim7 := { stood := { row := fnExactReplicationsOfRow, standIns := [], harness := (true, "d8afcda68d33a5148ebad5173418ad37de8a15cea5337e2b96d501ac26eab41c"), looks := false }, kinds := [], alts := [], laidByText := true, laidKinds := [.data], laidTests := true, laidLooks := .later }
def FnExactReplicationsOfCardSaid : Prop := Claim7.holds Tryd.pinned (.plain (OpenSpec.ofChange fnExactReplicationsOfSpec)) fnExactReplicationsOfCard

/-- THE TIED CARD OF 'laws.FnExactPairCounts'. -/
def fnExactPairCountsCard : Claim7 := { stood := { row := fnExactPairCountsRow, standIns := [], harness := (true, "d8afcda68d33a5148ebad5173418ad37de8a15cea5337e2b96d501ac26eab41c"), looks := false }, kinds := [], alts := [], laidByText := true, laidKinds := [.data], laidTests := true, laidLooks := .later }
def FnExactPairCountsCardSaid : Prop := Claim7.holds Tryd.pinned (.plain (OpenSpec.ofChange fnExactPairCountsSpec)) fnExactPairCountsCard

/-- THE TIED CARD OF 'laws.FnExactParametersOf'. -/
def fnExactParametersOfCard : Claim7 := { stood := { row := fnExactParametersOfRow, standIns := [], harness := (true, "d8afcda68d33a5148ebad5173418ad37de8a15cea5337e2b96d501ac26eab41c"), looks := false }, kinds := [], alts := [], laidByText := true, laidKinds := [.data], laidTests := true, laidLooks := .later }
def FnExactParametersOfCardSaid : Prop := Claim7.holds Tryd.pinned (.plain (OpenSpec.ofChange fnExactParametersOfSpec)) fnExactParametersOfCard

/-- THE TIED CARD OF 'laws.FnExactComplementDesign'. -/
def fnExactComplementDesignCard : Claim7 := { stood := { row := fnExactComplementDesignRow, standIns := [], harness := (true, "d8afcda68d33a5148ebad5173418ad37de8a15cea5337e2b96d501ac26eab41c"), looks := false }, kinds := [], alts := [], laidByText := true, laidKinds := [.data], laidTests := true, laidLooks := .later }
def FnExactComplementDesignCardSaid : Prop := Claim7.holds Tryd.pinned (.plain (OpenSpec.ofChange fnExactComplementDesignSpec)) fnExactComplementDesignCard

/-- THE SECOND FORM's CARD OF 'laws.FnExactSortDesign'. -/
def fnExactSortDesignUptoCard : Claim7 := { stood := { row := fnExactSortDesignUptoRow, standIns := [], harness := (true, "d8afcda68d33a5148ebad5173418ad37de8a15cea5337e2b96d501ac26eab41c"), looks := false }, kinds := [], alts := [], laidByText := true, laidKinds := [.data], laidTests := true, laidLooks := .later }
def FnExactSortDesignUptoCardSaid : Prop := Claim7.holds Tryd.pinned (.plain (OpenSpec.upto fnExactSortDesignSpec)) fnExactSortDesignUptoCard

/-- THE SECOND FORM's CARD OF 'laws.FnExactReplicationsOf'. -/
def fnExactReplicationsOfUptoCard : Claim7 := { stood := { row := fnExactReplicationsOfUptoRow, standIns := [], harness := (true, "d8afcda68d33a5148ebad5173418ad37de8a15cea5337e2b96d501ac26eab41c"), looks := false }, kinds := [], alts := [], laidByText := true, laidKinds := [.data], laidTests := true, laidLooks := .later }
def FnExactReplicationsOfUptoCardSaid : Prop := Claim7.holds Tryd.pinned (.plain (OpenSpec.upto fnExactReplicationsOfSpec)) fnExactReplicationsOfUptoCard

/-- THE SECOND FORM's CARD OF 'laws.FnExactPairCounts'. -/
def fnExactPairCountsUptoCard : Claim7 := { stood := { row := fnExactPairCountsUptoRow, standIns := [], harness := (true, "d8afcda68d33a5148ebad5173418ad37de8a15cea5337e2b96d501ac26eab41c"), looks := false }, kinds := [], alts := [], laidByText := true, laidKinds := [.data], laidTests := true, laidLooks := .later }
def FnExactPairCountsUptoCardSaid : Prop := Claim7.holds Tryd.pinned (.plain (OpenSpec.upto fnExactPairCountsSpec)) fnExactPairCountsUptoCard

/-- THE SECOND FORM's CARD OF 'laws.FnExactParametersOf'. -/
def fnExactParametersOfUptoCard : Claim7 := { stood := { row := fnExactParametersOfUptoRow, standIns := [], harness := (true, "d8afcda68d33a5148ebad5173418ad37de8a15cea5337e2b96d501ac26eab41c"), looks := false }, kinds := [], alts := [], laidByText := true, laidKinds := [.data], laidTests := true, laidLooks := .later }
def FnExactParametersOfUptoCardSaid : Prop := Claim7.holds Tryd.pinned (.plain (OpenSpec.upto fnExactParametersOfSpec)) fnExactParametersOfUptoCard

/-- THE SECOND FORM's CARD OF 'laws.FnExactComplementDesign'. -/
def fnExactComplementDesignUptoCard : Claim7 := { stood := { row := fnExactComplementDesignUptoRow, standIns := [], harness := (true, "d8afcda68d33a5148ebad5173418ad37de8a15cea5337e2b96d501ac26eab41c"), looks := false }, kinds := [], alts := [], laidByText := true, laidKinds := [.data], laidTests := true, laidLooks := .later }
def FnExactComplementDesignUptoCardSaid : Prop := Claim7.holds Tryd.pinned (.plain (OpenSpec.upto fnExactComplementDesignSpec)) fnExactComplementDesignUptoCard
end Rows
end Go.Proofs.YtpgjomndfkkchaaDoor

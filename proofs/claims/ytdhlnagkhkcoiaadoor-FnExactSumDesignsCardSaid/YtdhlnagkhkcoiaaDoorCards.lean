/-
  DERIVED. GIVEN WITH THE SEED: THE CARDS: each row of YtdhlnagkhkcoiaaDoorRows.lean that lists a variable, with what it lists TIED to the program's text (the seventh form; the later family's looks); each row that meets fmt, with fmt's text TOLD by the authors' own Lean function (tested against real Go, not proved from fmt's source: count such statements apart). THE CARD IS WHAT COUNTS. Prove the row's statement (the work); the ties are given (YtdhlnagkhkcoiaaDoorTie.lean); close each card by the builder's one call (the guide's Derived/Test/ToyasCard.lean, 'card_holds'). Laid BY PROGRAM, IN A SANDBOX (cutbox-door.mjs). By AI agents, Wed Nov 11 2026. No macro, syntax, notation, axiom, sorry.
-/
import Derived.Test.YtdhlnagkhkcoiaaDoorRows
import GoSem.ClaimSeven
namespace Go.Proofs.YtdhlnagkhkcoiaaDoor
namespace Rows

/-- THE TIED CARD OF 'laws.FnExactAffineOrder'. -/
def fnExactAffineOrderCard : Claim7 := { stood := { row := fnExactAffineOrderRow, standIns := [], harness := (true, "9667ca32465866916f90e9da068a800a466a04fecfbc770ae5534363a3b0070d"), looks := true }, kinds := [], alts := [], laidByText := true, laidKinds := [.data], laidTests := true, laidLooks := .later }
def FnExactAffineOrderCardSaid : Prop := Claim7.holds Tryd.pinned (.plain (OpenSpec.ofChange fnExactAffineOrderSpec)) fnExactAffineOrderCard

/-- THE TIED CARD OF 'laws.FnExactProjectiveOrder'. -/
def fnExactProjectiveOrderCard : Claim7 := { stood := { row := fnExactProjectiveOrderRow, standIns := [], harness := (true, "9667ca32465866916f90e9da068a800a466a04fecfbc770ae5534363a3b0070d"), looks := true }, kinds := [], alts := [], laidByText := true, laidKinds := [.data], laidTests := true, laidLooks := .later }
def FnExactProjectiveOrderCardSaid : Prop := Claim7.holds Tryd.pinned (.plain (OpenSpec.ofChange fnExactProjectiveOrderSpec)) fnExactProjectiveOrderCard

/-- THE TIED CARD OF 'laws.FnExactParallelClasses'. -/
def fnExactParallelClassesCard : Claim7 := { stood := { row := fnExactParallelClassesRow, standIns := [], harness := (true, "9667ca32465866916f90e9da068a800a466a04fecfbc770ae5534363a3b0070d"), looks := true }, kinds := [], alts := [], laidByText := true, laidKinds := [.data], laidTests := true, laidLooks := .later }
def FnExactParallelClassesCardSaid : Prop := Claim7.holds Tryd.pinned (.plain (OpenSpec.ofChange fnExactParallelClassesSpec)) fnExactParallelClassesCard

/-- THE TIED CARD OF 'laws.FnExactMolsOfPlane'. -/
def fnExactMolsOfPlaneCard : Claim7 := { stood := { row := fnExactMolsOfPlaneRow, standIns := [], harness := (true, "9667ca32465866916f90e9da068a800a466a04fecfbc770ae5534363a3b0070d"), looks := true }, kinds := [], alts := [], laidByText := true, laidKinds := [.data], laidTests := true, laidLooks := .later }
def FnExactMolsOfPlaneCardSaid : Prop := Claim7.holds Tryd.pinned (.plain (OpenSpec.ofChange fnExactMolsOfPlaneSpec)) fnExactMolsOfPlaneCard

/-- THE TIED CARD OF 'laws.FnExactSumDesigns'. -/
def fnExactSumDesignsCard : Claim7 := { stood := { row := fnExactSumDesignsRow, standIns := [], harness := (true, "9667ca32465866916f90e9da068a800a466a04fecfbc770ae5534363a3b0070d"), looks := true }, kinds := [], alts := [], laidByText := true, laidKinds := [.data], laidTests := true, laidLooks := .later }
def FnExactSumDesignsCardSaid : Prop := Claim7.holds Tryd.pinned (.plain (OpenSpec.ofChange fnExactSumDesignsSpec)) fnExactSumDesignsCard

/-- THE SECOND FORM's CARD OF 'laws.FnExactAffineOrder'. -/
def fnExactAffineOrderUptoCard : Claim7 := { stood := { row := fnExactAffineOrderUptoRow, standIns := [], harness := (true, "9667ca32465866916f90e9da068a800a466a04fecfbc770ae5534363a3b0070d"), looks := true }, kinds := [], alts := [], laidByText := true, laidKinds := [.data], laidTests := true, laidLooks := .later }
def FnExactAffineOrderUptoCardSaid : Prop := Claim7.holds Tryd.pinned (.plain (OpenSpec.upto fnExactAffineOrderSpec)) fnExactAffineOrderUptoCard

/-- THE SECOND FORM's CARD OF 'laws.FnExactProjectiveOrder'. -/
def fnExactProjectiveOrderUptoCard : Claim7 := { stood := { row := fnExactProjectiveOrderUptoRow, standIns := [], harness := (true, "9667ca32465866916f90e9da068a800a466a04fecfbc770ae5534363a3b0070d"), looks := true }, kinds := [], alts := [], laidByText := true, laidKinds := [.data], laidTests := true, laidLooks := .later }
def FnExactProjectiveOrderUptoCardSaid : Prop := Claim7.holds Tryd.pinned (.plain (OpenSpec.upto fnExactProjectiveOrderSpec)) fnExactProjectiveOrderUptoCard

/-- THE SECOND FORM's CARD OF 'laws.FnExactParallelClasses'. -/
def fnExactParallelClassesUptoCard : Claim7 := { stood := { row := fnExactParallelClassesUptoRow, standIns := [], harness := (true, "9667ca32465866916f90e9da068a800a466a04fecfbc770ae5534363a3b0070d"), looks := true }, kinds := [], alts := [], laidByText := true, laidKinds := [.data], laidTests := true, laidLooks := .later }
def FnExactParallelClassesUptoCardSaid : Prop := Claim7.holds Tryd.pinned (.plain (OpenSpec.upto fnExactParallelClassesSpec)) fnExactParallelClassesUptoCard

/-- THE SECOND FORM's CARD OF 'laws.FnExactMolsOfPlane'. -/
def fnExactMolsOfPlaneUptoCard : Claim7 := { stood := { row := fnExactMolsOfPlaneUptoRow, standIns := [], harness := (true, "9667ca32465866916f90e9da068a800a466a04fecfbc770ae5534363a3b0070d"), looks := true }, kinds := [], alts := [], laidByText := true, laidKinds := [.data], laidTests := true, laidLooks := .later }
def FnExactMolsOfPlaneUptoCardSaid : Prop := Claim7.holds Tryd.pinned (.plain (OpenSpec.upto fnExactMolsOfPlaneSpec)) fnExactMolsOfPlaneUptoCard

/-- THE SECOND FORM's CARD OF 'laws.FnExactSumDesigns'. -/
def fnExactSumDesignsUptoCard : Claim7 := { stood := { row := fnExactSumDesignsUptoRow, standIns := [], harness := (true, "9667ca32465866916f90e9da068a800a466a04fecfbc770ae5534363a3b0070d"), looks := true }, kinds := [], alts := [], laidByText := true, laidKinds := [.data], laidTests := true, laidLooks := .later }
def FnExactSumDesignsUptoCardSaid : Prop := Claim7.holds Tryd.pinned (.plain (OpenSpec.upto fnExactSumDesignsSpec)) fnExactSumDesignsUptoCard
end Rows
end Go.Proofs.YtdhlnagkhkcoiaaDoor

/-
  DERIVED. GIVEN WITH THE SEED: THE CARDS: each row of YtbjaolmlnkliiaaGreatDoorRows.lean that lists a variable, with what it lists TIED to the program's text (the seventh form; the later family's looks); each row that meets fmt, with fmt's text TOLD by the authors' own Lean function (tested against real Go, not proved from fmt's source: count such statements apart). THE CARD IS WHAT COUNTS. Prove the row's statement (the work); the ties are given (YtbjaolmlnkliiaaGreatDoorTie.lean); close each card by the builder's one call (the guide's Derived/Test/ToyasCard.lean, 'card_holds'). Laid BY PROGRAM, IN A SANDBOX (cutbox-door.mjs). By AI agents, Wed Nov 11 2026. No macro, syntax, notation, axiom, sorry.
-/
import Derived.Test.YtbjaolmlnkliiaaGreatDoorRows
import GoSem.ClaimSeven
namespace Go.Proofs.YtbjaolmlnkliiaaGreatDoor
namespace Rows

/-- THE TIED CARD OF 'parlourlaw02.RatTexts'. -/
def ratTextsCard : Claim7 := { stood := { row := ratTextsRow, standIns := [], harness := (true, "1045fc1675931c04f6a15a9fb96527a724f18df635c041482218870c31d21b01"), looks := false }, kinds := [], alts := [], laidByText := true, laidKinds := [.data, .data], laidTests := true, laidLooks := .later }
def RatTextsCardSaid : Prop := Claim7.holds Tryz.pinned (.plain (OpenSpec.ofChange ratTextsSpec)) ratTextsCard

/-- THE TIED CARD OF 'parlourlaw02.RatKnown'. -/
def ratKnownCard : Claim7 := { stood := { row := ratKnownRow, standIns := [], harness := (true, "1045fc1675931c04f6a15a9fb96527a724f18df635c041482218870c31d21b01"), looks := false }, kinds := [], alts := [], laidByText := true, laidKinds := [.data, .data], laidTests := true, laidLooks := .later }
def RatKnownCardSaid : Prop := Claim7.holds Tryz.pinned (.plain (OpenSpec.ofChange ratKnownSpec)) ratKnownCard

/-- THE TIED CARD OF 'parlourlaw03.VectorSums'. -/
def vectorSumsCard : Claim7 := { stood := { row := vectorSumsRow, standIns := [], harness := (true, "1045fc1675931c04f6a15a9fb96527a724f18df635c041482218870c31d21b01"), looks := false }, kinds := [], alts := [], laidByText := true, laidKinds := [.data], laidTests := true, laidLooks := .later }
def VectorSumsCardSaid : Prop := Claim7.holds Tryz.pinned (.plain (OpenSpec.ofChange vectorSumsSpec)) vectorSumsCard

/-- THE TIED CARD OF 'parlourlaw03.VectorProducts'. -/
def vectorProductsCard : Claim7 := { stood := { row := vectorProductsRow, standIns := [], harness := (true, "1045fc1675931c04f6a15a9fb96527a724f18df635c041482218870c31d21b01"), looks := false }, kinds := [], alts := [], laidByText := true, laidKinds := [.data], laidTests := true, laidLooks := .later }
def VectorProductsCardSaid : Prop := Claim7.holds Tryz.pinned (.plain (OpenSpec.ofChange vectorProductsSpec)) vectorProductsCard

/-- THE TIED CARD OF 'parlourlaw03.VectorKnown'. -/
def vectorKnownCard : Claim7 := { stood := { row := vectorKnownRow, standIns := [], harness := (true, "1045fc1675931c04f6a15a9fb96527a724f18df635c041482218870c31d21b01"), looks := false }, kinds := [], alts := [], laidByText := true, laidKinds := [.data], laidTests := true, laidLooks := .later }
def VectorKnownCardSaid : Prop := Claim7.holds Tryz.pinned (.plain (OpenSpec.ofChange vectorKnownSpec)) vectorKnownCard

/-- THE TIED CARD OF 'parlourlaw03.VectorLinear'. -/
def vectorLinearCard : Claim7 := { stood := { row := vectorLinearRow, standIns := [], harness := (true, "1045fc1675931c04f6a15a9fb96527a724f18df635c041482218870c31d21b01"), looks := false }, kinds := [], alts := [], laidByText := true, laidKinds := [.data], laidTests := true, laidLooks := .later }
def VectorLinearCardSaid : Prop := Claim7.holds Tryz.pinned (.plain (OpenSpec.ofChange vectorLinearSpec)) vectorLinearCard

/-- THE TIED CARD OF 'parlourlaw03.VectorKernels'. -/
def vectorKernelsCard : Claim7 := { stood := { row := vectorKernelsRow, standIns := [], harness := (true, "1045fc1675931c04f6a15a9fb96527a724f18df635c041482218870c31d21b01"), looks := false }, kinds := [], alts := [], laidByText := true, laidKinds := [.data], laidTests := true, laidLooks := .later }
def VectorKernelsCardSaid : Prop := Claim7.holds Tryz.pinned (.plain (OpenSpec.ofChange vectorKernelsSpec)) vectorKernelsCard

/-- THE TIED CARD OF 'parlourlaw03.VectorInverts'. -/
def vectorInvertsCard : Claim7 := { stood := { row := vectorInvertsRow, standIns := [], harness := (true, "1045fc1675931c04f6a15a9fb96527a724f18df635c041482218870c31d21b01"), looks := false }, kinds := [], alts := [], laidByText := true, laidKinds := [.data], laidTests := true, laidLooks := .later }
def VectorInvertsCardSaid : Prop := Claim7.holds Tryz.pinned (.plain (OpenSpec.ofChange vectorInvertsSpec)) vectorInvertsCard

/-- THE SECOND FORM's CARD OF 'parlourlaw02.RatTexts'. -/
def ratTextsUptoCard : Claim7 := { stood := { row := ratTextsUptoRow, standIns := [], harness := (true, "1045fc1675931c04f6a15a9fb96527a724f18df635c041482218870c31d21b01"), looks := false }, kinds := [], alts := [], laidByText := true, laidKinds := [.data, .data], laidTests := true, laidLooks := .later }
def RatTextsUptoCardSaid : Prop := Claim7.holds Tryz.pinned (.plain (OpenSpec.upto ratTextsSpec)) ratTextsUptoCard

/-- THE SECOND FORM's CARD OF 'parlourlaw02.RatKnown'. -/
def ratKnownUptoCard : Claim7 := { stood := { row := ratKnownUptoRow, standIns := [], harness := (true, "1045fc1675931c04f6a15a9fb96527a724f18df635c041482218870c31d21b01"), looks := false }, kinds := [], alts := [], laidByText := true, laidKinds := [.data, .data], laidTests := true, laidLooks := .later }
def RatKnownUptoCardSaid : Prop := Claim7.holds Tryz.pinned (.plain (OpenSpec.upto ratKnownSpec)) ratKnownUptoCard

/-- THE SECOND FORM's CARD OF 'parlourlaw03.VectorSums'. -/
def vectorSumsUptoCard : Claim7 := { stood := { row := vectorSumsUptoRow, standIns := [], harness := (true, "1045fc1675931c04f6a15a9fb96527a724f18df635c041482218870c31d21b01"), looks := false }, kinds := [], alts := [], laidByText := true, laidKinds := [.data], laidTests := true, laidLooks := .later }
def VectorSumsUptoCardSaid : Prop := Claim7.holds Tryz.pinned (.plain (OpenSpec.upto vectorSumsSpec)) vectorSumsUptoCard

/-- THE SECOND FORM's CARD OF 'parlourlaw03.VectorProducts'. -/
def vectorProductsUptoCard : Claim7 := { stood := { row := vectorProductsUptoRow, standIns := [], harness := (true, "1045fc1675931c04f6a15a9fb96527a724f18df635c041482218870c31d21b01"), looks := false }, kinds := [], alts := [], laidByText := true, laidKinds := [.data], laidTests := true, laidLooks := .later }
def VectorProductsUptoCardSaid : Prop := Claim7.holds Tryz.pinned (.plain (OpenSpec.upto vectorProductsSpec)) vectorProductsUptoCard

/-- THE SECOND FORM's CARD OF 'parlourlaw03.VectorKnown'. -/
def vectorKnownUptoCard : Claim7 := { stood := { row := vectorKnownUptoRow, standIns := [], harness := (true, "1045fc1675931c04f6a15a9fb96527a724f18df635c041482218870c31d21b01"), looks := false }, kinds := [], alts := [], laidByText := true, laidKinds := [.data], laidTests := true, laidLooks := .later }
def VectorKnownUptoCardSaid : Prop := Claim7.holds Tryz.pinned (.plain (OpenSpec.upto vectorKnownSpec)) vectorKnownUptoCard

/-- THE SECOND FORM's CARD OF 'parlourlaw03.VectorLinear'. -/
def vectorLinearUptoCard : Claim7 := { stood := { row := vectorLinearUptoRow, standIns := [], harness := (true, "1045fc1675931c04f6a15a9fb96527a724f18df635c041482218870c31d21b01"), looks := false }, kinds := [], alts := [], laidByText := true, laidKinds := [.data], laidTests := true, laidLooks := .later }
def VectorLinearUptoCardSaid : Prop := Claim7.holds Tryz.pinned (.plain (OpenSpec.upto vectorLinearSpec)) vectorLinearUptoCard

/-- THE SECOND FORM's CARD OF 'parlourlaw03.VectorKernels'. -/
def vectorKernelsUptoCard : Claim7 := { stood := { row := vectorKernelsUptoRow, standIns := [], harness := (true, "1045fc1675931c04f6a15a9fb96527a724f18df635c041482218870c31d21b01"), looks := false }, kinds := [], alts := [], laidByText := true, laidKinds := [.data], laidTests := true, laidLooks := .later }
def VectorKernelsUptoCardSaid : Prop := Claim7.holds Tryz.pinned (.plain (OpenSpec.upto vectorKernelsSpec)) vectorKernelsUptoCard

/-- THE SECOND FORM's CARD OF 'parlourlaw03.VectorInverts'. -/
def vectorInvertsUptoCard : Claim7 := { stood := { row := vectorInvertsUptoRow, standIns := [], harness := (true, "1045fc1675931c04f6a15a9fb96527a724f18df635c041482218870c31d21b01"), looks := false }, kinds := [], alts := [], laidByText := true, laidKinds := [.data], laidTests := true, laidLooks := .later }
def VectorInvertsUptoCardSaid : Prop := Claim7.holds Tryz.pinned (.plain (OpenSpec.upto vectorInvertsSpec)) vectorInvertsUptoCard
end Rows
end Go.Proofs.YtbjaolmlnkliiaaGreatDoor

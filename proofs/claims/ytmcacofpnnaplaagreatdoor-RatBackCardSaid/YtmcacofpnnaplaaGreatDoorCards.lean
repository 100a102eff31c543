/-
  DERIVED. GIVEN WITH THE SEED: THE CARDS: each row of YtmcacofpnnaplaaGreatDoorRows.lean that lists a variable, with what it lists TIED to the program's text (the seventh form; the later family's looks); each row that meets fmt, with fmt's text TOLD by the authors' own Lean function (tested against real Go, not proved from fmt's source: count such statements apart). THE CARD IS WHAT COUNTS. Prove the row's statement (the work); the ties are given (YtmcacofpnnaplaaGreatDoorTie.lean); close each card by the builder's one call (the guide's Derived/Test/ToyasCard.lean, 'card_holds'). Laid BY PROGRAM, IN A SANDBOX (cutbox-door.mjs). By AI agents, Wed Nov 11 2026. No macro, syntax, notation, axiom, sorry.
-/
import Derived.Test.YtmcacofpnnaplaaGreatDoorRows
import GoSem.ClaimSeven
namespace Go.Proofs.YtmcacofpnnaplaaGreatDoor
namespace Rows

/-- THE TIED CARD OF 'parlourlaw02.RatSums'. -/
def ratSumsCard : Claim7 := { stood := { row := ratSumsRow, standIns := [], harness := (true, "deed7944cf0680bc1e6dbd9152de6a66a248b4763a960b54b1d0149cc8d74521"), looks := false }, kinds := [], alts := [], laidByText := true, laidKinds := [.data], laidTests := true, laidLooks := .later }
def RatSumsCardSaid : Prop := Claim7.holds Tryz.pinned (.plain (OpenSpec.ofChange ratSumsSpec)) ratSumsCard

/-- THE TIED CARD OF 'parlourlaw02.RatWholes'. -/
def ratWholesCard : Claim7 := { stood := { row := ratWholesRow, standIns := [], harness := (true, "deed7944cf0680bc1e6dbd9152de6a66a248b4763a960b54b1d0149cc8d74521"), looks := false }, kinds := [], alts := [], laidByText := true, laidKinds := [.data], laidTests := true, laidLooks := .later }
def RatWholesCardSaid : Prop := Claim7.holds Tryz.pinned (.plain (OpenSpec.ofChange ratWholesSpec)) ratWholesCard

/-- THE TIED CARD OF 'parlourlaw02.RatSimples'. -/
def ratSimplesCard : Claim7 := { stood := { row := ratSimplesRow, standIns := [], harness := (true, "deed7944cf0680bc1e6dbd9152de6a66a248b4763a960b54b1d0149cc8d74521"), looks := false }, kinds := [], alts := [], laidByText := true, laidKinds := [.data], laidTests := true, laidLooks := .later }
def RatSimplesCardSaid : Prop := Claim7.holds Tryz.pinned (.plain (OpenSpec.ofChange ratSimplesSpec)) ratSimplesCard

/-- THE TIED CARD OF 'parlourlaw02.RatTexts'. -/
def ratTextsCard : Claim7 := { stood := { row := ratTextsRow, standIns := [], harness := (true, "deed7944cf0680bc1e6dbd9152de6a66a248b4763a960b54b1d0149cc8d74521"), looks := false }, kinds := [], alts := [], laidByText := true, laidKinds := [.data, .data], laidTests := true, laidLooks := .later }
def RatTextsCardSaid : Prop := Claim7.holds Tryz.pinned (.plain (OpenSpec.ofChange ratTextsSpec)) ratTextsCard

/-- THE TIED CARD OF 'parlourlaw02.RatKnown'. -/
def ratKnownCard : Claim7 := { stood := { row := ratKnownRow, standIns := [], harness := (true, "deed7944cf0680bc1e6dbd9152de6a66a248b4763a960b54b1d0149cc8d74521"), looks := false }, kinds := [], alts := [], laidByText := true, laidKinds := [.data, .data], laidTests := true, laidLooks := .later }
def RatKnownCardSaid : Prop := Claim7.holds Tryz.pinned (.plain (OpenSpec.ofChange ratKnownSpec)) ratKnownCard

/-- THE TIED CARD OF 'parlourlaw02.RatField'. -/
def ratFieldCard : Claim7 := { stood := { row := ratFieldRow, standIns := [], harness := (true, "deed7944cf0680bc1e6dbd9152de6a66a248b4763a960b54b1d0149cc8d74521"), looks := false }, kinds := [], alts := [], laidByText := true, laidKinds := [.data], laidTests := true, laidLooks := .later }
def RatFieldCardSaid : Prop := Claim7.holds Tryz.pinned (.plain (OpenSpec.ofChange ratFieldSpec)) ratFieldCard

/-- THE TIED CARD OF 'parlourlaw02.RatOrder'. -/
def ratOrderCard : Claim7 := { stood := { row := ratOrderRow, standIns := [], harness := (true, "deed7944cf0680bc1e6dbd9152de6a66a248b4763a960b54b1d0149cc8d74521"), looks := false }, kinds := [], alts := [], laidByText := true, laidKinds := [.data], laidTests := true, laidLooks := .later }
def RatOrderCardSaid : Prop := Claim7.holds Tryz.pinned (.plain (OpenSpec.ofChange ratOrderSpec)) ratOrderCard

/-- THE TIED CARD OF 'parlourlaw02.RatSimplest'. -/
def ratSimplestCard : Claim7 := { stood := { row := ratSimplestRow, standIns := [], harness := (true, "deed7944cf0680bc1e6dbd9152de6a66a248b4763a960b54b1d0149cc8d74521"), looks := false }, kinds := [], alts := [], laidByText := true, laidKinds := [.data], laidTests := true, laidLooks := .later }
def RatSimplestCardSaid : Prop := Claim7.holds Tryz.pinned (.plain (OpenSpec.ofChange ratSimplestSpec)) ratSimplestCard

/-- THE TIED CARD OF 'parlourlaw02.RatBack'. -/
def ratBackCard : Claim7 := { stood := { row := ratBackRow, standIns := [], harness := (true, "deed7944cf0680bc1e6dbd9152de6a66a248b4763a960b54b1d0149cc8d74521"), looks := false }, kinds := [], alts := [], laidByText := true, laidKinds := [.data, .data], laidTests := true, laidLooks := .later }
def RatBackCardSaid : Prop := Claim7.holds Tryz.pinned (.plain (OpenSpec.ofChange ratBackSpec)) ratBackCard

/-- THE SECOND FORM's CARD OF 'parlourlaw02.RatSums'. -/
def ratSumsUptoCard : Claim7 := { stood := { row := ratSumsUptoRow, standIns := [], harness := (true, "deed7944cf0680bc1e6dbd9152de6a66a248b4763a960b54b1d0149cc8d74521"), looks := false }, kinds := [], alts := [], laidByText := true, laidKinds := [.data], laidTests := true, laidLooks := .later }
def RatSumsUptoCardSaid : Prop := Claim7.holds Tryz.pinned (.plain (OpenSpec.upto ratSumsSpec)) ratSumsUptoCard

/-- THE SECOND FORM's CARD OF 'parlourlaw02.RatWholes'. -/
def ratWholesUptoCard : Claim7 := { stood := { row := ratWholesUptoRow, standIns := [], harness := (true, "deed7944cf0680bc1e6dbd9152de6a66a248b4763a960b54b1d0149cc8d74521"), looks := false }, kinds := [], alts := [], laidByText := true, laidKinds := [.data], laidTests := true, laidLooks := .later }
def RatWholesUptoCardSaid : Prop := Claim7.holds Tryz.pinned (.plain (OpenSpec.upto ratWholesSpec)) ratWholesUptoCard

/-- THE SECOND FORM's CARD OF 'parlourlaw02.RatSimples'. -/
def ratSimplesUptoCard : Claim7 := { stood := { row := ratSimplesUptoRow, standIns := [], harness := (true, "deed7944cf0680bc1e6dbd9152de6a66a248b4763a960b54b1d0149cc8d74521"), looks := false }, kinds := [], alts := [], laidByText := true, laidKinds := [.data], laidTests := true, laidLooks := .later }
def RatSimplesUptoCardSaid : Prop := Claim7.holds Tryz.pinned (.plain (OpenSpec.upto ratSimplesSpec)) ratSimplesUptoCard

/-- THE SECOND FORM's CARD OF 'parlourlaw02.RatTexts'. -/
def ratTextsUptoCard : Claim7 := { stood := { row := ratTextsUptoRow, standIns := [], harness := (true, "deed7944cf0680bc1e6dbd9152de6a66a248b4763a960b54b1d0149cc8d74521"), looks := false }, kinds := [], alts := [], laidByText := true, laidKinds := [.data, .data], laidTests := true, laidLooks := .later }
def RatTextsUptoCardSaid : Prop := Claim7.holds Tryz.pinned (.plain (OpenSpec.upto ratTextsSpec)) ratTextsUptoCard

/-- THE SECOND FORM's CARD OF 'parlourlaw02.RatKnown'. -/
def ratKnownUptoCard : Claim7 := { stood := { row := ratKnownUptoRow, standIns := [], harness := (true, "deed7944cf0680bc1e6dbd9152de6a66a248b4763a960b54b1d0149cc8d74521"), looks := false }, kinds := [], alts := [], laidByText := true, laidKinds := [.data, .data], laidTests := true, laidLooks := .later }
def RatKnownUptoCardSaid : Prop := Claim7.holds Tryz.pinned (.plain (OpenSpec.upto ratKnownSpec)) ratKnownUptoCard

/-- THE SECOND FORM's CARD OF 'parlourlaw02.RatField'. -/
def ratFieldUptoCard : Claim7 := { stood := { row := ratFieldUptoRow, standIns := [], harness := (true, "deed7944cf0680bc1e6dbd9152de6a66a248b4763a960b54b1d0149cc8d74521"), looks := false }, kinds := [], alts := [], laidByText := true, laidKinds := [.data], laidTests := true, laidLooks := .later }
def RatFieldUptoCardSaid : Prop := Claim7.holds Tryz.pinned (.plain (OpenSpec.upto ratFieldSpec)) ratFieldUptoCard

/-- THE SECOND FORM's CARD OF 'parlourlaw02.RatOrder'. -/
def ratOrderUptoCard : Claim7 := { stood := { row := ratOrderUptoRow, standIns := [], harness := (true, "deed7944cf0680bc1e6dbd9152de6a66a248b4763a960b54b1d0149cc8d74521"), looks := false }, kinds := [], alts := [], laidByText := true, laidKinds := [.data], laidTests := true, laidLooks := .later }
def RatOrderUptoCardSaid : Prop := Claim7.holds Tryz.pinned (.plain (OpenSpec.upto ratOrderSpec)) ratOrderUptoCard

/-- THE SECOND FORM's CARD OF 'parlourlaw02.RatSimplest'. -/
def ratSimplestUptoCard : Claim7 := { stood := { row := ratSimplestUptoRow, standIns := [], harness := (true, "deed7944cf0680bc1e6dbd9152de6a66a248b4763a960b54b1d0149cc8d74521"), looks := false }, kinds := [], alts := [], laidByText := true, laidKinds := [.data], laidTests := true, laidLooks := .later }
def RatSimplestUptoCardSaid : Prop := Claim7.holds Tryz.pinned (.plain (OpenSpec.upto ratSimplestSpec)) ratSimplestUptoCard

/-- THE SECOND FORM's CARD OF 'parlourlaw02.RatBack'. -/
def ratBackUptoCard : Claim7 := { stood := { row := ratBackUptoRow, standIns := [], harness := (true, "deed7944cf0680bc1e6dbd9152de6a66a248b4763a960b54b1d0149cc8d74521"), looks := false }, kinds := [], alts := [], laidByText := true, laidKinds := [.data, .data], laidTests := true, laidLooks := .later }
def RatBackUptoCardSaid : Prop := Claim7.holds Tryz.pinned (.plain (OpenSpec.upto ratBackSpec)) ratBackUptoCard
end Rows
end Go.Proofs.YtmcacofpnnaplaaGreatDoor

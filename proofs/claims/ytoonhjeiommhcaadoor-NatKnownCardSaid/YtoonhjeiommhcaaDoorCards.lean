/-
  DERIVED. GIVEN WITH THE SEED: THE CARDS: each row of YtoonhjeiommhcaaDoorRows.lean that lists a variable, with what it lists TIED to the program's text (the seventh form; the later family's looks); each row that meets fmt, with fmt's text TOLD by the authors' own Lean function (tested against real Go, not proved from fmt's source: count such statements apart). THE CARD IS WHAT COUNTS. Prove the row's statement (the work); the ties are given (YtoonhjeiommhcaaDoorTie.lean); close each card by the builder's one call (the guide's Derived/Test/ToyasCard.lean, 'card_holds'). Laid BY PROGRAM, IN A SANDBOX (cutbox-door.mjs). By AI agents, Wed Nov 11 2026. No macro, syntax, notation, axiom, sorry.
-/
import Derived.Test.YtoonhjeiommhcaaDoorRows
import GoSem.ClaimSeven
namespace Go.Proofs.YtoonhjeiommhcaaDoor
namespace Rows

/-- THE TIED CARD OF 'parlourlaw01.NatCalls'. -/
def natCallsCard : Claim7 := { stood := { row := natCallsRow, standIns := [], harness := (true, "5b8c27b750c908eb4e185d068bdd18138f55dad5cc133dec7def0cc38e911159"), looks := false }, kinds := [], alts := [], laidByText := true, laidKinds := [.data], laidTests := true, laidLooks := .later }
def NatCallsCardSaid : Prop := Claim7.holds Tryd.pinned (.plain (OpenSpec.ofChange natCallsSpec)) natCallsCard

/-- THE TIED CARD OF 'parlourlaw01.NatTexts'. -/
def natTextsCard : Claim7 := { stood := { row := natTextsRow, standIns := [], harness := (true, "5b8c27b750c908eb4e185d068bdd18138f55dad5cc133dec7def0cc38e911159"), looks := false }, kinds := [], alts := [], laidByText := true, laidKinds := [.data], laidTests := true, laidLooks := .later }
def NatTextsCardSaid : Prop := Claim7.holds Tryd.pinned (.plain (OpenSpec.ofChange natTextsSpec)) natTextsCard

/-- THE TIED CARD OF 'parlourlaw01.NatKnown'. -/
def natKnownCard : Claim7 := { stood := { row := natKnownRow, standIns := [], harness := (true, "5b8c27b750c908eb4e185d068bdd18138f55dad5cc133dec7def0cc38e911159"), looks := false }, kinds := [], alts := [], laidByText := true, laidKinds := [.data], laidTests := true, laidLooks := .later }
def NatKnownCardSaid : Prop := Claim7.holds Tryd.pinned (.plain (OpenSpec.ofChange natKnownSpec)) natKnownCard

/-- THE TIED CARD OF 'parlourlaw01.NatBack'. -/
def natBackCard : Claim7 := { stood := { row := natBackRow, standIns := [], harness := (true, "5b8c27b750c908eb4e185d068bdd18138f55dad5cc133dec7def0cc38e911159"), looks := false }, kinds := [], alts := [], laidByText := true, laidKinds := [.data], laidTests := true, laidLooks := .later }
def NatBackCardSaid : Prop := Claim7.holds Tryd.pinned (.plain (OpenSpec.ofChange natBackSpec)) natBackCard

/-- THE SECOND FORM's CARD OF 'parlourlaw01.NatCalls'. -/
def natCallsUptoCard : Claim7 := { stood := { row := natCallsUptoRow, standIns := [], harness := (true, "5b8c27b750c908eb4e185d068bdd18138f55dad5cc133dec7def0cc38e911159"), looks := false }, kinds := [], alts := [], laidByText := true, laidKinds := [.data], laidTests := true, laidLooks := .later }
def NatCallsUptoCardSaid : Prop := Claim7.holds Tryd.pinned (.plain (OpenSpec.upto natCallsSpec)) natCallsUptoCard

/-- THE SECOND FORM's CARD OF 'parlourlaw01.NatTexts'. -/
def natTextsUptoCard : Claim7 := { stood := { row := natTextsUptoRow, standIns := [], harness := (true, "5b8c27b750c908eb4e185d068bdd18138f55dad5cc133dec7def0cc38e911159"), looks := false }, kinds := [], alts := [], laidByText := true, laidKinds := [.data], laidTests := true, laidLooks := .later }
def NatTextsUptoCardSaid : Prop := Claim7.holds Tryd.pinned (.plain (OpenSpec.upto natTextsSpec)) natTextsUptoCard

/-- THE SECOND FORM's CARD OF 'parlourlaw01.NatKnown'. -/
def natKnownUptoCard : Claim7 := { stood := { row := natKnownUptoRow, standIns := [], harness := (true, "5b8c27b750c908eb4e185d068bdd18138f55dad5cc133dec7def0cc38e911159"), looks := false }, kinds := [], alts := [], laidByText := true, laidKinds := [.data], laidTests := true, laidLooks := .later }
def NatKnownUptoCardSaid : Prop := Claim7.holds Tryd.pinned (.plain (OpenSpec.upto natKnownSpec)) natKnownUptoCard

/-- THE SECOND FORM's CARD OF 'parlourlaw01.NatBack'. -/
def natBackUptoCard : Claim7 := { stood := { row := natBackUptoRow, standIns := [], harness := (true, "5b8c27b750c908eb4e185d068bdd18138f55dad5cc133dec7def0cc38e911159"), looks := false }, kinds := [], alts := [], laidByText := true, laidKinds := [.data], laidTests := true, laidLooks := .later }
def NatBackUptoCardSaid : Prop := Claim7.holds Tryd.pinned (.plain (OpenSpec.upto natBackSpec)) natBackUptoCard
end Rows
end Go.Proofs.YtoonhjeiommhcaaDoor

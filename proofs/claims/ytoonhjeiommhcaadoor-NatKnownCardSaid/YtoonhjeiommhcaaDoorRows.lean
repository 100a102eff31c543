/-
  NARROWER THAN 'FOR EVERY INPUT', by the rows' own cells (each row's printed sentence says how): NatCalls: laid · NatTexts: laid · NatKnown: laid · NatBack: laid.
  DERIVED. THE GIVEN ROWS OF THIS SEAT. 4 by the template 'for every input the law returns true; each argument reads behind the call as it read before'; 0 by the template 'total and deterministic' (their statements: YtoonhjeiommhcaaDoorTotals.lean).
  GIVEN WITH THE SEED: the statements are not yours to turn. If you find one false, say at which input.
  Laid BY PROGRAM, IN A SANDBOX (cutbox-rows.mjs): the forced cells as the released guide's own fill.sh prints them over the translation 06a16686a5ac543d… (all of the seat's roots in one cut). By AI agents, Wed Nov 11 2026. No macro, syntax, notation, axiom, sorry.
-/
import Derived.Test.YtoonhjeiommhcaaDoorChecked
import GoSem.Claim
import GoSem.ClaimJoined
import GoSem.ClaimMapViews
import Derived.JoinedTies
import Derived.KernelRfl
namespace Go.Proofs.YtoonhjeiommhcaaDoor
/- THE CELL 'sum', in the pinned program and in every row, IS THE sha256 OF THE DUMP (.gsa) THAT YtoonhjeiommhcaaDoorProg.lean LOADS. Nothing in Lean hashes anything: it is a label: what it is worth is what the hold of that sum in a sandbox is worth. -/
noncomputable def Tryd.pinned : Pinned := { name := "ytoonhjeiommhcaadoor", sum := "06a16686a5ac543de4b9fccde5b196f51ca3a265d566dd6ac985ee8cb04b564c", checked := Tryd.checked }
namespace Rows
def none {H : Type} : Left H := { results := [], args := [] }

/- WHAT THE LISTED PACKAGE-LEVEL VARIABLES READ AS WHEN THE CALL BEGINS. Each datum BY PROGRAM (the guide's laid-datum.mjs) off the statement by which the dump's own 'gosem.cut.vars' lays the variable. In a bare row this is a premise. The card (YtoonhjeiommhcaaDoorCards.lean) ties it to the program's text. -/
def laid_parlour_nat_powers {H : Type} : DataW H := .agg [.lit (.int .u32 1), .lit (.int .u32 10), .lit (.int .u32 100), .lit (.int .u32 1000), .lit (.int .u32 10000), .lit (.int .u32 100000), .lit (.int .u32 1000000), .lit (.int .u32 10000000), .lit (.int .u32 100000000)]

/-- 'parlourlaw01.NatCalls': WHATEVER THE INPUT: true; the input reads as it did. -/
def natCallsSpec : ChangeSpec := { name := "natCalls", fn := fun _ => fun
  | [d1, d2, d3] => { results := [.lit (.bool true)], args := [d1, d2, d3] }
  | _ => none }
def natCallsRow : OpenClaim := { program := "ytoonhjeiommhcaadoor", sum := "06a16686a5ac543de4b9fccde5b196f51ca3a265d566dd6ac985ee8cb04b564c", func := "parlour/parlourlaw01.NatCalls", spec := "natCalls", inPlace := ["math/bits.Add64"], named := ["math/bits.divideError", "math/bits.overflowError", "parlour/nat.powers"], apart := false, laid := [("parlour/nat.powers", laid_parlour_nat_powers)] }
def NatCallsSaid : Prop := natCallsRow.holds Tryd.pinned (OpenSpec.ofChange natCallsSpec)

/-- ITS FALSE NEIGHBOUR: 'it returns false'. Refute it at one input. -/
def natCallsWrong : ChangeSpec := { name := "natCalls", fn := fun _ => fun
  | [d1, d2, d3] => { results := [.lit (.bool false)], args := [d1, d2, d3] }
  | _ => none }
def NatCallsWrongFalsely : Prop := natCallsRow.holds Tryd.pinned (OpenSpec.ofChange natCallsWrong)

/-- 'parlourlaw01.NatTexts': WHATEVER THE INPUT: true; the input reads as it did. -/
def natTextsSpec : ChangeSpec := { name := "natTexts", fn := fun _ => fun
  | [d1, d2] => { results := [.lit (.bool true)], args := [d1, d2] }
  | _ => none }
def natTextsRow : OpenClaim := { program := "ytoonhjeiommhcaadoor", sum := "06a16686a5ac543de4b9fccde5b196f51ca3a265d566dd6ac985ee8cb04b564c", func := "parlour/parlourlaw01.NatTexts", spec := "natTexts", inPlace := ["math/bits.Add64"], named := ["math/bits.divideError", "math/bits.overflowError", "parlour/nat.powers"], apart := false, laid := [("parlour/nat.powers", laid_parlour_nat_powers)] }
def NatTextsSaid : Prop := natTextsRow.holds Tryd.pinned (OpenSpec.ofChange natTextsSpec)

/-- ITS FALSE NEIGHBOUR: 'it returns false'. Refute it at one input. -/
def natTextsWrong : ChangeSpec := { name := "natTexts", fn := fun _ => fun
  | [d1, d2] => { results := [.lit (.bool false)], args := [d1, d2] }
  | _ => none }
def NatTextsWrongFalsely : Prop := natTextsRow.holds Tryd.pinned (OpenSpec.ofChange natTextsWrong)

/-- 'parlourlaw01.NatKnown': WHATEVER THE INPUT: true; the input reads as it did. -/
def natKnownSpec : ChangeSpec := { name := "natKnown", fn := fun _ => fun
  | [] => { results := [.lit (.bool true)], args := [] }
  | _ => none }
def natKnownRow : OpenClaim := { program := "ytoonhjeiommhcaadoor", sum := "06a16686a5ac543de4b9fccde5b196f51ca3a265d566dd6ac985ee8cb04b564c", func := "parlour/parlourlaw01.NatKnown", spec := "natKnown", inPlace := ["math/bits.Add64"], unfollowed := true, recurses := true, named := ["math/bits.divideError", "math/bits.overflowError", "parlour/nat.powers"], apart := false, laid := [("parlour/nat.powers", laid_parlour_nat_powers)] }
def NatKnownSaid : Prop := natKnownRow.holds Tryd.pinned (OpenSpec.ofChange natKnownSpec)

/-- ITS FALSE NEIGHBOUR: 'it returns false'. Refute it at one input. -/
def natKnownWrong : ChangeSpec := { name := "natKnown", fn := fun _ => fun
  | [] => { results := [.lit (.bool false)], args := [] }
  | _ => none }
def NatKnownWrongFalsely : Prop := natKnownRow.holds Tryd.pinned (OpenSpec.ofChange natKnownWrong)

/-- 'parlourlaw01.NatBack': WHATEVER THE INPUT: true; the input reads as it did. -/
def natBackSpec : ChangeSpec := { name := "natBack", fn := fun _ => fun
  | [d1, d2] => { results := [.lit (.bool true)], args := [d1, d2] }
  | _ => none }
def natBackRow : OpenClaim := { program := "ytoonhjeiommhcaadoor", sum := "06a16686a5ac543de4b9fccde5b196f51ca3a265d566dd6ac985ee8cb04b564c", func := "parlour/parlourlaw01.NatBack", spec := "natBack", inPlace := ["math/bits.Add64"], named := ["math/bits.divideError", "math/bits.overflowError", "parlour/nat.powers"], apart := false, laid := [("parlour/nat.powers", laid_parlour_nat_powers)] }
def NatBackSaid : Prop := natBackRow.holds Tryd.pinned (OpenSpec.ofChange natBackSpec)

/-- ITS FALSE NEIGHBOUR: 'it returns false'. Refute it at one input. -/
def natBackWrong : ChangeSpec := { name := "natBack", fn := fun _ => fun
  | [d1, d2] => { results := [.lit (.bool false)], args := [d1, d2] }
  | _ => none }
def NatBackWrongFalsely : Prop := natBackRow.holds Tryd.pinned (OpenSpec.ofChange natBackWrong)

/- THE SECOND FORM. 'bulk': how many values and letters a reading holds, each counted each time it is reached (what is shared counts as often as it is met; a slice's spare places count too). A statement '..UptoSaid' is the law's where the arguments, and the package variables that the reading takes, are together of bulk at most 1048576: NARROWER than '..Said'. Prove '..Said' where nothing that the law and all that it calls make is longer than what came in: it says more and counts as full. Else prove '..UptoSaid'. A law counts once. -/
mutual
def uptoBulk {H : Type} : DataW H → Nat
  | .lit (.string bytes) => bytes.length + 1
  | .lit _ => 1
  | .nil => 1
  | .ptr d => uptoBulk d + 1
  | .slice elems spare => uptoBulkAll elems + uptoBulkAll spare + 1
  | .agg parts => uptoBulkAll parts + 1
  | .iface _ d => uptoBulk d + 1
  | .map entries => uptoBulkEntries entries + 1
  | .held _ => 1
def uptoBulkAll {H : Type} : List (DataW H) → Nat
  | [] => 0
  | d :: r => uptoBulk d + uptoBulkAll r
def uptoBulkEntries {H : Type} : List (Lit × DataW H) → Nat
  | [] => 0
  | x :: r => uptoBulkEntry x + uptoBulkEntries r
def uptoBulkEntry {H : Type} : Lit × DataW H → Nat
  | (.string bytes, d) => bytes.length + uptoBulk d + 1
  | (_, d) => uptoBulk d + 1
 end
def uptoSmall : (H : Type) → List (DataW H) → Bool := fun _ ds => decide (uptoBulkAll ds ≤ 1048576)
def OpenSpec.upto (s : _root_.Go.ChangeSpec) : _root_.Go.OpenSpec := { _root_.Go.OpenSpec.ofChange s with cond := some uptoSmall }

/-- 'parlourlaw01.NatCalls', WHERE WHAT IT READS IS OF BULK AT MOST 1048576: true; the input reads as it did. -/
def natCallsUptoRow : OpenClaim := { program := "ytoonhjeiommhcaadoor", sum := "06a16686a5ac543de4b9fccde5b196f51ca3a265d566dd6ac985ee8cb04b564c", func := "parlour/parlourlaw01.NatCalls", spec := "natCalls", inPlace := ["math/bits.Add64"], named := ["math/bits.divideError", "math/bits.overflowError", "parlour/nat.powers"], apart := false, laid := [("parlour/nat.powers", laid_parlour_nat_powers)], narrowed := true }
def NatCallsUptoSaid : Prop := natCallsUptoRow.holds Tryd.pinned (OpenSpec.upto natCallsSpec)

/-- 'parlourlaw01.NatTexts', WHERE WHAT IT READS IS OF BULK AT MOST 1048576: true; the input reads as it did. -/
def natTextsUptoRow : OpenClaim := { program := "ytoonhjeiommhcaadoor", sum := "06a16686a5ac543de4b9fccde5b196f51ca3a265d566dd6ac985ee8cb04b564c", func := "parlour/parlourlaw01.NatTexts", spec := "natTexts", inPlace := ["math/bits.Add64"], named := ["math/bits.divideError", "math/bits.overflowError", "parlour/nat.powers"], apart := false, laid := [("parlour/nat.powers", laid_parlour_nat_powers)], narrowed := true }
def NatTextsUptoSaid : Prop := natTextsUptoRow.holds Tryd.pinned (OpenSpec.upto natTextsSpec)

/-- 'parlourlaw01.NatKnown', WHERE WHAT IT READS IS OF BULK AT MOST 1048576: true; the input reads as it did. -/
def natKnownUptoRow : OpenClaim := { program := "ytoonhjeiommhcaadoor", sum := "06a16686a5ac543de4b9fccde5b196f51ca3a265d566dd6ac985ee8cb04b564c", func := "parlour/parlourlaw01.NatKnown", spec := "natKnown", inPlace := ["math/bits.Add64"], unfollowed := true, recurses := true, named := ["math/bits.divideError", "math/bits.overflowError", "parlour/nat.powers"], apart := false, laid := [("parlour/nat.powers", laid_parlour_nat_powers)], narrowed := true }
def NatKnownUptoSaid : Prop := natKnownUptoRow.holds Tryd.pinned (OpenSpec.upto natKnownSpec)

/-- 'parlourlaw01.NatBack', WHERE WHAT IT READS IS OF BULK AT MOST 1048576: true; the input reads as it did. -/
def natBackUptoRow : OpenClaim := { program := "ytoonhjeiommhcaadoor", sum := "06a16686a5ac543de4b9fccde5b196f51ca3a265d566dd6ac985ee8cb04b564c", func := "parlour/parlourlaw01.NatBack", spec := "natBack", inPlace := ["math/bits.Add64"], named := ["math/bits.divideError", "math/bits.overflowError", "parlour/nat.powers"], apart := false, laid := [("parlour/nat.powers", laid_parlour_nat_powers)], narrowed := true }
def NatBackUptoSaid : Prop := natBackUptoRow.holds Tryd.pinned (OpenSpec.upto natBackSpec)

end Rows
end Go.Proofs.YtoonhjeiommhcaaDoor

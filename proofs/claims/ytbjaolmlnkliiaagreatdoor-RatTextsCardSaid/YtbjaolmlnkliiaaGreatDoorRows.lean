/-
  NARROWER THAN 'FOR EVERY INPUT', by the rows' own cells (each row's printed sentence says how): RatTexts: laid · RatKnown: laid · VectorSums: laid · VectorProducts: laid · VectorKnown: laid · VectorLinear: laid · VectorKernels: laid · VectorInverts: laid.
  DERIVED. THE GIVEN ROWS OF THIS SEAT. 8 by the template 'for every input the law returns true; each argument reads behind the call as it read before'; 0 by the template 'total and deterministic' (their statements: YtbjaolmlnkliiaaGreatDoorTotals.lean).
  GIVEN WITH THE SEED: the statements are not yours to turn. If you find one false, say at which input.
  Laid BY PROGRAM, IN A SANDBOX (cutbox-rows.mjs): the forced cells as the released guide's own fill.sh prints them over the translation a4dc113bebdd349e… (all of the seat's roots in one cut). By AI agents, Wed Nov 11 2026. No macro, syntax, notation, axiom, sorry.
-/
import Derived.Test.YtbjaolmlnkliiaaGreatDoorChecked
import GoSem.Claim
import GoSem.ClaimJoined
import GoSem.ClaimMapViews
import Derived.JoinedTies
import Derived.KernelRfl
namespace Go.Proofs.YtbjaolmlnkliiaaGreatDoor
/- THE CELL 'sum', in the pinned program and in every row, IS THE sha256 OF THE DUMP (.gsa) THAT YtbjaolmlnkliiaaGreatDoorProg.lean LOADS. Nothing in Lean hashes anything: it is a label: what it is worth is what the hold of that sum in a sandbox is worth. -/
noncomputable def Tryz.pinned : Pinned := { name := "ytbjaolmlnkliiaagreatdoor", sum := "a4dc113bebdd349e3c4ed422d7294e833ebf86dd1ec83270580f54bfd4da1c89", checked := Tryz.checked }
namespace Rows
def none {H : Type} : Left H := { results := [], args := [] }

/- WHAT THE LISTED PACKAGE-LEVEL VARIABLES READ AS WHEN THE CALL BEGINS. Each datum BY PROGRAM (the guide's laid-datum.mjs) off the statement by which the dump's own 'gosem.cut.vars' lays the variable. In a bare row this is a premise. The card (YtbjaolmlnkliiaaGreatDoorCards.lean) ties it to the program's text. -/
def laid_parlour_nat_powers {H : Type} : DataW H := .agg [.lit (.int .u32 1), .lit (.int .u32 10), .lit (.int .u32 100), .lit (.int .u32 1000), .lit (.int .u32 10000), .lit (.int .u32 100000), .lit (.int .u32 1000000), .lit (.int .u32 10000000), .lit (.int .u32 100000000)]
def laid_parlour_rat_products {H : Type} : DataW H := .agg [.agg [.lit (.int .i64 2), .lit (.int .i64 1), .lit (.int .i64 0)], .agg [.lit (.int .i64 1), .lit (.int .i64 1), .lit (.int .i64 1)], .agg [.lit (.int .i64 0), .lit (.int .i64 1), .lit (.int .i64 2)]]

/-- 'parlourlaw02.RatTexts': WHATEVER THE INPUT: true; the input reads as it did. -/
def ratTextsSpec : ChangeSpec := { name := "ratTexts", fn := fun _ => fun
  | [d1, d2] => { results := [.lit (.bool true)], args := [d1, d2] }
  | _ => none }
def ratTextsRow : OpenClaim := { program := "ytbjaolmlnkliiaagreatdoor", sum := "a4dc113bebdd349e3c4ed422d7294e833ebf86dd1ec83270580f54bfd4da1c89", func := "parlour/parlourlaw02.RatTexts", spec := "ratTexts", inPlace := ["math/bits.Add64", "internal/bytealg.IndexByteString", "internal/bytealg.IndexString"], unfollowed := true, recurses := true, named := ["math/bits.divideError", "math/bits.overflowError", "parlour/rat.products", "parlour/nat.powers", "internal/bytealg.MaxLen"], apart := false, laid := [("parlour/nat.powers", laid_parlour_nat_powers), ("parlour/rat.products", laid_parlour_rat_products)] }
def RatTextsSaid : Prop := ratTextsRow.holds Tryz.pinned (OpenSpec.ofChange ratTextsSpec)

/-- ITS FALSE NEIGHBOUR: 'it returns false'. Refute it at one input. -/
def ratTextsWrong : ChangeSpec := { name := "ratTexts", fn := fun _ => fun
  | [d1, d2] => { results := [.lit (.bool false)], args := [d1, d2] }
  | _ => none }
def RatTextsWrongFalsely : Prop := ratTextsRow.holds Tryz.pinned (OpenSpec.ofChange ratTextsWrong)

/-- 'parlourlaw02.RatKnown': WHATEVER THE INPUT: true; the input reads as it did. -/
def ratKnownSpec : ChangeSpec := { name := "ratKnown", fn := fun _ => fun
  | [] => { results := [.lit (.bool true)], args := [] }
  | _ => none }
def ratKnownRow : OpenClaim := { program := "ytbjaolmlnkliiaagreatdoor", sum := "a4dc113bebdd349e3c4ed422d7294e833ebf86dd1ec83270580f54bfd4da1c89", func := "parlour/parlourlaw02.RatKnown", spec := "ratKnown", inPlace := ["math/bits.Add64", "internal/bytealg.IndexByteString", "internal/bytealg.IndexString"], unfollowed := true, recurses := true, named := ["parlour/rat.products", "math/bits.divideError", "math/bits.overflowError", "internal/bytealg.MaxLen", "parlour/nat.powers"], apart := false, laid := [("parlour/nat.powers", laid_parlour_nat_powers), ("parlour/rat.products", laid_parlour_rat_products)] }
def RatKnownSaid : Prop := ratKnownRow.holds Tryz.pinned (OpenSpec.ofChange ratKnownSpec)

/-- ITS FALSE NEIGHBOUR: 'it returns false'. Refute it at one input. -/
def ratKnownWrong : ChangeSpec := { name := "ratKnown", fn := fun _ => fun
  | [] => { results := [.lit (.bool false)], args := [] }
  | _ => none }
def RatKnownWrongFalsely : Prop := ratKnownRow.holds Tryz.pinned (OpenSpec.ofChange ratKnownWrong)

/-- 'parlourlaw03.VectorSums': WHATEVER THE INPUT: true; the input reads as it did. -/
def vectorSumsSpec : ChangeSpec := { name := "vectorSums", fn := fun _ => fun
  | [d1, d2, d3] => { results := [.lit (.bool true)], args := [d1, d2, d3] }
  | _ => none }
def vectorSumsRow : OpenClaim := { program := "ytbjaolmlnkliiaagreatdoor", sum := "a4dc113bebdd349e3c4ed422d7294e833ebf86dd1ec83270580f54bfd4da1c89", func := "parlour/parlourlaw03.VectorSums", spec := "vectorSums", inPlace := ["math/bits.Add64"], unfollowed := true, recurses := true, named := ["math/bits.divideError", "math/bits.overflowError", "parlour/rat.products"], apart := false, laid := [("parlour/rat.products", laid_parlour_rat_products)] }
def VectorSumsSaid : Prop := vectorSumsRow.holds Tryz.pinned (OpenSpec.ofChange vectorSumsSpec)

/-- ITS FALSE NEIGHBOUR: 'it returns false'. Refute it at one input. -/
def vectorSumsWrong : ChangeSpec := { name := "vectorSums", fn := fun _ => fun
  | [d1, d2, d3] => { results := [.lit (.bool false)], args := [d1, d2, d3] }
  | _ => none }
def VectorSumsWrongFalsely : Prop := vectorSumsRow.holds Tryz.pinned (OpenSpec.ofChange vectorSumsWrong)

/-- 'parlourlaw03.VectorProducts': WHATEVER THE INPUT: true; the input reads as it did. -/
def vectorProductsSpec : ChangeSpec := { name := "vectorProducts", fn := fun _ => fun
  | [d1, d2, d3] => { results := [.lit (.bool true)], args := [d1, d2, d3] }
  | _ => none }
def vectorProductsRow : OpenClaim := { program := "ytbjaolmlnkliiaagreatdoor", sum := "a4dc113bebdd349e3c4ed422d7294e833ebf86dd1ec83270580f54bfd4da1c89", func := "parlour/parlourlaw03.VectorProducts", spec := "vectorProducts", inPlace := ["math/bits.Add64"], unfollowed := true, recurses := true, named := ["math/bits.divideError", "math/bits.overflowError", "parlour/rat.products"], apart := false, laid := [("parlour/rat.products", laid_parlour_rat_products)] }
def VectorProductsSaid : Prop := vectorProductsRow.holds Tryz.pinned (OpenSpec.ofChange vectorProductsSpec)

/-- ITS FALSE NEIGHBOUR: 'it returns false'. Refute it at one input. -/
def vectorProductsWrong : ChangeSpec := { name := "vectorProducts", fn := fun _ => fun
  | [d1, d2, d3] => { results := [.lit (.bool false)], args := [d1, d2, d3] }
  | _ => none }
def VectorProductsWrongFalsely : Prop := vectorProductsRow.holds Tryz.pinned (OpenSpec.ofChange vectorProductsWrong)

/-- 'parlourlaw03.VectorKnown': WHATEVER THE INPUT: true; the input reads as it did. -/
def vectorKnownSpec : ChangeSpec := { name := "vectorKnown", fn := fun _ => fun
  | [] => { results := [.lit (.bool true)], args := [] }
  | _ => none }
def vectorKnownRow : OpenClaim := { program := "ytbjaolmlnkliiaagreatdoor", sum := "a4dc113bebdd349e3c4ed422d7294e833ebf86dd1ec83270580f54bfd4da1c89", func := "parlour/parlourlaw03.VectorKnown", spec := "vectorKnown", inPlace := ["math/bits.Add64"], unfollowed := true, recurses := true, named := ["math/bits.divideError", "math/bits.overflowError", "parlour/rat.products"], apart := false, laid := [("parlour/rat.products", laid_parlour_rat_products)] }
def VectorKnownSaid : Prop := vectorKnownRow.holds Tryz.pinned (OpenSpec.ofChange vectorKnownSpec)

/-- ITS FALSE NEIGHBOUR: 'it returns false'. Refute it at one input. -/
def vectorKnownWrong : ChangeSpec := { name := "vectorKnown", fn := fun _ => fun
  | [] => { results := [.lit (.bool false)], args := [] }
  | _ => none }
def VectorKnownWrongFalsely : Prop := vectorKnownRow.holds Tryz.pinned (OpenSpec.ofChange vectorKnownWrong)

/-- 'parlourlaw03.VectorLinear': WHATEVER THE INPUT: true; the input reads as it did. -/
def vectorLinearSpec : ChangeSpec := { name := "vectorLinear", fn := fun _ => fun
  | [d1, d2, d3] => { results := [.lit (.bool true)], args := [d1, d2, d3] }
  | _ => none }
def vectorLinearRow : OpenClaim := { program := "ytbjaolmlnkliiaagreatdoor", sum := "a4dc113bebdd349e3c4ed422d7294e833ebf86dd1ec83270580f54bfd4da1c89", func := "parlour/parlourlaw03.VectorLinear", spec := "vectorLinear", inPlace := ["math/bits.Add64"], unfollowed := true, recurses := true, named := ["math/bits.divideError", "math/bits.overflowError", "parlour/rat.products"], apart := false, laid := [("parlour/rat.products", laid_parlour_rat_products)] }
def VectorLinearSaid : Prop := vectorLinearRow.holds Tryz.pinned (OpenSpec.ofChange vectorLinearSpec)

/-- ITS FALSE NEIGHBOUR: 'it returns false'. Refute it at one input. -/
def vectorLinearWrong : ChangeSpec := { name := "vectorLinear", fn := fun _ => fun
  | [d1, d2, d3] => { results := [.lit (.bool false)], args := [d1, d2, d3] }
  | _ => none }
def VectorLinearWrongFalsely : Prop := vectorLinearRow.holds Tryz.pinned (OpenSpec.ofChange vectorLinearWrong)

/-- 'parlourlaw03.VectorKernels': WHATEVER THE INPUT: true; the input reads as it did. -/
def vectorKernelsSpec : ChangeSpec := { name := "vectorKernels", fn := fun _ => fun
  | [d1, d2, d3] => { results := [.lit (.bool true)], args := [d1, d2, d3] }
  | _ => none }
def vectorKernelsRow : OpenClaim := { program := "ytbjaolmlnkliiaagreatdoor", sum := "a4dc113bebdd349e3c4ed422d7294e833ebf86dd1ec83270580f54bfd4da1c89", func := "parlour/parlourlaw03.VectorKernels", spec := "vectorKernels", inPlace := ["math/bits.Add64"], unfollowed := true, recurses := true, named := ["math/bits.divideError", "math/bits.overflowError", "parlour/rat.products"], apart := false, laid := [("parlour/rat.products", laid_parlour_rat_products)] }
def VectorKernelsSaid : Prop := vectorKernelsRow.holds Tryz.pinned (OpenSpec.ofChange vectorKernelsSpec)

/-- ITS FALSE NEIGHBOUR: 'it returns false'. Refute it at one input. -/
def vectorKernelsWrong : ChangeSpec := { name := "vectorKernels", fn := fun _ => fun
  | [d1, d2, d3] => { results := [.lit (.bool false)], args := [d1, d2, d3] }
  | _ => none }
def VectorKernelsWrongFalsely : Prop := vectorKernelsRow.holds Tryz.pinned (OpenSpec.ofChange vectorKernelsWrong)

/-- 'parlourlaw03.VectorInverts': WHATEVER THE INPUT: true; the input reads as it did. -/
def vectorInvertsSpec : ChangeSpec := { name := "vectorInverts", fn := fun _ => fun
  | [d1, d2, d3] => { results := [.lit (.bool true)], args := [d1, d2, d3] }
  | _ => none }
def vectorInvertsRow : OpenClaim := { program := "ytbjaolmlnkliiaagreatdoor", sum := "a4dc113bebdd349e3c4ed422d7294e833ebf86dd1ec83270580f54bfd4da1c89", func := "parlour/parlourlaw03.VectorInverts", spec := "vectorInverts", inPlace := ["math/bits.Add64"], unfollowed := true, recurses := true, named := ["math/bits.divideError", "math/bits.overflowError", "parlour/rat.products"], apart := false, laid := [("parlour/rat.products", laid_parlour_rat_products)] }
def VectorInvertsSaid : Prop := vectorInvertsRow.holds Tryz.pinned (OpenSpec.ofChange vectorInvertsSpec)

/-- ITS FALSE NEIGHBOUR: 'it returns false'. Refute it at one input. -/
def vectorInvertsWrong : ChangeSpec := { name := "vectorInverts", fn := fun _ => fun
  | [d1, d2, d3] => { results := [.lit (.bool false)], args := [d1, d2, d3] }
  | _ => none }
def VectorInvertsWrongFalsely : Prop := vectorInvertsRow.holds Tryz.pinned (OpenSpec.ofChange vectorInvertsWrong)

/- THE SECOND FORM. 'bulk': how many values and letters a reading holds, each counted each time it is reached (what is shared counts as often as it is met; a slice's spare places count too). A statement '..UptoSaid' is the law's where the arguments, and the package variables that the reading takes, are together of bulk at most 1048576: NARROWER than '..Said'. Prove '..Said' where nothing that the law and all that it calls make is longer than what came in: it says more and counts as full. Else prove '..UptoSaid'. A law counts once. -/
mutual
def uptoBulk {H : Type} : DataW H → Nat
  | .lit (.string bytes) => bytes.length + 1
  | .lit _ => 1
  | .nil => 1
  | .ptr d => uptoBulk d + 1
  | .slice elems spare => uptoBulkAll elems + uptoBulkAll spare + 1
  | .agg parts => uptoBulkAll parts + 1
  | .iface _ d => uptoBulk d + 1
  | .map entries => uptoBulkEntries entries + 1
  | .held _ => 1
def uptoBulkAll {H : Type} : List (DataW H) → Nat
  | [] => 0
  | d :: r => uptoBulk d + uptoBulkAll r
def uptoBulkEntries {H : Type} : List (Lit × DataW H) → Nat
  | [] => 0
  | x :: r => uptoBulkEntry x + uptoBulkEntries r
def uptoBulkEntry {H : Type} : Lit × DataW H → Nat
  | (.string bytes, d) => bytes.length + uptoBulk d + 1
  | (_, d) => uptoBulk d + 1
 end
def uptoSmall : (H : Type) → List (DataW H) → Bool := fun _ ds => decide (uptoBulkAll ds ≤ 1048576)
def OpenSpec.upto (s : _root_.Go.ChangeSpec) : _root_.Go.OpenSpec := { _root_.Go.OpenSpec.ofChange s with cond := some uptoSmall }

/-- 'parlourlaw02.RatTexts', WHERE WHAT IT READS IS OF BULK AT MOST 1048576: true; the input reads as it did. -/
def ratTextsUptoRow : OpenClaim := { program := "ytbjaolmlnkliiaagreatdoor", sum := "a4dc113bebdd349e3c4ed422d7294e833ebf86dd1ec83270580f54bfd4da1c89", func := "parlour/parlourlaw02.RatTexts", spec := "ratTexts", inPlace := ["math/bits.Add64", "internal/bytealg.IndexByteString", "internal/bytealg.IndexString"], unfollowed := true, recurses := true, named := ["math/bits.divideError", "math/bits.overflowError", "parlour/rat.products", "parlour/nat.powers", "internal/bytealg.MaxLen"], apart := false, laid := [("parlour/nat.powers", laid_parlour_nat_powers), ("parlour/rat.products", laid_parlour_rat_products)], narrowed := true }
def RatTextsUptoSaid : Prop := ratTextsUptoRow.holds Tryz.pinned (OpenSpec.upto ratTextsSpec)

/-- 'parlourlaw02.RatKnown', WHERE WHAT IT READS IS OF BULK AT MOST 1048576: true; the input reads as it did. -/
def ratKnownUptoRow : OpenClaim := { program := "ytbjaolmlnkliiaagreatdoor", sum := "a4dc113bebdd349e3c4ed422d7294e833ebf86dd1ec83270580f54bfd4da1c89", func := "parlour/parlourlaw02.RatKnown", spec := "ratKnown", inPlace := ["math/bits.Add64", "internal/bytealg.IndexByteString", "internal/bytealg.IndexString"], unfollowed := true, recurses := true, named := ["parlour/rat.products", "math/bits.divideError", "math/bits.overflowError", "internal/bytealg.MaxLen", "parlour/nat.powers"], apart := false, laid := [("parlour/nat.powers", laid_parlour_nat_powers), ("parlour/rat.products", laid_parlour_rat_products)], narrowed := true }
def RatKnownUptoSaid : Prop := ratKnownUptoRow.holds Tryz.pinned (OpenSpec.upto ratKnownSpec)

/-- 'parlourlaw03.VectorSums', WHERE WHAT IT READS IS OF BULK AT MOST 1048576: true; the input reads as it did. -/
def vectorSumsUptoRow : OpenClaim := { program := "ytbjaolmlnkliiaagreatdoor", sum := "a4dc113bebdd349e3c4ed422d7294e833ebf86dd1ec83270580f54bfd4da1c89", func := "parlour/parlourlaw03.VectorSums", spec := "vectorSums", inPlace := ["math/bits.Add64"], unfollowed := true, recurses := true, named := ["math/bits.divideError", "math/bits.overflowError", "parlour/rat.products"], apart := false, laid := [("parlour/rat.products", laid_parlour_rat_products)], narrowed := true }
def VectorSumsUptoSaid : Prop := vectorSumsUptoRow.holds Tryz.pinned (OpenSpec.upto vectorSumsSpec)

/-- 'parlourlaw03.VectorProducts', WHERE WHAT IT READS IS OF BULK AT MOST 1048576: true; the input reads as it did. -/
def vectorProductsUptoRow : OpenClaim := { program := "ytbjaolmlnkliiaagreatdoor", sum := "a4dc113bebdd349e3c4ed422d7294e833ebf86dd1ec83270580f54bfd4da1c89", func := "parlour/parlourlaw03.VectorProducts", spec := "vectorProducts", inPlace := ["math/bits.Add64"], unfollowed := true, recurses := true, named := ["math/bits.divideError", "math/bits.overflowError", "parlour/rat.products"], apart := false, laid := [("parlour/rat.products", laid_parlour_rat_products)], narrowed := true }
def VectorProductsUptoSaid : Prop := vectorProductsUptoRow.holds Tryz.pinned (OpenSpec.upto vectorProductsSpec)

/-- 'parlourlaw03.VectorKnown', WHERE WHAT IT READS IS OF BULK AT MOST 1048576: true; the input reads as it did. -/
def vectorKnownUptoRow : OpenClaim := { program := "ytbjaolmlnkliiaagreatdoor", sum := "a4dc113bebdd349e3c4ed422d7294e833ebf86dd1ec83270580f54bfd4da1c89", func := "parlour/parlourlaw03.VectorKnown", spec := "vectorKnown", inPlace := ["math/bits.Add64"], unfollowed := true, recurses := true, named := ["math/bits.divideError", "math/bits.overflowError", "parlour/rat.products"], apart := false, laid := [("parlour/rat.products", laid_parlour_rat_products)], narrowed := true }
def VectorKnownUptoSaid : Prop := vectorKnownUptoRow.holds Tryz.pinned (OpenSpec.upto vectorKnownSpec)

/-- 'parlourlaw03.VectorLinear', WHERE WHAT IT READS IS OF BULK AT MOST 1048576: true; the input reads as it did. -/
def vectorLinearUptoRow : OpenClaim := { program := "ytbjaolmlnkliiaagreatdoor", sum := "a4dc113bebdd349e3c4ed422d7294e833ebf86dd1ec83270580f54bfd4da1c89", func := "parlour/parlourlaw03.VectorLinear", spec := "vectorLinear", inPlace := ["math/bits.Add64"], unfollowed := true, recurses := true, named := ["math/bits.divideError", "math/bits.overflowError", "parlour/rat.products"], apart := false, laid := [("parlour/rat.products", laid_parlour_rat_products)], narrowed := true }
def VectorLinearUptoSaid : Prop := vectorLinearUptoRow.holds Tryz.pinned (OpenSpec.upto vectorLinearSpec)

/-- 'parlourlaw03.VectorKernels', WHERE WHAT IT READS IS OF BULK AT MOST 1048576: true; the input reads as it did. -/
def vectorKernelsUptoRow : OpenClaim := { program := "ytbjaolmlnkliiaagreatdoor", sum := "a4dc113bebdd349e3c4ed422d7294e833ebf86dd1ec83270580f54bfd4da1c89", func := "parlour/parlourlaw03.VectorKernels", spec := "vectorKernels", inPlace := ["math/bits.Add64"], unfollowed := true, recurses := true, named := ["math/bits.divideError", "math/bits.overflowError", "parlour/rat.products"], apart := false, laid := [("parlour/rat.products", laid_parlour_rat_products)], narrowed := true }
def VectorKernelsUptoSaid : Prop := vectorKernelsUptoRow.holds Tryz.pinned (OpenSpec.upto vectorKernelsSpec)

/-- 'parlourlaw03.VectorInverts', WHERE WHAT IT READS IS OF BULK AT MOST 1048576: true; the input reads as it did. -/
def vectorInvertsUptoRow : OpenClaim := { program := "ytbjaolmlnkliiaagreatdoor", sum := "a4dc113bebdd349e3c4ed422d7294e833ebf86dd1ec83270580f54bfd4da1c89", func := "parlour/parlourlaw03.VectorInverts", spec := "vectorInverts", inPlace := ["math/bits.Add64"], unfollowed := true, recurses := true, named := ["math/bits.divideError", "math/bits.overflowError", "parlour/rat.products"], apart := false, laid := [("parlour/rat.products", laid_parlour_rat_products)], narrowed := true }
def VectorInvertsUptoSaid : Prop := vectorInvertsUptoRow.holds Tryz.pinned (OpenSpec.upto vectorInvertsSpec)

end Rows
end Go.Proofs.YtbjaolmlnkliiaaGreatDoor

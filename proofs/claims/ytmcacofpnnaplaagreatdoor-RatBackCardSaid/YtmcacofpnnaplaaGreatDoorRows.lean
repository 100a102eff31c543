/-
  NARROWER THAN 'FOR EVERY INPUT', by the rows' own cells (each row's printed sentence says how): RatSums: laid · RatWholes: laid · RatSimples: laid · RatTexts: laid · RatKnown: laid · RatField: laid · RatOrder: laid · RatSimplest: laid · RatBack: laid.
  DERIVED. THE GIVEN ROWS OF THIS SEAT. 9 by the template 'for every input the law returns true; each argument reads behind the call as it read before'; 0 by the template 'total and deterministic' (their statements: YtmcacofpnnaplaaGreatDoorTotals.lean).
  GIVEN WITH THE SEED: the statements are not yours to turn. If you find one false, say at which input.
  Laid BY PROGRAM, IN A SANDBOX (cutbox-rows.mjs): the forced cells as the released guide's own fill.sh prints them over the translation 98f17afd302cd3f2… (all of the seat's roots in one cut). By AI agents, Wed Nov 11 2026. No macro, syntax, notation, axiom, sorry.
-/
import Derived.Test.YtmcacofpnnaplaaGreatDoorChecked
import GoSem.Claim
import GoSem.ClaimJoined
import GoSem.ClaimMapViews
import Derived.JoinedTies
import Derived.KernelRfl
namespace Go.Proofs.YtmcacofpnnaplaaGreatDoor
/- THE CELL 'sum', in the pinned program and in every row, IS THE sha256 OF THE DUMP (.gsa) THAT YtmcacofpnnaplaaGreatDoorProg.lean LOADS. Nothing in Lean hashes anything: it is a label: what it is worth is what the hold of that sum in a sandbox is worth. -/
noncomputable def Tryz.pinned : Pinned := { name := "ytmcacofpnnaplaagreatdoor", sum := "98f17afd302cd3f27753c2821640b896e24fe59c052b37db66b24f7af7aa3309", checked := Tryz.checked }
namespace Rows
def none {H : Type} : Left H := { results := [], args := [] }

/- WHAT THE LISTED PACKAGE-LEVEL VARIABLES READ AS WHEN THE CALL BEGINS. Each datum BY PROGRAM (the guide's laid-datum.mjs) off the statement by which the dump's own 'gosem.cut.vars' lays the variable. In a bare row this is a premise. The card (YtmcacofpnnaplaaGreatDoorCards.lean) ties it to the program's text. -/
def laid_parlour_rat_products {H : Type} : DataW H := .agg [.agg [.lit (.int .i64 2), .lit (.int .i64 1), .lit (.int .i64 0)], .agg [.lit (.int .i64 1), .lit (.int .i64 1), .lit (.int .i64 1)], .agg [.lit (.int .i64 0), .lit (.int .i64 1), .lit (.int .i64 2)]]
def laid_parlour_nat_powers {H : Type} : DataW H := .agg [.lit (.int .u32 1), .lit (.int .u32 10), .lit (.int .u32 100), .lit (.int .u32 1000), .lit (.int .u32 10000), .lit (.int .u32 100000), .lit (.int .u32 1000000), .lit (.int .u32 10000000), .lit (.int .u32 100000000)]

/-- 'parlourlaw02.RatSums': WHATEVER THE INPUT: true; the input reads as it did. -/
def ratSumsSpec : ChangeSpec := { name := "ratSums", fn := fun _ => fun
  | [d1, d2] => { results := [.lit (.bool true)], args := [d1, d2] }
  | _ => none }
def ratSumsRow : OpenClaim := { program := "ytmcacofpnnaplaagreatdoor", sum := "98f17afd302cd3f27753c2821640b896e24fe59c052b37db66b24f7af7aa3309", func := "parlour/parlourlaw02.RatSums", spec := "ratSums", inPlace := ["math/bits.Add64"], unfollowed := true, recurses := true, named := ["math/bits.divideError", "math/bits.overflowError", "parlour/rat.products"], apart := false, laid := [("parlour/rat.products", laid_parlour_rat_products)] }
def RatSumsSaid : Prop := ratSumsRow.holds Tryz.pinned (OpenSpec.ofChange ratSumsSpec)

/-- ITS FALSE NEIGHBOUR: 'it returns false'. Refute it at one input. -/
def ratSumsWrong : ChangeSpec := { name := "ratSums", fn := fun _ => fun
  | [d1, d2] => { results := [.lit (.bool false)], args := [d1, d2] }
  | _ => none }
def RatSumsWrongFalsely : Prop := ratSumsRow.holds Tryz.pinned (OpenSpec.ofChange ratSumsWrong)

/-- 'parlourlaw02.RatWholes': WHATEVER THE INPUT: true; the input reads as it did. -/
def ratWholesSpec : ChangeSpec := { name := "ratWholes", fn := fun _ => fun
  | [d1, d2, d3] => { results := [.lit (.bool true)], args := [d1, d2, d3] }
  | _ => none }
def ratWholesRow : OpenClaim := { program := "ytmcacofpnnaplaagreatdoor", sum := "98f17afd302cd3f27753c2821640b896e24fe59c052b37db66b24f7af7aa3309", func := "parlour/parlourlaw02.RatWholes", spec := "ratWholes", inPlace := ["math/bits.Add64"], unfollowed := true, recurses := true, named := ["math/bits.divideError", "math/bits.overflowError", "parlour/rat.products"], apart := false, laid := [("parlour/rat.products", laid_parlour_rat_products)] }
def RatWholesSaid : Prop := ratWholesRow.holds Tryz.pinned (OpenSpec.ofChange ratWholesSpec)

/-- ITS FALSE NEIGHBOUR: 'it returns false'. Refute it at one input. -/
def ratWholesWrong : ChangeSpec := { name := "ratWholes", fn := fun _ => fun
  | [d1, d2, d3] => { results := [.lit (.bool false)], args := [d1, d2, d3] }
  | _ => none }
def RatWholesWrongFalsely : Prop := ratWholesRow.holds Tryz.pinned (OpenSpec.ofChange ratWholesWrong)

/-- 'parlourlaw02.RatSimples': WHATEVER THE INPUT: true; the input reads as it did. -/
def ratSimplesSpec : ChangeSpec := { name := "ratSimples", fn := fun _ => fun
  | [d1, d2] => { results := [.lit (.bool true)], args := [d1, d2] }
  | _ => none }
def ratSimplesRow : OpenClaim := { program := "ytmcacofpnnaplaagreatdoor", sum := "98f17afd302cd3f27753c2821640b896e24fe59c052b37db66b24f7af7aa3309", func := "parlour/parlourlaw02.RatSimples", spec := "ratSimples", inPlace := ["math/bits.Add64"], unfollowed := true, recurses := true, named := ["math/bits.divideError", "math/bits.overflowError", "parlour/rat.products"], apart := false, laid := [("parlour/rat.products", laid_parlour_rat_products)] }
def RatSimplesSaid : Prop := ratSimplesRow.holds Tryz.pinned (OpenSpec.ofChange ratSimplesSpec)

/-- ITS FALSE NEIGHBOUR: 'it returns false'. Refute it at one input. -/
def ratSimplesWrong : ChangeSpec := { name := "ratSimples", fn := fun _ => fun
  | [d1, d2] => { results := [.lit (.bool false)], args := [d1, d2] }
  | _ => none }
def RatSimplesWrongFalsely : Prop := ratSimplesRow.holds Tryz.pinned (OpenSpec.ofChange ratSimplesWrong)

/-- 'parlourlaw02.RatTexts': WHATEVER THE INPUT: true; the input reads as it did. -/
def ratTextsSpec : ChangeSpec := { name := "ratTexts", fn := fun _ => fun
  | [d1, d2] => { results := [.lit (.bool true)], args := [d1, d2] }
  | _ => none }
def ratTextsRow : OpenClaim := { program := "ytmcacofpnnaplaagreatdoor", sum := "98f17afd302cd3f27753c2821640b896e24fe59c052b37db66b24f7af7aa3309", func := "parlour/parlourlaw02.RatTexts", spec := "ratTexts", inPlace := ["math/bits.Add64", "internal/bytealg.IndexByteString", "internal/bytealg.IndexString"], unfollowed := true, recurses := true, named := ["math/bits.divideError", "math/bits.overflowError", "parlour/rat.products", "parlour/nat.powers", "internal/bytealg.MaxLen"], apart := false, laid := [("parlour/nat.powers", laid_parlour_nat_powers), ("parlour/rat.products", laid_parlour_rat_products)] }
def RatTextsSaid : Prop := ratTextsRow.holds Tryz.pinned (OpenSpec.ofChange ratTextsSpec)

/-- ITS FALSE NEIGHBOUR: 'it returns false'. Refute it at one input. -/
def ratTextsWrong : ChangeSpec := { name := "ratTexts", fn := fun _ => fun
  | [d1, d2] => { results := [.lit (.bool false)], args := [d1, d2] }
  | _ => none }
def RatTextsWrongFalsely : Prop := ratTextsRow.holds Tryz.pinned (OpenSpec.ofChange ratTextsWrong)

/-- 'parlourlaw02.RatKnown': WHATEVER THE INPUT: true; the input reads as it did. -/
def ratKnownSpec : ChangeSpec := { name := "ratKnown", fn := fun _ => fun
  | [] => { results := [.lit (.bool true)], args := [] }
  | _ => none }
def ratKnownRow : OpenClaim := { program := "ytmcacofpnnaplaagreatdoor", sum := "98f17afd302cd3f27753c2821640b896e24fe59c052b37db66b24f7af7aa3309", func := "parlour/parlourlaw02.RatKnown", spec := "ratKnown", inPlace := ["math/bits.Add64", "internal/bytealg.IndexByteString", "internal/bytealg.IndexString"], unfollowed := true, recurses := true, named := ["parlour/rat.products", "math/bits.divideError", "math/bits.overflowError", "internal/bytealg.MaxLen", "parlour/nat.powers"], apart := false, laid := [("parlour/nat.powers", laid_parlour_nat_powers), ("parlour/rat.products", laid_parlour_rat_products)] }
def RatKnownSaid : Prop := ratKnownRow.holds Tryz.pinned (OpenSpec.ofChange ratKnownSpec)

/-- ITS FALSE NEIGHBOUR: 'it returns false'. Refute it at one input. -/
def ratKnownWrong : ChangeSpec := { name := "ratKnown", fn := fun _ => fun
  | [] => { results := [.lit (.bool false)], args := [] }
  | _ => none }
def RatKnownWrongFalsely : Prop := ratKnownRow.holds Tryz.pinned (OpenSpec.ofChange ratKnownWrong)

/-- 'parlourlaw02.RatField': WHATEVER THE INPUT: true; the input reads as it did. -/
def ratFieldSpec : ChangeSpec := { name := "ratField", fn := fun _ => fun
  | [d1, d2, d3, d4] => { results := [.lit (.bool true)], args := [d1, d2, d3, d4] }
  | _ => none }
def ratFieldRow : OpenClaim := { program := "ytmcacofpnnaplaagreatdoor", sum := "98f17afd302cd3f27753c2821640b896e24fe59c052b37db66b24f7af7aa3309", func := "parlour/parlourlaw02.RatField", spec := "ratField", inPlace := ["math/bits.Add64"], unfollowed := true, recurses := true, named := ["math/bits.divideError", "math/bits.overflowError", "parlour/rat.products"], apart := false, laid := [("parlour/rat.products", laid_parlour_rat_products)] }
def RatFieldSaid : Prop := ratFieldRow.holds Tryz.pinned (OpenSpec.ofChange ratFieldSpec)

/-- ITS FALSE NEIGHBOUR: 'it returns false'. Refute it at one input. -/
def ratFieldWrong : ChangeSpec := { name := "ratField", fn := fun _ => fun
  | [d1, d2, d3, d4] => { results := [.lit (.bool false)], args := [d1, d2, d3, d4] }
  | _ => none }
def RatFieldWrongFalsely : Prop := ratFieldRow.holds Tryz.pinned (OpenSpec.ofChange ratFieldWrong)

/-- 'parlourlaw02.RatOrder': WHATEVER THE INPUT: true; the input reads as it did. -/
def ratOrderSpec : ChangeSpec := { name := "ratOrder", fn := fun _ => fun
  | [d1, d2, d3, d4] => { results := [.lit (.bool true)], args := [d1, d2, d3, d4] }
  | _ => none }
def ratOrderRow : OpenClaim := { program := "ytmcacofpnnaplaagreatdoor", sum := "98f17afd302cd3f27753c2821640b896e24fe59c052b37db66b24f7af7aa3309", func := "parlour/parlourlaw02.RatOrder", spec := "ratOrder", inPlace := ["math/bits.Add64"], unfollowed := true, recurses := true, named := ["math/bits.divideError", "math/bits.overflowError", "parlour/rat.products"], apart := false, laid := [("parlour/rat.products", laid_parlour_rat_products)] }
def RatOrderSaid : Prop := ratOrderRow.holds Tryz.pinned (OpenSpec.ofChange ratOrderSpec)

/-- ITS FALSE NEIGHBOUR: 'it returns false'. Refute it at one input. -/
def ratOrderWrong : ChangeSpec := { name := "ratOrder", fn := fun _ => fun
  | [d1, d2, d3, d4] => { results := [.lit (.bool false)], args := [d1, d2, d3, d4] }
  | _ => none }
def RatOrderWrongFalsely : Prop := ratOrderRow.holds Tryz.pinned (OpenSpec.ofChange ratOrderWrong)

/-- 'parlourlaw02.RatSimplest': WHATEVER THE INPUT: true; the input reads as it did. -/
def ratSimplestSpec : ChangeSpec := { name := "ratSimplest", fn := fun _ => fun
  | [d] => { results := [.lit (.bool true)], args := [d] }
  | _ => none }
def ratSimplestRow : OpenClaim := { program := "ytmcacofpnnaplaagreatdoor", sum := "98f17afd302cd3f27753c2821640b896e24fe59c052b37db66b24f7af7aa3309", func := "parlour/parlourlaw02.RatSimplest", spec := "ratSimplest", inPlace := ["math/bits.Add64"], unfollowed := true, recurses := true, named := ["parlour/rat.products", "math/bits.divideError", "math/bits.overflowError"], apart := false, laid := [("parlour/rat.products", laid_parlour_rat_products)] }
def RatSimplestSaid : Prop := ratSimplestRow.holds Tryz.pinned (OpenSpec.ofChange ratSimplestSpec)

/-- ITS FALSE NEIGHBOUR: 'it returns false'. Refute it at one input. -/
def ratSimplestWrong : ChangeSpec := { name := "ratSimplest", fn := fun _ => fun
  | [d] => { results := [.lit (.bool false)], args := [d] }
  | _ => none }
def RatSimplestWrongFalsely : Prop := ratSimplestRow.holds Tryz.pinned (OpenSpec.ofChange ratSimplestWrong)

/-- 'parlourlaw02.RatBack': WHATEVER THE INPUT: true; the input reads as it did. -/
def ratBackSpec : ChangeSpec := { name := "ratBack", fn := fun _ => fun
  | [d1, d2, d3, d4] => { results := [.lit (.bool true)], args := [d1, d2, d3, d4] }
  | _ => none }
def ratBackRow : OpenClaim := { program := "ytmcacofpnnaplaagreatdoor", sum := "98f17afd302cd3f27753c2821640b896e24fe59c052b37db66b24f7af7aa3309", func := "parlour/parlourlaw02.RatBack", spec := "ratBack", inPlace := ["math/bits.Add64", "internal/bytealg.IndexByteString", "internal/bytealg.IndexString"], unfollowed := true, recurses := true, named := ["math/bits.divideError", "math/bits.overflowError", "parlour/rat.products", "parlour/nat.powers", "internal/bytealg.MaxLen"], apart := false, laid := [("parlour/nat.powers", laid_parlour_nat_powers), ("parlour/rat.products", laid_parlour_rat_products)] }
def RatBackSaid : Prop := ratBackRow.holds Tryz.pinned (OpenSpec.ofChange ratBackSpec)

/-- ITS FALSE NEIGHBOUR: 'it returns false'. Refute it at one input. -/
def ratBackWrong : ChangeSpec := { name := "ratBack", fn := fun _ => fun
  | [d1, d2, d3, d4] => { results := [.lit (.bool false)], args := [d1, d2, d3, d4] }
  | _ => none }
def RatBackWrongFalsely : Prop := ratBackRow.holds Tryz.pinned (OpenSpec.ofChange ratBackWrong)

/- THE SECOND FORM. 'bulk': how many values and letters a reading holds, each counted each time it is reached (what is shared counts as often as it is met; a slice's spare places count too). A statement '..UptoSaid' is the law's where the arguments, and the package variables that the reading takes, are together of bulk at most 1048576: NARROWER than '..Said'. Prove '..Said' where nothing that the law and all that it calls make is longer than what came in: it says more and counts as full. Else prove '..UptoSaid'. A law counts once. -/
mutual
def uptoBulk {H : Type} : DataW H → Nat
  | .lit (.string bytes) => bytes.length + 1
  | .lit _ => 1
  | .nil => 1
  | .ptr d => uptoBulk d + 1
  | .slice elems spare => uptoBulkAll elems + uptoBulkAll spare + 1
  | .agg parts => uptoBulkAll parts + 1
  | .iface _ d => uptoBulk d + 1
  | .map entries => uptoBulkEntries entries + 1
  | .held _ => 1
def uptoBulkAll {H : Type} : List (DataW H) → Nat
  | [] => 0
  | d :: r => uptoBulk d + uptoBulkAll r
def uptoBulkEntries {H : Type} : List (Lit × DataW H) → Nat
  | [] => 0
  | x :: r => uptoBulkEntry x + uptoBulkEntries r
def uptoBulkEntry {H : Type} : Lit × DataW H → Nat
  | (.string bytes, d) => bytes.length + uptoBulk d + 1
  | (_, d) => uptoBulk d + 1
 end
def uptoSmall : (H : Type) → List (DataW H) → Bool := fun _ ds => decide (uptoBulkAll ds ≤ 1048576)
def OpenSpec.upto (s : _root_.Go.ChangeSpec) : _root_.Go.OpenSpec := { _root_.Go.OpenSpec.ofChange s with cond := some uptoSmall }

/-- 'parlourlaw02.RatSums', WHERE WHAT IT READS IS OF BULK AT MOST 1048576: true; the input reads as it did. -/
def ratSumsUptoRow : OpenClaim := { program := "ytmcacofpnnaplaagreatdoor", sum := "98f17afd302cd3f27753c2821640b896e24fe59c052b37db66b24f7af7aa3309", func := "parlour/parlourlaw02.RatSums", spec := "ratSums", inPlace := ["math/bits.Add64"], unfollowed := true, recurses := true, named := ["math/bits.divideError", "math/bits.overflowError", "parlour/rat.products"], apart := false, laid := [("parlour/rat.products", laid_parlour_rat_products)], narrowed := true }
def RatSumsUptoSaid : Prop := ratSumsUptoRow.holds Tryz.pinned (OpenSpec.upto ratSumsSpec)

/-- 'parlourlaw02.RatWholes', WHERE WHAT IT READS IS OF BULK AT MOST 1048576: true; the input reads as it did. -/
def ratWholesUptoRow : OpenClaim := { program := "ytmcacofpnnaplaagreatdoor", sum := "98f17afd302cd3f27753c2821640b896e24fe59c052b37db66b24f7af7aa3309", func := "parlour/parlourlaw02.RatWholes", spec := "ratWholes", inPlace := ["math/bits.Add64"], unfollowed := true, recurses := true, named := ["math/bits.divideError", "math/bits.overflowError", "parlour/rat.products"], apart := false, laid := [("parlour/rat.products", laid_parlour_rat_products)], narrowed := true }
def RatWholesUptoSaid : Prop := ratWholesUptoRow.holds Tryz.pinned (OpenSpec.upto ratWholesSpec)

/-- 'parlourlaw02.RatSimples', WHERE WHAT IT READS IS OF BULK AT MOST 1048576: true; the input reads as it did. -/
def ratSimplesUptoRow : OpenClaim := { program := "ytmcacofpnnaplaagreatdoor", sum := "98f17afd302cd3f27753c2821640b896e24fe59c052b37db66b24f7af7aa3309", func := "parlour/parlourlaw02.RatSimples", spec := "ratSimples", inPlace := ["math/bits.Add64"], unfollowed := true, recurses := true, named := ["math/bits.divideError", "math/bits.overflowError", "parlour/rat.products"], apart := false, laid := [("parlour/rat.products", laid_parlour_rat_products)], narrowed := true }
def RatSimplesUptoSaid : Prop := ratSimplesUptoRow.holds Tryz.pinned (OpenSpec.upto ratSimplesSpec)

/-- 'parlourlaw02.RatTexts', WHERE WHAT IT READS IS OF BULK AT MOST 1048576: true; the input reads as it did. -/
def ratTextsUptoRow : OpenClaim := { program := "ytmcacofpnnaplaagreatdoor", sum := "98f17afd302cd3f27753c2821640b896e24fe59c052b37db66b24f7af7aa3309", func := "parlour/parlourlaw02.RatTexts", spec := "ratTexts", inPlace := ["math/bits.Add64", "internal/bytealg.IndexByteString", "internal/bytealg.IndexString"], unfollowed := true, recurses := true, named := ["math/bits.divideError", "math/bits.overflowError", "parlour/rat.products", "parlour/nat.powers", "internal/bytealg.MaxLen"], apart := false, laid := [("parlour/nat.powers", laid_parlour_nat_powers), ("parlour/rat.products", laid_parlour_rat_products)], narrowed := true }
def RatTextsUptoSaid : Prop := ratTextsUptoRow.holds Tryz.pinned (OpenSpec.upto ratTextsSpec)

/-- 'parlourlaw02.RatKnown', WHERE WHAT IT READS IS OF BULK AT MOST 1048576: true; the input reads as it did. -/
def ratKnownUptoRow : OpenClaim := { program := "ytmcacofpnnaplaagreatdoor", sum := "98f17afd302cd3f27753c2821640b896e24fe59c052b37db66b24f7af7aa3309", func := "parlour/parlourlaw02.RatKnown", spec := "ratKnown", inPlace := ["math/bits.Add64", "internal/bytealg.IndexByteString", "internal/bytealg.IndexString"], unfollowed := true, recurses := true, named := ["parlour/rat.products", "math/bits.divideError", "math/bits.overflowError", "internal/bytealg.MaxLen", "parlour/nat.powers"], apart := false, laid := [("parlour/nat.powers", laid_parlour_nat_powers), ("parlour/rat.products", laid_parlour_rat_products)], narrowed := true }
def RatKnownUptoSaid : Prop := ratKnownUptoRow.holds Tryz.pinned (OpenSpec.upto ratKnownSpec)

/-- 'parlourlaw02.RatField', WHERE WHAT IT READS IS OF BULK AT MOST 1048576: true; the input reads as it did. -/
def ratFieldUptoRow : OpenClaim := { program := "ytmcacofpnnaplaagreatdoor", sum := "98f17afd302cd3f27753c2821640b896e24fe59c052b37db66b24f7af7aa3309", func := "parlour/parlourlaw02.RatField", spec := "ratField", inPlace := ["math/bits.Add64"], unfollowed := true, recurses := true, named := ["math/bits.divideError", "math/bits.overflowError", "parlour/rat.products"], apart := false, laid := [("parlour/rat.products", laid_parlour_rat_products)], narrowed := true }
def RatFieldUptoSaid : Prop := ratFieldUptoRow.holds Tryz.pinned (OpenSpec.upto ratFieldSpec)

/-- 'parlourlaw02.RatOrder', WHERE WHAT IT READS IS OF BULK AT MOST 1048576: true; the input reads as it did. -/
def ratOrderUptoRow : OpenClaim := { program := "ytmcacofpnnaplaagreatdoor", sum := "98f17afd302cd3f27753c2821640b896e24fe59c052b37db66b24f7af7aa3309", func := "parlour/parlourlaw02.RatOrder", spec := "ratOrder", inPlace := ["math/bits.Add64"], unfollowed := true, recurses := true, named := ["math/bits.divideError", "math/bits.overflowError", "parlour/rat.products"], apart := false, laid := [("parlour/rat.products", laid_parlour_rat_products)], narrowed := true }
def RatOrderUptoSaid : Prop := ratOrderUptoRow.holds Tryz.pinned (OpenSpec.upto ratOrderSpec)

/-- 'parlourlaw02.RatSimplest', WHERE WHAT IT READS IS OF BULK AT MOST 1048576: true; the input reads as it did. -/
def ratSimplestUptoRow : OpenClaim := { program := "ytmcacofpnnaplaagreatdoor", sum := "98f17afd302cd3f27753c2821640b896e24fe59c052b37db66b24f7af7aa3309", func := "parlour/parlourlaw02.RatSimplest", spec := "ratSimplest", inPlace := ["math/bits.Add64"], unfollowed := true, recurses := true, named := ["parlour/rat.products", "math/bits.divideError", "math/bits.overflowError"], apart := false, laid := [("parlour/rat.products", laid_parlour_rat_products)], narrowed := true }
def RatSimplestUptoSaid : Prop := ratSimplestUptoRow.holds Tryz.pinned (OpenSpec.upto ratSimplestSpec)

/-- 'parlourlaw02.RatBack', WHERE WHAT IT READS IS OF BULK AT MOST 1048576: true; the input reads as it did. -/
def ratBackUptoRow : OpenClaim := { program := "ytmcacofpnnaplaagreatdoor", sum := "98f17afd302cd3f27753c2821640b896e24fe59c052b37db66b24f7af7aa3309", func := "parlour/parlourlaw02.RatBack", spec := "ratBack", inPlace := ["math/bits.Add64", "internal/bytealg.IndexByteString", "internal/bytealg.IndexString"], unfollowed := true, recurses := true, named := ["math/bits.divideError", "math/bits.overflowError", "parlour/rat.products", "parlour/nat.powers", "internal/bytealg.MaxLen"], apart := false, laid := [("parlour/nat.powers", laid_parlour_nat_powers), ("parlour/rat.products", laid_parlour_rat_products)], narrowed := true }
def RatBackUptoSaid : Prop := ratBackUptoRow.holds Tryz.pinned (OpenSpec.upto ratBackSpec)

end Rows
end Go.Proofs.YtmcacofpnnaplaaGreatDoor

/- What the proofs of the cards share: the table of powers as the row lists it, a world for the witness, and a slice of limbs that came in. No conditions. -/
import Derived.Test.YtoonhjeiommhcaaDoorDoorDigits
import Derived.Test.YtoonhjeiommhcaaDoorCards
import Derived.Test.YtoonhjeiommhcaaDoorTie
import Derived.ProofKit
import Derived.OpenShut
import Derived.ShutString
import Derived.ChangeOld
import Derived.Deep.DeepHandedRow
import Derived.Lib.LaidTab
namespace Go.Proofs.YtoonhjeiommhcaaDoor
open Go.ChangeShapes Go.WideShapes Go.ChangeAt Go.RowKit

theorem own : ownKnob Tryd.prog.godebug = none := by kernel_rfl
theorem laidOut : laidOutB Tryd.prog = true := by kernel_rfl
theorem gTab : Tryd.prog.globalNamed "parlour/nat.powers" = some 0 := by kernel_rfl
theorem gTabType : (Tryd.prog.globals[0]?).map (·.type) = some 58 := by kernel_rfl
theorem cellsTab : Tryd.prog.cellsOf 58 = 9 := by kernel_rfl
theorem cellsU32 : Tryd.prog.cellsOf 30 = 1 := by kernel_rfl

/-- What the row's list gives: the table's cells hold its numbers. -/
theorem tab_of {W : World} (h : laidMetH Tryd.prog [("parlour/nat.powers", Rows.laid_parlour_nat_powers)] W) : Tab W := by
  have h1 : Lib.TabIs Tryd.prog W "parlour/nat.powers" .u32 [1, 10, 100, 1000, 10000, 100000, 1000000, 10000000, 100000000] :=
    Lib.tabIs_of_head (rest := []) gTab gTabType Tryd.underlying58 Tryd.underlying30 cellsU32 cellsTab h
  unfold Lib.TabIs World.var? at h1
  rw [gTab] at h1
  simp only [Option.bind_some] at h1
  split at h1
  · rename_i cs t fr he
    injection h1 with h1
    refine ⟨t, fr, ?_⟩
    rw [he, h1]
    rfl
  · cases h1

/-- A world for the witness: the settled one, the table holding what its initialiser lays. -/
noncomputable def laidWorld (os : Os) : World :=
  { World.holding Tryd.prog os ⟨#[], #[], []⟩ with heap := (World.holding Tryd.prog os ⟨#[], #[], []⟩).heap.modify 0 fun
      | .cells _ t frozen => .cells tab9 t frozen
      | o => o }

/-- A slice of integers that came in: it is nil, or leads to a row of cells. -/
def IsRow (k : IntKind) (w : World) (a : Option Addr) (len cap : Nat) (zs : List Int) : Prop :=
  (a = none ∧ len = 0 ∧ cap = 0 ∧ zs = []) ∨
  ∃ x, a = some x ∧ len ≤ cap ∧ cap ≤ maxLen ∧ zs.length = cap ∧ (∀ i, i < zs.length → w.cell? (x.add i) = some (.int k (zs.getD i 0))) ∧ ∀ n ∈ zs, (Lit.int k n).wf = true

theorem cell_lt {w : World} {a : Addr} {v : Value} (h : w.cell? a = some v) : a.block < w.heap.size := by
  rcases Nat.lt_or_ge a.block w.heap.size with hh | hh
  · exact hh
  · simp [World.cell?, Array.getElem?_eq_none hh] at h

theorem IsRow.rs {w : World} {a : Option Addr} {len cap : Nat} {zs : List Int} (h : IsRow .u32 w a len cap zs) : ∃ f, Rs w w.heap.size a len cap f := by
  rcases h with ⟨rfl, rfl, rfl, rfl⟩ | ⟨x, rfl, hl, hm, hz, hc, hw⟩
  · exact ⟨fun _ => 0, Rs.nil _ _ _⟩
  · have hb : ∀ j, j < zs.length → 0 ≤ zs.getD j 0 ∧ zs.getD j 0 < 4294967296 := fun j hj => by
      have h1 : zs.getD j 0 ∈ zs := by simp [List.getD, hj]
      have h2 := hw _ h1
      have h3 := bounds_u32 h2
      omega
    refine ⟨fun j => (zs.getD j 0).toNat, hl, by unfold maxLen at hm; omega, fun j hj => by have := hb j (by omega); omega, fun h0 => ?_⟩
    obtain ⟨b, off, spot⟩ := x
    have h0' := hc 0 (by omega)
    have hspot : spot = none := by simpa [Addr.add] using World.cell?_spot h0'
    subst hspot
    refine ⟨b, off, rfl, ?_, fun j hj => ?_⟩
    · have := cell_lt h0'
      simpa [Addr.add] using this
    · have h1 := hc j (by omega)
      have h2 := hb j (by omega)
      have e : (⟨b, off, none⟩ : Addr).add j = ⟨b, off + j, none⟩ := by unfold Addr.add; split <;> simp_all
      rw [e] at h1
      rw [h1, iv_eq, Int.toNat_of_nonneg h2.1]

end Go.Proofs.YtoonhjeiommhcaaDoor

/- The contracts of the functions under the laws of package rat: RatFrame, CardKit, TextFrame, joined into one file. -/
import Derived.Test.YtbjaolmlnkliiaaGreatDoorRatThree
import Derived.Test.YtbjaolmlnkliiaaGreatDoorCards
import Derived.Test.YtbjaolmlnkliiaaGreatDoorTie
import Derived.ProofKit
import Derived.OpenShut
import Derived.ShutString
import Derived.ChangeOld
import Derived.Deep.DeepHandedRow
import Derived.Lib.LaidTab
import Derived.Deep.Strs
import Derived.Test.YtbjaolmlnkliiaaGreatDoorTextTwo
/- What the proofs of the cards over rational numbers share: the tables as the rows list them, a world for the witness, and what came in. No conditions. -/
namespace Go.Proofs.YtbjaolmlnkliiaaGreatDoor
open Go.ChangeShapes Go.WideShapes Go.ChangeAt Go.RowKit

theorem own : ownKnob Tryz.prog.godebug = none := by kernel_rfl
theorem laidOut : laidOutB Tryz.prog = true := by kernel_rfl
theorem gProd : Tryz.prog.globalNamed "parlour/rat.products" = some 0 := by kernel_rfl
theorem gProdType : (Tryz.prog.globals[0]?).map (·.type) = some 167 := by kernel_rfl
theorem cells33 : Tryz.prog.cellsOf 167 = 9 := by kernel_rfl
theorem cells3 : Tryz.prog.cellsOf 166 = 3 := by kernel_rfl
theorem cellsSign : Tryz.prog.cellsOf 100 = 1 := by kernel_rfl

/-- an array of three rows of three that reads as the table holds its numbers -/
theorem cells_of_rows {H : Type} {enc : TypeId × Value → H} {w : World} {base : Nat} {sp : Nat → Bool} {held : Bool} {fuel : Nat} {cs : List Value} {p : List MemPlace} {z0 z1 z2 : List Int}
    (hcl : cs.length = 9) (h : DataW.trod enc Tryz.prog w base sp held fuel 167 cs = some (.agg [Lib.tabData .i64 z0, Lib.tabData .i64 z1, Lib.tabData .i64 z2], p)) : cs = (z0 ++ z1 ++ z2).map fun z => Value.int .i64 z := by
  cases fuel with
  | zero => simp [DataW.trod] at h
  | succ fuel =>
    simp only [DataW.trod, Tryz.underlying167, cells33, cells3] at h
    rw [if_pos hcl] at h
    obtain ⟨xs, hm, hx⟩ := Option.map_eq_some_iff.1 h
    have hxs : xs.map (·.1) = [Lib.tabData .i64 z0, Lib.tabData .i64 z1, Lib.tabData .i64 z2] := by
      have := congrArg Prod.fst hx
      simpa using this
    have key : ∀ i (hi : i < 3), (cs.drop (i * 3)).take 3 = ([z0, z1, z2][i]'(by simpa using hi)).map fun z => Value.int .i64 z := by
      intro i hi
      obtain ⟨b, hb, hf⟩ := Lib.mapM_at hm i i (by simp [hi])
      have h2 : (xs.map (·.1))[i]? = some b.1 := by simp [hb]
      rw [hxs] at h2
      obtain ⟨b1, b2⟩ := b
      have h3 : b1 = Lib.tabData .i64 ([z0, z1, z2][i]'(by simpa using hi)) := by
        rcases (by omega : i = 0 ∨ i = 1 ∨ i = 2) with rfl | rfl | rfl <;> (simp at h2; exact h2.symm)
      subst h3
      exact Lib.cells_of_tab Tryz.underlying166 Tryz.underlying100 cellsSign cells3 hf
    have k0 := key 0 (by omega)
    have k1 := key 1 (by omega)
    have k2 := key 2 (by omega)
    simp at k0 k1 k2
    have e : cs = cs.take 3 ++ ((cs.drop 3).take 3 ++ (cs.drop 6).take 3) := by
      rw [List.take_of_length_le (l := cs.drop 6) (by rw [List.length_drop]; omega)]
      rw [show cs.drop 6 = (cs.drop 3).drop 3 by rw [List.drop_drop], List.take_append_drop, List.take_append_drop]
    rw [e, k0, k1, k2]
    simp

/-- What the row's list gives: the table of signs holds its numbers. -/
theorem tabs_of {W : World} {rest : List (String × DataW Unit)} (h : laidMet Tryz.prog (("parlour/rat.products", Rows.laid_parlour_rat_products) :: rest) W) : Tabs W := by
  obtain ⟨ps, ⟨g', t', cs, fuel, p, q, hg', ht', hvar, hd, _, _⟩, _⟩ := h
  obtain rfl := Option.some.inj (gProd.symm.trans hg')
  obtain rfl := Option.some.inj (gProdType.symm.trans ht')
  have hlen : cs.toList.length = 9 := by
    cases fuel with
    | zero => simp [DataW.trod] at hd
    | succ fuel =>
      simp only [DataW.trod, Tryz.underlying167, cells33, cells3] at hd
      rcases Classical.em (cs.toList.length = 9) with h | h
      · exact h
      · rw [if_neg h] at hd; cases hd
  have hcs := cells_of_rows (z0 := [2, 1, 0]) (z1 := [1, 1, 1]) (z2 := [0, 1, 2]) hlen hd
  unfold World.var? at hvar
  rw [gProd] at hvar
  simp only [Option.bind_some] at hvar
  split at hvar
  · rename_i c t fr he
    injection hvar with hvar
    refine ⟨t, fr, ?_⟩
    rw [he, hvar, show cs = sign9 from by rw [← Array.toList_inj, hcs]; rfl]
  · cases hvar
/-- A world for the witness: the settled one, the table holding what its initialiser lays. -/
noncomputable def laidWorld (os : Os) : World :=
  { World.holding Tryz.prog os ⟨#[], #[], []⟩ with heap := (World.holding Tryz.prog os ⟨#[], #[], []⟩).heap.modify 0 fun
      | .cells _ t frozen => .cells sign9 t frozen
      | o => o }

/-- A slice of integers that came in: it is nil, or leads to a row of cells. -/
def IsRow (k : IntKind) (w : World) (a : Option Addr) (len cap : Nat) (zs : List Int) : Prop :=
  (a = none ∧ len = 0 ∧ cap = 0 ∧ zs = []) ∨
  ∃ x, a = some x ∧ len ≤ cap ∧ cap ≤ maxLen ∧ zs.length = cap ∧ (∀ i, i < zs.length → w.cell? (x.add i) = some (.int k (zs.getD i 0))) ∧ ∀ n ∈ zs, (Lit.int k n).wf = true

theorem cell_lt {w : World} {a : Addr} {v : Value} (h : w.cell? a = some v) : a.block < w.heap.size := by
  rcases Nat.lt_or_ge a.block w.heap.size with hh | hh
  · exact hh
  · simp [World.cell?, Array.getElem?_eq_none hh] at h

theorem IsRow.rs {w : World} {a : Option Addr} {len cap : Nat} {zs : List Int} (h : IsRow .u32 w a len cap zs) : ∃ f, Rs w w.heap.size a len cap f := by
  rcases h with ⟨rfl, rfl, rfl, rfl⟩ | ⟨x, rfl, hl, hm, hz, hc, hw⟩
  · exact ⟨fun _ => 0, Rs.nil _ _ _⟩
  · have hb : ∀ j, j < zs.length → 0 ≤ zs.getD j 0 ∧ zs.getD j 0 < 4294967296 := fun j hj => by
      have h1 : zs.getD j 0 ∈ zs := by simp [List.getD, hj]
      have h2 := hw _ h1
      have h3 := bounds_u32 h2
      omega
    refine ⟨fun j => (zs.getD j 0).toNat, hl, by unfold maxLen at hm; omega, fun j hj => by have := hb j (by omega); omega, fun h0 => ?_⟩
    obtain ⟨b, off, spot⟩ := x
    have h0' := hc 0 (by omega)
    have hspot : spot = none := by simpa [Addr.add] using World.cell?_spot h0'
    subst hspot
    refine ⟨b, off, rfl, ?_, fun j hj => ?_⟩
    · have := cell_lt h0'
      simpa [Addr.add] using this
    · have h1 := hc j (by omega)
      have h2 := hb j (by omega)
      have e : (⟨b, off, none⟩ : Addr).add j = ⟨b, off + j, none⟩ := by unfold Addr.add; split <;> simp_all
      rw [e] at h1
      rw [h1, iv_eq, Int.toNat_of_nonneg h2.1]

end Go.Proofs.YtbjaolmlnkliiaaGreatDoor

/- What an argument that is a rational number reads as: a bool and two lists of limbs. No conditions. -/
namespace Go.Proofs.YtbjaolmlnkliiaaGreatDoor
open Go.ChangeShapes Go.WideShapes Go.ChangeAt Go.RowKit Go.Deep

theorem open_boolcell {H : Type} {enc : TypeId × Value → H} {P : Program} {w : World} {base : Nat} {sp : Nat → Bool} {held : Bool} {t : TypeId} {fuel : Nat} {cs : List Value} {x : DataW H × List MemPlace} (ht : P.underlying t = some .bool) (h : DataW.trod enc P w base sp held fuel t cs = some x) :
    ∃ b, cs = [.bool b] := by
  cases fuel with
  | zero => simp [DataW.trod] at h
  | succ n =>
    unfold DataW.trod at h
    rw [ht] at h
    match cs, h with
    | [.bool b], _ => exact ⟨b, rfl⟩
theorem limbs_of {H : Type} {enc : TypeId × Value → H} {w : World} {sp : Nat → Bool} {base : Nat} {held : Bool} {fuel : Nat} {cs : List Value} {x : DataW H × List MemPlace} (hsp : sp = fun _ => true) (h : DataW.trod enc Tryz.prog w base sp held fuel 23 cs = some x) :
    ∃ A n c f, cs = [.slice A n c] ∧ Rs w w.heap.size A n c f := by
  subst hsp
  rcases open_ints Tryz.underlying23 Tryz.underlying40 (by kernel_rfl) h with ⟨rfl, _⟩ | ⟨a, l, c, zs, rfl, _, hl, hm, hz, _, hcell, hwz⟩
  · exact ⟨none, 0, 0, fun _ => 0, rfl, Rs.nil _ _ _⟩
  · obtain ⟨f, hf⟩ := IsRow.rs (.inr ⟨a, rfl, hl, hm, by simpa using hz, hcell, hwz⟩ : IsRow .u32 w (some a) l c zs)
    exact ⟨_, _, _, f, rfl, hf⟩
set_option maxRecDepth 100000 in
theorem open_rat {H : Type} {enc : TypeId × Value → H} {w : World} {r : Reach} {base base' : Nat} {held : Bool} {fuel : Nat} {v : Value} {x : DataW H × List MemPlace} (hv : Value.okWide Tryz.prog w r base' 25 v) (h : DataW.trod enc Tryz.prog w base (fun _ => true) held fuel 25 v.cells.toList = some x) :
    ∃ b A n c f A' n' c' g, v = .agg #[.bool b, .slice A n c, .slice A' n' c'] ∧ Raw w b A n c f A' n' c' g := by
  obtain ⟨cs, rfl, hsz⟩ := okWide_struct Tryz.underlying25 hv
  have h3 : cs.size = 3 := hsz.trans (by kernel_rfl)
  obtain ⟨x0, x1, x2, rfl⟩ : ∃ x0 x1 x2, cs = #[x0, x1, x2] := by
    rcases cs with ⟨l⟩
    match l, h3 with
    | [x0, x1, x2], _ => exact ⟨x0, x1, x2, rfl⟩
  obtain ⟨y0, y1, y2, n, _, hlen, h0, h1, h2⟩ := trod_struct3 Tryz.underlying25 h
  have cB : Tryz.prog.cellsOf 4 = 1 := by kernel_rfl
  have cN : Tryz.prog.cellsOf 23 = 1 := by kernel_rfl
  obtain ⟨b, hb⟩ := open_boolcell (by kernel_rfl) h0
  obtain ⟨A, k, c, f, hA, hf⟩ := limbs_of rfl h1
  obtain ⟨A', k', c', g, hA', hg⟩ := limbs_of rfl h2
  simp [Value.cells, cB] at hb
  simp [Value.cells, cN] at hA hA'
  subst hb hA hA'
  exact ⟨b, A, k, c, f, A', k', c', g, rfl, ⟨hf, hg⟩⟩
end Go.Proofs.YtbjaolmlnkliiaaGreatDoor

/- What the cards over texts of rational numbers share: both tables as the rows list them, a world for the witness, and a bool that came in. No conditions. -/
namespace Go.Proofs.YtbjaolmlnkliiaaGreatDoor
open Go.ChangeShapes Go.WideShapes Go.ChangeAt Go.RowKit

theorem gTab : Tryz.prog.globalNamed "parlour/nat.powers" = some 1 := by kernel_rfl
theorem gTabType : (Tryz.prog.globals[1]?).map (·.type) = some 210 := by kernel_rfl
theorem cellsTab : Tryz.prog.cellsOf 210 = 9 := by kernel_rfl
theorem cellsU32 : Tryz.prog.cellsOf 40 = 1 := by kernel_rfl

/-- What the row's list gives: the table of powers holds its numbers. -/
theorem tab_of {W : World} {rest : List (String × DataW Unit)} (h : laidMet Tryz.prog (("parlour/nat.powers", Rows.laid_parlour_nat_powers) :: rest) W) : Tab W := by
  have h1 : Lib.TabIs Tryz.prog W "parlour/nat.powers" .u32 [1, 10, 100, 1000, 10000, 100000, 1000000, 10000000, 100000000] :=
    Lib.tabIs_of_head (rest := rest) gTab gTabType Tryz.underlying210 Tryz.underlying40 cellsU32 cellsTab h
  unfold Lib.TabIs World.var? at h1
  rw [gTab] at h1
  simp only [Option.bind_some] at h1
  split at h1
  · rename_i cs t fr he
    injection h1 with h1
    refine ⟨t, fr, ?_⟩
    rw [he, h1]
    rfl
  · cases h1

/-- The rest of a row's list is met too. -/
theorem rest_of {P : Program} {x : String × DataW Unit} {rest : List (String × DataW Unit)} {W : World} (h : laidMet P (x :: rest) W) : laidMet P rest W := by
  obtain ⟨ps, h1, h2, h3⟩ := h
  obtain ⟨n, d⟩ := x
  obtain ⟨g, t, cs, fuel, p, q, _, _, _, _, hr, rfl⟩ := h1
  refine ⟨q, hr, (List.nodup_append.1 h2).2.1, fun b off hb => h3 b off (List.mem_append_right _ hb)⟩

theorem tabs_of2 {W : World} {x : String × DataW Unit} {rest : List (String × DataW Unit)} (h : laidMet Tryz.prog (x :: ("parlour/rat.products", Rows.laid_parlour_rat_products) :: rest) W) : Tabs W := tabs_of (rest_of h)

/-- A world for the witness: the settled one, both tables holding what their initialisers lay. -/
noncomputable def laidWorld2 (os : Os) : World :=
  { laidWorld os with heap := (laidWorld os).heap.modify 1 fun
      | .cells _ t frozen => .cells tab9 t frozen
      | o => o }
end Go.Proofs.YtbjaolmlnkliiaaGreatDoor

/- What the frame of a law says of a list that came in, as the walks read it; lists made twice are alike. No conditions. -/
import Derived.Test.YtoonhjeiommhcaaPow
import Derived.Test.YtoonhjeiommhcaaRows
import Derived.WalkKit
import Derived.ProofKit
import Derived.OpenShut
import Derived.ShutString
import Derived.ChangeOld
import Derived.Below
namespace Go.Proofs.Ytoonhjeiommhcaa
open Go.RowKit

/-- A slice of integers that came in: it is nil, or leads to a row of cells. -/
def IsRow (k : IntKind) (w : World) (a : Option Addr) (len cap : Nat) (zs : List Int) : Prop :=
  (a = none ∧ len = 0 ∧ cap = 0 ∧ zs = []) ∨
  ∃ x, a = some x ∧ len ≤ cap ∧ cap ≤ maxLen ∧ zs.length = cap ∧ (∀ i, i < zs.length → w.cell? (x.add i) = some (.int k (zs.getD i 0))) ∧ ∀ n ∈ zs, (Lit.int k n).wf = true

theorem cell_lt {w : World} {a : Addr} {v : Value} (h : w.cell? a = some v) : a.block < w.heap.size := by
  rcases Nat.lt_or_ge a.block w.heap.size with hh | hh
  · exact hh
  · simp [World.cell?, Array.getElem?_eq_none hh] at h

theorem IsRow.rs {w : World} {a : Option Addr} {len cap : Nat} {zs : List Int} (h : IsRow .u32 w a len cap zs) : ∃ f, Rs w w.heap.size a len cap f := by
  rcases h with ⟨rfl, rfl, rfl, rfl⟩ | ⟨x, rfl, hl, hm, hz, hc, hw⟩
  · exact ⟨fun _ => 0, Rs.nil _ _ _⟩
  · have hb : ∀ j, j < zs.length → 0 ≤ zs.getD j 0 ∧ zs.getD j 0 < 4294967296 := fun j hj => by
      have h1 : zs.getD j 0 ∈ zs := by simp [List.getD, hj]
      have h2 := hw _ h1
      have h3 := bounds_u32 h2
      omega
    refine ⟨fun j => (zs.getD j 0).toNat, hl, by unfold maxLen at hm; omega, fun j hj => by have := hb j (by omega); omega, fun h0 => ?_⟩
    obtain ⟨b, off, spot⟩ := x
    have h0' := hc 0 (by omega)
    have hspot : spot = none := by simpa [Addr.add] using World.cell?_spot h0'
    subst hspot
    refine ⟨b, off, rfl, ?_, fun j hj => ?_⟩
    · have := cell_lt h0'
      simpa [Addr.add] using this
    · have h1 := hc j (by omega)
      have h2 := hb j (by omega)
      have e : (⟨b, off, none⟩ : Addr).add j = ⟨b, off + j, none⟩ := by unfold Addr.add; split <;> simp_all
      rw [e] at h1
      rw [h1, iv_eq, Int.toNat_of_nonneg h2.1]


/-- two lists that stand for one number are alike -/
theorem made_alike {w0 w1 w2 : World} {N : Nat} {v u : Value} (h : Made w0 N v w1) (k : Made w1 N u w2) :
    Calls Try.prog 11 #[v, u] w2 fun e w' => e = .returned (.bool true) ∧ Qt w2 w' := by
  obtain ⟨A, n, c, f, rfl, hr, hd, hb⟩ := h
  obtain ⟨A', n', c', f', rfl, hr', hd', hb'⟩ := k
  obtain ⟨rfl, he⟩ := hd.unique hd'
  exact alike_true A A' n c c' f f' _ _ w2 (hr.below hb') hr' he

theorem Made.bel {w w' : World} {N : Nat} {v : Value} (h : Made w N v w') : Below w.heap.size w w' := by
  obtain ⟨_, _, _, _, _, _, _, hb⟩ := h; exact hb

/-- the two lists that came in and their copies, as they read after some steps -/
structure Four (w0 w : World) (A : Option Addr) (n c : Nat) (f : Nat → Nat) (A' : Option Addr) (m c' : Nat) (g : Nat → Nat) (O : Option Addr) (oc : Nat) (O' : Option Addr) (oc' : Nat) : Prop where
  a : Rs w w.heap.size A n c f
  b : Rs w w.heap.size A' m c' g
  o : Rs w w.heap.size O n oc f
  p : Rs w w.heap.size O' m oc' g
  bel : Below w0.heap.size w0 w
theorem Four.next {w0 w w' : World} {A A' O O' : Option Addr} {n c m c' oc oc' : Nat} {f g : Nat → Nat} (h : Four w0 w A n c f A' m c' g O oc O' oc') (hb : Below w.heap.size w w') : Four w0 w' A n c f A' m c' g O oc O' oc' :=
  ⟨(h.a.below hb).more hb.size, (h.b.below hb).more hb.size, (h.o.below hb).more hb.size, (h.p.below hb).more hb.size, h.bel.trans (hb.mono h.bel.size)⟩
theorem Four.made {w0 w w' : World} {A A' O O' : Option Addr} {n c m c' oc oc' N : Nat} {f g : Nat → Nat} {v : Value} (h : Four w0 w A n c f A' m c' g O oc O' oc') (hm : Made w N v w') : Four w0 w' A n c f A' m c' g O oc O' oc' := h.next hm.bel

end Go.Proofs.Ytoonhjeiommhcaa

/- Words for memory: a slice of limbs that reads as a function with a length, and what keeps it. No conditions. -/
import Derived.WalkKit
import Derived.WalkSpells
import Derived.WalkLawsBesides
import Derived.Test.YtbjaolmlnkliiaaGreatDoorNatA
namespace Go.Proofs.YtbjaolmlnkliiaaGreatDoor
open Go.RowKit

/-- a natural number as an integer, behind a name: the walk's simp runs without an end on a cast beside a great numeral -/
@[irreducible] def iv (x : Nat) : Int := (x : Int)
theorem iv_eq (x : Nat) : iv x = (x : Int) := by unfold iv; rfl
theorem iv_n (n : Nat) (z : Int) (h : (n : Int) = z) : iv n = z := by rw [iv_eq]; exact h
theorem iv_nonneg (x : Nat) : 0 ≤ iv x := by rw [iv_eq]; omega
theorem iv_lt {x m : Nat} (h : x < m) : iv x < (m : Int) := by rw [iv_eq]; omega
theorem iv_pos {x : Nat} (h : x ≠ 0) : 0 < iv x := by rw [iv_eq]; omega
theorem iv_zero : iv 0 = 0 := by rw [iv_eq]; rfl
theorem iv_le {x m : Nat} (h : x ≤ m) : iv x ≤ (m : Int) := by rw [iv_eq]; omega
theorem iv_u64 {x : Nat} (h : x < 18446744073709551616) : iv x ≤ 18446744073709551615 := by rw [iv_eq]; omega
theorem iv_u32 {x : Nat} (h : x < 4294967296) : iv x < 4294967296 := by rw [iv_eq]; omega
theorem iv_limb {x : Nat} (h : x < LB) : iv x < 1000000000 := by rw [iv_eq]; rw [LB_eq] at h; omega

/-- A fact that the walk does not look into: 'contradiction' opens 'Hid', and a bound by a great numeral on a natural number then runs it out of depth. -/
@[irreducible] def Big (p : Prop) : Prop := p
theorem Big.mk {p : Prop} (h : p) : Big p := by unfold Big; exact h
theorem Big.out {p : Prop} (h : Big p) : p := by unfold Big at h; exact h

/-- The slice value '.slice A n c' of limbs reads as f in the world w, and lies below block B. -/
structure Rs (w : World) (B : Nat) (A : Option Addr) (n c : Nat) (f : Nat → Nat) : Prop where
  cap : n ≤ c
  max : c ≤ 9223372036854775807
  bd : ∀ j, j < n → f j < 4294967296
  cell : 0 < n → ∃ b off, A = some ⟨b, off, none⟩ ∧ b < B ∧ ∀ j, j < n → w.cell? ⟨b, off + j, none⟩ = some (.int .u32 (iv (f j)))

section
variable {w w' : World} {B B' n c : Nat} {A : Option Addr} {f : Nat → Nat}
theorem Rs.nil (w : World) (B : Nat) (f : Nat → Nat) : Rs w B none 0 0 f := ⟨Nat.le_refl _, by omega, fun j h => by omega, fun h => by omega⟩
theorem Rs.keep (h : Rs w B A n c f) (hk : ∀ p : Addr, p.block < B → w'.cell? p = w.cell? p) : Rs w' B A n c f :=
  ⟨h.cap, h.max, h.bd, fun hn => by
    obtain ⟨b, off, e, hb, hc⟩ := h.cell hn
    exact ⟨b, off, e, hb, fun j hj => (hk _ hb).trans (hc j hj)⟩⟩
theorem Rs.more (h : Rs w B A n c f) (hB : B ≤ B') : Rs w B' A n c f :=
  ⟨h.cap, h.max, h.bd, fun hn => by
    obtain ⟨b, off, e, hb, hc⟩ := h.cell hn
    exact ⟨b, off, e, by omega, hc⟩⟩
theorem Rs.below (h : Rs w B A n c f) (hb : Below B w w') : Rs w' B A n c f := h.keep fun _ hp => hb.cell hp
theorem Rs.drew (h : Rs w B A n c f) : Rs w.drew B A n c f := ⟨h.cap, h.max, h.bd, h.cell⟩
theorem Rs.drewN (h : Rs w B A n c f) (k : Nat) : Rs (w.drewN k) B A n c f := ⟨h.cap, h.max, h.bd, h.cell⟩
theorem Rs.alloc (h : Rs w B A n c f) (hB : B ≤ w.heap.size) (o : Obj) : Rs (w.alloc o) B A n c f := h.keep fun p hp => World.cell?_alloc_lt w o p (by omega)
theorem Rs.congr {g : Nat → Nat} (h : Rs w B A n c f) (hg : ∀ j, j < n → f j = g j) : Rs w B A n c g :=
  ⟨h.cap, h.max, fun j hj => by rw [← hg j hj]; exact h.bd j hj, fun hn => by
    obtain ⟨b, off, e, hb, hc⟩ := h.cell hn
    exact ⟨b, off, e, hb, fun j hj => by rw [← hg j hj]; exact hc j hj⟩⟩
end

/-- the cells of the limbs of a function -/
def us (f : Nat → Nat) (n : Nat) : List Value := (List.range n).map fun j => .int .u32 (iv (f j))
theorem us_length (f : Nat → Nat) (n : Nat) : (us f n).length = n := by simp [us]
theorem us_get (f : Nat → Nat) (n j : Nat) (h : j < n) : (us f n)[j]? = some (.int .u32 (iv (f j))) := by simp [us, h]
theorem us_succ (f : Nat → Nat) (n : Nat) : us f (n + 1) = us f n ++ [.int .u32 (iv (f n))] := by simp [us, List.range_succ]
theorem us_congr {f g : Nat → Nat} {n : Nat} (h : ∀ j, j < n → f j = g j) : us f n = us g n := by
  unfold us; exact List.map_congr_left fun j hj => by rw [h j (List.mem_range.1 hj)]

/-- A row of the call's own that holds limbs. -/
def Own (w : World) (base : Nat) (v : Value) (n : Nat) (f : Nat → Nat) : Prop := w.ownsRow base 40 1 v n (us f n)
theorem Own.nil (w : World) (base : Nat) (f : Nat → Nat) : Own w base (.slice none 0 0) 0 f := World.ownsRow_nil _ _ _ _
theorem Own.rs {w : World} {base n : Nat} {v : Value} {f : Nat → Nat} (h : Own w base v n f) (hb : ∀ j, j < n → f j < 4294967296) :
    ∃ A c, v = .slice A n c ∧ Rs w w.heap.size A n c f := by
  unfold Own at h
  rcases h.2 with ⟨rfl, rfl⟩ | ⟨g, cap, cur, rfl, hg, hh, hnc, hcm, hsz, htk⟩
  · exact ⟨none, 0, rfl, Rs.nil _ _ _⟩
  · refine ⟨some ⟨g, 0, none⟩, cap, rfl, hnc, by unfold maxLen at hcm; omega, hb, fun _ => ⟨g, 0, rfl, (h.lt g rfl).2, fun j hj => ?_⟩⟩
    have h1 := h.cells (g := g) rfl j _ (us_get f n j hj)
    rw [Nat.zero_add]
    by_cases e : j = 0
    · subst e; simpa [Addr.add] using h1
    · simpa [Addr.add, e] using h1

/-- behind an append of one limb -/
theorem Own.snoc {w1 : World} {base n x : Nat} {v' : Value} {f : Nat → Nat} (h : w1.ownsRow base 40 1 v' (n + 1) (us f n ++ [.int .u32 (iv x)])) (hx : f n = x) : Own w1 base v' (n + 1) f := by
  unfold Own; rw [us_succ, hx]; exact h
end Go.Proofs.YtbjaolmlnkliiaaGreatDoor

/- The contracts of digit, Text and Digits of the program. Conditions as premises: the list reads, and the table of powers holds what its initialiser lays. -/
import Derived.Test.YtoonhjeiommhcaaDoorDoorDigits
import Derived.Laws.BytesArg
namespace Go.Proofs.YtoonhjeiommhcaaDoor
open Go.RowKit

theorem info8 : (Tryd.prog.info? 5).map (fun i => (i.zero, i.size, i.bytes)) = some (some (.int .u8 0), 1, 1) := by kernel_rfl

/-- Block b is a row of n bytes, byte i being f i. -/
def Row8 (w : World) (b n : Nat) (f : Nat → Nat) : Prop := w.rowIs b 5 n (fun i => .int .u8 (iv (f i)))
section
variable {w : World} {b n : Nat} {f : Nat → Nat}
theorem Row8.cell (h : Row8 w b n f) {i : Nat} (hi : i < n) : w.cell? ⟨b, i, none⟩ = some (.int .u8 (iv (f i))) := World.rowIs.cell h hi
theorem Row8.frozen (h : Row8 w b n f) (i : Nat) : w.frozen? ⟨b, i, none⟩ = false := World.rowIs.frozen h i
theorem Row8.lt (h : Row8 w b n f) : b < w.heap.size := World.rowIs.lt h
theorem Row8.set (h : Row8 w b n f) (i x : Nat) : Row8 (w.setCell ⟨b, i, none⟩ (.int .u8 (iv x))) b n (fun j => if j = i then x else f j) :=
  World.rowIs.congr (World.rowIs.set h i _) fun j _ => by by_cases e : j = i <;> simp [e]
theorem Row8.congr {g : Nat → Nat} (h : Row8 w b n f) (e : ∀ j, j < n → f j = g j) : Row8 w b n g := World.rowIs.congr h fun j hj => by rw [e j hj]
theorem Row8.drewN (h : Row8 w b n f) (k : Nat) : Row8 (w.drewN k) b n f := h
theorem Row8.made (w : World) (n : Nat) : Row8 (w.alloc (.cells (madeCells #[.int .u8 0] n) 5)) w.heap.size n (fun _ => 0) :=
  World.rowIs.congr (World.rowIs_made w (.int .u8 0) n _) fun j _ => by rw [iv_zero]
end

theorem below_drewN {B : Nat} {a w : World} (h : Below B a w) (n : Nat) : Below B a (w.drewN n) := ⟨h.os, h.tape, h.output, h.size, h.block⟩

theorem digit_zero {n p : Nat} {f : Nat → Nat} (h : ∀ j, j < n → f j < LB) (hp : n ≤ p / 9) : nv f n / 10 ^ p % 10 = 0 := by
  have h1 := nv_lt n h
  rw [LB_pow] at h1
  have h2 : 10 ^ (9 * n) ≤ 10 ^ p := ten_le (by omega)
  rw [Nat.div_eq_of_lt (by omega)]

set_option maxHeartbeats 800000 in
set_option maxRecDepth 100000 in
theorem digit_any (A : Option Addr) (n c p : Nat) (f : Nat → Nat) (B : Nat) (w : World) (h : Rs w B A n c f) (hv : Val n f) (hp : p ≤ 100000) (ht : Tab w) :
    Calls Tryd.prog 40 #[.slice A n c, .int .i64 (p : Int)] w fun e w' => e = .returned (.int .u8 (iv (nv f n / 10 ^ p % 10))) ∧ Qt w w' := by
  by_cases hlt : p / 9 < n
  · obtain ⟨b, off, rfl, hb, hc⟩ := h.cell (by omega)
    have hck := hc (p / 9) hlt
    have htk := ht.cell (k := p % 9) (Nat.mod_lt _ (by omega))
    have hpi : (p : Int) / 9 < (n : Int) := by omega
    have hpi0 : 0 ≤ (p : Int) / 9 := by omega
    have hpm : (p : Int) % 9 < 9 := by omega
    have hpm0 : 0 ≤ (p : Int) % 9 := by omega
    have hx0 := iv_nonneg (f (p / 9))
    have hx1 := iv_limb (hv.1 (p / 9) hlt)
    have hy0 := iv_pos (show (10 : Nat) ^ (p % 9) ≠ 0 by have := ten_pos (p % 9); omega)
    have hq0 : 0 ≤ iv (f (p / 9)) / iv (10 ^ (p % 9)) := Int.ediv_nonneg (by omega) (by omega)
    have hq1 : iv (f (p / 9)) / iv (10 ^ (p % 9)) < 1000000000 := by
      have : iv (f (p / 9)) / iv (10 ^ (p % 9)) ≤ iv (f (p / 9)) := Int.ediv_le_self _ (by omega)
      omega
    have hfin : iv (f (p / 9)) / iv (10 ^ (p % 9)) % 10 = iv (nv f n / 10 ^ p % 10) := by
      have h1 := digit_of_limb hv.1 hlt (Nat.mod_lt p (show 9 > 0 by omega))
      rw [show 9 * (p / 9) + p % 9 = p by omega] at h1
      rw [← h1, iv_eq, iv_eq, iv_eq]
      rfl
    have HF := Lib.hid hfin
    clear hc hfin ht hv
    generalize hgx : iv (f (p / 9)) = x at *
    generalize hgy : iv (10 ^ (p % 9)) = y at *
    have HGX := Lib.hid hgx
    have HGY := Lib.hid hgy
    clear hgx hgy
    go_enter Tryd.func40, Tryd.ntmps40
    go_wp2
    go_quiet (fail)
    go_wp2
    go_ret
    exact ⟨by rw [← HF.out]; rfl, Qt.n1 _ _⟩
  · have hpi : (n : Int) ≤ (p : Int) / 9 := by omega
    rw [digit_zero hv.1 (by omega), iv_zero]
    go_enter Tryd.func40, Tryd.ntmps40
    go_wp2
    go_ret
    exact ⟨rfl, Qt.refl _⟩

end Go.Proofs.YtoonhjeiommhcaaDoor

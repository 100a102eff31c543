/- The contract of the product of two numbers of one limb, and of trim. Conditions as premises: the lists read. -/
import Derived.Test.YtmcacofpnnaplaaGreatDoorLit
import Derived.StillTailTactics
import Derived.Deep.RegionHeld3
namespace Go.Proofs.YtmcacofpnnaplaaGreatDoor
open Go.RowKit

set_option maxHeartbeats 800000 in
set_option maxRecDepth 100000 in
theorem product11_any (A A' : Option Addr) (c c' : Nat) (f g : Nat → Nat) (w : World) (hA : Rs w w.heap.size A 1 c f) (hB : Rs w w.heap.size A' 1 c' g) (hf : f 0 < LB) (hg : g 0 < LB) :
    Calls Tryz.prog 161 #[.slice A 1 c, .slice A' 1 c'] w fun e w' => ∃ v, e = .returned v ∧ Made w (f 0 * g 0) v w' := by
  obtain ⟨b, off, rfl, hb, hc⟩ := hA.cell (by omega)
  obtain ⟨b', off', rfl, hb', hc'⟩ := hB.cell (by omega)
  have h0 := hc 0 (by omega)
  have h0' := hc' 0 (by omega)
  rw [Nat.add_zero] at h0 h0'
  have hlt : f 0 * g 0 < LB * LB := Nat.mul_lt_mul'' hf hg
  have hp0 : 0 ≤ iv (f 0) * iv (g 0) := by rw [iv_eq, iv_eq]; omega
  have hp1 : iv (f 0) * iv (g 0) < 1000000000000000000 := by
    rw [iv_eq, iv_eq, ← Int.natCast_mul]
    have : LB * LB = 1000000000000000000 := by rw [LB_eq]
    omega
  have hx0 := iv_nonneg (f 0)
  have hx1 := iv_limb hf
  have hy0 := iv_nonneg (g 0)
  have hy1 := iv_limb hg
  have hpe : (iv (f 0) * iv (g 0)).toNat = f 0 * g 0 := by rw [iv_eq, iv_eq, ← Int.natCast_mul]; omega
  have HPE := Lib.hid hpe
  have HBIG : Big (iv (f 0) * iv (g 0) < 18446744073709551616) := Big.mk (by omega)
  generalize iv (f 0) = x at *
  generalize iv (g 0) = y at *
  clear hc hc' hpe hlt
  go_enter Tryz.func161, Tryz.ntmps161
  go_wp2_with fail
  go_still_tail 9, (by kernel_rfl)
  change wpList _ _ _ _ _ w.drew
  go_wp2_with fail
  refine (fromWord_any _ hp0 HBIG _).mono ?_
  rintro e w' ⟨v, rfl, hm⟩
  rw [HPE.out] at hm
  obtain ⟨A2, n2, c2, f2, rfl, hr2, hd2, hbel⟩ := hm
  have HD := Lib.hid hd2
  clear hd2
  go_wp2_with fail
  go_ret
  exact ⟨_, rfl, A2, n2, c2, f2, rfl, hr2, HD.out, (Below.refl _ _).drew.trans hbel⟩

end Go.Proofs.YtmcacofpnnaplaaGreatDoor

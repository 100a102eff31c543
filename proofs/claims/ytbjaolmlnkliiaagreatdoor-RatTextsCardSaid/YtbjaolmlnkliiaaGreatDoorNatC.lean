/- The contracts of the functions under the laws of package rat: MulA, Trim, joined into one file. -/
import Derived.Test.YtbjaolmlnkliiaaGreatDoorNatB
import Derived.StillTailTactics
import Derived.Deep.RegionHeld3
/- The contract of the product of two numbers of one limb, and of trim. Conditions as premises: the lists read. -/
namespace Go.Proofs.YtbjaolmlnkliiaaGreatDoor
open Go.RowKit

set_option maxHeartbeats 800000 in
set_option maxRecDepth 100000 in
theorem product11_any (A A' : Option Addr) (c c' : Nat) (f g : Nat → Nat) (w : World) (hA : Rs w w.heap.size A 1 c f) (hB : Rs w w.heap.size A' 1 c' g) (hf : f 0 < LB) (hg : g 0 < LB) :
    Calls Tryz.prog 231 #[.slice A 1 c, .slice A' 1 c'] w fun e w' => ∃ v, e = .returned v ∧ Made w (f 0 * g 0) v w' := by
  obtain ⟨b, off, rfl, hb, hc⟩ := hA.cell (by omega)
  obtain ⟨b', off', rfl, hb', hc'⟩ := hB.cell (by omega)
  have h0 := hc 0 (by omega)
  have h0' := hc' 0 (by omega)
  rw [Nat.add_zero] at h0 h0'
  have hlt : f 0 * g 0 < LB * LB := Nat.mul_lt_mul'' hf hg
  have hp0 : 0 ≤ iv (f 0) * iv (g 0) := by rw [iv_eq, iv_eq]; omega
  have hp1 : iv (f 0) * iv (g 0) < 1000000000000000000 := by
    rw [iv_eq, iv_eq, ← Int.natCast_mul]
    have : LB * LB = 1000000000000000000 := by rw [LB_eq]
    omega
  have hx0 := iv_nonneg (f 0)
  have hx1 := iv_limb hf
  have hy0 := iv_nonneg (g 0)
  have hy1 := iv_limb hg
  have hpe : (iv (f 0) * iv (g 0)).toNat = f 0 * g 0 := by rw [iv_eq, iv_eq, ← Int.natCast_mul]; omega
  have HPE := Lib.hid hpe
  have HBIG : Big (iv (f 0) * iv (g 0) < 18446744073709551616) := Big.mk (by omega)
  generalize iv (f 0) = x at *
  generalize iv (g 0) = y at *
  clear hc hc' hpe hlt
  go_enter Tryz.func231, Tryz.ntmps231
  go_wp2_with fail
  go_still_tail 9, (by kernel_rfl)
  change wpList _ _ _ _ _ w.drew
  go_wp2_with fail
  refine (fromWord_any _ hp0 HBIG _).mono ?_
  rintro e w' ⟨v, rfl, hm⟩
  rw [HPE.out] at hm
  obtain ⟨A2, n2, c2, f2, rfl, hr2, hd2, hbel⟩ := hm
  have HD := Lib.hid hd2
  clear hd2
  go_wp2_with fail
  go_ret
  exact ⟨_, rfl, A2, n2, c2, f2, rfl, hr2, HD.out, (Below.refl _ _).drew.trans hbel⟩

end Go.Proofs.YtbjaolmlnkliiaaGreatDoor

/- The contracts of the two functions that take the zeros off the high end of a list, and of fit. Conditions as premises: the list reads. -/
namespace Go.Proofs.YtbjaolmlnkliiaaGreatDoor
open Go.RowKit

/-- the first m of the n limbs of f are all that is not 0 on top -/
structure Trim (n : Nat) (f : Nat → Nat) (m : Nat) : Prop where
  le : m ≤ n
  zero : ∀ j, m ≤ j → j < n → f j = 0
  top : 0 < m → f (m - 1) ≠ 0

theorem nv_zeros (f : Nat → Nat) (m : Nat) : ∀ n, m ≤ n → (∀ j, m ≤ j → j < n → f j = 0) → nv f n = nv f m
  | 0, h, _ => by rw [show m = 0 by omega]
  | n + 1, h, hz => by
    by_cases e : m = n + 1
    · rw [e]
    · rw [nv, hz n (by omega) (by omega), Nat.zero_mul, Nat.add_zero]
      exact nv_zeros f m n (by omega) fun j a b => hz j a (by omega)

theorem Trim.dig {n m N : Nat} {f : Nat → Nat} (h : Trim n f m) (hb : ∀ j, j < n → f j < LB) (e : nv f n = N) : Dig m f N :=
  ⟨⟨fun j hj => hb j (by have := h.le; omega), h.top⟩, by rw [← e]; exact (nv_zeros f m n h.le h.zero).symm⟩

theorem Rs.take {w : World} {B n c m : Nat} {A : Option Addr} {f : Nat → Nat} (h : Rs w B A n c f) (hm : m ≤ n) : Rs w B A m c f :=
  ⟨by have := h.cap; omega, h.max, fun j hj => h.bd j (by omega), fun h0 => by
    obtain ⟨b, off, e, hb, hc⟩ := h.cell (by omega)
    exact ⟨b, off, e, hb, fun j hj => hc j (by omega)⟩⟩

/-- the length of a slice's value -/
def lenV : Value → Nat | .slice _ n _ => n | _ => 0

/-- what trimming leaves -/
def Trimd (w : World) (B n : Nat) (f : Nat → Nat) (v : Value) : Prop := ∃ A m c, v = .slice A m c ∧ Rs w B A m c f ∧ Trim n f m

set_option maxHeartbeats 800000 in
set_option maxRecDepth 100000 in
theorem trim_any (A : Option Addr) (n c : Nat) (f : Nat → Nat) (B : Nat) (w : World) (h : Rs w B A n c f) :
    Calls Tryz.prog 202 #[.slice A n c] w fun e w' => (∃ v, e = .returned v ∧ Trimd w B n f v) ∧ w = w' := by
  have hmax : n ≤ 9223372036854775807 := Nat.le_trans h.cap h.max
  have HM := Big.mk hmax
  clear hmax
  have hmax : (n : Int) ≤ 9223372036854775807 := by have := HM.out; omega
  go_enter Tryz.func202, Tryz.ntmps202
  go_wp2
  go_loop [3] (fun t => ∃ k : Nat, k ≤ n ∧ t = .int .i64 k ∧ Hid (∀ j, k ≤ j → j < n → f j = 0)) (fun t => (intOf t).toNat)
  case atStart => exact ⟨n, Nat.le_refl _, rfl, fun j a b => by omega⟩
  case round =>
    obtain ⟨k, hk, rfl, hz⟩ := hrel
    by_cases hk0 : k = 0
    · subst hk0
      go_wp2
      go_ret
      exact ⟨⟨_, rfl, none, 0, 0, rfl, Rs.nil _ _ _, by omega, hz, fun h => by omega⟩, rfl⟩
    · have hkp : 0 < k := by omega
      have hb0 : ((k : Int) == 0) = false := by rw [beq_eq_false_iff_ne]; omega
      obtain ⟨b, off, rfl, hb, hc⟩ := h.cell (by omega)
      have hck := hc (k - 1) (by omega)
      have hcap : k ≤ c := by have := h.cap; omega
      clear hc hk0
      by_cases hf : f (k - 1) = 0
      · rw [hf, iv_zero] at hck
        have HF := Lib.hid hf
        clear hf
        go_wp2
        go_round
        case rel => exact ⟨k - 1, by omega, by go_num, fun j a b => by
          by_cases e : j = k - 1
          · subst e; exact HF.out
          · exact hz j (by omega) b⟩
        case measure => simp [intOf] <;> omega
      · have hfb : (iv (f (k - 1)) == 0) = false := by rw [beq_eq_false_iff_ne]; intro e; apply hf; rw [iv_eq] at e; omega
        have HF := Lib.hid hf
        clear hf
        generalize iv (f (k - 1)) = x at *
        go_wp2
        go_ret
        exact ⟨⟨_, rfl, _, k, c, rfl, h.take hk, hk, hz, fun _ => HF.out⟩, rfl⟩

set_option maxHeartbeats 800000 in
set_option maxRecDepth 100000 in
theorem refTrim_any (A : Option Addr) (n c : Nat) (f : Nat → Nat) (B : Nat) (w : World) (h : Rs w B A n c f) :
    Calls Tryz.prog 162 #[.slice A n c] w fun e w' => (∃ v, e = .returned v ∧ Trimd w B n f v) ∧ w = w' := by
  have hmax : n ≤ 9223372036854775807 := Nat.le_trans h.cap h.max
  have HM := Big.mk hmax
  clear hmax
  have hmax : (n : Int) ≤ 9223372036854775807 := by have := HM.out; omega
  go_enter Tryz.func162, Tryz.ntmps162
  go_wp2
  go_loop [0] (fun s => ∃ k : Nat, k ≤ n ∧ s = .slice A k c ∧ Hid (∀ j, k ≤ j → j < n → f j = 0)) (fun s => lenV s)
  case atStart => exact ⟨n, Nat.le_refl _, rfl, fun j a b => by omega⟩
  case round =>
    obtain ⟨k, hk, rfl, hz⟩ := hrel
    by_cases hk0 : k = 0
    · subst hk0
      go_wp2
      go_ret
      exact ⟨⟨_, rfl, A, 0, c, rfl, h.take (by omega), by omega, hz, fun h => by omega⟩, rfl⟩
    · have hkp : 0 < k := by omega
      have hkp' : (0 : Int) < (k : Int) := by omega
      obtain ⟨b, off, rfl, hb, hc⟩ := h.cell (by omega)
      have hck := hc (k - 1) (by omega)
      have hcap : k ≤ c := by have := h.cap; omega
      clear hc hk0
      by_cases hf : f (k - 1) = 0
      · rw [hf, iv_zero] at hck
        have HF := Lib.hid hf
        clear hf
        go_wp2
        go_round
        case rel => exact ⟨k - 1, by omega, by go_num, fun j a b => by
          by_cases e : j = k - 1
          · subst e; exact HF.out
          · exact hz j (by omega) b⟩
        case measure => simp [lenV] <;> omega
      · have hfb : (iv (f (k - 1)) == 0) = false := by rw [beq_eq_false_iff_ne]; intro e; apply hf; rw [iv_eq] at e; omega
        have HF := Lib.hid hf
        clear hf
        generalize iv (f (k - 1)) = x at *
        go_wp2
        go_ret
        exact ⟨⟨_, rfl, _, k, c, rfl, h.take hk, hk, hz, fun _ => HF.out⟩, rfl⟩

end Go.Proofs.YtbjaolmlnkliiaaGreatDoor

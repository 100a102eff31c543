/- Slices of literal limbs, and the contract of toWord. Conditions as premises: the list reads, and its number fits a word. -/
import Derived.Test.YtmcacofpnnaplaaGreatDoorGen
namespace Go.Proofs.YtmcacofpnnaplaaGreatDoor
open Go.RowKit

def l1 (a : Nat) : Nat → Nat := fun _ => a
def l2 (a b : Nat) : Nat → Nat := fun j => if j = 0 then a else b
def l3 (a b c : Nat) : Nat → Nat := fun j => if j = 0 then a else if j = 1 then b else c

theorem rs_l1 (w : World) (a : Nat) (ha : a < 4294967296) : Rs (w.alloc (.cells #[.int .u32 (iv a)] 48)) (w.heap.size + 1) (some ⟨w.heap.size, 0, none⟩) 1 1 (l1 a) :=
  ⟨Nat.le_refl _, by omega, fun j _ => ha, fun _ => ⟨w.heap.size, 0, rfl, by omega, fun j hj => by
    obtain rfl : j = 0 := by omega
    rw [World.cell?_alloc_at _ _ _ _ rfl]; rfl⟩⟩
theorem rs_l2 (w : World) (a b : Nat) (ha : a < 4294967296) (hb : b < 4294967296) : Rs (w.alloc (.cells #[.int .u32 (iv a), .int .u32 (iv b)] 48)) (w.heap.size + 1) (some ⟨w.heap.size, 0, none⟩) 2 2 (l2 a b) :=
  ⟨Nat.le_refl _, by omega, fun j _ => by unfold l2; split <;> assumption, fun _ => ⟨w.heap.size, 0, rfl, by omega, fun j hj => by
    rw [World.cell?_alloc_at _ _ _ _ rfl]
    rcases j with _ | _ | j
    · rfl
    · rfl
    · omega⟩⟩
theorem rs_l3 (w : World) (a b c : Nat) (ha : a < 4294967296) (hb : b < 4294967296) (hc : c < 4294967296) : Rs (w.alloc (.cells #[.int .u32 (iv a), .int .u32 (iv b), .int .u32 (iv c)] 48)) (w.heap.size + 1) (some ⟨w.heap.size, 0, none⟩) 3 3 (l3 a b c) :=
  ⟨Nat.le_refl _, by omega, fun j _ => by unfold l3; split; assumption; split <;> assumption, fun _ => ⟨w.heap.size, 0, rfl, by omega, fun j hj => by
    rw [World.cell?_alloc_at _ _ _ _ rfl]
    rcases j with _ | _ | _ | j
    · rfl
    · rfl
    · rfl
    · omega⟩⟩

/-- the number of the limbs from place k on -/
def hi (f : Nat → Nat) (n k : Nat) : Nat := nv (fun i => f (i + k)) (n - k)
theorem hi_step (f : Nat → Nat) (n k : Nat) (h : k < n) : hi f n k = hi f n (k + 1) * LB + f k := by
  unfold hi
  rw [show n - k = (n - (k + 1)) + 1 by omega, nv_low]
  simp only [Nat.zero_add]
  rw [Nat.mul_comm, Nat.add_comm]
  congr 2
  exact nv_congr _ fun j _ => by rw [show j + 1 + k = j + (k + 1) by omega]
theorem hi_zero (f : Nat → Nat) (n : Nat) : hi f n 0 = nv f n := by unfold hi; simp
theorem hi_top (f : Nat → Nat) (n : Nat) : hi f n n = 0 := by unfold hi; simp [nv]
theorem hi_le (f : Nat → Nat) (n : Nat) : ∀ k, k ≤ n → hi f n k ≤ nv f n
  | 0, _ => by rw [hi_zero]; exact Nat.le_refl _
  | k + 1, h => by
    have h1 := hi_le f n k (by omega)
    have h2 := hi_step f n k (by omega)
    have h3 : hi f n (k + 1) * 1 ≤ hi f n (k + 1) * LB := Nat.mul_le_mul_left _ LB_pos
    omega

theorem hi_iv (f : Nat → Nat) (n k : Nat) (h : k < n) : iv (hi f n (k + 1)) * 1000000000 + iv (f k) = iv (hi f n k) := by
  rw [hi_step f n k h, iv_eq, iv_eq, iv_eq]
  have := LB_eq
  rw [LB_eq]; omega

set_option maxHeartbeats 800000 in
theorem toWord_any (A : Option Addr) (n c : Nat) (f : Nat → Nat) (B : Nat) (w : World) (h : Rs w B A n c f) (hN : Big (nv f n < 18446744073709551616)) :
    Calls Tryz.prog 155 #[.slice A n c] w fun e w' => e = .returned (.int .u64 (iv (nv f n))) ∧ w = w' := by
  have hmax : n ≤ 9223372036854775807 := Nat.le_trans h.cap h.max
  go_enter Tryz.func155, Tryz.ntmps155
  go_wp2
  go_loop [3, 4] (fun x i => ∃ k : Nat, k ≤ n ∧ i = .int .i64 ((k : Int) - 1) ∧ x = .int .u64 (iv (hi f n k))) (fun _ i => (intOf i + 1).toNat)
  case atStart => exact ⟨n, by omega, rfl, by rw [hi_top, iv_zero]⟩
  case round =>
    obtain ⟨k, hk, rfl, rfl⟩ := hrel
    by_cases hk0 : k = 0
    · subst hk0
      rw [hi_zero]
      go_wp2
      go_ret
      exact ⟨rfl, rfl⟩
    · obtain ⟨q, rfl⟩ : ∃ q, k = q + 1 := ⟨k - 1, by omega⟩
      rw [show (((q + 1 : Nat) : Int) - 1) = (q : Int) by omega]
      obtain ⟨b, off, rfl, hb, hc⟩ := h.cell (by omega)
      have hck := hc q (by omega)
      clear hc
      have hst := Lib.hid (hi_iv f n q (by omega))
      have hb1 : iv (hi f n (q + 1)) * 1000000000 + iv (f q) ≤ 18446744073709551615 := by
        rw [hst.out]; exact iv_u64 (Nat.lt_of_le_of_lt (hi_le f n q (by omega)) hN.out)
      have hx0 := iv_nonneg (hi f n (q + 1))
      have hf0 := iv_nonneg (f q)
      generalize hgx : iv (hi f n (q + 1)) = x at *
      generalize hgy : iv (f q) = y at *
      have HGX := Lib.hid hgx
      have HGY := Lib.hid hgy
      clear hgx hgy
      go_wp2
      go_round
      case rel => exact ⟨q, by omega, rfl, by rw [hst.out]⟩
      case measure => simp [intOf] <;> omega

end Go.Proofs.YtmcacofpnnaplaaGreatDoor

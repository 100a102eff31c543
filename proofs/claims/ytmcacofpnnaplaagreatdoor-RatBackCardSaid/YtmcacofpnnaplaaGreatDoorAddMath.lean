/- Plain numbers: the limbs and carries of a sum, the limbs and borrows of a difference. No conditions. -/
import Derived.Test.YtmcacofpnnaplaaGreatDoorNums
namespace Go.Proofs.YtmcacofpnnaplaaGreatDoor

/-- the carry into place k of a sum -/
def cy (f g : Nat → Nat) : Nat → Nat
  | 0 => 0
  | k + 1 => (f k + g k + cy f g k) / LB
/-- limb k of a sum -/
def sl (f g : Nat → Nat) (k : Nat) : Nat := (f k + g k + cy f g k) % LB

theorem cy_le {f g : Nat → Nat} : ∀ k, (∀ j, j < k → f j < LB ∧ g j < LB) → cy f g k ≤ 1
  | 0, _ => by simp [cy]
  | k + 1, h => by
    have h1 := cy_le k (fun j hj => h j (by omega))
    have h2 := h k (by omega)
    rw [cy]
    have : f k + g k + cy f g k < LB * 2 := by omega
    have := (Nat.div_lt_iff_lt_mul LB_pos).2 (by rw [Nat.mul_comm]; exact this)
    omega

theorem sum_eq (f g : Nat → Nat) : ∀ k, nv (sl f g) k + cy f g k * LB ^ k = nv f k + nv g k
  | 0 => by simp [nv, cy]
  | k + 1 => by
    have ih := sum_eq f g k
    have h : f k + g k + cy f g k = LB * ((f k + g k + cy f g k) / LB) + (f k + g k + cy f g k) % LB := (Nat.div_add_mod _ _).symm
    have h2 := congrArg (· * LB ^ k) h
    simp only [Nat.add_mul] at h2
    rw [nv, nv, nv, cy, sl, Nat.pow_succ, Nat.mul_comm (LB ^ k) LB, ← Nat.mul_assoc, Nat.mul_comm _ LB]
    omega

theorem cy_congr {f g f' g' : Nat → Nat} : ∀ k, (∀ j, j < k → f j = f' j ∧ g j = g' j) → cy f g k = cy f' g' k
  | 0, _ => rfl
  | k + 1, h => by rw [cy, cy, cy_congr k (fun j hj => h j (by omega)), (h k (by omega)).1, (h k (by omega)).2]
theorem sl_congr {f g f' g' : Nat → Nat} {n : Nat} (h : ∀ j, j < n → f j = f' j ∧ g j = g' j) : ∀ k, k < n → sl f g k = sl f' g' k := fun k hk => by
  unfold sl; rw [cy_congr k (fun j hj => h j (by omega)), (h k hk).1, (h k hk).2]
theorem sl_lt (f g : Nat → Nat) (k : Nat) : sl f g k < LB := Nat.mod_lt _ LB_pos

/-- the borrow out of place k of a difference -/
def bw (f g : Nat → Nat) : Nat → Nat
  | 0 => 0
  | k + 1 => if f k < g k + bw f g k then 1 else 0
/-- limb k of a difference -/
def dl (f g : Nat → Nat) (k : Nat) : Nat := if f k < g k + bw f g k then f k + LB - (g k + bw f g k) else f k - (g k + bw f g k)

theorem bw_le (f g : Nat → Nat) : ∀ k, bw f g k ≤ 1
  | 0 => by simp [bw]
  | k + 1 => by rw [bw]; split <;> omega
theorem dl_lt {f g : Nat → Nat} {k : Nat} (hf : f k < LB) (hg : g k < LB) : dl f g k < LB := by
  have := bw_le f g k
  unfold dl; split <;> omega

theorem diff_eq {f g : Nat → Nat} : ∀ k, (∀ j, j < k → f j < LB ∧ g j < LB) → nv (dl f g) k + nv g k = nv f k + bw f g k * LB ^ k
  | 0, _ => by simp [nv, bw]
  | k + 1, h => by
    have ih := diff_eq k (fun j hj => h j (by omega))
    have h2 := h k (by omega)
    have hb := bw_le f g k
    rw [nv, nv, nv, bw, dl, Nat.pow_succ, Nat.mul_comm (LB ^ k) LB]
    by_cases hc : f k < g k + bw f g k
    · rw [if_pos hc, if_pos hc]
      have e : f k + LB - (g k + bw f g k) + (g k + bw f g k) = f k + LB := by omega
      have e2 := congrArg (· * LB ^ k) e
      simp only [Nat.add_mul] at e2
      rw [Nat.one_mul]
      omega
    · rw [if_neg hc, if_neg hc]
      have e : f k - (g k + bw f g k) + (g k + bw f g k) = f k := by omega
      have e2 := congrArg (· * LB ^ k) e
      simp only [Nat.add_mul] at e2
      rw [Nat.zero_mul]
      omega

theorem bw_congr {f g f' g' : Nat → Nat} : ∀ k, (∀ j, j < k → f j = f' j ∧ g j = g' j) → bw f g k = bw f' g' k
  | 0, _ => rfl
  | k + 1, h => by rw [bw, bw, bw_congr k (fun j hj => h j (by omega)), (h k (by omega)).1, (h k (by omega)).2]
theorem dl_congr {f g f' g' : Nat → Nat} {n : Nat} (h : ∀ j, j < n → f j = f' j ∧ g j = g' j) : ∀ k, k < n → dl f g k = dl f' g' k := fun k hk => by
  unfold dl; rw [bw_congr k (fun j hj => h j (by omega)), (h k hk).1, (h k hk).2]

end Go.Proofs.YtmcacofpnnaplaaGreatDoor

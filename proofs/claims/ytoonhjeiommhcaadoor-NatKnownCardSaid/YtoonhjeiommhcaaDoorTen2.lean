/- Plain numbers: decimal digits gathered into limbs. No conditions. -/
import Derived.Test.YtoonhjeiommhcaaDoorTen
namespace Go.Proofs.YtoonhjeiommhcaaDoor

/-- the number that n decimal digits stand for, the lowest first -/
def nt (f : Nat → Nat) : Nat → Nat
  | 0 => 0
  | n + 1 => nt f n + f n * 10 ^ n

theorem nt_congr {f g : Nat → Nat} : ∀ n, (∀ j, j < n → f j = g j) → nt f n = nt g n
  | 0, _ => rfl
  | n + 1, h => by rw [nt, nt, nt_congr n (fun j hj => h j (by omega)), h n (by omega)]

theorem nt_lt {f : Nat → Nat} : ∀ n, (∀ j, j < n → f j < 10) → nt f n < 10 ^ n
  | 0, _ => by simp [nt]
  | n + 1, h => by
    have h1 := nt_lt n (fun j hj => h j (by omega))
    have h2 : f n + 1 ≤ 10 := h n (by omega)
    have h3 : (f n + 1) * 10 ^ n ≤ 10 * 10 ^ n := Nat.mul_le_mul_right _ h2
    rw [nt, Nat.pow_succ, Nat.mul_comm (10 ^ n) 10]
    rw [Nat.add_mul] at h3
    omega

theorem nt_zeros {f : Nat → Nat} : ∀ n, (∀ j, j < n → f j = 0) → nt f n = 0
  | 0, _ => rfl
  | n + 1, h => by rw [nt, nt_zeros n (fun j hj => h j (by omega)), h n (by omega)]; simp

/-- one digit more -/
theorem nt_add {f g : Nat → Nat} {k c : Nat} (hk : f k = g k + c) (ho : ∀ j, j ≠ k → f j = g j) : ∀ n, nt f n = nt g n + (if k < n then c * 10 ^ k else 0)
  | 0 => by simp [nt]
  | n + 1 => by
    rw [nt, nt, nt_add hk ho n]
    by_cases e : k = n
    · subst e
      rw [hk, if_neg (by omega), if_pos (by omega), Nat.add_mul]
      omega
    · rw [ho n (by omega)]
      by_cases e2 : k < n
      · rw [if_pos e2, if_pos (by omega)]; omega
      · rw [if_neg e2, if_neg (by omega), Nat.add_zero, Nat.add_zero]

theorem nt_split (f : Nat → Nat) (a : Nat) : ∀ b, nt f (a + b) = nt f a + nt (fun i => f (a + i)) b * 10 ^ a
  | 0 => by simp [nt]
  | b + 1 => by
    rw [← Nat.add_assoc, nt, nt_split f a b, nt, Nat.add_mul, Nat.pow_add]
    rw [Nat.mul_assoc (f (a + b)), Nat.mul_comm (10 ^ b)]
    omega

/-- limb j of the digits -/
def lim (D : Nat → Nat) (j : Nat) : Nat := nt (fun r => D (9 * j + r)) 9

theorem nv_lim (D : Nat → Nat) : ∀ n, nv (lim D) n = nt D (9 * n)
  | 0 => rfl
  | n + 1 => by
    rw [nv, nv_lim D n, show 9 * (n + 1) = 9 * n + 9 by omega, nt_split, LB_pow]
    rfl

theorem lim_lt {D : Nat → Nat} (h : ∀ p, D p < 10) (j : Nat) : lim D j < LB := by
  unfold lim
  rw [LB_ten]
  exact nt_lt 9 fun r _ => h _

/-- the digits from place t on -/
def from_ (D : Nat → Nat) (t p : Nat) : Nat := if t ≤ p then D p else 0

theorem lim_step (D : Nat → Nat) (t j : Nat) : lim (from_ D t) j = lim (from_ D (t + 1)) j + (if j = t / 9 then D t * 10 ^ (t % 9) else 0) := by
  unfold lim
  by_cases e : j = t / 9
  · rw [if_pos e]
    rw [nt_add (f := fun r => from_ D t (9 * j + r)) (g := fun r => from_ D (t + 1) (9 * j + r)) (k := t % 9) (c := D t) ?_ ?_ 9, if_pos (Nat.mod_lt _ (by omega))]
    · show from_ D t (9 * j + t % 9) = from_ D (t + 1) (9 * j + t % 9) + D t
      rw [show 9 * j + t % 9 = t by omega]
      unfold from_
      rw [if_pos (Nat.le_refl _), if_neg (by omega)]
      omega
    · intro r hr
      show from_ D t (9 * j + r) = from_ D (t + 1) (9 * j + r)
      unfold from_
      by_cases h : t + 1 ≤ 9 * j + r
      · rw [if_pos h, if_pos (by omega)]
      · rw [if_neg h, if_neg (by omega)]
  · rw [if_neg e, Nat.add_zero]
    refine nt_congr 9 fun r hr => ?_
    show from_ D t (9 * j + r) = from_ D (t + 1) (9 * j + r)
    unfold from_
    by_cases h : t + 1 ≤ 9 * j + r
    · rw [if_pos h, if_pos (by omega)]
    · rw [if_neg h, if_neg (by omega)]

theorem from_zero (D : Nat → Nat) (p : Nat) : from_ D 0 p = D p := by unfold from_; rw [if_pos (Nat.zero_le _)]
theorem from_lt {D : Nat → Nat} (h : ∀ p, D p < 10) (t p : Nat) : from_ D t p < 10 := by unfold from_; split; exact h p; omega

/-- the digits above place k within n -/
def hd (f : Nat → Nat) (n k : Nat) : Nat := nt (fun i => f (i + k)) (n - k)
theorem nt_low (f : Nat → Nat) : ∀ n, nt f (n + 1) = f 0 + 10 * nt (fun i => f (i + 1)) n
  | 0 => by simp [nt]
  | n + 1 => by
    rw [nt, nt_low f n, nt, Nat.mul_add, Nat.pow_succ, Nat.add_assoc]
    congr 2
    rw [Nat.mul_comm (10 ^ n) 10, Nat.mul_left_comm]
theorem hd_step (f : Nat → Nat) (n k : Nat) (h : k < n) : hd f n k = hd f n (k + 1) * 10 + f k := by
  unfold hd
  rw [show n - k = (n - (k + 1)) + 1 by omega, nt_low]
  simp only [Nat.zero_add]
  rw [Nat.mul_comm, Nat.add_comm]
  congr 2
  exact nt_congr _ fun j _ => by rw [show j + 1 + k = j + (k + 1) by omega]
theorem hd_zero (f : Nat → Nat) (n : Nat) : hd f n 0 = nt f n := by unfold hd; simp
theorem hd_lt {f : Nat → Nat} (h : ∀ p, f p < 10) (n k : Nat) : hd f n k < 10 ^ (n - k) := by unfold hd; exact nt_lt _ fun j _ => h _
theorem hd_zeros {f : Nat → Nat} {n k : Nat} (h : ∀ p, k ≤ p → p < n → f p = 0) : hd f n k = 0 := by unfold hd; exact nt_zeros _ fun j hj => h _ (by omega) (by omega)

end Go.Proofs.YtoonhjeiommhcaaDoor

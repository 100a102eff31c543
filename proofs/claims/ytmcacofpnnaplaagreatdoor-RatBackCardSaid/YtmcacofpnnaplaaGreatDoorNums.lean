/- Plain numbers: a list of limbs below ten to the ninth, given as a function with a length, is the number that it stands for; two such lists without zeros on top that stand for one number are equal. No conditions. -/
import Derived.WalkKit
namespace Go.Proofs.YtmcacofpnnaplaaGreatDoor

@[irreducible] def LB : Nat := 1000000000
theorem LB_eq : LB = 1000000000 := by unfold LB; rfl
theorem LB_pos : 0 < LB := by rw [LB_eq]; omega

/-- the number that n limbs stand for -/
def nv (f : Nat → Nat) : Nat → Nat
  | 0 => 0
  | n + 1 => nv f n + f n * LB ^ n

theorem nv_congr {f g : Nat → Nat} : ∀ n, (∀ j, j < n → f j = g j) → nv f n = nv g n
  | 0, _ => rfl
  | n + 1, h => by rw [nv, nv, nv_congr n (fun j hj => h j (by omega)), h n (by omega)]

theorem nv_lt {f : Nat → Nat} : ∀ n, (∀ j, j < n → f j < LB) → nv f n < LB ^ n
  | 0, _ => by simp [nv]
  | n + 1, h => by
    have h1 := nv_lt n (fun j hj => h j (by omega))
    have h2 : f n + 1 ≤ LB := h n (by omega)
    have h3 : (f n + 1) * LB ^ n ≤ LB * LB ^ n := Nat.mul_le_mul_right _ h2
    rw [nv, Nat.pow_succ, Nat.mul_comm (LB ^ n) LB]
    rw [Nat.add_mul] at h3
    omega

/-- the lowest limb first -/
theorem nv_low (f : Nat → Nat) : ∀ n, nv f (n + 1) = f 0 + LB * nv (fun i => f (i + 1)) n
  | 0 => by simp [nv]
  | n + 1 => by
    rw [nv, nv_low f n, nv, Nat.mul_add, Nat.pow_succ, Nat.add_assoc]
    congr 2
    rw [Nat.mul_comm (LB ^ n) LB, Nat.mul_left_comm]

/-- a list of limbs as it should be -/
def Val (n : Nat) (f : Nat → Nat) : Prop := (∀ j, j < n → f j < LB) ∧ (0 < n → f (n - 1) ≠ 0)

/-- the valid list of the number N -/
structure Dig (n : Nat) (f : Nat → Nat) (N : Nat) : Prop where
  ok : Val n f
  eq : nv f n = N

theorem Val.top_le {n : Nat} {f : Nat → Nat} (h : Val n f) (hn : 0 < n) : LB ^ (n - 1) ≤ nv f n := by
  obtain ⟨m, rfl⟩ : ∃ m, n = m + 1 := ⟨n - 1, by omega⟩
  have h1 := h.2 hn
  simp only [Nat.add_sub_cancel] at h1 ⊢
  rw [nv]
  have : 1 * LB ^ m ≤ f m * LB ^ m := Nat.mul_le_mul_right _ (by omega)
  omega

theorem Val.lt {n : Nat} {f : Nat → Nat} (h : Val n f) : nv f n < LB ^ n := nv_lt n h.1

theorem Val.pos {n : Nat} {f : Nat → Nat} (h : Val n f) (hn : 0 < n) : 0 < nv f n :=
  Nat.lt_of_lt_of_le (Nat.pow_pos LB_pos) (h.top_le hn)

theorem Val.zero_iff {n : Nat} {f : Nat → Nat} (h : Val n f) : nv f n = 0 ↔ n = 0 := by
  constructor
  · intro e
    rcases Nat.eq_zero_or_pos n with h0 | h0
    · exact h0
    · have := h.pos h0; omega
  · rintro rfl; rfl

theorem pow_le_of {a b : Nat} (h : a ≤ b) : LB ^ a ≤ LB ^ b := Nat.pow_le_pow_right LB_pos h

/-- the shorter valid list is the lesser number -/
theorem Val.lt_of_len {n m : Nat} {f g : Nat → Nat} (hf : Val n f) (hg : Val m g) (h : n < m) : nv f n < nv g m := by
  have h1 := hf.lt
  have h2 := hg.top_le (by omega)
  have h3 : LB ^ n ≤ LB ^ (m - 1) := pow_le_of (by omega)
  omega

/-- the highest limbs in which two lists differ decide -/
theorem nv_lt_at {f g : Nat → Nat} : ∀ n k, k < n → (∀ j, j < n → f j < LB) → (∀ j, k < j → j < n → f j = g j) → f k < g k → nv f n < nv g n
  | 0, k, hk, _, _, _ => by omega
  | n + 1, k, hk, hb, he, hl => by
    rw [nv, nv]
    by_cases h : k = n
    · subst h
      have h1 := nv_lt k (fun j hj => hb j (by omega))
      have h2 : (f k + 1) * LB ^ k ≤ g k * LB ^ k := Nat.mul_le_mul_right _ hl
      rw [Nat.add_mul] at h2
      omega
    · have h1 := nv_lt_at n k (by omega) (fun j hj => hb j (by omega)) (fun j h1 h2 => he j h1 (by omega)) hl
      have h2 := he n (by omega) (by omega)
      rw [h2]
      omega

theorem Dig.unique {n m : Nat} {f g : Nat → Nat} {N : Nat} (hf : Dig n f N) (hg : Dig m g N) : n = m ∧ ∀ j, j < n → f j = g j := by
  have hnm : n = m := by
    rcases Nat.lt_trichotomy n m with h | h | h
    · have := hf.ok.lt_of_len hg.ok h; rw [hf.eq, hg.eq] at this; omega
    · exact h
    · have := hg.ok.lt_of_len hf.ok h; rw [hf.eq, hg.eq] at this; omega
  subst hnm
  refine ⟨rfl, ?_⟩
  have key : ∀ k, k ≤ n → ∀ j, n - k ≤ j → j < n → f j = g j := by
    intro k
    induction k with
    | zero => intro _ j h1 h2; omega
    | succ k ih =>
      intro hk j h1 h2
      have hi := ih (by omega)
      by_cases hj : n - k ≤ j
      · exact hi j hj h2
      · have hj' : j = n - (k + 1) := by omega
        rcases Nat.lt_trichotomy (f j) (g j) with h | h | h
        · have := nv_lt_at n j h2 hf.ok.1 (fun i a b => hi i (by omega) b) h
          rw [hf.eq, hg.eq] at this; omega
        · exact h
        · have := nv_lt_at n j h2 hg.ok.1 (fun i a b => (hi i (by omega) b).symm) h
          rw [hf.eq, hg.eq] at this; omega
  intro j hj
  exact key n (Nat.le_refl _) j (by omega) hj

/-- the digits of a number in the base LB -/
def dig (N j : Nat) : Nat := N / LB ^ j % LB

theorem dig_lt (N j : Nat) : dig N j < LB := Nat.mod_lt _ LB_pos

theorem nv_dig (N : Nat) : ∀ n, nv (dig N) n = N % LB ^ n
  | 0 => by simp [nv, Nat.mod_one]
  | n + 1 => by
    rw [nv, nv_dig N n, dig, Nat.pow_succ, Nat.mod_mul]
    rw [Nat.mul_comm (LB ^ n)]

/-- how many limbs N has: the round at which nothing is left -/
theorem dig_of_rounds {N k : Nat} (h0 : N / LB ^ k = 0) (hk : ∀ j, j < k → N / LB ^ j ≠ 0) : Dig k (dig N) N := by
  have hlt : N < LB ^ k := by
    rcases Nat.lt_or_ge N (LB ^ k) with h | h
    · exact h
    · exact absurd h0 (Nat.ne_of_gt (Nat.div_pos h (Nat.pow_pos LB_pos)))
  refine ⟨⟨fun j _ => dig_lt N j, fun hp => ?_⟩, ?_⟩
  · have h1 := hk (k - 1) (by omega)
    unfold dig
    have h2 : N / LB ^ (k - 1) < LB := by
      rw [Nat.div_lt_iff_lt_mul (Nat.pow_pos LB_pos), Nat.mul_comm, ← Nat.pow_succ]
      rwa [show (k - 1).succ = k by omega]
    rw [Nat.mod_eq_of_lt h2]
    exact h1
  · rw [nv_dig, Nat.mod_eq_of_lt hlt]

end Go.Proofs.YtmcacofpnnaplaaGreatDoor

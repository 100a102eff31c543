/- Plain numbers: decimal digits. No conditions. -/
import Derived.Test.YtoonhjeiommhcaaDoorNums
namespace Go.Proofs.YtoonhjeiommhcaaDoor

theorem LB_ten : LB = 10 ^ 9 := by rw [LB_eq]
theorem LB_pow (k : Nat) : LB ^ k = 10 ^ (9 * k) := by rw [LB_ten, ← Nat.pow_mul]
theorem ten_le {a b : Nat} (h : a ≤ b) : 10 ^ a ≤ 10 ^ b := Nat.pow_le_pow_right (by omega) h
theorem ten_pos (a : Nat) : 0 < 10 ^ a := Nat.pow_pos (by omega)

/-- N has L decimal digits -/
structure IsLen (N L : Nat) : Prop where
  pos : 1 ≤ L
  lt : N < 10 ^ L
  ge : 1 < L → 10 ^ (L - 1) ≤ N

theorem IsLen.unique {N L M : Nat} (h : IsLen N L) (k : IsLen N M) : L = M := by
  rcases Nat.lt_trichotomy L M with e | e | e
  · have h1 := k.ge (by have := h.pos; omega)
    have h2 : 10 ^ L ≤ 10 ^ (M - 1) := ten_le (by omega)
    have := h.lt
    omega
  · exact e
  · have h1 := h.ge (by have := k.pos; omega)
    have h2 : 10 ^ M ≤ 10 ^ (L - 1) := ten_le (by omega)
    have := k.lt
    omega

/-- how many of the first k powers of ten are not above t -/
def cnt (t : Nat) : Nat → Nat
  | 0 => 0
  | k + 1 => cnt t k + (if 10 ^ k ≤ t then 1 else 0)

theorem cnt_le (t : Nat) : ∀ k, cnt t k ≤ k
  | 0 => Nat.le_refl _
  | k + 1 => by have := cnt_le t k; rw [cnt]; split <;> omega

theorem cnt_spec (t : Nat) (h : 1 ≤ t) : ∀ k, (cnt t k = k ∧ (1 ≤ k → 10 ^ (k - 1) ≤ t)) ∨ (1 ≤ cnt t k ∧ 10 ^ (cnt t k - 1) ≤ t ∧ t < 10 ^ cnt t k ∧ cnt t k ≤ k)
  | 0 => .inl ⟨rfl, fun h => by omega⟩
  | k + 1 => by
    rcases cnt_spec t h k with ⟨e, h1⟩ | ⟨h1, h2, h3, h4⟩
    · by_cases hk : 10 ^ k ≤ t
      · left
        rw [cnt, if_pos hk, e]
        exact ⟨rfl, fun _ => hk⟩
      · right
        rw [cnt, if_neg hk, e, Nat.add_zero]
        have hk1 : 1 ≤ k := by
          rcases Nat.eq_zero_or_pos k with h0 | h0
          · subst h0; simp at hk; omega
          · exact h0
        exact ⟨hk1, h1 hk1, by omega, by omega⟩
    · right
      have : ¬ 10 ^ k ≤ t := by
        have := ten_le h4
        omega
      rw [cnt, if_neg this, Nat.add_zero]
      exact ⟨h1, h2, h3, by omega⟩

theorem cnt_nine {t : Nat} (h : 1 ≤ t) (hl : t < LB) : 1 ≤ cnt t 9 ∧ cnt t 9 ≤ 9 ∧ 10 ^ (cnt t 9 - 1) ≤ t ∧ t < 10 ^ cnt t 9 := by
  rcases cnt_spec t h 9 with ⟨e, h1⟩ | ⟨h1, h2, h3, h4⟩
  · rw [e]; exact ⟨by omega, by omega, h1 (by omega), by rw [← LB_ten]; exact hl⟩
  · exact ⟨h1, h4, h2, h3⟩

/-- the number of digits of a valid list -/
theorem len_of_val {n : Nat} {f : Nat → Nat} (h : Val n f) (hn : 0 < n) : IsLen (nv f n) (9 * (n - 1) + cnt (f (n - 1)) 9) := by
  obtain ⟨m, rfl⟩ : ∃ m, n = m + 1 := ⟨n - 1, by omega⟩
  simp only [Nat.add_sub_cancel]
  have ht := h.2 hn
  simp only [Nat.add_sub_cancel] at ht
  obtain ⟨h1, h2, h3, h4⟩ := cnt_nine (t := f m) (by omega) (h.1 m (by omega))
  have hl := nv_lt m (fun j hj => h.1 j (by omega))
  have hp : LB ^ m = 10 ^ (9 * m) := LB_pow m
  refine ⟨by omega, ?_, fun _ => ?_⟩
  · rw [nv, Nat.pow_add, ← hp]
    have : (f m + 1) * LB ^ m ≤ 10 ^ cnt (f m) 9 * LB ^ m := Nat.mul_le_mul_right _ h4
    rw [Nat.add_mul] at this
    rw [Nat.mul_comm (LB ^ m)]
    omega
  · rw [nv, show 9 * m + cnt (f m) 9 - 1 = 9 * m + (cnt (f m) 9 - 1) by omega, Nat.pow_add, ← hp]
    have : 10 ^ (cnt (f m) 9 - 1) * LB ^ m ≤ f m * LB ^ m := Nat.mul_le_mul_right _ h3
    rw [Nat.mul_comm (LB ^ m)]
    omega

theorem len_zero : IsLen 0 1 := ⟨Nat.le_refl _, by omega, fun h => by omega⟩

/-- a limb of a list is what the number says -/
theorem limb_of_nv {n i : Nat} {f : Nat → Nat} (h : ∀ j, j < n → f j < LB) (hi : i < n) : nv f n / LB ^ i % LB = f i := by
  have key : ∀ m, i ≤ m → m ≤ n → nv f m / LB ^ i = nv (fun j => f (j + i)) (m - i) := by
    intro m
    induction m with
    | zero =>
      intro h1 h2
      obtain rfl : i = 0 := by omega
      simp [nv]
    | succ m ih =>
      intro h1 h2
      by_cases e : i = m + 1
      · subst e
        rw [Nat.sub_self, Nat.div_eq_of_lt (nv_lt (m + 1) (fun j hj => h j (by omega)))]
        rfl
      · have := ih (by omega) (by omega)
        rw [nv, show m + 1 - i = (m - i) + 1 by omega, nv, ← this, show m - i + i = m by omega]
        have e2 : LB ^ m = LB ^ (m - i) * LB ^ i := by rw [← Nat.pow_add]; congr 1; omega
        rw [e2, ← Nat.mul_assoc, Nat.add_mul_div_right _ _ (Nat.pow_pos LB_pos)]
  rw [key n (by omega) (Nat.le_refl _), show n - i = (n - i - 1) + 1 by omega, nv_low]
  simp only [Nat.zero_add]
  rw [Nat.add_mul_mod_self_left, Nat.mod_eq_of_lt (h i hi)]

/-- a decimal digit of a list is one of its limb -/
theorem digit_of_limb {n i k : Nat} {f : Nat → Nat} (h : ∀ j, j < n → f j < LB) (hi : i < n) (hk : k < 9) : f i / 10 ^ k % 10 = nv f n / 10 ^ (9 * i + k) % 10 := by
  rw [← limb_of_nv h hi, Nat.pow_add, ← Nat.div_div_eq_div_mul, ← LB_pow]
  generalize nv f n / LB ^ i = M
  rw [show LB = 10 ^ k * 10 ^ (9 - k) by rw [← Nat.pow_add, LB_ten]; congr 1; omega, Nat.mod_mul_right_div_self]
  rw [show 9 - k = (9 - k - 1) + 1 by omega, Nat.pow_succ, Nat.mod_mul_left_mod]

end Go.Proofs.YtoonhjeiommhcaaDoor

/- Plain numbers: long division in limbs. No conditions. -/
import Derived.Test.YtmcacofpnnaplaaGreatDoorProdMath
import Derived.Test.YtmcacofpnnaplaaGreatDoorLit
namespace Go.Proofs.YtmcacofpnnaplaaGreatDoor

/-- the two highest limbs apart -/
theorem nv_top2 (f : Nat → Nat) (s : Nat) : nv f (s + 2) = (f (s + 1) * LB + f s) * LB ^ s + nv f s := by
  rw [nv, nv, Nat.pow_succ, Nat.add_mul, Nat.mul_assoc (f (s + 1)) LB, Nat.mul_comm LB (LB ^ s)]; omega
theorem nv_top3 (f : Nat → Nat) (s : Nat) : nv f (s + 3) = ((f (s + 2) * LB + f (s + 1)) * LB + f s) * LB ^ s + nv f s := by
  rw [nv, nv_top2]
  simp only [Nat.add_mul, Nat.pow_succ]
  ac_rfl

section
variable {P D U v1 v2 u2 B K q : Nat}
/-- a guess that fails the test is too great -/
theorem guess_down {L R : Nat} (hP : P < (U * B + u2 + 1) * K) (hD : (v1 * B + v2) * K ≤ D) (e : L * v1 + R = U) (h : R * B + u2 < L * v2) (hq : q * D ≤ P) : q < L := by
  rcases Nat.lt_or_ge q L with h1 | h1
  · exact h1
  · exfalso
    have h2 : L * D ≤ q * D := Nat.mul_le_mul_right _ h1
    have h3 : L * ((v1 * B + v2) * K) ≤ L * D := Nat.mul_le_mul_left _ hD
    rw [← Nat.mul_assoc] at h3
    have h4 : L * (v1 * B + v2) * K < (U * B + u2 + 1) * K := by omega
    have h5 : L * (v1 * B + v2) < U * B + u2 + 1 := Nat.lt_of_mul_lt_mul_right h4
    rw [Nat.mul_add, ← Nat.mul_assoc, ← e, Nat.add_mul] at h5
    omega
/-- a guess that passes the test is at most 1 too great -/
theorem guess_ok {L R D' : Nat} (hP : (U * B + u2) * K ≤ P) (hD : D = (v1 * B + v2) * K + D') (hD' : D' < K) (hv : 1 ≤ v1) (e : L * v1 + R = U) (h : L * v2 ≤ R * B + u2) (hL : L < B) : (L - 1) * D ≤ P := by
  rcases Nat.eq_zero_or_pos L with h0 | h0
  · subst h0; simp
  · have h1 : L * (v1 * B + v2) ≤ U * B + u2 := by rw [Nat.mul_add, ← Nat.mul_assoc, ← e, Nat.add_mul]; omega
    have h2 : L * (v1 * B + v2) * K ≤ P := Nat.le_trans (Nat.mul_le_mul_right _ h1) hP
    have h3 : L * D' ≤ B * K := Nat.mul_le_mul (Nat.le_of_lt hL) (Nat.le_of_lt hD')
    have h4 : B * K ≤ v1 * B * K := by
      have := Nat.mul_le_mul_right (B * K) hv
      rw [Nat.one_mul, ← Nat.mul_assoc] at this
      exact this
    have h5 : L * D = L * (v1 * B + v2) * K + L * D' := by rw [hD, Nat.mul_add, Nat.mul_assoc]
    have h6 : (L - 1) * D + D = L * D := by
      have h7 : L - 1 + 1 = L := by omega
      have := congrArg (· * D) h7
      simp only [Nat.add_mul, Nat.one_mul] at this
      exact this
    have h8 : v1 * B * K ≤ D := by rw [hD, Nat.add_mul]; omega
    omega
/-- a rest that is too great makes the guess right -/
theorem guess_far {L R D' : Nat} (hP : (U * B + u2) * K ≤ P) (hD : D = (v1 * B + v2) * K + D') (hD' : D' < K) (hv2 : v2 < B) (e : L * v1 + R = U) (hR : B ≤ R) (hL : L ≤ B) : L * D ≤ P := by
  have h1 : D ≤ (v1 + 1) * B * K := by
    have h2 : v2 * K + D' ≤ B * K := by
      have := Nat.mul_le_mul_right K (show v2 + 1 ≤ B from hv2)
      rw [Nat.add_mul, Nat.one_mul] at this; omega
    rw [hD, Nat.add_mul, Nat.add_mul, Nat.add_mul, Nat.one_mul]; omega
  have h3 : L * D ≤ L * ((v1 + 1) * B * K) := Nat.mul_le_mul_left _ h1
  have h4 : L * ((v1 + 1) * B * K) = (L * v1 + L) * B * K := by
    rw [← Nat.mul_assoc, ← Nat.mul_assoc, Nat.mul_add, Nat.mul_one]
  have h5 : (L * v1 + L) * B * K ≤ U * B * K := Nat.mul_le_mul_right _ (Nat.mul_le_mul_right _ (by omega))
  have h6 : U * B * K ≤ P := Nat.le_trans (Nat.mul_le_mul_right _ (by omega)) hP
  omega
/-- the first guess -/
theorem guess_first {D' : Nat} (hP : P < (U * B + u2 + 1) * K) (hu2 : u2 < B) (hD : D = (v1 * B + v2) * K + D') (hv : 1 ≤ v1) (hq : q * D ≤ P) : q ≤ U / v1 := by
  rw [Nat.le_div_iff_mul_le (by omega)]
  have h1 : q * (v1 * B * K) ≤ P := by
    refine Nat.le_trans (Nat.mul_le_mul_left _ ?_) hq
    rw [hD, Nat.add_mul]; omega
  have h2 : q * v1 * (B * K) < (U + 1) * (B * K) := by
    have h3 : (U * B + u2 + 1) * K ≤ (U + 1) * B * K := Nat.mul_le_mul_right _ (by rw [Nat.add_mul]; omega)
    rw [show q * v1 * (B * K) = q * (v1 * B * K) by ac_rfl, ← Nat.mul_assoc (U + 1)]
    omega
  have := Nat.lt_of_mul_lt_mul_right h2
  omega
end

/-- the highest limb of the scaled divisor -/
theorem scale_norm {t f : Nat} (ht : 1 ≤ t) (htB : t < LB) (hf : f = LB / (t + 1)) : LB ≤ 2 * (t * f) ∧ 1 ≤ f ∧ f * (t + 1) ≤ LB ∧ f < LB := by
  have e := LB_eq
  have h1 : f * (t + 1) ≤ LB := by rw [hf]; exact Nat.div_mul_le_self _ _
  have h2 : LB < (f + 1) * (t + 1) := (Nat.div_lt_iff_lt_mul (show 0 < t + 1 by omega)).1 (by omega)
  have hf1 : 1 ≤ f := by rw [hf, Nat.le_div_iff_mul_le (by omega)]; omega
  have hf2 : f * 2 ≤ f * (t + 1) := Nat.mul_le_mul_left _ (by omega)
  refine ⟨?_, hf1, h1, by omega⟩
  rcases Nat.lt_or_ge t 2 with h | h
  · have : t = 1 := by omega
    subst this
    rw [e] at hf; omega
  · rcases Nat.lt_or_ge f 2 with h3 | h3
    · have : f = 1 := by omega
      subst this
      omega
    · have h4 : t + f ≤ t * f := by
        obtain ⟨a, rfl⟩ : ∃ a, t = a + 2 := ⟨t - 2, by omega⟩
        obtain ⟨b, rfl⟩ : ∃ b, f = b + 2 := ⟨f - 2, by omega⟩
        have : (a + 2) * (b + 2) = a * b + 2 * a + 2 * b + 4 := by rw [Nat.add_mul, Nat.mul_add, Nat.mul_add]; omega
        omega
      rw [Nat.add_mul, Nat.mul_add, Nat.mul_comm f t] at h2
      omega

/-- a window of a row behind a store -/
theorem win_set {r : Nat → Nat} {o k x : Nat} : nv (fun j => (fun i => if i = o + k then x else r i) (o + j)) (k + 1) = nv (fun j => r (o + j)) k + x * LB ^ k := by
  rw [nv]
  show nv (fun j => if o + j = o + k then x else r (o + j)) k + (if o + k = o + k then x else r (o + k)) * LB ^ k = _
  rw [if_pos rfl, nv_congr (g := fun j => r (o + j)) k fun j hj => if_neg (by omega)]

/-- one limb of a subtraction of a multiple -/
theorem sub_step {W V X k C L a b bo y : Nat} (e : W + L * V = X + C * LB ^ k) (hb : y + (C + L * b) % LB = a + bo * LB) :
    (W + y * LB ^ k) + L * (V + b * LB ^ k) = (X + a * LB ^ k) + ((C + L * b) / LB + bo) * LB ^ (k + 1) := by
  have h2 : C + L * b = LB * ((C + L * b) / LB) + (C + L * b) % LB := (Nat.div_add_mod _ _).symm
  generalize (C + L * b) / LB = d at *
  generalize (C + L * b) % LB = m at *
  have h3 := congrArg (· * LB ^ k) h2
  have h4 := congrArg (· * LB ^ k) hb
  simp only [Nat.add_mul] at h3 h4
  rw [Nat.pow_succ, Nat.add_mul, Nat.mul_add, ← Nat.mul_assoc L b]
  rw [show d * (LB ^ k * LB) = LB * d * LB ^ k by rw [Nat.mul_comm (LB ^ k) LB, ← Nat.mul_assoc, Nat.mul_comm d LB], show bo * (LB ^ k * LB) = bo * LB * LB ^ k by rw [Nat.mul_comm (LB ^ k) LB, ← Nat.mul_assoc]]
  omega
theorem sub_carry {L b C bo : Nat} (hL : L ≤ LB) (hb : b < LB) (hC : C ≤ LB + 1) (hbo : bo ≤ 1) : (C + L * b) / LB + bo ≤ LB + 1 ∧ L * b ≤ 1000000000000000000 := by
  have e := LB_eq
  rw [e] at hL hb hC
  have h1 : L * b ≤ 1000000000 * 999999999 := Nat.mul_le_mul hL (by omega)
  rw [e]; omega
/-- one limb of an addition -/
theorem add_step {W V X k C a b : Nat} (e : W + C * LB ^ k = X + V) : (W + (a + C + b) % LB * LB ^ k) + (a + C + b) / LB * LB ^ (k + 1) = (X + a * LB ^ k) + (V + b * LB ^ k) := by
  have h2 : a + C + b = LB * ((a + C + b) / LB) + (a + C + b) % LB := (Nat.div_add_mod _ _).symm
  generalize (a + C + b) / LB = d at *
  generalize (a + C + b) % LB = m at *
  have h3 := congrArg (· * LB ^ k) h2
  simp only [Nat.add_mul] at h3
  rw [Nat.pow_succ, show d * (LB ^ k * LB) = LB * d * LB ^ k by rw [Nat.mul_comm (LB ^ k) LB, ← Nat.mul_assoc, Nat.mul_comm d LB]]
  omega

end Go.Proofs.YtmcacofpnnaplaaGreatDoor

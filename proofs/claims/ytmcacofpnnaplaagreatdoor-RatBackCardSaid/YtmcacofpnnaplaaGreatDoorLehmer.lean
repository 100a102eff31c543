/- Plain numbers: several of Euclid's divisions at once, by leading digits (Lehmer). No conditions. -/
import Derived.Test.YtmcacofpnnaplaaGreatDoorTop
import Derived.Test.YtmcacofpnnaplaaGreatDoorDivMath
namespace Go.Proofs.YtmcacofpnnaplaaGreatDoor

/-- how the factors of a step lie: none made, an even number of divisions, an odd one -/
def Sg (x y a b c d : Int) : Prop :=
  (a = 1 ∧ b = 0 ∧ c = 0 ∧ d = 1 ∧ y ≤ x) ∨
  (0 ≤ a ∧ b < 0 ∧ c < 0 ∧ 0 < d ∧ a ≤ -c ∧ -b ≤ d ∧ a * d - b * c = 1 ∧ y + c < x + a ∧ y + d < x + b) ∨
  (a ≤ 0 ∧ 0 < b ∧ 0 < c ∧ d < 0 ∧ -a ≤ c ∧ b ≤ -d ∧ a * d - b * c = -1 ∧ y + c < x + a ∧ y + d < x + b)

/-- what the loop of leadingStep keeps -/
structure Lh (X0 Y0 x y a b c d : Int) : Prop where
  ex : a * X0 + b * Y0 = x
  ey : c * X0 + d * Y0 = y
  c1 : 0 ≤ x + a
  c2 : 0 ≤ x + b
  c3 : 0 ≤ y + c
  c4 : 0 ≤ y + d
  sg : Sg x y a b c d

theorem Lh.start {X0 Y0 : Int} (h0 : 0 ≤ Y0) (h1 : Y0 ≤ X0) : Lh X0 Y0 X0 Y0 1 0 0 1 :=
  ⟨by omega, by omega, by omega, by omega, by omega, by omega, .inl ⟨rfl, rfl, rfl, rfl, h1⟩⟩

theorem ediv_parts {u v q : Int} (hv : 0 < v) (hq : q = u / v) : 0 ≤ u - q * v ∧ u - q * v < v := by
  have h1 := Int.mul_ediv_add_emod u v
  have h2 := Int.emod_nonneg u (show v ≠ 0 by omega)
  have h3 := Int.emod_lt_of_pos u hv
  rw [← hq, Int.mul_comm] at h1
  omega

theorem Lh.next {X0 Y0 x y a b c d q : Int} (h : Lh X0 Y0 x y a b c d) (h1 : y + c ≠ 0) (h2 : y + d ≠ 0) (hq1 : q = (x + a) / (y + c)) (hq2 : q = (x + b) / (y + d)) :
    Lh X0 Y0 y (x - q * y) c d (a - q * c) (b - q * d) ∧ 1 ≤ q ∧ x - q * y < y := by
  have c3 := h.c3
  have c4 := h.c4
  obtain ⟨p1, p2⟩ := ediv_parts (by omega) hq1
  obtain ⟨p3, p4⟩ := ediv_parts (by omega) hq2
  rw [Int.mul_add] at p1 p2 p3 p4
  have hq : 1 ≤ q := by
    rw [hq1, Int.le_ediv_iff_mul_le (by omega)]
    rcases h.sg with ⟨rfl, rfl, rfl, rfl, hh⟩ | ⟨_, _, _, _, _, _, _, hh, _⟩ | ⟨_, _, _, _, _, _, _, hh, _⟩ <;> omega
  have ey := h.ey
  have ex := h.ex
  have e1 : (a - q * c) * X0 + (b - q * d) * Y0 = x - q * y := by
    rw [Int.sub_mul, Int.sub_mul, ← ex, ← ey, Int.mul_add, Int.mul_assoc, Int.mul_assoc]; omega
  have hdet : c * (b - q * d) - d * (a - q * c) = -(a * d - b * c) := by
    rw [Int.mul_sub, Int.mul_sub, show c * (q * d) = d * (q * c) by rw [Int.mul_left_comm, Int.mul_left_comm d, Int.mul_comm c d], Int.mul_comm c b, Int.mul_comm d a]; omega
  have hlt : x - q * y < y ∧ Sg y (x - q * y) c d (a - q * c) (b - q * d) → Lh X0 Y0 y (x - q * y) c d (a - q * c) (b - q * d) ∧ 1 ≤ q ∧ x - q * y < y :=
    fun h => ⟨⟨ey, e1, c3, c4, by omega, by omega, h.2⟩, hq, h.1⟩
  refine hlt ?_
  rcases h.sg with ⟨rfl, rfl, rfl, rfl, hh⟩ | ⟨s1, s2, s3, s4, s5, s6, s7, s8, s9⟩ | ⟨s1, s2, s3, s4, s5, s6, s7, s8, s9⟩
  · refine ⟨by omega, .inr (.inr ⟨by omega, by omega, by omega, by omega, by omega, by omega, ?_, by omega, by omega⟩)⟩
    rw [hdet]; omega
  · have m1 : q * c ≤ c := by
      have := Int.mul_le_mul_of_nonpos_right (c := c) hq (by omega); rwa [Int.one_mul] at this
    have m2 : d ≤ q * d := by
      have := Int.mul_le_mul_of_nonneg_right (c := d) hq (by omega); rwa [Int.one_mul] at this
    refine ⟨by omega, .inr (.inr ⟨by omega, by omega, by omega, by omega, by omega, by omega, ?_, by omega, by omega⟩)⟩
    rw [hdet, s7]
  · have m1 : c ≤ q * c := by
      have := Int.mul_le_mul_of_nonneg_right (c := c) hq (by omega); rwa [Int.one_mul] at this
    have m2 : q * d ≤ d := by
      have := Int.mul_le_mul_of_nonpos_right (c := d) hq (by omega); rwa [Int.one_mul] at this
    refine ⟨by omega, .inr (.inl ⟨by omega, by omega, by omega, by omega, by omega, by omega, ?_, by omega, by omega⟩)⟩
    rw [hdet, s7]; omega

/-- the first numbers, from the last ones -/
theorem back_eq {X0 Y0 x y a b c d s : Int} (ex : a * X0 + b * Y0 = x) (ey : c * X0 + d * Y0 = y) (hd : a * d - b * c = s) : d * x - b * y = s * X0 ∧ a * y - c * x = s * Y0 := by
  subst ex ey hd
  constructor
  · rw [Int.mul_add, Int.mul_add, Int.sub_mul, ← Int.mul_assoc, ← Int.mul_assoc, ← Int.mul_assoc, ← Int.mul_assoc, Int.mul_comm d a, Int.mul_comm d b]; omega
  · rw [Int.mul_add, Int.mul_add, Int.sub_mul, ← Int.mul_assoc, ← Int.mul_assoc, ← Int.mul_assoc, ← Int.mul_assoc, Int.mul_comm c a, Int.mul_comm c b]; omega

/-- factors are no greater than the number that they lead to -/
theorem Lh.size {X0 Y0 x y a b c d : Int} (h : Lh X0 Y0 x y a b c d) (hX : 0 ≤ X0) :
    (-max 1 X0 ≤ a ∧ a ≤ max 1 X0) ∧ (-max 1 X0 ≤ b ∧ b ≤ max 1 X0) ∧ (-max 1 X0 ≤ c ∧ c ≤ max 1 X0) ∧ (-max 1 X0 ≤ d ∧ d ≤ max 1 X0) ∧ 0 ≤ y ∧ x ≤ X0 ∧ y ≤ x := by
  have c1 := h.c1
  have c2 := h.c2
  have c3 := h.c3
  have c4 := h.c4
  rcases h.sg with ⟨rfl, rfl, rfl, rfl, hh⟩ | ⟨s1, s2, s3, s4, s5, s6, s7, s8, s9⟩ | ⟨s1, s2, s3, s4, s5, s6, s7, s8, s9⟩
  · have := h.ex; have := h.ey; omega
  · obtain ⟨e1, e2⟩ := back_eq h.ex h.ey s7
    have m1 : 1 * x ≤ d * x := Int.mul_le_mul_of_nonneg_right s4 (by omega)
    have m2 : 0 ≤ -b * y := Int.mul_nonneg (by omega) (by omega)
    rw [Int.neg_mul] at m2
    omega
  · obtain ⟨e1, e2⟩ := back_eq h.ex h.ey s7
    have m1 : 1 * x ≤ -d * x := Int.mul_le_mul_of_nonneg_right (by omega) (by omega)
    have m2 : 0 ≤ b * y := Int.mul_nonneg (by omega) (by omega)
    rw [Int.neg_mul] at m1
    omega

theorem sq_lt {m : Int} (h0 : 0 ≤ m) (h : m * m < 4611686018427387904) : m < 2147483648 := by
  by_cases h1 : m < 2147483648
  · exact h1
  · exfalso
    have h2 : 2147483648 ≤ m := by omega
    have := Int.mul_le_mul h2 h2 (by omega) (by omega)
    omega

/-- what a step that is not idle does to all numbers with these leading digits -/
structure StepOk (N M : Nat) (a b c d : Int) (X Y : Nat) : Prop where
  ex : a * N + b * M = X
  ey : c * N + d * M = Y
  lt : Y < X
  le : X ≤ M
  gcd : Nat.gcd X Y = Nat.gcd N M
  ba : -2147483648 < a ∧ a < 2147483648
  bb : -2147483648 < b ∧ b < 2147483648
  bc : -2147483648 < c ∧ c < 2147483648
  bd : -2147483648 < d ∧ d < 2147483648

/-- a sum of two products, from below: one factor takes the least value, the other the greatest -/
theorem mix_lo {p q A B X0 Y0 U : Int} (hA : X0 * U ≤ A) (hA' : A ≤ (X0 + 1) * U) (hB : Y0 * U ≤ B) (hB' : B ≤ (Y0 + 1) * U) (h : (0 ≤ p ∧ q ≤ 0) ∨ (p ≤ 0 ∧ 0 ≤ q)) :
    (p * X0 + q * Y0 + min p q) * U ≤ p * A + q * B := by
  rcases h with ⟨h1, h2⟩ | ⟨h1, h2⟩
  · have m1 := Int.mul_le_mul_of_nonneg_left hA h1
    have m2 := Int.mul_le_mul_of_nonpos_left h2 hB'
    rw [show min p q = q by omega]
    rw [← Int.mul_assoc] at m1 m2
    rw [Int.mul_add, Int.mul_one, Int.add_mul] at m2
    rw [Int.add_mul, Int.add_mul]
    omega
  · have m1 := Int.mul_le_mul_of_nonpos_left h1 hA'
    have m2 := Int.mul_le_mul_of_nonneg_left hB h2
    rw [show min p q = p by omega]
    rw [← Int.mul_assoc] at m1 m2
    rw [Int.mul_add, Int.mul_one, Int.add_mul] at m1
    rw [Int.add_mul, Int.add_mul]
    omega

theorem gcd_same {N M X Y : Nat} {a b c d s : Int} (ex : a * N + b * M = X) (ey : c * N + d * M = Y) (hd : a * d - b * c = s) (hs : s = 1 ∨ s = -1) : Nat.gcd X Y = Nat.gcd N M := by
  obtain ⟨e1, e2⟩ := back_eq ex ey hd
  apply Nat.dvd_antisymm
  · have h1 : ((Nat.gcd X Y : Nat) : Int) ∣ (X : Int) := Int.natCast_dvd_natCast.2 (Nat.gcd_dvd_left _ _)
    have h2 : ((Nat.gcd X Y : Nat) : Int) ∣ (Y : Int) := Int.natCast_dvd_natCast.2 (Nat.gcd_dvd_right _ _)
    have h3 : ((Nat.gcd X Y : Nat) : Int) ∣ (N : Int) := by
      have h := Int.dvd_sub (Int.dvd_mul_of_dvd_right (b := d) h1) (Int.dvd_mul_of_dvd_right (b := b) h2)
      rw [e1] at h
      rcases hs with rfl | rfl
      · rwa [Int.one_mul] at h
      · rw [Int.neg_mul, Int.one_mul] at h; exact Int.dvd_neg.1 h
    have h4 : ((Nat.gcd X Y : Nat) : Int) ∣ (M : Int) := by
      have h := Int.dvd_sub (Int.dvd_mul_of_dvd_right (b := a) h2) (Int.dvd_mul_of_dvd_right (b := c) h1)
      rw [e2] at h
      rcases hs with rfl | rfl
      · rwa [Int.one_mul] at h
      · rw [Int.neg_mul, Int.one_mul] at h; exact Int.dvd_neg.1 h
    exact Nat.dvd_gcd (Int.natCast_dvd_natCast.1 h3) (Int.natCast_dvd_natCast.1 h4)
  · have h1 : ((Nat.gcd N M : Nat) : Int) ∣ (N : Int) := Int.natCast_dvd_natCast.2 (Nat.gcd_dvd_left _ _)
    have h2 : ((Nat.gcd N M : Nat) : Int) ∣ (M : Int) := Int.natCast_dvd_natCast.2 (Nat.gcd_dvd_right _ _)
    have h3 : ((Nat.gcd N M : Nat) : Int) ∣ (X : Int) := by
      rw [← ex]; exact Int.dvd_add (Int.dvd_mul_of_dvd_right h1) (Int.dvd_mul_of_dvd_right h2)
    have h4 : ((Nat.gcd N M : Nat) : Int) ∣ (Y : Int) := by
      rw [← ey]; exact Int.dvd_add (Int.dvd_mul_of_dvd_right h1) (Int.dvd_mul_of_dvd_right h2)
    exact Nat.dvd_gcd (Int.natCast_dvd_natCast.1 h3) (Int.natCast_dvd_natCast.1 h4)

/-- behind the loop -/
theorem Lh.done {X0 Y0 x y a b c d U : Int} {N M : Nat} (h : Lh X0 Y0 x y a b c d) (hU : 0 < U) (hY : 0 ≤ Y0) (hYX : Y0 ≤ X0) (hX : X0 < 4611686018427387904)
    (hN : X0 * U ≤ N) (hN' : (N : Int) ≤ (X0 + 1) * U) (hM : Y0 * U ≤ M) (hM' : (M : Int) ≤ (Y0 + 1) * U) (hb : b ≠ 0) : ∃ X Y, StepOk N M a b c d X Y := by
  have c1 := h.c1
  have c2 := h.c2
  have c3 := h.c3
  have c4 := h.c4
  have hsz := h.size (by omega)
  -- the sign of the factors
  have key : ∃ s : Int, (s = 1 ∨ s = -1) ∧ a * d - b * c = s ∧ ((0 ≤ c ∧ d ≤ 0) ∨ (c ≤ 0 ∧ 0 ≤ d)) ∧ ((0 ≤ a - c ∧ b - d ≤ 0) ∨ (a - c ≤ 0 ∧ 0 ≤ b - d)) ∧ 1 ≤ s * -c ∧ 0 ≤ s * a ∧
      (∀ m : Int, (m = a ∨ m = -a ∨ m = b ∨ m = -b ∨ m = c ∨ m = -c ∨ m = d ∨ m = -d) → m < 2147483648) ∧ min (a - c) (b - d) + x - y ≥ 1 ∧ min c d + y ≥ 0 := by
    rcases h.sg with ⟨rfl, rfl, rfl, rfl, hh⟩ | ⟨s1, s2, s3, s4, s5, s6, s7, s8, s9⟩ | ⟨s1, s2, s3, s4, s5, s6, s7, s8, s9⟩
    · exact absurd rfl hb
    · obtain ⟨e1, e2⟩ := back_eq h.ex h.ey s7
      have n1 : 0 ≤ -b * y := Int.mul_nonneg (by omega) (by omega)
      have n2 : 0 ≤ a * y := Int.mul_nonneg (by omega) (by omega)
      rw [Int.neg_mul] at n1
      have k1 : d * d ≤ d * x := Int.mul_le_mul_of_nonneg_left (by omega) (by omega)
      have k2 : -c * -c ≤ -c * x := Int.mul_le_mul_of_nonneg_left (by omega) (by omega)
      rw [Int.neg_mul c x] at k2
      have d1 := sq_lt (m := d) (by omega) (by omega)
      have d2 := sq_lt (m := -c) (by omega) (by omega)
      refine ⟨1, .inl rfl, s7, .inr ⟨by omega, by omega⟩, .inl ⟨by omega, by omega⟩, by omega, by omega, fun m hm => ?_, by omega, by omega⟩
      rcases hm with rfl | rfl | rfl | rfl | rfl | rfl | rfl | rfl <;> omega
    · obtain ⟨e1, e2⟩ := back_eq h.ex h.ey s7
      have n1 : 0 ≤ b * y := Int.mul_nonneg (by omega) (by omega)
      have n2 : 0 ≤ -a * y := Int.mul_nonneg (by omega) (by omega)
      rw [Int.neg_mul] at n2
      have k1 : -d * -d ≤ -d * x := Int.mul_le_mul_of_nonneg_left (by omega) (by omega)
      have k2 : c * c ≤ c * x := Int.mul_le_mul_of_nonneg_left (by omega) (by omega)
      rw [Int.neg_mul d x] at k1
      have d1 := sq_lt (m := -d) (by omega) (by omega)
      have d2 := sq_lt (m := c) (by omega) (by omega)
      refine ⟨-1, .inr rfl, s7, .inl ⟨by omega, by omega⟩, .inr ⟨by omega, by omega⟩, by omega, by omega, fun m hm => ?_, by omega, by omega⟩
      rcases hm with rfl | rfl | rfl | rfl | rfl | rfl | rfl | rfl <;> omega
  obtain ⟨s, hs, hdet, hcd, hac, hc1, ha1, hbd, hx1, hy1⟩ := key
  have l1 := mix_lo hN hN' hM hM' hcd
  have l2 := mix_lo hN hN' hM hM' hac
  rw [h.ey] at l1
  rw [Int.sub_mul a c, Int.sub_mul b d, show a * X0 - c * X0 + (b * Y0 - d * Y0) = (a * X0 + b * Y0) - (c * X0 + d * Y0) by omega, h.ex, h.ey, Int.sub_mul a c, Int.sub_mul b d] at l2
  have l3 : 0 ≤ (y + min c d) * U := Int.mul_nonneg (by omega) (by omega)
  have l4 : 1 * U ≤ (x - y + min (a - c) (b - d)) * U := Int.mul_le_mul_of_nonneg_right (by omega) (by omega)
  obtain ⟨Y, hYe⟩ := Int.eq_ofNat_of_zero_le (show 0 ≤ c * (N : Int) + d * M by omega)
  obtain ⟨X, hXe⟩ := Int.eq_ofNat_of_zero_le (show 0 ≤ a * (N : Int) + b * M by omega)
  have hlt : Y < X := by omega
  obtain ⟨f1, f2⟩ := back_eq hXe hYe hdet
  have hle : X ≤ M := by
    have g1 : s * -c * X ≥ 1 * (X : Int) := Int.mul_le_mul_of_nonneg_right hc1 (by omega)
    have g2 : 0 ≤ s * a * (Y : Int) := Int.mul_nonneg ha1 (by omega)
    have g3 : s * (a * (Y : Int) - c * X) = M := by
      rw [f2, ← Int.mul_assoc]
      rcases hs with rfl | rfl <;> omega
    rw [Int.mul_sub, ← Int.mul_assoc, ← Int.mul_assoc] at g3
    rw [Int.mul_neg, Int.neg_mul] at g1
    omega
  refine ⟨X, Y, hXe, hYe, hlt, hle, gcd_same hXe hYe hdet hs, ?_, ?_, ?_, ?_⟩
  · have := hbd a (by simp); have := hbd (-a) (by simp); omega
  · have := hbd b (by simp); have := hbd (-b) (by simp); omega
  · have := hbd c (by simp); have := hbd (-c) (by simp); omega
  · have := hbd d (by simp); have := hbd (-d) (by simp); omega

/-- the leading limbs of a number -/
theorem top3_nv {f : Nat → Nat} {n s : Nat} (hf : ∀ j, j < n → f j < LB) (hn : n ≤ s) (hs : 3 ≤ s) : top3 f n s * LB ^ (s - 3) ≤ nv f n ∧ nv f n < (top3 f n s + 1) * LB ^ (s - 3) := by
  obtain ⟨t, rfl⟩ : ∃ t, s = t + 3 := ⟨s - 3, by omega⟩
  have h1 := nv_top3 (pl f n) t
  rw [nv_pl f n (t + 3) hn] at h1
  have h2 := nv_lt t (f := pl f n) (fun j _ => pl_lt hf j)
  unfold top3
  simp only [Nat.add_sub_cancel, show t + 3 - 1 = t + 2 by omega, show t + 3 - 2 = t + 1 by omega]
  rw [h1, Nat.add_mul _ 1, Nat.one_mul]
  omega

theorem top3_shift {f : Nat → Nat} {n s sh : Nat} (hf : ∀ j, j < n → f j < LB) (hn : n ≤ s) (hs : 3 ≤ s) :
    top3 f n s / 2 ^ sh * (2 ^ sh * LB ^ (s - 3)) ≤ nv f n ∧ nv f n < (top3 f n s / 2 ^ sh + 1) * (2 ^ sh * LB ^ (s - 3)) := by
  obtain ⟨h1, h2⟩ := top3_nv hf hn hs
  have hp : 0 < 2 ^ sh := Nat.pow_pos (by omega)
  generalize top3 f n s = T at *
  rw [← Nat.mul_assoc, ← Nat.mul_assoc]
  constructor
  · exact Nat.le_trans (Nat.mul_le_mul_right _ (Nat.div_mul_le_self _ _)) h1
  · refine Nat.lt_of_lt_of_le h2 (Nat.mul_le_mul_right _ ?_)
    have : T < (T / 2 ^ sh + 1) * 2 ^ sh := (Nat.div_lt_iff_lt_mul hp).1 (by omega)
    omega

theorem top3_mono {f g : Nat → Nat} {n m s : Nat} (hf : ∀ j, j < n → f j < LB) (hg : ∀ j, j < m → g j < LB) (hn : n ≤ s) (hm : m ≤ s) (hs : 3 ≤ s) (h : nv g m ≤ nv f n) : top3 g m s ≤ top3 f n s := by
  have h1 := (top3_nv hf hn hs).2
  have h2 := (top3_nv hg hm hs).1
  have h3 : top3 g m s * LB ^ (s - 3) < (top3 f n s + 1) * LB ^ (s - 3) := by omega
  have := Nat.lt_of_mul_lt_mul_right h3
  omega

end Go.Proofs.YtmcacofpnnaplaaGreatDoor

/- The contract of divideLong. Conditions as premises: the lists read and are valid, the divisor has two limbs or more and is not greater. -/
import Derived.Test.YtmcacofpnnaplaaGreatDoorGuess
namespace Go.Proofs.YtmcacofpnnaplaaGreatDoor
open Go.RowKit Go.Shelf

theorem nv_ge (f : Nat → Nat) (t : Nat) : ∀ m, t < m → f t * LB ^ t ≤ nv f m
  | 0, h => by omega
  | m + 1, h => by
    rw [nv]
    by_cases e : t = m
    · subst e; omega
    · have := nv_ge f t m (by omega); omega
theorem nv_zero_above {f : Nat → Nat} {m s t : Nat} (h : nv f m < LB ^ s) (hs : s ≤ t) (ht : t < m) : f t = 0 := by
  rcases Nat.eq_zero_or_pos (f t) with h0 | h0
  · exact h0
  · exfalso
    have h1 := nv_ge f t m ht
    have h2 : 1 * LB ^ t ≤ f t * LB ^ t := Nat.mul_le_mul_right _ h0
    have h3 : LB ^ s ≤ LB ^ t := pow_le_of hs
    omega
theorem nv_split (f : Nat → Nat) (k : Nat) : ∀ m, nv f (k + m) = nv f k + nv (fun j => f (k + j)) m * LB ^ k
  | 0 => by simp [nv]
  | m + 1 => by
    rw [← Nat.add_assoc, nv, nv_split f k m, nv, Nat.add_mul, Nat.pow_add]
    have : f (k + m) * (LB ^ k * LB ^ m) = f (k + m) * LB ^ m * LB ^ k := by ac_rfl
    omega
theorem hi_win {r : Nat → Nat} {N p s : Nat} (h0 : ∀ t, s < t → p + t < N → r (p + t) = 0) (hN : p + s + 1 ≤ N) : hi r N p = nv (fun j => r (p + j)) (s + 1) := by
  unfold hi
  rw [nv_congr (g := fun j => r (p + j)) (N - p) fun j _ => by rw [Nat.add_comm]]
  exact nv_zeros _ (s + 1) _ (by omega) fun j a b => h0 j (by omega) (by omega)
theorem hi_split (f : Nat → Nat) (N k : Nat) (h : k ≤ N) : nv f N = nv f k + hi f N k * LB ^ k := by
  obtain ⟨m, rfl⟩ : ∃ m, N = k + m := ⟨N - k, by omega⟩
  rw [nv_split]
  unfold hi
  rw [show k + m - k = m by omega, nv_congr (f := fun i => f (i + k)) (g := fun j => f (k + j)) m fun j _ => by simp only [Nat.add_comm]]

/-- the multiples of the divisor that a step takes off -/
theorem step_ok {P D g W C Bs : Nat} (hD : 0 < D) (hDB : D < Bs) (hW : W < Bs) (e : W + g * D = P + C * Bs) (hge : P / D ≤ g) (hle : (g - 1) * D ≤ P) :
    (C = 0 → g = P / D ∧ W = P % D) ∧ (0 < C → 1 ≤ g ∧ g - 1 = P / D ∧ ∀ W2 C2, W2 < Bs → W2 + C2 * Bs = W + D → W2 = P % D) := by
  have hdm := Nat.div_add_mod P D
  have hml := Nat.mod_lt P hD
  generalize P / D = q at *
  generalize P % D = m at *
  rw [Nat.mul_comm] at hdm
  constructor
  · intro h0
    subst h0
    rw [Nat.zero_mul, Nat.add_zero] at e
    have h1 : g = q := by
      rcases Nat.lt_or_ge q g with h | h
      · exfalso
        have : (q + 1) * D ≤ g * D := Nat.mul_le_mul_right _ h
        rw [Nat.add_mul, Nat.one_mul] at this; omega
      · omega
    subst h1
    exact ⟨rfl, by omega⟩
  · intro hC
    have h1 : 1 * Bs ≤ C * Bs := Nat.mul_le_mul_right _ hC
    have h2 : q < g := by
      rcases Nat.lt_or_ge q g with h | h
      · exact h
      · exfalso
        have : g * D ≤ q * D := Nat.mul_le_mul_right _ h
        omega
    have h3 : g - 1 = q := by
      rcases Nat.lt_or_ge q (g - 1) with h | h
      · exfalso
        have : (q + 1) * D ≤ (g - 1) * D := Nat.mul_le_mul_right _ h
        rw [Nat.add_mul, Nat.one_mul] at this; omega
      · omega
    refine ⟨by omega, h3, fun W2 C2 hW2 e2 => ?_⟩
    obtain rfl : g = q + 1 := by omega
    rw [Nat.add_mul, Nat.one_mul] at e
    have hC1 : C = 1 := by
      rcases Nat.lt_or_ge 1 C with h | h
      · exfalso
        have : 2 * Bs ≤ C * Bs := Nat.mul_le_mul_right _ h
        omega
      · omega
    subst hC1
    rcases Nat.eq_zero_or_pos C2 with h | h
    · exfalso; subst h; omega
    · have hC2 : C2 = 1 := by
        rcases Nat.lt_or_ge 1 C2 with h | h
        · exfalso
          have : 2 * Bs ≤ C2 * Bs := Nat.mul_le_mul_right _ h
          omega
        · omega
      subst hC2
      omega

/-- what the loop of the long division keeps -/
structure Dl (N s J D : Nat) (x r q : Nat → Nat) (j : Nat) : Prop where
  eq : hi x N j = D * hi q J j + hi r N j
  lt : hi r N j < D
  low : ∀ i, i < j → r i = x i
  rl : ∀ i, r i < LB
  ql : ∀ i, q i < LB

theorem Dl.top {N s J D p : Nat} {x r q : Nat → Nat} (h : Dl N s J D x r q (p + 1)) (hD : D < LB ^ s) (hN : p + s + 1 ≤ N) :
    hi r N p = nv (fun j => r (p + j)) (s + 1) ∧ (∀ t, s < t → p + t < N → r (p + t) = 0) ∧ hi r N p < D * LB := by
  have hz : ∀ t, s < t → p + t < N → r (p + t) = 0 := fun t ht htN => by
    have h1 := Nat.lt_trans h.lt hD
    unfold hi at h1
    have h2 := nv_zero_above (t := t - 1) h1 (by omega) (by omega)
    rw [show p + t = t - 1 + (p + 1) by omega]; exact h2
  refine ⟨hi_win hz hN, hz, ?_⟩
  rw [hi_step r N p (by omega)]
  have h1 := h.lt
  have h2 : (hi r N (p + 1) + 1) * LB ≤ D * LB := Nat.mul_le_mul_right _ h1
  rw [Nat.add_mul, Nat.one_mul] at h2
  have := h.rl p
  omega

theorem Dl.next {N s J D p : Nat} {x r q r2 : Nat → Nat} (h : Dl N s J D x r q (p + 1)) (hD0 : 0 < D) (hD : D < LB ^ s) (hN : p + s + 1 ≤ N) (hpJ : p < J)
    (hw : nv (fun j => r2 (p + j)) (s + 1) = hi r N p % D) (hl : ∀ j, r2 j < LB) (hsame : ∀ j, (j < p ∨ p + s + 1 ≤ j) → r2 j = r j) :
    Dl N s J D x r2 (fun j => if j = p then hi r N p / D else q j) p := by
  obtain ⟨ht, hz, hlt⟩ := h.top hD hN
  have hr2 : hi r2 N p = hi r N p % D := by
    rw [hi_win (fun t a b => by rw [hsame _ (.inr (by omega))]; exact hz t a b) hN, hw]
  have hqlt : hi r N p / D < LB := by rw [Nat.div_lt_iff_lt_mul hD0, Nat.mul_comm]; exact hlt
  refine ⟨?_, by rw [hr2]; exact Nat.mod_lt _ hD0, fun i hi' => by rw [hsame _ (.inl hi')]; exact h.low i (by omega), hl, fun i => by
    show (if i = p then hi r N p / D else q i) < LB
    split
    · exact hqlt
    · exact h.ql i⟩
  rw [hr2, hi_step _ J p hpJ, nv_hi_congr (g := q) (k := p + 1) (fun j a _ => if_neg (by omega)), hi_step x N p (by omega), h.eq]
  have e1 : hi r N p = hi r N (p + 1) * LB + x p := by rw [hi_step r N p (by omega), h.low p (by omega)]
  have e2 := Nat.div_add_mod (hi r N p) D
  simp only [↓reduceIte]
  rw [Nat.mul_add, Nat.add_mul]
  have e3 : D * hi q J (p + 1) * LB = D * (hi q J (p + 1) * LB) := Nat.mul_assoc _ _ _
  omega

/-- what scaling leaves -/
theorem scaled_eq {q f : Nat → Nat} {n s d C : Nat} (e : nv q s + C * LB ^ s = nv (pl f n) s * d) (hn : n ≤ s) (hlt : nv f n * d < LB ^ s) : nv q s = nv f n * d := by
  rw [nv_pl f n s hn] at e
  rcases Nat.eq_zero_or_pos C with h | h
  · subst h; omega
  · have : 1 * LB ^ s ≤ C * LB ^ s := Nat.mul_le_mul_right _ h
    omega

structure Long (n s J : Nat) (f g x v : Nat → Nat) (F : Nat) : Prop where
  xe : nv x (n + 1) = nv f n * F
  ve : nv v s = nv g s * F
  pos : 0 < nv v s
  lt : nv v s < LB ^ s
  top : hi x (n + 1) J < nv v s
  norm : LB ≤ 2 * v (s - 1)

theorem Long.mk' {n s J F C C' : Nat} {f g x v : Nat → Nat} (hf : ∀ j, j < n → f j < LB) (hg : ∀ j, j < s → g j < LB) (hs : 1 ≤ s) (hJ : J + s = n + 1) (ht : g (s - 1) ≠ 0) (hF : F = LB / (g (s - 1) + 1))
    (ex : nv x (n + 1) + C * LB ^ (n + 1) = nv (pl f n) (n + 1) * F) (ev : nv v s + C' * LB ^ s = nv (pl g s) s * F) (hvl : ∀ j, v j < LB) : Long n s J f g x v F := by
  have htB := hg (s - 1) (by omega)
  obtain ⟨hn1, hn2, hn3, hn4⟩ := scale_norm (t := g (s - 1)) (by omega) htB hF
  have hxe : nv x (n + 1) = nv f n * F := scaled_eq ex (by omega) (by
    rw [Nat.pow_succ]
    exact Nat.mul_lt_mul'' (nv_lt n hf) hn4)
  obtain ⟨t, rfl⟩ : ∃ t, s = t + 1 := ⟨s - 1, by omega⟩
  simp only [Nat.add_sub_cancel] at *
  have hgt : nv g (t + 1) < (g t + 1) * LB ^ t := by
    rw [nv, Nat.add_mul, Nat.one_mul]
    have := nv_lt t (f := g) (fun j hj => hg j (by omega))
    omega
  have hglo : g t * LB ^ t ≤ nv g (t + 1) := by rw [nv]; omega
  have hFpos : 0 < F := hn2
  have hvlt : nv g (t + 1) * F < LB ^ (t + 1) := by
    have h1 : nv g (t + 1) * F < (g t + 1) * LB ^ t * F := Nat.mul_lt_mul_of_pos_right hgt hFpos
    have h2 : (g t + 1) * LB ^ t * F = F * (g t + 1) * LB ^ t := by ac_rfl
    have h3 : F * (g t + 1) * LB ^ t ≤ LB * LB ^ t := Nat.mul_le_mul_right _ hn3
    rw [Nat.pow_succ, Nat.mul_comm (LB ^ t)]
    omega
  have hve : nv v (t + 1) = nv g (t + 1) * F := scaled_eq ev (Nat.le_refl _) hvlt
  have hlow : LB ^ t * F ≤ nv v (t + 1) := by
    rw [hve]
    refine Nat.mul_le_mul_right _ (Nat.le_trans ?_ hglo)
    have : 1 * LB ^ t ≤ g t * LB ^ t := Nat.mul_le_mul_right _ (by omega)
    omega
  have hP : 0 < LB ^ t := Nat.pow_pos LB_pos
  refine ⟨hxe, hve, Nat.lt_of_lt_of_le (Nat.mul_pos hP hFpos) hlow, by rw [hve]; exact hvlt, ?_, ?_⟩
  · have h1 := hi_split x (n + 1) J (by omega)
    have h2 : nv f n * F < LB ^ n * F := Nat.mul_lt_mul_of_pos_right (nv_lt n hf) hFpos
    have h3 : LB ^ n * F = LB ^ t * F * LB ^ J := by
      rw [show n = t + J by omega, Nat.pow_add]; ac_rfl
    have h4 : hi x (n + 1) J * LB ^ J < LB ^ t * F * LB ^ J := by omega
    exact Nat.lt_of_lt_of_le (Nat.lt_of_mul_lt_mul_right h4) hlow
  · show LB ≤ 2 * v t
    have h1 : nv v (t + 1) < (v t + 1) * LB ^ t := by
      rw [nv, Nat.add_mul, Nat.one_mul]
      have := nv_lt t (f := v) (fun j _ => hvl j)
      omega
    have h2 : g t * F * LB ^ t ≤ nv v (t + 1) := by
      rw [hve]
      have := Nat.mul_le_mul_right F hglo
      rw [show g t * F * LB ^ t = g t * LB ^ t * F by ac_rfl]
      exact this
    have h3 : g t * F < v t + 1 := Nat.lt_of_mul_lt_mul_right (Nat.lt_of_le_of_lt h2 h1)
    omega

theorem Long.start {n s J F : Nat} {f g x v : Nat → Nat} (h : Long n s J f g x v F) (hx : ∀ j, x j < LB) : Dl (n + 1) s J (nv v s) x x (fun _ => 0) J :=
  ⟨by rw [hi_top, Nat.mul_zero, Nat.zero_add], h.top, fun _ _ => rfl, hx, fun _ => LB_pos⟩

theorem Long.done {n s J F : Nat} {f g x v r q : Nat → Nat} (h : Long n s J f g x v F) (hd : Dl (n + 1) s J (nv v s) x r q 0) : 0 < F ∧ nv q J = nv f n / nv g s ∧ nv r (n + 1) / F = nv f n % nv g s := by
  have h1 := hd.eq
  have h2 := hd.lt
  rw [hi_zero] at h1 h2
  rw [hi_zero, hi_zero, h.xe] at h1
  rw [h.ve] at h1 h2
  have hp := h.pos
  rw [h.ve] at hp
  have hF : 0 < F := Nat.pos_of_mul_pos_left hp
  have hg : 0 < nv g s := Nat.pos_of_mul_pos_right hp
  refine ⟨hF, ?_⟩
  have h3 : nv f n = (nv g s * nv q J * F + nv r (n + 1)) / F := by
    rw [show nv g s * nv q J * F = nv g s * F * nv q J by ac_rfl, ← h1, Nat.mul_div_cancel _ hF]
  rw [Nat.mul_comm (nv g s * nv q J) F, Nat.mul_add_div hF] at h3
  have h4 : nv r (n + 1) / F < nv g s := by rw [Nat.div_lt_iff_lt_mul hF]; exact h2
  generalize nv r (n + 1) / F = R at *
  rw [h3, Nat.mul_add_div hg, Nat.div_eq_of_lt h4, Nat.add_zero, Nat.mul_add_mod, Nat.mod_eq_of_lt h4]
  exact ⟨rfl, rfl⟩

end Go.Proofs.YtmcacofpnnaplaaGreatDoor

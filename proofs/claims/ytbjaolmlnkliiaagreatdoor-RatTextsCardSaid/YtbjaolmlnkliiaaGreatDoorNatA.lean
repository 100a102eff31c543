/- The contracts of the functions under the laws of package rat: Nums, AddMath, ProdMath, joined into one file. -/
import Derived.WalkKit
/- Plain numbers: a list of limbs below ten to the ninth, given as a function with a length, is the number that it stands for; two such lists without zeros on top that stand for one number are equal. No conditions. -/
namespace Go.Proofs.YtbjaolmlnkliiaaGreatDoor

@[irreducible] def LB : Nat := 1000000000
theorem LB_eq : LB = 1000000000 := by unfold LB; rfl
theorem LB_pos : 0 < LB := by rw [LB_eq]; omega

/-- the number that n limbs stand for -/
def nv (f : Nat → Nat) : Nat → Nat
  | 0 => 0
  | n + 1 => nv f n + f n * LB ^ n

theorem nv_congr {f g : Nat → Nat} : ∀ n, (∀ j, j < n → f j = g j) → nv f n = nv g n
  | 0, _ => rfl
  | n + 1, h => by rw [nv, nv, nv_congr n (fun j hj => h j (by omega)), h n (by omega)]

theorem nv_lt {f : Nat → Nat} : ∀ n, (∀ j, j < n → f j < LB) → nv f n < LB ^ n
  | 0, _ => by simp [nv]
  | n + 1, h => by
    have h1 := nv_lt n (fun j hj => h j (by omega))
    have h2 : f n + 1 ≤ LB := h n (by omega)
    have h3 : (f n + 1) * LB ^ n ≤ LB * LB ^ n := Nat.mul_le_mul_right _ h2
    rw [nv, Nat.pow_succ, Nat.mul_comm (LB ^ n) LB]
    rw [Nat.add_mul] at h3
    omega

/-- the lowest limb first -/
theorem nv_low (f : Nat → Nat) : ∀ n, nv f (n + 1) = f 0 + LB * nv (fun i => f (i + 1)) n
  | 0 => by simp [nv]
  | n + 1 => by
    rw [nv, nv_low f n, nv, Nat.mul_add, Nat.pow_succ, Nat.add_assoc]
    congr 2
    rw [Nat.mul_comm (LB ^ n) LB, Nat.mul_left_comm]

/-- a list of limbs as it should be -/
def Val (n : Nat) (f : Nat → Nat) : Prop := (∀ j, j < n → f j < LB) ∧ (0 < n → f (n - 1) ≠ 0)

/-- the valid list of the number N -/
structure Dig (n : Nat) (f : Nat → Nat) (N : Nat) : Prop where
  ok : Val n f
  eq : nv f n = N

theorem Val.top_le {n : Nat} {f : Nat → Nat} (h : Val n f) (hn : 0 < n) : LB ^ (n - 1) ≤ nv f n := by
  obtain ⟨m, rfl⟩ : ∃ m, n = m + 1 := ⟨n - 1, by omega⟩
  have h1 := h.2 hn
  simp only [Nat.add_sub_cancel] at h1 ⊢
  rw [nv]
  have : 1 * LB ^ m ≤ f m * LB ^ m := Nat.mul_le_mul_right _ (by omega)
  omega

theorem Val.lt {n : Nat} {f : Nat → Nat} (h : Val n f) : nv f n < LB ^ n := nv_lt n h.1

theorem Val.pos {n : Nat} {f : Nat → Nat} (h : Val n f) (hn : 0 < n) : 0 < nv f n :=
  Nat.lt_of_lt_of_le (Nat.pow_pos LB_pos) (h.top_le hn)

theorem Val.zero_iff {n : Nat} {f : Nat → Nat} (h : Val n f) : nv f n = 0 ↔ n = 0 := by
  constructor
  · intro e
    rcases Nat.eq_zero_or_pos n with h0 | h0
    · exact h0
    · have := h.pos h0; omega
  · rintro rfl; rfl

theorem pow_le_of {a b : Nat} (h : a ≤ b) : LB ^ a ≤ LB ^ b := Nat.pow_le_pow_right LB_pos h

/-- the shorter valid list is the lesser number -/
theorem Val.lt_of_len {n m : Nat} {f g : Nat → Nat} (hf : Val n f) (hg : Val m g) (h : n < m) : nv f n < nv g m := by
  have h1 := hf.lt
  have h2 := hg.top_le (by omega)
  have h3 : LB ^ n ≤ LB ^ (m - 1) := pow_le_of (by omega)
  omega

/-- the highest limbs in which two lists differ decide -/
theorem nv_lt_at {f g : Nat → Nat} : ∀ n k, k < n → (∀ j, j < n → f j < LB) → (∀ j, k < j → j < n → f j = g j) → f k < g k → nv f n < nv g n
  | 0, k, hk, _, _, _ => by omega
  | n + 1, k, hk, hb, he, hl => by
    rw [nv, nv]
    by_cases h : k = n
    · subst h
      have h1 := nv_lt k (fun j hj => hb j (by omega))
      have h2 : (f k + 1) * LB ^ k ≤ g k * LB ^ k := Nat.mul_le_mul_right _ hl
      rw [Nat.add_mul] at h2
      omega
    · have h1 := nv_lt_at n k (by omega) (fun j hj => hb j (by omega)) (fun j h1 h2 => he j h1 (by omega)) hl
      have h2 := he n (by omega) (by omega)
      rw [h2]
      omega

theorem Dig.unique {n m : Nat} {f g : Nat → Nat} {N : Nat} (hf : Dig n f N) (hg : Dig m g N) : n = m ∧ ∀ j, j < n → f j = g j := by
  have hnm : n = m := by
    rcases Nat.lt_trichotomy n m with h | h | h
    · have := hf.ok.lt_of_len hg.ok h; rw [hf.eq, hg.eq] at this; omega
    · exact h
    · have := hg.ok.lt_of_len hf.ok h; rw [hf.eq, hg.eq] at this; omega
  subst hnm
  refine ⟨rfl, ?_⟩
  have key : ∀ k, k ≤ n → ∀ j, n - k ≤ j → j < n → f j = g j := by
    intro k
    induction k with
    | zero => intro _ j h1 h2; omega
    | succ k ih =>
      intro hk j h1 h2
      have hi := ih (by omega)
      by_cases hj : n - k ≤ j
      · exact hi j hj h2
      · have hj' : j = n - (k + 1) := by omega
        rcases Nat.lt_trichotomy (f j) (g j) with h | h | h
        · have := nv_lt_at n j h2 hf.ok.1 (fun i a b => hi i (by omega) b) h
          rw [hf.eq, hg.eq] at this; omega
        · exact h
        · have := nv_lt_at n j h2 hg.ok.1 (fun i a b => (hi i (by omega) b).symm) h
          rw [hf.eq, hg.eq] at this; omega
  intro j hj
  exact key n (Nat.le_refl _) j (by omega) hj

/-- the digits of a number in the base LB -/
def dig (N j : Nat) : Nat := N / LB ^ j % LB

theorem dig_lt (N j : Nat) : dig N j < LB := Nat.mod_lt _ LB_pos

theorem nv_dig (N : Nat) : ∀ n, nv (dig N) n = N % LB ^ n
  | 0 => by simp [nv, Nat.mod_one]
  | n + 1 => by
    rw [nv, nv_dig N n, dig, Nat.pow_succ, Nat.mod_mul]
    rw [Nat.mul_comm (LB ^ n)]

/-- how many limbs N has: the round at which nothing is left -/
theorem dig_of_rounds {N k : Nat} (h0 : N / LB ^ k = 0) (hk : ∀ j, j < k → N / LB ^ j ≠ 0) : Dig k (dig N) N := by
  have hlt : N < LB ^ k := by
    rcases Nat.lt_or_ge N (LB ^ k) with h | h
    · exact h
    · exact absurd h0 (Nat.ne_of_gt (Nat.div_pos h (Nat.pow_pos LB_pos)))
  refine ⟨⟨fun j _ => dig_lt N j, fun hp => ?_⟩, ?_⟩
  · have h1 := hk (k - 1) (by omega)
    unfold dig
    have h2 : N / LB ^ (k - 1) < LB := by
      rw [Nat.div_lt_iff_lt_mul (Nat.pow_pos LB_pos), Nat.mul_comm, ← Nat.pow_succ]
      rwa [show (k - 1).succ = k by omega]
    rw [Nat.mod_eq_of_lt h2]
    exact h1
  · rw [nv_dig, Nat.mod_eq_of_lt hlt]

end Go.Proofs.YtbjaolmlnkliiaaGreatDoor

/- Plain numbers: the limbs and carries of a sum, the limbs and borrows of a difference. No conditions. -/
namespace Go.Proofs.YtbjaolmlnkliiaaGreatDoor

/-- the carry into place k of a sum -/
def cy (f g : Nat → Nat) : Nat → Nat
  | 0 => 0
  | k + 1 => (f k + g k + cy f g k) / LB
/-- limb k of a sum -/
def sl (f g : Nat → Nat) (k : Nat) : Nat := (f k + g k + cy f g k) % LB

theorem cy_le {f g : Nat → Nat} : ∀ k, (∀ j, j < k → f j < LB ∧ g j < LB) → cy f g k ≤ 1
  | 0, _ => by simp [cy]
  | k + 1, h => by
    have h1 := cy_le k (fun j hj => h j (by omega))
    have h2 := h k (by omega)
    rw [cy]
    have : f k + g k + cy f g k < LB * 2 := by omega
    have := (Nat.div_lt_iff_lt_mul LB_pos).2 (by rw [Nat.mul_comm]; exact this)
    omega

theorem sum_eq (f g : Nat → Nat) : ∀ k, nv (sl f g) k + cy f g k * LB ^ k = nv f k + nv g k
  | 0 => by simp [nv, cy]
  | k + 1 => by
    have ih := sum_eq f g k
    have h : f k + g k + cy f g k = LB * ((f k + g k + cy f g k) / LB) + (f k + g k + cy f g k) % LB := (Nat.div_add_mod _ _).symm
    have h2 := congrArg (· * LB ^ k) h
    simp only [Nat.add_mul] at h2
    rw [nv, nv, nv, cy, sl, Nat.pow_succ, Nat.mul_comm (LB ^ k) LB, ← Nat.mul_assoc, Nat.mul_comm _ LB]
    omega

theorem cy_congr {f g f' g' : Nat → Nat} : ∀ k, (∀ j, j < k → f j = f' j ∧ g j = g' j) → cy f g k = cy f' g' k
  | 0, _ => rfl
  | k + 1, h => by rw [cy, cy, cy_congr k (fun j hj => h j (by omega)), (h k (by omega)).1, (h k (by omega)).2]
theorem sl_congr {f g f' g' : Nat → Nat} {n : Nat} (h : ∀ j, j < n → f j = f' j ∧ g j = g' j) : ∀ k, k < n → sl f g k = sl f' g' k := fun k hk => by
  unfold sl; rw [cy_congr k (fun j hj => h j (by omega)), (h k hk).1, (h k hk).2]
theorem sl_lt (f g : Nat → Nat) (k : Nat) : sl f g k < LB := Nat.mod_lt _ LB_pos

/-- the borrow out of place k of a difference -/
def bw (f g : Nat → Nat) : Nat → Nat
  | 0 => 0
  | k + 1 => if f k < g k + bw f g k then 1 else 0
/-- limb k of a difference -/
def dl (f g : Nat → Nat) (k : Nat) : Nat := if f k < g k + bw f g k then f k + LB - (g k + bw f g k) else f k - (g k + bw f g k)

theorem bw_le (f g : Nat → Nat) : ∀ k, bw f g k ≤ 1
  | 0 => by simp [bw]
  | k + 1 => by rw [bw]; split <;> omega
theorem dl_lt {f g : Nat → Nat} {k : Nat} (hf : f k < LB) (hg : g k < LB) : dl f g k < LB := by
  have := bw_le f g k
  unfold dl; split <;> omega

theorem diff_eq {f g : Nat → Nat} : ∀ k, (∀ j, j < k → f j < LB ∧ g j < LB) → nv (dl f g) k + nv g k = nv f k + bw f g k * LB ^ k
  | 0, _ => by simp [nv, bw]
  | k + 1, h => by
    have ih := diff_eq k (fun j hj => h j (by omega))
    have h2 := h k (by omega)
    have hb := bw_le f g k
    rw [nv, nv, nv, bw, dl, Nat.pow_succ, Nat.mul_comm (LB ^ k) LB]
    by_cases hc : f k < g k + bw f g k
    · rw [if_pos hc, if_pos hc]
      have e : f k + LB - (g k + bw f g k) + (g k + bw f g k) = f k + LB := by omega
      have e2 := congrArg (· * LB ^ k) e
      simp only [Nat.add_mul] at e2
      rw [Nat.one_mul]
      omega
    · rw [if_neg hc, if_neg hc]
      have e : f k - (g k + bw f g k) + (g k + bw f g k) = f k := by omega
      have e2 := congrArg (· * LB ^ k) e
      simp only [Nat.add_mul] at e2
      rw [Nat.zero_mul]
      omega

theorem bw_congr {f g f' g' : Nat → Nat} : ∀ k, (∀ j, j < k → f j = f' j ∧ g j = g' j) → bw f g k = bw f' g' k
  | 0, _ => rfl
  | k + 1, h => by rw [bw, bw, bw_congr k (fun j hj => h j (by omega)), (h k (by omega)).1, (h k (by omega)).2]
theorem dl_congr {f g f' g' : Nat → Nat} {n : Nat} (h : ∀ j, j < n → f j = f' j ∧ g j = g' j) : ∀ k, k < n → dl f g k = dl f' g' k := fun k hk => by
  unfold dl; rw [bw_congr k (fun j hj => h j (by omega)), (h k hk).1, (h k hk).2]

end Go.Proofs.YtbjaolmlnkliiaaGreatDoor

/- Plain numbers: products of lists of limbs, by rows and by columns. No conditions. -/
namespace Go.Proofs.YtbjaolmlnkliiaaGreatDoor

theorem nv_set (q : Nat → Nat) (p x : Nat) : ∀ N, p < N → nv (fun j => if j = p then x else q j) N + q p * LB ^ p = nv q N + x * LB ^ p
  | 0, h => by omega
  | N + 1, h => by
    rw [nv, nv]
    by_cases e : p = N
    · subst e
      rw [if_pos rfl, nv_congr (g := q) p fun j hj => if_neg (by omega)]
      omega
    · have := nv_set q p x N (by omega)
      rw [if_neg (by omega)]
      omega

/-- one limb of a row of a product -/
theorem times_step {N i k a b c R G : Nat} {q : Nat → Nat} (hk : i + k < N) (e : nv q N + c * LB ^ (i + k) = R + a * LB ^ i * G) :
    nv (fun j => if j = i + k then (c + q (i + k) + a * b) % LB else q j) N + (c + q (i + k) + a * b) / LB * LB ^ (i + (k + 1)) = R + a * LB ^ i * (G + b * LB ^ k) := by
  have h1 := nv_set q (i + k) ((c + q (i + k) + a * b) % LB) N hk
  have h2 : c + q (i + k) + a * b = LB * ((c + q (i + k) + a * b) / LB) + (c + q (i + k) + a * b) % LB := (Nat.div_add_mod _ _).symm
  generalize (c + q (i + k) + a * b) / LB = d at *
  generalize (c + q (i + k) + a * b) % LB = r at *
  have h3 := congrArg (· * LB ^ (i + k)) h2
  simp only [Nat.add_mul] at h3
  rw [show i + (k + 1) = (i + k) + 1 by omega, Nat.pow_succ, Nat.mul_add, show a * LB ^ i * (b * LB ^ k) = a * b * LB ^ (i + k) by rw [Nat.pow_add]; simp only [Nat.mul_assoc, Nat.mul_left_comm]]
  rw [show d * (LB ^ (i + k) * LB) = LB * d * LB ^ (i + k) by rw [Nat.mul_comm (LB ^ (i + k)) LB, ← Nat.mul_assoc, Nat.mul_comm d LB]]
  omega

theorem times_lt {a b c q : Nat} (ha : a < LB) (hb : b < LB) (hc : c < LB) (hq : q < LB) : (c + q + a * b) / LB < LB ∧ a * b ≤ 999999998000000001 := by
  have e := LB_eq
  rw [e] at ha hb hc hq
  have h : a * b ≤ 999999999 * 999999999 := Nat.mul_le_mul (by omega) (by omega)
  refine ⟨?_, by omega⟩
  rw [Nat.div_lt_iff_lt_mul LB_pos, e]
  omega

/-- the last limb of a row -/
theorem times_row {N i m c : Nat} {f g q : Nat → Nat} (hi : i + m < N) (h0 : q (i + m) = 0) (e : nv q N + c * LB ^ (i + m) = nv f i * nv g m + f i * LB ^ i * nv g m) :
    nv (fun j => if j = i + m then c else q j) N = nv f (i + 1) * nv g m := by
  have h1 := nv_set q (i + m) c N hi
  rw [h0, Nat.zero_mul, Nat.add_zero, e] at h1
  rw [h1, nv, Nat.add_mul]

/-- a sum of values -/
def sm (h : Nat → Nat) : Nat → Nat
  | 0 => 0
  | k + 1 => sm h k + h k
theorem sm_congr {h h' : Nat → Nat} : ∀ n, (∀ j, j < n → h j = h' j) → sm h n = sm h' n
  | 0, _ => rfl
  | n + 1, H => by rw [sm, sm, sm_congr n (fun j hj => H j (by omega)), H n (by omega)]
theorem sm_zero (h : Nat → Nat) : ∀ n, (∀ j, j < n → h j = 0) → sm h n = 0
  | 0, _ => rfl
  | n + 1, H => by rw [sm, sm_zero h n (fun j hj => H j (by omega)), H n (by omega)]
theorem sm_split (h : Nat → Nat) (a : Nat) : ∀ b, sm h (a + b) = sm h a + sm (fun t => h (a + t)) b
  | 0 => by simp [sm]
  | b + 1 => by rw [← Nat.add_assoc, sm, sm_split h a b, sm, Nat.add_assoc]
theorem sm_le {h : Nat → Nat} {B : Nat} : ∀ n, (∀ j, j < n → h j ≤ B) → sm h n ≤ n * B
  | 0, _ => by simp [sm]
  | n + 1, H => by
    have := sm_le n (fun j hj => H j (by omega))
    have := H n (by omega)
    rw [sm, Nat.add_mul]; omega

/-- what stands at place p of the product of the first n limbs of F and of G -/
def cvn (F G : Nat → Nat) (n p : Nat) : Nat := sm (fun i => if i ≤ p then F i * G (p - i) else 0) n
/-- the sum of the columns below place K -/
def cols (F G : Nat → Nat) (n K : Nat) : Nat := nv (cvn F G n) K

theorem cols_succ (F G : Nat → Nat) (n : Nat) : ∀ K, cols F G (n + 1) K = cols F G n K + F n * LB ^ n * nv G (K - n)
  | 0 => by simp [cols, nv]
  | K + 1 => by
    have ih := cols_succ F G n K
    unfold cols at *
    rw [nv, nv, ih]
    have e : cvn F G (n + 1) K = cvn F G n K + (if n ≤ K then F n * G (K - n) else 0) := by unfold cvn; rw [sm]
    rw [e, Nat.add_mul]
    by_cases h : n ≤ K
    · rw [if_pos h, show K + 1 - n = (K - n) + 1 by omega, nv, Nat.mul_add]
      have : F n * G (K - n) * LB ^ K = F n * LB ^ n * (G (K - n) * LB ^ (K - n)) := by
        rw [show LB ^ K = LB ^ n * LB ^ (K - n) by rw [← Nat.pow_add]; congr 1; omega]
        simp only [Nat.mul_assoc, Nat.mul_left_comm]
      omega
    · rw [if_neg h, show K + 1 - n = 0 by omega, show K - n = 0 by omega]
      omega

theorem nv_ext {G : Nat → Nat} {m : Nat} (h : ∀ j, m ≤ j → G j = 0) (k : Nat) (hk : m ≤ k) : nv G k = nv G m := by
  obtain ⟨d, rfl⟩ : ∃ d, k = m + d := ⟨k - m, by omega⟩
  clear hk
  induction d with
  | zero => rfl
  | succ d ih => rw [← Nat.add_assoc, nv, ih, h (m + d) (by omega), Nat.zero_mul, Nat.add_zero]

theorem nv_zero : ∀ K, nv (fun _ => 0) K = 0
  | 0 => rfl
  | K + 1 => by rw [nv, nv_zero K, Nat.zero_mul]

theorem cols_eq {F G : Nat → Nat} {m : Nat} (hG : ∀ j, m ≤ j → G j = 0) : ∀ n K, n + m ≤ K → cols F G n K = nv F n * nv G m
  | 0, K, _ => by
    unfold cols
    rw [nv, Nat.zero_mul]
    rw [nv_congr (g := fun _ => 0) K fun j _ => by unfold cvn; rw [sm]]
    exact nv_zero K
  | n + 1, K, h => by
    rw [cols_succ, cols_eq hG n K (by omega), nv_ext hG (K - n) (by omega), nv, Nat.add_mul]

/-- one column -/
theorem col_step {K V S R : Nat} {q : Nat → Nat} (e : nv q K + V * LB ^ K = R) :
    nv (fun j => if j = K then (V + S) % LB else q j) (K + 1) + (V + S) / LB * LB ^ (K + 1) = R + S * LB ^ K := by
  rw [nv, if_pos rfl, nv_congr (g := q) K fun j hj => if_neg (by omega)]
  have h2 : V + S = LB * ((V + S) / LB) + (V + S) % LB := (Nat.div_add_mod _ _).symm
  generalize (V + S) / LB = d at *
  generalize (V + S) % LB = r at *
  have h3 := congrArg (· * LB ^ K) h2
  simp only [Nat.add_mul] at h3
  rw [Nat.pow_succ, show d * (LB ^ K * LB) = LB * d * LB ^ K by rw [Nat.mul_comm (LB ^ K) LB, ← Nat.mul_assoc, Nat.mul_comm d LB]]
  omega
end Go.Proofs.YtbjaolmlnkliiaaGreatDoor

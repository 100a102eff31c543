/- Plain numbers: products of lists of limbs, by rows and by columns. No conditions. -/
import Derived.Test.YtmcacofpnnaplaaGreatDoorAddMath
namespace Go.Proofs.YtmcacofpnnaplaaGreatDoor

theorem nv_set (q : Nat → Nat) (p x : Nat) : ∀ N, p < N → nv (fun j => if j = p then x else q j) N + q p * LB ^ p = nv q N + x * LB ^ p
  | 0, h => by omega
  | N + 1, h => by
    rw [nv, nv]
    by_cases e : p = N
    · subst e
      rw [if_pos rfl, nv_congr (g := q) p fun j hj => if_neg (by omega)]
      omega
    · have := nv_set q p x N (by omega)
      rw [if_neg (by omega)]
      omega

/-- one limb of a row of a product -/
theorem times_step {N i k a b c R G : Nat} {q : Nat → Nat} (hk : i + k < N) (e : nv q N + c * LB ^ (i + k) = R + a * LB ^ i * G) :
    nv (fun j => if j = i + k then (c + q (i + k) + a * b) % LB else q j) N + (c + q (i + k) + a * b) / LB * LB ^ (i + (k + 1)) = R + a * LB ^ i * (G + b * LB ^ k) := by
  have h1 := nv_set q (i + k) ((c + q (i + k) + a * b) % LB) N hk
  have h2 : c + q (i + k) + a * b = LB * ((c + q (i + k) + a * b) / LB) + (c + q (i + k) + a * b) % LB := (Nat.div_add_mod _ _).symm
  generalize (c + q (i + k) + a * b) / LB = d at *
  generalize (c + q (i + k) + a * b) % LB = r at *
  have h3 := congrArg (· * LB ^ (i + k)) h2
  simp only [Nat.add_mul] at h3
  rw [show i + (k + 1) = (i + k) + 1 by omega, Nat.pow_succ, Nat.mul_add, show a * LB ^ i * (b * LB ^ k) = a * b * LB ^ (i + k) by rw [Nat.pow_add]; simp only [Nat.mul_assoc, Nat.mul_left_comm]]
  rw [show d * (LB ^ (i + k) * LB) = LB * d * LB ^ (i + k) by rw [Nat.mul_comm (LB ^ (i + k)) LB, ← Nat.mul_assoc, Nat.mul_comm d LB]]
  omega

theorem times_lt {a b c q : Nat} (ha : a < LB) (hb : b < LB) (hc : c < LB) (hq : q < LB) : (c + q + a * b) / LB < LB ∧ a * b ≤ 999999998000000001 := by
  have e := LB_eq
  rw [e] at ha hb hc hq
  have h : a * b ≤ 999999999 * 999999999 := Nat.mul_le_mul (by omega) (by omega)
  refine ⟨?_, by omega⟩
  rw [Nat.div_lt_iff_lt_mul LB_pos, e]
  omega

/-- the last limb of a row -/
theorem times_row {N i m c : Nat} {f g q : Nat → Nat} (hi : i + m < N) (h0 : q (i + m) = 0) (e : nv q N + c * LB ^ (i + m) = nv f i * nv g m + f i * LB ^ i * nv g m) :
    nv (fun j => if j = i + m then c else q j) N = nv f (i + 1) * nv g m := by
  have h1 := nv_set q (i + m) c N hi
  rw [h0, Nat.zero_mul, Nat.add_zero, e] at h1
  rw [h1, nv, Nat.add_mul]

/-- a sum of values -/
def sm (h : Nat → Nat) : Nat → Nat
  | 0 => 0
  | k + 1 => sm h k + h k
theorem sm_congr {h h' : Nat → Nat} : ∀ n, (∀ j, j < n → h j = h' j) → sm h n = sm h' n
  | 0, _ => rfl
  | n + 1, H => by rw [sm, sm, sm_congr n (fun j hj => H j (by omega)), H n (by omega)]
theorem sm_zero (h : Nat → Nat) : ∀ n, (∀ j, j < n → h j = 0) → sm h n = 0
  | 0, _ => rfl
  | n + 1, H => by rw [sm, sm_zero h n (fun j hj => H j (by omega)), H n (by omega)]
theorem sm_split (h : Nat → Nat) (a : Nat) : ∀ b, sm h (a + b) = sm h a + sm (fun t => h (a + t)) b
  | 0 => by simp [sm]
  | b + 1 => by rw [← Nat.add_assoc, sm, sm_split h a b, sm, Nat.add_assoc]
theorem sm_le {h : Nat → Nat} {B : Nat} : ∀ n, (∀ j, j < n → h j ≤ B) → sm h n ≤ n * B
  | 0, _ => by simp [sm]
  | n + 1, H => by
    have := sm_le n (fun j hj => H j (by omega))
    have := H n (by omega)
    rw [sm, Nat.add_mul]; omega

/-- what stands at place p of the product of the first n limbs of F and of G -/
def cvn (F G : Nat → Nat) (n p : Nat) : Nat := sm (fun i => if i ≤ p then F i * G (p - i) else 0) n
/-- the sum of the columns below place K -/
def cols (F G : Nat → Nat) (n K : Nat) : Nat := nv (cvn F G n) K

theorem cols_succ (F G : Nat → Nat) (n : Nat) : ∀ K, cols F G (n + 1) K = cols F G n K + F n * LB ^ n * nv G (K - n)
  | 0 => by simp [cols, nv]
  | K + 1 => by
    have ih := cols_succ F G n K
    unfold cols at *
    rw [nv, nv, ih]
    have e : cvn F G (n + 1) K = cvn F G n K + (if n ≤ K then F n * G (K - n) else 0) := by unfold cvn; rw [sm]
    rw [e, Nat.add_mul]
    by_cases h : n ≤ K
    · rw [if_pos h, show K + 1 - n = (K - n) + 1 by omega, nv, Nat.mul_add]
      have : F n * G (K - n) * LB ^ K = F n * LB ^ n * (G (K - n) * LB ^ (K - n)) := by
        rw [show LB ^ K = LB ^ n * LB ^ (K - n) by rw [← Nat.pow_add]; congr 1; omega]
        simp only [Nat.mul_assoc, Nat.mul_left_comm]
      omega
    · rw [if_neg h, show K + 1 - n = 0 by omega, show K - n = 0 by omega]
      omega

theorem nv_ext {G : Nat → Nat} {m : Nat} (h : ∀ j, m ≤ j → G j = 0) (k : Nat) (hk : m ≤ k) : nv G k = nv G m := by
  obtain ⟨d, rfl⟩ : ∃ d, k = m + d := ⟨k - m, by omega⟩
  clear hk
  induction d with
  | zero => rfl
  | succ d ih => rw [← Nat.add_assoc, nv, ih, h (m + d) (by omega), Nat.zero_mul, Nat.add_zero]

theorem nv_zero : ∀ K, nv (fun _ => 0) K = 0
  | 0 => rfl
  | K + 1 => by rw [nv, nv_zero K, Nat.zero_mul]

theorem cols_eq {F G : Nat → Nat} {m : Nat} (hG : ∀ j, m ≤ j → G j = 0) : ∀ n K, n + m ≤ K → cols F G n K = nv F n * nv G m
  | 0, K, _ => by
    unfold cols
    rw [nv, Nat.zero_mul]
    rw [nv_congr (g := fun _ => 0) K fun j _ => by unfold cvn; rw [sm]]
    exact nv_zero K
  | n + 1, K, h => by
    rw [cols_succ, cols_eq hG n K (by omega), nv_ext hG (K - n) (by omega), nv, Nat.add_mul]

/-- one column -/
theorem col_step {K V S R : Nat} {q : Nat → Nat} (e : nv q K + V * LB ^ K = R) :
    nv (fun j => if j = K then (V + S) % LB else q j) (K + 1) + (V + S) / LB * LB ^ (K + 1) = R + S * LB ^ K := by
  rw [nv, if_pos rfl, nv_congr (g := q) K fun j hj => if_neg (by omega)]
  have h2 : V + S = LB * ((V + S) / LB) + (V + S) % LB := (Nat.div_add_mod _ _).symm
  generalize (V + S) / LB = d at *
  generalize (V + S) % LB = r at *
  have h3 := congrArg (· * LB ^ K) h2
  simp only [Nat.add_mul] at h3
  rw [Nat.pow_succ, show d * (LB ^ K * LB) = LB * d * LB ^ K by rw [Nat.mul_comm (LB ^ K) LB, ← Nat.mul_assoc, Nat.mul_comm d LB]]
  omega
end Go.Proofs.YtmcacofpnnaplaaGreatDoor

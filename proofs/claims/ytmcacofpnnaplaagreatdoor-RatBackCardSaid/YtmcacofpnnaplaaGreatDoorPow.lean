/- The contract of Pow. Conditions as premises: the list reads. -/
import Derived.Test.YtmcacofpnnaplaaGreatDoorMul
namespace Go.Proofs.YtmcacofpnnaplaaGreatDoor
open Go.RowKit Go.Shelf

theorem bitLen_gt : ∀ (s x : Nat), x < 2 ^ s → s ≤ 64 → x < 2 ^ (Lib.bitLen x)
  | 0, x, h, _ => by
    obtain rfl : x = 0 := by simpa using h
    exact Nat.pow_pos (by omega)
  | s + 1, x, h, hs => by
    rcases Nat.eq_zero_or_pos x with h0 | h0
    · subst h0; exact Nat.pow_pos (by omega)
    · have h1 : x / 2 < 2 ^ s := by rw [Nat.div_lt_iff_lt_mul (by omega), ← Nat.pow_succ]; exact h
      have h2 := bitLen_gt s (x / 2) h1 (by omega)
      rw [Lib.bitLen_half x (by omega) (Nat.lt_of_lt_of_le h (Nat.pow_le_pow_right (by omega) hs)), Nat.add_comm, Nat.pow_succ]
      omega

theorem and1_i64 (n : Nat) (hn : n < 9223372036854775808) : bits .and .i64 (n : Int) 1 = ((n % 2 : Nat) : Int) := by
  have h1 : (BitVec.ofInt 64 (n : Int)).toNat = n := by
    rw [BitVec.ofInt_natCast, BitVec.toNat_ofNat]; exact Nat.mod_eq_of_lt (by omega)
  show IntKind.i64.wrap ((BitVec.ofInt 64 (n : Int) &&& BitVec.ofInt 64 1).toNat : Int) = _
  rw [BitVec.toNat_and, h1, show (BitVec.ofInt 64 1).toNat = 2 ^ 1 - 1 from rfl, Nat.and_two_pow_sub_one_eq_mod, IntKind.wrap_i64]
  omega

theorem bit_test (k p : Nat) (hk : k ≤ 10000) : (bits .and .i64 ((k : Int) / 2 ^ p) 1 == 0) = decide (k / 2 ^ p % 2 = 0) := by
  have e : (k : Int) / 2 ^ p = ((k / 2 ^ p : Nat) : Int) := by rw [Int.natCast_ediv, Int.natCast_pow]; rfl
  have h : k / 2 ^ p ≤ k := Nat.div_le_self _ _
  rw [e, and1_i64 _ (by omega)]
  by_cases hz : k / 2 ^ p % 2 = 0
  · rw [decide_eq_true hz, hz]; rfl
  · rw [decide_eq_false hz, beq_eq_false_iff_ne]; omega

theorem half_step (k p : Nat) : k / 2 ^ p = 2 * (k / 2 ^ (p + 1)) + k / 2 ^ p % 2 := by
  rw [Nat.pow_succ, ← Nat.div_div_eq_div_mul]
  omega

theorem pow_small {a j : Nat} (h : LB ^ NL ≤ a ^ j) : 2 ≤ a := by
  rcases Nat.lt_or_ge a 2 with h2 | h2
  · exfalso
    have h3 : a ^ j ≤ 1 := by
      calc a ^ j ≤ 1 ^ j := Nat.pow_le_pow_left (by omega) j
        _ = 1 := Nat.one_pow j
    have h4 : 1 < LB ^ NL := one_lt_NL
    omega
  · exact h2

end Go.Proofs.YtmcacofpnnaplaaGreatDoor

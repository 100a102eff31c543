/- The contracts of the functions that turn machine words into lists of limbs, and back. Conditions as premises: the word is not negative and fits its kind; a list that becomes a word is short enough. -/
import Derived.Test.YtmcacofpnnaplaaGreatDoorOrd
namespace Go.Proofs.YtmcacofpnnaplaaGreatDoor
open Go.RowKit

theorem info32 : (Tryz.prog.info? 48).map (fun i => (i.zero, i.size, i.bytes)) = some (some (.int .u32 0), 1, 4) := by kernel_rfl

/-- what a call that makes a list of limbs leaves: a valid list of the number N, and all that was there as it was -/
def Made (w : World) (N : Nat) (v : Value) (w' : World) : Prop := ∃ A n c f, v = .slice A n c ∧ Rs w' w'.heap.size A n c f ∧ Dig n f N ∧ Below w.heap.size w w'

theorem iv_mod (N k : Nat) : iv (N / LB ^ k) % 1000000000 = iv (dig N k) := by
  rw [iv_eq, iv_eq]; unfold dig
  have := LB_eq
  rw [LB_eq]; omega
theorem iv_div (N k : Nat) : iv (N / LB ^ k) / 1000000000 = iv (N / LB ^ (k + 1)) := by
  rw [iv_eq, iv_eq, Nat.pow_succ, ← Nat.div_div_eq_div_mul]
  have := LB_eq
  rw [LB_eq]; omega
theorem div_lt3 {N k : Nat} (hN : N < 18446744073709551616) (h : N / LB ^ k ≠ 0) : k < 3 := by
  rcases Nat.lt_or_ge k 3 with h3 | h3
  · exact h3
  · exfalso; apply h
    apply Nat.div_eq_of_lt
    have h1 : LB ^ 3 ≤ LB ^ k := pow_le_of h3
    have h2 : LB ^ 3 = 1000000000000000000000000000 := by rw [LB_eq]
    omega

theorem made_of {w w' : World} {N k : Nat} {v : Value} (hown : Own w' w.heap.size v k (dig N)) (hb : Below w.heap.size w w') (h0 : N / LB ^ k = 0) (hk : ∀ j, j < k → N / LB ^ j ≠ 0) : Made w N v w' := by
  obtain ⟨A, c, rfl, hr⟩ := hown.rs (fun j _ => by have := dig_lt N j; rw [LB_eq] at this; omega)
  exact ⟨A, k, c, dig N, rfl, hr, dig_of_rounds h0 hk, hb⟩

theorem snoc_below {w wr w1 : World} {base n : Nat} {v : Value} {f : Nat → Nat} {o : Obj} (hown : Own wr base v n f) (hb : Below w.heap.size w wr) (hbase : w.heap.size ≤ base) (hsz : base ≤ wr.heap.size) (hg : (wr.alloc o).grownBy w1 v.ownBlock) : Below w.heap.size w w1 :=
  (hb.alloc (by omega) o).grown hg (by simp; omega) (fun j hj => by have := (World.ownsRow.lt hown j hj).1; omega)

set_option maxHeartbeats 800000 in
theorem fromWord_nat (N : Nat) (hN : Big (N < 18446744073709551616)) (w : World) :
    Calls Tryz.prog 150 #[.int .u64 (iv N)] w fun e w' => ∃ v, e = .returned v ∧ Made w N v w' := by
  obtain ⟨i0, hi, hz0, hz1, hz2⟩ := info_parts info32
  go_enter Tryz.func150, Tryz.ntmps150
  go_wp2
  go_loopw [0, 3] (fun u v wr => ∃ k : Nat, k ≤ 3 ∧ u = .int .u64 (iv (N / LB ^ k)) ∧ Own wr w.heap.size v k (dig N) ∧ Below w.heap.size w wr ∧ Hid (∀ j, j < k → N / LB ^ j ≠ 0)) (fun u _ _ => (intOf u).toNat)
  case atStart => exact ⟨0, by omega, by simp, Own.nil _ _ _, Below.refl _ _, fun j hj => by omega⟩
  case round =>
    obtain ⟨k, hk, rfl, hown, hbel, hpre⟩ := hrel
    have hx0 : 0 ≤ iv (N / LB ^ k) := iv_nonneg _
    have hmod := Lib.hid (iv_mod N k)
    have hdiv := Lib.hid (iv_div N k)
    by_cases hq : N / LB ^ k = 0
    · rw [show iv (N / LB ^ k) = 0 by rw [hq, iv_zero]]
      have HQ := Lib.hid hq
      clear hq hx0
      go_wp2
      go_ret
      exact ⟨_, rfl, made_of hown hbel HQ.out hpre.out⟩
    · have hz := iv_pos hq
      have hx1 := iv_u64 (Nat.lt_of_le_of_lt (Nat.div_le_self N (LB ^ k)) hN.out)
      have hk3 := div_lt3 hN.out hq
      have HQ := Lib.hid hq
      clear hq
      generalize hgx : iv (N / LB ^ k) = x at *
      have HGX := Lib.hid hgx
      clear hgx
      have hsz := hbel.size
      go_wp2_with (at_builtin; refine wpList_append_own _ rfl (.tmp 8) (.tmp 12) 23 rfl w.heap.size 48 i0 (.int .u32 0) 1 4 Tryz.underlying23 hi hz0 hz1 hz2 rfl (by decide) _ _ _ rfl (World.ownsRow.alloc hown _) ⟨wr.heap.size, 0, none⟩ 1 1 [.int .u32 (x % 1000000000)] rfl rfl (cell_one_new _ _ _) ?c2 ?c3 ?c4 ?c5 ?_)
      case c2 => intro u hu; simp at hu; subst hu; rfl
      case c3 => unfold maxLen; omega
      case c4 => omega
      case c5 => simp; omega
      intro v' w1 hown' hgrow _
      have hb1 := snoc_below hown hbel (Nat.le_refl _) hsz hgrow
      rw [hmod.out] at hown'
      have hown1 := Own.snoc hown' rfl
      clear hown' hgrow hown hbel
      go_wp2
      go_roundw
      case rel => exact ⟨k + 1, by omega, by rw [hdiv.out], hown1, hb1, fun j hj => by
        by_cases e : j = k
        · subst e; exact HQ.out
        · exact hpre.out j (by omega)⟩
      case measure => simp [intOf] <;> omega


theorem fromWord_any (x : Int) (h0 : 0 ≤ x) (h1 : Big (x < 18446744073709551616)) (w : World) :
    Calls Tryz.prog 150 #[.int .u64 x] w fun e w' => ∃ v, e = .returned v ∧ Made w x.toNat v w' := by
  obtain ⟨N, rfl⟩ := Int.eq_ofNat_of_zero_le h0
  have h := fromWord_nat N (Big.mk (by have := h1.out; omega)) w
  rw [iv_eq] at h
  exact h

theorem natOf_neg (a : Int) (h : a < 0) (w : World) :
    Calls Tryz.prog 126 #[.int .i64 a] w fun e w' => e = .returned (.tuple #[.slice none 0 0, .int .i64 2]) ∧ w = w' := by
  go_enter Tryz.func126, Tryz.ntmps126
  go_wp2
  go_ret2
  exact ⟨rfl, rfl⟩

theorem natOf_pos (a : Int) (h : 0 ≤ a) (h1 : a ≤ 9223372036854775807) (w : World) :
    Calls Tryz.prog 126 #[.int .i64 a] w fun e w' => ∃ v, e = .returned (.tuple #[v, .int .i64 0]) ∧ Made w a.toNat v w' := by
  have hH : Big (a < 18446744073709551616) := Big.mk (by omega)
  go_enter Tryz.func126, Tryz.ntmps126
  go_wp2_with (go_at_call 150; refine (fromWord_any _ h hH _).mono ?_; rintro e w' ⟨v, rfl, hm⟩)
  go_ret2
  exact ⟨_, rfl, hm⟩

end Go.Proofs.YtmcacofpnnaplaaGreatDoor

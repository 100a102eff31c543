/- The contracts of the two functions that compare valid lists of limbs: they say the sign of the difference of the numbers. Conditions as premises: the lists read and are valid. -/
import Derived.Test.YtmcacofpnnaplaaGreatDoorBase
namespace Go.Proofs.YtmcacofpnnaplaaGreatDoor
open Go.RowKit

theorem quiet_add_left {P : Program} {f : FuncId} {args : Array Value} {w : World} {a n : Nat} {v : Value}
    (h : Calls P f args (w.drewN (a + n)) fun e w' => e = .returned v ∧ w.drewN (a + n) = w') :
    Calls P f args (w.drewN (a + n)) fun e w'' => e = .returned v ∧ ∃ m, w'' = w.drewN (a + m) :=
  h.mono fun _ _ ⟨he, hm⟩ => ⟨he, n, hm.symm⟩
theorem quiet_left {P : Program} {f : FuncId} {args : Array Value} {w : World} {n : Nat} {v : Value}
    (h : Calls P f args (w.drewN n) fun e w' => e = .returned v ∧ w.drewN n = w') : Calls P f args (w.drewN n) fun e w'' => e = .returned v ∧ ∃ m, w'' = w.drewN m :=
  h.mono fun _ _ ⟨he, hm⟩ => ⟨he, n, hm.symm⟩

theorem c3_lt {a b : Int} (h : a < b) : c3 a b = -1 := by unfold c3; rw [if_pos h]
theorem c3_gt {a b : Int} (h : b < a) : c3 a b = 1 := by unfold c3; rw [if_neg (by omega), if_pos h]
theorem c3_eq (a : Int) : c3 a a = 0 := by unfold c3; rw [if_neg (by omega), if_neg (by omega)]

/-- the sign of a comparison of numbers -/
def cn (a b : Nat) : Int := c3 (a : Int) (b : Int)
theorem cn_lt {a b : Nat} (h : a < b) : cn a b = -1 := c3_lt (by omega)
theorem cn_gt {a b : Nat} (h : b < a) : cn a b = 1 := c3_gt (by omega)
theorem cn_eq {a b : Nat} (h : a = b) : cn a b = 0 := by subst h; exact c3_eq _

theorem cn_len {n m : Nat} {f g : Nat → Nat} (hf : Val n f) (hg : Val m g) (h : n ≠ m) : c3 (n : Int) (m : Int) = cn (nv f n) (nv g m) := by
  rcases Nat.lt_or_gt_of_ne h with h | h
  · rw [c3_lt (by omega), cn_lt (hf.lt_of_len hg h)]
  · rw [c3_gt (by omega), cn_gt (hg.lt_of_len hf h)]

theorem cn_at {n k : Nat} {f g : Nat → Nat} (hf : Val n f) (hg : Val n g) (hk : k < n) (he : ∀ j, k < j → j < n → f j = g j) (h : f k ≠ g k) : c3 (iv (f k)) (iv (g k)) = cn (nv f n) (nv g n) := by
  rcases Nat.lt_or_gt_of_ne h with h | h
  · rw [c3_lt (by rw [iv_eq, iv_eq]; omega), cn_lt (nv_lt_at n k hk hf.1 he h)]
  · rw [c3_gt (by rw [iv_eq, iv_eq]; omega), cn_gt (nv_lt_at n k hk hg.1 (fun j a b => (he j a b).symm) h)]

theorem cn_all {n : Nat} {f g : Nat → Nat} (he : ∀ j, j < n → f j = g j) : cn (nv f n) (nv g n) = 0 := cn_eq (nv_congr n he)

theorem iv_ne {a b : Nat} (h : a ≠ b) : (iv a != iv b) = true ∧ (iv a == iv b) = false := by
  have : iv a ≠ iv b := by rw [iv_eq, iv_eq]; omega
  exact ⟨by rw [bne_iff_ne]; exact this, by rw [beq_eq_false_iff_ne]; exact this⟩

set_option maxHeartbeats 400000 in
theorem compare_any (A A' : Option Addr) (n c m c' : Nat) (f g : Nat → Nat) (B B' : Nat) (w : World) (hA : Rs w B A n c f) (hB : Rs w B' A' m c' g) (vf : Val n f) (vg : Val m g) :
    Calls Tryz.prog 146 #[.slice A n c, .slice A' m c'] w fun e w' => e = .returned (.int .i64 (cn (nv f n) (nv g m))) ∧ Qt w w' := by
  have hmax : n ≤ 9223372036854775807 := Nat.le_trans hA.cap hA.max
  have hmax' : m ≤ 9223372036854775807 := Nat.le_trans hB.cap hB.max
  by_cases hnm : n = m
  · subst hnm
    by_cases h0 : 0 < n
    · obtain ⟨b, off, rfl, hb, hc⟩ := hA.cell h0
      obtain ⟨b', off', rfl, hb', hc'⟩ := hB.cell h0
      have HC := Lib.hid hc
      have HC' := Lib.hid hc'
      clear hc hc'
      go_enter Tryz.func146, Tryz.ntmps146
      go_wp2
      go_loopw [5] (fun i wr => ∃ k d : Nat, k ≤ n ∧ i = .int .i64 ((k : Int) - 1) ∧ wr = w.drewN d ∧ Hid (∀ j, k ≤ j → j < n → f j = g j)) (fun i _ => (intOf i + 1).toNat)
      case atStart => exact ⟨n, 0, by omega, rfl, rfl, fun j h1 h2 => by omega⟩
      case round =>
        obtain ⟨k, d, hk, rfl, rfl, hab⟩ := hrel
        by_cases hk0 : k = 0
        · subst hk0
          go_wp2
          go_ret
          exact ⟨ret_int (by rw [cn_all fun j hj => hab j (Nat.zero_le _) hj]), _, rfl⟩
        · obtain ⟨q, rfl⟩ : ∃ q, k = q + 1 := ⟨k - 1, by omega⟩
          rw [show (((q + 1 : Nat) : Int) - 1) = (q : Int) by omega]
          have hck := HC.out q (by omega)
          have hck' := HC'.out q (by omega)
          have hqn : q < n := by omega
          by_cases he : f q = g q
          · rw [← he] at hck'
            have HE := Lib.hid he
            clear he
            go_wp2
            go_quiet (fail)
            go_wp2
            go_roundw
            case rel => exact ⟨q, _, by omega, rfl, rfl, fun j h1 h2 => by
              by_cases e : j = q
              · subst e; exact HE.out
              · exact hab j (by omega) h2⟩
            case measure => simp [intOf] <;> omega
          · obtain ⟨hne, hne'⟩ := iv_ne he
            have hfin := Lib.hid (cn_at vf vg hqn (fun j h1 h2 => hab j (by omega) h2) he)
            clear he
            go_wp2
            go_quiet (fail)
            go_wp2
            go_quiet ((go_at_call 162; first | exact quiet_add_left (cmpU32_any _ _ _) | exact quiet_left (cmpU32_any _ _ _)))
            go_wp2
            go_ret
            exact ⟨ret_int (by rw [hfin.out]), by first | exact Qt.n1 _ _ | exact Qt.n2 _ _ _ | exact Qt.n3 _ _ _ _⟩
    · obtain rfl : n = 0 := by omega
      go_enter Tryz.func146, Tryz.ntmps146
      go_wp2
      refine wp_loop_rounds 1 ?_
      rw [rounds_succ]
      go_wp2
      go_ret
      exact ⟨rfl, Qt.refl _⟩
  · have hne : ((n : Int) != (m : Int)) = true := by rw [bne_iff_ne]; omega
    have hne' : ((n : Int) == (m : Int)) = false := by rw [beq_eq_false_iff_ne]; omega
    have hfin := Lib.hid (cn_len vf vg hnm)
    have hnm' := Lib.hid hnm
    clear hnm
    go_enter Tryz.func146, Tryz.ntmps146
    go_wp2_with (go_at_call 125; refine (cmpInt_any _ _ _).mono ?_; rintro e w' ⟨rfl, rfl⟩)
    go_ret
    exact ⟨ret_int (by rw [hfin.out]), Qt.refl _⟩

set_option maxHeartbeats 400000 in
theorem order_any (A A' : Option Addr) (n c m c' : Nat) (f g : Nat → Nat) (B B' : Nat) (w : World) (hA : Rs w B A n c f) (hB : Rs w B' A' m c' g) (vf : Val n f) (vg : Val m g) :
    Calls Tryz.prog 99 #[.slice A n c, .slice A' m c'] w fun e w' => e = .returned (.int .i64 (cn (nv f n) (nv g m))) ∧ Qt w w' := by
  have hmax : n ≤ 9223372036854775807 := Nat.le_trans hA.cap hA.max
  have hmax' : m ≤ 9223372036854775807 := Nat.le_trans hB.cap hB.max
  by_cases hnm : n = m
  · subst hnm
    by_cases h0 : 0 < n
    · obtain ⟨b, off, rfl, hb, hc⟩ := hA.cell h0
      obtain ⟨b', off', rfl, hb', hc'⟩ := hB.cell h0
      have HC := Lib.hid hc
      have HC' := Lib.hid hc'
      clear hc hc'
      go_enter Tryz.func99, Tryz.ntmps99
      go_wp2
      go_loopw [5] (fun i wr => ∃ k d : Nat, k ≤ n ∧ i = .int .i64 ((k : Int) - 1) ∧ wr = w.drewN d ∧ Hid (∀ j, k ≤ j → j < n → f j = g j)) (fun i _ => (intOf i + 1).toNat)
      case atStart => exact ⟨n, 0, by omega, rfl, rfl, fun j h1 h2 => by omega⟩
      case round =>
        obtain ⟨k, d, hk, rfl, rfl, hab⟩ := hrel
        by_cases hk0 : k = 0
        · subst hk0
          go_wp2
          go_ret
          exact ⟨ret_int (by rw [cn_all fun j hj => hab j (Nat.zero_le _) hj]), _, rfl⟩
        · obtain ⟨q, rfl⟩ : ∃ q, k = q + 1 := ⟨k - 1, by omega⟩
          rw [show (((q + 1 : Nat) : Int) - 1) = (q : Int) by omega]
          have hck := HC.out q (by omega)
          have hck' := HC'.out q (by omega)
          have hqn : q < n := by omega
          rcases Nat.lt_trichotomy (f q) (g q) with he | he | he
          · have hfin := Lib.hid (cn_lt (nv_lt_at n q hqn vf.1 (fun j h1 h2 => hab j (by omega) h2) he))
            have hlt : iv (f q) < iv (g q) := by rw [iv_eq, iv_eq]; omega
            clear he
            go_wp2
            go_quiet (fail)
            go_wp2
            go_ret
            exact ⟨ret_int (by rw [hfin.out]), by first | exact Qt.n1 _ _ | exact Qt.n2 _ _ _ | exact Qt.n3 _ _ _ _⟩
          · rw [← he] at hck'
            have HE := Lib.hid he
            clear he
            go_wp2
            go_quiet (fail)
            go_wp2
            go_quiet (fail)
            go_wp2
            go_roundw
            case rel => exact ⟨q, _, by omega, rfl, rfl, fun j h1 h2 => by
              by_cases e : j = q
              · subst e; exact HE.out
              · exact hab j (by omega) h2⟩
            case measure => simp [intOf] <;> omega
          · have hfin := Lib.hid (cn_gt (nv_lt_at n q hqn vg.1 (fun j h1 h2 => (hab j (by omega) h2).symm) he))
            have hlt : iv (g q) < iv (f q) := by rw [iv_eq, iv_eq]; omega
            have hlt' : ¬ iv (f q) < iv (g q) := by omega
            clear he
            go_wp2
            go_quiet (fail)
            go_wp2
            go_quiet (fail)
            go_wp2
            go_ret
            exact ⟨ret_int (by rw [hfin.out]), by first | exact Qt.n1 _ _ | exact Qt.n2 _ _ _ | exact Qt.n3 _ _ _ _⟩
    · obtain rfl : n = 0 := by omega
      go_enter Tryz.func99, Tryz.ntmps99
      go_wp2
      refine wp_loop_rounds 1 ?_
      rw [rounds_succ]
      go_wp2
      go_ret
      exact ⟨rfl, Qt.refl _⟩
  · have hne : ((n : Int) != (m : Int)) = true := by rw [bne_iff_ne]; omega
    have hne' : ((n : Int) == (m : Int)) = false := by rw [beq_eq_false_iff_ne]; omega
    rcases Nat.lt_or_gt_of_ne hnm with hlt | hlt
    · have hfin := Lib.hid (cn_lt (vf.lt_of_len vg hlt))
      clear hnm
      go_enter Tryz.func99, Tryz.ntmps99
      go_wp2
      go_ret
      exact ⟨ret_int (by rw [hfin.out]), Qt.refl _⟩
    · have hfin := Lib.hid (cn_gt (vg.lt_of_len vf hlt))
      have hlt' : ¬ n < m := by omega
      clear hnm
      go_enter Tryz.func99, Tryz.ntmps99
      go_wp2
      go_ret
      exact ⟨ret_int (by rw [hfin.out]), Qt.refl _⟩

end Go.Proofs.YtmcacofpnnaplaaGreatDoor

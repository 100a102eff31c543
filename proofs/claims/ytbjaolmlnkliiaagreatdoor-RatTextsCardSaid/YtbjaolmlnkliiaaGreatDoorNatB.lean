/- The contracts of the functions under the laws of package rat: Check, Base, Ord, Word, Gen, Lit, DivMath, joined into one file. -/
import Derived.Test.YtbjaolmlnkliiaaGreatDoorNatW
import Derived.Test.YtbjaolmlnkliiaaGreatDoorRows
import Derived.Outline
import Derived.Lib.Hide
import Derived.BigQuiet
import Derived.Deep.QuietTactic
import Derived.Test.YtbjaolmlnkliiaaGreatDoorNatA
/- The contracts of the functions that say whether a list of limbs is valid. No conditions. -/
namespace Go.Proofs.YtbjaolmlnkliiaaGreatDoor
open Go.RowKit

/-- what Check says of a list: its error -/
noncomputable def chk (n : Nat) (f : Nat → Nat) : Int := by
  classical exact if 1024 < n then 4 else if Val n f then 0 else 3

theorem chk_long {n : Nat} {f : Nat → Nat} (h : 1024 < n) : chk n f = 4 := by unfold chk; rw [if_pos h]
theorem chk_ok {n : Nat} {f : Nat → Nat} (h : ¬ 1024 < n) (hv : Val n f) : chk n f = 0 := by unfold chk; rw [if_neg h, if_pos hv]
theorem chk_bad {n : Nat} {f : Nat → Nat} (h : ¬ 1024 < n) (hv : ¬ Val n f) : chk n f = 3 := by unfold chk; rw [if_neg h, if_neg hv]
theorem chk_zero {n : Nat} {f : Nat → Nat} (h : chk n f = 0) : n ≤ 1024 ∧ Val n f := by
  unfold chk at h
  split at h
  · cases h
  · split at h
    · exact ⟨by omega, by assumption⟩
    · cases h

theorem ret_int {k : IntKind} {a b : Int} (h : a = b) : Ending.returned (.int k a) = .returned (.int k b) := by rw [h]

set_option maxHeartbeats 400000 in
set_option maxRecDepth 100000 in
theorem check_long (A : Option Addr) (n c : Nat) (w : World) (hn : 1024 < n) :
    Calls Tryz.prog 93 #[.slice A n c] w fun e w' => e = .returned (.int .i64 4) ∧ w = w' := by
  go_enter Tryz.func93, Tryz.ntmps93
  go_wp2
  go_ret
  exact ⟨rfl, rfl⟩

set_option maxHeartbeats 400000 in
theorem check_nil (A : Option Addr) (c : Nat) (w : World) :
    Calls Tryz.prog 93 #[.slice A 0 c] w fun e w' => e = .returned (.int .i64 0) ∧ w = w' := by
  go_enter Tryz.func93, Tryz.ntmps93
  go_wp2
  refine wp_loop_rounds 1 ?_
  rw [rounds_succ]
  go_wp2
  go_ret
  exact ⟨rfl, rfl⟩

set_option maxHeartbeats 400000 in
theorem check_any (A : Option Addr) (n c : Nat) (f : Nat → Nat) (B : Nat) (w : World) (h : Rs w B A n c f) :
    Calls Tryz.prog 93 #[.slice A n c] w fun e w' => e = .returned (.int .i64 (chk n f)) ∧ w = w' := by
  by_cases hn : 1024 < n
  · rw [chk_long hn]; exact check_long A n c w hn
  by_cases h0 : 0 < n
  · obtain ⟨b, off, rfl, hb, hc⟩ := h.cell h0
    have hmax : n ≤ 1024 := by omega
    have hp : (0 : Int) < (n : Int) := by omega
    have hct := hc (n - 1) (by omega)
    have HC := Lib.hid hc
    clear hc
    go_enter Tryz.func93, Tryz.ntmps93
    go_wp2
    go_loop [4, 10] (fun _ i => ∃ k : Nat, k ≤ n ∧ i = .int .i64 k ∧ Hid (∀ j, j < k → f j < LB)) (fun _ i => n - (intOf i).toNat)
    case atStart => exact ⟨0, by omega, rfl, fun j hj => by omega⟩
    case round =>
      obtain ⟨k, hk, rfl, hlow⟩ := hrel
      by_cases hlt : k < n
      · have hck := HC.out k hlt
        by_cases hbig : iv (f k) < 1000000000
        · go_wp2
          go_round
          case rel => exact ⟨k + 1, by omega, by go_num, fun j hj => by
            by_cases e : j = k
            · subst e; rw [LB_eq]; rw [iv_eq] at hbig; omega
            · exact hlow j (by omega)⟩
          case measure => simp [intOf] <;> omega
        · go_wp2
          go_ret
          exact ⟨ret_int (by rw [chk_bad hn]; intro hv; have := iv_limb (hv.1 k hlt); omega), rfl⟩
      · obtain rfl : k = n := by omega
        by_cases hz : f (k - 1) = 0
        · have hzz : iv (f (k - 1)) = 0 := by rw [hz, iv_eq]; rfl
          have hzb : (iv (f (k - 1)) == 0) = true := by rw [hzz]; rfl
          have HZ := Lib.hid hz
          have HZZ := Lib.hid hzz
          clear hz hzz
          go_wp2
          go_ret
          exact ⟨ret_int (by rw [chk_bad hn]; intro hv; exact hv.2 h0 HZ.out), rfl⟩
        · have hzb : (iv (f (k - 1)) == 0) = false := by rw [beq_eq_false_iff_ne]; intro e; apply hz; rw [iv_eq] at e; omega
          have HZ := Lib.hid hz
          clear hz
          go_wp2
          go_ret
          exact ⟨ret_int (by rw [chk_ok hn ⟨hlow, fun _ => HZ.out⟩]), rfl⟩
  · obtain rfl : n = 0 := by omega
    rw [chk_ok (by omega) ⟨fun j hj => by omega, fun h => by omega⟩]
    exact check_nil A c w

end Go.Proofs.YtbjaolmlnkliiaaGreatDoor

/- The contracts of the small functions on lists of limbs: long, Alike, compare, Order, Compare of cmp. Conditions as premises: the lists read, and are valid where the order is asked. -/
namespace Go.Proofs.YtbjaolmlnkliiaaGreatDoor
open Go.RowKit

theorem ret_bool {a b : Bool} (h : a = b) : Ending.returned (.bool a) = .returned (.bool b) := by rw [h]

/-- what 'long' says -/
def lng (n : Nat) (m : Int) : Bool := decide ((m < (n : Int) ∧ n ≤ 1024) ∨ 1100 < n)

/-- what a call that only reads leaves: some draws -/
def Qt (w w' : World) : Prop := ∃ k, w' = w.drewN k
theorem Qt.refl (w : World) : Qt w w := ⟨0, rfl⟩
theorem Qt.n1 (w : World) (a : Nat) : Qt w (w.drewN a) := ⟨a, rfl⟩
theorem Qt.n2 (w : World) (a b : Nat) : Qt w ((w.drewN a).drewN b) := ⟨a + b, World.drewN_drewN _ _ _⟩
theorem Qt.n3 (w : World) (a b c : Nat) : Qt w (((w.drewN a).drewN b).drewN c) := ⟨a + (b + c), by rw [World.drewN_drewN, World.drewN_drewN]⟩
theorem Qt.trans {w w1 w2 : World} (h : Qt w w1) (k : Qt w1 w2) : Qt w w2 := by
  obtain ⟨a, rfl⟩ := h; obtain ⟨b, rfl⟩ := k; exact Qt.n2 w a b
theorem Qt.below {w w1 : World} (h : Qt w w1) : Below w.heap.size w w1 := by
  obtain ⟨k, rfl⟩ := h; exact ⟨rfl, rfl, rfl, Nat.le_refl _, fun _ _ => rfl⟩

set_option maxHeartbeats 400000 in
theorem alike_true (A A' : Option Addr) (n c c' : Nat) (f g : Nat → Nat) (B B' : Nat) (w : World) (hA : Rs w B A n c f) (hB : Rs w B' A' n c' g) (he : ∀ j, j < n → f j = g j) :
    Calls Tryz.prog 89 #[.slice A n c, .slice A' n c'] w fun e w' => e = .returned (.bool true) ∧ Qt w w' := by
  have hmax : n ≤ 9223372036854775807 := Nat.le_trans hA.cap hA.max
  by_cases h0 : 0 < n
  · obtain ⟨b, off, rfl, hb, hc⟩ := hA.cell h0
    obtain ⟨b', off', rfl, hb', hc'⟩ := hB.cell h0
    have HC := Lib.hid hc
    have HC' := Lib.hid hc'
    have HE := Lib.hid he
    clear hc hc' he
    go_enter Tryz.func89, Tryz.ntmps89
    go_wp2
    go_loopw [5] (fun i wr => ∃ k d : Nat, k ≤ n ∧ i = .int .i64 k ∧ wr = w.drewN d) (fun i _ => n - (intOf i).toNat)
    case atStart => exact ⟨0, 0, by omega, rfl, rfl⟩
    case round =>
      obtain ⟨k, d, hk, rfl, rfl⟩ := hrel
      by_cases hlt : k < n
      · have hck := HC.out k hlt
        have hck' := HC'.out k hlt
        rw [← HE.out k hlt] at hck'
        go_wp2
        go_quiet (fail)
        go_wp2
        go_roundw
        case rel => exact ⟨k + 1, _, by omega, by go_num, rfl⟩
        case measure => simp [intOf] <;> omega
      · obtain rfl : k = n := by omega
        go_wp2
        go_ret
        exact ⟨rfl, _, rfl⟩
  · obtain rfl : n = 0 := by omega
    go_enter Tryz.func89, Tryz.ntmps89
    go_wp2
    refine wp_loop_rounds 1 ?_
    rw [rounds_succ]
    go_wp2
    go_ret
    exact ⟨rfl, Qt.refl _⟩

/-- the sign of a comparison -/
def c3 (a b : Int) : Int := if a < b then -1 else if b < a then 1 else 0

set_option maxHeartbeats 400000 in
theorem cmpInt_any (a b : Int) (w : World) :
    Calls Tryz.prog 164 #[.int .i64 a, .int .i64 b] w fun e w' => e = .returned (.int .i64 (c3 a b)) ∧ w = w' := by
  rcases Int.lt_trichotomy a b with h | h | h
  · have hf : c3 a b = -1 := by unfold c3; rw [if_pos h]
    rw [hf]
    go_enter Tryz.func164, Tryz.ntmps164
    go_wp2
    go_ret
    exact ⟨rfl, rfl⟩
  · subst h
    have hf : c3 a a = 0 := by unfold c3; rw [if_neg (by omega), if_neg (by omega)]
    rw [hf]
    go_enter Tryz.func164, Tryz.ntmps164
    go_wp2
    go_ret
    exact ⟨rfl, rfl⟩
  · have hf : c3 a b = 1 := by unfold c3; rw [if_neg (by omega), if_pos h]
    rw [hf]
    go_enter Tryz.func164, Tryz.ntmps164
    go_wp2
    go_ret
    exact ⟨rfl, rfl⟩

set_option maxHeartbeats 400000 in
theorem cmpU32_any (a b : Int) (w : World) :
    Calls Tryz.prog 223 #[.int .u32 a, .int .u32 b] w fun e w' => e = .returned (.int .i64 (c3 a b)) ∧ w = w' := by
  rcases Int.lt_trichotomy a b with h | h | h
  · have hf : c3 a b = -1 := by unfold c3; rw [if_pos h]
    rw [hf]
    go_enter Tryz.func223, Tryz.ntmps223
    go_wp2
    go_ret
    exact ⟨rfl, rfl⟩
  · subst h
    have hf : c3 a a = 0 := by unfold c3; rw [if_neg (by omega), if_neg (by omega)]
    rw [hf]
    go_enter Tryz.func223, Tryz.ntmps223
    go_wp2
    go_ret
    exact ⟨rfl, rfl⟩
  · have hf : c3 a b = 1 := by unfold c3; rw [if_neg (by omega), if_pos h]
    rw [hf]
    go_enter Tryz.func223, Tryz.ntmps223
    go_wp2
    go_ret
    exact ⟨rfl, rfl⟩

end Go.Proofs.YtbjaolmlnkliiaaGreatDoor

/- The contracts of the two functions that compare valid lists of limbs: they say the sign of the difference of the numbers. Conditions as premises: the lists read and are valid. -/
namespace Go.Proofs.YtbjaolmlnkliiaaGreatDoor
open Go.RowKit

theorem quiet_add_left {P : Program} {f : FuncId} {args : Array Value} {w : World} {a n : Nat} {v : Value}
    (h : Calls P f args (w.drewN (a + n)) fun e w' => e = .returned v ∧ w.drewN (a + n) = w') :
    Calls P f args (w.drewN (a + n)) fun e w'' => e = .returned v ∧ ∃ m, w'' = w.drewN (a + m) :=
  h.mono fun _ _ ⟨he, hm⟩ => ⟨he, n, hm.symm⟩
theorem quiet_left {P : Program} {f : FuncId} {args : Array Value} {w : World} {n : Nat} {v : Value}
    (h : Calls P f args (w.drewN n) fun e w' => e = .returned v ∧ w.drewN n = w') : Calls P f args (w.drewN n) fun e w'' => e = .returned v ∧ ∃ m, w'' = w.drewN m :=
  h.mono fun _ _ ⟨he, hm⟩ => ⟨he, n, hm.symm⟩

theorem c3_lt {a b : Int} (h : a < b) : c3 a b = -1 := by unfold c3; rw [if_pos h]
theorem c3_gt {a b : Int} (h : b < a) : c3 a b = 1 := by unfold c3; rw [if_neg (by omega), if_pos h]
theorem c3_eq (a : Int) : c3 a a = 0 := by unfold c3; rw [if_neg (by omega), if_neg (by omega)]

/-- the sign of a comparison of numbers -/
def cn (a b : Nat) : Int := c3 (a : Int) (b : Int)
theorem cn_lt {a b : Nat} (h : a < b) : cn a b = -1 := c3_lt (by omega)
theorem cn_gt {a b : Nat} (h : b < a) : cn a b = 1 := c3_gt (by omega)
theorem cn_eq {a b : Nat} (h : a = b) : cn a b = 0 := by subst h; exact c3_eq _

theorem cn_len {n m : Nat} {f g : Nat → Nat} (hf : Val n f) (hg : Val m g) (h : n ≠ m) : c3 (n : Int) (m : Int) = cn (nv f n) (nv g m) := by
  rcases Nat.lt_or_gt_of_ne h with h | h
  · rw [c3_lt (by omega), cn_lt (hf.lt_of_len hg h)]
  · rw [c3_gt (by omega), cn_gt (hg.lt_of_len hf h)]

theorem cn_at {n k : Nat} {f g : Nat → Nat} (hf : Val n f) (hg : Val n g) (hk : k < n) (he : ∀ j, k < j → j < n → f j = g j) (h : f k ≠ g k) : c3 (iv (f k)) (iv (g k)) = cn (nv f n) (nv g n) := by
  rcases Nat.lt_or_gt_of_ne h with h | h
  · rw [c3_lt (by rw [iv_eq, iv_eq]; omega), cn_lt (nv_lt_at n k hk hf.1 he h)]
  · rw [c3_gt (by rw [iv_eq, iv_eq]; omega), cn_gt (nv_lt_at n k hk hg.1 (fun j a b => (he j a b).symm) h)]

theorem cn_all {n : Nat} {f g : Nat → Nat} (he : ∀ j, j < n → f j = g j) : cn (nv f n) (nv g n) = 0 := cn_eq (nv_congr n he)

theorem iv_ne {a b : Nat} (h : a ≠ b) : (iv a != iv b) = true ∧ (iv a == iv b) = false := by
  have : iv a ≠ iv b := by rw [iv_eq, iv_eq]; omega
  exact ⟨by rw [bne_iff_ne]; exact this, by rw [beq_eq_false_iff_ne]; exact this⟩

set_option maxHeartbeats 400000 in
theorem compare_any (A A' : Option Addr) (n c m c' : Nat) (f g : Nat → Nat) (B B' : Nat) (w : World) (hA : Rs w B A n c f) (hB : Rs w B' A' m c' g) (vf : Val n f) (vg : Val m g) :
    Calls Tryz.prog 197 #[.slice A n c, .slice A' m c'] w fun e w' => e = .returned (.int .i64 (cn (nv f n) (nv g m))) ∧ Qt w w' := by
  have hmax : n ≤ 9223372036854775807 := Nat.le_trans hA.cap hA.max
  have hmax' : m ≤ 9223372036854775807 := Nat.le_trans hB.cap hB.max
  by_cases hnm : n = m
  · subst hnm
    by_cases h0 : 0 < n
    · obtain ⟨b, off, rfl, hb, hc⟩ := hA.cell h0
      obtain ⟨b', off', rfl, hb', hc'⟩ := hB.cell h0
      have HC := Lib.hid hc
      have HC' := Lib.hid hc'
      clear hc hc'
      go_enter Tryz.func197, Tryz.ntmps197
      go_wp2
      go_loopw [5] (fun i wr => ∃ k d : Nat, k ≤ n ∧ i = .int .i64 ((k : Int) - 1) ∧ wr = w.drewN d ∧ Hid (∀ j, k ≤ j → j < n → f j = g j)) (fun i _ => (intOf i + 1).toNat)
      case atStart => exact ⟨n, 0, by omega, rfl, rfl, fun j h1 h2 => by omega⟩
      case round =>
        obtain ⟨k, d, hk, rfl, rfl, hab⟩ := hrel
        by_cases hk0 : k = 0
        · subst hk0
          go_wp2
          go_ret
          exact ⟨ret_int (by rw [cn_all fun j hj => hab j (Nat.zero_le _) hj]), _, rfl⟩
        · obtain ⟨q, rfl⟩ : ∃ q, k = q + 1 := ⟨k - 1, by omega⟩
          rw [show (((q + 1 : Nat) : Int) - 1) = (q : Int) by omega]
          have hck := HC.out q (by omega)
          have hck' := HC'.out q (by omega)
          have hqn : q < n := by omega
          by_cases he : f q = g q
          · rw [← he] at hck'
            have HE := Lib.hid he
            clear he
            go_wp2
            go_quiet (fail)
            go_wp2
            go_roundw
            case rel => exact ⟨q, _, by omega, rfl, rfl, fun j h1 h2 => by
              by_cases e : j = q
              · subst e; exact HE.out
              · exact hab j (by omega) h2⟩
            case measure => simp [intOf] <;> omega
          · obtain ⟨hne, hne'⟩ := iv_ne he
            have hfin := Lib.hid (cn_at vf vg hqn (fun j h1 h2 => hab j (by omega) h2) he)
            clear he
            go_wp2
            go_quiet (fail)
            go_wp2
            go_quiet ((go_at_call 223; first | exact quiet_add_left (cmpU32_any _ _ _) | exact quiet_left (cmpU32_any _ _ _)))
            go_wp2
            go_ret
            exact ⟨ret_int (by rw [hfin.out]), by first | exact Qt.n1 _ _ | exact Qt.n2 _ _ _ | exact Qt.n3 _ _ _ _⟩
    · obtain rfl : n = 0 := by omega
      go_enter Tryz.func197, Tryz.ntmps197
      go_wp2
      refine wp_loop_rounds 1 ?_
      rw [rounds_succ]
      go_wp2
      go_ret
      exact ⟨rfl, Qt.refl _⟩
  · have hne : ((n : Int) != (m : Int)) = true := by rw [bne_iff_ne]; omega
    have hne' : ((n : Int) == (m : Int)) = false := by rw [beq_eq_false_iff_ne]; omega
    have hfin := Lib.hid (cn_len vf vg hnm)
    have hnm' := Lib.hid hnm
    clear hnm
    go_enter Tryz.func197, Tryz.ntmps197
    go_wp2_with (go_at_call 164; refine (cmpInt_any _ _ _).mono ?_; rintro e w' ⟨rfl, rfl⟩)
    go_ret
    exact ⟨ret_int (by rw [hfin.out]), Qt.refl _⟩

set_option maxHeartbeats 400000 in
theorem order_any (A A' : Option Addr) (n c m c' : Nat) (f g : Nat → Nat) (B B' : Nat) (w : World) (hA : Rs w B A n c f) (hB : Rs w B' A' m c' g) (vf : Val n f) (vg : Val m g) :
    Calls Tryz.prog 80 #[.slice A n c, .slice A' m c'] w fun e w' => e = .returned (.int .i64 (cn (nv f n) (nv g m))) ∧ Qt w w' := by
  have hmax : n ≤ 9223372036854775807 := Nat.le_trans hA.cap hA.max
  have hmax' : m ≤ 9223372036854775807 := Nat.le_trans hB.cap hB.max
  by_cases hnm : n = m
  · subst hnm
    by_cases h0 : 0 < n
    · obtain ⟨b, off, rfl, hb, hc⟩ := hA.cell h0
      obtain ⟨b', off', rfl, hb', hc'⟩ := hB.cell h0
      have HC := Lib.hid hc
      have HC' := Lib.hid hc'
      clear hc hc'
      go_enter Tryz.func80, Tryz.ntmps80
      go_wp2
      go_loopw [5] (fun i wr => ∃ k d : Nat, k ≤ n ∧ i = .int .i64 ((k : Int) - 1) ∧ wr = w.drewN d ∧ Hid (∀ j, k ≤ j → j < n → f j = g j)) (fun i _ => (intOf i + 1).toNat)
      case atStart => exact ⟨n, 0, by omega, rfl, rfl, fun j h1 h2 => by omega⟩
      case round =>
        obtain ⟨k, d, hk, rfl, rfl, hab⟩ := hrel
        by_cases hk0 : k = 0
        · subst hk0
          go_wp2
          go_ret
          exact ⟨ret_int (by rw [cn_all fun j hj => hab j (Nat.zero_le _) hj]), _, rfl⟩
        · obtain ⟨q, rfl⟩ : ∃ q, k = q + 1 := ⟨k - 1, by omega⟩
          rw [show (((q + 1 : Nat) : Int) - 1) = (q : Int) by omega]
          have hck := HC.out q (by omega)
          have hck' := HC'.out q (by omega)
          have hqn : q < n := by omega
          rcases Nat.lt_trichotomy (f q) (g q) with he | he | he
          · have hfin := Lib.hid (cn_lt (nv_lt_at n q hqn vf.1 (fun j h1 h2 => hab j (by omega) h2) he))
            have hlt : iv (f q) < iv (g q) := by rw [iv_eq, iv_eq]; omega
            clear he
            go_wp2
            go_quiet (fail)
            go_wp2
            go_ret
            exact ⟨ret_int (by rw [hfin.out]), by first | exact Qt.n1 _ _ | exact Qt.n2 _ _ _ | exact Qt.n3 _ _ _ _⟩
          · rw [← he] at hck'
            have HE := Lib.hid he
            clear he
            go_wp2
            go_quiet (fail)
            go_wp2
            go_quiet (fail)
            go_wp2
            go_roundw
            case rel => exact ⟨q, _, by omega, rfl, rfl, fun j h1 h2 => by
              by_cases e : j = q
              · subst e; exact HE.out
              · exact hab j (by omega) h2⟩
            case measure => simp [intOf] <;> omega
          · have hfin := Lib.hid (cn_gt (nv_lt_at n q hqn vg.1 (fun j h1 h2 => (hab j (by omega) h2).symm) he))
            have hlt : iv (g q) < iv (f q) := by rw [iv_eq, iv_eq]; omega
            have hlt' : ¬ iv (f q) < iv (g q) := by omega
            clear he
            go_wp2
            go_quiet (fail)
            go_wp2
            go_quiet (fail)
            go_wp2
            go_ret
            exact ⟨ret_int (by rw [hfin.out]), by first | exact Qt.n1 _ _ | exact Qt.n2 _ _ _ | exact Qt.n3 _ _ _ _⟩
    · obtain rfl : n = 0 := by omega
      go_enter Tryz.func80, Tryz.ntmps80
      go_wp2
      refine wp_loop_rounds 1 ?_
      rw [rounds_succ]
      go_wp2
      go_ret
      exact ⟨rfl, Qt.refl _⟩
  · have hne : ((n : Int) != (m : Int)) = true := by rw [bne_iff_ne]; omega
    have hne' : ((n : Int) == (m : Int)) = false := by rw [beq_eq_false_iff_ne]; omega
    rcases Nat.lt_or_gt_of_ne hnm with hlt | hlt
    · have hfin := Lib.hid (cn_lt (vf.lt_of_len vg hlt))
      clear hnm
      go_enter Tryz.func80, Tryz.ntmps80
      go_wp2
      go_ret
      exact ⟨ret_int (by rw [hfin.out]), Qt.refl _⟩
    · have hfin := Lib.hid (cn_gt (vg.lt_of_len vf hlt))
      have hlt' : ¬ n < m := by omega
      clear hnm
      go_enter Tryz.func80, Tryz.ntmps80
      go_wp2
      go_ret
      exact ⟨ret_int (by rw [hfin.out]), Qt.refl _⟩

end Go.Proofs.YtbjaolmlnkliiaaGreatDoor

/- The contracts of the functions that turn machine words into lists of limbs, and back. Conditions as premises: the word is not negative and fits its kind; a list that becomes a word is short enough. -/
namespace Go.Proofs.YtbjaolmlnkliiaaGreatDoor
open Go.RowKit

theorem info32 : (Tryz.prog.info? 40).map (fun i => (i.zero, i.size, i.bytes)) = some (some (.int .u32 0), 1, 4) := by kernel_rfl

/-- what a call that makes a list of limbs leaves: a valid list of the number N, and all that was there as it was -/
def Made (w : World) (N : Nat) (v : Value) (w' : World) : Prop := ∃ A n c f, v = .slice A n c ∧ Rs w' w'.heap.size A n c f ∧ Dig n f N ∧ Below w.heap.size w w'

theorem iv_mod (N k : Nat) : iv (N / LB ^ k) % 1000000000 = iv (dig N k) := by
  rw [iv_eq, iv_eq]; unfold dig
  have := LB_eq
  rw [LB_eq]; omega
theorem iv_div (N k : Nat) : iv (N / LB ^ k) / 1000000000 = iv (N / LB ^ (k + 1)) := by
  rw [iv_eq, iv_eq, Nat.pow_succ, ← Nat.div_div_eq_div_mul]
  have := LB_eq
  rw [LB_eq]; omega
theorem div_lt3 {N k : Nat} (hN : N < 18446744073709551616) (h : N / LB ^ k ≠ 0) : k < 3 := by
  rcases Nat.lt_or_ge k 3 with h3 | h3
  · exact h3
  · exfalso; apply h
    apply Nat.div_eq_of_lt
    have h1 : LB ^ 3 ≤ LB ^ k := pow_le_of h3
    have h2 : LB ^ 3 = 1000000000000000000000000000 := by rw [LB_eq]
    omega

theorem made_of {w w' : World} {N k : Nat} {v : Value} (hown : Own w' w.heap.size v k (dig N)) (hb : Below w.heap.size w w') (h0 : N / LB ^ k = 0) (hk : ∀ j, j < k → N / LB ^ j ≠ 0) : Made w N v w' := by
  obtain ⟨A, c, rfl, hr⟩ := hown.rs (fun j _ => by have := dig_lt N j; rw [LB_eq] at this; omega)
  exact ⟨A, k, c, dig N, rfl, hr, dig_of_rounds h0 hk, hb⟩

theorem snoc_below {w wr w1 : World} {base n : Nat} {v : Value} {f : Nat → Nat} {o : Obj} (hown : Own wr base v n f) (hb : Below w.heap.size w wr) (hbase : w.heap.size ≤ base) (hsz : base ≤ wr.heap.size) (hg : (wr.alloc o).grownBy w1 v.ownBlock) : Below w.heap.size w w1 :=
  (hb.alloc (by omega) o).grown hg (by simp; omega) (fun j hj => by have := (World.ownsRow.lt hown j hj).1; omega)

set_option maxHeartbeats 800000 in
theorem fromWord_nat (N : Nat) (hN : Big (N < 18446744073709551616)) (w : World) :
    Calls Tryz.prog 205 #[.int .u64 (iv N)] w fun e w' => ∃ v, e = .returned v ∧ Made w N v w' := by
  obtain ⟨i0, hi, hz0, hz1, hz2⟩ := info_parts info32
  go_enter Tryz.func205, Tryz.ntmps205
  go_wp2
  go_loopw [0, 3] (fun u v wr => ∃ k : Nat, k ≤ 3 ∧ u = .int .u64 (iv (N / LB ^ k)) ∧ Own wr w.heap.size v k (dig N) ∧ Below w.heap.size w wr ∧ Hid (∀ j, j < k → N / LB ^ j ≠ 0)) (fun u _ _ => (intOf u).toNat)
  case atStart => exact ⟨0, by omega, by simp, Own.nil _ _ _, Below.refl _ _, fun j hj => by omega⟩
  case round =>
    obtain ⟨k, hk, rfl, hown, hbel, hpre⟩ := hrel
    have hx0 : 0 ≤ iv (N / LB ^ k) := iv_nonneg _
    have hmod := Lib.hid (iv_mod N k)
    have hdiv := Lib.hid (iv_div N k)
    by_cases hq : N / LB ^ k = 0
    · rw [show iv (N / LB ^ k) = 0 by rw [hq, iv_zero]]
      have HQ := Lib.hid hq
      clear hq hx0
      go_wp2
      go_ret
      exact ⟨_, rfl, made_of hown hbel HQ.out hpre.out⟩
    · have hz := iv_pos hq
      have hx1 := iv_u64 (Nat.lt_of_le_of_lt (Nat.div_le_self N (LB ^ k)) hN.out)
      have hk3 := div_lt3 hN.out hq
      have HQ := Lib.hid hq
      clear hq
      generalize hgx : iv (N / LB ^ k) = x at *
      have HGX := Lib.hid hgx
      clear hgx
      have hsz := hbel.size
      go_wp2_with (at_builtin; refine wpList_append_own _ rfl (.tmp 8) (.tmp 12) 23 rfl w.heap.size 40 i0 (.int .u32 0) 1 4 Tryz.underlying23 hi hz0 hz1 hz2 rfl (by decide) _ _ _ rfl (World.ownsRow.alloc hown _) ⟨wr.heap.size, 0, none⟩ 1 1 [.int .u32 (x % 1000000000)] rfl rfl (cell_one_new _ _ _) ?c2 ?c3 ?c4 ?c5 ?_)
      case c2 => intro u hu; simp at hu; subst hu; rfl
      case c3 => unfold maxLen; omega
      case c4 => omega
      case c5 => simp; omega
      intro v' w1 hown' hgrow _
      have hb1 := snoc_below hown hbel (Nat.le_refl _) hsz hgrow
      rw [hmod.out] at hown'
      have hown1 := Own.snoc hown' rfl
      clear hown' hgrow hown hbel
      go_wp2
      go_roundw
      case rel => exact ⟨k + 1, by omega, by rw [hdiv.out], hown1, hb1, fun j hj => by
        by_cases e : j = k
        · subst e; exact HQ.out
        · exact hpre.out j (by omega)⟩
      case measure => simp [intOf] <;> omega


theorem fromWord_any (x : Int) (h0 : 0 ≤ x) (h1 : Big (x < 18446744073709551616)) (w : World) :
    Calls Tryz.prog 205 #[.int .u64 x] w fun e w' => ∃ v, e = .returned v ∧ Made w x.toNat v w' := by
  obtain ⟨N, rfl⟩ := Int.eq_ofNat_of_zero_le h0
  have h := fromWord_nat N (Big.mk (by have := h1.out; omega)) w
  rw [iv_eq] at h
  exact h

theorem natOf_neg (a : Int) (h : a < 0) (w : World) :
    Calls Tryz.prog 165 #[.int .i64 a] w fun e w' => e = .returned (.tuple #[.slice none 0 0, .int .i64 2]) ∧ w = w' := by
  go_enter Tryz.func165, Tryz.ntmps165
  go_wp2
  go_ret2
  exact ⟨rfl, rfl⟩

theorem natOf_pos (a : Int) (h : 0 ≤ a) (h1 : a ≤ 9223372036854775807) (w : World) :
    Calls Tryz.prog 165 #[.int .i64 a] w fun e w' => ∃ v, e = .returned (.tuple #[v, .int .i64 0]) ∧ Made w a.toNat v w' := by
  have hH : Big (a < 18446744073709551616) := Big.mk (by omega)
  go_enter Tryz.func165, Tryz.ntmps165
  go_wp2_with (go_at_call 205; refine (fromWord_any _ h hH _).mono ?_; rintro e w' ⟨v, rfl, hm⟩)
  go_ret2
  exact ⟨_, rfl, hm⟩

end Go.Proofs.YtbjaolmlnkliiaaGreatDoor

/- The contracts of the reference's Check, of the checks of two lists, and of toWord. Conditions as premises: the lists read. -/
namespace Go.Proofs.YtbjaolmlnkliiaaGreatDoor
open Go.RowKit

set_option maxHeartbeats 400000 in
theorem refCheck_long (A : Option Addr) (n c : Nat) (w : World) (hn : 1024 < n) :
    Calls Tryz.prog 154 #[.slice A n c] w fun e w' => e = .returned (.int .i64 4) ∧ w = w' := by
  go_enter Tryz.func154, Tryz.ntmps154
  go_wp2
  go_ret
  exact ⟨rfl, rfl⟩

set_option maxHeartbeats 400000 in
theorem refCheck_nil (A : Option Addr) (c : Nat) (w : World) :
    Calls Tryz.prog 154 #[.slice A 0 c] w fun e w' => e = .returned (.int .i64 0) ∧ w = w' := by
  go_enter Tryz.func154, Tryz.ntmps154
  go_wp2
  refine wp_loop_rounds 1 ?_
  rw [rounds_succ]
  go_wp2
  go_ret
  exact ⟨rfl, rfl⟩

set_option maxHeartbeats 400000 in
theorem refCheck_any (A : Option Addr) (n c : Nat) (f : Nat → Nat) (B : Nat) (w : World) (h : Rs w B A n c f) :
    Calls Tryz.prog 154 #[.slice A n c] w fun e w' => e = .returned (.int .i64 (chk n f)) ∧ w = w' := by
  by_cases hn : 1024 < n
  · rw [chk_long hn]; exact refCheck_long A n c w hn
  by_cases h0 : 0 < n
  · obtain ⟨b, off, rfl, hb, hc⟩ := h.cell h0
    have hmax : n ≤ 1024 := by omega
    have hp : (0 : Int) < (n : Int) := by omega
    have hct := hc (n - 1) (by omega)
    have HC := Lib.hid hc
    clear hc
    go_enter Tryz.func154, Tryz.ntmps154
    go_wp2
    go_loop [3] (fun i => ∃ k : Nat, k ≤ n ∧ i = .int .i64 k ∧ Hid (∀ j, j < k → f j < LB)) (fun i => n - (intOf i).toNat)
    case atStart => exact ⟨0, by omega, rfl, fun j hj => by omega⟩
    case round =>
      obtain ⟨k, hk, rfl, hlow⟩ := hrel
      by_cases hlt : k < n
      · have hck := HC.out k hlt
        by_cases hbig : iv (f k) < 1000000000
        · go_wp2
          go_round
          case rel => exact ⟨k + 1, by omega, by go_num, fun j hj => by
            by_cases e : j = k
            · subst e; rw [LB_eq]; rw [iv_eq] at hbig; omega
            · exact hlow j (by omega)⟩
          case measure => simp [intOf] <;> omega
        · go_wp2
          go_ret
          exact ⟨ret_int (by rw [chk_bad hn]; intro hv; have := iv_limb (hv.1 k hlt); omega), rfl⟩
      · obtain rfl : k = n := by omega
        by_cases hz : f (k - 1) = 0
        · have hzz : iv (f (k - 1)) = 0 := by rw [hz, iv_eq]; rfl
          have hzb : (iv (f (k - 1)) == 0) = true := by rw [hzz]; rfl
          have HZ := Lib.hid hz
          clear hz hzz
          go_wp2
          go_ret
          exact ⟨ret_int (by rw [chk_bad hn]; intro hv; exact hv.2 h0 HZ.out), rfl⟩
        · have hzb : (iv (f (k - 1)) == 0) = false := by rw [beq_eq_false_iff_ne]; intro e; apply hz; rw [iv_eq] at e; omega
          have HZ := Lib.hid hz
          clear hz
          go_wp2
          go_ret
          exact ⟨ret_int (by rw [chk_ok hn ⟨hlow, fun _ => HZ.out⟩]), rfl⟩
  · obtain rfl : n = 0 := by omega
    rw [chk_ok (by omega) ⟨fun j hj => by omega, fun h => by omega⟩]
    exact refCheck_nil A c w

/-- the first error of two lists -/
noncomputable def chk2 (n : Nat) (f : Nat → Nat) (m : Nat) (g : Nat → Nat) : Int := if chk n f = 0 then chk m g else chk n f
theorem chk2_zero {n m : Nat} {f g : Nat → Nat} (h : chk2 n f m g = 0) : chk n f = 0 ∧ chk m g = 0 := by
  unfold chk2 at h
  by_cases e : chk n f = 0
  · rw [if_pos e] at h; exact ⟨e, h⟩
  · rw [if_neg e] at h; exact absurd h e

set_option maxHeartbeats 400000 in
theorem checkAll_any (p : Nat) (A A' : Option Addr) (n c m c' : Nat) (f g : Nat → Nat) (B B' : Nat) (w : World) (hA : Rs w B A n c f) (hB : Rs w B' A' m c' g)
    (h0 : w.cell? ⟨p, 0, none⟩ = some (.slice A n c)) (h1 : w.cell? ⟨p, 1, none⟩ = some (.slice A' m c')) :
    Calls Tryz.prog 196 #[.slice (some ⟨p, 0, none⟩) 2 2] w fun e w' => e = .returned (.int .i64 (chk2 n f m g)) ∧ w = w' := by
  have c1 := check_any A n c f B w hA
  have c2 := check_any A' m c' g B' w hB
  by_cases h : chk n f = 0
  · rw [h] at c1
    rw [show chk2 n f m g = chk m g by unfold chk2; rw [if_pos h]]
    have C1 := Lib.hid c1
    clear c1 h
    by_cases k : chk m g = 0
    · rw [k] at c2 ⊢
      have C2 := Lib.hid c2
      clear c2 k
      go_enter Tryz.func196, Tryz.ntmps196
      go_wp2_with fail
      refine wp_loop_rounds 3 ?_
      rw [rounds_succ]
      go_wp2_with fail
      refine C1.out.mono ?_
      rintro e w' ⟨rfl, rfl⟩
      go_wp2_with fail
      rw [rounds_succ]
      go_wp2_with fail
      refine C2.out.mono ?_
      rintro e w' ⟨rfl, rfl⟩
      go_wp2_with fail
      rw [rounds_succ]
      go_wp2_with fail
      go_ret
      exact ⟨rfl, rfl⟩
    · have h1 : (chk m g != 0) = true := by rw [bne_iff_ne]; exact k
      have h2 : (chk m g == 0) = false := by rw [beq_eq_false_iff_ne]; exact k
      have C2 := Lib.hid c2
      clear c2 k
      go_enter Tryz.func196, Tryz.ntmps196
      go_wp2_with fail
      refine wp_loop_rounds 3 ?_
      rw [rounds_succ]
      go_wp2_with fail
      refine C1.out.mono ?_
      rintro e w' ⟨rfl, rfl⟩
      go_wp2_with fail
      rw [rounds_succ]
      go_wp2_with fail
      refine C2.out.mono ?_
      rintro e w' ⟨rfl, rfl⟩
      go_wp2_with fail
      go_ret
      exact ⟨rfl, rfl⟩
  · rw [show chk2 n f m g = chk n f by unfold chk2; rw [if_neg h]]
    have h1 : (chk n f != 0) = true := by rw [bne_iff_ne]; exact h
    have h2 : (chk n f == 0) = false := by rw [beq_eq_false_iff_ne]; exact h
    have C1 := Lib.hid c1
    clear c1 c2 h
    go_enter Tryz.func196, Tryz.ntmps196
    go_wp2_with fail
    refine wp_loop_rounds 3 ?_
    rw [rounds_succ]
    go_wp2_with fail
    refine C1.out.mono ?_
    rintro e w' ⟨rfl, rfl⟩
    go_wp2_with fail
    go_ret
    exact ⟨rfl, rfl⟩

end Go.Proofs.YtbjaolmlnkliiaaGreatDoor

/- Slices of literal limbs, and the contract of toWord. Conditions as premises: the list reads, and its number fits a word. -/
namespace Go.Proofs.YtbjaolmlnkliiaaGreatDoor
open Go.RowKit

def l1 (a : Nat) : Nat → Nat := fun _ => a
def l2 (a b : Nat) : Nat → Nat := fun j => if j = 0 then a else b
def l3 (a b c : Nat) : Nat → Nat := fun j => if j = 0 then a else if j = 1 then b else c

theorem rs_l1 (w : World) (a : Nat) (ha : a < 4294967296) : Rs (w.alloc (.cells #[.int .u32 (iv a)] 40)) (w.heap.size + 1) (some ⟨w.heap.size, 0, none⟩) 1 1 (l1 a) :=
  ⟨Nat.le_refl _, by omega, fun j _ => ha, fun _ => ⟨w.heap.size, 0, rfl, by omega, fun j hj => by
    obtain rfl : j = 0 := by omega
    rw [World.cell?_alloc_at _ _ _ _ rfl]; rfl⟩⟩
theorem rs_l2 (w : World) (a b : Nat) (ha : a < 4294967296) (hb : b < 4294967296) : Rs (w.alloc (.cells #[.int .u32 (iv a), .int .u32 (iv b)] 40)) (w.heap.size + 1) (some ⟨w.heap.size, 0, none⟩) 2 2 (l2 a b) :=
  ⟨Nat.le_refl _, by omega, fun j _ => by unfold l2; split <;> assumption, fun _ => ⟨w.heap.size, 0, rfl, by omega, fun j hj => by
    rw [World.cell?_alloc_at _ _ _ _ rfl]
    rcases j with _ | _ | j
    · rfl
    · rfl
    · omega⟩⟩
theorem rs_l3 (w : World) (a b c : Nat) (ha : a < 4294967296) (hb : b < 4294967296) (hc : c < 4294967296) : Rs (w.alloc (.cells #[.int .u32 (iv a), .int .u32 (iv b), .int .u32 (iv c)] 40)) (w.heap.size + 1) (some ⟨w.heap.size, 0, none⟩) 3 3 (l3 a b c) :=
  ⟨Nat.le_refl _, by omega, fun j _ => by unfold l3; split; assumption; split <;> assumption, fun _ => ⟨w.heap.size, 0, rfl, by omega, fun j hj => by
    rw [World.cell?_alloc_at _ _ _ _ rfl]
    rcases j with _ | _ | _ | j
    · rfl
    · rfl
    · rfl
    · omega⟩⟩

/-- the number of the limbs from place k on -/
def hi (f : Nat → Nat) (n k : Nat) : Nat := nv (fun i => f (i + k)) (n - k)
theorem hi_step (f : Nat → Nat) (n k : Nat) (h : k < n) : hi f n k = hi f n (k + 1) * LB + f k := by
  unfold hi
  rw [show n - k = (n - (k + 1)) + 1 by omega, nv_low]
  simp only [Nat.zero_add]
  rw [Nat.mul_comm, Nat.add_comm]
  congr 2
  exact nv_congr _ fun j _ => by rw [show j + 1 + k = j + (k + 1) by omega]
theorem hi_zero (f : Nat → Nat) (n : Nat) : hi f n 0 = nv f n := by unfold hi; simp
theorem hi_top (f : Nat → Nat) (n : Nat) : hi f n n = 0 := by unfold hi; simp [nv]
theorem hi_le (f : Nat → Nat) (n : Nat) : ∀ k, k ≤ n → hi f n k ≤ nv f n
  | 0, _ => by rw [hi_zero]; exact Nat.le_refl _
  | k + 1, h => by
    have h1 := hi_le f n k (by omega)
    have h2 := hi_step f n k (by omega)
    have h3 : hi f n (k + 1) * 1 ≤ hi f n (k + 1) * LB := Nat.mul_le_mul_left _ LB_pos
    omega

theorem hi_iv (f : Nat → Nat) (n k : Nat) (h : k < n) : iv (hi f n (k + 1)) * 1000000000 + iv (f k) = iv (hi f n k) := by
  rw [hi_step f n k h, iv_eq, iv_eq, iv_eq]
  have := LB_eq
  rw [LB_eq]; omega

set_option maxHeartbeats 800000 in
theorem toWord_any (A : Option Addr) (n c : Nat) (f : Nat → Nat) (B : Nat) (w : World) (h : Rs w B A n c f) (hN : Big (nv f n < 18446744073709551616)) :
    Calls Tryz.prog 212 #[.slice A n c] w fun e w' => e = .returned (.int .u64 (iv (nv f n))) ∧ w = w' := by
  have hmax : n ≤ 9223372036854775807 := Nat.le_trans h.cap h.max
  go_enter Tryz.func212, Tryz.ntmps212
  go_wp2
  go_loop [3, 4] (fun x i => ∃ k : Nat, k ≤ n ∧ i = .int .i64 ((k : Int) - 1) ∧ x = .int .u64 (iv (hi f n k))) (fun _ i => (intOf i + 1).toNat)
  case atStart => exact ⟨n, by omega, rfl, by rw [hi_top, iv_zero]⟩
  case round =>
    obtain ⟨k, hk, rfl, rfl⟩ := hrel
    by_cases hk0 : k = 0
    · subst hk0
      rw [hi_zero]
      go_wp2
      go_ret
      exact ⟨rfl, rfl⟩
    · obtain ⟨q, rfl⟩ : ∃ q, k = q + 1 := ⟨k - 1, by omega⟩
      rw [show (((q + 1 : Nat) : Int) - 1) = (q : Int) by omega]
      obtain ⟨b, off, rfl, hb, hc⟩ := h.cell (by omega)
      have hck := hc q (by omega)
      clear hc
      have hst := Lib.hid (hi_iv f n q (by omega))
      have hb1 : iv (hi f n (q + 1)) * 1000000000 + iv (f q) ≤ 18446744073709551615 := by
        rw [hst.out]; exact iv_u64 (Nat.lt_of_le_of_lt (hi_le f n q (by omega)) hN.out)
      have hx0 := iv_nonneg (hi f n (q + 1))
      have hf0 := iv_nonneg (f q)
      generalize hgx : iv (hi f n (q + 1)) = x at *
      generalize hgy : iv (f q) = y at *
      have HGX := Lib.hid hgx
      have HGY := Lib.hid hgy
      clear hgx hgy
      go_wp2
      go_round
      case rel => exact ⟨q, by omega, rfl, by rw [hst.out]⟩
      case measure => simp [intOf] <;> omega

end Go.Proofs.YtbjaolmlnkliiaaGreatDoor

/- Plain numbers: long division in limbs. No conditions. -/
namespace Go.Proofs.YtbjaolmlnkliiaaGreatDoor

/-- the two highest limbs apart -/
theorem nv_top2 (f : Nat → Nat) (s : Nat) : nv f (s + 2) = (f (s + 1) * LB + f s) * LB ^ s + nv f s := by
  rw [nv, nv, Nat.pow_succ, Nat.add_mul, Nat.mul_assoc (f (s + 1)) LB, Nat.mul_comm LB (LB ^ s)]; omega
theorem nv_top3 (f : Nat → Nat) (s : Nat) : nv f (s + 3) = ((f (s + 2) * LB + f (s + 1)) * LB + f s) * LB ^ s + nv f s := by
  rw [nv, nv_top2]
  simp only [Nat.add_mul, Nat.pow_succ]
  ac_rfl

section
variable {P D U v1 v2 u2 B K q : Nat}
/-- a guess that fails the test is too great -/
theorem guess_down {L R : Nat} (hP : P < (U * B + u2 + 1) * K) (hD : (v1 * B + v2) * K ≤ D) (e : L * v1 + R = U) (h : R * B + u2 < L * v2) (hq : q * D ≤ P) : q < L := by
  rcases Nat.lt_or_ge q L with h1 | h1
  · exact h1
  · exfalso
    have h2 : L * D ≤ q * D := Nat.mul_le_mul_right _ h1
    have h3 : L * ((v1 * B + v2) * K) ≤ L * D := Nat.mul_le_mul_left _ hD
    rw [← Nat.mul_assoc] at h3
    have h4 : L * (v1 * B + v2) * K < (U * B + u2 + 1) * K := by omega
    have h5 : L * (v1 * B + v2) < U * B + u2 + 1 := Nat.lt_of_mul_lt_mul_right h4
    rw [Nat.mul_add, ← Nat.mul_assoc, ← e, Nat.add_mul] at h5
    omega
/-- a guess that passes the test is at most 1 too great -/
theorem guess_ok {L R D' : Nat} (hP : (U * B + u2) * K ≤ P) (hD : D = (v1 * B + v2) * K + D') (hD' : D' < K) (hv : 1 ≤ v1) (e : L * v1 + R = U) (h : L * v2 ≤ R * B + u2) (hL : L < B) : (L - 1) * D ≤ P := by
  rcases Nat.eq_zero_or_pos L with h0 | h0
  · subst h0; simp
  · have h1 : L * (v1 * B + v2) ≤ U * B + u2 := by rw [Nat.mul_add, ← Nat.mul_assoc, ← e, Nat.add_mul]; omega
    have h2 : L * (v1 * B + v2) * K ≤ P := Nat.le_trans (Nat.mul_le_mul_right _ h1) hP
    have h3 : L * D' ≤ B * K := Nat.mul_le_mul (Nat.le_of_lt hL) (Nat.le_of_lt hD')
    have h4 : B * K ≤ v1 * B * K := by
      have := Nat.mul_le_mul_right (B * K) hv
      rw [Nat.one_mul, ← Nat.mul_assoc] at this
      exact this
    have h5 : L * D = L * (v1 * B + v2) * K + L * D' := by rw [hD, Nat.mul_add, Nat.mul_assoc]
    have h6 : (L - 1) * D + D = L * D := by
      have h7 : L - 1 + 1 = L := by omega
      have := congrArg (· * D) h7
      simp only [Nat.add_mul, Nat.one_mul] at this
      exact this
    have h8 : v1 * B * K ≤ D := by rw [hD, Nat.add_mul]; omega
    omega
/-- a rest that is too great makes the guess right -/
theorem guess_far {L R D' : Nat} (hP : (U * B + u2) * K ≤ P) (hD : D = (v1 * B + v2) * K + D') (hD' : D' < K) (hv2 : v2 < B) (e : L * v1 + R = U) (hR : B ≤ R) (hL : L ≤ B) : L * D ≤ P := by
  have h1 : D ≤ (v1 + 1) * B * K := by
    have h2 : v2 * K + D' ≤ B * K := by
      have := Nat.mul_le_mul_right K (show v2 + 1 ≤ B from hv2)
      rw [Nat.add_mul, Nat.one_mul] at this; omega
    rw [hD, Nat.add_mul, Nat.add_mul, Nat.add_mul, Nat.one_mul]; omega
  have h3 : L * D ≤ L * ((v1 + 1) * B * K) := Nat.mul_le_mul_left _ h1
  have h4 : L * ((v1 + 1) * B * K) = (L * v1 + L) * B * K := by
    rw [← Nat.mul_assoc, ← Nat.mul_assoc, Nat.mul_add, Nat.mul_one]
  have h5 : (L * v1 + L) * B * K ≤ U * B * K := Nat.mul_le_mul_right _ (Nat.mul_le_mul_right _ (by omega))
  have h6 : U * B * K ≤ P := Nat.le_trans (Nat.mul_le_mul_right _ (by omega)) hP
  omega
/-- the first guess -/
theorem guess_first {D' : Nat} (hP : P < (U * B + u2 + 1) * K) (hu2 : u2 < B) (hD : D = (v1 * B + v2) * K + D') (hv : 1 ≤ v1) (hq : q * D ≤ P) : q ≤ U / v1 := by
  rw [Nat.le_div_iff_mul_le (by omega)]
  have h1 : q * (v1 * B * K) ≤ P := by
    refine Nat.le_trans (Nat.mul_le_mul_left _ ?_) hq
    rw [hD, Nat.add_mul]; omega
  have h2 : q * v1 * (B * K) < (U + 1) * (B * K) := by
    have h3 : (U * B + u2 + 1) * K ≤ (U + 1) * B * K := Nat.mul_le_mul_right _ (by rw [Nat.add_mul]; omega)
    rw [show q * v1 * (B * K) = q * (v1 * B * K) by ac_rfl, ← Nat.mul_assoc (U + 1)]
    omega
  have := Nat.lt_of_mul_lt_mul_right h2
  omega
end

/-- the highest limb of the scaled divisor -/
theorem scale_norm {t f : Nat} (ht : 1 ≤ t) (htB : t < LB) (hf : f = LB / (t + 1)) : LB ≤ 2 * (t * f) ∧ 1 ≤ f ∧ f * (t + 1) ≤ LB ∧ f < LB := by
  have e := LB_eq
  have h1 : f * (t + 1) ≤ LB := by rw [hf]; exact Nat.div_mul_le_self _ _
  have h2 : LB < (f + 1) * (t + 1) := (Nat.div_lt_iff_lt_mul (show 0 < t + 1 by omega)).1 (by omega)
  have hf1 : 1 ≤ f := by rw [hf, Nat.le_div_iff_mul_le (by omega)]; omega
  have hf2 : f * 2 ≤ f * (t + 1) := Nat.mul_le_mul_left _ (by omega)
  refine ⟨?_, hf1, h1, by omega⟩
  rcases Nat.lt_or_ge t 2 with h | h
  · have : t = 1 := by omega
    subst this
    rw [e] at hf; omega
  · rcases Nat.lt_or_ge f 2 with h3 | h3
    · have : f = 1 := by omega
      subst this
      omega
    · have h4 : t + f ≤ t * f := by
        obtain ⟨a, rfl⟩ : ∃ a, t = a + 2 := ⟨t - 2, by omega⟩
        obtain ⟨b, rfl⟩ : ∃ b, f = b + 2 := ⟨f - 2, by omega⟩
        have : (a + 2) * (b + 2) = a * b + 2 * a + 2 * b + 4 := by rw [Nat.add_mul, Nat.mul_add, Nat.mul_add]; omega
        omega
      rw [Nat.add_mul, Nat.mul_add, Nat.mul_comm f t] at h2
      omega

/-- a window of a row behind a store -/
theorem win_set {r : Nat → Nat} {o k x : Nat} : nv (fun j => (fun i => if i = o + k then x else r i) (o + j)) (k + 1) = nv (fun j => r (o + j)) k + x * LB ^ k := by
  rw [nv]
  show nv (fun j => if o + j = o + k then x else r (o + j)) k + (if o + k = o + k then x else r (o + k)) * LB ^ k = _
  rw [if_pos rfl, nv_congr (g := fun j => r (o + j)) k fun j hj => if_neg (by omega)]

/-- one limb of a subtraction of a multiple -/
theorem sub_step {W V X k C L a b bo y : Nat} (e : W + L * V = X + C * LB ^ k) (hb : y + (C + L * b) % LB = a + bo * LB) :
    (W + y * LB ^ k) + L * (V + b * LB ^ k) = (X + a * LB ^ k) + ((C + L * b) / LB + bo) * LB ^ (k + 1) := by
  have h2 : C + L * b = LB * ((C + L * b) / LB) + (C + L * b) % LB := (Nat.div_add_mod _ _).symm
  generalize (C + L * b) / LB = d at *
  generalize (C + L * b) % LB = m at *
  have h3 := congrArg (· * LB ^ k) h2
  have h4 := congrArg (· * LB ^ k) hb
  simp only [Nat.add_mul] at h3 h4
  rw [Nat.pow_succ, Nat.add_mul, Nat.mul_add, ← Nat.mul_assoc L b]
  rw [show d * (LB ^ k * LB) = LB * d * LB ^ k by rw [Nat.mul_comm (LB ^ k) LB, ← Nat.mul_assoc, Nat.mul_comm d LB], show bo * (LB ^ k * LB) = bo * LB * LB ^ k by rw [Nat.mul_comm (LB ^ k) LB, ← Nat.mul_assoc]]
  omega
theorem sub_carry {L b C bo : Nat} (hL : L ≤ LB) (hb : b < LB) (hC : C ≤ LB + 1) (hbo : bo ≤ 1) : (C + L * b) / LB + bo ≤ LB + 1 ∧ L * b ≤ 1000000000000000000 := by
  have e := LB_eq
  rw [e] at hL hb hC
  have h1 : L * b ≤ 1000000000 * 999999999 := Nat.mul_le_mul hL (by omega)
  rw [e]; omega
/-- one limb of an addition -/
theorem add_step {W V X k C a b : Nat} (e : W + C * LB ^ k = X + V) : (W + (a + C + b) % LB * LB ^ k) + (a + C + b) / LB * LB ^ (k + 1) = (X + a * LB ^ k) + (V + b * LB ^ k) := by
  have h2 : a + C + b = LB * ((a + C + b) / LB) + (a + C + b) % LB := (Nat.div_add_mod _ _).symm
  generalize (a + C + b) / LB = d at *
  generalize (a + C + b) % LB = m at *
  have h3 := congrArg (· * LB ^ k) h2
  simp only [Nat.add_mul] at h3
  rw [Nat.pow_succ, show d * (LB ^ k * LB) = LB * d * LB ^ k by rw [Nat.mul_comm (LB ^ k) LB, ← Nat.mul_assoc, Nat.mul_comm d LB]]
  omega

end Go.Proofs.YtbjaolmlnkliiaaGreatDoor

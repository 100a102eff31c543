/- The contracts of the functions that say whether a list of limbs is valid. No conditions. -/
import Derived.Test.YtmcacofpnnaplaaGreatDoorWords
import Derived.Test.YtmcacofpnnaplaaGreatDoorRows
import Derived.Outline
import Derived.Lib.Hide
import Derived.BigQuiet
import Derived.Deep.QuietTactic
namespace Go.Proofs.YtmcacofpnnaplaaGreatDoor
open Go.RowKit

/-- what Check says of a list: its error -/
noncomputable def chk (n : Nat) (f : Nat → Nat) : Int := by
  classical exact if 1024 < n then 4 else if Val n f then 0 else 3

theorem chk_long {n : Nat} {f : Nat → Nat} (h : 1024 < n) : chk n f = 4 := by unfold chk; rw [if_pos h]
theorem chk_ok {n : Nat} {f : Nat → Nat} (h : ¬ 1024 < n) (hv : Val n f) : chk n f = 0 := by unfold chk; rw [if_neg h, if_pos hv]
theorem chk_bad {n : Nat} {f : Nat → Nat} (h : ¬ 1024 < n) (hv : ¬ Val n f) : chk n f = 3 := by unfold chk; rw [if_neg h, if_neg hv]
theorem chk_zero {n : Nat} {f : Nat → Nat} (h : chk n f = 0) : n ≤ 1024 ∧ Val n f := by
  unfold chk at h
  split at h
  · cases h
  · split at h
    · exact ⟨by omega, by assumption⟩
    · cases h

theorem ret_int {k : IntKind} {a b : Int} (h : a = b) : Ending.returned (.int k a) = .returned (.int k b) := by rw [h]

set_option maxHeartbeats 400000 in
set_option maxRecDepth 100000 in
theorem check_long (A : Option Addr) (n c : Nat) (w : World) (hn : 1024 < n) :
    Calls Tryz.prog 69 #[.slice A n c] w fun e w' => e = .returned (.int .i64 4) ∧ w = w' := by
  go_enter Tryz.func69, Tryz.ntmps69
  go_wp2
  go_ret
  exact ⟨rfl, rfl⟩

set_option maxHeartbeats 400000 in
theorem check_nil (A : Option Addr) (c : Nat) (w : World) :
    Calls Tryz.prog 69 #[.slice A 0 c] w fun e w' => e = .returned (.int .i64 0) ∧ w = w' := by
  go_enter Tryz.func69, Tryz.ntmps69
  go_wp2
  refine wp_loop_rounds 1 ?_
  rw [rounds_succ]
  go_wp2
  go_ret
  exact ⟨rfl, rfl⟩

set_option maxHeartbeats 400000 in
theorem check_any (A : Option Addr) (n c : Nat) (f : Nat → Nat) (B : Nat) (w : World) (h : Rs w B A n c f) :
    Calls Tryz.prog 69 #[.slice A n c] w fun e w' => e = .returned (.int .i64 (chk n f)) ∧ w = w' := by
  by_cases hn : 1024 < n
  · rw [chk_long hn]; exact check_long A n c w hn
  by_cases h0 : 0 < n
  · obtain ⟨b, off, rfl, hb, hc⟩ := h.cell h0
    have hmax : n ≤ 1024 := by omega
    have hp : (0 : Int) < (n : Int) := by omega
    have hct := hc (n - 1) (by omega)
    have HC := Lib.hid hc
    clear hc
    go_enter Tryz.func69, Tryz.ntmps69
    go_wp2
    go_loop [4, 10] (fun _ i => ∃ k : Nat, k ≤ n ∧ i = .int .i64 k ∧ Hid (∀ j, j < k → f j < LB)) (fun _ i => n - (intOf i).toNat)
    case atStart => exact ⟨0, by omega, rfl, fun j hj => by omega⟩
    case round =>
      obtain ⟨k, hk, rfl, hlow⟩ := hrel
      by_cases hlt : k < n
      · have hck := HC.out k hlt
        by_cases hbig : iv (f k) < 1000000000
        · go_wp2
          go_round
          case rel => exact ⟨k + 1, by omega, by go_num, fun j hj => by
            by_cases e : j = k
            · subst e; rw [LB_eq]; rw [iv_eq] at hbig; omega
            · exact hlow j (by omega)⟩
          case measure => simp [intOf] <;> omega
        · go_wp2
          go_ret
          exact ⟨ret_int (by rw [chk_bad hn]; intro hv; have := iv_limb (hv.1 k hlt); omega), rfl⟩
      · obtain rfl : k = n := by omega
        by_cases hz : f (k - 1) = 0
        · have hzz : iv (f (k - 1)) = 0 := by rw [hz, iv_eq]; rfl
          have hzb : (iv (f (k - 1)) == 0) = true := by rw [hzz]; rfl
          have HZ := Lib.hid hz
          have HZZ := Lib.hid hzz
          clear hz hzz
          go_wp2
          go_ret
          exact ⟨ret_int (by rw [chk_bad hn]; intro hv; exact hv.2 h0 HZ.out), rfl⟩
        · have hzb : (iv (f (k - 1)) == 0) = false := by rw [beq_eq_false_iff_ne]; intro e; apply hz; rw [iv_eq] at e; omega
          have HZ := Lib.hid hz
          clear hz
          go_wp2
          go_ret
          exact ⟨ret_int (by rw [chk_ok hn ⟨hlow, fun _ => HZ.out⟩]), rfl⟩
  · obtain rfl : n = 0 := by omega
    rw [chk_ok (by omega) ⟨fun j hj => by omega, fun h => by omega⟩]
    exact check_nil A c w

end Go.Proofs.YtmcacofpnnaplaaGreatDoor

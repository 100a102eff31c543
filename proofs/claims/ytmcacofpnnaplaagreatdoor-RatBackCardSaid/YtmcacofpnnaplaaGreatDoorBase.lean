/- The contracts of the small functions on lists of limbs: long, Alike, compare, Order, Compare of cmp. Conditions as premises: the lists read, and are valid where the order is asked. -/
import Derived.Test.YtmcacofpnnaplaaGreatDoorCheck
namespace Go.Proofs.YtmcacofpnnaplaaGreatDoor
open Go.RowKit

theorem ret_bool {a b : Bool} (h : a = b) : Ending.returned (.bool a) = .returned (.bool b) := by rw [h]

/-- what 'long' says -/
def lng (n : Nat) (m : Int) : Bool := decide ((m < (n : Int) ∧ n ≤ 1024) ∨ 1100 < n)

/-- what a call that only reads leaves: some draws -/
def Qt (w w' : World) : Prop := ∃ k, w' = w.drewN k
theorem Qt.refl (w : World) : Qt w w := ⟨0, rfl⟩
theorem Qt.n1 (w : World) (a : Nat) : Qt w (w.drewN a) := ⟨a, rfl⟩
theorem Qt.n2 (w : World) (a b : Nat) : Qt w ((w.drewN a).drewN b) := ⟨a + b, World.drewN_drewN _ _ _⟩
theorem Qt.n3 (w : World) (a b c : Nat) : Qt w (((w.drewN a).drewN b).drewN c) := ⟨a + (b + c), by rw [World.drewN_drewN, World.drewN_drewN]⟩
theorem Qt.trans {w w1 w2 : World} (h : Qt w w1) (k : Qt w1 w2) : Qt w w2 := by
  obtain ⟨a, rfl⟩ := h; obtain ⟨b, rfl⟩ := k; exact Qt.n2 w a b
theorem Qt.below {w w1 : World} (h : Qt w w1) : Below w.heap.size w w1 := by
  obtain ⟨k, rfl⟩ := h; exact ⟨rfl, rfl, rfl, Nat.le_refl _, fun _ _ => rfl⟩

set_option maxHeartbeats 400000 in
theorem alike_true (A A' : Option Addr) (n c c' : Nat) (f g : Nat → Nat) (B B' : Nat) (w : World) (hA : Rs w B A n c f) (hB : Rs w B' A' n c' g) (he : ∀ j, j < n → f j = g j) :
    Calls Tryz.prog 52 #[.slice A n c, .slice A' n c'] w fun e w' => e = .returned (.bool true) ∧ Qt w w' := by
  have hmax : n ≤ 9223372036854775807 := Nat.le_trans hA.cap hA.max
  by_cases h0 : 0 < n
  · obtain ⟨b, off, rfl, hb, hc⟩ := hA.cell h0
    obtain ⟨b', off', rfl, hb', hc'⟩ := hB.cell h0
    have HC := Lib.hid hc
    have HC' := Lib.hid hc'
    have HE := Lib.hid he
    clear hc hc' he
    go_enter Tryz.func52, Tryz.ntmps52
    go_wp2
    go_loopw [5] (fun i wr => ∃ k d : Nat, k ≤ n ∧ i = .int .i64 k ∧ wr = w.drewN d) (fun i _ => n - (intOf i).toNat)
    case atStart => exact ⟨0, 0, by omega, rfl, rfl⟩
    case round =>
      obtain ⟨k, d, hk, rfl, rfl⟩ := hrel
      by_cases hlt : k < n
      · have hck := HC.out k hlt
        have hck' := HC'.out k hlt
        rw [← HE.out k hlt] at hck'
        go_wp2
        go_quiet (fail)
        go_wp2
        go_roundw
        case rel => exact ⟨k + 1, _, by omega, by go_num, rfl⟩
        case measure => simp [intOf] <;> omega
      · obtain rfl : k = n := by omega
        go_wp2
        go_ret
        exact ⟨rfl, _, rfl⟩
  · obtain rfl : n = 0 := by omega
    go_enter Tryz.func52, Tryz.ntmps52
    go_wp2
    refine wp_loop_rounds 1 ?_
    rw [rounds_succ]
    go_wp2
    go_ret
    exact ⟨rfl, Qt.refl _⟩

/-- the sign of a comparison -/
def c3 (a b : Int) : Int := if a < b then -1 else if b < a then 1 else 0

set_option maxHeartbeats 400000 in
theorem cmpInt_any (a b : Int) (w : World) :
    Calls Tryz.prog 125 #[.int .i64 a, .int .i64 b] w fun e w' => e = .returned (.int .i64 (c3 a b)) ∧ w = w' := by
  rcases Int.lt_trichotomy a b with h | h | h
  · have hf : c3 a b = -1 := by unfold c3; rw [if_pos h]
    rw [hf]
    go_enter Tryz.func125, Tryz.ntmps125
    go_wp2
    go_ret
    exact ⟨rfl, rfl⟩
  · subst h
    have hf : c3 a a = 0 := by unfold c3; rw [if_neg (by omega), if_neg (by omega)]
    rw [hf]
    go_enter Tryz.func125, Tryz.ntmps125
    go_wp2
    go_ret
    exact ⟨rfl, rfl⟩
  · have hf : c3 a b = 1 := by unfold c3; rw [if_neg (by omega), if_pos h]
    rw [hf]
    go_enter Tryz.func125, Tryz.ntmps125
    go_wp2
    go_ret
    exact ⟨rfl, rfl⟩

set_option maxHeartbeats 400000 in
theorem cmpU32_any (a b : Int) (w : World) :
    Calls Tryz.prog 162 #[.int .u32 a, .int .u32 b] w fun e w' => e = .returned (.int .i64 (c3 a b)) ∧ w = w' := by
  rcases Int.lt_trichotomy a b with h | h | h
  · have hf : c3 a b = -1 := by unfold c3; rw [if_pos h]
    rw [hf]
    go_enter Tryz.func162, Tryz.ntmps162
    go_wp2
    go_ret
    exact ⟨rfl, rfl⟩
  · subst h
    have hf : c3 a a = 0 := by unfold c3; rw [if_neg (by omega), if_neg (by omega)]
    rw [hf]
    go_enter Tryz.func162, Tryz.ntmps162
    go_wp2
    go_ret
    exact ⟨rfl, rfl⟩
  · have hf : c3 a b = 1 := by unfold c3; rw [if_neg (by omega), if_pos h]
    rw [hf]
    go_enter Tryz.func162, Tryz.ntmps162
    go_wp2
    go_ret
    exact ⟨rfl, rfl⟩

end Go.Proofs.YtmcacofpnnaplaaGreatDoor

/- The contracts of the reference's Check, of the checks of two lists, and of toWord. Conditions as premises: the lists read. -/
import Derived.Test.YtmcacofpnnaplaaGreatDoorWord
namespace Go.Proofs.YtmcacofpnnaplaaGreatDoor
open Go.RowKit

set_option maxHeartbeats 400000 in
theorem refCheck_long (A : Option Addr) (n c : Nat) (w : World) (hn : 1024 < n) :
    Calls Tryz.prog 123 #[.slice A n c] w fun e w' => e = .returned (.int .i64 4) ∧ w = w' := by
  go_enter Tryz.func123, Tryz.ntmps123
  go_wp2
  go_ret
  exact ⟨rfl, rfl⟩

set_option maxHeartbeats 400000 in
theorem refCheck_nil (A : Option Addr) (c : Nat) (w : World) :
    Calls Tryz.prog 123 #[.slice A 0 c] w fun e w' => e = .returned (.int .i64 0) ∧ w = w' := by
  go_enter Tryz.func123, Tryz.ntmps123
  go_wp2
  refine wp_loop_rounds 1 ?_
  rw [rounds_succ]
  go_wp2
  go_ret
  exact ⟨rfl, rfl⟩

set_option maxHeartbeats 400000 in
theorem refCheck_any (A : Option Addr) (n c : Nat) (f : Nat → Nat) (B : Nat) (w : World) (h : Rs w B A n c f) :
    Calls Tryz.prog 123 #[.slice A n c] w fun e w' => e = .returned (.int .i64 (chk n f)) ∧ w = w' := by
  by_cases hn : 1024 < n
  · rw [chk_long hn]; exact refCheck_long A n c w hn
  by_cases h0 : 0 < n
  · obtain ⟨b, off, rfl, hb, hc⟩ := h.cell h0
    have hmax : n ≤ 1024 := by omega
    have hp : (0 : Int) < (n : Int) := by omega
    have hct := hc (n - 1) (by omega)
    have HC := Lib.hid hc
    clear hc
    go_enter Tryz.func123, Tryz.ntmps123
    go_wp2
    go_loop [3] (fun i => ∃ k : Nat, k ≤ n ∧ i = .int .i64 k ∧ Hid (∀ j, j < k → f j < LB)) (fun i => n - (intOf i).toNat)
    case atStart => exact ⟨0, by omega, rfl, fun j hj => by omega⟩
    case round =>
      obtain ⟨k, hk, rfl, hlow⟩ := hrel
      by_cases hlt : k < n
      · have hck := HC.out k hlt
        by_cases hbig : iv (f k) < 1000000000
        · go_wp2
          go_round
          case rel => exact ⟨k + 1, by omega, by go_num, fun j hj => by
            by_cases e : j = k
            · subst e; rw [LB_eq]; rw [iv_eq] at hbig; omega
            · exact hlow j (by omega)⟩
          case measure => simp [intOf] <;> omega
        · go_wp2
          go_ret
          exact ⟨ret_int (by rw [chk_bad hn]; intro hv; have := iv_limb (hv.1 k hlt); omega), rfl⟩
      · obtain rfl : k = n := by omega
        by_cases hz : f (k - 1) = 0
        · have hzz : iv (f (k - 1)) = 0 := by rw [hz, iv_eq]; rfl
          have hzb : (iv (f (k - 1)) == 0) = true := by rw [hzz]; rfl
          have HZ := Lib.hid hz
          clear hz hzz
          go_wp2
          go_ret
          exact ⟨ret_int (by rw [chk_bad hn]; intro hv; exact hv.2 h0 HZ.out), rfl⟩
        · have hzb : (iv (f (k - 1)) == 0) = false := by rw [beq_eq_false_iff_ne]; intro e; apply hz; rw [iv_eq] at e; omega
          have HZ := Lib.hid hz
          clear hz
          go_wp2
          go_ret
          exact ⟨ret_int (by rw [chk_ok hn ⟨hlow, fun _ => HZ.out⟩]), rfl⟩
  · obtain rfl : n = 0 := by omega
    rw [chk_ok (by omega) ⟨fun j hj => by omega, fun h => by omega⟩]
    exact refCheck_nil A c w

/-- the first error of two lists -/
noncomputable def chk2 (n : Nat) (f : Nat → Nat) (m : Nat) (g : Nat → Nat) : Int := if chk n f = 0 then chk m g else chk n f
theorem chk2_zero {n m : Nat} {f g : Nat → Nat} (h : chk2 n f m g = 0) : chk n f = 0 ∧ chk m g = 0 := by
  unfold chk2 at h
  by_cases e : chk n f = 0
  · rw [if_pos e] at h; exact ⟨e, h⟩
  · rw [if_neg e] at h; exact absurd h e

set_option maxHeartbeats 400000 in
theorem checkAll_any (p : Nat) (A A' : Option Addr) (n c m c' : Nat) (f g : Nat → Nat) (B B' : Nat) (w : World) (hA : Rs w B A n c f) (hB : Rs w B' A' m c' g)
    (h0 : w.cell? ⟨p, 0, none⟩ = some (.slice A n c)) (h1 : w.cell? ⟨p, 1, none⟩ = some (.slice A' m c')) :
    Calls Tryz.prog 143 #[.slice (some ⟨p, 0, none⟩) 2 2] w fun e w' => e = .returned (.int .i64 (chk2 n f m g)) ∧ w = w' := by
  have c1 := check_any A n c f B w hA
  have c2 := check_any A' m c' g B' w hB
  by_cases h : chk n f = 0
  · rw [h] at c1
    rw [show chk2 n f m g = chk m g by unfold chk2; rw [if_pos h]]
    have C1 := Lib.hid c1
    clear c1 h
    by_cases k : chk m g = 0
    · rw [k] at c2 ⊢
      have C2 := Lib.hid c2
      clear c2 k
      go_enter Tryz.func143, Tryz.ntmps143
      go_wp2_with fail
      refine wp_loop_rounds 3 ?_
      rw [rounds_succ]
      go_wp2_with fail
      refine C1.out.mono ?_
      rintro e w' ⟨rfl, rfl⟩
      go_wp2_with fail
      rw [rounds_succ]
      go_wp2_with fail
      refine C2.out.mono ?_
      rintro e w' ⟨rfl, rfl⟩
      go_wp2_with fail
      rw [rounds_succ]
      go_wp2_with fail
      go_ret
      exact ⟨rfl, rfl⟩
    · have h1 : (chk m g != 0) = true := by rw [bne_iff_ne]; exact k
      have h2 : (chk m g == 0) = false := by rw [beq_eq_false_iff_ne]; exact k
      have C2 := Lib.hid c2
      clear c2 k
      go_enter Tryz.func143, Tryz.ntmps143
      go_wp2_with fail
      refine wp_loop_rounds 3 ?_
      rw [rounds_succ]
      go_wp2_with fail
      refine C1.out.mono ?_
      rintro e w' ⟨rfl, rfl⟩
      go_wp2_with fail
      rw [rounds_succ]
      go_wp2_with fail
      refine C2.out.mono ?_
      rintro e w' ⟨rfl, rfl⟩
      go_wp2_with fail
      go_ret
      exact ⟨rfl, rfl⟩
  · rw [show chk2 n f m g = chk n f by unfold chk2; rw [if_neg h]]
    have h1 : (chk n f != 0) = true := by rw [bne_iff_ne]; exact h
    have h2 : (chk n f == 0) = false := by rw [beq_eq_false_iff_ne]; exact h
    have C1 := Lib.hid c1
    clear c1 c2 h
    go_enter Tryz.func143, Tryz.ntmps143
    go_wp2_with fail
    refine wp_loop_rounds 3 ?_
    rw [rounds_succ]
    go_wp2_with fail
    refine C1.out.mono ?_
    rintro e w' ⟨rfl, rfl⟩
    go_wp2_with fail
    go_ret
    exact ⟨rfl, rfl⟩

end Go.Proofs.YtmcacofpnnaplaaGreatDoor

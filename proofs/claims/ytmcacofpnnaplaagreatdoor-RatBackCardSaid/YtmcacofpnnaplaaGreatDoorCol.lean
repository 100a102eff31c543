/- The contracts of the column's collect and of crossSum. Conditions as premises. -/
import Derived.Test.YtmcacofpnnaplaaGreatDoorDiv64
namespace Go.Proofs.YtmcacofpnnaplaaGreatDoor
open Go.RowKit Go.Shelf

set_option maxRecDepth 100000 in
set_option maxHeartbeats 4000000 in
theorem collect_any (B V b x : Nat) (w : World) (hc : Col w B V) (hx : w.cell? ⟨b, 0, none⟩ = some (.int .u64 (iv x))) (hxb : Big (x < 18446744073709551616)) (hV : Big (V + x < 18446744073709551616 * 18446744073709551616)) :
    Calls Tryz.prog 176 #[.pointer (some ⟨B, 0, none⟩), .slice (some ⟨b, 0, none⟩) 1 1] w fun e w' => e = .returned (.tuple #[]) ∧ Col w' B (V + x) ∧ w.grownBy w' (some B) := by
  have hh := hc.high
  have hl := hc.low
  have f0 := hc.frozen 0
  have f1 := hc.frozen 1
  have hv := hV.out
  have hxb' := hxb.out
  have e1 : (iv (V % 18446744073709551616) + iv x) % 18446744073709551616 = iv ((V + x) % 18446744073709551616) := by simp only [iv_eq]; omega
  have e2 : iv (V / 18446744073709551616) + (iv (V % 18446744073709551616) + iv x) / 18446744073709551616 = iv ((V + x) / 18446744073709551616) := by simp only [iv_eq]; omega
  have hnew := Col.put' hc (V + x)
  have hx0 := iv_nonneg x
  have hx1 : iv x < 18446744073709551616 := by rw [iv_eq]; omega
  have hy0 := iv_nonneg (V % 18446744073709551616)
  have hy1 : iv (V % 18446744073709551616) < 18446744073709551616 := by rw [iv_eq]; omega
  have hz0 := iv_nonneg (V / 18446744073709551616)
  have hz1 : iv ((V + x) / 18446744073709551616) ≤ 18446744073709551615 := iv_u64 (by omega)
  rw [← e1, ← e2] at hnew
  rw [← e2] at hz1
  have HNEW := Lib.hid hnew
  clear hnew hv hV hxb hxb' hc e1 e2
  generalize iv (V % 18446744073709551616) = Y at *
  generalize iv (V / 18446744073709551616) = Z at *
  generalize iv x = X at *
  have HA := fun w => add64_any Y X hy0 hx0 hy1 hx1 w
  have HADD := Lib.hid HA
  clear HA
  go_enter Tryz.func176, Tryz.ntmps176
  go_wp2_with fail
  refine wp_loop_rounds 2 ?_
  rw [rounds_succ]
  go_wp2_with (simp only [HADD.out])
  rw [rounds_succ]
  go_wp2_with fail
  go_end0
  exact ⟨rfl, HNEW.out, (grownBy_set _ _ _ _).trans (grownBy_set _ _ _ _)⟩

set_option maxRecDepth 100000 in
set_option maxHeartbeats 4000000 in
theorem cross_any (A A' : Option Addr) (n c m c' : Nat) (f g : Nat → Nat) (B B' : Nat) (w : World) (hA : Rs w B A n c f) (hB : Rs w B' A' m c' g) (hf : ∀ j, j < n → f j < LB) (hg : ∀ j, j < m → g j < LB) (hn : n ≤ 18) (hnm : n ≤ m) :
    Calls Tryz.prog 177 #[.slice A n c, .slice A' m c'] w fun e w' => e = .returned (.int .u64 (iv (sm (fun t => f t * g (m - 1 - t)) n))) ∧ Qt w w' := by
  have hmax : m ≤ 9223372036854775807 := Nat.le_trans hB.cap hB.max
  have HS : Hid (∀ k, k < n → iv (sm (fun t => f t * g (m - 1 - t)) k) + iv (f k) * iv (g (m - 1 - k)) = iv (sm (fun t => f t * g (m - 1 - t)) (k + 1)) ∧ iv (f k) * iv (g (m - 1 - k)) ≤ 999999998000000001 ∧ sm (fun t => f t * g (m - 1 - t)) k ≤ k * 999999998000000001) := Lib.hid fun k hk => by
    have h1 := (times_lt (hf k hk) (hg (m - 1 - k) (by omega)) LB_pos LB_pos).2
    refine ⟨by simp only [iv_eq]; rw [sm, ← Int.natCast_mul]; omega, by simp only [iv_eq]; rw [← Int.natCast_mul]; omega, sm_le k fun j hj => (times_lt (hf j (by omega)) (hg (m - 1 - j) (by omega)) LB_pos LB_pos).2⟩
  have HF := Lib.hid hf
  have HG := Lib.hid hg
  clear hf hg
  go_enter Tryz.func177, Tryz.ntmps177
  go_wp2_with fail
  go_loopw [5, 10] (fun u i wr => ∃ k d : Nat, k ≤ n ∧ i = .int .i64 k ∧ u = .int .u64 (iv (sm (fun t => f t * g (m - 1 - t)) k)) ∧ wr = w.drewN d) (fun _ i _ => n - (intOf i).toNat)
  case atStart => exact ⟨0, 0, Nat.zero_le _, rfl, by rw [sm, iv_zero], rfl⟩
  case round =>
    obtain ⟨k, d, hk, rfl, rfl, rfl⟩ := hrel
    by_cases hlt : k < n
    · obtain ⟨b1, off1, rfl, hb1, hcc1⟩ := hA.cell (by omega)
      have hck1 := hcc1 k hlt
      obtain ⟨b2, off2, rfl, hb2, hcc2⟩ := hB.cell (by omega)
      have hck2 := hcc2 (m - 1 - k) (by omega)
      have hi : ((m - 1 - k : Nat) : Int) = (m : Int) - 1 - (k : Int) := by omega
      clear hcc1 hcc2
      obtain ⟨hs1, hs2, hs3⟩ := HS.out k hlt
      have hS0 := iv_nonneg (sm (fun t => f t * g (m - 1 - t)) k)
      have hS1 : iv (sm (fun t => f t * g (m - 1 - t)) k) ≤ 16999999966000000017 := by rw [iv_eq]; have : k * 999999998000000001 ≤ 17 * 999999998000000001 := Nat.mul_le_mul_right _ (by omega); omega
      have hx0 := iv_nonneg (f k)
      have hy0 := iv_nonneg (g (m - 1 - k))
      have hx1 := iv_limb (HF.out k hlt)
      have hy1 := iv_limb (HG.out (m - 1 - k) (by omega))
      have hp0 : 0 ≤ iv (f k) * iv (g (m - 1 - k)) := Int.mul_nonneg hx0 hy0
      have H1 := Lib.hid hs1
      clear hs1 hs3
      generalize iv (f k) = X at *
      generalize iv (g (m - 1 - k)) = Y at *
      generalize iv (sm (fun t => f t * g (m - 1 - t)) k) = Z at *
      go_wp2
      go_roundw
      case rel => exact ⟨k + 1, d, by omega, by go_num, by rw [H1.out], rfl⟩
      case measure => simp [intOf]; omega
    · obtain rfl : k = n := by omega
      go_wp2_with fail
      go_ret
      exact ⟨rfl, Qt.n1 _ _⟩

end Go.Proofs.YtmcacofpnnaplaaGreatDoor

/- The contracts of scaled, subtract and restore. Conditions as premises. -/
import Derived.Test.YtmcacofpnnaplaaGreatDoorTimes
import Derived.Test.YtmcacofpnnaplaaGreatDoorDiv64
import Derived.Test.YtmcacofpnnaplaaGreatDoorDivMath
namespace Go.Proofs.YtmcacofpnnaplaaGreatDoor
open Go.RowKit Go.Shelf

theorem iv_muladd2 {c a b : Nat} : (iv c + iv a * iv b) / 1000000000 = iv ((c + a * b) / LB) ∧ (iv c + iv a * iv b) % 1000000000 = iv ((c + a * b) % LB) := by
  have e := LB_eq
  simp only [iv_eq]
  rw [e, ← Int.natCast_mul]; omega

set_option maxRecDepth 100000 in
set_option maxHeartbeats 4000000 in
theorem scaled_any (A : Option Addr) (n c d s : Nat) (f : Nat → Nat) (w : World) (hA : Rs w w.heap.size A n c f) (hf : ∀ j, j < n → f j < LB) (hd : d < LB) (hs : s ≤ 3000) :
    Calls Tryz.prog 192 #[.slice A n c, .int .u32 (iv d), .int .i64 s] w fun e w' => e = .returned (.slice (some ⟨w.heap.size, 0, none⟩) s s) ∧ Below w.heap.size w w' ∧
      ∃ q C, Row w' w.heap.size s q ∧ (∀ j, q j < LB) ∧ nv q s + C * LB ^ s = nv (pl f n) s * d := by
  have hmk := run_make_row' (P := Tryz.prog) 23 48 (.int .u32 0) 4 Tryz.underlying23 info32 rfl .i64 .i64 s (by omega) (by omega)
  have hrow := Row.made w s
  have hbel : Below w.heap.size w (w.alloc (.cells (madeCells #[.int .u32 0] s) 48)) := (Below.refl _ _).alloc (Nat.le_refl _) _
  have HF := Lib.hid hf
  have HD := Lib.hid hd
  have hd0 := iv_nonneg d
  have hd1 := iv_limb hd
  clear hf hd
  obtain ⟨DD, hDD⟩ : ∃ DD, iv d = DD := ⟨_, rfl⟩
  rw [hDD] at hd0 hd1 ⊢
  have HDD := Lib.hid hDD
  clear hDD
  go_enter Tryz.func192, Tryz.ntmps192
  go_wp2
  clear hmk
  generalize hgw : w.alloc (.cells (madeCells #[.int .u32 0] s) 48) = w0 at *
  clear hgw
  go_loopw [8, 9, 14] (fun u _ i wr => ∃ k C : Nat, k ≤ s ∧ i = .int .i64 k ∧ u = .int .u64 (iv C) ∧ ∃ q, Row wr w.heap.size s q ∧ Hid (nv q k + C * LB ^ k = nv (pl f n) k * d ∧ C < LB ∧ ∀ j, q j < LB) ∧ Below w.heap.size w wr) (fun _ _ i _ => s - (intOf i).toNat)
  case atStart => exact ⟨0, 0, Nat.zero_le _, rfl, by rw [iv_zero], _, hrow, ⟨by simp [nv], LB_pos, fun _ => LB_pos⟩, hbel⟩
  case round =>
    obtain ⟨k, C, hk, rfl, rfl, q, hrq, hq, hb⟩ := hrel
    by_cases hlt : k < s
    · obtain ⟨he, hC, hql⟩ := hq.out
      have hC1 := iv_limb hC
      have hC0 := iv_nonneg C
      have hcp := hrq.cell hlt
      have hfz := hrq.frozen k
      have hstep := col_step (S := pl f n k * d) he
      rw [show nv (pl f n) k * d + pl f n k * d * LB ^ k = nv (pl f n) (k + 1) * d by rw [nv, Nat.add_mul]; congr 1; exact Nat.mul_right_comm _ _ _] at hstep
      have hcar := (times_lt (pl_lt HF.out k) HD.out hC LB_pos).1
      rw [Nat.add_zero] at hcar
      have hprod := (times_lt (pl_lt HF.out k) HD.out hC LB_pos).2
      have hnew := hrq.set k ((C + pl f n k * d) % LB)
      have HN : Hid (nv (fun j => if j = k then (C + pl f n k * d) % LB else q j) (k + 1) + (C + pl f n k * d) / LB * LB ^ (k + 1) = nv (pl f n) (k + 1) * d ∧ (C + pl f n k * d) / LB < LB ∧ ∀ j, (if j = k then (C + pl f n k * d) % LB else q j) < LB) := ⟨hstep, hcar, fun j => by split; exact Nat.mod_lt _ LB_pos; exact hql j⟩
      clear hstep he hql hq
      by_cases hn : k < n
      · rw [pl_in hn] at hnew HN hcar hprod
        obtain ⟨b1, off1, rfl, hb1, hcc1⟩ := (hA.below hb).cell (by omega)
        have hck1 := hcc1 k hn
        have hx0 := iv_nonneg (f k)
        have hx1 := iv_limb (HF.out k hn)
        obtain ⟨ed, em⟩ := @iv_muladd2 C (f k) d
        have hp0 : 0 ≤ iv (f k) * iv d := Int.mul_nonneg hx0 (iv_nonneg d)
        have hp1 : iv (f k) * iv d ≤ 999999998000000001 := by
          have h4 := iv_le hprod
          rw [iv_eq, Int.natCast_mul, ← iv_eq, ← iv_eq] at h4
          exact h4
        have hdl := iv_limb hcar
        have hml := iv_limb (Nat.mod_lt (C + f k * d) LB_pos)
        rw [← ed] at hdl
        rw [← em] at hnew hml
        have HED := Lib.hid ed
        have HNEW := Lib.hid hnew
        rw [HDD.out] at hp0 hp1 hdl hml HED HNEW
        clear hcc1 ed em hnew hprod hcar
        generalize iv (f k) = X at *
        generalize hgc : iv C = CC at *
        clear hgc
        go_wp2
        go_roundw
        case rel => exact ⟨k + 1, _, by omega, by go_num, by rw [HED.out], _, HNEW.out, HN.out, hb.setCell (p := ⟨w.heap.size, k, none⟩) (Nat.le_refl _) _⟩
        case measure => simp [intOf]; omega
      · rw [pl_out (by omega), Nat.zero_mul, Nat.add_zero] at hnew HN
        have ed : iv C / 1000000000 = iv (C / LB) := by simp only [iv_eq]; rw [LB_eq]; omega
        have em : iv C % 1000000000 = iv (C % LB) := by simp only [iv_eq]; rw [LB_eq]; omega
        rw [← em] at hnew
        have HED := Lib.hid ed
        have HNEW := Lib.hid hnew
        clear ed em hnew hprod hcar
        generalize hgc : iv C = CC at *
        clear hgc
        go_wp2
        go_roundw
        case rel => exact ⟨k + 1, _, by omega, by go_num, by rw [← HED.out], _, HNEW.out, HN.out, hb.setCell (p := ⟨w.heap.size, k, none⟩) (Nat.le_refl _) _⟩
        case measure => simp [intOf]; omega
    · obtain rfl : k = s := by omega
      go_wp2
      go_ret
      exact ⟨rfl, hb, q, C, hrq, hq.out.2.2, hq.out.1⟩

end Go.Proofs.YtmcacofpnnaplaaGreatDoor

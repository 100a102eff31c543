/- The contract of the reference's Times. Conditions as premises: the lists read, their limbs are below ten to the ninth, and they are short enough. -/
import Derived.Test.YtmcacofpnnaplaaGreatDoorRefSub
import Derived.Test.YtmcacofpnnaplaaGreatDoorProdMath
namespace Go.Proofs.YtmcacofpnnaplaaGreatDoor
open Go.RowKit Go.Shelf

theorem Row.drewN {w : World} {b n : Nat} {f : Nat → Nat} (h : Row w b n f) (k : Nat) : Row (w.drewN k) b n f := h
theorem iv_muladd {c q a b : Nat} : (iv c + iv q + iv a * iv b) / 1000000000 = iv ((c + q + a * b) / LB) ∧ (iv c + iv q + iv a * iv b) % 1000000000 = iv ((c + q + a * b) % LB) := by
  have e := LB_eq
  simp only [iv_eq]
  rw [e, ← Int.natCast_mul]; omega

set_option maxRecDepth 100000 in
set_option maxHeartbeats 4000000 in
theorem refTimes_any (A A' : Option Addr) (n c m c' : Nat) (f g : Nat → Nat) (w : World) (hA : Rs w w.heap.size A n c f) (hB : Rs w w.heap.size A' m c' g) (hf : ∀ j, j < n → f j < LB) (hg : ∀ j, j < m → g j < LB) (hn : n ≤ 2000) (hm : m ≤ 2000) :
    Calls Tryz.prog 113 #[.slice A n c, .slice A' m c'] w fun e w' => ∃ v, e = .returned v ∧ Made w (nv f n * nv g m) v w' := by
  have hmk := run_make_row' (P := Tryz.prog) 23 48 (.int .u32 0) 4 Tryz.underlying23 info32 rfl .i64 .i64 (n + m) (by omega) (by omega)
  rw [show ((n + m : Nat) : Int) = (n : Int) + (m : Int) by omega] at hmk
  have hrow := Row.made w (n + m)
  have hbel : Below w.heap.size w (w.alloc (.cells (madeCells #[.int .u32 0] (n + m)) 48)) := (Below.refl _ _).alloc (Nat.le_refl _) _
  have HF := Lib.hid hf
  have HG := Lib.hid hg
  clear hf hg
  go_enter Tryz.func113, Tryz.ntmps113
  go_wp2
  clear hmk
  generalize hgw : w.alloc (.cells (madeCells #[.int .u32 0] (n + m)) 48) = w0 at *
  clear hgw
  go_loopw [6, 7, 8] (fun i u v wr => ∃ k : Nat, k ≤ n ∧ i = .int .i64 k ∧ ∃ q, Row wr w.heap.size (n + m) q ∧ Hid (nv q (n + m) = nv f k * nv g m ∧ (∀ j, q j < LB) ∧ ∀ j, k + m ≤ j → q j = 0) ∧ Below w.heap.size w wr) (fun i _ _ _ => n - (intOf i).toNat)
  case atStart => exact ⟨0, Nat.zero_le _, rfl, _, hrow, ⟨by rw [nv, Nat.zero_mul, nv_zero], fun j => LB_pos, fun j _ => rfl⟩, hbel⟩
  case round =>
    obtain ⟨k, hk, rfl, q, hrq, hq, hb⟩ := hrel
    by_cases hlt : k < n
    · go_wp2
      go_loopw [7, 8] (fun u i wr2 => ∃ j C : Nat, j ≤ m ∧ i = .int .i64 j ∧ u = .int .u64 (iv C) ∧ ∃ q2, Row wr2 w.heap.size (n + m) q2 ∧ Hid (nv q2 (n + m) + C * LB ^ (k + j) = nv f k * nv g m + f k * LB ^ k * nv g j ∧ C < LB ∧ (∀ t, q2 t < LB) ∧ ∀ t, k + m ≤ t → q2 t = 0) ∧ Below w.heap.size w wr2) (fun _ i _ => m - (intOf i).toNat)
      case atStart => exact ⟨0, 0, Nat.zero_le _, rfl, by rw [iv_zero], q, hrq, ⟨by rw [hq.out.1, nv, Nat.zero_mul, Nat.mul_zero], LB_pos, hq.out.2.1, hq.out.2.2⟩, hb⟩
      case round =>
        obtain ⟨j, C, hj, rfl, rfl, q2, hrq2, hq2, hb2⟩ := hrel
        obtain ⟨he, hC, hql, hqz⟩ := hq2.out
        have hC1 := iv_limb hC
        have hC0 := iv_nonneg C
        by_cases hjm : j < m
        · have hpn : k + j < n + m := by omega
          have hcp := hrq2.cell hpn
          have hfz := hrq2.frozen (k + j)
          have hq1 := iv_limb (hql (k + j))
          have hq0 := iv_nonneg (q2 (k + j))
          obtain ⟨b1, off1, rfl, hb1, hcc1⟩ := (hA.below hb2).cell (by omega)
          have hck1 := hcc1 k hlt
          obtain ⟨b3, off3, rfl, hb3, hcc3⟩ := (hB.below hb2).cell (by omega)
          have hck3 := hcc3 j hjm
          have hx1 := iv_limb (HF.out k hlt)
          have hx0 := iv_nonneg (f k)
          have hy1 := iv_limb (HG.out j hjm)
          have hy0 := iv_nonneg (g j)
          obtain ⟨hd, hab⟩ := times_lt (HF.out k hlt) (HG.out j hjm) hC (hql (k + j))
          obtain ⟨ed, em⟩ := @iv_muladd C (q2 (k + j)) (f k) (g j)
          have hp0 : 0 ≤ iv (f k) * iv (g j) := Int.mul_nonneg hx0 hy0
          have hp1 : iv (f k) * iv (g j) ≤ 999999998000000001 := by
            have := iv_eq (f k * g j)
            have h4 := iv_le hab
            rw [this, Int.natCast_mul, ← iv_eq, ← iv_eq] at h4
            exact h4
          have hdl := iv_limb hd
          have hml := iv_limb (Nat.mod_lt (C + q2 (k + j) + f k * g j) LB_pos)
          have hd0 := iv_nonneg ((C + q2 (k + j) + f k * g j) / LB)
          have hm0 := iv_nonneg ((C + q2 (k + j) + f k * g j) % LB)
          rw [← ed] at hdl hd0
          rw [← em] at hml hm0
          have hnew := fun d => (hrq2.drewN d).set (k + j) ((C + q2 (k + j) + f k * g j) % LB)
          rw [← em] at hnew
          have HNEW := Lib.hid hnew
          have HN := Lib.hid (And.intro (times_step (a := f k) (b := g j) (G := nv g j) hpn he) (And.intro hd (And.intro (show ∀ t, (if t = k + j then (C + q2 (k + j) + f k * g j) % LB else q2 t) < LB from fun t => by split; exact Nat.mod_lt _ LB_pos; exact hql t) (show ∀ t, k + m ≤ t → (if t = k + j then (C + q2 (k + j) + f k * g j) % LB else q2 t) = 0 from fun t ht => by rw [if_neg (by omega)]; exact hqz t ht))))
          have HED := Lib.hid ed
          clear he hC hql hqz hcc1 hcc3 hd hab ed em hnew
          generalize hgx : iv (f k) = X at *
          generalize hgy : iv (g j) = Y at *
          generalize hgq : iv (q2 (k + j)) = Z at *
          generalize hgc : iv C = CC at *
          clear hgx hgy hgq hgc
          go_wp2
          go_quiet (fail)
          go_wp2
          go_roundw
          case rel => exact ⟨j + 1, _, by omega, by go_num, by rw [HED.out], _, HNEW.out nq, HN.out, (hb2.trans ((Below.drewN _ nq).mono hb2.size)).setCell (p := ⟨w.heap.size, k + j, none⟩) (Nat.le_refl _) _⟩
          case measure => simp [intOf]; omega
        · obtain rfl : j = m := by omega
          have hpn : k + j < n + j := by omega
          have hfz := hrq2.frozen (k + j)
          have hcp := hrq2.cell hpn
          have hnew := hrq2.set (k + j) C
          have HN := Lib.hid (And.intro (times_row hpn (hqz _ (Nat.le_refl _)) he) (And.intro (show ∀ t, (if t = k + j then C else q2 t) < LB from fun t => by split; exact hC; exact hql t) (show ∀ t, k + 1 + j ≤ t → (if t = k + j then C else q2 t) = 0 from fun t ht => by rw [if_neg (by omega)]; exact hqz t (by omega))))
          have HNEW := Lib.hid hnew
          clear he hC hql hqz hnew
          generalize hgc : iv C = CC at *
          clear hgc
          go_wp2
          go_roundw
          case rel => exact ⟨k + 1, by omega, by go_num, _, HNEW.out, HN.out, hb2.setCell (p := ⟨w.heap.size, k + j, none⟩) (Nat.le_refl _) _⟩
          case measure => simp [intOf]; omega
    · obtain rfl : k = n := by omega
      obtain ⟨he, hql, hqz⟩ := hq.out
      have HT := Lib.hid (refTrim_any (some ⟨w.heap.size, 0, none⟩) (k + m) (k + m) q _ wr (hrq.rs (by omega) (fun j hj => by have := hql j; rw [LB_eq] at this; omega)))
      have HQ := Lib.hid hql
      have HE := Lib.hid he
      clear he hql hqz
      go_wp2_with fail
      refine HT.out.mono ?_
      rintro e w' ⟨⟨v, rfl, ht⟩, rfl⟩
      have HM := Lib.hid (ht.made (fun j _ => HQ.out j) HE.out hb)
      clear ht
      go_wp2_with fail
      go_ret
      exact ⟨_, rfl, HM.out⟩

end Go.Proofs.YtmcacofpnnaplaaGreatDoor

/- The contracts of wordDivisor, and of divide and commonDivisor where the numbers fit machine words. Conditions as premises. -/
import Derived.Test.YtmcacofpnnaplaaGreatDoorPow
import Derived.Deep.RegionHeld3
import Derived.Deep.RegionWith
namespace Go.Proofs.YtmcacofpnnaplaaGreatDoor
open Go.RowKit

theorem iv_mod' (a b : Nat) : iv a % iv b = iv (a % b) ∧ iv a / iv b = iv (a / b) := by
  simp only [iv_eq]; exact ⟨(Int.natCast_emod a b).symm, (Int.natCast_ediv a b).symm⟩

set_option maxHeartbeats 800000 in
set_option maxRecDepth 100000 in
theorem wordDivisor_any (x y : Nat) (hx : Big (x < 18446744073709551616)) (hy : Big (y < 18446744073709551616)) (w : World) :
    Calls Tryz.prog 168 #[.int .u64 (iv x), .int .u64 (iv y)] w fun e w' => e = .returned (.int .u64 (iv (Nat.gcd x y))) ∧ Qt w w' := by
  obtain ⟨X0, hX0⟩ : ∃ X, X = iv x := ⟨_, rfl⟩
  obtain ⟨Y0, hY0⟩ : ∃ Y, Y = iv y := ⟨_, rfl⟩
  rw [← hX0, ← hY0]
  have HX0 := Lib.hid hX0
  have HY0 := Lib.hid hY0
  clear hX0 hY0
  go_enter Tryz.func168, Tryz.ntmps168
  go_wp2
  go_loopw [0, 1] (fun u v wr => ∃ X Y d : Nat, u = .int .u64 (iv X) ∧ v = .int .u64 (iv Y) ∧ Hid (Nat.gcd X Y = Nat.gcd x y ∧ X < 18446744073709551616 ∧ Y < 18446744073709551616) ∧ wr = w.drewN d) (fun _ v _ => (intOf v).toNat)
  case atStart => exact ⟨x, y, 0, by rw [HX0.out], by rw [HY0.out], ⟨rfl, hx.out, hy.out⟩, rfl⟩
  case round =>
    obtain ⟨X, Y, d, rfl, rfl, hg, rfl⟩ := hrel
    rcases Nat.eq_zero_or_pos Y with h0 | h0
    · subst h0
      rw [iv_zero]
      go_wp2
      go_ret
      exact ⟨by rw [← hg.out.1, Nat.gcd_zero_right]; rfl, Qt.n1 _ _⟩
    · have hp := iv_pos (show Y ≠ 0 by omega)
      have hY1 : iv Y ≤ 18446744073709551615 := iv_u64 hg.out.2.2
      have hX0' := iv_nonneg X
      have hm := (iv_mod' X Y).1
      have hm0 := iv_nonneg (X % Y)
      have hml : iv (X % Y) < iv Y := by rw [iv_eq, iv_eq]; have := Nat.mod_lt X h0; omega
      have HM := Lib.hid hm
      have HG : Hid (Nat.gcd Y (X % Y) = Nat.gcd x y ∧ Y < 18446744073709551616 ∧ X % Y < 18446744073709551616) := ⟨by rw [← hg.out.1, Nat.gcd_comm X Y, Nat.gcd_rec Y X, Nat.gcd_comm], hg.out.2.2, Nat.lt_trans (Nat.mod_lt X h0) hg.out.2.2⟩
      have hml' : Big (X % Y < Y) := Big.mk (Nat.mod_lt X h0)
      clear hm h0
      generalize hgX : iv X = XX at *
      generalize hgY : iv Y = YY at *
      generalize hgZ : iv (X % Y) = Z at *
      have HGY := Lib.hid hgY
      have HGZ := Lib.hid hgZ
      clear hgX hgY hgZ
      go_wp2
      go_quiet (fail)
      go_wp2
      go_roundw
      case rel => exact ⟨Y, X % Y, _, by rw [HGY.out], by rw [HM.out, HGZ.out], HG, World.drewN_drewN _ _ _⟩
      case measure => rw [HM.out]; simp [intOf] <;> omega

theorem two_limbs {n : Nat} {f : Nat → Nat} (hv : Val n f) (hn : n ≤ 2) : nv f n < 18446744073709551616 := by
  have h1 := Nat.lt_of_lt_of_le hv.lt (pow_le_of hn)
  rw [Nat.pow_two, LB_eq] at h1
  omega

set_option maxHeartbeats 1600000 in
set_option maxRecDepth 100000 in
/-- behind the loop: both numbers fit machine words -/
theorem common_small (A A' : Option Addr) (n c m c' : Nat) (f g : Nat → Nat) (w : World) (hA : Rs w w.heap.size A n c f) (hB : Rs w w.heap.size A' m c' g) (vf : Val n f) (vg : Val m g) (hn : n ≤ 2) (hm : m ≤ 2) (hn0 : 0 < n) (hm0 : 0 < m) :
    Calls Tryz.prog 147 #[.slice A n c, .slice A' m c'] w fun e w' => ∃ v, e = .returned v ∧ Made w (Nat.gcd (nv f n) (nv g m)) v w' := by
  have hcmp := compare_any A A' n c m c' f g _ _ w hA hB vf vg
  have W1 := Lib.hid fun w' (h : Rs w' w.heap.size A n c f) => toWord_any A n c f _ w' h (Big.mk (two_limbs vf hn))
  have W2 := Lib.hid fun w' (h : Rs w' w.heap.size A' m c' g) => toWord_any A' m c' g _ w' h (Big.mk (two_limbs vg hm))
  have BX := Big.mk (two_limbs vf hn)
  have BY := Big.mk (two_limbs vg hm)
  have hgc := Nat.gcd_comm (nv f n) (nv g m)
  have BG : Big (Nat.gcd (nv f n) (nv g m) < 18446744073709551616) := Big.mk (Nat.lt_of_le_of_lt (Nat.gcd_le_left _ (vf.pos hn0)) (two_limbs vf hn))
  have HGC := Lib.hid hgc
  clear hgc
  have hn1 : (n : Int) ≤ 2 := by omega
  have hm1 : (m : Int) ≤ 2 := by omega
  have hn2 : ((n : Int) == 0) = false := by rw [beq_eq_false_iff_ne]; omega
  have hm2 : ((m : Int) == 0) = false := by rw [beq_eq_false_iff_ne]; omega
  by_cases hlt : nv f n < nv g m
  · rw [cn_lt hlt] at hcmp
    have C := Lib.hid hcmp
    clear hcmp hlt vf vg
    go_enter Tryz.func147, Tryz.ntmps147
    go_wp2_with fail
    refine C.out.mono ?_
    rintro _ _ ⟨rfl, d, rfl⟩
    go_wp2_with fail
    refine wp_loop_rounds 1 ?_
    rw [rounds_succ]
    go_wp2_with fail
    refine (W2.out _ (hB.drewN d)).mono ?_
    rintro _ _ ⟨rfl, rfl⟩
    go_wp2_with fail
    refine (W1.out _ (hA.drewN d)).mono ?_
    rintro _ _ ⟨rfl, rfl⟩
    go_wp2_with fail
    refine (wordDivisor_any _ _ BY BX _).mono ?_
    rintro _ _ ⟨rfl, d2, rfl⟩
    rw [← HGC.out]
    go_wp2_with fail
    refine (fromWord_nat _ BG _).mono ?_
    rintro _ w3 ⟨v, rfl, hv⟩
    have HV := Lib.hid (hv.after (Below.drewN w (d + d2)))
    clear hv
    go_wp2_with fail
    go_ret
    exact ⟨_, rfl, HV.out⟩
  · have hcn : cn (nv f n) (nv g m) = 0 ∨ cn (nv f n) (nv g m) = 1 := by
      rcases Nat.eq_or_lt_of_le (Nat.not_lt.1 hlt) with e | e
      · exact .inl (cn_eq e.symm)
      · exact .inr (cn_gt e)
    have hcc : ¬ cn (nv f n) (nv g m) < 0 := by rcases hcn with h | h <;> rw [h] <;> decide
    have C := Lib.hid hcmp
    clear hcmp hlt vf vg hcn
    generalize cn (nv f n) (nv g m) = cc at *
    go_enter Tryz.func147, Tryz.ntmps147
    go_wp2_with fail
    refine C.out.mono ?_
    rintro _ _ ⟨rfl, d, rfl⟩
    go_wp2_with fail
    refine wp_loop_rounds 1 ?_
    rw [rounds_succ]
    go_wp2_with fail
    refine (W1.out _ (hA.drewN d)).mono ?_
    rintro _ _ ⟨rfl, rfl⟩
    go_wp2_with fail
    refine (W2.out _ (hB.drewN d)).mono ?_
    rintro _ _ ⟨rfl, rfl⟩
    go_wp2_with fail
    refine (wordDivisor_any _ _ BX BY _).mono ?_
    rintro _ _ ⟨rfl, d2, rfl⟩
    go_wp2_with fail
    refine (fromWord_nat _ BG _).mono ?_
    rintro _ w3 ⟨v, rfl, hv⟩
    have HV := Lib.hid (hv.after (Below.drewN w (d + d2)))
    clear hv
    go_wp2_with fail
    go_ret
    exact ⟨_, rfl, HV.out⟩

set_option maxHeartbeats 4000000 in
set_option maxRecDepth 100000 in
theorem divide_small (A A' : Option Addr) (n c m c' : Nat) (f g : Nat → Nat) (w : World) (hA : Rs w w.heap.size A n c f) (hB : Rs w w.heap.size A' m c' g) (vf : Val n f) (vg : Val m g) (hn : n ≤ 2) (hm0 : 0 < m) (hle : nv g m ≤ nv f n) :
    Calls Tryz.prog 165 #[.slice A n c, .slice A' m c'] w fun e w' => ∃ v u, e = .returned (.tuple #[v, u]) ∧ Made2 w (nv f n / nv g m) (nv f n % nv g m) v u w' := by
  have hcmp := compare_any A A' n c m c' f g _ _ w hA hB vf vg
  have hcc : ¬ cn (nv f n) (nv g m) < 0 := by
    rcases Nat.eq_or_lt_of_le hle with e | e
    · rw [cn_eq e.symm]; decide
    · rw [cn_gt e]; decide
  have hmn : m ≤ 2 := by
    rcases Nat.lt_or_ge n m with h3 | h3
    · have := vf.lt_of_len vg h3; omega
    · omega
  have W1 := Lib.hid fun w' (h : Rs w' w.heap.size A n c f) => toWord_any A n c f _ w' h (Big.mk (two_limbs vf hn))
  have W2 := Lib.hid fun w' (h : Rs w' w.heap.size A' m c' g) => toWord_any A' m c' g _ w' h (Big.mk (two_limbs vg hmn))
  have BX := Big.mk (two_limbs vf hn)
  have hp := vg.pos hm0
  have hyp := iv_pos (show nv g m ≠ 0 by omega)
  have hx0 := iv_nonneg (nv f n)
  have hx1 : iv (nv f n) ≤ 18446744073709551615 := iv_u64 (two_limbs vf hn)
  obtain ⟨hmod, hdiv⟩ := iv_mod' (nv f n) (nv g m)
  have BD : Big (nv f n / nv g m < 18446744073709551616) := Big.mk (Nat.lt_of_le_of_lt (Nat.div_le_self _ _) (two_limbs vf hn))
  have BM : Big (nv f n % nv g m < 18446744073709551616) := Big.mk (Nat.lt_of_le_of_lt (Nat.mod_le _ _) (two_limbs vf hn))
  have F1 := Lib.hid fun w => fromWord_nat _ BD w
  have F2 := Lib.hid fun w => fromWord_nat _ BM w
  have hd0 := iv_nonneg (nv f n / nv g m)
  have hd1 : iv (nv f n / nv g m) ≤ 18446744073709551615 := iv_u64 BD.out
  have hn1 : (n : Int) ≤ 2 := by omega
  have C := Lib.hid hcmp
  have hyb : (iv (nv g m) == 0) = false := by rw [beq_eq_false_iff_ne]; omega
  clear hcmp vf vg hle hp
  generalize cn (nv f n) (nv g m) = cc at *
  generalize iv (nv f n) = X at *
  generalize iv (nv g m) = Y at *
  rw [← hdiv] at hd0 hd1 F1
  rw [← hmod] at F2
  clear hmod hdiv
  go_enter Tryz.func165, Tryz.ntmps165
  go_wp2_with fail
  refine C.out.mono ?_
  rintro _ _ ⟨rfl, d, rfl⟩
  go_wp2_with fail
  refine (W1.out _ (hA.drewN d)).mono ?_
  rintro _ _ ⟨rfl, rfl⟩
  go_wp2_with fail
  refine (W2.out _ (hB.drewN d)).mono ?_
  rintro _ _ ⟨rfl, rfl⟩
  go_wp2_with fail
  have hY0 : ¬ Y = 0 := by omega
  have hwq : IntKind.u64.wrap (X.tdiv Y) = X / Y := by
    rw [Int.tdiv_eq_ediv_of_nonneg hx0, IntKind.wrap_u64]
    generalize X / Y = Q at *
    omega
  have hmq : X.tmod Y = X % Y := Int.tmod_eq_emod_of_nonneg hx0
  clear W1 W2 BX BD BM C hA hB
  refine wp_region_any (by kernel_rfl) ?_
  change wpAny _ _ _ _ _ _ _ (World.drew _)
  refine wpAny_take (i := 0) (v := ?_) rfl (by kernel_rfl) (by kernel_rfl) (by kernel_rfl) (fun _ _ _ h => h) (Or.inl ⟨by rfl, ?_⟩) ?_
  rotate_left 1
  · intro w; go_simp; try with_reducible rfl
  refine wpAny_take (i := 1) (v := ?_) rfl (by kernel_rfl) (by kernel_rfl) (by kernel_rfl) (fun _ _ _ h => h) (Or.inl ⟨by rfl, ?_⟩) ?_
  rotate_left 1
  · intro w; go_simp; try with_reducible rfl
  refine wpAny_take (i := 4) (v := ?_) rfl (by kernel_rfl) (by kernel_rfl) (by kernel_rfl) (fun _ _ _ h => h) (Or.inl ⟨by rfl, ?_⟩) ?_
  rotate_left 1
  · intro w; go_simp; try with_reducible rfl
  refine wpAny_take (i := 5) (v := ?_) rfl (by kernel_rfl) (by kernel_rfl) (by kernel_rfl) (fun _ _ _ h => h) (Or.inl ⟨by rfl, ?_⟩) ?_
  rotate_left 1
  · intro w; go_simp; try with_reducible rfl
  refine wpAny_take (i := 2) (v := ?_) rfl (by kernel_rfl) (by kernel_rfl) (by kernel_rfl) (fun _ _ _ h => h) (Or.inl ⟨by rfl, ?_⟩) ?_
  rotate_left 1
  · intro w; go_simp; with_reducible rfl
  refine wpAny_take (i := 6) (v := ?_) rfl (by kernel_rfl) (by kernel_rfl) (by kernel_rfl) (fun _ _ _ h => h) (Or.inl ⟨by rfl, ?_⟩) ?_
  rotate_left 1
  · intro w; go_simp; with_reducible rfl
  refine wpAny_ready (rs := [3]) (by kernel_rfl) (by simp) ?_
  refine AllReady.cons rfl (fun K hK => ?_) AllReady.nil
  go_simp
  refine (F1.out _).mono ?_
  rintro _ w1 ⟨v, rfl, hm1⟩
  go_simp
  refine hK _ _ ?_
  clear hK K
  refine wpAny_ready (rs := [7]) (by kernel_rfl) (by simp) ?_
  refine AllReady.cons rfl (fun K hK => ?_) AllReady.nil
  go_simp
  refine (F2.out _).mono ?_
  rintro _ w2 ⟨u, rfl, hm2⟩
  go_simp
  refine hK _ _ ?_
  clear hK K
  have HM := Lib.hid ((Made2.of hm1 hm2).after (Below.drewN w d).drew)
  clear hm1 hm2
  refine wpAny_take (i := 8) (v := ?_) rfl (by kernel_rfl) (by kernel_rfl) (by kernel_rfl) (fun _ _ _ h => h) (Or.inl ⟨by rfl, ?_⟩) ?_
  rotate_left 1
  · intro w; go_simp; try with_reducible rfl
  refine wpAny_take (i := 9) (v := ?_) rfl (by kernel_rfl) (by kernel_rfl) (by kernel_rfl) (fun _ _ _ h => h) (Or.inl ⟨by rfl, ?_⟩) ?_
  rotate_left 1
  · intro w; go_simp; try with_reducible rfl
  refine wpAny_done (by kernel_rfl) ?_ _
  go_wp2_with fail
  go_ret2
  exact ⟨_, _, rfl, HM.out⟩

end Go.Proofs.YtmcacofpnnaplaaGreatDoor

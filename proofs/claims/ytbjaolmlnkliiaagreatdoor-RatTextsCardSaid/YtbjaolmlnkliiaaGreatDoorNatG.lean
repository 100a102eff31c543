/- The contracts of the functions under the laws of package rat: Small, Guess, DivLong, Long, joined into one file. -/
import Derived.Test.YtbjaolmlnkliiaaGreatDoorNatF
import Derived.Deep.RegionHeld3
import Derived.Deep.RegionWith
import Derived.Test.YtbjaolmlnkliiaaGreatDoorNatD
/- The contracts of wordDivisor, and of divide and commonDivisor where the numbers fit machine words. Conditions as premises. -/
namespace Go.Proofs.YtbjaolmlnkliiaaGreatDoor
open Go.RowKit

theorem iv_mod' (a b : Nat) : iv a % iv b = iv (a % b) ∧ iv a / iv b = iv (a / b) := by
  simp only [iv_eq]; exact ⟨(Int.natCast_emod a b).symm, (Int.natCast_ediv a b).symm⟩

set_option maxHeartbeats 800000 in
set_option maxRecDepth 100000 in
theorem wordDivisor_any (x y : Nat) (hx : Big (x < 18446744073709551616)) (hy : Big (y < 18446744073709551616)) (w : World) :
    Calls Tryz.prog 236 #[.int .u64 (iv x), .int .u64 (iv y)] w fun e w' => e = .returned (.int .u64 (iv (Nat.gcd x y))) ∧ Qt w w' := by
  obtain ⟨X0, hX0⟩ : ∃ X, X = iv x := ⟨_, rfl⟩
  obtain ⟨Y0, hY0⟩ : ∃ Y, Y = iv y := ⟨_, rfl⟩
  rw [← hX0, ← hY0]
  have HX0 := Lib.hid hX0
  have HY0 := Lib.hid hY0
  clear hX0 hY0
  go_enter Tryz.func236, Tryz.ntmps236
  go_wp2
  go_loopw [0, 1] (fun u v wr => ∃ X Y d : Nat, u = .int .u64 (iv X) ∧ v = .int .u64 (iv Y) ∧ Hid (Nat.gcd X Y = Nat.gcd x y ∧ X < 18446744073709551616 ∧ Y < 18446744073709551616) ∧ wr = w.drewN d) (fun _ v _ => (intOf v).toNat)
  case atStart => exact ⟨x, y, 0, by rw [HX0.out], by rw [HY0.out], ⟨rfl, hx.out, hy.out⟩, rfl⟩
  case round =>
    obtain ⟨X, Y, d, rfl, rfl, hg, rfl⟩ := hrel
    rcases Nat.eq_zero_or_pos Y with h0 | h0
    · subst h0
      rw [iv_zero]
      go_wp2
      go_ret
      exact ⟨by rw [← hg.out.1, Nat.gcd_zero_right]; rfl, Qt.n1 _ _⟩
    · have hp := iv_pos (show Y ≠ 0 by omega)
      have hY1 : iv Y ≤ 18446744073709551615 := iv_u64 hg.out.2.2
      have hX0' := iv_nonneg X
      have hm := (iv_mod' X Y).1
      have hm0 := iv_nonneg (X % Y)
      have hml : iv (X % Y) < iv Y := by rw [iv_eq, iv_eq]; have := Nat.mod_lt X h0; omega
      have HM := Lib.hid hm
      have HG : Hid (Nat.gcd Y (X % Y) = Nat.gcd x y ∧ Y < 18446744073709551616 ∧ X % Y < 18446744073709551616) := ⟨by rw [← hg.out.1, Nat.gcd_comm X Y, Nat.gcd_rec Y X, Nat.gcd_comm], hg.out.2.2, Nat.lt_trans (Nat.mod_lt X h0) hg.out.2.2⟩
      have hml' : Big (X % Y < Y) := Big.mk (Nat.mod_lt X h0)
      clear hm h0
      generalize hgX : iv X = XX at *
      generalize hgY : iv Y = YY at *
      generalize hgZ : iv (X % Y) = Z at *
      have HGY := Lib.hid hgY
      have HGZ := Lib.hid hgZ
      clear hgX hgY hgZ
      go_wp2
      go_quiet (fail)
      go_wp2
      go_roundw
      case rel => exact ⟨Y, X % Y, _, by rw [HGY.out], by rw [HM.out, HGZ.out], HG, World.drewN_drewN _ _ _⟩
      case measure => rw [HM.out]; simp [intOf] <;> omega

theorem two_limbs {n : Nat} {f : Nat → Nat} (hv : Val n f) (hn : n ≤ 2) : nv f n < 18446744073709551616 := by
  have h1 := Nat.lt_of_lt_of_le hv.lt (pow_le_of hn)
  rw [Nat.pow_two, LB_eq] at h1
  omega

set_option maxHeartbeats 1600000 in
set_option maxRecDepth 100000 in
/-- behind the loop: both numbers fit machine words -/
theorem common_small (A A' : Option Addr) (n c m c' : Nat) (f g : Nat → Nat) (w : World) (hA : Rs w w.heap.size A n c f) (hB : Rs w w.heap.size A' m c' g) (vf : Val n f) (vg : Val m g) (hn : n ≤ 2) (hm : m ≤ 2) (hn0 : 0 < n) (hm0 : 0 < m) :
    Calls Tryz.prog 213 #[.slice A n c, .slice A' m c'] w fun e w' => ∃ v, e = .returned v ∧ Made w (Nat.gcd (nv f n) (nv g m)) v w' := by
  have hcmp := compare_any A A' n c m c' f g _ _ w hA hB vf vg
  have W1 := Lib.hid fun w' (h : Rs w' w.heap.size A n c f) => toWord_any A n c f _ w' h (Big.mk (two_limbs vf hn))
  have W2 := Lib.hid fun w' (h : Rs w' w.heap.size A' m c' g) => toWord_any A' m c' g _ w' h (Big.mk (two_limbs vg hm))
  have BX := Big.mk (two_limbs vf hn)
  have BY := Big.mk (two_limbs vg hm)
  have hgc := Nat.gcd_comm (nv f n) (nv g m)
  have BG : Big (Nat.gcd (nv f n) (nv g m) < 18446744073709551616) := Big.mk (Nat.lt_of_le_of_lt (Nat.gcd_le_left _ (vf.pos hn0)) (two_limbs vf hn))
  have HGC := Lib.hid hgc
  clear hgc
  have hn1 : (n : Int) ≤ 2 := by omega
  have hm1 : (m : Int) ≤ 2 := by omega
  have hn2 : ((n : Int) == 0) = false := by rw [beq_eq_false_iff_ne]; omega
  have hm2 : ((m : Int) == 0) = false := by rw [beq_eq_false_iff_ne]; omega
  by_cases hlt : nv f n < nv g m
  · rw [cn_lt hlt] at hcmp
    have C := Lib.hid hcmp
    clear hcmp hlt vf vg
    go_enter Tryz.func213, Tryz.ntmps213
    go_wp2_with fail
    refine C.out.mono ?_
    rintro _ _ ⟨rfl, d, rfl⟩
    go_wp2_with fail
    refine wp_loop_rounds 1 ?_
    rw [rounds_succ]
    go_wp2_with fail
    refine (W2.out _ (hB.drewN d)).mono ?_
    rintro _ _ ⟨rfl, rfl⟩
    go_wp2_with fail
    refine (W1.out _ (hA.drewN d)).mono ?_
    rintro _ _ ⟨rfl, rfl⟩
    go_wp2_with fail
    refine (wordDivisor_any _ _ BY BX _).mono ?_
    rintro _ _ ⟨rfl, d2, rfl⟩
    rw [← HGC.out]
    go_wp2_with fail
    refine (fromWord_nat _ BG _).mono ?_
    rintro _ w3 ⟨v, rfl, hv⟩
    have HV := Lib.hid (hv.after (Below.drewN w (d + d2)))
    clear hv
    go_wp2_with fail
    go_ret
    exact ⟨_, rfl, HV.out⟩
  · have hcn : cn (nv f n) (nv g m) = 0 ∨ cn (nv f n) (nv g m) = 1 := by
      rcases Nat.eq_or_lt_of_le (Nat.not_lt.1 hlt) with e | e
      · exact .inl (cn_eq e.symm)
      · exact .inr (cn_gt e)
    have hcc : ¬ cn (nv f n) (nv g m) < 0 := by rcases hcn with h | h <;> rw [h] <;> decide
    have C := Lib.hid hcmp
    clear hcmp hlt vf vg hcn
    generalize cn (nv f n) (nv g m) = cc at *
    go_enter Tryz.func213, Tryz.ntmps213
    go_wp2_with fail
    refine C.out.mono ?_
    rintro _ _ ⟨rfl, d, rfl⟩
    go_wp2_with fail
    refine wp_loop_rounds 1 ?_
    rw [rounds_succ]
    go_wp2_with fail
    refine (W1.out _ (hA.drewN d)).mono ?_
    rintro _ _ ⟨rfl, rfl⟩
    go_wp2_with fail
    refine (W2.out _ (hB.drewN d)).mono ?_
    rintro _ _ ⟨rfl, rfl⟩
    go_wp2_with fail
    refine (wordDivisor_any _ _ BX BY _).mono ?_
    rintro _ _ ⟨rfl, d2, rfl⟩
    go_wp2_with fail
    refine (fromWord_nat _ BG _).mono ?_
    rintro _ w3 ⟨v, rfl, hv⟩
    have HV := Lib.hid (hv.after (Below.drewN w (d + d2)))
    clear hv
    go_wp2_with fail
    go_ret
    exact ⟨_, rfl, HV.out⟩

set_option maxHeartbeats 4000000 in
set_option maxRecDepth 100000 in
theorem divide_small (A A' : Option Addr) (n c m c' : Nat) (f g : Nat → Nat) (w : World) (hA : Rs w w.heap.size A n c f) (hB : Rs w w.heap.size A' m c' g) (vf : Val n f) (vg : Val m g) (hn : n ≤ 2) (hm0 : 0 < m) (hle : nv g m ≤ nv f n) :
    Calls Tryz.prog 232 #[.slice A n c, .slice A' m c'] w fun e w' => ∃ v u, e = .returned (.tuple #[v, u]) ∧ Made2 w (nv f n / nv g m) (nv f n % nv g m) v u w' := by
  have hcmp := compare_any A A' n c m c' f g _ _ w hA hB vf vg
  have hcc : ¬ cn (nv f n) (nv g m) < 0 := by
    rcases Nat.eq_or_lt_of_le hle with e | e
    · rw [cn_eq e.symm]; decide
    · rw [cn_gt e]; decide
  have hmn : m ≤ 2 := by
    rcases Nat.lt_or_ge n m with h3 | h3
    · have := vf.lt_of_len vg h3; omega
    · omega
  have W1 := Lib.hid fun w' (h : Rs w' w.heap.size A n c f) => toWord_any A n c f _ w' h (Big.mk (two_limbs vf hn))
  have W2 := Lib.hid fun w' (h : Rs w' w.heap.size A' m c' g) => toWord_any A' m c' g _ w' h (Big.mk (two_limbs vg hmn))
  have BX := Big.mk (two_limbs vf hn)
  have hp := vg.pos hm0
  have hyp := iv_pos (show nv g m ≠ 0 by omega)
  have hx0 := iv_nonneg (nv f n)
  have hx1 : iv (nv f n) ≤ 18446744073709551615 := iv_u64 (two_limbs vf hn)
  obtain ⟨hmod, hdiv⟩ := iv_mod' (nv f n) (nv g m)
  have BD : Big (nv f n / nv g m < 18446744073709551616) := Big.mk (Nat.lt_of_le_of_lt (Nat.div_le_self _ _) (two_limbs vf hn))
  have BM : Big (nv f n % nv g m < 18446744073709551616) := Big.mk (Nat.lt_of_le_of_lt (Nat.mod_le _ _) (two_limbs vf hn))
  have F1 := Lib.hid fun w => fromWord_nat _ BD w
  have F2 := Lib.hid fun w => fromWord_nat _ BM w
  have hd0 := iv_nonneg (nv f n / nv g m)
  have hd1 : iv (nv f n / nv g m) ≤ 18446744073709551615 := iv_u64 BD.out
  have hn1 : (n : Int) ≤ 2 := by omega
  have C := Lib.hid hcmp
  have hyb : (iv (nv g m) == 0) = false := by rw [beq_eq_false_iff_ne]; omega
  clear hcmp vf vg hle hp
  generalize cn (nv f n) (nv g m) = cc at *
  generalize iv (nv f n) = X at *
  generalize iv (nv g m) = Y at *
  rw [← hdiv] at hd0 hd1 F1
  rw [← hmod] at F2
  clear hmod hdiv
  go_enter Tryz.func232, Tryz.ntmps232
  go_wp2_with fail
  refine C.out.mono ?_
  rintro _ _ ⟨rfl, d, rfl⟩
  go_wp2_with fail
  refine (W1.out _ (hA.drewN d)).mono ?_
  rintro _ _ ⟨rfl, rfl⟩
  go_wp2_with fail
  refine (W2.out _ (hB.drewN d)).mono ?_
  rintro _ _ ⟨rfl, rfl⟩
  go_wp2_with fail
  have hY0 : ¬ Y = 0 := by omega
  have hwq : IntKind.u64.wrap (X.tdiv Y) = X / Y := by
    rw [Int.tdiv_eq_ediv_of_nonneg hx0, IntKind.wrap_u64]
    generalize X / Y = Q at *
    omega
  have hmq : X.tmod Y = X % Y := Int.tmod_eq_emod_of_nonneg hx0
  clear W1 W2 BX BD BM C hA hB
  refine wp_region_any (by kernel_rfl) ?_
  change wpAny _ _ _ _ _ _ _ (World.drew _)
  refine wpAny_take (i := 0) (v := ?_) rfl (by kernel_rfl) (by kernel_rfl) (by kernel_rfl) (fun _ _ _ h => h) (Or.inl ⟨by rfl, ?_⟩) ?_
  rotate_left 1
  · intro w; go_simp; try with_reducible rfl
  refine wpAny_take (i := 1) (v := ?_) rfl (by kernel_rfl) (by kernel_rfl) (by kernel_rfl) (fun _ _ _ h => h) (Or.inl ⟨by rfl, ?_⟩) ?_
  rotate_left 1
  · intro w; go_simp; try with_reducible rfl
  refine wpAny_take (i := 4) (v := ?_) rfl (by kernel_rfl) (by kernel_rfl) (by kernel_rfl) (fun _ _ _ h => h) (Or.inl ⟨by rfl, ?_⟩) ?_
  rotate_left 1
  · intro w; go_simp; try with_reducible rfl
  refine wpAny_take (i := 5) (v := ?_) rfl (by kernel_rfl) (by kernel_rfl) (by kernel_rfl) (fun _ _ _ h => h) (Or.inl ⟨by rfl, ?_⟩) ?_
  rotate_left 1
  · intro w; go_simp; try with_reducible rfl
  refine wpAny_take (i := 2) (v := ?_) rfl (by kernel_rfl) (by kernel_rfl) (by kernel_rfl) (fun _ _ _ h => h) (Or.inl ⟨by rfl, ?_⟩) ?_
  rotate_left 1
  · intro w; go_simp; with_reducible rfl
  refine wpAny_take (i := 6) (v := ?_) rfl (by kernel_rfl) (by kernel_rfl) (by kernel_rfl) (fun _ _ _ h => h) (Or.inl ⟨by rfl, ?_⟩) ?_
  rotate_left 1
  · intro w; go_simp; with_reducible rfl
  refine wpAny_ready (rs := [3]) (by kernel_rfl) (by simp) ?_
  refine AllReady.cons rfl (fun K hK => ?_) AllReady.nil
  go_simp
  refine (F1.out _).mono ?_
  rintro _ w1 ⟨v, rfl, hm1⟩
  go_simp
  refine hK _ _ ?_
  clear hK K
  refine wpAny_ready (rs := [7]) (by kernel_rfl) (by simp) ?_
  refine AllReady.cons rfl (fun K hK => ?_) AllReady.nil
  go_simp
  refine (F2.out _).mono ?_
  rintro _ w2 ⟨u, rfl, hm2⟩
  go_simp
  refine hK _ _ ?_
  clear hK K
  have HM := Lib.hid ((Made2.of hm1 hm2).after (Below.drewN w d).drew)
  clear hm1 hm2
  refine wpAny_take (i := 8) (v := ?_) rfl (by kernel_rfl) (by kernel_rfl) (by kernel_rfl) (fun _ _ _ h => h) (Or.inl ⟨by rfl, ?_⟩) ?_
  rotate_left 1
  · intro w; go_simp; try with_reducible rfl
  refine wpAny_take (i := 9) (v := ?_) rfl (by kernel_rfl) (by kernel_rfl) (by kernel_rfl) (fun _ _ _ h => h) (Or.inl ⟨by rfl, ?_⟩) ?_
  rotate_left 1
  · intro w; go_simp; try with_reducible rfl
  refine wpAny_done (by kernel_rfl) ?_ _
  go_wp2_with fail
  go_ret2
  exact ⟨_, _, rfl, HM.out⟩

end Go.Proofs.YtbjaolmlnkliiaaGreatDoor

/- The contract of guess: the quotient, or one more. Conditions as premises: the divisor's highest limb is at least half of ten to the ninth, and the quotient is one limb. -/
namespace Go.Proofs.YtbjaolmlnkliiaaGreatDoor
open Go.RowKit Go.Shelf

theorem first_le {P D U v1 v2 u2 K D' : Nat} (hP : (U * LB + u2) * K ≤ P) (hlt : P < D * LB) (hD : D = (v1 * LB + v2) * K + D') (hD' : D' < K) (hv2 : v2 < LB) (hn : LB ≤ 2 * v1) : U / v1 ≤ LB + 1 := by
  have h1 : D ≤ (v1 + 1) * LB * K := by
    have h2 : v2 * K + D' ≤ LB * K := by
      have := Nat.mul_le_mul_right K (show v2 + 1 ≤ LB from hv2)
      rw [Nat.add_mul, Nat.one_mul] at this; omega
    rw [hD, Nat.add_mul, Nat.add_mul, Nat.add_mul, Nat.one_mul]; omega
  have h3 : D * LB ≤ (v1 + 1) * LB * K * LB := Nat.mul_le_mul_right _ h1
  have h4 : U * LB * K ≤ P := Nat.le_trans (Nat.mul_le_mul_right _ (by omega)) hP
  have h5 : U * (LB * K) < (v1 + 1) * LB * (LB * K) := by
    rw [← Nat.mul_assoc]
    have : (v1 + 1) * LB * K * LB = (v1 + 1) * LB * (LB * K) := by ac_rfl
    omega
  have h6 := Nat.lt_of_mul_lt_mul_right h5
  have hv : 0 < v1 := by have := LB_pos; omega
  have h7 : U / v1 < LB + 2 := by
    rw [Nat.div_lt_iff_lt_mul hv]
    have : (LB + 2) * v1 = v1 * LB + 2 * v1 := by rw [Nat.add_mul, Nat.mul_comm LB]
    rw [Nat.add_mul, Nat.one_mul] at h6
    omega
  omega

/-- what the loop of guess keeps -/
structure Gs (Q U v1 L R : Nat) : Prop where
  eq : L * v1 + R = U
  ge : Q ≤ L
  le : L ≤ LB + 1
  rest : R < LB

set_option maxRecDepth 100000 in
set_option maxHeartbeats 4000000 in
theorem guess_any (A A' : Option Addr) (s pc dc : Nat) (u v : Nat → Nat) (B B' : Nat) (w : World) (hA : Rs w B A (s + 1) pc u) (hB : Rs w B' A' s dc v) (hs2 : 2 ≤ s) (hs : s ≤ 3000) (hul : ∀ j, u j < LB) (hvl : ∀ j, v j < LB)
    (hlt : nv u (s + 1) < nv v s * LB) (hn : LB ≤ 2 * v (s - 1)) :
    Calls Tryz.prog 253 #[.slice A (s + 1) pc, .slice A' s dc] w fun e w' => ∃ g, e = .returned (.int .u64 (iv g)) ∧ Qt w w' ∧ nv u (s + 1) / nv v s ≤ g ∧ (g - 1) * nv v s ≤ nv u (s + 1) ∧ g ≤ LB := by
  obtain ⟨b1, off1, rfl, hb1, hc1⟩ := hA.cell (by omega)
  obtain ⟨b2, off2, rfl, hb2, hc2⟩ := hB.cell (by omega)
  have p1 := hc1 s (by omega)
  have p2 := hc1 (s - 1) (by omega)
  have p3 := hc1 (s - 2) (by omega)
  have d1 := hc2 (s - 1) (by omega)
  have d2 := hc2 (s - 2) (by omega)
  clear hc1 hc2 hA hB
  have hi1 : ((s - 1 : Nat) : Int) = (s : Int) - 1 := by omega
  have hi2 : ((s - 2 : Nat) : Int) = (s : Int) - 2 := by omega
  -- the numbers
  have hPe : nv u (s + 1) = ((u s * LB + u (s - 1)) * LB + u (s - 2)) * LB ^ (s - 2) + nv u (s - 2) := by
    obtain ⟨t, rfl⟩ : ∃ t, s = t + 2 := ⟨s - 2, by omega⟩
    exact nv_top3 u t
  have hDe : nv v s = (v (s - 1) * LB + v (s - 2)) * LB ^ (s - 2) + nv v (s - 2) := by
    obtain ⟨t, rfl⟩ : ∃ t, s = t + 2 := ⟨s - 2, by omega⟩
    exact nv_top2 v t
  have hD' : nv v (s - 2) < LB ^ (s - 2) := nv_lt _ fun j _ => hvl j
  have hP' : nv u (s - 2) < LB ^ (s - 2) := nv_lt _ fun j _ => hul j
  obtain ⟨U, hU⟩ : ∃ U, U = u s * LB + u (s - 1) := ⟨_, rfl⟩
  rw [← hU] at hPe
  have hlo : (U * LB + u (s - 2)) * LB ^ (s - 2) ≤ nv u (s + 1) := by rw [hPe]; exact Nat.le_add_right _ _
  have hhi : nv u (s + 1) < (U * LB + u (s - 2) + 1) * LB ^ (s - 2) := by rw [hPe, Nat.add_mul _ 1, Nat.one_mul]; exact Nat.add_lt_add_left hP' _
  have hv1 : 1 ≤ v (s - 1) := by have := LB_pos; omega
  have hDpos : 0 < nv v s := by
    rw [hDe]
    have h1 : 1 * LB ^ (s - 2) ≤ (v (s - 1) * LB + v (s - 2)) * LB ^ (s - 2) := Nat.mul_le_mul_right _ (by
      have := Nat.mul_le_mul hv1 LB_pos
      omega)
    have h2 : 0 < LB ^ (s - 2) := Nat.pow_pos LB_pos
    omega
  have hq : nv u (s + 1) / nv v s * nv v s ≤ nv u (s + 1) := Nat.div_mul_le_self _ _
  have hqB : nv u (s + 1) / nv v s < LB := by rw [Nat.div_lt_iff_lt_mul hDpos, Nat.mul_comm]; exact hlt
  generalize hQ : nv u (s + 1) / nv v s = Q at *
  have HQ := Lib.hid hQ
  clear hQ
  have hfirst := guess_first (B := LB) hhi (hul _) hDe hv1 hq
  have hle := first_le hlo hlt hDe hD' (hvl _) hn
  have hUlt : U < LB * LB := by
    have h1 := Nat.mul_le_mul_right LB (show u s + 1 ≤ LB from hul s)
    rw [Nat.add_mul, Nat.one_mul] at h1
    have := hul (s - 1)
    omega
  have hG0 : Gs Q U (v (s - 1)) (U / v (s - 1)) (U % v (s - 1)) :=
    ⟨by rw [Nat.mul_comm]; exact Nat.div_add_mod _ _, hfirst, hle, Nat.lt_trans (Nat.mod_lt _ hv1) (hvl _)⟩
  -- the ways on
  have hdown : ∀ L R, Gs Q U (v (s - 1)) L R → (LB ≤ L ∨ R * LB + u (s - 2) < L * v (s - 2)) → Q ≤ L - 1 ∧ 1 ≤ L ∧ (L - 1) * v (s - 1) + (R + v (s - 1)) = U := fun L R h hh => by
    have h0 : Q < L := by
      rcases hh with h1 | h1
      · omega
      · exact guess_down hhi (by rw [hDe]; omega) h.eq h1 hq
    refine ⟨by omega, by omega, ?_⟩
    have h1 : L - 1 + 1 = L := by omega
    have h2 := congrArg (· * v (s - 1)) h1
    simp only [Nat.add_mul, Nat.one_mul] at h2
    have := h.eq
    omega
  have hfar : ∀ L R, Gs Q U (v (s - 1)) L R → (LB ≤ L ∨ R * LB + u (s - 2) < L * v (s - 2)) → LB ≤ R + v (s - 1) → (L - 1 - 1) * nv v s ≤ nv u (s + 1) ∧ L - 1 ≤ LB := fun L R h hh hR => by
    have h1 := hdown L R h hh
    have h2 := guess_far (L := L - 1) hlo hDe hD' (hvl _) h1.2.2 hR (by have := h.le; omega)
    exact ⟨Nat.le_trans (Nat.mul_le_mul_right _ (Nat.sub_le _ _)) h2, by have := h.le; omega⟩
  have hok : ∀ L R, Gs Q U (v (s - 1)) L R → L < LB → L * v (s - 2) ≤ R * LB + u (s - 2) → (L - 1) * nv v s ≤ nv u (s + 1) := fun L R h hL hh => guess_ok hlo hDe hD' hv1 h.eq hh hL
  have HG0 := Lib.hid hG0
  have HDN := Lib.hid hdown
  have HFAR := Lib.hid hfar
  have HOK := Lib.hid hok
  have HUL := Lib.hid hul
  have HVL := Lib.hid hvl
  have HU := Lib.hid hU
  have HULT := Big.mk hUlt
  clear hG0 hdown hfar hok hPe hDe hD' hP' hlo hhi hq hqB hfirst hle hUlt hlt hn hDpos
  have a1 := iv_limb (HUL.out s)
  have a0 := iv_nonneg (u s)
  have b1' := iv_limb (HUL.out (s - 1))
  have b0' := iv_nonneg (u (s - 1))
  have c1 := iv_limb (HUL.out (s - 2))
  have c0 := iv_nonneg (u (s - 2))
  have e1 := iv_limb (HVL.out (s - 1))
  have e0 := iv_pos (show v (s - 1) ≠ 0 by omega)
  have f1 := iv_limb (HVL.out (s - 2))
  have f0 := iv_nonneg (v (s - 2))
  have eU : iv (u s) * 1000000000 + iv (u (s - 1)) = iv U := by rw [HU.out]; simp only [iv_eq]; rw [LB_eq]; omega
  obtain ⟨eM, eD⟩ := iv_mod' U (v (s - 1))
  have eb : (iv (v (s - 1)) == 0) = false := by rw [beq_eq_false_iff_ne]; omega
  have U0 := iv_nonneg U
  have U1 : iv U ≤ 1000000000000000000 := by have := iv_le (Nat.le_of_lt HULT.out); rw [LB_eq] at this; exact this
  have q0 : 0 ≤ iv U / iv (v (s - 1)) := by rw [eD]; exact iv_nonneg _
  have q1 : iv U / iv (v (s - 1)) ≤ 1000000001 := by rw [eD]; have := iv_le HG0.out.le; rw [LB_eq] at this; exact this
  have EM := Lib.hid eM
  have ED := Lib.hid eD
  clear eM eD hv1 hul hvl hU
  go_enter Tryz.func253, Tryz.ntmps253
  go_wp2
  go_quiet (fail)
  go_wp2
  go_quiet (fail)
  go_wp2
  go_quiet (fail)
  go_wp2
  rw [ED.out, EM.out]
  go_loopw [9, 10] (fun i j wr => ∃ L R d : Nat, i = .int .u64 (iv L) ∧ j = .int .u64 (iv R) ∧ Hid (Gs Q U (v (s - 1)) L R) ∧ wr = w.drewN d) (fun i _ _ => (intOf i).toNat)
  case atStart => exact ⟨_, _, _, rfl, rfl, HG0, by rw [World.drewN_drewN, World.drewN_drewN]⟩
  case round =>
    obtain ⟨L, R, d, rfl, rfl, hG, rfl⟩ := hrel
    have l0 := iv_nonneg L
    have l1 : iv L ≤ 1000000001 := by have := iv_le hG.out.le; rw [LB_eq] at this; exact this
    have r0 := iv_nonneg R
    have r1 := iv_limb hG.out.rest
    have hLm : iv L ≠ 0 → iv (L - 1) = iv L - 1 := fun h => by rw [iv_eq] at h; simp only [iv_eq]; omega
    have hRp : iv (R + v (s - 1)) = iv R + iv (v (s - 1)) := by simp only [iv_eq]; omega
    have hleL : LB ≤ L ↔ 1000000000 ≤ iv L := by simp only [iv_eq]; rw [LB_eq]; omega
    have hleR : LB ≤ R + v (s - 1) ↔ 1000000000 ≤ iv R + iv (v (s - 1)) := by simp only [iv_eq]; rw [LB_eq]; omega
    have hcmp : R * LB + u (s - 2) < L * v (s - 2) ↔ iv R * 1000000000 + iv (u (s - 2)) < iv L * iv (v (s - 2)) := by
      simp only [iv_eq]; rw [LB_eq, ← Int.natCast_mul]; omega
    have hp0 : 0 ≤ iv L * iv (v (s - 2)) := Int.mul_nonneg l0 f0
    have hp1 : iv L * iv (v (s - 2)) ≤ 1000000001 * 999999999 := Int.mul_le_mul l1 (by omega) f0 (by omega)
    have hdn := HDN.out L R hG.out
    have hfa := HFAR.out L R hG.out
    have hokk := HOK.out L R hG.out
    rw [hleL, hcmp] at hdn hfa
    rw [hleR] at hfa
    have hlt' : L < LB ↔ ¬ 1000000000 ≤ iv L := by rw [← hleL]; omega
    have hle' : L * v (s - 2) ≤ R * LB + u (s - 2) ↔ ¬ iv R * 1000000000 + iv (u (s - 2)) < iv L * iv (v (s - 2)) := by rw [← hcmp]; omega
    rw [hlt', hle'] at hokk
    have HDN' := Lib.hid hdn
    have HFA' := Lib.hid hfa
    have HOK' := Lib.hid hokk
    have HLM := Lib.hid hLm
    have HRP := Lib.hid hRp
    have HLE := Lib.hid hG.out.ge
    have HLE2 := Lib.hid hG.out.le
    have HRR := Lib.hid hleR
    have HLL := Lib.hid hleL
    clear hleL hleR hcmp hdn hfa hokk hlt' hle' hLm hRp
    have hLne : 1000000000 ≤ iv L ∨ iv R * 1000000000 + iv (u (s - 2)) < iv L * iv (v (s - 2)) → 1 ≤ iv L := fun h => by
      have := (HDN'.out h).2.1
      rw [iv_eq]; omega
    have HLNE := Lib.hid hLne
    clear hLne
    -- one more round, or out of it
    by_cases c1' : 1000000000 ≤ iv L
    · have h1 := HLNE.out (.inl c1')
      have hm1 := HLM.out (by omega)
      have hd := HDN'.out (.inl c1')
      by_cases c2' : 1000000000 ≤ iv R + iv (v (s - 1))
      · have hf := HFA'.out (.inl c1') c2'
        have HF := Lib.hid hf
        have HD := Lib.hid hd
        have HM := Lib.hid hm1
        clear hf hd hm1
        go_wp2
        go_ret
        exact ⟨L - 1, by rw [HM.out]; rfl, Qt.n1 _ _, HD.out.1, HF.out.1, HF.out.2⟩
      · have HD := Lib.hid hd
        have HM := Lib.hid hm1
        have hR2 : R + v (s - 1) < LB := by
          rcases Nat.lt_or_ge (R + v (s - 1)) LB with h | h
          · exact h
          · exact absurd (HRR.out.1 h) c2'
        have HR2 := Lib.hid hR2
        clear hd hm1 hR2
        go_wp2
        go_roundw
        case rel => exact ⟨L - 1, R + v (s - 1), d, by rw [HM.out], by rw [HRP.out], ⟨HD.out.2.2, HD.out.1, by have := HLE2.out; omega, HR2.out⟩, rfl⟩
        case measure => simp [intOf]; omega
    · by_cases c3' : iv R * 1000000000 + iv (u (s - 2)) < iv L * iv (v (s - 2))
      · have h1 := HLNE.out (.inr c3')
        have hm1 := HLM.out (by omega)
        have hd := HDN'.out (.inr c3')
        by_cases c2' : 1000000000 ≤ iv R + iv (v (s - 1))
        · have hf := HFA'.out (.inr c3') c2'
          have HF := Lib.hid hf
          have HD := Lib.hid hd
          have HM := Lib.hid hm1
          clear hf hd hm1
          go_wp2
          go_ret
          exact ⟨L - 1, by rw [HM.out]; rfl, Qt.n1 _ _, HD.out.1, HF.out.1, HF.out.2⟩
        · have HD := Lib.hid hd
          have HM := Lib.hid hm1
          have hR2 : R + v (s - 1) < LB := by
            rcases Nat.lt_or_ge (R + v (s - 1)) LB with h | h
            · exact h
            · exact absurd (HRR.out.1 h) c2'
          have HR2 := Lib.hid hR2
          clear hd hm1 hR2
          go_wp2
          go_roundw
          case rel => exact ⟨L - 1, R + v (s - 1), d, by rw [HM.out], by rw [HRP.out], ⟨HD.out.2.2, HD.out.1, by have := HLE2.out; omega, HR2.out⟩, rfl⟩
          case measure => simp [intOf]; omega
      · have hf := HOK'.out c1' c3'
        have hLl : L ≤ LB := by
          rcases Nat.lt_or_ge LB L with h | h
          · exact absurd (HLL.out.1 (by omega)) c1'
          · exact h
        have HF := Lib.hid hf
        have HL2 := Lib.hid hLl
        clear hf hLl
        go_wp2
        go_ret
        exact ⟨L, rfl, Qt.n1 _ _, HLE.out, HF.out, HL2.out⟩

end Go.Proofs.YtbjaolmlnkliiaaGreatDoor

/- The contract of divideLong. Conditions as premises: the lists read and are valid, the divisor has two limbs or more and is not greater. -/
namespace Go.Proofs.YtbjaolmlnkliiaaGreatDoor
open Go.RowKit Go.Shelf

theorem nv_ge (f : Nat → Nat) (t : Nat) : ∀ m, t < m → f t * LB ^ t ≤ nv f m
  | 0, h => by omega
  | m + 1, h => by
    rw [nv]
    by_cases e : t = m
    · subst e; omega
    · have := nv_ge f t m (by omega); omega
theorem nv_zero_above {f : Nat → Nat} {m s t : Nat} (h : nv f m < LB ^ s) (hs : s ≤ t) (ht : t < m) : f t = 0 := by
  rcases Nat.eq_zero_or_pos (f t) with h0 | h0
  · exact h0
  · exfalso
    have h1 := nv_ge f t m ht
    have h2 : 1 * LB ^ t ≤ f t * LB ^ t := Nat.mul_le_mul_right _ h0
    have h3 : LB ^ s ≤ LB ^ t := pow_le_of hs
    omega
theorem nv_split (f : Nat → Nat) (k : Nat) : ∀ m, nv f (k + m) = nv f k + nv (fun j => f (k + j)) m * LB ^ k
  | 0 => by simp [nv]
  | m + 1 => by
    rw [← Nat.add_assoc, nv, nv_split f k m, nv, Nat.add_mul, Nat.pow_add]
    have : f (k + m) * (LB ^ k * LB ^ m) = f (k + m) * LB ^ m * LB ^ k := by ac_rfl
    omega
theorem hi_win {r : Nat → Nat} {N p s : Nat} (h0 : ∀ t, s < t → p + t < N → r (p + t) = 0) (hN : p + s + 1 ≤ N) : hi r N p = nv (fun j => r (p + j)) (s + 1) := by
  unfold hi
  rw [nv_congr (g := fun j => r (p + j)) (N - p) fun j _ => by rw [Nat.add_comm]]
  exact nv_zeros _ (s + 1) _ (by omega) fun j a b => h0 j (by omega) (by omega)
theorem hi_split (f : Nat → Nat) (N k : Nat) (h : k ≤ N) : nv f N = nv f k + hi f N k * LB ^ k := by
  obtain ⟨m, rfl⟩ : ∃ m, N = k + m := ⟨N - k, by omega⟩
  rw [nv_split]
  unfold hi
  rw [show k + m - k = m by omega, nv_congr (f := fun i => f (i + k)) (g := fun j => f (k + j)) m fun j _ => by simp only [Nat.add_comm]]

/-- the multiples of the divisor that a step takes off -/
theorem step_ok {P D g W C Bs : Nat} (hD : 0 < D) (hDB : D < Bs) (hW : W < Bs) (e : W + g * D = P + C * Bs) (hge : P / D ≤ g) (hle : (g - 1) * D ≤ P) :
    (C = 0 → g = P / D ∧ W = P % D) ∧ (0 < C → 1 ≤ g ∧ g - 1 = P / D ∧ ∀ W2 C2, W2 < Bs → W2 + C2 * Bs = W + D → W2 = P % D) := by
  have hdm := Nat.div_add_mod P D
  have hml := Nat.mod_lt P hD
  generalize P / D = q at *
  generalize P % D = m at *
  rw [Nat.mul_comm] at hdm
  constructor
  · intro h0
    subst h0
    rw [Nat.zero_mul, Nat.add_zero] at e
    have h1 : g = q := by
      rcases Nat.lt_or_ge q g with h | h
      · exfalso
        have : (q + 1) * D ≤ g * D := Nat.mul_le_mul_right _ h
        rw [Nat.add_mul, Nat.one_mul] at this; omega
      · omega
    subst h1
    exact ⟨rfl, by omega⟩
  · intro hC
    have h1 : 1 * Bs ≤ C * Bs := Nat.mul_le_mul_right _ hC
    have h2 : q < g := by
      rcases Nat.lt_or_ge q g with h | h
      · exact h
      · exfalso
        have : g * D ≤ q * D := Nat.mul_le_mul_right _ h
        omega
    have h3 : g - 1 = q := by
      rcases Nat.lt_or_ge q (g - 1) with h | h
      · exfalso
        have : (q + 1) * D ≤ (g - 1) * D := Nat.mul_le_mul_right _ h
        rw [Nat.add_mul, Nat.one_mul] at this; omega
      · omega
    refine ⟨by omega, h3, fun W2 C2 hW2 e2 => ?_⟩
    obtain rfl : g = q + 1 := by omega
    rw [Nat.add_mul, Nat.one_mul] at e
    have hC1 : C = 1 := by
      rcases Nat.lt_or_ge 1 C with h | h
      · exfalso
        have : 2 * Bs ≤ C * Bs := Nat.mul_le_mul_right _ h
        omega
      · omega
    subst hC1
    rcases Nat.eq_zero_or_pos C2 with h | h
    · exfalso; subst h; omega
    · have hC2 : C2 = 1 := by
        rcases Nat.lt_or_ge 1 C2 with h | h
        · exfalso
          have : 2 * Bs ≤ C2 * Bs := Nat.mul_le_mul_right _ h
          omega
        · omega
      subst hC2
      omega

/-- what the loop of the long division keeps -/
structure Dl (N s J D : Nat) (x r q : Nat → Nat) (j : Nat) : Prop where
  eq : hi x N j = D * hi q J j + hi r N j
  lt : hi r N j < D
  low : ∀ i, i < j → r i = x i
  rl : ∀ i, r i < LB
  ql : ∀ i, q i < LB

theorem Dl.top {N s J D p : Nat} {x r q : Nat → Nat} (h : Dl N s J D x r q (p + 1)) (hD : D < LB ^ s) (hN : p + s + 1 ≤ N) :
    hi r N p = nv (fun j => r (p + j)) (s + 1) ∧ (∀ t, s < t → p + t < N → r (p + t) = 0) ∧ hi r N p < D * LB := by
  have hz : ∀ t, s < t → p + t < N → r (p + t) = 0 := fun t ht htN => by
    have h1 := Nat.lt_trans h.lt hD
    unfold hi at h1
    have h2 := nv_zero_above (t := t - 1) h1 (by omega) (by omega)
    rw [show p + t = t - 1 + (p + 1) by omega]; exact h2
  refine ⟨hi_win hz hN, hz, ?_⟩
  rw [hi_step r N p (by omega)]
  have h1 := h.lt
  have h2 : (hi r N (p + 1) + 1) * LB ≤ D * LB := Nat.mul_le_mul_right _ h1
  rw [Nat.add_mul, Nat.one_mul] at h2
  have := h.rl p
  omega

theorem Dl.next {N s J D p : Nat} {x r q r2 : Nat → Nat} (h : Dl N s J D x r q (p + 1)) (hD0 : 0 < D) (hD : D < LB ^ s) (hN : p + s + 1 ≤ N) (hpJ : p < J)
    (hw : nv (fun j => r2 (p + j)) (s + 1) = hi r N p % D) (hl : ∀ j, r2 j < LB) (hsame : ∀ j, (j < p ∨ p + s + 1 ≤ j) → r2 j = r j) :
    Dl N s J D x r2 (fun j => if j = p then hi r N p / D else q j) p := by
  obtain ⟨ht, hz, hlt⟩ := h.top hD hN
  have hr2 : hi r2 N p = hi r N p % D := by
    rw [hi_win (fun t a b => by rw [hsame _ (.inr (by omega))]; exact hz t a b) hN, hw]
  have hqlt : hi r N p / D < LB := by rw [Nat.div_lt_iff_lt_mul hD0, Nat.mul_comm]; exact hlt
  refine ⟨?_, by rw [hr2]; exact Nat.mod_lt _ hD0, fun i hi' => by rw [hsame _ (.inl hi')]; exact h.low i (by omega), hl, fun i => by
    show (if i = p then hi r N p / D else q i) < LB
    split
    · exact hqlt
    · exact h.ql i⟩
  rw [hr2, hi_step _ J p hpJ, nv_hi_congr (g := q) (k := p + 1) (fun j a _ => if_neg (by omega)), hi_step x N p (by omega), h.eq]
  have e1 : hi r N p = hi r N (p + 1) * LB + x p := by rw [hi_step r N p (by omega), h.low p (by omega)]
  have e2 := Nat.div_add_mod (hi r N p) D
  simp only [↓reduceIte]
  rw [Nat.mul_add, Nat.add_mul]
  have e3 : D * hi q J (p + 1) * LB = D * (hi q J (p + 1) * LB) := Nat.mul_assoc _ _ _
  omega

/-- what scaling leaves -/
theorem scaled_eq {q f : Nat → Nat} {n s d C : Nat} (e : nv q s + C * LB ^ s = nv (pl f n) s * d) (hn : n ≤ s) (hlt : nv f n * d < LB ^ s) : nv q s = nv f n * d := by
  rw [nv_pl f n s hn] at e
  rcases Nat.eq_zero_or_pos C with h | h
  · subst h; omega
  · have : 1 * LB ^ s ≤ C * LB ^ s := Nat.mul_le_mul_right _ h
    omega

structure Long (n s J : Nat) (f g x v : Nat → Nat) (F : Nat) : Prop where
  xe : nv x (n + 1) = nv f n * F
  ve : nv v s = nv g s * F
  pos : 0 < nv v s
  lt : nv v s < LB ^ s
  top : hi x (n + 1) J < nv v s
  norm : LB ≤ 2 * v (s - 1)

theorem Long.mk' {n s J F C C' : Nat} {f g x v : Nat → Nat} (hf : ∀ j, j < n → f j < LB) (hg : ∀ j, j < s → g j < LB) (hs : 1 ≤ s) (hJ : J + s = n + 1) (ht : g (s - 1) ≠ 0) (hF : F = LB / (g (s - 1) + 1))
    (ex : nv x (n + 1) + C * LB ^ (n + 1) = nv (pl f n) (n + 1) * F) (ev : nv v s + C' * LB ^ s = nv (pl g s) s * F) (hvl : ∀ j, v j < LB) : Long n s J f g x v F := by
  have htB := hg (s - 1) (by omega)
  obtain ⟨hn1, hn2, hn3, hn4⟩ := scale_norm (t := g (s - 1)) (by omega) htB hF
  have hxe : nv x (n + 1) = nv f n * F := scaled_eq ex (by omega) (by
    rw [Nat.pow_succ]
    exact Nat.mul_lt_mul'' (nv_lt n hf) hn4)
  obtain ⟨t, rfl⟩ : ∃ t, s = t + 1 := ⟨s - 1, by omega⟩
  simp only [Nat.add_sub_cancel] at *
  have hgt : nv g (t + 1) < (g t + 1) * LB ^ t := by
    rw [nv, Nat.add_mul, Nat.one_mul]
    have := nv_lt t (f := g) (fun j hj => hg j (by omega))
    omega
  have hglo : g t * LB ^ t ≤ nv g (t + 1) := by rw [nv]; omega
  have hFpos : 0 < F := hn2
  have hvlt : nv g (t + 1) * F < LB ^ (t + 1) := by
    have h1 : nv g (t + 1) * F < (g t + 1) * LB ^ t * F := Nat.mul_lt_mul_of_pos_right hgt hFpos
    have h2 : (g t + 1) * LB ^ t * F = F * (g t + 1) * LB ^ t := by ac_rfl
    have h3 : F * (g t + 1) * LB ^ t ≤ LB * LB ^ t := Nat.mul_le_mul_right _ hn3
    rw [Nat.pow_succ, Nat.mul_comm (LB ^ t)]
    omega
  have hve : nv v (t + 1) = nv g (t + 1) * F := scaled_eq ev (Nat.le_refl _) hvlt
  have hlow : LB ^ t * F ≤ nv v (t + 1) := by
    rw [hve]
    refine Nat.mul_le_mul_right _ (Nat.le_trans ?_ hglo)
    have : 1 * LB ^ t ≤ g t * LB ^ t := Nat.mul_le_mul_right _ (by omega)
    omega
  have hP : 0 < LB ^ t := Nat.pow_pos LB_pos
  refine ⟨hxe, hve, Nat.lt_of_lt_of_le (Nat.mul_pos hP hFpos) hlow, by rw [hve]; exact hvlt, ?_, ?_⟩
  · have h1 := hi_split x (n + 1) J (by omega)
    have h2 : nv f n * F < LB ^ n * F := Nat.mul_lt_mul_of_pos_right (nv_lt n hf) hFpos
    have h3 : LB ^ n * F = LB ^ t * F * LB ^ J := by
      rw [show n = t + J by omega, Nat.pow_add]; ac_rfl
    have h4 : hi x (n + 1) J * LB ^ J < LB ^ t * F * LB ^ J := by omega
    exact Nat.lt_of_lt_of_le (Nat.lt_of_mul_lt_mul_right h4) hlow
  · show LB ≤ 2 * v t
    have h1 : nv v (t + 1) < (v t + 1) * LB ^ t := by
      rw [nv, Nat.add_mul, Nat.one_mul]
      have := nv_lt t (f := v) (fun j _ => hvl j)
      omega
    have h2 : g t * F * LB ^ t ≤ nv v (t + 1) := by
      rw [hve]
      have := Nat.mul_le_mul_right F hglo
      rw [show g t * F * LB ^ t = g t * LB ^ t * F by ac_rfl]
      exact this
    have h3 : g t * F < v t + 1 := Nat.lt_of_mul_lt_mul_right (Nat.lt_of_le_of_lt h2 h1)
    omega

theorem Long.start {n s J F : Nat} {f g x v : Nat → Nat} (h : Long n s J f g x v F) (hx : ∀ j, x j < LB) : Dl (n + 1) s J (nv v s) x x (fun _ => 0) J :=
  ⟨by rw [hi_top, Nat.mul_zero, Nat.zero_add], h.top, fun _ _ => rfl, hx, fun _ => LB_pos⟩

theorem Long.done {n s J F : Nat} {f g x v r q : Nat → Nat} (h : Long n s J f g x v F) (hd : Dl (n + 1) s J (nv v s) x r q 0) : 0 < F ∧ nv q J = nv f n / nv g s ∧ nv r (n + 1) / F = nv f n % nv g s := by
  have h1 := hd.eq
  have h2 := hd.lt
  rw [hi_zero] at h1 h2
  rw [hi_zero, hi_zero, h.xe] at h1
  rw [h.ve] at h1 h2
  have hp := h.pos
  rw [h.ve] at hp
  have hF : 0 < F := Nat.pos_of_mul_pos_left hp
  have hg : 0 < nv g s := Nat.pos_of_mul_pos_right hp
  refine ⟨hF, ?_⟩
  have h3 : nv f n = (nv g s * nv q J * F + nv r (n + 1)) / F := by
    rw [show nv g s * nv q J * F = nv g s * F * nv q J by ac_rfl, ← h1, Nat.mul_div_cancel _ hF]
  rw [Nat.mul_comm (nv g s * nv q J) F, Nat.mul_add_div hF] at h3
  have h4 : nv r (n + 1) / F < nv g s := by rw [Nat.div_lt_iff_lt_mul hF]; exact h2
  generalize nv r (n + 1) / F = R at *
  rw [h3, Nat.mul_add_div hg, Nat.div_eq_of_lt h4, Nat.add_zero, Nat.mul_add_mod, Nat.mod_eq_of_lt h4]
  exact ⟨rfl, rfl⟩

end Go.Proofs.YtbjaolmlnkliiaaGreatDoor

/- The contract of divideLong. Conditions as premises: the lists read and are valid, the divisor has two limbs or more and is not longer. -/
namespace Go.Proofs.YtbjaolmlnkliiaaGreatDoor
open Go.RowKit Go.Shelf

theorem made_bel {w w' : World} {N : Nat} {v : Value} (h : Made w N v w') : Below w.heap.size w w' := by
  obtain ⟨A, n, c, f, e, hr, hd, hb⟩ := h
  exact hb

set_option maxRecDepth 100000 in
set_option maxHeartbeats 800000 in
theorem divideLong_any (A A' : Option Addr) (n c s c' : Nat) (f g : Nat → Nat) (w : World) (hA : Rs w w.heap.size A n c f) (hB : Rs w w.heap.size A' s c' g) (hf : ∀ j, j < n → f j < LB) (hg : ∀ j, j < s → g j < LB) (hs2 : 2 ≤ s) (hsn : s ≤ n) (hn : n ≤ 2000) (ht : g (s - 1) ≠ 0) :
    Calls Tryz.prog 246 #[.slice A n c, .slice A' s c'] w fun e w' => ∃ v u, e = .returned (.tuple #[v, u]) ∧ Made2 w (nv f n / nv g s) (nv f n % nv g s) v u w' := by
  obtain ⟨J, hJ⟩ : ∃ J, J = n - s + 1 := ⟨_, rfl⟩
  have hmk := run_make_row' (P := Tryz.prog) 23 40 (.int .u32 0) 4 Tryz.underlying23 info32 rfl .i64 .i64 J (by omega) (by omega)
  rw [show ((J : Nat) : Int) = (n : Int) - (s : Int) + 1 by omega] at hmk
  obtain ⟨b2, off2, rfl, hb2, hc2⟩ := hB.cell (by omega)
  have htop := hc2 (s - 1) (by omega)
  rw [show ((off2 + (s - 1) : Nat)) = off2 + (s - 1) from rfl] at htop
  obtain ⟨F, hF⟩ : ∃ F, F = LB / (g (s - 1) + 1) := ⟨_, rfl⟩
  have htB := hg (s - 1) (by omega)
  obtain ⟨hn1, hn2, hn3, hn4⟩ := scale_norm (t := g (s - 1)) (by omega) htB hF
  have hfi : 1000000000 / (iv (g (s - 1)) + 1) = iv F := by rw [hF]; simp only [iv_eq]; rw [LB_eq, Int.natCast_ediv, Int.natCast_add]; rfl
  have hg0 := iv_nonneg (g (s - 1))
  have hg1 := iv_limb htB
  have hs1 := scaled_any A n c F (n + 1) f w hA hf hn4 (by omega)
  rw [show ((n + 1 : Nat) : Int) = (n : Int) + 1 by omega] at hs1
  have HS1 := Lib.hid hs1
  have HS2 := Lib.hid fun w1 (h : Rs w1 w1.heap.size (some ⟨b2, off2, none⟩) s c' g) => scaled_any _ s c' F s g w1 h hg hn4 (by omega)
  clear hs1
  have HF := Lib.hid hf
  have HG := Lib.hid hg
  have HFI := Lib.hid hfi
  have HFD := Lib.hid hF
  have HFL := Lib.hid hn4
  have HJ := Lib.hid hJ
  have hJ1 : J ≤ 2000 := by omega
  have hJ2 : 1 ≤ J := by omega
  clear hF hJ hc2 hf hg hn1 hn2 hn3 hn4 hfi htB
  go_enter Tryz.func246, Tryz.ntmps246
  go_wp2_with fail
  rw [HFI.out]
  refine HS1.out.mono ?_
  rintro _ w1 ⟨rfl, hbl1, x, C, hrx, hxl, hxe⟩
  have hsz1 : w.heap.size < w1.heap.size := hrx.lt
  have HXL := Lib.hid hxl
  have HXE := Lib.hid hxe
  clear hxl hxe
  go_wp2_with fail
  refine (HS2.out w1 ((hB.below hbl1).more hbl1.size)).mono ?_
  rintro _ w2 ⟨rfl, hbl2, v, C', hrv, hvl, hve⟩
  have hsz2 : w1.heap.size < w2.heap.size := hrv.lt
  have hrx2 := hrx.keep (hbl2.block _ hsz1)
  have HVL := Lib.hid hvl
  have HVE := Lib.hid hve
  clear hvl hve hrx
  go_wp2_with fail
  have hrq2 := Row.made w2 J
  have hbl3 : Below w.heap.size w (w2.alloc (.cells (madeCells #[.int .u32 0] J) 40)) := (hbl1.trans (hbl2.mono hbl1.size)).alloc (by omega) _
  have hs12 : w.heap.size < w2.heap.size := by omega
  have hrx3 : Row (w2.alloc (.cells (madeCells #[.int .u32 0] J) 40)) w.heap.size (n + 1) x := hrx2.keep (Below.heap_alloc _ _ _ (by omega))
  have hrv3 : Row (w2.alloc (.cells (madeCells #[.int .u32 0] J) 40)) w1.heap.size s v := hrv.keep (Below.heap_alloc _ _ _ (by omega))
  have LG := Lib.hid (Long.mk' (J := J) HF.out HG.out (by omega) (by have := HJ.out; omega) ht HFD.out HXE.out HVE.out HVL.out)
  have LS := Lib.hid (LG.out.start HXL.out)
  generalize hR : w.heap.size = R at *
  generalize hD : w1.heap.size = D at *
  generalize hQ : w2.heap.size = Q at *
  have HR := Lib.hid hR
  have HDR : Hid (D ≠ R) := Lib.hid (by omega)
  have HQR : Hid (Q ≠ R) := Lib.hid (by omega)
  have HQD : Hid (Q ≠ D) := Lib.hid (by omega)
  have HRQ : Hid (R ≤ Q) := Lib.hid (by omega)
  clear hmk HS1 HS2 hrx2 hrv hbl1 hbl2 HXE HVE HXL hR hD hQ ht htop hA hB hg0 hg1 HFI
  generalize w2.alloc (.cells (madeCells #[.int .u32 0] J) 40) = w3 at *
  go_loopw [9, 10, 11] (fun i _ _ wr => ∃ (k : Nat) (r q : Nat → Nat), k ≤ J ∧ i = .int .i64 ((k : Int) - 1) ∧ Row wr R (n + 1) r ∧ Row wr D s v ∧ Row wr Q J q ∧ Hid (Dl (n + 1) s J (nv v s) x r q k) ∧ Below R w wr) (fun i _ _ _ => (intOf i + 1).toNat)
  case atStart => exact ⟨J, x, _, Nat.le_refl _, rfl, hrx3, hrv3, hrq2, LS, hbl3⟩
  case round =>
    obtain ⟨k, r, q, hk, rfl, hrr, hrv, hrq, hdl, hb⟩ := hrel
    by_cases hk0 : k = 0
    · subst hk0
      have hql : ∀ j, j < J → q j < LB := fun j _ => hdl.out.ql j
      have hrl := hdl.out.rl
      have HD := Lib.hid (LG.out.done hdl.out)
      have hRB : R < wr.heap.size := hrr.lt
      have HT1 := Lib.hid (trim_any (some ⟨R, 0, none⟩) (n + 1) (n + 1) r _ wr (hrr.rs (by omega) (fun j hj => by have := hrl j; rw [LB_eq] at this; omega)))
      have HRL := Lib.hid hrl
      have HQL := Lib.hid hql
      clear hrl hql hdl
      go_wp2_with fail
      refine HT1.out.mono ?_
      rintro _ _ ⟨⟨_, rfl, AT, mT, cT, rfl, hrT, htT⟩, rfl⟩
      have hdT := htT.dig (fun j _ => HRL.out j) rfl
      have HDL := Lib.hid (divideLimb_any AT mT cT F r wr hrT (fun j _ => HRL.out j) (by have := htT.le; omega) HD.out.1 HFL.out)
      have HDT := Lib.hid hdT.eq
      clear hdT htT hrT
      go_wp2_with fail
      refine HDL.out.mono ?_
      rintro _ w4 ⟨u, rfl, hm⟩
      have hrq4 : Row w4 Q J q := hrq.keep ((made_bel hm).block _ hrq.lt)
      have HT2 := Lib.hid (trim_any (some ⟨Q, 0, none⟩) J J q _ w4 (hrq4.rs (by omega) (fun j hj => by have := HQL.out j hj; rw [LB_eq] at this; omega)))
      have HM := Lib.hid hm
      clear hm
      go_wp2_with fail
      refine HT2.out.mono ?_
      rintro _ _ ⟨⟨_, rfl, AT2, mT2, cT2, rfl, hrT2, htT2⟩, rfl⟩
      have HDQ := Lib.hid (htT2.dig HQL.out HD.out.2.1)
      have HRT := Lib.hid hrT2
      clear hrT2 htT2
      go_wp2_with fail
      go_ret2
      have hM := HM.out
      rw [HDT.out, HD.out.2.2] at hM
      have hbel : Below w.heap.size w w4 := by rw [HR.out]; exact hb.trans ((made_bel hM).mono (by have := hb.size; have := HR.out; omega))
      obtain ⟨A4, n4, c4, f4, rfl, hr4, hd4, hb4⟩ := hM
      exact ⟨_, _, rfl, AT2, mT2, cT2, q, A4, n4, c4, f4, rfl, HRT.out, HDQ.out, rfl, hr4, hd4, hbel⟩
    · obtain ⟨p, rfl⟩ : ∃ p, k = p + 1 := ⟨k - 1, by omega⟩
      rw [show (((p + 1 : Nat) : Int) - 1) = (p : Int) by omega]
      have hps : p + s + 1 ≤ n + 1 := by have := HJ.out; omega
      have h1 : (p : Int) + (s : Int) + 1 ≤ (n : Int) + 1 := by omega
      have h2 : ¬ n + 1 = p := by omega
      have hPt := hdl.out.top LG.out.lt hps
      have hrl := hdl.out.rl
      have hrs : Rs wr wr.heap.size (some ⟨R, p, none⟩) (s + 1) (n + 1 - p) (fun j => r (p + j)) := by
        have h := (hrr.rs (by omega) (fun j hj => by have := hrl j; rw [LB_eq] at this; omega)).sub (lo := p) (hi := p + s + 1) (by omega) (by omega)
        rw [show p + s + 1 - p = s + 1 by omega, Nat.zero_add] at h
        exact h
      have hlt : nv (fun j => r (p + j)) (s + 1) < nv v s * LB := by rw [← hPt.1]; exact hPt.2.2
      have HGS := Lib.hid (guess_any (some ⟨R, p, none⟩) (some ⟨D, 0, none⟩) s (n + 1 - p) s (fun j => r (p + j)) v _ _ wr hrs (hrv.rs (by omega) (fun j hj => by have := HVL.out j; rw [LB_eq] at this; omega)) hs2 (by omega) (fun j => hrl _) HVL.out hlt LG.out.norm)
      have HPT := Lib.hid hPt
      have HRL := Lib.hid hrl
      have hpp : p + s + 1 - p = s + 1 := by omega
      clear hlt hrs hPt hrl
      go_wp2_with fail
      rw [hpp]
      clear hpp
      refine HGS.out.mono ?_
      rintro _ _ ⟨gs, rfl, ⟨dd, rfl⟩, hge, hle, hgl⟩
      have hrr1 : Row (wr.drewN dd) R (n + 1) r := hrr
      have hrv1 : Row (wr.drewN dd) D s v := hrv
      have hrq1 : Row (wr.drewN dd) Q J q := hrq
      have hb1 := hb.trans ((Below.drewN wr dd).mono (by have := hb.size; have := HR.out; omega))
      have HGE := Lib.hid hge
      have HLE := Lib.hid hle
      have HGL := Lib.hid hgl
      clear hrr hrv hrq hb HGS hge hle hgl
      generalize wr.drewN dd = wa at *
      go_wp2_with fail
      refine (subtract_any R p (n + 1) s _ D s gs r v wa hrr1 hrv1 HDR.out (by omega) HRL.out HVL.out HGL.out (by omega)).mono ?_
      rintro _ wb ⟨C2, r2, rfl, hgr, hrr2, he2, hrl2, hsm2⟩
      have hrv2 : Row wb D s v := hrv1.grown hgr HDR.out
      have hrq2 : Row wb Q J q := hrq1.grown hgr HQR.out
      have hb2 : Below R w wb := hb1.grown hgr (by have := hb1.size; have := HR.out; omega) (fun j e => by cases e; exact Nat.le_refl _)
      have hstep := step_ok LG.out.pos (Nat.lt_of_lt_of_le LG.out.lt (pow_le_of (Nat.le_succ s))) (nv_lt (s + 1) (f := fun j => r2 (p + j)) fun j _ => hrl2 _) (by rw [nv_pl v s (s + 1) (by omega)] at he2; exact he2) HGE.out HLE.out
      have HST := Lib.hid hstep
      have HRL2 := Lib.hid hrl2
      have HSM2 := Lib.hid hsm2
      clear hstep hrl2 hsm2 he2 hgr hrr1 hrv1 hrq1 hb1
      have hfz := hrq2.frozen p
      have hcp := hrq2.cell (show p < J by omega)
      have hdiv : hi r (n + 1) p / nv v s < LB := by rw [Nat.div_lt_iff_lt_mul LG.out.pos, Nat.mul_comm]; exact HPT.out.2.2
      have HDIV := Lib.hid hdiv
      clear hdiv
      by_cases hC : 0 < C2
      · have hdec : decide (0 < C2) = true := decide_eq_true hC
        rw [hdec]
        obtain ⟨hg1, hg2, hg3⟩ := HST.out.2 hC
        have hz1 : iv gs - 1 = iv (gs - 1) := by simp only [iv_eq]; omega
        have hz2 : 1 ≤ iv gs := by rw [iv_eq]; omega
        have hz3 : iv gs ≤ 1000000000 := by have := iv_le HGL.out; rw [LB_eq] at this; exact this
        have HG1 := Lib.hid hg1
        have HG2 := Lib.hid hg2
        have HG3 := Lib.hid hg3
        have HZ1 := Lib.hid hz1
        clear hdec hC HST hg1 hg2 hg3 hz1 hfz hcp
        go_wp2_with fail
        refine (restore_any R p (n + 1) s _ D s r2 v wb hrr2 hrv2 HDR.out (by omega) HRL2.out HVL.out (by omega)).mono ?_
        rintro _ wc ⟨C3, r3, rfl, hgr, hrr3, he3, hrl3, hsm3⟩
        have hrv3 : Row wc D s v := hrv2.grown hgr HDR.out
        have hrq3 : Row wc Q J q := hrq2.grown hgr HQR.out
        have hb3 : Below R w wc := hb2.grown hgr (by have := hb2.size; have := HR.out; omega) (fun j e => by cases e; exact Nat.le_refl _)
        have hw3 := HG3.out _ C3 (nv_lt (s + 1) (f := fun j => r3 (p + j)) fun j _ => hrl3 _) (by rw [nv_pl v s (s + 1) (by omega)] at he3; exact he3)
        rw [← HPT.out.1] at hw3
        have hnext := hdl.out.next LG.out.pos LG.out.lt hps (by omega) hw3 hrl3 (fun j hj => by rw [hsm3 j hj, HSM2.out j hj])
        have hq1 : hi r (n + 1) p / nv v s = gs - 1 := by rw [HPT.out.1]; exact HG2.out.symm
        rw [hq1] at hnext
        have HN := Lib.hid hnext
        have HZ4 : iv (gs - 1) < 1000000000 := iv_limb (by rw [← hq1]; exact HDIV.out)
        have hnew := Lib.hid (hrq3.set p (gs - 1))
        have hrr4 : Row (wc.setCell ⟨Q, p, none⟩ (.int .u32 (iv (gs - 1)))) R (n + 1) r3 := hrr3.keep (Below.heap_setCell _ _ _ _ (by have := HQR.out; exact fun e => this e.symm))
        have hrv4 : Row (wc.setCell ⟨Q, p, none⟩ (.int .u32 (iv (gs - 1)))) D s v := hrv3.keep (Below.heap_setCell _ _ _ _ (by have := HQD.out; exact fun e => this e.symm))
        have hb4 : Below R w (wc.setCell ⟨Q, p, none⟩ (.int .u32 (iv (gs - 1)))) := hb3.setCell (by have := HRQ.out; exact this) _
        have hfz := hrq3.frozen p
        have hcp := hrq3.cell (show p < J by omega)
        have hz0 := iv_nonneg (gs - 1)
        rw [← HZ1.out] at hz0 HZ4 hnew hrr4 hrv4 hb4
        have HB4 := Lib.hid hb4
        have HR4 := Lib.hid hrr4
        have HV4 := Lib.hid hrv4
        clear hb4 hrr4 hrv4 hb3 hrq3 hrv3 hrr3 hb2 hrq2 hrv2 hrr2 hw3 hnext hq1 he3 hrl3 hsm3 hgr HPT HG3
        generalize iv gs = Z at *
        go_wp2_with fail
        go_roundw
        case rel => exact ⟨p, r3, _, by omega, rfl, HR4.out, HV4.out, hnew.out, HN.out, HB4.out⟩
        case measure => simp [intOf] <;> omega
      · have hdec : decide (0 < C2) = false := decide_eq_false hC
        rw [hdec]
        obtain ⟨hg1, hw3⟩ := HST.out.1 (by omega)
        rw [← HPT.out.1] at hg1 hw3
        have hnext := hdl.out.next LG.out.pos LG.out.lt hps (by omega) hw3 HRL2.out HSM2.out
        rw [← hg1] at hnext
        have HN := Lib.hid hnext
        have hz4 : iv gs < 1000000000 := iv_limb (by rw [hg1]; exact HDIV.out)
        have hz0 := iv_nonneg gs
        have hnew := Lib.hid (hrq2.set p gs)
        have HR4 := Lib.hid (hrr2.keep (w' := wb.setCell ⟨Q, p, none⟩ (.int .u32 (iv gs))) (Below.heap_setCell _ _ _ _ (by have := HQR.out; exact fun e => this e.symm)))
        have HV4 := Lib.hid (hrv2.keep (w' := wb.setCell ⟨Q, p, none⟩ (.int .u32 (iv gs))) (Below.heap_setCell _ _ _ _ (by have := HQD.out; exact fun e => this e.symm)))
        have HB4 := Lib.hid (hb2.setCell (p := ⟨Q, p, none⟩) (by have := HRQ.out; exact this) (.int .u32 (iv gs)))
        clear hdec hC HST hg1 hw3 hnext HPT hb2 hrq2 hrv2 hrr2
        generalize iv gs = Z at *
        go_wp2_with fail
        go_roundw
        case rel => exact ⟨p, r2, _, by omega, rfl, HR4.out, HV4.out, hnew.out, HN.out, HB4.out⟩
        case measure => simp [intOf] <;> omega

end Go.Proofs.YtbjaolmlnkliiaaGreatDoor

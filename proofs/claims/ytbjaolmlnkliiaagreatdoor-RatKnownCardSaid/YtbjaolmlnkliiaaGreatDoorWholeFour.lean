/- The contracts of the functions under the laws of package rat: SizeA, WholeA, WholeB, WholeC, WholeD, joined into one file. -/
import Derived.Test.YtbjaolmlnkliiaaGreatDoorRefTwo
import Derived.IntWalk
import Derived.Deep.RegionHeld3
import Derived.Deep.DrawnRows
import Derived.Deep.DeepCutAuto
import Derived.Test.YtbjaolmlnkliiaaGreatDoorRatFour
import Derived.Test.YtbjaolmlnkliiaaGreatDoorRatThree
import Derived.Test.YtbjaolmlnkliiaaGreatDoorRatTwo
/- The contracts of the reference's size and Whole. Conditions as premises: the int is not negative. -/
namespace Go.Proofs.YtbjaolmlnkliiaaGreatDoor
open Go.RowKit

set_option maxRecDepth 100000 in
set_option maxHeartbeats 1600000 in
theorem refSizeP_any (N : Nat) (hN : Big (N ≤ 9000000000000000000)) (w : World) :
    Calls Tryz.prog 214 #[.int .i64 (iv N)] w fun e w' => ∃ v, e = .returned v ∧ Made w N v w' := by
  obtain ⟨i0, hi, hz0, hz1, hz2⟩ := info_parts info32
  go_enter Tryz.func214, Tryz.ntmps214
  go_wp2
  go_loopw [0, 3] (fun u v wr => ∃ k : Nat, k ≤ 3 ∧ u = .int .i64 (iv (N / LB ^ k)) ∧ Own wr w.heap.size v k (dig N) ∧ Below w.heap.size w wr ∧ Hid (∀ j, j < k → N / LB ^ j ≠ 0)) (fun u _ _ => (intOf u).toNat)
  case atStart => exact ⟨0, by omega, by simp, Own.nil _ _ _, Below.refl _ _, fun j hj => by omega⟩
  case round =>
    obtain ⟨k, hk, rfl, hown, hbel, hpre⟩ := hrel
    have hx0 : 0 ≤ iv (N / LB ^ k) := iv_nonneg _
    have hmod := Lib.hid (iv_mod N k)
    have hdiv := Lib.hid (iv_div N k)
    by_cases hq : N / LB ^ k = 0
    · rw [show iv (N / LB ^ k) = 0 by rw [hq, iv_zero]]
      have HQ := Lib.hid hq
      clear hq hx0
      go_wp2
      go_ret
      exact ⟨_, rfl, made_of hown hbel HQ.out hpre.out⟩
    · have hz := iv_pos hq
      have hx1 : iv (N / LB ^ k) ≤ 9000000000000000000 := by
        have h1 := Nat.div_le_self N (LB ^ k)
        have h2 := hN.out
        rw [iv_eq]; omega
      have hk3 := div_lt3 (Nat.lt_of_le_of_lt hN.out (by omega)) hq
      have HQ := Lib.hid hq
      clear hq
      generalize hgx : iv (N / LB ^ k) = x at *
      have HGX := Lib.hid hgx
      clear hgx
      have hsz := hbel.size
      have hmx : max (x % 1000000000) (-(x % 1000000000)) = x % 1000000000 := Int.max_eq_left (by omega)
      go_wp2_with (at_builtin; refine wpList_append_own _ rfl (.tmp 9) (.tmp 15) 23 rfl w.heap.size 40 i0 (.int .u32 0) 1 4 Tryz.underlying23 hi hz0 hz1 hz2 rfl (by decide) _ _ _ rfl (World.ownsRow.alloc hown _) ⟨wr.heap.size, 0, none⟩ 1 1 [.int .u32 (x % 1000000000)] rfl rfl (cell_one_new _ _ _) ?c2 ?c3 ?c4 ?c5 ?_)
      case c2 => intro u hu; simp at hu; subst hu; rfl
      case c3 => unfold maxLen; omega
      case c4 => omega
      case c5 => simp; omega
      intro v' w1 hown' hgrow _
      have hb1 := snoc_below hown hbel (Nat.le_refl _) hsz hgrow
      rw [hmod.out] at hown'
      have hown1 := Own.snoc hown' rfl
      clear hown' hgrow hown hbel
      go_wp2
      go_roundw
      case rel => exact ⟨k + 1, by omega, by rw [hdiv.out], hown1, hb1, fun j hj => by
        by_cases e : j = k
        · subst e; exact HQ.out
        · exact hpre.out j (by omega)⟩
      case measure => simp [intOf] <;> omega
theorem refSizeN (N : Nat) (hN : N ≤ 1000000000) (w : World) :
    Calls Tryz.prog 214 #[.int .i64 (iv N)] w fun e w' => ∃ v, e = .returned v ∧ Nr w' N v ∧ Below w.heap.size w w' := by
  refine (refSizeP_any N (Big.mk (by omega)) w).mono ?_
  rintro e w' ⟨v, he, hm⟩
  exact ⟨v, he, hm.nr⟩

set_option maxRecDepth 100000 in
set_option maxHeartbeats 4000000 in
theorem refWholeN (N : Nat) (hN : N ≤ 1000000000) (w : World) :
    Calls Tryz.prog 185 #[.int .i64 (iv N)] w fun e w' => ∃ v, e = .returned v ∧ Rq w' (mkRat (N : Int) 1) v ∧ Below w.heap.size w w' := by
  have hb0 := below1 w (.cells #[.bool false, .slice none 0 0, .slice none 0 0] 25)
  have HB := Lib.hid hb0
  have X := Lib.hid (Blk.new w #[.bool false, .slice none 0 0, .slice none 0 0] 25)
  have C1 := Lib.hid (refSizeN N hN (w.alloc (.cells #[.bool false, .slice none 0 0, .slice none 0 0] 25)))
  have hx0 : 0 ≤ iv N := iv_nonneg _
  have hL : Hid (N < LB ^ NL) := Lib.hid (Nat.lt_of_le_of_lt hN (by
    have : LB ^ 2 ≤ LB ^ NL := pow_le_of (by rw [NL_eq]; omega)
    exact Nat.lt_of_lt_of_le (show 1000000000 < LB ^ 2 by rw [Nat.pow_two, LB_eq]; decide) this))
  have EQ : Hid (mkRat (sn false N) 1 = mkRat (N : Int) 1) := Lib.hid rfl
  clear hN
  generalize iv N = x at *
  have hx2 : decide (x < 0) = false := decide_eq_false (by omega)
  clear hb0
  go_enter Tryz.func185, Tryz.ntmps185
  go_wp2_with fail
  refine C1.out.mono ?_
  rintro _ w1 ⟨y, rfl, hy, hb⟩
  obtain ⟨A3, n3, c3, rfl⟩ := hy.shape
  have hba := below1 w1 (.cells #[.int .u32 1] 40)
  have C2 := Lib.hid (refLowestQ false (hy.below hba) (nr_one w1) hL.out one_lt.out (by decide))
  replace HB := Lib.hid ((HB.out.trans (hb.mono HB.out.size)).trans (hba.mono (HB.out.trans (hb.mono HB.out.size)).size))
  replace X := Lib.hid ((X.out.after hb).after hba)
  clear hb hy hba C1
  go_wp2_with fail
  refine C2.out.mono ?_
  rintro _ w2 ⟨y, rfl, hy, hb⟩
  obtain ⟨bL, AL, nL, cL, AL', nL', cL', rfl, _, _, _⟩ := hy.get
  replace HB := Lib.hid (HB.out.trans (hb.mono HB.out.size))
  replace X := Lib.hid (X.out.after hb)
  have HXL := Lib.hid (hy.cast EQ.out)
  have zx : w.heap.size < w2.heap.size := X.out.lt
  have d0 := X.out.cell (i := 0) rfl
  have d1 := X.out.cell (i := 1) rfl
  have d2 := X.out.cell (i := 2) rfl
  have ff := X.out.free
  clear hy hb C2
  go_wp2_with fail
  refine bodyPost_ret (results_cell_row (p := 2) (ty := 25) rfl _ _ w.heap.size 25 _ _ _ rfl X.out.set.set.set Tryz.underlying25 rfl (by kernel_rfl)) rfl ?_
  obtain ⟨g1, g2, g3⟩ := HXL.out.inv
  exact ⟨_, rfl, Rq.mk g3 rfl rfl (g1.put3 X.out (hnoR _ _ _ _ _ _ _)) (g2.put3 X.out (hnoR _ _ _ _ _ _ _)), ((HB.out.setCell (Nat.le_refl _) _).setCell (Nat.le_refl _) _).setCell (Nat.le_refl _) _⟩
theorem refWhole1 (w : World) : Calls Tryz.prog 185 #[.int .i64 1] w fun e w' => ∃ v, e = .returned v ∧ Rq w' 1 v ∧ Below w.heap.size w w' := by
  have := refWholeN 1 (by omega) w
  rw [show iv 1 = 1 by rw [iv_eq]; rfl] at this
  exact this
theorem refWhole0 (w : World) : Calls Tryz.prog 185 #[.int .i64 0] w fun e w' => ∃ v, e = .returned v ∧ Rq w' 0 v ∧ Below w.heap.size w w' := by
  have := refWholeN 0 (by omega) w
  rw [iv_zero, show mkRat ((0 : Nat) : Int) 1 = 0 by decide +kernel] at this
  exact this
end Go.Proofs.YtbjaolmlnkliiaaGreatDoor

/- The contracts of the reference's functions on rational numbers. Conditions as premises: the numbers read, and are short enough. -/
namespace Go.Proofs.YtbjaolmlnkliiaaGreatDoor
open Go.RowKit Go.Shelf
attribute [local go_sem ↓] Go.wp_at_zero Go.wp_at_succ


theorem tm_abs (x : Int) : max (x.tmod 1000000000) (-(x.tmod 1000000000)) = ((x.natAbs % 1000000000 : Nat) : Int) := by
  have h := Int.natAbs_tmod x 1000000000
  generalize x.tmod 1000000000 = t at *
  rw [show (1000000000 : Int).natAbs = 1000000000 from rfl] at h
  omega
theorem td_abs (x : Int) : (x.tdiv 1000000000).natAbs = x.natAbs / 1000000000 := by
  have h := Int.natAbs_tdiv x 1000000000
  rw [show (1000000000 : Int).natAbs = 1000000000 from rfl] at h
  exact h
theorem step_dig {x : Int} {N k : Nat} (h : x.natAbs = N / LB ^ k) : max (x.tmod 1000000000) (-(x.tmod 1000000000)) = iv (dig N k) := by
  rw [tm_abs, h, iv_eq]; unfold dig; rw [LB_eq]
theorem step_div {x : Int} {N k : Nat} (h : x.natAbs = N / LB ^ k) : (x.tdiv 1000000000).natAbs = N / LB ^ (k + 1) := by
  rw [td_abs, h, Nat.pow_succ, ← Nat.div_div_eq_div_mul, show LB = 1000000000 from LB_eq]

/-- an int of 64 bits, hidden -/
def I64 (z : Int) : Prop := -9223372036854775808 ≤ z ∧ z ≤ 9223372036854775807

set_option maxRecDepth 100000 in
set_option maxHeartbeats 1600000 in
theorem refSizeI_any (z : Int) (hz : Hid (I64 z)) (w : World) :
    Calls Tryz.prog 214 #[.int .i64 z] w fun e w' => ∃ v, e = .returned v ∧ Made w z.natAbs v w' := by
  obtain ⟨i0, hi, hz0, hz1, hz2⟩ := info_parts info32
  have HS : Hid (z.natAbs = z.natAbs / LB ^ 0) := Lib.hid (by simp)
  have HN : Big (z.natAbs ≤ 9223372036854775808) := Big.mk (by have := hz.out; unfold I64 at this; omega)
  generalize hgN : z.natAbs = N at *
  have HGN := Lib.hid hgN
  clear hgN
  go_enter Tryz.func214, Tryz.ntmps214
  go_wp2
  go_loopw [0, 3] (fun u v wr => ∃ (k : Nat) (x : Int), k ≤ 3 ∧ u = .int .i64 x ∧ Hid (x.natAbs = N / LB ^ k) ∧ Hid (I64 x) ∧ Own wr w.heap.size v k (dig N) ∧ Below w.heap.size w wr ∧ Hid (∀ j, j < k → N / LB ^ j ≠ 0)) (fun u _ _ => (intOf u).natAbs)
  case atStart => exact ⟨0, z, by omega, rfl, Lib.hid (HGN.out.trans HS.out), hz, Own.nil _ _ _, Below.refl _ _, fun j hj => by omega⟩
  case round =>
    obtain ⟨k, x, hk, rfl, hx, hr, hown, hbel, hpre⟩ := hrel
    by_cases hq : x = 0
    · subst hq
      have HQ : Hid (N / LB ^ k = 0) := Lib.hid (by have := hx.out; simpa using this.symm)
      clear hx hr
      go_wp2
      go_ret
      exact ⟨_, rfl, made_of hown hbel HQ.out hpre.out⟩
    · have hq' : N / LB ^ k ≠ 0 := by rw [← hx.out]; omega
      have hk3 := div_lt3 (Nat.lt_of_le_of_lt HN.out (by omega)) hq'
      have HQ := Lib.hid hq'
      have hne : (x != 0) = true := by rw [bne_iff_ne]; exact hq
      have hnq : (x == 0) = false := by rw [beq_eq_false_iff_ne]; exact hq
      have hab : Hid ((x.tdiv 1000000000).natAbs < x.natAbs) := Lib.hid (by rw [td_abs]; omega)
      have hsd := Lib.hid (step_div hx.out)
      have hdg := step_dig hx.out
      have h32 := dig_lt N k
      have hy0 := iv_nonneg (dig N k)
      have hy1 : iv (dig N k) < 1000000000 := iv_limb h32
      have hr1 : -9223372036854775808 ≤ x ∧ x ≤ 9223372036854775807 := hr.out
      obtain ⟨hx0, hx1⟩ := hr1
      have ht := td_abs x
      generalize hgy : iv (dig N k) = y at *
      have HGY := Lib.hid hgy
      generalize hgt : x.tmod 1000000000 = t at *
      generalize hgd : x.tdiv 1000000000 = d at *
      have hd0 : -9223372036854775808 ≤ d := by omega
      have hd1 : d ≤ 9223372036854775807 := by omega
      have ht0 : -9223372036854775807 ≤ t := by omega
      have ht1 : t ≤ 9223372036854775807 := by omega
      have HRD : Hid (I64 d) := Lib.hid ⟨hd0, hd1⟩
      have HQX := Lib.hid hq
      have hsz := hbel.size
      clear hq' ht hq hr hx h32 hgy
      go_wp2_with (at_builtin; refine wpList_append_own _ rfl (.tmp 9) (.tmp 15) 23 rfl w.heap.size 40 i0 (.int .u32 0) 1 4 Tryz.underlying23 hi hz0 hz1 hz2 rfl (by decide) _ _ _ rfl (World.ownsRow.alloc hown _) ⟨wr.heap.size, 0, none⟩ 1 1 [.int .u32 y] rfl rfl (cell_one_new _ _ _) ?c2 ?c3 ?c4 ?c5 ?_)
      case c2 => intro u hu; simp at hu; subst hu; rfl
      case c3 => unfold maxLen; omega
      case c4 => omega
      case c5 => simp; omega
      intro v' w1 hown' hgrow _
      have hb1 := snoc_below hown hbel (Nat.le_refl _) hsz hgrow
      rw [← HGY.out] at hown'
      have hown1 := Own.snoc hown' rfl
      clear hown' hgrow hown hbel
      go_wp2
      go_roundw
      case rel => exact ⟨k + 1, d, by omega, rfl, hsd, HRD, hown1, hb1, fun j hj => by
        by_cases e : j = k
        · subst e; exact HQ.out
        · exact hpre.out j (by omega)⟩
      case measure => first | exact hab.out | (simp only [intOf]; exact hab.out)
theorem abs_nl {z : Int} (h : I64 z) : z.natAbs < LB ^ 3 := by
  have h1 : LB ^ 3 = 1000000000000000000000000000 := by rw [LB_eq]
  unfold I64 at h
  omega
theorem refSizeI (z : Int) (hz : Hid (I64 z)) (w : World) :
    Calls Tryz.prog 214 #[.int .i64 z] w fun e w' => ∃ v, e = .returned v ∧ Nr w' z.natAbs v ∧ Below w.heap.size w w' := by
  refine (refSizeI_any z hz w).mono ?_
  rintro e w' ⟨v, he, hm⟩
  exact ⟨v, he, hm.nr⟩
theorem sn_int (z : Int) : sn (decide (z < 0)) z.natAbs = z := by
  unfold sn
  by_cases h : z < 0
  · rw [decide_eq_true h]; simp; omega
  · rw [decide_eq_false h]; simp; omega
/-- the quotient of two ints -/
def ofq (a b : Int) : Rat := mkRat (sn (decide (a < 0) != decide (b < 0)) a.natAbs) b.natAbs

set_option maxRecDepth 100000 in
set_option maxHeartbeats 8000000 in
theorem refWholeI (z : Int) (hz : Hid (I64 z)) (w : World) :
    Calls Tryz.prog 185 #[.int .i64 z] w fun e w' => ∃ v, e = .returned v ∧ Rq w' (z : Rat) v ∧ Below w.heap.size w w' := by
  have hb0 := below1 w (.cells #[.bool false, .slice none 0 0, .slice none 0 0] 25)
  have HB := Lib.hid hb0
  have X := Lib.hid (Blk.new w #[.bool false, .slice none 0 0, .slice none 0 0] 25)
  have C1 := Lib.hid (refSizeI z hz (w.alloc (.cells #[.bool false, .slice none 0 0, .slice none 0 0] 25)))
  have hL : Hid (z.natAbs < LB ^ NL) := Lib.hid (lt_NL (abs_nl hz.out) (by omega))
  have EQ : Hid (mkRat (sn (decide (z < 0)) z.natAbs) 1 = (z : Rat)) := Lib.hid (by rw [sn_int, Rat.mkRat_one])
  obtain ⟨ng, hng⟩ : ∃ b, decide (z < 0) = b := ⟨_, rfl⟩
  rw [hng] at EQ
  clear hb0
  go_enter Tryz.func185, Tryz.ntmps185
  go_wp2_with fail
  refine C1.out.mono ?_
  rintro _ w1 ⟨y, rfl, hy, hb⟩
  obtain ⟨A3, n3, c3, rfl⟩ := hy.shape
  have hba := below1 w1 (.cells #[.int .u32 1] 40)
  have C2 := Lib.hid (refLowestQ ng (hy.below hba) (nr_one w1) hL.out one_lt.out (by decide))
  replace HB := Lib.hid ((HB.out.trans (hb.mono HB.out.size)).trans (hba.mono (HB.out.trans (hb.mono HB.out.size)).size))
  replace X := Lib.hid ((X.out.after hb).after hba)
  clear hb hy hba C1
  go_wp2_with fail
  refine C2.out.mono ?_
  rintro _ w2 ⟨y, rfl, hy, hb⟩
  obtain ⟨bL, AL, nL, cL, AL', nL', cL', rfl, _, _, _⟩ := hy.get
  replace HB := Lib.hid (HB.out.trans (hb.mono HB.out.size))
  replace X := Lib.hid (X.out.after hb)
  have HXL := Lib.hid (hy.cast EQ.out)
  have zx : w.heap.size < w2.heap.size := X.out.lt
  have d0 := X.out.cell (i := 0) rfl
  have d1 := X.out.cell (i := 1) rfl
  have d2 := X.out.cell (i := 2) rfl
  have ff := X.out.free
  clear hy hb C2
  go_wp2_with fail
  refine bodyPost_ret (results_cell_row (p := 2) (ty := 25) rfl _ _ w.heap.size 25 _ _ _ rfl X.out.set.set.set Tryz.underlying25 rfl (by kernel_rfl)) rfl ?_
  obtain ⟨g1, g2, g3⟩ := HXL.out.inv
  exact ⟨_, rfl, Rq.mk g3 rfl rfl (g1.put3 X.out (hnoR _ _ _ _ _ _ _)) (g2.put3 X.out (hnoR _ _ _ _ _ _ _)), ((HB.out.setCell (Nat.le_refl _) _).setCell (Nat.le_refl _) _).setCell (Nat.le_refl _) _⟩

@[irreducible] def topI : Nat := 9223372036854775808
theorem topI_eq : topI = 9223372036854775808 := by unfold topI; rfl
theorem l3_top : nv (l3 854775808 223372036 9) 3 = topI := by
  rw [topI_eq]; simp only [nv, l3, LB_eq]; rfl
theorem l3_topval : Val 3 (l3 854775808 223372036 9) := by
  refine ⟨fun j _ => ?_, fun _ => by unfold l3; decide⟩
  rw [LB_eq]
  unfold l3
  split
  · decide
  · split <;> decide
theorem l3_topcells : (#[Value.int .u32 (iv 854775808), .int .u32 (iv 223372036), .int .u32 (iv 9)] : Array Value) = #[.int .u32 854775808, .int .u32 223372036, .int .u32 9] := by
  rw [iv_eq, iv_eq, iv_eq]; rfl
theorem rs_top (w : World) : Rs (w.alloc (.cells #[.int .u32 854775808, .int .u32 223372036, .int .u32 9] 40)) (w.heap.size + 1) (some ⟨w.heap.size, 0, none⟩) 3 3 (l3 854775808 223372036 9) := by
  have h := rs_l3 w 854775808 223372036 9 (by omega) (by omega) (by omega)
  rw [l3_topcells] at h
  exact h
theorem hi_neg (f : Nat → Nat) (n k : Nat) (h : k < n) : -iv (hi f n (k + 1)) * 1000000000 - iv (f k) = -iv (hi f n k) := by
  have := hi_iv f n k h
  omega
theorem intW_over {z : Int} (h : topI < z.natAbs) : intW z = .tuple #[.int .i64 0, .int .i64 5] := by
  rw [topI_eq] at h; unfold intW; rw [if_neg (by omega)]
theorem intW_top {z : Int} (h : z = 9223372036854775808) : intW z = .tuple #[.int .i64 0, .int .i64 5] := by
  unfold intW; rw [if_neg (by omega)]
theorem intW_in {z : Int} (h : ¬ topI < z.natAbs) (h2 : z ≠ 9223372036854775808) : intW z = .tuple #[.int .i64 z, .int .i64 0] := by
  rw [topI_eq] at h; unfold intW; rw [if_pos (by omega)]

end Go.Proofs.YtbjaolmlnkliiaaGreatDoor

/- The contracts of the reference's functions on rational numbers. Conditions as premises: the numbers read, and are short enough. -/
namespace Go.Proofs.YtbjaolmlnkliiaaGreatDoor
open Go.RowKit Go.Shelf
attribute [local go_sem ↓] Go.wp_at_zero Go.wp_at_succ


theorem Sz.ceil {k : Nat} {q : Rat} (h : Sz k q) (hk : 1 ≤ k) : Sz k (q.ceil : Rat) := by
  rw [Rat.ceil_eq_neg_floor_neg, Rat.intCast_neg]
  exact (h.neg.floor hk).neg

set_option maxRecDepth 100000 in
set_option maxHeartbeats 8000000 in
theorem ratOf_zero (a : Int) (w : World) :
    Calls Tryz.prog 18 #[.int .i64 a, .int .i64 0] w fun e w' => e = .returned (.tuple #[zeroRat, .int .i64 6]) ∧ Below w.heap.size w w' := by
  have hbb := below1 w (.cells #[.bool false, .slice none 0 0, .slice none 0 0] 25)
  have HB := Lib.hid hbb
  have KP3 := Lib.hid (Blk.new w #[.bool false, .slice none 0 0, .slice none 0 0] 25)
  clear hbb
  go_enter Tryz.func18, Tryz.ntmps18
  go_wp2_with fail
  refine bodyPost_ret (results_row_tmp (p := 4) (ty := 25) rfl _ _ w.heap.size 25 _ _ _ rfl KP3.out Tryz.underlying25 rfl (by kernel_rfl)) rfl ?_
  exact ⟨rfl, HB.out⟩

theorem sz_i64 {n : Int} (h : I64 n) : Sz 3 (n : Rat) := by
  refine ⟨by rw [Rat.num_intCast]; exact abs_nl h, ?_⟩
  rw [Rat.den_intCast]
  exact Nat.one_lt_pow (by omega) (by rw [LB_eq]; omega)
theorem intW_get (z : Int) : ∃ p q, intW z = .tuple #[.int .i64 p, .int .i64 q] := by unfold intW; split <;> exact ⟨_, _, rfl⟩

set_option maxRecDepth 100000 in
set_option maxHeartbeats 8000000 in
theorem ratScale_bad {w : World} {b1 : Bool} {A1 A1' : Option Addr} {n1 c1 n1' c1' : Nat} {f1 g1 : Nat → Nat} (n : Int) (h : Raw w b1 A1 n1 c1 f1 A1' n1' c1' g1) (he : chkR b1 n1 f1 n1' g1 ≠ 0) :
    Calls Tryz.prog 27 #[.agg #[.bool b1, .slice A1 n1 c1, .slice A1' n1' c1'], .int .i64 n] w fun e w' => e = .returned (.tuple #[.int .i64 0, .int .i64 (chkR b1 n1 f1 n1' g1)]) ∧ Below w.heap.size w w' := by
  have hb0 := below1 w (.cells #[.bool b1, .slice A1 n1 c1, .slice A1' n1' c1'] 25)
  have C1 := Lib.hid (ratCheck_any (h.below hb0))
  have x1 : (chkR b1 n1 f1 n1' g1 != 0) = true := by rw [bne_iff_ne]; exact he
  have x2 : (chkR b1 n1 f1 n1' g1 == 0) = false := by rw [beq_eq_false_iff_ne]; exact he
  have HB := Lib.hid hb0
  have KP1 := Lib.hid (Blk.new w #[.bool b1, .slice A1 n1 c1, .slice A1' n1' c1'] 25)
  generalize chkR b1 n1 f1 n1' g1 = er at *
  clear h hb0 he
  have d10 := KP1.out.cell (i := 0) rfl
  have d11 := KP1.out.cell (i := 1) rfl
  have d12 := KP1.out.cell (i := 2) rfl
  go_enter Tryz.func27, Tryz.ntmps27
  go_wp2_with fail
  refine C1.out.mono ?_
  rintro _ w1 ⟨rfl, hb⟩
  replace HB := Lib.hid (HB.out.trans (hb.mono HB.out.size))
  clear hb C1
  go_wp2_with fail
  go_ret2
  exact ⟨rfl, HB.out⟩

end Go.Proofs.YtbjaolmlnkliiaaGreatDoor

/- The contracts of the reference's functions on rational numbers. Conditions as premises: the numbers read, and are short enough. -/
namespace Go.Proofs.YtbjaolmlnkliiaaGreatDoor
open Go.RowKit Go.Shelf
attribute [local go_sem ↓] Go.wp_at_zero Go.wp_at_succ


/-- the side of any int -/
theorem signOfI (n : Int) (w : World) :
    Calls Tryz.prog 90 #[.int .i64 n] w fun e w' => e = .returned (.int .i64 (sg n)) ∧ w = w' := by
  have hc : c3 n 0 = sg n - 1 := by
    unfold c3 sg
    split
    · rfl
    · split
      · rw [if_neg (by omega)]; rfl
      · rw [if_pos (by omega)]; rfl
  rcases sg_cases n with ⟨h, e⟩ | ⟨h, e⟩ | ⟨h, e⟩
  all_goals
    rw [e] at hc ⊢
    try subst h
    have HC := Lib.hid hc
    clear hc e
    go_enter Tryz.func90, Tryz.ntmps90
    go_wp2_with fail
    refine (cmpInt_any _ _ w).mono ?_
    rintro _ _ ⟨rfl, rfl⟩
    rw [HC.out]
    go_wp2_with fail
    go_ret
    exact ⟨rfl, rfl⟩
theorem sg_ofq (a b : Int) (hb : b ≠ 0) : sg (sn (decide (a < 0) != decide (b < 0)) a.natAbs) = (sg a - 1) * (sg b - 1) + 1 := by
  rcases sg_cases a with ⟨h, e⟩ | ⟨h, e⟩ | ⟨h, e⟩ <;> rcases sg_cases b with ⟨k, f⟩ | ⟨k, f⟩ | ⟨k, f⟩
  all_goals first | (exact absurd k hb) | skip
  all_goals rw [e, f]
  · rw [decide_eq_true h, decide_eq_true k]; exact sg_sn_f (by omega)
  · rw [decide_eq_true h, decide_eq_false (by omega)]; exact sg_sn_t (by omega)
  · subst h; rw [show (0 : Int).natAbs = 0 from rfl, sn_zero]; rfl
  · subst h; rw [show (0 : Int).natAbs = 0 from rfl, sn_zero]; rfl
  · rw [decide_eq_false (by omega), decide_eq_true k]; exact sg_sn_t (by omega)
  · rw [decide_eq_false (by omega), decide_eq_false (by omega)]; exact sg_sn_f (by omega)

set_option maxRecDepth 100000 in
set_option maxHeartbeats 8000000 in
theorem ratOfOk (a b : Int) (ha : Hid (I64 a)) (hb : Hid (I64 b)) (hb0 : b ≠ 0) {w : World} (hT : Tabs w) :
    Calls Tryz.prog 18 #[.int .i64 a, .int .i64 b] w fun e w' => ∃ t, e = .returned (.tuple #[t, .int .i64 0]) ∧ Rq w' (ofq a b) t ∧ Below w.heap.size w w' := by
  have hbb := below1 w (.cells #[.bool false, .slice none 0 0, .slice none 0 0] 25)
  have HB := Lib.hid hbb
  have KP3 := Lib.hid (Blk.new w #[.bool false, .slice none 0 0, .slice none 0 0] 25)
  have hz : (b == 0) = false := by rw [beq_eq_false_iff_ne]; exact hb0
  have HT := Lib.hid (hT.below hbb)
  clear hT
  obtain ⟨s, hs⟩ : ∃ s, sg a = s := ⟨_, rfl⟩
  obtain ⟨t, ht⟩ : ∃ t, sg b = t := ⟨_, rfl⟩
  have CA : Hid (∀ w, Calls Tryz.prog 90 #[.int .i64 a] w fun e w' => e = .returned (.int .i64 s) ∧ w = w') := Lib.hid fun w => by rw [← hs]; exact signOfI a w
  have CB : Hid (∀ w, Calls Tryz.prog 90 #[.int .i64 b] w fun e w' => e = .returned (.int .i64 t) ∧ w = w') := Lib.hid fun w => by rw [← ht]; exact signOfI b w
  have CT' := signTimes s t (hs ▸ sg_range a) (ht ▸ sg_range b) HT.out
  have EQ' := sg_ofq a b hb0
  rw [hs, ht] at EQ'
  obtain ⟨r, hr⟩ : ∃ r, (s - 1) * (t - 1) + 1 = r := ⟨_, rfl⟩
  rw [hr] at CT' EQ'
  have CT := Lib.hid CT'
  have EQ := Lib.hid EQ'
  have HB0 : Hid (b.natAbs ≠ 0) := Lib.hid (by omega)
  have hla := ha.out
  have hlb := hb.out
  have CM : Hid (∀ w, Calls Tryz.prog 92 #[.int .i64 a] w fun e w' => ∃ v, e = .returned v ∧ Nr w' a.natAbs v ∧ Below w.heap.size w w') := Lib.hid fun w => magnitudeN a hla.1 hla.2 w
  have CN : Hid (∀ w, Calls Tryz.prog 92 #[.int .i64 b] w fun e w' => ∃ v, e = .returned v ∧ Nr w' b.natAbs v ∧ Below w.heap.size w w') := Lib.hid fun w => magnitudeN b hlb.1 hlb.2 w
  clear hbb hb0 CT' EQ' hr hs ht hla hlb
  go_enter Tryz.func18, Tryz.ntmps18
  go_wp2_with fail
  refine (CA.out _).mono ?_
  rintro _ _ ⟨rfl, rfl⟩
  clear CA
  go_wp2_with fail
  refine (CB.out _).mono ?_
  rintro _ _ ⟨rfl, rfl⟩
  clear CB
  go_wp2_with fail
  refine CT.out.mono ?_
  rintro _ _ ⟨rfl, rfl⟩
  clear CT
  go_wp2_with fail
  refine (CM.out _).mono ?_
  rintro _ w1 ⟨x, rfl, hx, hbx⟩
  obtain ⟨A1, n1, c1, rfl⟩ := hx.shape
  have HX := Lib.hid hx
  clear hx CM
  replace KP3 := Lib.hid (KP3.out.after hbx)
  replace HB := Lib.hid (HB.out.trans (hbx.mono HB.out.size))
  clear hbx
  go_wp2_with fail
  refine (CN.out _).mono ?_
  rintro _ w2 ⟨y, rfl, hy, hbx⟩
  obtain ⟨A2, n2, c2, rfl⟩ := hy.shape
  replace HX := Lib.hid (HX.out.below hbx)
  have HY := Lib.hid hy
  clear hy CN
  replace KP3 := Lib.hid (KP3.out.after hbx)
  replace HB := Lib.hid (HB.out.trans (hbx.mono HB.out.size))
  clear hbx
  have C4' := reducedQ (z := sn (decide (a < 0) != decide (b < 0)) a.natAbs) (Fr.mk HX.out HY.out) (sn_abs _ _) HB0.out (lt_NL (abs_nl ha.out) (by omega)) (lt_NL (abs_nl hb.out) (by omega))
  rw [EQ.out, show mkRat (sn (decide (a < 0) != decide (b < 0)) a.natAbs) b.natAbs = ofq a b from rfl] at C4'
  have C4 := Lib.hid C4'
  clear C4' HX HY
  go_wp2_with fail
  refine (C4.out).mono ?_
  rintro _ w8 ⟨x, rfl, hx, hb⟩
  obtain ⟨bL, AL, nL, cL, AL', nL', cL', rfl, _, _, _⟩ := hx.get
  replace KP3 := Lib.hid (KP3.out.after hb)
  replace HB := Lib.hid (HB.out.trans (hb.mono HB.out.size))
  have HXL := Lib.hid hx
  clear hx hb
  have zx : w.heap.size < w8.heap.size := KP3.out.lt
  have x0 := KP3.out.cell (i := 0) rfl
  have x1 := KP3.out.cell (i := 1) rfl
  have x2 := KP3.out.cell (i := 2) rfl
  have xf := KP3.out.free
  go_wp2_with fail
  refine bodyPost_ret (results_row_tmp (p := 4) (ty := 25) rfl _ _ w.heap.size 25 _ _ _ rfl KP3.out.set.set.set Tryz.underlying25 rfl (by kernel_rfl)) rfl ?_
  obtain ⟨g1, g2, g3⟩ := HXL.out.inv
  exact ⟨_, rfl, Rq.mk g3 rfl rfl (g1.put3 KP3.out (hnoR _ _ _ _ _ _ _)) (g2.put3 KP3.out (hnoR _ _ _ _ _ _ _)), ((HB.out.setCell (Nat.le_refl _) _).setCell (Nat.le_refl _) _).setCell (Nat.le_refl _) _⟩

set_option maxRecDepth 100000 in
set_option maxHeartbeats 8000000 in
theorem ratMake_bad1 {w : World} {A A' : Option Addr} {n c m c' : Nat} {f g : Nat → Nat} (neg : Bool) (hA : Rs w w.heap.size A n c f) (hB : Rs w w.heap.size A' m c' g) (h1 : chk n f ≠ 0) :
    Calls Tryz.prog 19 #[.bool neg, .slice A n c, .slice A' m c'] w fun e w' => e = .returned (.tuple #[zeroRat, .int .i64 (chk n f)]) ∧ Below w.heap.size w w' := by
  have hbb := below1 w (.cells #[.bool false, .slice none 0 0, .slice none 0 0] 25)
  have HB := Lib.hid hbb
  have KP3 := Lib.hid (Blk.new w #[.bool false, .slice none 0 0, .slice none 0 0] 25)
  have c1 := check_any A n c f _ _ ((hA.below hbb).more hbb.size)
  have c2 := check_any A' m c' g _ _ ((hB.below hbb).more hbb.size)
  have x1 : (chk n f != 0) = true := by rw [bne_iff_ne]; exact h1
  generalize chk n f = er at *
  have C1 := Lib.hid c1
  clear c1 c2 hbb hA hB h1
  go_enter Tryz.func19, Tryz.ntmps19
  go_wp2_with fail
  refine C1.out.mono ?_
  rintro _ _ ⟨rfl, rfl⟩
  clear C1
  go_wp2_with fail
  refine bodyPost_ret (results_row_tmp (p := 6) (ty := 25) rfl _ _ w.heap.size 25 _ _ _ rfl KP3.out Tryz.underlying25 rfl (by kernel_rfl)) rfl ?_
  exact ⟨rfl, HB.out⟩

set_option maxRecDepth 100000 in
set_option maxHeartbeats 8000000 in
theorem ratMake_bad2 {w : World} {A A' : Option Addr} {n c m c' : Nat} {f g : Nat → Nat} (neg : Bool) (hA : Rs w w.heap.size A n c f) (hB : Rs w w.heap.size A' m c' g) (h1 : chk n f = 0) (h2 : chk m g ≠ 0) :
    Calls Tryz.prog 19 #[.bool neg, .slice A n c, .slice A' m c'] w fun e w' => e = .returned (.tuple #[zeroRat, .int .i64 (chk m g)]) ∧ Below w.heap.size w w' := by
  have hbb := below1 w (.cells #[.bool false, .slice none 0 0, .slice none 0 0] 25)
  have HB := Lib.hid hbb
  have KP3 := Lib.hid (Blk.new w #[.bool false, .slice none 0 0, .slice none 0 0] 25)
  have c1 := check_any A n c f _ _ ((hA.below hbb).more hbb.size)
  have c2 := check_any A' m c' g _ _ ((hB.below hbb).more hbb.size)
  rw [h1] at c1
  have x1 : (chk m g != 0) = true := by rw [bne_iff_ne]; exact h2
  generalize chk m g = er at *
  have C1 := Lib.hid c1
  have C2 := Lib.hid c2
  clear c1 c2 hbb hA hB h1 h2
  go_enter Tryz.func19, Tryz.ntmps19
  go_wp2_with fail
  refine C1.out.mono ?_
  rintro _ _ ⟨rfl, rfl⟩
  clear C1
  go_wp2_with fail
  refine C2.out.mono ?_
  rintro _ _ ⟨rfl, rfl⟩
  clear C2
  go_wp2_with fail
  refine bodyPost_ret (results_row_tmp (p := 6) (ty := 25) rfl _ _ w.heap.size 25 _ _ _ rfl KP3.out Tryz.underlying25 rfl (by kernel_rfl)) rfl ?_
  exact ⟨rfl, HB.out⟩

set_option maxRecDepth 100000 in
set_option maxHeartbeats 8000000 in
theorem ratMake_bad3 {w : World} {A A' : Option Addr} {n c m c' : Nat} {f g : Nat → Nat} (neg : Bool) (hA : Rs w w.heap.size A n c f) (hB : Rs w w.heap.size A' m c' g) (h1 : chk n f = 0) (h2 : chk m g = 0) (h3 : m = 0) :
    Calls Tryz.prog 19 #[.bool neg, .slice A n c, .slice A' m c'] w fun e w' => e = .returned (.tuple #[zeroRat, .int .i64 (6)]) ∧ Below w.heap.size w w' := by
  have hbb := below1 w (.cells #[.bool false, .slice none 0 0, .slice none 0 0] 25)
  have HB := Lib.hid hbb
  have KP3 := Lib.hid (Blk.new w #[.bool false, .slice none 0 0, .slice none 0 0] 25)
  have c1 := check_any A n c f _ _ ((hA.below hbb).more hbb.size)
  have c2 := check_any A' m c' g _ _ ((hB.below hbb).more hbb.size)
  rw [h1] at c1
  rw [h2] at c2
  subst h3
  have C1 := Lib.hid c1
  have C2 := Lib.hid c2
  clear c1 c2 hbb hA hB h1 h2
  go_enter Tryz.func19, Tryz.ntmps19
  go_wp2_with fail
  refine C1.out.mono ?_
  rintro _ _ ⟨rfl, rfl⟩
  clear C1
  go_wp2_with fail
  refine C2.out.mono ?_
  rintro _ _ ⟨rfl, rfl⟩
  clear C2
  go_wp2_with fail
  refine bodyPost_ret (results_row_tmp (p := 6) (ty := 25) rfl _ _ w.heap.size 25 _ _ _ rfl KP3.out Tryz.underlying25 rfl (by kernel_rfl)) rfl ?_
  exact ⟨rfl, HB.out⟩

theorem ratMake_bad {w : World} {A A' : Option Addr} {n c m c' : Nat} {f g : Nat → Nat} (neg : Bool) (hA : Rs w w.heap.size A n c f) (hB : Rs w w.heap.size A' m c' g) (h0 : chkP n f m g ≠ 0) :
    Calls Tryz.prog 19 #[.bool neg, .slice A n c, .slice A' m c'] w fun e w' => e = .returned (.tuple #[zeroRat, .int .i64 (chkP n f m g)]) ∧ Below w.heap.size w w' := by
  by_cases h1 : chk n f = 0
  · by_cases h2 : chk m g = 0
    · by_cases h3 : m = 0
      · rw [show chkP n f m g = 6 by unfold chkP; rw [if_pos h1, if_pos h2, if_pos h3]]
        exact ratMake_bad3 neg hA hB h1 h2 h3
      · exact absurd (by unfold chkP; rw [if_pos h1, if_pos h2, if_neg h3]) h0
    · rw [show chkP n f m g = chk m g by unfold chkP; rw [if_pos h1, if_neg h2]]
      exact ratMake_bad2 neg hA hB h1 h2
  · rw [show chkP n f m g = chk n f by unfold chkP; rw [if_neg h1]]
    exact ratMake_bad1 neg hA hB h1

end Go.Proofs.YtbjaolmlnkliiaaGreatDoor

/- The contracts of the reference's functions on rational numbers. Conditions as premises: the numbers read, and are short enough. -/
namespace Go.Proofs.YtbjaolmlnkliiaaGreatDoor
open Go.RowKit Go.Shelf
attribute [local go_sem ↓] Go.wp_at_zero Go.wp_at_succ


/-- the error of a quotient of ints -/
def ofE (b : Int) : Int := if b = 0 then 6 else 0
/-- what a scaling answers -/
def scV (er : Int) (q : Rat) : Value := if er = 0 then intW q.floor else .tuple #[.int .i64 0, .int .i64 er]
theorem scV_get (er : Int) (q : Rat) : ∃ a b, scV er q = .tuple #[.int .i64 a, .int .i64 b] := by
  unfold scV; split
  · exact intW_get _
  · exact ⟨_, _, rfl⟩
theorem nr_of_chk {w : World} {A : Option Addr} {n c : Nat} {f : Nat → Nat} (h : Rs w w.heap.size A n c f) (e : chk n f = 0) : Nr w (nv f n) (.slice A n c) ∧ nv f n < LB ^ NL := by
  obtain ⟨hn, vf⟩ := chk_zero e
  exact ⟨⟨_, _, _, _, rfl, h, ⟨vf, rfl⟩⟩, lt_NL vf.lt hn⟩

theorem ratOfO {w : World} (a b : Int) (ha : Hid (I64 a)) (hb : Hid (I64 b)) (hT : Tabs w) :
    Calls Tryz.prog 18 #[.int .i64 a, .int .i64 b] w fun e w' => ∃ x, e = .returned (.tuple #[x, .int .i64 (ofE b)]) ∧ RqO w' (ofE b) (ofq a b) x ∧ Below w.heap.size w w' := by
  by_cases h : b = 0
  · subst h
    refine (ratOf_zero a w).mono ?_
    rintro e w' ⟨he', hb⟩
    exact ⟨zeroRat, he', ⟨fun c => absurd (show (6 : Int) = 0 from c) (by decide), fun _ => rfl⟩, hb⟩
  · have hd : ofE b = 0 := by unfold ofE; rw [if_neg h]
    refine (ratOfOk a b ha hb h hT).mono ?_
    rintro e w' ⟨x, he', hx, hb⟩
    exact ⟨x, by rw [hd]; exact he', ⟨fun _ => hx, fun c => absurd hd c⟩, hb⟩

theorem ratMakeO {w : World} {neg : Bool} {A A' : Option Addr} {n c m c' : Nat} {f g : Nat → Nat} (h : Raw w neg A n c f A' m c' g) :
    Calls Tryz.prog 19 #[.bool neg, .slice A n c, .slice A' m c'] w fun e w' => ∃ x, e = .returned (.tuple #[x, .int .i64 (chkP n f m g)]) ∧ RqO w' (chkP n f m g) (rawq neg n f m g) x ∧ Below w.heap.size w w' := by
  by_cases e : chkP n f m g = 0
  · obtain ⟨e1, e2, e3, _⟩ := chkP_eq (neg := neg) e
    obtain ⟨k1, l1⟩ := nr_of_chk h.num e1
    obtain ⟨k2, l2⟩ := nr_of_chk h.den e2
    have hD : nv g m ≠ 0 := fun c => e3 ((chk_zero e2).2.zero_iff.1 c)
    refine (ratMakeQ neg k1 k2 l1 l2 hD).mono ?_
    rintro e' w' ⟨x, he', hx, hb⟩
    exact ⟨x, by rw [e]; exact he', ⟨fun _ => hx, fun c => absurd e c⟩, hb⟩
  · refine (ratMake_bad neg h.num h.den e).mono ?_
    rintro e' w' ⟨he', hb⟩
    exact ⟨zeroRat, he', ⟨fun c => absurd c e, fun _ => rfl⟩, hb⟩

theorem ratFloorO {w : World} {b1 : Bool} {A1 A1' : Option Addr} {n1 c1 n1' c1' : Nat} {f1 g1 : Nat → Nat} (h : Raw w b1 A1 n1 c1 f1 A1' n1' c1' g1) (l : ¬ Lg n1 n1') :
    Calls Tryz.prog 25 #[.agg #[.bool b1, .slice A1 n1 c1, .slice A1' n1' c1']] w fun e w' => ∃ x, e = .returned (.tuple #[x, .int .i64 (chkR b1 n1 f1 n1' g1)]) ∧ RqO w' (chkR b1 n1 f1 n1' g1) ((rawq b1 n1 f1 n1' g1).floor : Rat) x ∧ Below w.heap.size w w' := by
  by_cases e : chkR b1 n1 f1 n1' g1 = 0
  · obtain ⟨ra, sa⟩ := h.q30 e l
    refine (ratFloorQ ra (sa.up (by omega))).mono ?_
    rintro e' w' ⟨x, he', hx, hb⟩
    exact ⟨x, by rw [e]; exact he', ⟨fun _ => hx, fun c => absurd e c⟩, hb⟩
  · refine (ratFloor_bad h e).mono ?_
    rintro e' w' ⟨he', hb⟩
    exact ⟨zeroRat, he', ⟨fun c => absurd c e, fun _ => rfl⟩, hb⟩

theorem ratCeilO {w : World} {b1 : Bool} {A1 A1' : Option Addr} {n1 c1 n1' c1' : Nat} {f1 g1 : Nat → Nat} (h : Raw w b1 A1 n1 c1 f1 A1' n1' c1' g1) (l : ¬ Lg n1 n1') :
    Calls Tryz.prog 26 #[.agg #[.bool b1, .slice A1 n1 c1, .slice A1' n1' c1']] w fun e w' => ∃ x, e = .returned (.tuple #[x, .int .i64 (chkR b1 n1 f1 n1' g1)]) ∧ RqO w' (chkR b1 n1 f1 n1' g1) ((rawq b1 n1 f1 n1' g1).ceil : Rat) x ∧ Below w.heap.size w w' := by
  by_cases e : chkR b1 n1 f1 n1' g1 = 0
  · obtain ⟨ra, sa⟩ := h.q30 e l
    refine (ratCeilQ ra (sa.up (by omega))).mono ?_
    rintro e' w' ⟨x, he', hx, hb⟩
    exact ⟨x, by rw [e]; exact he', ⟨fun _ => hx, fun c => absurd e c⟩, hb⟩
  · refine (ratCeil_bad h e).mono ?_
    rintro e' w' ⟨he', hb⟩
    exact ⟨zeroRat, he', ⟨fun c => absurd c e, fun _ => rfl⟩, hb⟩

theorem ratScaleO {w : World} {b1 : Bool} {A1 A1' : Option Addr} {n1 c1 n1' c1' : Nat} {f1 g1 : Nat → Nat} (n : Int) (hn : Hid (I64 n)) (h : Raw w b1 A1 n1 c1 f1 A1' n1' c1' g1) (l : ¬ Lg n1 n1') (hT : Tabs w) :
    Calls Tryz.prog 27 #[.agg #[.bool b1, .slice A1 n1 c1, .slice A1' n1' c1'], .int .i64 n] w fun e w' => e = .returned (scV (chkR b1 n1 f1 n1' g1) (rawq b1 n1 f1 n1' g1 * (n : Rat))) ∧ Below w.heap.size w w' := by
  unfold scV
  by_cases e : chkR b1 n1 f1 n1' g1 = 0
  · obtain ⟨ra, sa⟩ := h.q30 e l
    rw [if_pos e]
    exact ratScaleQ n ra hT (by omega) sa hn.out.1 hn.out.2
  · rw [if_neg e]
    exact ratScale_bad n h e

end Go.Proofs.YtbjaolmlnkliiaaGreatDoor

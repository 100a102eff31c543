/- The contracts of the functions under the laws of package rat: WholeA, WholeB, WholeC, WholeD, WholeWalk, joined into one file. -/
import Derived.Test.YtmcacofpnnaplaaGreatDoorSimAll
import Derived.Deep.RegionHeld3
import Derived.Deep.DrawnRows
import Derived.Deep.DeepCutAuto
import Derived.Test.YtmcacofpnnaplaaGreatDoorRatFour
import Derived.Test.YtmcacofpnnaplaaGreatDoorRatThree
import Derived.Test.YtmcacofpnnaplaaGreatDoorRefTwo
import Derived.Test.YtmcacofpnnaplaaGreatDoorRatTwo
import Derived.Test.YtmcacofpnnaplaaGreatDoorSumAll
/- The contracts of the reference's functions on rational numbers. Conditions as premises: the numbers read, and are short enough. -/
namespace Go.Proofs.YtmcacofpnnaplaaGreatDoor
open Go.RowKit Go.Shelf
attribute [local go_sem ↓] Go.wp_at_zero Go.wp_at_succ


theorem tm_abs (x : Int) : max (x.tmod 1000000000) (-(x.tmod 1000000000)) = ((x.natAbs % 1000000000 : Nat) : Int) := by
  have h := Int.natAbs_tmod x 1000000000
  generalize x.tmod 1000000000 = t at *
  rw [show (1000000000 : Int).natAbs = 1000000000 from rfl] at h
  omega
theorem td_abs (x : Int) : (x.tdiv 1000000000).natAbs = x.natAbs / 1000000000 := by
  have h := Int.natAbs_tdiv x 1000000000
  rw [show (1000000000 : Int).natAbs = 1000000000 from rfl] at h
  exact h
theorem step_dig {x : Int} {N k : Nat} (h : x.natAbs = N / LB ^ k) : max (x.tmod 1000000000) (-(x.tmod 1000000000)) = iv (dig N k) := by
  rw [tm_abs, h, iv_eq]; unfold dig; rw [LB_eq]
theorem step_div {x : Int} {N k : Nat} (h : x.natAbs = N / LB ^ k) : (x.tdiv 1000000000).natAbs = N / LB ^ (k + 1) := by
  rw [td_abs, h, Nat.pow_succ, ← Nat.div_div_eq_div_mul, show LB = 1000000000 from LB_eq]

/-- an int of 64 bits, hidden -/
def I64 (z : Int) : Prop := -9223372036854775808 ≤ z ∧ z ≤ 9223372036854775807

set_option maxRecDepth 100000 in
set_option maxHeartbeats 1600000 in
theorem refSizeI_any (z : Int) (hz : Hid (I64 z)) (w : World) :
    Calls Tryz.prog 128 #[.int .i64 z] w fun e w' => ∃ v, e = .returned v ∧ Made w z.natAbs v w' := by
  obtain ⟨i0, hi, hz0, hz1, hz2⟩ := info_parts info32
  have HS : Hid (z.natAbs = z.natAbs / LB ^ 0) := Lib.hid (by simp)
  have HN : Big (z.natAbs ≤ 9223372036854775808) := Big.mk (by have := hz.out; unfold I64 at this; omega)
  generalize hgN : z.natAbs = N at *
  have HGN := Lib.hid hgN
  clear hgN
  go_enter Tryz.func128, Tryz.ntmps128
  go_wp2
  go_loopw [0, 3] (fun u v wr => ∃ (k : Nat) (x : Int), k ≤ 3 ∧ u = .int .i64 x ∧ Hid (x.natAbs = N / LB ^ k) ∧ Hid (I64 x) ∧ Own wr w.heap.size v k (dig N) ∧ Below w.heap.size w wr ∧ Hid (∀ j, j < k → N / LB ^ j ≠ 0)) (fun u _ _ => (intOf u).natAbs)
  case atStart => exact ⟨0, z, by omega, rfl, Lib.hid (HGN.out.trans HS.out), hz, Own.nil _ _ _, Below.refl _ _, fun j hj => by omega⟩
  case round =>
    obtain ⟨k, x, hk, rfl, hx, hr, hown, hbel, hpre⟩ := hrel
    by_cases hq : x = 0
    · subst hq
      have HQ : Hid (N / LB ^ k = 0) := Lib.hid (by have := hx.out; simpa using this.symm)
      clear hx hr
      go_wp2
      go_ret
      exact ⟨_, rfl, made_of hown hbel HQ.out hpre.out⟩
    · have hq' : N / LB ^ k ≠ 0 := by rw [← hx.out]; omega
      have hk3 := div_lt3 (Nat.lt_of_le_of_lt HN.out (by omega)) hq'
      have HQ := Lib.hid hq'
      have hne : (x != 0) = true := by rw [bne_iff_ne]; exact hq
      have hnq : (x == 0) = false := by rw [beq_eq_false_iff_ne]; exact hq
      have hab : Hid ((x.tdiv 1000000000).natAbs < x.natAbs) := Lib.hid (by rw [td_abs]; omega)
      have hsd := Lib.hid (step_div hx.out)
      have hdg := step_dig hx.out
      have h32 := dig_lt N k
      have hy0 := iv_nonneg (dig N k)
      have hy1 : iv (dig N k) < 1000000000 := iv_limb h32
      have hr1 : -9223372036854775808 ≤ x ∧ x ≤ 9223372036854775807 := hr.out
      obtain ⟨hx0, hx1⟩ := hr1
      have ht := td_abs x
      generalize hgy : iv (dig N k) = y at *
      have HGY := Lib.hid hgy
      generalize hgt : x.tmod 1000000000 = t at *
      generalize hgd : x.tdiv 1000000000 = d at *
      have hd0 : -9223372036854775808 ≤ d := by omega
      have hd1 : d ≤ 9223372036854775807 := by omega
      have ht0 : -9223372036854775807 ≤ t := by omega
      have ht1 : t ≤ 9223372036854775807 := by omega
      have HRD : Hid (I64 d) := Lib.hid ⟨hd0, hd1⟩
      have HQX := Lib.hid hq
      have hsz := hbel.size
      clear hq' ht hq hr hx h32 hgy
      go_wp2_with (at_builtin; refine wpList_append_own _ rfl (.tmp 9) (.tmp 15) 23 rfl w.heap.size 48 i0 (.int .u32 0) 1 4 Tryz.underlying23 hi hz0 hz1 hz2 rfl (by decide) _ _ _ rfl (World.ownsRow.alloc hown _) ⟨wr.heap.size, 0, none⟩ 1 1 [.int .u32 y] rfl rfl (cell_one_new _ _ _) ?c2 ?c3 ?c4 ?c5 ?_)
      case c2 => intro u hu; simp at hu; subst hu; rfl
      case c3 => unfold maxLen; omega
      case c4 => omega
      case c5 => simp; omega
      intro v' w1 hown' hgrow _
      have hb1 := snoc_below hown hbel (Nat.le_refl _) hsz hgrow
      rw [← HGY.out] at hown'
      have hown1 := Own.snoc hown' rfl
      clear hown' hgrow hown hbel
      go_wp2
      go_roundw
      case rel => exact ⟨k + 1, d, by omega, rfl, hsd, HRD, hown1, hb1, fun j hj => by
        by_cases e : j = k
        · subst e; exact HQ.out
        · exact hpre.out j (by omega)⟩
      case measure => first | exact hab.out | (simp only [intOf]; exact hab.out)
theorem abs_nl {z : Int} (h : I64 z) : z.natAbs < LB ^ 3 := by
  have h1 : LB ^ 3 = 1000000000000000000000000000 := by rw [LB_eq]
  unfold I64 at h
  omega
theorem refSizeI (z : Int) (hz : Hid (I64 z)) (w : World) :
    Calls Tryz.prog 128 #[.int .i64 z] w fun e w' => ∃ v, e = .returned v ∧ Nr w' z.natAbs v ∧ Below w.heap.size w w' := by
  refine (refSizeI_any z hz w).mono ?_
  rintro e w' ⟨v, he, hm⟩
  exact ⟨v, he, hm.nr⟩
theorem sn_int (z : Int) : sn (decide (z < 0)) z.natAbs = z := by
  unfold sn
  by_cases h : z < 0
  · rw [decide_eq_true h]; simp; omega
  · rw [decide_eq_false h]; simp; omega
/-- the quotient of two ints -/
def ofq (a b : Int) : Rat := mkRat (sn (decide (a < 0) != decide (b < 0)) a.natAbs) b.natAbs

set_option maxRecDepth 100000 in
set_option maxHeartbeats 8000000 in
theorem refWholeI (z : Int) (hz : Hid (I64 z)) (w : World) :
    Calls Tryz.prog 91 #[.int .i64 z] w fun e w' => ∃ v, e = .returned v ∧ Rq w' (z : Rat) v ∧ Below w.heap.size w w' := by
  have hb0 := below1 w (.cells #[.bool false, .slice none 0 0, .slice none 0 0] 25)
  have HB := Lib.hid hb0
  have X := Lib.hid (Blk.new w #[.bool false, .slice none 0 0, .slice none 0 0] 25)
  have C1 := Lib.hid (refSizeI z hz (w.alloc (.cells #[.bool false, .slice none 0 0, .slice none 0 0] 25)))
  have hL : Hid (z.natAbs < LB ^ NL) := Lib.hid (lt_NL (abs_nl hz.out) (by omega))
  have EQ : Hid (mkRat (sn (decide (z < 0)) z.natAbs) 1 = (z : Rat)) := Lib.hid (by rw [sn_int, Rat.mkRat_one])
  obtain ⟨ng, hng⟩ : ∃ b, decide (z < 0) = b := ⟨_, rfl⟩
  rw [hng] at EQ
  clear hb0
  go_enter Tryz.func91, Tryz.ntmps91
  go_wp2_with fail
  refine C1.out.mono ?_
  rintro _ w1 ⟨y, rfl, hy, hb⟩
  obtain ⟨A3, n3, c3, rfl⟩ := hy.shape
  have hba := below1 w1 (.cells #[.int .u32 1] 48)
  have C2 := Lib.hid (refLowestQ ng (hy.below hba) (nr_one w1) hL.out one_lt.out (by decide))
  replace HB := Lib.hid ((HB.out.trans (hb.mono HB.out.size)).trans (hba.mono (HB.out.trans (hb.mono HB.out.size)).size))
  replace X := Lib.hid ((X.out.after hb).after hba)
  clear hb hy hba C1
  go_wp2_with fail
  refine C2.out.mono ?_
  rintro _ w2 ⟨y, rfl, hy, hb⟩
  obtain ⟨bL, AL, nL, cL, AL', nL', cL', rfl, _, _, _⟩ := hy.get
  replace HB := Lib.hid (HB.out.trans (hb.mono HB.out.size))
  replace X := Lib.hid (X.out.after hb)
  have HXL := Lib.hid (hy.cast EQ.out)
  have zx : w.heap.size < w2.heap.size := X.out.lt
  have d0 := X.out.cell (i := 0) rfl
  have d1 := X.out.cell (i := 1) rfl
  have d2 := X.out.cell (i := 2) rfl
  have ff := X.out.free
  clear hy hb C2
  go_wp2_with fail
  refine bodyPost_ret (results_cell_row (p := 2) (ty := 25) rfl _ _ w.heap.size 25 _ _ _ rfl X.out.set.set.set Tryz.underlying25 rfl (by kernel_rfl)) rfl ?_
  obtain ⟨g1, g2, g3⟩ := HXL.out.inv
  exact ⟨_, rfl, Rq.mk g3 rfl rfl (g1.put3 X.out (hnoR _ _ _ _ _ _ _)) (g2.put3 X.out (hnoR _ _ _ _ _ _ _)), ((HB.out.setCell (Nat.le_refl _) _).setCell (Nat.le_refl _) _).setCell (Nat.le_refl _) _⟩

set_option maxRecDepth 100000 in
set_option maxHeartbeats 8000000 in
theorem refRatioI (a b : Int) (ha : Hid (I64 a)) (hb : Hid (I64 b)) (hb0 : b ≠ 0) (w : World) :
    Calls Tryz.prog 79 #[.int .i64 a, .int .i64 b] w fun e w' => ∃ v, e = .returned v ∧ Rq w' (ofq a b) v ∧ Below w.heap.size w w' := by
  have hbb := below1 w (.cells #[.bool false, .slice none 0 0, .slice none 0 0] 25)
  have HB := Lib.hid hbb
  have X := Lib.hid (Blk.new w #[.bool false, .slice none 0 0, .slice none 0 0] 25)
  have C1 := Lib.hid (refSizeI a ha (w.alloc (.cells #[.bool false, .slice none 0 0, .slice none 0 0] 25)))
  have hL : Hid (a.natAbs < LB ^ NL) := Lib.hid (lt_NL (abs_nl ha.out) (by omega))
  have hM : Hid (b.natAbs < LB ^ NL) := Lib.hid (lt_NL (abs_nl hb.out) (by omega))
  have hZ : Hid (b.natAbs ≠ 0) := Lib.hid (by omega)
  have EQ : Hid (mkRat (sn (decide (a < 0) != decide (b < 0)) a.natAbs) b.natAbs = ofq a b) := Lib.hid rfl
  obtain ⟨na, hna⟩ : ∃ x, decide (a < 0) = x := ⟨_, rfl⟩
  obtain ⟨nb, hnb⟩ : ∃ x, decide (b < 0) = x := ⟨_, rfl⟩
  rw [hna, hnb] at EQ
  obtain ⟨ng, hng⟩ : ∃ x, (!(na == nb)) = x := ⟨_, rfl⟩
  rw [show (na != nb) = ng from hng] at EQ
  clear hbb hb0
  go_enter Tryz.func79, Tryz.ntmps79
  go_wp2_with fail
  refine C1.out.mono ?_
  rintro _ w1 ⟨y, rfl, hy, hbx⟩
  obtain ⟨A3, n3, c3, rfl⟩ := hy.shape
  have Q := Lib.hid hy
  have C3 := Lib.hid (refSizeI b hb w1)
  replace HB := Lib.hid (HB.out.trans (hbx.mono HB.out.size))
  replace X := Lib.hid (X.out.after hbx)
  clear hbx hy C1
  go_wp2_with fail
  refine C3.out.mono ?_
  rintro _ w3 ⟨y, rfl, hy, hbx⟩
  obtain ⟨A4, n4, c4, rfl⟩ := hy.shape
  have C2 := Lib.hid (refLowestQ ng (Q.out.below hbx) hy hL.out hM.out hZ.out)
  replace HB := Lib.hid (HB.out.trans (hbx.mono HB.out.size))
  replace X := Lib.hid (X.out.after hbx)
  clear hbx hy C3 Q
  go_wp2_with fail
  refine C2.out.mono ?_
  rintro _ w2 ⟨y, rfl, hy, hbx⟩
  obtain ⟨bL, AL, nL, cL, AL', nL', cL', rfl, _, _, _⟩ := hy.get
  replace HB := Lib.hid (HB.out.trans (hbx.mono HB.out.size))
  replace X := Lib.hid (X.out.after hbx)
  have HXL := Lib.hid (hy.cast EQ.out)
  have zx : w.heap.size < w2.heap.size := X.out.lt
  have d0 := X.out.cell (i := 0) rfl
  have d1 := X.out.cell (i := 1) rfl
  have d2 := X.out.cell (i := 2) rfl
  have ff := X.out.free
  clear hy hbx C2
  go_wp2_with fail
  refine bodyPost_ret (results_cell_row (p := 4) (ty := 25) rfl _ _ w.heap.size 25 _ _ _ rfl X.out.set.set.set Tryz.underlying25 rfl (by kernel_rfl)) rfl ?_
  obtain ⟨g1, g2, g3⟩ := HXL.out.inv
  exact ⟨_, rfl, Rq.mk g3 rfl rfl (g1.put3 X.out (hnoR _ _ _ _ _ _ _)) (g2.put3 X.out (hnoR _ _ _ _ _ _ _)), ((HB.out.setCell (Nat.le_refl _) _).setCell (Nat.le_refl _) _).setCell (Nat.le_refl _) _⟩

@[irreducible] def topI : Nat := 9223372036854775808
theorem topI_eq : topI = 9223372036854775808 := by unfold topI; rfl
theorem l3_top : nv (l3 854775808 223372036 9) 3 = topI := by
  rw [topI_eq]; simp only [nv, l3, LB_eq]; rfl
theorem l3_topval : Val 3 (l3 854775808 223372036 9) := by
  refine ⟨fun j _ => ?_, fun _ => by unfold l3; decide⟩
  rw [LB_eq]
  unfold l3
  split
  · decide
  · split <;> decide
theorem l3_topcells : (#[Value.int .u32 (iv 854775808), .int .u32 (iv 223372036), .int .u32 (iv 9)] : Array Value) = #[.int .u32 854775808, .int .u32 223372036, .int .u32 9] := by
  rw [iv_eq, iv_eq, iv_eq]; rfl
theorem rs_top (w : World) : Rs (w.alloc (.cells #[.int .u32 854775808, .int .u32 223372036, .int .u32 9] 48)) (w.heap.size + 1) (some ⟨w.heap.size, 0, none⟩) 3 3 (l3 854775808 223372036 9) := by
  have h := rs_l3 w 854775808 223372036 9 (by omega) (by omega) (by omega)
  rw [l3_topcells] at h
  exact h
theorem hi_neg (f : Nat → Nat) (n k : Nat) (h : k < n) : -iv (hi f n (k + 1)) * 1000000000 - iv (f k) = -iv (hi f n k) := by
  have := hi_iv f n k h
  omega
theorem intW_over {z : Int} (h : topI < z.natAbs) : intW z = .tuple #[.int .i64 0, .int .i64 5] := by
  rw [topI_eq] at h; unfold intW; rw [if_neg (by omega)]
theorem intW_top {z : Int} (h : z = 9223372036854775808) : intW z = .tuple #[.int .i64 0, .int .i64 5] := by
  unfold intW; rw [if_neg (by omega)]
theorem intW_in {z : Int} (h : ¬ topI < z.natAbs) (h2 : z ≠ 9223372036854775808) : intW z = .tuple #[.int .i64 z, .int .i64 0] := by
  rw [topI_eq] at h; unfold intW; rw [if_pos (by omega)]

set_option maxRecDepth 100000 in
set_option maxHeartbeats 8000000 in
theorem refIntQ {w : World} {z : Int} {v : Value} (hq : Rq w (z : Rat) v) :
    Calls Tryz.prog 90 #[v] w fun e w' => e = .returned (intW z) ∧ Below w.heap.size w w' := by
  obtain ⟨b1, A1, n1, c1, A1', n1', c1', rfl, h1, h2, e1⟩ := hq.get
  rw [Rat.num_intCast] at h1 e1
  obtain ⟨A2, n2, c2, f, hv, hr, hd⟩ := h1
  cases hv
  have hb0 := below2 w (.cells #[.bool b1, .slice A1 n1 c1, .slice A1' n1' c1'] 25) (.cells #[.int .u32 854775808, .int .u32 223372036, .int .u32 9] 48)
  have k1 := (Blk.new w #[.bool b1, .slice A1 n1 c1, .slice A1' n1' c1'] 25).alloc (.cells #[.int .u32 854775808, .int .u32 223372036, .int .u32 9] 48)
  have hord := order_any A1 (some ⟨(w.alloc (.cells #[.bool b1, .slice A1 n1 c1, .slice A1' n1' c1'] 25)).heap.size, 0, none⟩) n1 c1 3 3 f (l3 854775808 223372036 9) _ _ ((w.alloc (.cells #[.bool b1, .slice A1 n1 c1, .slice A1' n1' c1'] 25)).alloc (.cells #[.int .u32 854775808, .int .u32 223372036, .int .u32 9] 48)) (hr.below hb0) (rs_top (w.alloc (.cells #[.bool b1, .slice A1 n1 c1, .slice A1' n1' c1'] 25))) hd.ok l3_topval
  rw [l3_top, hd.eq] at hord
  simp only [World.size_alloc] at hord
  have K1 := Lib.hid k1
  have HB := Lib.hid hb0
  have HR := Lib.hid (hr.below hb0)
  have HD := Lib.hid hd
  have hmax : n1 ≤ 9223372036854775807 := Nat.le_trans hr.cap hr.max
  clear hq h2 hr hd hb0 k1
  by_cases hover : topI < z.natAbs
  · have HW := Lib.hid (intW_over hover)
    have hpos := cn_pos hover
    generalize cn z.natAbs topI = cc at *
    have HC := Lib.hid hord
    clear hover hord hmax
    go_enter Tryz.func90, Tryz.ntmps90
    go_wp2_with fail
    refine HC.out.mono ?_
    rintro e w' ⟨rfl, d, rfl⟩
    go_wp2_with fail
    go_ret2
    exact ⟨by rw [HW.out]; rfl, HB.out.trans ((Qt.n1 _ d).below.mono HB.out.size)⟩
  · have HO := Big.mk hover
    have hpos := cn_le hover
    have hpos' : ¬ 0 < cn z.natAbs topI := by omega
    generalize cn z.natAbs topI = cc at *
    have HC := Lib.hid hord
    clear hover hord
    go_enter Tryz.func90, Tryz.ntmps90
    have HM := Big.mk hmax
    clear hmax
    go_wp2_with fail
    refine HC.out.mono ?_
    rintro e w' ⟨rfl, d, rfl⟩
    have hmax : (n1 : Int) ≤ 9223372036854775807 := by have := HM.out; omega
    have K2 := Lib.hid (K1.out.after (Qt.n1 _ d).below)
    have d0 := K2.out.cell (i := 0) rfl
    have d1 := K2.out.cell (i := 1) rfl
    have hblk := K2.out.lt
    have HB2 := Lib.hid (HB.out.trans ((Qt.n1 _ d).below.mono HB.out.size))
    have HR2 := Lib.hid (HR.out.below ((Qt.n1 _ d).below.mono HB.out.size))
    generalize World.drewN _ d = w1 at *
    clear HB HR K1
    go_wp2_with fail
    go_loop [4, 5] (fun x i => ∃ (k : Nat) (X : Int), k ≤ n1 ∧ i = .int .i64 ((k : Int) - 1) ∧ x = .int .i64 X ∧ Hid (X = -iv (hi f n1 k))) (fun _ i => (intOf i + 1).toNat)
    case atStart => exact ⟨n1, 0, by omega, rfl, rfl, Lib.hid (by rw [hi_top, iv_zero]; rfl)⟩
    case round =>
      obtain ⟨k, X, hk, rfl, rfl, hX⟩ := hrel
      by_cases hk0 : k = 0
      · subst hk0
        have hXz : Hid (X = -(z.natAbs : Int)) := Lib.hid (by rw [hX.out, hi_zero, HD.out.eq, iv_eq])
        have HO2 : Hid (¬ topI < z.natAbs) := Lib.hid HO.out
        clear hX HR2 HD hk
        rcases b1 with _ | _
        · have hzn : ¬ z < 0 := of_decide_eq_false e1.out.symm
          by_cases ht : z = 9223372036854775808
          · have HW := Lib.hid (intW_top ht)
            have hx : X = -9223372036854775808 := by rw [hXz.out, ht]; rfl
            subst hx
            have hw64 : wrap64 9223372036854775808 = -9223372036854775808 := by decide +kernel
            clear hzn ht hXz e1
            go_wp2_with fail
            go_ret2
            exact ⟨by rw [HW.out]; rfl, HB2.out⟩
          · have HW := Lib.hid (intW_in HO2.out ht)
            have h2 := HO2.out
            rw [topI_eq] at h2
            have h3 := hXz.out
            by_cases hx : X = 0
            · subst hx
              have HZ : Hid (z = 0) := Lib.hid (by omega)
              clear hzn ht hXz e1 h2 h3
              go_wp2_with fail
              go_ret2
              exact ⟨by rw [HW.out, HZ.out]; rfl, HB2.out⟩
            · have hx1 : -9223372036854775808 < X := by omega
              have hx2 : X < 0 := by omega
              have hne : (X == -X) = false := by rw [beq_eq_false_iff_ne]; omega
              have HZ : Hid (-X = z) := Lib.hid (by omega)
              clear hzn ht hXz e1 h2 h3 hx
              go_wp2_with fail
              go_ret2
              exact ⟨by rw [HW.out, ← HZ.out]; rfl, HB2.out⟩
        · have hzn : z < 0 := of_decide_eq_true e1.out.symm
          have HW := Lib.hid (intW_in HO2.out (by omega))
          have HZ : Hid (X = z) := Lib.hid (by rw [hXz.out]; omega)
          clear hzn hXz e1
          go_wp2_with fail
          go_ret2
          exact ⟨by rw [HW.out, ← HZ.out]; rfl, HB2.out⟩
      · obtain ⟨q, rfl⟩ : ∃ q, k = q + 1 := ⟨k - 1, by omega⟩
        rw [show (((q + 1 : Nat) : Int) - 1) = (q : Int) by omega]
        obtain ⟨bb, off, rfl, hbb, hc⟩ := HR2.out.cell (by omega)
        have hck := hc q (by omega)
        clear hc
        have hst := Lib.hid (hi_neg f n1 q (by omega))
        have hX0 : X ≤ 0 := by have := iv_nonneg (hi f n1 (q + 1)); rw [hX.out]; omega
        have hf0 := iv_nonneg (f q)
        have hf1 : iv (f q) < 4294967296 := iv_u32 (HR2.out.bd q (by omega))
        have hb1 : -9223372036854775808 ≤ X * 1000000000 - iv (f q) := by
          rw [hX.out, hst.out]
          have h1 := hi_le f n1 q (by omega)
          have h2 := HO.out
          rw [topI_eq, ← HD.out.eq] at h2
          rw [iv_eq]; omega
        have hb2 : -9223372036854775808 ≤ X * 1000000000 := by omega
        generalize hgy : iv (f q) = y at *
        have HGY := Lib.hid hgy
        clear hgy
        go_wp2
        go_round
        case rel => exact ⟨q, X * 1000000000 - y, by omega, rfl, rfl, Lib.hid (by rw [hX.out]; exact hst.out)⟩
        case measure => simp [intOf] <;> omega

end Go.Proofs.YtmcacofpnnaplaaGreatDoor

/- The contracts of the reference's functions on rational numbers. Conditions as premises: the numbers read, and are short enough. -/
namespace Go.Proofs.YtmcacofpnnaplaaGreatDoor
open Go.RowKit Go.Shelf
attribute [local go_sem ↓] Go.wp_at_zero Go.wp_at_succ


theorem Sz.ceil {k : Nat} {q : Rat} (h : Sz k q) (hk : 1 ≤ k) : Sz k (q.ceil : Rat) := by
  rw [Rat.ceil_eq_neg_floor_neg, Rat.intCast_neg]
  exact (h.neg.floor hk).neg

set_option maxRecDepth 100000 in
set_option maxHeartbeats 8000000 in
theorem refFloorOk {w : World} {i : Nat} {a : Rat} {v : Value} (ha : Rq w a v) (sa : Sz i a) (hi : 1 ≤ i ∧ i ≤ 1022) :
    Calls Tryz.prog 33 #[v] w fun e w' => ∃ t, e = .returned (.tuple #[t, .int .i64 0]) ∧ Rq w' (a.floor : Rat) t ∧ Below w.heap.size w w' := by
  obtain ⟨b1, A1, n1, c1, f1, A1', n1', c1', g1, rfl, hr, h0⟩ := ha.raw (lt_NL sa.1 (by omega)) (lt_NL sa.2 (by omega))
  have hbb := below2 w (.cells #[.bool b1, .slice A1 n1 c1, .slice A1' n1' c1'] 25) (.cells #[.bool false, .slice none 0 0, .slice none 0 0] 25)
  have k1 := (Blk.new w #[.bool b1, .slice A1 n1 c1, .slice A1' n1' c1'] 25).alloc (.cells #[.bool false, .slice none 0 0, .slice none 0 0] 25)
  have k3 := Blk.new (w.alloc (.cells #[.bool b1, .slice A1 n1 c1, .slice A1' n1' c1'] 25)) #[.bool false, .slice none 0 0, .slice none 0 0] 25
  simp only [World.size_alloc] at k3
  have hcc := refRatCheck_any (hr.below hbb)
  rw [h0] at hcc
  have C1 := Lib.hid hcc
  have HB := Lib.hid hbb
  have KP1 := Lib.hid k1
  have KP3 := Lib.hid k3
  have Ra := Lib.hid (ha.below hbb)
  have SA := Lib.hid sa
  have HI := Lib.hid hi
  clear ha hr h0 hcc hbb k1 k3 sa hi
  have d10 := KP1.out.cell (i := 0) rfl
  have d11 := KP1.out.cell (i := 1) rfl
  have d12 := KP1.out.cell (i := 2) rfl
  go_enter Tryz.func33, Tryz.ntmps33
  go_wp2_with fail
  refine (C1.out).mono ?_
  rintro _ w4 ⟨rfl, hb⟩
  clear d10 d11 d12 C1
  replace Ra := Lib.hid (Ra.out.below hb)
  replace KP1 := Lib.hid (KP1.out.after hb)
  replace KP3 := Lib.hid (KP3.out.after hb)
  replace HB := Lib.hid (HB.out.trans (hb.mono HB.out.size))
  clear hb
  have d10 := KP1.out.cell (i := 0) rfl
  have d11 := KP1.out.cell (i := 1) rfl
  have d12 := KP1.out.cell (i := 2) rfl
  go_wp2_with fail
  refine (refDownQ Ra.out SA.out (by have := HI.out; omega)).mono ?_
  rintro _ w6 ⟨x, rfl, hx, hb⟩
  replace KP3 := Lib.hid (KP3.out.after hb)
  replace HB := Lib.hid (HB.out.trans (hb.mono HB.out.size))
  have RX := Lib.hid hx
  clear hx hb d10 d11 d12
  go_wp2_with fail
  refine (refFitsQ RX.out (SA.out.floor HI.out.1) (by have := HI.out; omega)).mono ?_
  rintro _ w8 ⟨x, rfl, hx, hb⟩
  obtain ⟨bL, AL, nL, cL, AL', nL', cL', rfl, _, _, _⟩ := hx.get
  replace KP3 := Lib.hid (KP3.out.after hb)
  replace HB := Lib.hid (HB.out.trans (hb.mono HB.out.size))
  have HXL := Lib.hid hx
  clear hx hb
  have zx : (w.heap.size + 1) < w8.heap.size := KP3.out.lt
  have x0 := KP3.out.cell (i := 0) rfl
  have x1 := KP3.out.cell (i := 1) rfl
  have x2 := KP3.out.cell (i := 2) rfl
  have xf := KP3.out.free
  go_wp2_with fail
  refine bodyPost_ret (results_row_tmp (p := 2) (ty := 25) rfl _ _ (w.heap.size + 1) 25 _ _ _ rfl KP3.out.set.set.set Tryz.underlying25 rfl (by kernel_rfl)) rfl ?_
  obtain ⟨g1, g2, g3⟩ := HXL.out.inv
  exact ⟨_, rfl, Rq.mk g3 rfl rfl (g1.put3 KP3.out (hnoR _ _ _ _ _ _ _)) (g2.put3 KP3.out (hnoR _ _ _ _ _ _ _)), ((HB.out.setCell (by simp) _).setCell (by simp) _).setCell (by simp) _⟩

set_option maxRecDepth 100000 in
set_option maxHeartbeats 8000000 in
theorem refCeilOk {w : World} {i : Nat} {a : Rat} {v : Value} (ha : Rq w a v) (sa : Sz i a) (hi : 1 ≤ i ∧ i ≤ 1022) :
    Calls Tryz.prog 35 #[v] w fun e w' => ∃ t, e = .returned (.tuple #[t, .int .i64 0]) ∧ Rq w' (a.ceil : Rat) t ∧ Below w.heap.size w w' := by
  obtain ⟨b1, A1, n1, c1, f1, A1', n1', c1', g1, rfl, hr, h0⟩ := ha.raw (lt_NL sa.1 (by omega)) (lt_NL sa.2 (by omega))
  have hbb := below2 w (.cells #[.bool b1, .slice A1 n1 c1, .slice A1' n1' c1'] 25) (.cells #[.bool false, .slice none 0 0, .slice none 0 0] 25)
  have k1 := (Blk.new w #[.bool b1, .slice A1 n1 c1, .slice A1' n1' c1'] 25).alloc (.cells #[.bool false, .slice none 0 0, .slice none 0 0] 25)
  have k3 := Blk.new (w.alloc (.cells #[.bool b1, .slice A1 n1 c1, .slice A1' n1' c1'] 25)) #[.bool false, .slice none 0 0, .slice none 0 0] 25
  simp only [World.size_alloc] at k3
  have hcc := refRatCheck_any (hr.below hbb)
  rw [h0] at hcc
  have C1 := Lib.hid hcc
  have HB := Lib.hid hbb
  have KP1 := Lib.hid k1
  have KP3 := Lib.hid k3
  have Ra := Lib.hid (ha.below hbb)
  have SA := Lib.hid sa
  have HI := Lib.hid hi
  clear ha hr h0 hcc hbb k1 k3 sa hi
  have d10 := KP1.out.cell (i := 0) rfl
  have d11 := KP1.out.cell (i := 1) rfl
  have d12 := KP1.out.cell (i := 2) rfl
  go_enter Tryz.func35, Tryz.ntmps35
  go_wp2_with fail
  refine (C1.out).mono ?_
  rintro _ w4 ⟨rfl, hb⟩
  clear d10 d11 d12 C1
  replace Ra := Lib.hid (Ra.out.below hb)
  replace KP1 := Lib.hid (KP1.out.after hb)
  replace KP3 := Lib.hid (KP3.out.after hb)
  replace HB := Lib.hid (HB.out.trans (hb.mono HB.out.size))
  clear hb
  have d10 := KP1.out.cell (i := 0) rfl
  have d11 := KP1.out.cell (i := 1) rfl
  have d12 := KP1.out.cell (i := 2) rfl
  go_wp2_with fail
  refine (refUpQ Ra.out SA.out (by have := HI.out; omega)).mono ?_
  rintro _ w6 ⟨x, rfl, hx, hb⟩
  replace KP3 := Lib.hid (KP3.out.after hb)
  replace HB := Lib.hid (HB.out.trans (hb.mono HB.out.size))
  have RX := Lib.hid hx
  clear hx hb d10 d11 d12
  go_wp2_with fail
  refine (refFitsQ RX.out (SA.out.ceil HI.out.1) (by have := HI.out; omega)).mono ?_
  rintro _ w8 ⟨x, rfl, hx, hb⟩
  obtain ⟨bL, AL, nL, cL, AL', nL', cL', rfl, _, _, _⟩ := hx.get
  replace KP3 := Lib.hid (KP3.out.after hb)
  replace HB := Lib.hid (HB.out.trans (hb.mono HB.out.size))
  have HXL := Lib.hid hx
  clear hx hb
  have zx : (w.heap.size + 1) < w8.heap.size := KP3.out.lt
  have x0 := KP3.out.cell (i := 0) rfl
  have x1 := KP3.out.cell (i := 1) rfl
  have x2 := KP3.out.cell (i := 2) rfl
  have xf := KP3.out.free
  go_wp2_with fail
  refine bodyPost_ret (results_row_tmp (p := 2) (ty := 25) rfl _ _ (w.heap.size + 1) 25 _ _ _ rfl KP3.out.set.set.set Tryz.underlying25 rfl (by kernel_rfl)) rfl ?_
  obtain ⟨g1, g2, g3⟩ := HXL.out.inv
  exact ⟨_, rfl, Rq.mk g3 rfl rfl (g1.put3 KP3.out (hnoR _ _ _ _ _ _ _)) (g2.put3 KP3.out (hnoR _ _ _ _ _ _ _)), ((HB.out.setCell (by simp) _).setCell (by simp) _).setCell (by simp) _⟩

set_option maxRecDepth 100000 in
set_option maxHeartbeats 8000000 in
theorem refFloor_bad {w : World} {b : Bool} {A1 A2 : Option Addr} {n1 c1 n2 c2 : Nat} {f1 f2 : Nat → Nat} (h : Raw w b A1 n1 c1 f1 A2 n2 c2 f2) (he : chkR b n1 f1 n2 f2 ≠ 0) :
    Calls Tryz.prog 33 #[.agg #[.bool b, .slice A1 n1 c1, .slice A2 n2 c2]] w fun e w' => e = .returned (.tuple #[zeroRat, .int .i64 (chkR b n1 f1 n2 f2)]) ∧ Below w.heap.size w w' := by
  have hb0 := below2 w (.cells #[.bool b, .slice A1 n1 c1, .slice A2 n2 c2] 25) (.cells #[.bool false, .slice none 0 0, .slice none 0 0] 25)
  have k4 := Blk.new (w.alloc (.cells #[.bool b, .slice A1 n1 c1, .slice A2 n2 c2] 25)) #[.bool false, .slice none 0 0, .slice none 0 0] 25
  simp only [World.size_alloc] at k4
  have K4 := Lib.hid k4
  have C1 := Lib.hid (refRatCheck_any (h.below hb0))
  have x1 : (chkR b n1 f1 n2 f2 != 0) = true := by rw [bne_iff_ne]; exact he
  have x2 : (chkR b n1 f1 n2 f2 == 0) = false := by rw [beq_eq_false_iff_ne]; exact he
  have HB := Lib.hid hb0
  generalize chkR b n1 f1 n2 f2 = er at *
  clear h hb0 k4 he
  go_enter Tryz.func33, Tryz.ntmps33
  go_wp2_with fail
  refine C1.out.mono ?_
  rintro _ w1 ⟨rfl, hb⟩
  have k4 := K4.out.after hb
  have d0 := k4.cell (i := 0) rfl
  have d1 := k4.cell (i := 1) rfl
  have d2 := k4.cell (i := 2) rfl
  have ff := k4.free
  have hz : w.heap.size + 1 < w1.heap.size := k4.lt
  have K5 := Lib.hid k4
  replace HB := Lib.hid (HB.out.trans (hb.mono HB.out.size))
  clear hb k4 K4 C1
  go_wp2_with fail
  refine bodyPost_ret (results_row_tmp (p := 2) (ty := 25) rfl _ _ (w.heap.size + 1) 25 _ _ _ rfl K5.out.set.set.set Tryz.underlying25 rfl (by kernel_rfl)) rfl ?_
  exact ⟨rfl, ((HB.out.setCell (by simp) _).setCell (by simp) _).setCell (by simp) _⟩


set_option maxRecDepth 100000 in
set_option maxHeartbeats 8000000 in
theorem refCeil_bad {w : World} {b : Bool} {A1 A2 : Option Addr} {n1 c1 n2 c2 : Nat} {f1 f2 : Nat → Nat} (h : Raw w b A1 n1 c1 f1 A2 n2 c2 f2) (he : chkR b n1 f1 n2 f2 ≠ 0) :
    Calls Tryz.prog 35 #[.agg #[.bool b, .slice A1 n1 c1, .slice A2 n2 c2]] w fun e w' => e = .returned (.tuple #[zeroRat, .int .i64 (chkR b n1 f1 n2 f2)]) ∧ Below w.heap.size w w' := by
  have hb0 := below2 w (.cells #[.bool b, .slice A1 n1 c1, .slice A2 n2 c2] 25) (.cells #[.bool false, .slice none 0 0, .slice none 0 0] 25)
  have k4 := Blk.new (w.alloc (.cells #[.bool b, .slice A1 n1 c1, .slice A2 n2 c2] 25)) #[.bool false, .slice none 0 0, .slice none 0 0] 25
  simp only [World.size_alloc] at k4
  have K4 := Lib.hid k4
  have C1 := Lib.hid (refRatCheck_any (h.below hb0))
  have x1 : (chkR b n1 f1 n2 f2 != 0) = true := by rw [bne_iff_ne]; exact he
  have x2 : (chkR b n1 f1 n2 f2 == 0) = false := by rw [beq_eq_false_iff_ne]; exact he
  have HB := Lib.hid hb0
  generalize chkR b n1 f1 n2 f2 = er at *
  clear h hb0 k4 he
  go_enter Tryz.func35, Tryz.ntmps35
  go_wp2_with fail
  refine C1.out.mono ?_
  rintro _ w1 ⟨rfl, hb⟩
  have k4 := K4.out.after hb
  have d0 := k4.cell (i := 0) rfl
  have d1 := k4.cell (i := 1) rfl
  have d2 := k4.cell (i := 2) rfl
  have ff := k4.free
  have hz : w.heap.size + 1 < w1.heap.size := k4.lt
  have K5 := Lib.hid k4
  replace HB := Lib.hid (HB.out.trans (hb.mono HB.out.size))
  clear hb k4 K4 C1
  go_wp2_with fail
  refine bodyPost_ret (results_row_tmp (p := 2) (ty := 25) rfl _ _ (w.heap.size + 1) 25 _ _ _ rfl K5.out.set.set.set Tryz.underlying25 rfl (by kernel_rfl)) rfl ?_
  exact ⟨rfl, ((HB.out.setCell (by simp) _).setCell (by simp) _).setCell (by simp) _⟩


set_option maxRecDepth 100000 in
set_option maxHeartbeats 8000000 in
theorem refOfOk (a b : Int) (ha : Hid (I64 a)) (hb : Hid (I64 b)) (hb0 : b ≠ 0) {w : World} :
    Calls Tryz.prog 29 #[.int .i64 a, .int .i64 b] w fun e w' => ∃ t, e = .returned (.tuple #[t, .int .i64 0]) ∧ Rq w' (ofq a b) t ∧ Below w.heap.size w w' := by
  have hbb := below1 w (.cells #[.bool false, .slice none 0 0, .slice none 0 0] 25)
  have HB := Lib.hid hbb
  have KP3 := Lib.hid (Blk.new w #[.bool false, .slice none 0 0, .slice none 0 0] 25)
  have hz : (b == 0) = false := by rw [beq_eq_false_iff_ne]; exact hb0
  have C1 := Lib.hid (refRatioI a b ha hb hb0 (w.alloc (.cells #[.bool false, .slice none 0 0, .slice none 0 0] 25)))
  clear hbb hb0
  go_enter Tryz.func29, Tryz.ntmps29
  go_wp2_with fail
  refine (C1.out).mono ?_
  rintro _ w8 ⟨x, rfl, hx, hb⟩
  obtain ⟨bL, AL, nL, cL, AL', nL', cL', rfl, _, _, _⟩ := hx.get
  replace KP3 := Lib.hid (KP3.out.after hb)
  replace HB := Lib.hid (HB.out.trans (hb.mono HB.out.size))
  have HXL := Lib.hid hx
  clear hx hb
  have zx : w.heap.size < w8.heap.size := KP3.out.lt
  have x0 := KP3.out.cell (i := 0) rfl
  have x1 := KP3.out.cell (i := 1) rfl
  have x2 := KP3.out.cell (i := 2) rfl
  have xf := KP3.out.free
  go_wp2_with fail
  refine bodyPost_ret (results_row_tmp (p := 4) (ty := 25) rfl _ _ w.heap.size 25 _ _ _ rfl KP3.out.set.set.set Tryz.underlying25 rfl (by kernel_rfl)) rfl ?_
  obtain ⟨g1, g2, g3⟩ := HXL.out.inv
  exact ⟨_, rfl, Rq.mk g3 rfl rfl (g1.put3 KP3.out (hnoR _ _ _ _ _ _ _)) (g2.put3 KP3.out (hnoR _ _ _ _ _ _ _)), ((HB.out.setCell (Nat.le_refl _) _).setCell (Nat.le_refl _) _).setCell (Nat.le_refl _) _⟩

set_option maxRecDepth 100000 in
set_option maxHeartbeats 8000000 in
theorem refOf_zero (a : Int) (w : World) :
    Calls Tryz.prog 29 #[.int .i64 a, .int .i64 0] w fun e w' => e = .returned (.tuple #[zeroRat, .int .i64 6]) ∧ Below w.heap.size w w' := by
  have hbb := below1 w (.cells #[.bool false, .slice none 0 0, .slice none 0 0] 25)
  have HB := Lib.hid hbb
  have KP3 := Lib.hid (Blk.new w #[.bool false, .slice none 0 0, .slice none 0 0] 25)
  clear hbb
  go_enter Tryz.func29, Tryz.ntmps29
  go_wp2_with fail
  refine bodyPost_ret (results_row_tmp (p := 4) (ty := 25) rfl _ _ w.heap.size 25 _ _ _ rfl KP3.out Tryz.underlying25 rfl (by kernel_rfl)) rfl ?_
  exact ⟨rfl, HB.out⟩

set_option maxRecDepth 100000 in
set_option maxHeartbeats 8000000 in
theorem ratOf_zero (a : Int) (w : World) :
    Calls Tryz.prog 28 #[.int .i64 a, .int .i64 0] w fun e w' => e = .returned (.tuple #[zeroRat, .int .i64 6]) ∧ Below w.heap.size w w' := by
  have hbb := below1 w (.cells #[.bool false, .slice none 0 0, .slice none 0 0] 25)
  have HB := Lib.hid hbb
  have KP3 := Lib.hid (Blk.new w #[.bool false, .slice none 0 0, .slice none 0 0] 25)
  clear hbb
  go_enter Tryz.func28, Tryz.ntmps28
  go_wp2_with fail
  refine bodyPost_ret (results_row_tmp (p := 4) (ty := 25) rfl _ _ w.heap.size 25 _ _ _ rfl KP3.out Tryz.underlying25 rfl (by kernel_rfl)) rfl ?_
  exact ⟨rfl, HB.out⟩

set_option maxRecDepth 100000 in
set_option maxHeartbeats 8000000 in
theorem refMakeOk {w : World} {A A' : Option Addr} {n c m c' : Nat} {f g : Nat → Nat} (neg : Bool) (hA : Rs w w.heap.size A n c f) (hB : Rs w w.heap.size A' m c' g) (h0 : chkP n f m g = 0) :
    Calls Tryz.prog 31 #[.bool neg, .slice A n c, .slice A' m c'] w fun e w' => ∃ t, e = .returned (.tuple #[t, .int .i64 0]) ∧ Rq w' (mkRat (sn neg (nv f n)) (nv g m)) t ∧ Below w.heap.size w w' := by
  have hbb := below1 w (.cells #[.bool false, .slice none 0 0, .slice none 0 0] 25)
  have HB := Lib.hid hbb
  have KP3 := Lib.hid (Blk.new w #[.bool false, .slice none 0 0, .slice none 0 0] 25)
  have c1 := refParts_any ((hA.below hbb).more hbb.size) ((hB.below hbb).more hbb.size)
  rw [h0] at c1
  have C1 := Lib.hid c1
  obtain ⟨e1, e2, e3, _⟩ := chkP_eq (neg := neg) h0
  obtain ⟨hn, vf⟩ := chk_zero e1
  obtain ⟨hm, vg⟩ := chk_zero e2
  have lN : nv f n < LB ^ NL := lt_NL vf.lt hn
  have lD : nv g m < LB ^ NL := lt_NL vg.lt hm
  have hD : nv g m ≠ 0 := fun e => e3 (vg.zero_iff.1 e)
  have H1 : Nr w (nv f n) (.slice A n c) := ⟨_, _, _, _, rfl, hA, ⟨vf, rfl⟩⟩
  have H2 : Nr w (nv g m) (.slice A' m c') := ⟨_, _, _, _, rfl, hB, ⟨vg, rfl⟩⟩
  have C2 := Lib.hid (refLowestQ neg (H1.below hbb) (H2.below hbb) lN lD hD)
  have SQ := Lib.hid (sz_mkq (neg := neg) lN lD hD)
  generalize mkRat (sn neg (nv f n)) (nv g m) = q at *
  clear hbb hA hB h0 c1 e1 e2 e3 hn hm vf vg lN lD hD H1 H2
  go_enter Tryz.func31, Tryz.ntmps31
  go_wp2_with fail
  refine C1.out.mono ?_
  rintro _ _ ⟨rfl, rfl⟩
  clear C1
  go_wp2_with fail
  refine (C2.out).mono ?_
  rintro _ w6 ⟨x, rfl, hx, hb⟩
  replace KP3 := Lib.hid (KP3.out.after hb)
  replace HB := Lib.hid (HB.out.trans (hb.mono HB.out.size))
  have RX := Lib.hid hx
  clear hx hb C2
  go_wp2_with fail
  refine (refFitsQ RX.out SQ.out (Nat.le_of_eq NL_eq)).mono ?_
  rintro _ w8 ⟨x, rfl, hx, hb⟩
  obtain ⟨bL, AL, nL, cL, AL', nL', cL', rfl, _, _, _⟩ := hx.get
  replace KP3 := Lib.hid (KP3.out.after hb)
  replace HB := Lib.hid (HB.out.trans (hb.mono HB.out.size))
  have HXL := Lib.hid hx
  clear hx hb
  have zx : w.heap.size < w8.heap.size := KP3.out.lt
  have x0 := KP3.out.cell (i := 0) rfl
  have x1 := KP3.out.cell (i := 1) rfl
  have x2 := KP3.out.cell (i := 2) rfl
  have xf := KP3.out.free
  go_wp2_with fail
  refine bodyPost_ret (results_row_tmp (p := 6) (ty := 25) rfl _ _ w.heap.size 25 _ _ _ rfl KP3.out.set.set.set Tryz.underlying25 rfl (by kernel_rfl)) rfl ?_
  obtain ⟨g1, g2, g3⟩ := HXL.out.inv
  exact ⟨_, rfl, Rq.mk g3 rfl rfl (g1.put3 KP3.out (hnoR _ _ _ _ _ _ _)) (g2.put3 KP3.out (hnoR _ _ _ _ _ _ _)), ((HB.out.setCell (Nat.le_refl _) _).setCell (Nat.le_refl _) _).setCell (Nat.le_refl _) _⟩

set_option maxRecDepth 100000 in
set_option maxHeartbeats 8000000 in
theorem refMake_bad {w : World} {A A' : Option Addr} {n c m c' : Nat} {f g : Nat → Nat} (neg : Bool) (hA : Rs w w.heap.size A n c f) (hB : Rs w w.heap.size A' m c' g) (h0 : chkP n f m g ≠ 0) :
    Calls Tryz.prog 31 #[.bool neg, .slice A n c, .slice A' m c'] w fun e w' => e = .returned (.tuple #[zeroRat, .int .i64 (chkP n f m g)]) ∧ Below w.heap.size w w' := by
  have hbb := below1 w (.cells #[.bool false, .slice none 0 0, .slice none 0 0] 25)
  have HB := Lib.hid hbb
  have KP3 := Lib.hid (Blk.new w #[.bool false, .slice none 0 0, .slice none 0 0] 25)
  have C1 := Lib.hid (refParts_any ((hA.below hbb).more hbb.size) ((hB.below hbb).more hbb.size))
  have x1 : (chkP n f m g != 0) = true := by rw [bne_iff_ne]; exact h0
  generalize chkP n f m g = er at *
  clear hbb hA hB h0
  go_enter Tryz.func31, Tryz.ntmps31
  go_wp2_with fail
  refine C1.out.mono ?_
  rintro _ _ ⟨rfl, rfl⟩
  clear C1
  go_wp2_with fail
  refine bodyPost_ret (results_row_tmp (p := 6) (ty := 25) rfl _ _ w.heap.size 25 _ _ _ rfl KP3.out Tryz.underlying25 rfl (by kernel_rfl)) rfl ?_
  exact ⟨rfl, HB.out⟩

theorem sz_i64 {n : Int} (h : I64 n) : Sz 3 (n : Rat) := by
  refine ⟨by rw [Rat.num_intCast]; exact abs_nl h, ?_⟩
  rw [Rat.den_intCast]
  exact Nat.one_lt_pow (by omega) (by rw [LB_eq]; omega)
theorem intW_get (z : Int) : ∃ p q, intW z = .tuple #[.int .i64 p, .int .i64 q] := by unfold intW; split <;> exact ⟨_, _, rfl⟩

set_option maxRecDepth 100000 in
set_option maxHeartbeats 8000000 in
theorem refScaleOk {w : World} {i : Nat} {a : Rat} {v : Value} (n : Int) (hn : Hid (I64 n)) (ha : Rq w a v) (sa : Sz i a) (hi : 1 ≤ i ∧ i ≤ 1000) :
    Calls Tryz.prog 37 #[v, .int .i64 n] w fun e w' => e = .returned (intW (a * (n : Rat)).floor) ∧ Below w.heap.size w w' := by
  obtain ⟨b1, A1, n1, c1, f1, A1', n1', c1', g1, rfl, hr, h0⟩ := ha.raw (lt_NL sa.1 (by omega)) (lt_NL sa.2 (by omega))
  have hbb := below1 w (.cells #[.bool b1, .slice A1 n1 c1, .slice A1' n1' c1'] 25)
  have hcc := refRatCheck_any (hr.below hbb)
  rw [h0] at hcc
  have C1 := Lib.hid hcc
  have HB := Lib.hid hbb
  have KP1 := Lib.hid (Blk.new w #[.bool b1, .slice A1 n1 c1, .slice A1' n1' c1'] 25)
  have Ra := Lib.hid (ha.below hbb)
  have SA := Lib.hid sa
  have HI := Lib.hid hi
  have SN := Lib.hid (sz_i64 hn.out)
  obtain ⟨p, q, hpq⟩ := intW_get (a * (n : Rat)).floor
  have HPQ := Lib.hid hpq
  clear ha hr h0 hcc hbb sa hi hpq
  have d10 := KP1.out.cell (i := 0) rfl
  have d11 := KP1.out.cell (i := 1) rfl
  have d12 := KP1.out.cell (i := 2) rfl
  go_enter Tryz.func37, Tryz.ntmps37
  go_wp2_with fail
  refine (C1.out).mono ?_
  rintro _ w4 ⟨rfl, hb⟩
  clear d10 d11 d12 C1
  replace Ra := Lib.hid (Ra.out.below hb)
  replace KP1 := Lib.hid (KP1.out.after hb)
  replace HB := Lib.hid (HB.out.trans (hb.mono HB.out.size))
  clear hb
  have d10 := KP1.out.cell (i := 0) rfl
  have d11 := KP1.out.cell (i := 1) rfl
  have d12 := KP1.out.cell (i := 2) rfl
  go_upto_region 3 with fail
  have KEEP : Hid (∀ W, Below w4.heap.size w4 W → (W.cell? ⟨w.heap.size, 0, none⟩ = some (.bool b1) ∧ W.cell? ⟨w.heap.size, 1, none⟩ = some (.slice A1 n1 c1) ∧ W.cell? ⟨w.heap.size, 2, none⟩ = some (.slice A1' n1' c1'))) := Lib.hid fun W h1 => ⟨(KP1.out.after h1).cell rfl, (KP1.out.after h1).cell rfl, (KP1.out.after h1).cell rfl⟩
  have hdrew : Below w4.heap.size w4 w4.drew := (Below.refl _ _).drew
  go_region_held3 (fun W => W.cell? ⟨w.heap.size, 0, none⟩ = some (.bool b1) ∧ W.cell? ⟨w.heap.size, 1, none⟩ = some (.slice A1 n1 c1) ∧ W.cell? ⟨w.heap.size, 2, none⟩ = some (.slice A1' n1' c1'))
    (first | with_reducible exact KEEP.out wq4 hk4 | with_reducible exact KEEP.out wq3 hk3 | with_reducible exact KEEP.out wq2 hk2 | with_reducible exact KEEP.out wq1 hk1 | with_reducible exact KEEP.out w4.drew hdrew | go_keep)
    (first
      | (go_at_call 91; (with_reducible refine (refWholeI n hn w4.drew).mono ?_); rintro _ wq1 ⟨y, rfl, hy, hb1⟩; have hk1 := hdrew.trans (hb1.mono hdrew.size); have HY := Lib.hid hy; obtain ⟨bY, AY, nY, cY, AY', nY', cY', rfl, _, _, _⟩ := hy.get; clear hy)
      | (go_at_call 64; (with_reducible refine (refTimesQ (Ra.out.below hk1) HY.out SA.out SN.out (by have := HI.out; omega)).mono ?_); rintro _ wq2 ⟨x, rfl, hx, hb2⟩; have hk2 := hk1.trans (hb2.mono hk1.size); have RX := Lib.hid hx; obtain ⟨bX, AX, nX, cX, AX', nX', cX', rfl, _, _, _⟩ := hx.get; clear hx)
      | (go_at_call 83; (with_reducible refine (refDownQ RX.out (SA.out.mul SN.out) (by have := HI.out; omega)).mono ?_); rintro _ wq3 ⟨xD, rfl, hxD, hb3⟩; have hk3 := hk2.trans (hb3.mono hk2.size); have RD := Lib.hid hxD; obtain ⟨bD, AD, nD, cD, AD', nD', cD', rfl, _, _, _⟩ := hxD.get; clear hxD)
      | (go_at_call 90; (with_reducible refine (refIntQ RD.out).mono ?_); rintro _ wq4 ⟨hI, hb4⟩; have hk4 := hk3.trans (hb4.mono hk3.size); rw [HPQ.out] at hI; subst hI))
  have hbc := HB.out.trans (hk4.mono HB.out.size)
  go_wp2_with fail
  go_ret2
  exact ⟨by rw [HPQ.out]; rfl, hbc⟩

set_option maxRecDepth 100000 in
set_option maxHeartbeats 8000000 in
theorem refScale_bad {w : World} {b1 : Bool} {A1 A1' : Option Addr} {n1 c1 n1' c1' : Nat} {f1 g1 : Nat → Nat} (n : Int) (h : Raw w b1 A1 n1 c1 f1 A1' n1' c1' g1) (he : chkR b1 n1 f1 n1' g1 ≠ 0) :
    Calls Tryz.prog 37 #[.agg #[.bool b1, .slice A1 n1 c1, .slice A1' n1' c1'], .int .i64 n] w fun e w' => e = .returned (.tuple #[.int .i64 0, .int .i64 (chkR b1 n1 f1 n1' g1)]) ∧ Below w.heap.size w w' := by
  have hb0 := below1 w (.cells #[.bool b1, .slice A1 n1 c1, .slice A1' n1' c1'] 25)
  have C1 := Lib.hid (refRatCheck_any (h.below hb0))
  have x1 : (chkR b1 n1 f1 n1' g1 != 0) = true := by rw [bne_iff_ne]; exact he
  have x2 : (chkR b1 n1 f1 n1' g1 == 0) = false := by rw [beq_eq_false_iff_ne]; exact he
  have HB := Lib.hid hb0
  have KP1 := Lib.hid (Blk.new w #[.bool b1, .slice A1 n1 c1, .slice A1' n1' c1'] 25)
  generalize chkR b1 n1 f1 n1' g1 = er at *
  clear h hb0 he
  have d10 := KP1.out.cell (i := 0) rfl
  have d11 := KP1.out.cell (i := 1) rfl
  have d12 := KP1.out.cell (i := 2) rfl
  go_enter Tryz.func37, Tryz.ntmps37
  go_wp2_with fail
  refine C1.out.mono ?_
  rintro _ w1 ⟨rfl, hb⟩
  replace HB := Lib.hid (HB.out.trans (hb.mono HB.out.size))
  clear hb C1
  go_wp2_with fail
  go_ret2
  exact ⟨rfl, HB.out⟩

set_option maxRecDepth 100000 in
set_option maxHeartbeats 8000000 in
theorem ratScale_bad {w : World} {b1 : Bool} {A1 A1' : Option Addr} {n1 c1 n1' c1' : Nat} {f1 g1 : Nat → Nat} (n : Int) (h : Raw w b1 A1 n1 c1 f1 A1' n1' c1' g1) (he : chkR b1 n1 f1 n1' g1 ≠ 0) :
    Calls Tryz.prog 36 #[.agg #[.bool b1, .slice A1 n1 c1, .slice A1' n1' c1'], .int .i64 n] w fun e w' => e = .returned (.tuple #[.int .i64 0, .int .i64 (chkR b1 n1 f1 n1' g1)]) ∧ Below w.heap.size w w' := by
  have hb0 := below1 w (.cells #[.bool b1, .slice A1 n1 c1, .slice A1' n1' c1'] 25)
  have C1 := Lib.hid (ratCheck_any (h.below hb0))
  have x1 : (chkR b1 n1 f1 n1' g1 != 0) = true := by rw [bne_iff_ne]; exact he
  have x2 : (chkR b1 n1 f1 n1' g1 == 0) = false := by rw [beq_eq_false_iff_ne]; exact he
  have HB := Lib.hid hb0
  have KP1 := Lib.hid (Blk.new w #[.bool b1, .slice A1 n1 c1, .slice A1' n1' c1'] 25)
  generalize chkR b1 n1 f1 n1' g1 = er at *
  clear h hb0 he
  have d10 := KP1.out.cell (i := 0) rfl
  have d11 := KP1.out.cell (i := 1) rfl
  have d12 := KP1.out.cell (i := 2) rfl
  go_enter Tryz.func36, Tryz.ntmps36
  go_wp2_with fail
  refine C1.out.mono ?_
  rintro _ w1 ⟨rfl, hb⟩
  replace HB := Lib.hid (HB.out.trans (hb.mono HB.out.size))
  clear hb C1
  go_wp2_with fail
  go_ret2
  exact ⟨rfl, HB.out⟩

end Go.Proofs.YtmcacofpnnaplaaGreatDoor

/- The contracts of the reference's functions on rational numbers. Conditions as premises: the numbers read, and are short enough. -/
namespace Go.Proofs.YtmcacofpnnaplaaGreatDoor
open Go.RowKit Go.Shelf
attribute [local go_sem ↓] Go.wp_at_zero Go.wp_at_succ


/-- the side of any int -/
theorem signOfI (n : Int) (w : World) :
    Calls Tryz.prog 76 #[.int .i64 n] w fun e w' => e = .returned (.int .i64 (sg n)) ∧ w = w' := by
  have hc : c3 n 0 = sg n - 1 := by
    unfold c3 sg
    split
    · rfl
    · split
      · rw [if_neg (by omega)]; rfl
      · rw [if_pos (by omega)]; rfl
  rcases sg_cases n with ⟨h, e⟩ | ⟨h, e⟩ | ⟨h, e⟩
  all_goals
    rw [e] at hc ⊢
    try subst h
    have HC := Lib.hid hc
    clear hc e
    go_enter Tryz.func76, Tryz.ntmps76
    go_wp2_with fail
    refine (cmpInt_any _ _ w).mono ?_
    rintro _ _ ⟨rfl, rfl⟩
    rw [HC.out]
    go_wp2_with fail
    go_ret
    exact ⟨rfl, rfl⟩
theorem sg_ofq (a b : Int) (hb : b ≠ 0) : sg (sn (decide (a < 0) != decide (b < 0)) a.natAbs) = (sg a - 1) * (sg b - 1) + 1 := by
  rcases sg_cases a with ⟨h, e⟩ | ⟨h, e⟩ | ⟨h, e⟩ <;> rcases sg_cases b with ⟨k, f⟩ | ⟨k, f⟩ | ⟨k, f⟩
  all_goals first | (exact absurd k hb) | skip
  all_goals rw [e, f]
  · rw [decide_eq_true h, decide_eq_true k]; exact sg_sn_f (by omega)
  · rw [decide_eq_true h, decide_eq_false (by omega)]; exact sg_sn_t (by omega)
  · subst h; rw [show (0 : Int).natAbs = 0 from rfl, sn_zero]; rfl
  · subst h; rw [show (0 : Int).natAbs = 0 from rfl, sn_zero]; rfl
  · rw [decide_eq_false (by omega), decide_eq_true k]; exact sg_sn_t (by omega)
  · rw [decide_eq_false (by omega), decide_eq_false (by omega)]; exact sg_sn_f (by omega)

set_option maxRecDepth 100000 in
set_option maxHeartbeats 8000000 in
theorem ratOfOk (a b : Int) (ha : Hid (I64 a)) (hb : Hid (I64 b)) (hb0 : b ≠ 0) {w : World} (hT : Tabs w) :
    Calls Tryz.prog 28 #[.int .i64 a, .int .i64 b] w fun e w' => ∃ t, e = .returned (.tuple #[t, .int .i64 0]) ∧ Rq w' (ofq a b) t ∧ Below w.heap.size w w' := by
  have hbb := below1 w (.cells #[.bool false, .slice none 0 0, .slice none 0 0] 25)
  have HB := Lib.hid hbb
  have KP3 := Lib.hid (Blk.new w #[.bool false, .slice none 0 0, .slice none 0 0] 25)
  have hz : (b == 0) = false := by rw [beq_eq_false_iff_ne]; exact hb0
  have HT := Lib.hid (hT.below hbb)
  clear hT
  obtain ⟨s, hs⟩ : ∃ s, sg a = s := ⟨_, rfl⟩
  obtain ⟨t, ht⟩ : ∃ t, sg b = t := ⟨_, rfl⟩
  have CA : Hid (∀ w, Calls Tryz.prog 76 #[.int .i64 a] w fun e w' => e = .returned (.int .i64 s) ∧ w = w') := Lib.hid fun w => by rw [← hs]; exact signOfI a w
  have CB : Hid (∀ w, Calls Tryz.prog 76 #[.int .i64 b] w fun e w' => e = .returned (.int .i64 t) ∧ w = w') := Lib.hid fun w => by rw [← ht]; exact signOfI b w
  have CT' := signTimes s t (hs ▸ sg_range a) (ht ▸ sg_range b) HT.out
  have EQ' := sg_ofq a b hb0
  rw [hs, ht] at EQ'
  obtain ⟨r, hr⟩ : ∃ r, (s - 1) * (t - 1) + 1 = r := ⟨_, rfl⟩
  rw [hr] at CT' EQ'
  have CT := Lib.hid CT'
  have EQ := Lib.hid EQ'
  have HB0 : Hid (b.natAbs ≠ 0) := Lib.hid (by omega)
  have hla := ha.out
  have hlb := hb.out
  have CM : Hid (∀ w, Calls Tryz.prog 78 #[.int .i64 a] w fun e w' => ∃ v, e = .returned v ∧ Nr w' a.natAbs v ∧ Below w.heap.size w w') := Lib.hid fun w => magnitudeN a hla.1 hla.2 w
  have CN : Hid (∀ w, Calls Tryz.prog 78 #[.int .i64 b] w fun e w' => ∃ v, e = .returned v ∧ Nr w' b.natAbs v ∧ Below w.heap.size w w') := Lib.hid fun w => magnitudeN b hlb.1 hlb.2 w
  clear hbb hb0 CT' EQ' hr hs ht hla hlb
  go_enter Tryz.func28, Tryz.ntmps28
  go_wp2_with fail
  refine (CA.out _).mono ?_
  rintro _ _ ⟨rfl, rfl⟩
  clear CA
  go_wp2_with fail
  refine (CB.out _).mono ?_
  rintro _ _ ⟨rfl, rfl⟩
  clear CB
  go_wp2_with fail
  refine CT.out.mono ?_
  rintro _ _ ⟨rfl, rfl⟩
  clear CT
  go_wp2_with fail
  refine (CM.out _).mono ?_
  rintro _ w1 ⟨x, rfl, hx, hbx⟩
  obtain ⟨A1, n1, c1, rfl⟩ := hx.shape
  have HX := Lib.hid hx
  clear hx CM
  replace KP3 := Lib.hid (KP3.out.after hbx)
  replace HB := Lib.hid (HB.out.trans (hbx.mono HB.out.size))
  clear hbx
  go_wp2_with fail
  refine (CN.out _).mono ?_
  rintro _ w2 ⟨y, rfl, hy, hbx⟩
  obtain ⟨A2, n2, c2, rfl⟩ := hy.shape
  replace HX := Lib.hid (HX.out.below hbx)
  have HY := Lib.hid hy
  clear hy CN
  replace KP3 := Lib.hid (KP3.out.after hbx)
  replace HB := Lib.hid (HB.out.trans (hbx.mono HB.out.size))
  clear hbx
  have C4' := reducedQ (z := sn (decide (a < 0) != decide (b < 0)) a.natAbs) (Fr.mk HX.out HY.out) (sn_abs _ _) HB0.out (lt_NL (abs_nl ha.out) (by omega)) (lt_NL (abs_nl hb.out) (by omega))
  rw [EQ.out, show mkRat (sn (decide (a < 0) != decide (b < 0)) a.natAbs) b.natAbs = ofq a b from rfl] at C4'
  have C4 := Lib.hid C4'
  clear C4' HX HY
  go_wp2_with fail
  refine (C4.out).mono ?_
  rintro _ w8 ⟨x, rfl, hx, hb⟩
  obtain ⟨bL, AL, nL, cL, AL', nL', cL', rfl, _, _, _⟩ := hx.get
  replace KP3 := Lib.hid (KP3.out.after hb)
  replace HB := Lib.hid (HB.out.trans (hb.mono HB.out.size))
  have HXL := Lib.hid hx
  clear hx hb
  have zx : w.heap.size < w8.heap.size := KP3.out.lt
  have x0 := KP3.out.cell (i := 0) rfl
  have x1 := KP3.out.cell (i := 1) rfl
  have x2 := KP3.out.cell (i := 2) rfl
  have xf := KP3.out.free
  go_wp2_with fail
  refine bodyPost_ret (results_row_tmp (p := 4) (ty := 25) rfl _ _ w.heap.size 25 _ _ _ rfl KP3.out.set.set.set Tryz.underlying25 rfl (by kernel_rfl)) rfl ?_
  obtain ⟨g1, g2, g3⟩ := HXL.out.inv
  exact ⟨_, rfl, Rq.mk g3 rfl rfl (g1.put3 KP3.out (hnoR _ _ _ _ _ _ _)) (g2.put3 KP3.out (hnoR _ _ _ _ _ _ _)), ((HB.out.setCell (Nat.le_refl _) _).setCell (Nat.le_refl _) _).setCell (Nat.le_refl _) _⟩

set_option maxRecDepth 100000 in
set_option maxHeartbeats 8000000 in
theorem ratMake_bad1 {w : World} {A A' : Option Addr} {n c m c' : Nat} {f g : Nat → Nat} (neg : Bool) (hA : Rs w w.heap.size A n c f) (hB : Rs w w.heap.size A' m c' g) (h1 : chk n f ≠ 0) :
    Calls Tryz.prog 30 #[.bool neg, .slice A n c, .slice A' m c'] w fun e w' => e = .returned (.tuple #[zeroRat, .int .i64 (chk n f)]) ∧ Below w.heap.size w w' := by
  have hbb := below1 w (.cells #[.bool false, .slice none 0 0, .slice none 0 0] 25)
  have HB := Lib.hid hbb
  have KP3 := Lib.hid (Blk.new w #[.bool false, .slice none 0 0, .slice none 0 0] 25)
  have c1 := check_any A n c f _ _ ((hA.below hbb).more hbb.size)
  have c2 := check_any A' m c' g _ _ ((hB.below hbb).more hbb.size)
  have x1 : (chk n f != 0) = true := by rw [bne_iff_ne]; exact h1
  generalize chk n f = er at *
  have C1 := Lib.hid c1
  clear c1 c2 hbb hA hB h1
  go_enter Tryz.func30, Tryz.ntmps30
  go_wp2_with fail
  refine C1.out.mono ?_
  rintro _ _ ⟨rfl, rfl⟩
  clear C1
  go_wp2_with fail
  refine bodyPost_ret (results_row_tmp (p := 6) (ty := 25) rfl _ _ w.heap.size 25 _ _ _ rfl KP3.out Tryz.underlying25 rfl (by kernel_rfl)) rfl ?_
  exact ⟨rfl, HB.out⟩

set_option maxRecDepth 100000 in
set_option maxHeartbeats 8000000 in
theorem ratMake_bad2 {w : World} {A A' : Option Addr} {n c m c' : Nat} {f g : Nat → Nat} (neg : Bool) (hA : Rs w w.heap.size A n c f) (hB : Rs w w.heap.size A' m c' g) (h1 : chk n f = 0) (h2 : chk m g ≠ 0) :
    Calls Tryz.prog 30 #[.bool neg, .slice A n c, .slice A' m c'] w fun e w' => e = .returned (.tuple #[zeroRat, .int .i64 (chk m g)]) ∧ Below w.heap.size w w' := by
  have hbb := below1 w (.cells #[.bool false, .slice none 0 0, .slice none 0 0] 25)
  have HB := Lib.hid hbb
  have KP3 := Lib.hid (Blk.new w #[.bool false, .slice none 0 0, .slice none 0 0] 25)
  have c1 := check_any A n c f _ _ ((hA.below hbb).more hbb.size)
  have c2 := check_any A' m c' g _ _ ((hB.below hbb).more hbb.size)
  rw [h1] at c1
  have x1 : (chk m g != 0) = true := by rw [bne_iff_ne]; exact h2
  generalize chk m g = er at *
  have C1 := Lib.hid c1
  have C2 := Lib.hid c2
  clear c1 c2 hbb hA hB h1 h2
  go_enter Tryz.func30, Tryz.ntmps30
  go_wp2_with fail
  refine C1.out.mono ?_
  rintro _ _ ⟨rfl, rfl⟩
  clear C1
  go_wp2_with fail
  refine C2.out.mono ?_
  rintro _ _ ⟨rfl, rfl⟩
  clear C2
  go_wp2_with fail
  refine bodyPost_ret (results_row_tmp (p := 6) (ty := 25) rfl _ _ w.heap.size 25 _ _ _ rfl KP3.out Tryz.underlying25 rfl (by kernel_rfl)) rfl ?_
  exact ⟨rfl, HB.out⟩

set_option maxRecDepth 100000 in
set_option maxHeartbeats 8000000 in
theorem ratMake_bad3 {w : World} {A A' : Option Addr} {n c m c' : Nat} {f g : Nat → Nat} (neg : Bool) (hA : Rs w w.heap.size A n c f) (hB : Rs w w.heap.size A' m c' g) (h1 : chk n f = 0) (h2 : chk m g = 0) (h3 : m = 0) :
    Calls Tryz.prog 30 #[.bool neg, .slice A n c, .slice A' m c'] w fun e w' => e = .returned (.tuple #[zeroRat, .int .i64 (6)]) ∧ Below w.heap.size w w' := by
  have hbb := below1 w (.cells #[.bool false, .slice none 0 0, .slice none 0 0] 25)
  have HB := Lib.hid hbb
  have KP3 := Lib.hid (Blk.new w #[.bool false, .slice none 0 0, .slice none 0 0] 25)
  have c1 := check_any A n c f _ _ ((hA.below hbb).more hbb.size)
  have c2 := check_any A' m c' g _ _ ((hB.below hbb).more hbb.size)
  rw [h1] at c1
  rw [h2] at c2
  subst h3
  have C1 := Lib.hid c1
  have C2 := Lib.hid c2
  clear c1 c2 hbb hA hB h1 h2
  go_enter Tryz.func30, Tryz.ntmps30
  go_wp2_with fail
  refine C1.out.mono ?_
  rintro _ _ ⟨rfl, rfl⟩
  clear C1
  go_wp2_with fail
  refine C2.out.mono ?_
  rintro _ _ ⟨rfl, rfl⟩
  clear C2
  go_wp2_with fail
  refine bodyPost_ret (results_row_tmp (p := 6) (ty := 25) rfl _ _ w.heap.size 25 _ _ _ rfl KP3.out Tryz.underlying25 rfl (by kernel_rfl)) rfl ?_
  exact ⟨rfl, HB.out⟩

theorem ratMake_bad {w : World} {A A' : Option Addr} {n c m c' : Nat} {f g : Nat → Nat} (neg : Bool) (hA : Rs w w.heap.size A n c f) (hB : Rs w w.heap.size A' m c' g) (h0 : chkP n f m g ≠ 0) :
    Calls Tryz.prog 30 #[.bool neg, .slice A n c, .slice A' m c'] w fun e w' => e = .returned (.tuple #[zeroRat, .int .i64 (chkP n f m g)]) ∧ Below w.heap.size w w' := by
  by_cases h1 : chk n f = 0
  · by_cases h2 : chk m g = 0
    · by_cases h3 : m = 0
      · rw [show chkP n f m g = 6 by unfold chkP; rw [if_pos h1, if_pos h2, if_pos h3]]
        exact ratMake_bad3 neg hA hB h1 h2 h3
      · exact absurd (by unfold chkP; rw [if_pos h1, if_pos h2, if_neg h3]) h0
    · rw [show chkP n f m g = chk m g by unfold chkP; rw [if_pos h1, if_neg h2]]
      exact ratMake_bad2 neg hA hB h1 h2
  · rw [show chkP n f m g = chk n f by unfold chkP; rw [if_neg h1]]
    exact ratMake_bad1 neg hA hB h1

end Go.Proofs.YtmcacofpnnaplaaGreatDoor

/- The contracts of the reference's functions on rational numbers. Conditions as premises: the numbers read, and are short enough. -/
namespace Go.Proofs.YtmcacofpnnaplaaGreatDoor
open Go.RowKit Go.Shelf
attribute [local go_sem ↓] Go.wp_at_zero Go.wp_at_succ


/-- the error of a quotient of ints -/
def ofE (b : Int) : Int := if b = 0 then 6 else 0
/-- what a scaling answers -/
def scV (er : Int) (q : Rat) : Value := if er = 0 then intW q.floor else .tuple #[.int .i64 0, .int .i64 er]
theorem scV_get (er : Int) (q : Rat) : ∃ a b, scV er q = .tuple #[.int .i64 a, .int .i64 b] := by
  unfold scV; split
  · exact intW_get _
  · exact ⟨_, _, rfl⟩
theorem nr_of_chk {w : World} {A : Option Addr} {n c : Nat} {f : Nat → Nat} (h : Rs w w.heap.size A n c f) (e : chk n f = 0) : Nr w (nv f n) (.slice A n c) ∧ nv f n < LB ^ NL := by
  obtain ⟨hn, vf⟩ := chk_zero e
  exact ⟨⟨_, _, _, _, rfl, h, ⟨vf, rfl⟩⟩, lt_NL vf.lt hn⟩

theorem ratOfO {w : World} (a b : Int) (ha : Hid (I64 a)) (hb : Hid (I64 b)) (hT : Tabs w) :
    Calls Tryz.prog 28 #[.int .i64 a, .int .i64 b] w fun e w' => ∃ x, e = .returned (.tuple #[x, .int .i64 (ofE b)]) ∧ RqO w' (ofE b) (ofq a b) x ∧ Below w.heap.size w w' := by
  by_cases h : b = 0
  · subst h
    refine (ratOf_zero a w).mono ?_
    rintro e w' ⟨he', hb⟩
    exact ⟨zeroRat, he', ⟨fun c => absurd (show (6 : Int) = 0 from c) (by decide), fun _ => rfl⟩, hb⟩
  · have hd : ofE b = 0 := by unfold ofE; rw [if_neg h]
    refine (ratOfOk a b ha hb h hT).mono ?_
    rintro e w' ⟨x, he', hx, hb⟩
    exact ⟨x, by rw [hd]; exact he', ⟨fun _ => hx, fun c => absurd hd c⟩, hb⟩

theorem ratMakeO {w : World} {neg : Bool} {A A' : Option Addr} {n c m c' : Nat} {f g : Nat → Nat} (h : Raw w neg A n c f A' m c' g) :
    Calls Tryz.prog 30 #[.bool neg, .slice A n c, .slice A' m c'] w fun e w' => ∃ x, e = .returned (.tuple #[x, .int .i64 (chkP n f m g)]) ∧ RqO w' (chkP n f m g) (rawq neg n f m g) x ∧ Below w.heap.size w w' := by
  by_cases e : chkP n f m g = 0
  · obtain ⟨e1, e2, e3, _⟩ := chkP_eq (neg := neg) e
    obtain ⟨k1, l1⟩ := nr_of_chk h.num e1
    obtain ⟨k2, l2⟩ := nr_of_chk h.den e2
    have hD : nv g m ≠ 0 := fun c => e3 ((chk_zero e2).2.zero_iff.1 c)
    refine (ratMakeQ neg k1 k2 l1 l2 hD).mono ?_
    rintro e' w' ⟨x, he', hx, hb⟩
    exact ⟨x, by rw [e]; exact he', ⟨fun _ => hx, fun c => absurd e c⟩, hb⟩
  · refine (ratMake_bad neg h.num h.den e).mono ?_
    rintro e' w' ⟨he', hb⟩
    exact ⟨zeroRat, he', ⟨fun c => absurd c e, fun _ => rfl⟩, hb⟩

theorem ratFloorO {w : World} {b1 : Bool} {A1 A1' : Option Addr} {n1 c1 n1' c1' : Nat} {f1 g1 : Nat → Nat} (h : Raw w b1 A1 n1 c1 f1 A1' n1' c1' g1) (l : ¬ Lg n1 n1') :
    Calls Tryz.prog 32 #[.agg #[.bool b1, .slice A1 n1 c1, .slice A1' n1' c1']] w fun e w' => ∃ x, e = .returned (.tuple #[x, .int .i64 (chkR b1 n1 f1 n1' g1)]) ∧ RqO w' (chkR b1 n1 f1 n1' g1) ((rawq b1 n1 f1 n1' g1).floor : Rat) x ∧ Below w.heap.size w w' := by
  by_cases e : chkR b1 n1 f1 n1' g1 = 0
  · obtain ⟨ra, sa⟩ := h.q30 e l
    refine (ratFloorQ ra (sa.up (by omega))).mono ?_
    rintro e' w' ⟨x, he', hx, hb⟩
    exact ⟨x, by rw [e]; exact he', ⟨fun _ => hx, fun c => absurd e c⟩, hb⟩
  · refine (ratFloor_bad h e).mono ?_
    rintro e' w' ⟨he', hb⟩
    exact ⟨zeroRat, he', ⟨fun c => absurd c e, fun _ => rfl⟩, hb⟩

theorem ratCeilO {w : World} {b1 : Bool} {A1 A1' : Option Addr} {n1 c1 n1' c1' : Nat} {f1 g1 : Nat → Nat} (h : Raw w b1 A1 n1 c1 f1 A1' n1' c1' g1) (l : ¬ Lg n1 n1') :
    Calls Tryz.prog 34 #[.agg #[.bool b1, .slice A1 n1 c1, .slice A1' n1' c1']] w fun e w' => ∃ x, e = .returned (.tuple #[x, .int .i64 (chkR b1 n1 f1 n1' g1)]) ∧ RqO w' (chkR b1 n1 f1 n1' g1) ((rawq b1 n1 f1 n1' g1).ceil : Rat) x ∧ Below w.heap.size w w' := by
  by_cases e : chkR b1 n1 f1 n1' g1 = 0
  · obtain ⟨ra, sa⟩ := h.q30 e l
    refine (ratCeilQ ra (sa.up (by omega))).mono ?_
    rintro e' w' ⟨x, he', hx, hb⟩
    exact ⟨x, by rw [e]; exact he', ⟨fun _ => hx, fun c => absurd e c⟩, hb⟩
  · refine (ratCeil_bad h e).mono ?_
    rintro e' w' ⟨he', hb⟩
    exact ⟨zeroRat, he', ⟨fun c => absurd c e, fun _ => rfl⟩, hb⟩

theorem ratScaleO {w : World} {b1 : Bool} {A1 A1' : Option Addr} {n1 c1 n1' c1' : Nat} {f1 g1 : Nat → Nat} (n : Int) (hn : Hid (I64 n)) (h : Raw w b1 A1 n1 c1 f1 A1' n1' c1' g1) (l : ¬ Lg n1 n1') (hT : Tabs w) :
    Calls Tryz.prog 36 #[.agg #[.bool b1, .slice A1 n1 c1, .slice A1' n1' c1'], .int .i64 n] w fun e w' => e = .returned (scV (chkR b1 n1 f1 n1' g1) (rawq b1 n1 f1 n1' g1 * (n : Rat))) ∧ Below w.heap.size w w' := by
  unfold scV
  by_cases e : chkR b1 n1 f1 n1' g1 = 0
  · obtain ⟨ra, sa⟩ := h.q30 e l
    rw [if_pos e]
    exact ratScaleQ n ra hT (by omega) sa hn.out.1 hn.out.2
  · rw [if_neg e]
    exact ratScale_bad n h e

theorem refOfO {w : World} (a b : Int) (ha : Hid (I64 a)) (hb : Hid (I64 b)) :
    Calls Tryz.prog 29 #[.int .i64 a, .int .i64 b] w fun e w' => ∃ x, e = .returned (.tuple #[x, .int .i64 (ofE b)]) ∧ RqO w' (ofE b) (ofq a b) x ∧ Below w.heap.size w w' := by
  by_cases h : b = 0
  · subst h
    refine (refOf_zero a w).mono ?_
    rintro e w' ⟨he', hb⟩
    exact ⟨zeroRat, he', ⟨fun c => absurd (show (6 : Int) = 0 from c) (by decide), fun _ => rfl⟩, hb⟩
  · have hd : ofE b = 0 := by unfold ofE; rw [if_neg h]
    refine (refOfOk a b ha hb h).mono ?_
    rintro e w' ⟨x, he', hx, hb⟩
    exact ⟨x, by rw [hd]; exact he', ⟨fun _ => hx, fun c => absurd hd c⟩, hb⟩

theorem refMakeO {w : World} {neg : Bool} {A A' : Option Addr} {n c m c' : Nat} {f g : Nat → Nat} (h : Raw w neg A n c f A' m c' g) :
    Calls Tryz.prog 31 #[.bool neg, .slice A n c, .slice A' m c'] w fun e w' => ∃ x, e = .returned (.tuple #[x, .int .i64 (chkP n f m g)]) ∧ RqO w' (chkP n f m g) (rawq neg n f m g) x ∧ Below w.heap.size w w' := by
  by_cases e : chkP n f m g = 0
  · obtain ⟨e1, e2, e3, _⟩ := chkP_eq (neg := neg) e
    obtain ⟨k1, l1⟩ := nr_of_chk h.num e1
    obtain ⟨k2, l2⟩ := nr_of_chk h.den e2
    have hD : nv g m ≠ 0 := fun c => e3 ((chk_zero e2).2.zero_iff.1 c)
    refine (refMakeOk neg h.num h.den e).mono ?_
    rintro e' w' ⟨x, he', hx, hb⟩
    exact ⟨x, by rw [e]; exact he', ⟨fun _ => hx, fun c => absurd e c⟩, hb⟩
  · refine (refMake_bad neg h.num h.den e).mono ?_
    rintro e' w' ⟨he', hb⟩
    exact ⟨zeroRat, he', ⟨fun c => absurd c e, fun _ => rfl⟩, hb⟩

theorem refFloorO {w : World} {b1 : Bool} {A1 A1' : Option Addr} {n1 c1 n1' c1' : Nat} {f1 g1 : Nat → Nat} (h : Raw w b1 A1 n1 c1 f1 A1' n1' c1' g1) (l : ¬ Lg n1 n1') :
    Calls Tryz.prog 33 #[.agg #[.bool b1, .slice A1 n1 c1, .slice A1' n1' c1']] w fun e w' => ∃ x, e = .returned (.tuple #[x, .int .i64 (chkR b1 n1 f1 n1' g1)]) ∧ RqO w' (chkR b1 n1 f1 n1' g1) ((rawq b1 n1 f1 n1' g1).floor : Rat) x ∧ Below w.heap.size w w' := by
  by_cases e : chkR b1 n1 f1 n1' g1 = 0
  · obtain ⟨ra, sa⟩ := h.q30 e l
    refine (refFloorOk ra sa (by omega)).mono ?_
    rintro e' w' ⟨x, he', hx, hb⟩
    exact ⟨x, by rw [e]; exact he', ⟨fun _ => hx, fun c => absurd e c⟩, hb⟩
  · refine (refFloor_bad h e).mono ?_
    rintro e' w' ⟨he', hb⟩
    exact ⟨zeroRat, he', ⟨fun c => absurd c e, fun _ => rfl⟩, hb⟩

theorem refCeilO {w : World} {b1 : Bool} {A1 A1' : Option Addr} {n1 c1 n1' c1' : Nat} {f1 g1 : Nat → Nat} (h : Raw w b1 A1 n1 c1 f1 A1' n1' c1' g1) (l : ¬ Lg n1 n1') :
    Calls Tryz.prog 35 #[.agg #[.bool b1, .slice A1 n1 c1, .slice A1' n1' c1']] w fun e w' => ∃ x, e = .returned (.tuple #[x, .int .i64 (chkR b1 n1 f1 n1' g1)]) ∧ RqO w' (chkR b1 n1 f1 n1' g1) ((rawq b1 n1 f1 n1' g1).ceil : Rat) x ∧ Below w.heap.size w w' := by
  by_cases e : chkR b1 n1 f1 n1' g1 = 0
  · obtain ⟨ra, sa⟩ := h.q30 e l
    refine (refCeilOk ra sa (by omega)).mono ?_
    rintro e' w' ⟨x, he', hx, hb⟩
    exact ⟨x, by rw [e]; exact he', ⟨fun _ => hx, fun c => absurd e c⟩, hb⟩
  · refine (refCeil_bad h e).mono ?_
    rintro e' w' ⟨he', hb⟩
    exact ⟨zeroRat, he', ⟨fun c => absurd c e, fun _ => rfl⟩, hb⟩

theorem refScaleO {w : World} {b1 : Bool} {A1 A1' : Option Addr} {n1 c1 n1' c1' : Nat} {f1 g1 : Nat → Nat} (n : Int) (hn : Hid (I64 n)) (h : Raw w b1 A1 n1 c1 f1 A1' n1' c1' g1) (l : ¬ Lg n1 n1') :
    Calls Tryz.prog 37 #[.agg #[.bool b1, .slice A1 n1 c1, .slice A1' n1' c1'], .int .i64 n] w fun e w' => e = .returned (scV (chkR b1 n1 f1 n1' g1) (rawq b1 n1 f1 n1' g1 * (n : Rat))) ∧ Below w.heap.size w w' := by
  unfold scV
  by_cases e : chkR b1 n1 f1 n1' g1 = 0
  · obtain ⟨ra, sa⟩ := h.q30 e l
    rw [if_pos e]
    exact refScaleOk n hn ra sa (by omega)
  · rw [if_neg e]
    exact refScale_bad n h e

end Go.Proofs.YtmcacofpnnaplaaGreatDoor

/- The walk of RatWholes: it returns true, and writes nothing that was there. Conditions as premises: the parts read, and the table of signs holds its numbers. -/
namespace Go.Proofs.YtmcacofpnnaplaaGreatDoor
open Go.RowKit Go.Shelf
attribute [local go_sem ↓] Go.wp_at_zero Go.wp_at_succ


set_option maxRecDepth 100000 in
set_option maxHeartbeats 16000000 in
theorem ratWholes_awake (b1 : Bool) (A1 A1' : Option Addr) (n1 c1 n1' c1' : Nat) (f1 g1 : Nat → Nat) (m n : Int) (_hm : Hid (I64 m)) (_hn : Hid (I64 n)) (w : World) (h : Raw w b1 A1 n1 c1 f1 A1' n1' c1' g1) (hT : Tabs w) (l1 : Lg n1 n1') :
    Calls Tryz.prog 4 #[.agg #[.bool b1, .slice A1 n1 c1, .slice A1' n1' c1'], .int .i64 m, .int .i64 n] w fun e w' => e = .returned (.bool true) ∧ Below w.heap.size w w' := by
  have hbb := below1 w (.cells #[.bool b1, .slice A1 n1 c1, .slice A1' n1' c1'] 25)
  have HX := Lib.hid hbb
  have KP1 := Lib.hid (Blk.new w #[.bool b1, .slice A1 n1 c1, .slice A1' n1' c1'] 25)
  have HA := Lib.hid h
  have HT := Lib.hid hT
  clear h hT hbb
  have d10 := KP1.out.cell (i := 0) rfl
  have d11 := KP1.out.cell (i := 1) rfl
  have d12 := KP1.out.cell (i := 2) rfl
  go_enter Tryz.func4, Tryz.ntmps4
  go_wp2_with fail
  refine (longR_yes b1 A1 A1' n1 c1 n1' c1' l1).mono ?_
  rintro _ w3 ⟨rfl, hb⟩
  replace KP1 := Lib.hid (KP1.out.after hb)
  replace HX := Lib.hid (HX.out.trans (hb.mono HX.out.size))
  clear hb d10 d11 d12
  go_wp2_with fail
  refine (awakeN (HT.out.below HX.out)).mono ?_
  rintro _ w5 ⟨rfl, hb⟩
  replace HX := Lib.hid (HX.out.trans (hb.mono HX.out.size))
  clear hb
  go_wp2_with fail
  go_ret
  exact ⟨rfl, HX.out⟩

set_option maxRecDepth 100000 in
set_option maxHeartbeats 16000000 in
theorem ratWholes_main (b1 : Bool) (A1 A1' : Option Addr) (n1 c1 n1' c1' : Nat) (f1 g1 : Nat → Nat) (m n : Int) (hm : Hid (I64 m)) (hn : Hid (I64 n)) (w : World) (h : Raw w b1 A1 n1 c1 f1 A1' n1' c1' g1) (hT : Tabs w) (l1 : ¬ Lg n1 n1') :
    Calls Tryz.prog 4 #[.agg #[.bool b1, .slice A1 n1 c1, .slice A1' n1' c1'], .int .i64 m, .int .i64 n] w fun e w' => e = .returned (.bool true) ∧ Below w.heap.size w w' := by
  have hbb := below1 w (.cells #[.bool b1, .slice A1 n1 c1, .slice A1' n1' c1'] 25)
  have HX := Lib.hid hbb
  have KP1 := Lib.hid (Blk.new w #[.bool b1, .slice A1 n1 c1, .slice A1' n1' c1'] 25)
  have HA := Lib.hid h
  have HT := Lib.hid hT
  clear h hT hbb
  have d10 := KP1.out.cell (i := 0) rfl
  have d11 := KP1.out.cell (i := 1) rfl
  have d12 := KP1.out.cell (i := 2) rfl
  go_enter Tryz.func4, Tryz.ntmps4
  go_wp2_with fail
  refine (longR_no b1 A1 A1' n1 c1 n1' c1' l1).mono ?_
  rintro _ w10 ⟨rfl, hb⟩
  replace KP1 := Lib.hid (KP1.out.after hb)
  replace HX := Lib.hid (HX.out.trans (hb.mono HX.out.size))
  clear hb d10 d11 d12
  have HW := HX
  have T10 := Lib.hid (HT.out.below HX.out)
  have RA := Lib.hid (HA.out.below HX.out)
  have HY := Lib.hid (Below.refl w10.heap.size w10)
  obtain ⟨EO, hEO⟩ : ∃ x, ofE n = x := ⟨_, rfl⟩
  obtain ⟨EM, hEM⟩ : ∃ x, chkP n1 f1 n1' g1 = x := ⟨_, rfl⟩
  obtain ⟨EC, hEC⟩ : ∃ x, chkR b1 n1 f1 n1' g1 = x := ⟨_, rfl⟩
  obtain ⟨si, se, hS⟩ := scV_get (chkR b1 n1 f1 n1' g1) (rawq b1 n1 f1 n1' g1 * (n : Rat))
  have HEO := Lib.hid hEO
  have HEM := Lib.hid hEM
  have HEC := Lib.hid hEC
  have HS := Lib.hid hS
  have hL1 := Lib.hid l1
  clear HX HT HA hEO hEM hEC hS l1
  have d10 := (KP1.out.after HY.out).cell (i := 0) rfl
  have d11 := (KP1.out.after HY.out).cell (i := 1) rfl
  have d12 := (KP1.out.after HY.out).cell (i := 2) rfl
  have C := ratOfO m n hm hn (T10.out.below HY.out)
  rw [HEO.out] at C
  have CC := Lib.hid C
  clear C
  go_wp2_with fail
  refine CC.out.mono ?_
  rintro _ w11 ⟨x, rfl, hx, hb⟩
  obtain ⟨bw11, Aw11, nw11, cw11, Aw11', nw11', cw11', rfl⟩ := hx.get
  clear CC
  clear d10 d11 d12
  replace HY := Lib.hid (HY.out.trans (hb.mono HY.out.size))
  clear hb
  have hba := below1 w11 (.cells #[.bool bw11, .slice Aw11 nw11 cw11, .slice Aw11' nw11' cw11'] 25)
  have R7 := Lib.hid (hx.below hba)
  have K7 := Lib.hid (Blk.new w11 #[.bool bw11, .slice Aw11 nw11 cw11, .slice Aw11' nw11' cw11'] 25)
  have hge7 := HY.out.size
  replace HY := Lib.hid (HY.out.trans (hba.mono HY.out.size))
  clear hx hba
  go_upto_region 4 with fail
  generalize hP : w11.heap.size = P7 at *
  clear hP
  generalize w11.alloc (.cells #[.bool bw11, .slice Aw11 nw11 cw11, .slice Aw11' nw11' cw11'] 25) = vw11 at *
  have d10 := (KP1.out.after HY.out).cell (i := 0) rfl
  have d11 := (KP1.out.after HY.out).cell (i := 1) rfl
  have d12 := (KP1.out.after HY.out).cell (i := 2) rfl
  have C := refOfO m n hm hn (w := vw11)
  rw [HEO.out] at C
  have CC := Lib.hid C
  clear C
  go_wp2_with fail
  refine CC.out.mono ?_
  rintro _ w12 ⟨x, rfl, hx, hb⟩
  obtain ⟨bw12, Aw12, nw12, cw12, Aw12', nw12', cw12', rfl⟩ := hx.get
  clear CC
  clear d10 d11 d12
  replace HY := Lib.hid (HY.out.trans (hb.mono HY.out.size))
  replace K7 := Lib.hid (K7.out.after hb)
  replace R7 := Lib.hid (R7.out.below hb)
  clear hb
  have hba := below1 w12 (.cells #[.bool bw12, .slice Aw12 nw12 cw12, .slice Aw12' nw12' cw12'] 25)
  have R9 := Lib.hid (hx.below hba)
  have K9 := Lib.hid (Blk.new w12 #[.bool bw12, .slice Aw12 nw12 cw12, .slice Aw12' nw12' cw12'] 25)
  have hge9 := HY.out.size
  have hne9 := Nat.ne_of_lt K7.out.lt
  replace K7 := Lib.hid (K7.out.after hba)
  replace R7 := Lib.hid (R7.out.below hba)
  replace HY := Lib.hid (HY.out.trans (hba.mono HY.out.size))
  clear hx hba
  go_upto_region 5 with fail
  generalize hP : w12.heap.size = P9 at *
  clear hP
  generalize w12.alloc (.cells #[.bool bw12, .slice Aw12 nw12 cw12, .slice Aw12' nw12' cw12'] 25) = vw12 at *
  have hnf9 := hne9.symm
  have d10 := K7.out.cell (i := 0) rfl
  have d20 := K9.out.cell (i := 0) rfl
  have d11 := K7.out.cell (i := 1) rfl
  have d21 := K9.out.cell (i := 1) rfl
  have d12 := K7.out.cell (i := 2) rfl
  have d22 := K9.out.cell (i := 2) rfl
  go_wp2_with fail
  refine (sameRatO R7.out R9.out).mono ?_
  rintro _ w13 ⟨rfl, hb⟩
  replace HY := Lib.hid (HY.out.trans (hb.mono HY.out.size))
  replace K7 := Lib.hid (K7.out.after hb)
  replace K9 := Lib.hid (K9.out.after hb)
  clear hb R7 R9
  clear d10 d11 d12 d20 d21 d22
  go_upto_region 7 with fail
  have d10 := (KP1.out.after HY.out).cell (i := 0) rfl
  have d11 := (KP1.out.after HY.out).cell (i := 1) rfl
  have d12 := (KP1.out.after HY.out).cell (i := 2) rfl
  have C := ratMakeO (RA.out.below HY.out)
  rw [HEM.out] at C
  have CC := Lib.hid C
  clear C
  go_wp2_with fail
  refine CC.out.mono ?_
  rintro _ w14 ⟨x, rfl, hx, hb⟩
  obtain ⟨bw14, Aw14, nw14, cw14, Aw14', nw14', cw14', rfl⟩ := hx.get
  clear CC
  clear d10 d11 d12
  replace HY := Lib.hid (HY.out.trans (hb.mono HY.out.size))
  replace K7 := Lib.hid (K7.out.after hb)
  replace K9 := Lib.hid (K9.out.after hb)
  clear hb
  have z0 := K7.out.cell (i := 0) rfl
  have z1 := K7.out.cell (i := 1) rfl
  have z2 := K7.out.cell (i := 2) rfl
  have zf := K7.out.free
  have zl := K7.out.lt
  have R7 : Hid (RqO (((w14.setCell ⟨P7, 0, none⟩ (.bool bw14)).setCell ⟨P7, 1, none⟩ (.slice Aw14 nw14 cw14)).setCell ⟨P7, 2, none⟩ (.slice Aw14' nw14' cw14')) _ _ _) := Lib.hid (hx.put3 (i := 0) (j := 1) (l := 2) (u := .bool bw14) (x := .slice Aw14 nw14 cw14) (y := .slice Aw14' nw14' cw14') K7.out (hnoR _ _ _ _ _ _ _))
  replace K9 := Lib.hid (K9.out.far3 hnf9 (.bool bw14) (.slice Aw14 nw14 cw14) (.slice Aw14' nw14' cw14'))
  replace K7 := Lib.hid (K7.out.row3 (.bool bw14) (.slice Aw14 nw14 cw14) (.slice Aw14' nw14' cw14'))
  replace HY := Lib.hid (below_put3 (u := .bool bw14) (x := .slice Aw14 nw14 cw14) (y := .slice Aw14' nw14' cw14') HY.out hge7)
  clear hx
  go_upto_region 8 with fail
  clear z0 z1 z2 zf zl
  generalize (((w14.setCell ⟨P7, 0, none⟩ (.bool bw14)).setCell ⟨P7, 1, none⟩ (.slice Aw14 nw14 cw14)).setCell ⟨P7, 2, none⟩ (.slice Aw14' nw14' cw14')) = vw14 at *
  have d10 := (KP1.out.after HY.out).cell (i := 0) rfl
  have d11 := (KP1.out.after HY.out).cell (i := 1) rfl
  have d12 := (KP1.out.after HY.out).cell (i := 2) rfl
  have C := refMakeO (RA.out.below HY.out)
  rw [HEM.out] at C
  have CC := Lib.hid C
  clear C
  go_wp2_with fail
  refine CC.out.mono ?_
  rintro _ w15 ⟨x, rfl, hx, hb⟩
  obtain ⟨bw15, Aw15, nw15, cw15, Aw15', nw15', cw15', rfl⟩ := hx.get
  clear CC
  clear d10 d11 d12
  replace HY := Lib.hid (HY.out.trans (hb.mono HY.out.size))
  replace K7 := Lib.hid (K7.out.after hb)
  replace K9 := Lib.hid (K9.out.after hb)
  replace R7 := Lib.hid (R7.out.below hb)
  clear hb
  have z0 := K9.out.cell (i := 0) rfl
  have z1 := K9.out.cell (i := 1) rfl
  have z2 := K9.out.cell (i := 2) rfl
  have zf := K9.out.free
  have zl := K9.out.lt
  have R9 : Hid (RqO (((w15.setCell ⟨P9, 0, none⟩ (.bool bw15)).setCell ⟨P9, 1, none⟩ (.slice Aw15 nw15 cw15)).setCell ⟨P9, 2, none⟩ (.slice Aw15' nw15' cw15')) _ _ _) := Lib.hid (hx.put3 (i := 0) (j := 1) (l := 2) (u := .bool bw15) (x := .slice Aw15 nw15 cw15) (y := .slice Aw15' nw15' cw15') K9.out (hnoR _ _ _ _ _ _ _))
  replace K7 := Lib.hid (K7.out.far3 hne9 (.bool bw15) (.slice Aw15 nw15 cw15) (.slice Aw15' nw15' cw15'))
  replace R7 := Lib.hid (R7.out.put3 (i := 0) (j := 1) (l := 2) (u := .bool bw15) (x := .slice Aw15 nw15 cw15) (y := .slice Aw15' nw15' cw15') K9.out (hnoR _ _ _ _ _ _ _))
  replace K9 := Lib.hid (K9.out.row3 (.bool bw15) (.slice Aw15 nw15 cw15) (.slice Aw15' nw15' cw15'))
  replace HY := Lib.hid (below_put3 (u := .bool bw15) (x := .slice Aw15 nw15 cw15) (y := .slice Aw15' nw15' cw15') HY.out hge9)
  clear hx
  go_upto_region 9 with fail
  clear z0 z1 z2 zf zl
  generalize (((w15.setCell ⟨P9, 0, none⟩ (.bool bw15)).setCell ⟨P9, 1, none⟩ (.slice Aw15 nw15 cw15)).setCell ⟨P9, 2, none⟩ (.slice Aw15' nw15' cw15')) = vw15 at *
  have d10 := K7.out.cell (i := 0) rfl
  have d20 := K9.out.cell (i := 0) rfl
  have d11 := K7.out.cell (i := 1) rfl
  have d21 := K9.out.cell (i := 1) rfl
  have d12 := K7.out.cell (i := 2) rfl
  have d22 := K9.out.cell (i := 2) rfl
  go_wp2_with fail
  refine (sameRatO R7.out R9.out).mono ?_
  rintro _ w16 ⟨rfl, hb⟩
  replace HY := Lib.hid (HY.out.trans (hb.mono HY.out.size))
  replace K7 := Lib.hid (K7.out.after hb)
  replace K9 := Lib.hid (K9.out.after hb)
  clear hb R7 R9
  clear d10 d11 d12 d20 d21 d22
  go_upto_region 11 with fail
  have d10 := (KP1.out.after HY.out).cell (i := 0) rfl
  have d11 := (KP1.out.after HY.out).cell (i := 1) rfl
  have d12 := (KP1.out.after HY.out).cell (i := 2) rfl
  have C := ratFloorO (RA.out.below HY.out) hL1.out
  rw [HEC.out] at C
  have CC := Lib.hid C
  clear C
  go_wp2_with fail
  refine CC.out.mono ?_
  rintro _ w17 ⟨x, rfl, hx, hb⟩
  obtain ⟨bw17, Aw17, nw17, cw17, Aw17', nw17', cw17', rfl⟩ := hx.get
  clear CC
  clear d10 d11 d12
  replace HY := Lib.hid (HY.out.trans (hb.mono HY.out.size))
  replace K7 := Lib.hid (K7.out.after hb)
  replace K9 := Lib.hid (K9.out.after hb)
  clear hb
  have z0 := K7.out.cell (i := 0) rfl
  have z1 := K7.out.cell (i := 1) rfl
  have z2 := K7.out.cell (i := 2) rfl
  have zf := K7.out.free
  have zl := K7.out.lt
  have R7 : Hid (RqO (((w17.setCell ⟨P7, 0, none⟩ (.bool bw17)).setCell ⟨P7, 1, none⟩ (.slice Aw17 nw17 cw17)).setCell ⟨P7, 2, none⟩ (.slice Aw17' nw17' cw17')) _ _ _) := Lib.hid (hx.put3 (i := 0) (j := 1) (l := 2) (u := .bool bw17) (x := .slice Aw17 nw17 cw17) (y := .slice Aw17' nw17' cw17') K7.out (hnoR _ _ _ _ _ _ _))
  replace K9 := Lib.hid (K9.out.far3 hnf9 (.bool bw17) (.slice Aw17 nw17 cw17) (.slice Aw17' nw17' cw17'))
  replace K7 := Lib.hid (K7.out.row3 (.bool bw17) (.slice Aw17 nw17 cw17) (.slice Aw17' nw17' cw17'))
  replace HY := Lib.hid (below_put3 (u := .bool bw17) (x := .slice Aw17 nw17 cw17) (y := .slice Aw17' nw17' cw17') HY.out hge7)
  clear hx
  go_upto_region 12 with fail
  clear z0 z1 z2 zf zl
  generalize (((w17.setCell ⟨P7, 0, none⟩ (.bool bw17)).setCell ⟨P7, 1, none⟩ (.slice Aw17 nw17 cw17)).setCell ⟨P7, 2, none⟩ (.slice Aw17' nw17' cw17')) = vw17 at *
  have d10 := (KP1.out.after HY.out).cell (i := 0) rfl
  have d11 := (KP1.out.after HY.out).cell (i := 1) rfl
  have d12 := (KP1.out.after HY.out).cell (i := 2) rfl
  have C := refFloorO (RA.out.below HY.out) hL1.out
  rw [HEC.out] at C
  have CC := Lib.hid C
  clear C
  go_wp2_with fail
  refine CC.out.mono ?_
  rintro _ w18 ⟨x, rfl, hx, hb⟩
  obtain ⟨bw18, Aw18, nw18, cw18, Aw18', nw18', cw18', rfl⟩ := hx.get
  clear CC
  clear d10 d11 d12
  replace HY := Lib.hid (HY.out.trans (hb.mono HY.out.size))
  replace K7 := Lib.hid (K7.out.after hb)
  replace K9 := Lib.hid (K9.out.after hb)
  replace R7 := Lib.hid (R7.out.below hb)
  clear hb
  have z0 := K9.out.cell (i := 0) rfl
  have z1 := K9.out.cell (i := 1) rfl
  have z2 := K9.out.cell (i := 2) rfl
  have zf := K9.out.free
  have zl := K9.out.lt
  have R9 : Hid (RqO (((w18.setCell ⟨P9, 0, none⟩ (.bool bw18)).setCell ⟨P9, 1, none⟩ (.slice Aw18 nw18 cw18)).setCell ⟨P9, 2, none⟩ (.slice Aw18' nw18' cw18')) _ _ _) := Lib.hid (hx.put3 (i := 0) (j := 1) (l := 2) (u := .bool bw18) (x := .slice Aw18 nw18 cw18) (y := .slice Aw18' nw18' cw18') K9.out (hnoR _ _ _ _ _ _ _))
  replace K7 := Lib.hid (K7.out.far3 hne9 (.bool bw18) (.slice Aw18 nw18 cw18) (.slice Aw18' nw18' cw18'))
  replace R7 := Lib.hid (R7.out.put3 (i := 0) (j := 1) (l := 2) (u := .bool bw18) (x := .slice Aw18 nw18 cw18) (y := .slice Aw18' nw18' cw18') K9.out (hnoR _ _ _ _ _ _ _))
  replace K9 := Lib.hid (K9.out.row3 (.bool bw18) (.slice Aw18 nw18 cw18) (.slice Aw18' nw18' cw18'))
  replace HY := Lib.hid (below_put3 (u := .bool bw18) (x := .slice Aw18 nw18 cw18) (y := .slice Aw18' nw18' cw18') HY.out hge9)
  clear hx
  go_upto_region 13 with fail
  clear z0 z1 z2 zf zl
  generalize (((w18.setCell ⟨P9, 0, none⟩ (.bool bw18)).setCell ⟨P9, 1, none⟩ (.slice Aw18 nw18 cw18)).setCell ⟨P9, 2, none⟩ (.slice Aw18' nw18' cw18')) = vw18 at *
  have d10 := K7.out.cell (i := 0) rfl
  have d20 := K9.out.cell (i := 0) rfl
  have d11 := K7.out.cell (i := 1) rfl
  have d21 := K9.out.cell (i := 1) rfl
  have d12 := K7.out.cell (i := 2) rfl
  have d22 := K9.out.cell (i := 2) rfl
  go_wp2_with fail
  refine (sameRatO R7.out R9.out).mono ?_
  rintro _ w19 ⟨rfl, hb⟩
  replace HY := Lib.hid (HY.out.trans (hb.mono HY.out.size))
  replace K7 := Lib.hid (K7.out.after hb)
  replace K9 := Lib.hid (K9.out.after hb)
  clear hb R7 R9
  clear d10 d11 d12 d20 d21 d22
  go_upto_region 15 with fail
  have d10 := (KP1.out.after HY.out).cell (i := 0) rfl
  have d11 := (KP1.out.after HY.out).cell (i := 1) rfl
  have d12 := (KP1.out.after HY.out).cell (i := 2) rfl
  have C := ratCeilO (RA.out.below HY.out) hL1.out
  rw [HEC.out] at C
  have CC := Lib.hid C
  clear C
  go_wp2_with fail
  refine CC.out.mono ?_
  rintro _ w20 ⟨x, rfl, hx, hb⟩
  obtain ⟨bw20, Aw20, nw20, cw20, Aw20', nw20', cw20', rfl⟩ := hx.get
  clear CC
  clear d10 d11 d12
  replace HY := Lib.hid (HY.out.trans (hb.mono HY.out.size))
  replace K7 := Lib.hid (K7.out.after hb)
  replace K9 := Lib.hid (K9.out.after hb)
  clear hb
  have z0 := K7.out.cell (i := 0) rfl
  have z1 := K7.out.cell (i := 1) rfl
  have z2 := K7.out.cell (i := 2) rfl
  have zf := K7.out.free
  have zl := K7.out.lt
  have R7 : Hid (RqO (((w20.setCell ⟨P7, 0, none⟩ (.bool bw20)).setCell ⟨P7, 1, none⟩ (.slice Aw20 nw20 cw20)).setCell ⟨P7, 2, none⟩ (.slice Aw20' nw20' cw20')) _ _ _) := Lib.hid (hx.put3 (i := 0) (j := 1) (l := 2) (u := .bool bw20) (x := .slice Aw20 nw20 cw20) (y := .slice Aw20' nw20' cw20') K7.out (hnoR _ _ _ _ _ _ _))
  replace K9 := Lib.hid (K9.out.far3 hnf9 (.bool bw20) (.slice Aw20 nw20 cw20) (.slice Aw20' nw20' cw20'))
  replace K7 := Lib.hid (K7.out.row3 (.bool bw20) (.slice Aw20 nw20 cw20) (.slice Aw20' nw20' cw20'))
  replace HY := Lib.hid (below_put3 (u := .bool bw20) (x := .slice Aw20 nw20 cw20) (y := .slice Aw20' nw20' cw20') HY.out hge7)
  clear hx
  go_upto_region 16 with fail
  clear z0 z1 z2 zf zl
  generalize (((w20.setCell ⟨P7, 0, none⟩ (.bool bw20)).setCell ⟨P7, 1, none⟩ (.slice Aw20 nw20 cw20)).setCell ⟨P7, 2, none⟩ (.slice Aw20' nw20' cw20')) = vw20 at *
  have d10 := (KP1.out.after HY.out).cell (i := 0) rfl
  have d11 := (KP1.out.after HY.out).cell (i := 1) rfl
  have d12 := (KP1.out.after HY.out).cell (i := 2) rfl
  have C := refCeilO (RA.out.below HY.out) hL1.out
  rw [HEC.out] at C
  have CC := Lib.hid C
  clear C
  go_wp2_with fail
  refine CC.out.mono ?_
  rintro _ w21 ⟨x, rfl, hx, hb⟩
  obtain ⟨bw21, Aw21, nw21, cw21, Aw21', nw21', cw21', rfl⟩ := hx.get
  clear CC
  clear d10 d11 d12
  replace HY := Lib.hid (HY.out.trans (hb.mono HY.out.size))
  replace K7 := Lib.hid (K7.out.after hb)
  replace K9 := Lib.hid (K9.out.after hb)
  replace R7 := Lib.hid (R7.out.below hb)
  clear hb
  have z0 := K9.out.cell (i := 0) rfl
  have z1 := K9.out.cell (i := 1) rfl
  have z2 := K9.out.cell (i := 2) rfl
  have zf := K9.out.free
  have zl := K9.out.lt
  have R9 : Hid (RqO (((w21.setCell ⟨P9, 0, none⟩ (.bool bw21)).setCell ⟨P9, 1, none⟩ (.slice Aw21 nw21 cw21)).setCell ⟨P9, 2, none⟩ (.slice Aw21' nw21' cw21')) _ _ _) := Lib.hid (hx.put3 (i := 0) (j := 1) (l := 2) (u := .bool bw21) (x := .slice Aw21 nw21 cw21) (y := .slice Aw21' nw21' cw21') K9.out (hnoR _ _ _ _ _ _ _))
  replace K7 := Lib.hid (K7.out.far3 hne9 (.bool bw21) (.slice Aw21 nw21 cw21) (.slice Aw21' nw21' cw21'))
  replace R7 := Lib.hid (R7.out.put3 (i := 0) (j := 1) (l := 2) (u := .bool bw21) (x := .slice Aw21 nw21 cw21) (y := .slice Aw21' nw21' cw21') K9.out (hnoR _ _ _ _ _ _ _))
  replace K9 := Lib.hid (K9.out.row3 (.bool bw21) (.slice Aw21 nw21 cw21) (.slice Aw21' nw21' cw21'))
  replace HY := Lib.hid (below_put3 (u := .bool bw21) (x := .slice Aw21 nw21 cw21) (y := .slice Aw21' nw21' cw21') HY.out hge9)
  clear hx
  go_upto_region 17 with fail
  clear z0 z1 z2 zf zl
  generalize (((w21.setCell ⟨P9, 0, none⟩ (.bool bw21)).setCell ⟨P9, 1, none⟩ (.slice Aw21 nw21 cw21)).setCell ⟨P9, 2, none⟩ (.slice Aw21' nw21' cw21')) = vw21 at *
  have d10 := (KP1.out.after HY.out).cell (i := 0) rfl
  have d11 := (KP1.out.after HY.out).cell (i := 1) rfl
  have d12 := (KP1.out.after HY.out).cell (i := 2) rfl
  have C := ratScaleO n hn (RA.out.below HY.out) hL1.out (T10.out.below HY.out)
  rw [HS.out] at C
  have CC := Lib.hid C
  clear C
  go_wp2_with fail
  refine CC.out.mono ?_
  rintro _ w22 ⟨rfl, hb⟩
  clear CC
  clear d10 d11 d12
  replace HY := Lib.hid (HY.out.trans (hb.mono HY.out.size))
  replace K7 := Lib.hid (K7.out.after hb)
  replace R7 := Lib.hid (R7.out.below hb)
  replace K9 := Lib.hid (K9.out.after hb)
  replace R9 := Lib.hid (R9.out.below hb)
  clear hb
  go_upto_region 18 with fail
  have d10 := (KP1.out.after HY.out).cell (i := 0) rfl
  have d11 := (KP1.out.after HY.out).cell (i := 1) rfl
  have d12 := (KP1.out.after HY.out).cell (i := 2) rfl
  have C := refScaleO n hn (RA.out.below HY.out) hL1.out 
  rw [HS.out] at C
  have CC := Lib.hid C
  clear C
  go_wp2_with fail
  refine CC.out.mono ?_
  rintro _ w23 ⟨rfl, hb⟩
  clear CC
  clear d10 d11 d12
  replace HY := Lib.hid (HY.out.trans (hb.mono HY.out.size))
  replace K7 := Lib.hid (K7.out.after hb)
  replace R7 := Lib.hid (R7.out.below hb)
  replace K9 := Lib.hid (K9.out.after hb)
  replace R9 := Lib.hid (R9.out.below hb)
  clear hb
  go_upto_region 19 with fail
  have d10 := K7.out.cell (i := 0) rfl
  have d20 := K9.out.cell (i := 0) rfl
  have d11 := K7.out.cell (i := 1) rfl
  have d21 := K9.out.cell (i := 1) rfl
  have d12 := K7.out.cell (i := 2) rfl
  have d22 := K9.out.cell (i := 2) rfl
  go_wp2_with fail
  refine (sameRatO R7.out R9.out).mono ?_
  rintro _ w24 ⟨rfl, hb⟩
  replace HY := Lib.hid (HY.out.trans (hb.mono HY.out.size))
  replace K7 := Lib.hid (K7.out.after hb)
  replace K9 := Lib.hid (K9.out.after hb)
  clear hb R7 R9
  clear d10 d11 d12 d20 d21 d22
  go_wp2_with fail
  refine (awakeN (T10.out.below HY.out)).mono ?_
  rintro _ w99 ⟨rfl, hb⟩
  replace HY := Lib.hid (HY.out.trans (hb.mono HY.out.size))
  clear hb
  go_wp2_with fail
  go_ret
  exact ⟨rfl, HW.out.trans (HY.out.mono HW.out.size)⟩
end Go.Proofs.YtmcacofpnnaplaaGreatDoor

/- The contracts of the functions under the laws of package rat: SimMath, SizeA, Simple, SimpleB, SimpleC, SimpleWalk, joined into one file. -/
import Derived.Test.YtmcacofpnnaplaaGreatDoorRatThree
import Derived.Test.YtmcacofpnnaplaaGreatDoorRefOne
import Derived.Test.YtmcacofpnnaplaaGreatDoorRefTwo
import Derived.IntWalk
import Derived.Deep.RegionHeld3
import Derived.Deep.DrawnRows
import Derived.Deep.DeepCutAuto
import Derived.Test.YtmcacofpnnaplaaGreatDoorSumAll
/- Plain facts on rational numbers: the steps by which the reference finds the simplest number of an interval. No conditions. -/
namespace Go.Proofs.YtmcacofpnnaplaaGreatDoor

theorem frac_eq (q : Rat) : q + -((q.floor : Int) : Rat) = mkRat (rst q : Int) q.den := by
  rw [Rat.add_def', Rat.neg_num, Rat.neg_den, Rat.num_intCast, Rat.den_intCast]
  congr 1
  · have := rst_eq q
    rw [Int.neg_mul]; push_cast; omega
  · rw [Nat.mul_one]
theorem frac_low {q : Rat} (h0 : 0 ≤ q.num) (_h : rst q ≠ 0) : (mkRat (rst q : Int) q.den).num = (rst q : Int) ∧ (mkRat (rst q : Int) q.den).den = q.den := by
  refine mkRat_low q.den_nz ?_
  rw [Int.natAbs_natCast, (rst_steps q).1 h0]
  have := q.reduced
  unfold Nat.Coprime at *
  rw [← Nat.gcd_rec, Nat.gcd_comm]; exact this
theorem one_over {p : Rat} (h : 0 < p.num) : ((1 : Rat) / p).num = (p.den : Int) ∧ (1 / p).den = p.num.natAbs := by
  have hp : p ≠ 0 := fun e => by rw [e] at h; exact absurd h (by decide)
  obtain ⟨h1, h2, h3⟩ := inv_parts hp
  rw [Rat.div_def, Rat.one_mul]
  refine ⟨?_, h2⟩
  have : ¬ (p⁻¹).num < 0 := fun c => by have := h3.1 c; omega
  omega
theorem cq_floor (q : Rat) : (rst q = 0 → cq ((q.floor : Int) : Rat) q = 0) ∧ (rst q ≠ 0 → cq ((q.floor : Int) : Rat) q = -1) := by
  have e := frac_eq q
  constructor
  · intro h
    rw [h] at e
    have e2 : q = ((q.floor : Int) : Rat) := by
      have e3 : mkRat ((0 : Nat) : Int) q.den = 0 := Rat.zero_mkRat _
      rw [e3] at e; grind
    rw [← e2, cq_eq]
  · intro h
    refine cq_lt ?_
    have h1 : ((q.floor : Int) : Rat) ≤ q := Rat.floor_le q
    rcases tri ((q.floor : Int) : Rat) q with k | k | k
    · exact k
    · exfalso
      have e3 : mkRat (rst q : Int) q.den = 0 := by rw [← e]; grind
      have := (Rat.mkRat_eq_zero (n := (rst q : Int)) q.den_nz).1 e3
      omega
    · exact absurd h1 (Rat.not_le.2 k)
theorem next_le (lo hi : Rat) : ((lo.floor : Int) : Rat) + 1 ≤ hi ↔ lo.floor < hi.floor := by
  have : ((lo.floor : Int) : Rat) + 1 = ((lo.floor + 1 : Int) : Rat) := by rw [Rat.intCast_add]; rfl
  rw [this, ← Rat.le_floor_iff]; omega
theorem inv_mk {n d : Nat} (hn : n ≠ 0) (hd : d ≠ 0) : (1 : Rat) / mkRat (n : Int) d = mkRat (d : Int) n := by
  have h2 : mkRat (d : Int) n * mkRat (n : Int) d = 1 := by
    rw [Rat.mkRat_mul_mkRat, Nat.mul_comm n d, ← Int.natCast_mul]
    have := Rat.mkRat_mul_left (n := (1 : Int)) (d := 1) (a := d * n) (Nat.mul_ne_zero hd hn)
    rw [Int.mul_one, Nat.mul_one] at this
    rw [this]; rfl
  have h1 : mkRat (n : Int) d ≠ 0 := fun c => by have := (Rat.mkRat_eq_zero hd).1 c; omega
  rw [Rat.div_def, Rat.one_mul]
  have h3 := Rat.mul_inv_cancel _ h1
  calc (mkRat (n : Int) d)⁻¹ = (mkRat (d : Int) n * mkRat (n : Int) d) * (mkRat (n : Int) d)⁻¹ := by rw [h2, Rat.one_mul]
    _ = mkRat (d : Int) n := by rw [Rat.mul_assoc, h3, Rat.mul_one]
theorem add_one_over (F : Int) {n d : Nat} (hn : n ≠ 0) (hd : d ≠ 0) : (F : Rat) + 1 / mkRat (n : Int) d = mkRat (F * n + d) n := by
  rw [inv_mk hn hd]
  have e2 : (F : Rat) = mkRat F 1 := (Rat.mkRat_one F).symm
  rw [e2, Rat.mkRat_add_mkRat _ _ (by decide) hn]
  congr 1 <;> simp

/-- what the recursion leads to -/
def cfQ (k : Nat) (lo hi : Rat) : Rat := mkRat ((cfs k lo.num.natAbs lo.den hi.num.natAbs hi.den).1 : Int) (cfs k lo.num.natAbs lo.den hi.num.natAbs hi.den).2
/-- what the recursion asks of its ends -/
structure Ends (k i : Nat) (lo hi : Rat) : Prop where
  pos : 0 < lo.num
  le : lo ≤ hi
  hk : lo.den + hi.den ≤ k
  h24 : i ≤ 1024
  slo : Sz i lo
  shi : Sz i hi
theorem Ends.hpos {k i : Nat} {lo hi : Rat} (h : Ends k i lo hi) : 0 < hi.num := by
  have h1 := le_abs_pos h.le (Int.le_of_lt h.pos)
  rcases Int.lt_or_le 0 hi.num with c | c
  · exact c
  · exfalso
    have h2 : hi ≤ 0 := Rat.not_lt.1 fun c2 => by
      have := Rat.num_nonneg.2 (Rat.le_of_lt c2)
      have h0 : hi.num = 0 := by omega
      rw [Rat.num_eq_zero.1 h0] at c2; exact Rat.lt_irrefl c2
    have h3 := Rat.le_trans h.le h2
    have h4 : 0 ≤ lo := Rat.num_nonneg.1 (Int.le_of_lt h.pos)
    have h5 : lo = 0 := Rat.le_antisymm h3 h4
    have := h.pos
    rw [h5] at this
    exact absurd this (by decide)
theorem Ends.sp {k i : Nat} {lo hi : Rat} (h : Ends k i lo hi) : Sp k lo.num.natAbs lo.den hi.num.natAbs hi.den :=
  ⟨h.hk, lo.den_pos, hi.den_pos, le_abs_pos h.le (Int.le_of_lt h.pos) (Int.le_of_lt h.hpos), lt_NL h.slo.1 h.h24, lt_NL h.slo.2 h.h24, lt_NL h.shi.1 h.h24, lt_NL h.shi.2 h.h24⟩
theorem floor_pos {q : Rat} (h : 0 ≤ q.num) : q.floor = ((q.num.natAbs / q.den : Nat) : Int) := (floor_steps q).1 h
theorem rst_pos {q : Rat} (h : 0 ≤ q.num) : rst q = q.num.natAbs % q.den := (rst_steps q).1 h
theorem cfQ_whole {k i : Nat} {lo hi : Rat} (h : Ends (k + 1) i lo hi) (h1 : rst lo = 0) : cfQ (k + 1) lo hi = ((lo.floor : Int) : Rat) := by
  rw [rst_pos (Int.le_of_lt h.pos)] at h1
  unfold cfQ
  rw [cfs_whole h1, floor_pos (Int.le_of_lt h.pos)]
  exact Rat.mkRat_one _
theorem cfQ_above {k i : Nat} {lo hi : Rat} (h : Ends (k + 1) i lo hi) (h1 : rst lo ≠ 0) (h2 : lo.floor < hi.floor) : cfQ (k + 1) lo hi = ((lo.floor : Int) : Rat) + 1 := by
  rw [rst_pos (Int.le_of_lt h.pos)] at h1
  rw [floor_pos (Int.le_of_lt h.pos), floor_pos (Int.le_of_lt h.hpos)] at h2
  unfold cfQ
  rw [cfs_above h1 (by omega), floor_pos (Int.le_of_lt h.pos), show ((lo.num.natAbs / lo.den + 1 : Nat) : Int) = ((lo.num.natAbs / lo.den : Nat) : Int) + 1 from rfl, Rat.mkRat_one, Rat.intCast_add]
  rfl
theorem cfQ_in {k i : Nat} {lo hi : Rat} (h : Ends (k + 1) i lo hi) (h1 : rst lo ≠ 0) (h2 : ¬ lo.floor < hi.floor) :
    Ends k i (1 / (hi + -((lo.floor : Int) : Rat))) (1 / (lo + -((lo.floor : Int) : Rat))) ∧ hi + -((lo.floor : Int) : Rat) ≠ 0 ∧ lo + -((lo.floor : Int) : Rat) ≠ 0 ∧
    cfQ k (1 / (hi + -((lo.floor : Int) : Rat))) (1 / (lo + -((lo.floor : Int) : Rat))) ≠ 0 ∧ Sz i (cfQ k (1 / (hi + -((lo.floor : Int) : Rat))) (1 / (lo + -((lo.floor : Int) : Rat)))) ∧
    ((lo.floor : Int) : Rat) + 1 / cfQ k (1 / (hi + -((lo.floor : Int) : Rat))) (1 / (lo + -((lo.floor : Int) : Rat))) = cfQ (k + 1) lo hi := by
  have p1 := Int.le_of_lt h.pos
  have p2 := Int.le_of_lt h.hpos
  have sp := h.sp
  have r1 := h1
  rw [rst_pos p1] at r1
  have f2 : ¬ lo.num.natAbs / lo.den < hi.num.natAbs / hi.den := by
    rw [floor_pos p1, floor_pos p2] at h2; omega
  have nx := sp.next r1 f2
  have hf : lo.floor = hi.floor := by
    have := sp.floor_le
    rw [floor_pos p1, floor_pos p2]; omega
  have r2 : rst hi ≠ 0 := by rw [rst_pos p2]; have := nx.lp; omega
  have e1 := frac_eq lo
  have e2 := frac_eq hi
  rw [← hf] at e2
  obtain ⟨a1, a2⟩ := frac_low p1 h1
  obtain ⟨b1, b2⟩ := frac_low p2 r2
  rw [← e1] at a1 a2
  rw [← e2] at b1 b2
  obtain ⟨c1, c2⟩ := one_over (p := hi + -((lo.floor : Int) : Rat)) (by rw [b1]; omega)
  obtain ⟨d1, d2⟩ := one_over (p := lo + -((lo.floor : Int) : Rat)) (by rw [a1]; omega)
  rw [b2] at c1
  rw [b1, Int.natAbs_natCast, rst_pos p2] at c2
  rw [a2] at d1
  rw [a1, Int.natAbs_natCast, rst_pos p1] at d2
  generalize hL : 1 / (hi + -((lo.floor : Int) : Rat)) = L at *
  generalize hH : 1 / (lo + -((lo.floor : Int) : Rat)) = H at *
  have n1 : hi + -((lo.floor : Int) : Rat) ≠ 0 := fun e => by rw [e] at b1; exact r2 (by have : (0 : Rat).num = 0 := rfl; omega)
  have n2 : lo + -((lo.floor : Int) : Rat) ≠ 0 := fun e => by rw [e] at a1; exact h1 (by have : (0 : Rat).num = 0 := rfl; omega)
  have hLn : L.num.natAbs = hi.den := by rw [c1, Int.natAbs_natCast]
  have hHn : H.num.natAbs = lo.den := by rw [d1, Int.natAbs_natCast]
  have hle : L ≤ H := by
    rw [Rat.le_iff, c1, d1, c2, d2]
    have := nx.le
    exact_mod_cast this
  have en : Ends k i L H := ⟨by rw [c1]; have := hi.den_pos; omega, hle, by rw [c2, d2]; exact nx.k, h.h24,
    ⟨by rw [hLn]; exact h.shi.2, by rw [c2]; exact Nat.lt_of_le_of_lt (Nat.mod_le _ _) h.shi.1⟩, ⟨by rw [hHn]; exact h.slo.2, by rw [d2]; exact Nat.lt_of_le_of_lt (Nat.mod_le _ _) h.slo.1⟩⟩
  have q : cfQ k L H = mkRat ((cfs k hi.den (hi.num.natAbs % hi.den) lo.den (lo.num.natAbs % lo.den)).1 : Int) (cfs k hi.den (hi.num.natAbs % hi.den) lo.den (lo.num.natAbs % lo.den)).2 := by
    unfold cfQ; rw [hLn, hHn, c2, d2]
  have sim := nx.sim
  have bd := nx.bound
  have hn0 : (cfs k hi.den (hi.num.natAbs % hi.den) lo.den (lo.num.natAbs % lo.den)).1 ≠ 0 := fun e => by
    have h5 := sim.lo
    rw [e, Nat.zero_mul] at h5
    have := Nat.mul_pos hi.den_pos sim.pos
    omega
  obtain ⟨m1, m2⟩ := mkRat_low (z := ((cfs k hi.den (hi.num.natAbs % hi.den) lo.den (lo.num.natAbs % lo.den)).1 : Int)) (d := (cfs k hi.den (hi.num.natAbs % hi.den) lo.den (lo.num.natAbs % lo.den)).2) (by have := sim.pos; omega) (by rw [Int.natAbs_natCast]; exact sim.coprime)
  refine ⟨en, n1, n2, ?_, ?_, ?_⟩
  · rw [q]; intro e
    have := (Rat.mkRat_eq_zero (by have := sim.pos; omega)).1 e
    omega
  · rw [q]
    refine ⟨by rw [m1, Int.natAbs_natCast]; exact Nat.lt_of_le_of_lt bd.1 h.shi.2, by rw [m2]; exact Nat.lt_of_le_of_lt bd.2 (Nat.lt_of_le_of_lt (Nat.mod_le _ _) h.shi.1)⟩
  · rw [q, add_one_over _ hn0 (by have := sim.pos; omega)]
    unfold cfQ
    rw [cfs_in r1 f2, floor_pos p1]
    congr 1
end Go.Proofs.YtmcacofpnnaplaaGreatDoor

/- The contracts of the reference's size and Whole. Conditions as premises: the int is not negative. -/
namespace Go.Proofs.YtmcacofpnnaplaaGreatDoor
open Go.RowKit

set_option maxRecDepth 100000 in
set_option maxHeartbeats 1600000 in
theorem refSizeP_any (N : Nat) (hN : Big (N ≤ 9000000000000000000)) (w : World) :
    Calls Tryz.prog 128 #[.int .i64 (iv N)] w fun e w' => ∃ v, e = .returned v ∧ Made w N v w' := by
  obtain ⟨i0, hi, hz0, hz1, hz2⟩ := info_parts info32
  go_enter Tryz.func128, Tryz.ntmps128
  go_wp2
  go_loopw [0, 3] (fun u v wr => ∃ k : Nat, k ≤ 3 ∧ u = .int .i64 (iv (N / LB ^ k)) ∧ Own wr w.heap.size v k (dig N) ∧ Below w.heap.size w wr ∧ Hid (∀ j, j < k → N / LB ^ j ≠ 0)) (fun u _ _ => (intOf u).toNat)
  case atStart => exact ⟨0, by omega, by simp, Own.nil _ _ _, Below.refl _ _, fun j hj => by omega⟩
  case round =>
    obtain ⟨k, hk, rfl, hown, hbel, hpre⟩ := hrel
    have hx0 : 0 ≤ iv (N / LB ^ k) := iv_nonneg _
    have hmod := Lib.hid (iv_mod N k)
    have hdiv := Lib.hid (iv_div N k)
    by_cases hq : N / LB ^ k = 0
    · rw [show iv (N / LB ^ k) = 0 by rw [hq, iv_zero]]
      have HQ := Lib.hid hq
      clear hq hx0
      go_wp2
      go_ret
      exact ⟨_, rfl, made_of hown hbel HQ.out hpre.out⟩
    · have hz := iv_pos hq
      have hx1 : iv (N / LB ^ k) ≤ 9000000000000000000 := by
        have h1 := Nat.div_le_self N (LB ^ k)
        have h2 := hN.out
        rw [iv_eq]; omega
      have hk3 := div_lt3 (Nat.lt_of_le_of_lt hN.out (by omega)) hq
      have HQ := Lib.hid hq
      clear hq
      generalize hgx : iv (N / LB ^ k) = x at *
      have HGX := Lib.hid hgx
      clear hgx
      have hsz := hbel.size
      have hmx : max (x % 1000000000) (-(x % 1000000000)) = x % 1000000000 := Int.max_eq_left (by omega)
      go_wp2_with (at_builtin; refine wpList_append_own _ rfl (.tmp 9) (.tmp 15) 23 rfl w.heap.size 48 i0 (.int .u32 0) 1 4 Tryz.underlying23 hi hz0 hz1 hz2 rfl (by decide) _ _ _ rfl (World.ownsRow.alloc hown _) ⟨wr.heap.size, 0, none⟩ 1 1 [.int .u32 (x % 1000000000)] rfl rfl (cell_one_new _ _ _) ?c2 ?c3 ?c4 ?c5 ?_)
      case c2 => intro u hu; simp at hu; subst hu; rfl
      case c3 => unfold maxLen; omega
      case c4 => omega
      case c5 => simp; omega
      intro v' w1 hown' hgrow _
      have hb1 := snoc_below hown hbel (Nat.le_refl _) hsz hgrow
      rw [hmod.out] at hown'
      have hown1 := Own.snoc hown' rfl
      clear hown' hgrow hown hbel
      go_wp2
      go_roundw
      case rel => exact ⟨k + 1, by omega, by rw [hdiv.out], hown1, hb1, fun j hj => by
        by_cases e : j = k
        · subst e; exact HQ.out
        · exact hpre.out j (by omega)⟩
      case measure => simp [intOf] <;> omega
theorem refSizeN (N : Nat) (hN : N ≤ 1000000000) (w : World) :
    Calls Tryz.prog 128 #[.int .i64 (iv N)] w fun e w' => ∃ v, e = .returned v ∧ Nr w' N v ∧ Below w.heap.size w w' := by
  refine (refSizeP_any N (Big.mk (by omega)) w).mono ?_
  rintro e w' ⟨v, he, hm⟩
  exact ⟨v, he, hm.nr⟩

set_option maxRecDepth 100000 in
set_option maxHeartbeats 4000000 in
theorem refWholeN (N : Nat) (hN : N ≤ 1000000000) (w : World) :
    Calls Tryz.prog 91 #[.int .i64 (iv N)] w fun e w' => ∃ v, e = .returned v ∧ Rq w' (mkRat (N : Int) 1) v ∧ Below w.heap.size w w' := by
  have hb0 := below1 w (.cells #[.bool false, .slice none 0 0, .slice none 0 0] 25)
  have HB := Lib.hid hb0
  have X := Lib.hid (Blk.new w #[.bool false, .slice none 0 0, .slice none 0 0] 25)
  have C1 := Lib.hid (refSizeN N hN (w.alloc (.cells #[.bool false, .slice none 0 0, .slice none 0 0] 25)))
  have hx0 : 0 ≤ iv N := iv_nonneg _
  have hL : Hid (N < LB ^ NL) := Lib.hid (Nat.lt_of_le_of_lt hN (by
    have : LB ^ 2 ≤ LB ^ NL := pow_le_of (by rw [NL_eq]; omega)
    exact Nat.lt_of_lt_of_le (show 1000000000 < LB ^ 2 by rw [Nat.pow_two, LB_eq]; decide) this))
  have EQ : Hid (mkRat (sn false N) 1 = mkRat (N : Int) 1) := Lib.hid rfl
  clear hN
  generalize iv N = x at *
  have hx2 : decide (x < 0) = false := decide_eq_false (by omega)
  clear hb0
  go_enter Tryz.func91, Tryz.ntmps91
  go_wp2_with fail
  refine C1.out.mono ?_
  rintro _ w1 ⟨y, rfl, hy, hb⟩
  obtain ⟨A3, n3, c3, rfl⟩ := hy.shape
  have hba := below1 w1 (.cells #[.int .u32 1] 48)
  have C2 := Lib.hid (refLowestQ false (hy.below hba) (nr_one w1) hL.out one_lt.out (by decide))
  replace HB := Lib.hid ((HB.out.trans (hb.mono HB.out.size)).trans (hba.mono (HB.out.trans (hb.mono HB.out.size)).size))
  replace X := Lib.hid ((X.out.after hb).after hba)
  clear hb hy hba C1
  go_wp2_with fail
  refine C2.out.mono ?_
  rintro _ w2 ⟨y, rfl, hy, hb⟩
  obtain ⟨bL, AL, nL, cL, AL', nL', cL', rfl, _, _, _⟩ := hy.get
  replace HB := Lib.hid (HB.out.trans (hb.mono HB.out.size))
  replace X := Lib.hid (X.out.after hb)
  have HXL := Lib.hid (hy.cast EQ.out)
  have zx : w.heap.size < w2.heap.size := X.out.lt
  have d0 := X.out.cell (i := 0) rfl
  have d1 := X.out.cell (i := 1) rfl
  have d2 := X.out.cell (i := 2) rfl
  have ff := X.out.free
  clear hy hb C2
  go_wp2_with fail
  refine bodyPost_ret (results_cell_row (p := 2) (ty := 25) rfl _ _ w.heap.size 25 _ _ _ rfl X.out.set.set.set Tryz.underlying25 rfl (by kernel_rfl)) rfl ?_
  obtain ⟨g1, g2, g3⟩ := HXL.out.inv
  exact ⟨_, rfl, Rq.mk g3 rfl rfl (g1.put3 X.out (hnoR _ _ _ _ _ _ _)) (g2.put3 X.out (hnoR _ _ _ _ _ _ _)), ((HB.out.setCell (Nat.le_refl _) _).setCell (Nat.le_refl _) _).setCell (Nat.le_refl _) _⟩
theorem refWhole1 (w : World) : Calls Tryz.prog 91 #[.int .i64 1] w fun e w' => ∃ v, e = .returned v ∧ Rq w' 1 v ∧ Below w.heap.size w w' := by
  have := refWholeN 1 (by omega) w
  rw [show iv 1 = 1 by rw [iv_eq]; rfl] at this
  exact this
theorem refWhole0 (w : World) : Calls Tryz.prog 91 #[.int .i64 0] w fun e w' => ∃ v, e = .returned v ∧ Rq w' 0 v ∧ Below w.heap.size w w' := by
  have := refWholeN 0 (by omega) w
  rw [iv_zero, show mkRat ((0 : Nat) : Int) 1 = 0 by decide +kernel] at this
  exact this
end Go.Proofs.YtmcacofpnnaplaaGreatDoor

/- The reference's search for the simplest number of an interval. Conditions as premises: the numbers read, and are short enough. -/
namespace Go.Proofs.YtmcacofpnnaplaaGreatDoor
open Go.RowKit Go.Shelf
attribute [local go_sem ↓] Go.wp_at_zero Go.wp_at_succ


theorem below_cast {w W : World} {P : Nat} (hp : w.heap.size = P) (h : Below P w W) : Below w.heap.size w W := hp ▸ h
theorem sz_one : Sz 1 (1 : Rat) := by
  have := sz_mk (z := 1) (D := 1) (by decide) (by decide) (by decide)
  rwa [show mkRat 1 1 = (1 : Rat) by decide +kernel] at this

set_option maxRecDepth 100000 in
set_option maxHeartbeats 8000000 in
theorem refSimplePos : ∀ (k i : Nat) (lo hi : Rat) (v u : Value) (w : World), Rq w lo v → Rq w hi u → Ends k i lo hi → i ≤ 300 →
    Calls Tryz.prog 96 #[v, u] w fun e w' => ∃ x, e = .returned x ∧ Rq w' (cfQ k lo hi) x ∧ Below w.heap.size w w' := by
  intro k
  induction k with
  | zero => intro i lo hi v u w _ _ h; exfalso; have := h.hk; have := lo.den_pos; omega
  | succ k ih =>
    intro i lo hi v u w ha hb he hi3
    obtain ⟨b1, A1, n1, c1, A1', n1', c1', rfl, _, _, e1⟩ := ha.get
    obtain ⟨b2, A2, n2, c2, A2', n2', c2', rfl, _, _, e2⟩ := hb.get
    obtain rfl : b1 = false := by rw [e1.out]; exact decide_eq_false (by have := he.pos; omega)
    obtain rfl : b2 = false := by rw [e2.out]; exact decide_eq_false (by have := he.hpos; omega)
    have hbb : Below w.heap.size w (((w.alloc (.cells #[.bool false, .slice A1 n1 c1, .slice A1' n1' c1'] 25)).alloc (.cells #[.bool false, .slice A2 n2 c2, .slice A2' n2' c2'] 25)).alloc (.cells #[.bool false, .slice none 0 0, .slice none 0 0] 25)) := (below2 w _ _).alloc (by simp; omega) _
    have k1 := ((Blk.new w #[.bool false, .slice A1 n1 c1, .slice A1' n1' c1'] 25).alloc (.cells #[.bool false, .slice A2 n2 c2, .slice A2' n2' c2'] 25)).alloc (.cells #[.bool false, .slice none 0 0, .slice none 0 0] 25)
    have k2 := (Blk.new (w.alloc (.cells #[.bool false, .slice A1 n1 c1, .slice A1' n1' c1'] 25)) #[.bool false, .slice A2 n2 c2, .slice A2' n2' c2'] 25).alloc (.cells #[.bool false, .slice none 0 0, .slice none 0 0] 25)
    have k3 := Blk.new ((w.alloc (.cells #[.bool false, .slice A1 n1 c1, .slice A1' n1' c1'] 25)).alloc (.cells #[.bool false, .slice A2 n2 c2, .slice A2' n2' c2'] 25)) #[.bool false, .slice none 0 0, .slice none 0 0] 25
    simp only [World.size_alloc] at k2 k3
    have HB := Lib.hid hbb
    have KP1 := Lib.hid k1
    have KP2 := Lib.hid k2
    have KP3 := Lib.hid k3
    have Ra := Lib.hid (ha.below hbb)
    have Rb := Lib.hid (hb.below hbb)
    have HE := Lib.hid he
    have HI := Lib.hid hi3
    have IH := Lib.hid ih
    have CZ := refZeroQ Ra.out
    rw [decide_eq_false (show ¬ lo.num = 0 by have := he.pos; omega)] at CZ
    have CZ' := Lib.hid CZ
    clear ha hb he hi3 ih hbb k1 k2 k3 e1 e2 CZ
    have d10 := KP1.out.cell (i := 0) rfl
    have d11 := KP1.out.cell (i := 1) rfl
    have d12 := KP1.out.cell (i := 2) rfl
    have d20 := KP2.out.cell (i := 0) rfl
    have d21 := KP2.out.cell (i := 1) rfl
    have d22 := KP2.out.cell (i := 2) rfl
    go_enter Tryz.func96, Tryz.ntmps96
    go_wp2_with fail
    refine (CZ'.out).mono ?_
    rintro _ w4 ⟨rfl, hb⟩
    replace Ra := Lib.hid (Ra.out.below hb)
    replace Rb := Lib.hid (Rb.out.below hb)
    replace KP1 := Lib.hid (KP1.out.after hb)
    replace KP2 := Lib.hid (KP2.out.after hb)
    replace KP3 := Lib.hid (KP3.out.after hb)
    replace HB := Lib.hid (HB.out.trans (hb.mono HB.out.size))
    clear hb CZ'
    clear d10 d11 d12 d20 d21 d22
    have d10 := KP1.out.cell (i := 0) rfl
    have d11 := KP1.out.cell (i := 1) rfl
    have d12 := KP1.out.cell (i := 2) rfl
    have d20 := KP2.out.cell (i := 0) rfl
    have d21 := KP2.out.cell (i := 1) rfl
    have d22 := KP2.out.cell (i := 2) rfl
    go_wp2_with fail
    refine (refDownQ Ra.out HE.out.slo (by have := HI.out; omega)).mono ?_
    rintro _ w5 ⟨x, rfl, hx, hb⟩
    obtain ⟨b5, A5, n5, c5, A5', n5', c5', rfl, -, -, -⟩ := hx.get
    replace Ra := Lib.hid (Ra.out.below hb)
    replace Rb := Lib.hid (Rb.out.below hb)
    replace KP1 := Lib.hid (KP1.out.after hb)
    replace KP2 := Lib.hid (KP2.out.after hb)
    replace KP3 := Lib.hid (KP3.out.after hb)
    replace HB := Lib.hid (HB.out.trans (hb.mono HB.out.size))
    clear d10 d11 d12 d20 d21 d22
    have H35 := Lib.hid KP3.out.lt
    have hba := below1 w5 (.cells #[.bool b5, .slice A5 n5 c5, .slice A5' n5' c5'] 25)
    have K5 := Lib.hid (Blk.new w5 #[.bool b5, .slice A5 n5 c5, .slice A5' n5' c5'] 25)
    have RF := Lib.hid (hx.below hba)
    clear hx hb
    replace Ra := Lib.hid (Ra.out.below hba)
    replace Rb := Lib.hid (Rb.out.below hba)
    replace KP1 := Lib.hid (KP1.out.after hba)
    replace KP2 := Lib.hid (KP2.out.after hba)
    replace KP3 := Lib.hid (KP3.out.after hba)
    replace HB := Lib.hid (HB.out.trans (hba.mono HB.out.size))
    have h35 : w.heap.size + 1 + 1 < w5.heap.size := H35.out
    clear hba H35
    go_upto_region 6 with fail
    generalize hP5 : w5.heap.size = P5 at *
    clear hP5
    generalize w5.alloc (.cells #[.bool b5, .slice A5 n5 c5, .slice A5' n5' c5'] 25) = v5 at *
    generalize hP3 : w.heap.size + 1 + 1 = P3 at *
    generalize hP2 : w.heap.size + 1 = P2 at *
    generalize hP1 : w.heap.size = P1 at *
    have HP := Lib.hid (And.intro hP1 (show P1 ≤ P3 by omega))
    have KP5 := K5
    have H35 := Lib.hid h35
    clear hP1 hP2 hP3 K5 h35
    have SF : Hid (Sz (i + 1) ((lo.floor : Int) : Rat)) := Lib.hid ((HE.out.slo.up (Nat.le_succ i)).floor (by omega))
    have C := refOrderQ RF.out Ra.out SF.out HE.out.slo (by have := HI.out; omega)
    by_cases h0 : rst lo = 0
    · have EQ := Lib.hid (cfQ_whole HE.out h0)
      rw [(cq_floor lo).1 h0] at C
      have CC := Lib.hid C
      have HS : Hid (P1 ≤ v5.heap.size) := Lib.hid (HP.out.1 ▸ HB.out.size)
      clear C h0
      have d50 := KP5.out.cell (i := 0) rfl
      have d51 := KP5.out.cell (i := 1) rfl
      have d52 := KP5.out.cell (i := 2) rfl
      have d10 := KP1.out.cell (i := 0) rfl
      have d11 := KP1.out.cell (i := 1) rfl
      have d12 := KP1.out.cell (i := 2) rfl
      go_wp2_with fail
      refine (CC.out).mono ?_
      rintro _ w6 ⟨rfl, hb⟩
      replace RF := Lib.hid (RF.out.below hb)
      replace KP5 := Lib.hid (KP5.out.after hb)
      replace KP3 := Lib.hid (KP3.out.after hb)
      replace HB := Lib.hid (HB.out.trans (hb.mono HS.out))
      replace HS := Lib.hid (Nat.le_trans HS.out hb.size)
      clear hb CC
      clear d50 d51 d52 d10 d11 d12
      have d50 := KP5.out.cell (i := 0) rfl
      have d51 := KP5.out.cell (i := 1) rfl
      have d52 := KP5.out.cell (i := 2) rfl
      have z3 : P3 < w6.heap.size := KP3.out.lt
      have x0 := KP3.out.cell (i := 0) rfl
      have x1 := KP3.out.cell (i := 1) rfl
      have x2 := KP3.out.cell (i := 2) rfl
      have xf := KP3.out.free
      go_wp2_with fail
      refine bodyPost_ret (results_cell_row (p := 4) (ty := 25) rfl _ _ P3 25 _ _ _ rfl KP3.out.set.set.set Tryz.underlying25 rfl (by kernel_rfl)) rfl ?_
      obtain ⟨g1, g2, g3⟩ := RF.out.inv
      exact ⟨_, rfl, (Rq.mk g3 rfl rfl (g1.put3 KP3.out (hnoR _ _ _ _ _ _ _)) (g2.put3 KP3.out (hnoR _ _ _ _ _ _ _))).cast (EQ.out.symm), below_cast HP.out.1 (((HB.out.setCell HP.out.2 _).setCell HP.out.2 _).setCell HP.out.2 _)⟩
    · rw [(cq_floor lo).2 h0] at C
      have CC := Lib.hid C
      have H0 := Lib.hid h0
      have HS : Hid (P1 ≤ v5.heap.size) := Lib.hid (HP.out.1 ▸ HB.out.size)
      clear C h0
      have d50 := KP5.out.cell (i := 0) rfl
      have d51 := KP5.out.cell (i := 1) rfl
      have d52 := KP5.out.cell (i := 2) rfl
      have d10 := KP1.out.cell (i := 0) rfl
      have d11 := KP1.out.cell (i := 1) rfl
      have d12 := KP1.out.cell (i := 2) rfl
      go_wp2_with fail
      refine (CC.out).mono ?_
      rintro _ w6 ⟨rfl, hb⟩
      replace RF := Lib.hid (RF.out.below hb)
      replace Ra := Lib.hid (Ra.out.below hb)
      replace Rb := Lib.hid (Rb.out.below hb)
      replace KP5 := Lib.hid (KP5.out.after hb)
      replace KP3 := Lib.hid (KP3.out.after hb)
      replace KP1 := Lib.hid (KP1.out.after hb)
      replace KP2 := Lib.hid (KP2.out.after hb)
      replace HB := Lib.hid (HB.out.trans (hb.mono HS.out))
      replace HS := Lib.hid (Nat.le_trans HS.out hb.size)
      clear hb CC
      clear d50 d51 d52 d10 d11 d12
      go_upto_region 8 with fail
      have C1 : Hid (∀ W, Below w6.heap.size w6 W → _) := Lib.hid fun W (h1 : Below w6.heap.size w6 W) => refWhole1 W
      have C2 : Hid (∀ W0 W x, Below w6.heap.size w6 W0 → Below W0.heap.size W0 W → Rq W0 1 x → _) := Lib.hid fun W0 W x (h0 : Below w6.heap.size w6 W0) (h1 : Below W0.heap.size W0 W) (hx : Rq W0 1 x) => refPlusQ (RF.out.below (h0.trans (h1.mono h0.size))) (hx.below h1) SF.out sz_one (by have := HI.out; omega)
      have KEEP : Hid (∀ W, Below w6.heap.size w6 W → (W.cell? ⟨P5, 0, none⟩ = some (.bool b5) ∧ W.cell? ⟨P5, 1, none⟩ = some (.slice A5 n5 c5) ∧ W.cell? ⟨P5, 2, none⟩ = some (.slice A5' n5' c5') ∧ Below w6.heap.size w6 W)) := Lib.hid fun W h1 => ⟨(KP5.out.after h1).cell rfl, (KP5.out.after h1).cell rfl, (KP5.out.after h1).cell rfl, h1⟩
      have NEXT : Hid (∀ W W', (W.cell? ⟨P5, 0, none⟩ = some (.bool b5) ∧ W.cell? ⟨P5, 1, none⟩ = some (.slice A5 n5 c5) ∧ W.cell? ⟨P5, 2, none⟩ = some (.slice A5' n5' c5') ∧ Below w6.heap.size w6 W) → Below W.heap.size W W' → (W'.cell? ⟨P5, 0, none⟩ = some (.bool b5) ∧ W'.cell? ⟨P5, 1, none⟩ = some (.slice A5 n5 c5) ∧ W'.cell? ⟨P5, 2, none⟩ = some (.slice A5' n5' c5') ∧ Below w6.heap.size w6 W')) := Lib.hid fun W W' h hb => KEEP.out W' (h.2.2.2.trans (hb.mono h.2.2.2.size))
      have ALL : Hid (∀ W o, (W.cell? ⟨P5, 0, none⟩ = some (.bool b5) ∧ W.cell? ⟨P5, 1, none⟩ = some (.slice A5 n5 c5) ∧ W.cell? ⟨P5, 2, none⟩ = some (.slice A5' n5' c5') ∧ Below w6.heap.size w6 W) → ((W.alloc o).cell? ⟨P5, 0, none⟩ = some (.bool b5) ∧ (W.alloc o).cell? ⟨P5, 1, none⟩ = some (.slice A5 n5 c5) ∧ (W.alloc o).cell? ⟨P5, 2, none⟩ = some (.slice A5' n5' c5') ∧ Below w6.heap.size w6 (W.alloc o))) := Lib.hid fun W o h => NEXT.out W _ h (below1 W o)
      have ALC : Hid (∀ W w', (W.cell? ⟨P5, 0, none⟩ = some (.bool b5) ∧ W.cell? ⟨P5, 1, none⟩ = some (.slice A5 n5 c5) ∧ W.cell? ⟨P5, 2, none⟩ = some (.slice A5' n5' c5') ∧ Below w6.heap.size w6 W) → Below (W.alloc (.cells #[.bool false, .slice none 0 0, .slice none 0 0] 25)).heap.size (W.alloc (.cells #[.bool false, .slice none 0 0, .slice none 0 0] 25)) w' → Blk w' W.heap.size 25 #[.bool false, .slice none 0 0, .slice none 0 0] ∧ w6.heap.size ≤ W.heap.size) := Lib.hid fun W w' h hb => ⟨(Blk.new W _ _).after hb, h.2.2.2.size⟩
      have STO : Hid (∀ W p x y z, (W.cell? ⟨P5, 0, none⟩ = some (.bool b5) ∧ W.cell? ⟨P5, 1, none⟩ = some (.slice A5 n5 c5) ∧ W.cell? ⟨P5, 2, none⟩ = some (.slice A5' n5' c5') ∧ Below w6.heap.size w6 W) → w6.heap.size ≤ p → ((((W.setCell ⟨p, 0, none⟩ x).setCell ⟨p, 1, none⟩ y).setCell ⟨p, 2, none⟩ z).cell? ⟨P5, 0, none⟩ = some (.bool b5) ∧ (((W.setCell ⟨p, 0, none⟩ x).setCell ⟨p, 1, none⟩ y).setCell ⟨p, 2, none⟩ z).cell? ⟨P5, 1, none⟩ = some (.slice A5 n5 c5) ∧ (((W.setCell ⟨p, 0, none⟩ x).setCell ⟨p, 1, none⟩ y).setCell ⟨p, 2, none⟩ z).cell? ⟨P5, 2, none⟩ = some (.slice A5' n5' c5') ∧ Below w6.heap.size w6 (((W.setCell ⟨p, 0, none⟩ x).setCell ⟨p, 1, none⟩ y).setCell ⟨p, 2, none⟩ z))) := Lib.hid fun W p x y z h hg => KEEP.out _ (((h.2.2.2.setCell hg _).setCell hg _).setCell hg _)
      have hdrew := KEEP.out w6.drew (Below.refl _ _).drew
      have hdrewA := KEEP.out ((w6.alloc (.cells #[.bool false, .slice none 0 0, .slice none 0 0] 25)).drew) (below1 w6 _).drew
      have ALD : Hid (∀ w', Below ((w6.alloc (.cells #[.bool false, .slice none 0 0, .slice none 0 0] 25)).drew).heap.size ((w6.alloc (.cells #[.bool false, .slice none 0 0, .slice none 0 0] 25)).drew) w' → Blk w' w6.heap.size 25 #[.bool false, .slice none 0 0, .slice none 0 0] ∧ w6.heap.size ≤ w6.heap.size) := Lib.hid fun w' hb => ⟨Blk.after (show Blk ((w6.alloc (.cells #[.bool false, .slice none 0 0, .slice none 0 0] 25)).drew) w6.heap.size 25 #[.bool false, .slice none 0 0, .slice none 0 0] from Blk.new w6 _ _) hb, Nat.le_refl _⟩
      go_cut [6] (fun p wx => ∃ g s4 B4 m4 d4 B4' m4' d4', p = .pointer (some ⟨g, 0, none⟩) ∧ Hid (Blk wx g 25 #[.bool s4, .slice B4 m4 d4, .slice B4' m4' d4']) ∧ Hid (Rq wx (((lo.floor : Int) : Rat) + 1) (.agg #[.bool s4, .slice B4 m4 d4, .slice B4' m4' d4'])) ∧ Hid (Below w6.heap.size w6 wx ∧ w6.heap.size ≤ g))
      case first =>
        go_region_held3 (fun W => W.cell? ⟨P5, 0, none⟩ = some (.bool b5) ∧ W.cell? ⟨P5, 1, none⟩ = some (.slice A5 n5 c5) ∧ W.cell? ⟨P5, 2, none⟩ = some (.slice A5' n5' c5') ∧ Below w6.heap.size w6 W)
          (first | with_reducible assumption | with_reducible exact ALL.out _ _ (by with_reducible assumption) | with_reducible exact STO.out _ _ _ _ _ (by with_reducible assumption) hge)
          (first
            | (go_at_call 91; (with_reducible refine (C1.out ((w6.alloc (.cells #[.bool false, .slice none 0 0, .slice none 0 0] 25)).drew) ((show _ ∧ _ ∧ _ ∧ _ from by with_reducible assumption).2.2.2)).mono ?_); rintro _ y1 ⟨x1, rfl, hx1, hby1⟩; have HX1 := Lib.hid hx1; clear hx1; have hS := NEXT.out _ _ (by with_reducible assumption) hby1; obtain ⟨hA, hge⟩ := ALD.out _ hby1; have e0_ := hA.cell (i := 0) rfl; have e1_ := hA.cell (i := 1) rfl; have e2_ := hA.cell (i := 2) rfl; have hfA := hA.free; have hlA := hA.lt)
            | (go_at_call 91; (with_reducible refine (C1.out (World.alloc _ (.cells #[.bool false, .slice none 0 0, .slice none 0 0] 25)) ((show _ ∧ _ ∧ _ ∧ _ from by with_reducible assumption).2.2.2)).mono ?_); rintro _ y1 ⟨x1, rfl, hx1, hby1⟩; have HX1 := Lib.hid hx1; clear hx1; have hS := NEXT.out _ _ (by with_reducible assumption) hby1; obtain ⟨hA, hge⟩ := ALC.out _ _ (by with_reducible assumption) hby1; have e0_ := hA.cell (i := 0) rfl; have e1_ := hA.cell (i := 1) rfl; have e2_ := hA.cell (i := 2) rfl; have hfA := hA.free; have hlA := hA.lt)
            | (go_at_call 91; (with_reducible refine (C1.out _ ((show _ ∧ _ ∧ _ ∧ _ from by with_reducible assumption).2.2.2)).mono ?_); rintro _ y1 ⟨x1, rfl, hx1, hby1⟩; have HX1 := Lib.hid hx1; clear hx1; have hS := NEXT.out _ _ (by with_reducible assumption) hby1; replace hA := hA.after hby1; have e0_ := hA.cell (i := 0) rfl; have e1_ := hA.cell (i := 1) rfl; have e2_ := hA.cell (i := 2) rfl; have hfA := hA.free; have hlA := hA.lt)
            | (go_at_call 91; (with_reducible refine (C1.out _ ((show _ ∧ _ ∧ _ ∧ _ from by with_reducible assumption).2.2.2)).mono ?_); rintro _ y1 ⟨x1, rfl, hx1, hby1⟩; have HX1 := Lib.hid hx1; clear hx1; have hS := NEXT.out _ _ (by with_reducible assumption) hby1)
            | (go_at_call 60; (with_reducible refine (C2.out y1 (World.alloc _ (.cells #[.bool false, .slice none 0 0, .slice none 0 0] 25)) x1 hS.2.2.2 (by first | with_reducible exact Below.refl _ _ | with_reducible exact below1 _ _) HX1.out).mono ?_); rintro _ y2 ⟨x2, rfl, hx2, hby2⟩; obtain ⟨b4, B4, m4, e4, B4', m4', e4', rfl, _, _, _⟩ := hx2.get; have HX2 := Lib.hid hx2; clear hx2; have hS := NEXT.out _ _ (by with_reducible assumption) hby2; obtain ⟨hA, hge⟩ := ALC.out _ _ (by with_reducible assumption) hby2; have e0_ := hA.cell (i := 0) rfl; have e1_ := hA.cell (i := 1) rfl; have e2_ := hA.cell (i := 2) rfl; have hfA := hA.free; have hlA := hA.lt)
            | (go_at_call 60; (with_reducible refine (C2.out y1 _ x1 hS.2.2.2 (by first | with_reducible exact Below.refl _ _ | with_reducible exact below1 _ _) HX1.out).mono ?_); rintro _ y2 ⟨x2, rfl, hx2, hby2⟩; obtain ⟨b4, B4, m4, e4, B4', m4', e4', rfl, _, _, _⟩ := hx2.get; have HX2 := Lib.hid hx2; clear hx2; have hS := NEXT.out _ _ (by with_reducible assumption) hby2; replace hA := hA.after hby2; have e0_ := hA.cell (i := 0) rfl; have e1_ := hA.cell (i := 1) rfl; have e2_ := hA.cell (i := 2) rfl; have hfA := hA.free; have hlA := hA.lt)
            | (go_at_call 60; (with_reducible refine (C2.out y1 _ x1 hS.2.2.2 (by first | with_reducible exact Below.refl _ _ | with_reducible exact below1 _ _) HX1.out).mono ?_); rintro _ y2 ⟨x2, rfl, hx2, hby2⟩; obtain ⟨b4, B4, m4, e4, B4', m4', e4', rfl, _, _, _⟩ := hx2.get; have HX2 := Lib.hid hx2; clear hx2; have hS := NEXT.out _ _ (by with_reducible assumption) hby2))
        all_goals
          go_wp2_with fail
          go_meet
          first
            | (have k := hA.rowF (.bool b4) (.slice B4 m4 e4) (.slice B4' m4' e4'); have h := STO.out _ _ (.bool b4) (.slice B4 m4 e4) (.slice B4' m4' e4') hS hge; obtain ⟨g1, g2, g3⟩ := HX2.out.inv; have hq := Rq.mk g3 rfl rfl (g1.put3 (i := 0) (j := 1) (l := 2) (u := .bool b4) (x := .slice B4 m4 e4) (y := .slice B4' m4' e4') hA (hnoR _ _ _ _ _ _ _)) (g2.put3 (i := 0) (j := 1) (l := 2) (u := .bool b4) (x := .slice B4 m4 e4) (y := .slice B4' m4' e4') hA (hnoR _ _ _ _ _ _ _)); with_reducible exact ⟨_, _, _, _, _, _, _, _, rfl, Lib.hid k, Lib.hid hq, Lib.hid ⟨h.2.2.2, hge⟩⟩)
            | (have k := Blk.new y2 #[.bool b4, .slice B4 m4 e4, .slice B4' m4' e4'] 25; have h := ALL.out _ (.cells #[.bool b4, .slice B4 m4 e4, .slice B4' m4' e4'] 25) hS; have hq := HX2.out.below (below1 y2 (.cells #[.bool b4, .slice B4 m4 e4, .slice B4' m4' e4'] 25)); with_reducible exact ⟨_, _, _, _, _, _, _, _, rfl, Lib.hid k, Lib.hid hq, Lib.hid ⟨h.2.2.2, hS.2.2.2.size⟩⟩)
      case rest =>
        obtain ⟨P6, b6, A6, n6, c6, A6', n6', c6', rfl, KP6, RN, hk⟩ := hcut
        generalize wc = w7 at *
        have hk1 := hk.out.1
        replace RF := Lib.hid (RF.out.below hk1)
        replace Ra := Lib.hid (Ra.out.below hk1)
        replace Rb := Lib.hid (Rb.out.below hk1)
        replace KP5 := Lib.hid (KP5.out.after hk1)
        replace KP3 := Lib.hid (KP3.out.after hk1)
        replace KP1 := Lib.hid (KP1.out.after hk1)
        replace KP2 := Lib.hid (KP2.out.after hk1)
        replace HB := Lib.hid (HB.out.trans (hk1.mono HS.out))
        replace HS := Lib.hid (Nat.le_trans HS.out hk1.size)
        clear KEEP NEXT ALL ALC STO hdrew hdrewA ALD C1 C2 hk hk1
        have SN : Hid (Sz (i + 1 + 1 + 1) (((lo.floor : Int) : Rat) + 1)) := Lib.hid (SF.out.add sz_one)
        have C := refOrderQ RN.out Rb.out SN.out HE.out.shi (by have := HI.out; omega)
        by_cases h2 : lo.floor < hi.floor
        · have EQ := Lib.hid (cfQ_above HE.out H0.out h2)
          have hc : cq (((lo.floor : Int) : Rat) + 1) hi ≤ 0 := by
            rcases cq_range (((lo.floor : Int) : Rat) + 1) hi with e | e | e
            · omega
            · omega
            · exact absurd (cq_pos e) (Rat.not_lt.2 ((next_le lo hi).2 h2))
          generalize cq (((lo.floor : Int) : Rat) + 1) hi = cc at *
          have CC := Lib.hid C
          clear C h2
          have d60 := KP6.out.cell (i := 0) rfl
          have d61 := KP6.out.cell (i := 1) rfl
          have d62 := KP6.out.cell (i := 2) rfl
          have d20 := KP2.out.cell (i := 0) rfl
          have d21 := KP2.out.cell (i := 1) rfl
          have d22 := KP2.out.cell (i := 2) rfl
          go_wp2_with fail
          refine (CC.out).mono ?_
          rintro _ w8 ⟨rfl, hb⟩
          replace RN := Lib.hid (RN.out.below hb)
          replace KP6 := Lib.hid (KP6.out.after hb)
          replace KP3 := Lib.hid (KP3.out.after hb)
          replace HB := Lib.hid (HB.out.trans (hb.mono HS.out))
          replace HS := Lib.hid (Nat.le_trans HS.out hb.size)
          clear hb CC
          clear d60 d61 d62 d20 d21 d22
          have d60 := KP6.out.cell (i := 0) rfl
          have d61 := KP6.out.cell (i := 1) rfl
          have d62 := KP6.out.cell (i := 2) rfl
          have z3 : P3 < w8.heap.size := KP3.out.lt
          have x0 := KP3.out.cell (i := 0) rfl
          have x1 := KP3.out.cell (i := 1) rfl
          have x2 := KP3.out.cell (i := 2) rfl
          have xf := KP3.out.free
          go_wp2_with fail
          refine bodyPost_ret (results_cell_row (p := 4) (ty := 25) rfl _ _ P3 25 _ _ _ rfl KP3.out.set.set.set Tryz.underlying25 rfl (by kernel_rfl)) rfl ?_
          obtain ⟨g1, g2, g3⟩ := RN.out.inv
          exact ⟨_, rfl, (Rq.mk g3 rfl rfl (g1.put3 KP3.out (hnoR _ _ _ _ _ _ _)) (g2.put3 KP3.out (hnoR _ _ _ _ _ _ _))).cast (EQ.out.symm), below_cast HP.out.1 (((HB.out.setCell HP.out.2 _).setCell HP.out.2 _).setCell HP.out.2 _)⟩
        · obtain ⟨en, hn1, hn2, hq0, sq, heq⟩ := cfQ_in HE.out H0.out h2
          rw [show cq (((lo.floor : Int) : Rat) + 1) hi = 1 from cq_gt (Rat.not_le.1 fun c => h2 ((next_le lo hi).1 c))] at C
          have CC := Lib.hid C
          have EN := Lib.hid en
          have HN1 := Lib.hid hn1
          have HN2 := Lib.hid hn2
          have HQ0 := Lib.hid hq0
          have SQ := Lib.hid sq
          have EQ := Lib.hid heq
          clear C h2 en hn1 hn2 hq0 sq heq
          have d60 := KP6.out.cell (i := 0) rfl
          have d61 := KP6.out.cell (i := 1) rfl
          have d62 := KP6.out.cell (i := 2) rfl
          have d20 := KP2.out.cell (i := 0) rfl
          have d21 := KP2.out.cell (i := 1) rfl
          have d22 := KP2.out.cell (i := 2) rfl
          go_wp2_with fail
          refine (CC.out).mono ?_
          rintro _ w8 ⟨rfl, hb⟩
          replace RF := Lib.hid (RF.out.below hb)
          replace Ra := Lib.hid (Ra.out.below hb)
          replace Rb := Lib.hid (Rb.out.below hb)
          replace KP5 := Lib.hid (KP5.out.after hb)
          replace KP3 := Lib.hid (KP3.out.after hb)
          replace KP1 := Lib.hid (KP1.out.after hb)
          replace KP2 := Lib.hid (KP2.out.after hb)
          replace HB := Lib.hid (HB.out.trans (hb.mono HS.out))
          replace HS := Lib.hid (Nat.le_trans HS.out hb.size)
          clear hb CC RN KP6
          clear d60 d61 d62 d20 d21 d22
          go_upto_region 11 with fail
          have C1 : Hid (∀ W, Below w8.heap.size w8 W → _) := Lib.hid fun W (h1 : Below w8.heap.size w8 W) => refWhole1 W
          have C2 : Hid (∀ W, Below w8.heap.size w8 W → _) := Lib.hid fun W (h1 : Below w8.heap.size w8 W) => refMinusW (RF.out.below h1)
          have C3 : Hid (∀ W0 W x, Below w8.heap.size w8 W0 → Below W0.heap.size W0 W → Rq W0 (-((lo.floor : Int) : Rat)) x → _) := Lib.hid fun W0 W x (h0 : Below w8.heap.size w8 W0) (h1 : Below W0.heap.size W0 W) (qx : Rq W0 (-((lo.floor : Int) : Rat)) x) => refPlusQ (Rb.out.below (h0.trans (h1.mono h0.size))) (qx.below h1) HE.out.shi SF.out.neg (by have := HI.out; omega)
          have C4 : Hid (∀ W0 W x y, Below w8.heap.size w8 W0 → Below W0.heap.size W0 W → Rq W0 (1) x → Rq W0 (hi + -((lo.floor : Int) : Rat)) y → _) := Lib.hid fun W0 W x y (h0 : Below w8.heap.size w8 W0) (h1 : Below W0.heap.size W0 W) (qx : Rq W0 (1) x) (qy : Rq W0 (hi + -((lo.floor : Int) : Rat)) y) => refOverQ (qx.below h1) (qy.below h1) sz_one (HE.out.shi.add SF.out.neg) (by have := HI.out; omega) HN1.out
          have C7 : Hid (∀ W0 W x, Below w8.heap.size w8 W0 → Below W0.heap.size W0 W → Rq W0 (-((lo.floor : Int) : Rat)) x → _) := Lib.hid fun W0 W x (h0 : Below w8.heap.size w8 W0) (h1 : Below W0.heap.size W0 W) (qx : Rq W0 (-((lo.floor : Int) : Rat)) x) => refPlusQ (Ra.out.below (h0.trans (h1.mono h0.size))) (qx.below h1) HE.out.slo SF.out.neg (by have := HI.out; omega)
          have C8 : Hid (∀ W0 W x y, Below w8.heap.size w8 W0 → Below W0.heap.size W0 W → Rq W0 (1) x → Rq W0 (lo + -((lo.floor : Int) : Rat)) y → _) := Lib.hid fun W0 W x y (h0 : Below w8.heap.size w8 W0) (h1 : Below W0.heap.size W0 W) (qx : Rq W0 (1) x) (qy : Rq W0 (lo + -((lo.floor : Int) : Rat)) y) => refOverQ (qx.below h1) (qy.below h1) sz_one (HE.out.slo.add SF.out.neg) (by have := HI.out; omega) HN2.out
          have C9 : Hid (∀ W0 W x y, Below w8.heap.size w8 W0 → Below W0.heap.size W0 W → Rq W0 ((1 / (hi + -((lo.floor : Int) : Rat)))) x → Rq W0 ((1 / (lo + -((lo.floor : Int) : Rat)))) y → _) := Lib.hid fun W0 W x y (h0 : Below w8.heap.size w8 W0) (h1 : Below W0.heap.size W0 W) (qx : Rq W0 ((1 / (hi + -((lo.floor : Int) : Rat)))) x) (qy : Rq W0 ((1 / (lo + -((lo.floor : Int) : Rat)))) y) => IH.out i (1 / (hi + -((lo.floor : Int) : Rat))) (1 / (lo + -((lo.floor : Int) : Rat))) x y W (qx.below h1) (qy.below h1) EN.out HI.out
          have KEEP : Hid (∀ W, Below w8.heap.size w8 W → (W.cell? ⟨P5, 0, none⟩ = some (.bool b5) ∧ W.cell? ⟨P5, 1, none⟩ = some (.slice A5 n5 c5) ∧ W.cell? ⟨P5, 2, none⟩ = some (.slice A5' n5' c5') ∧ W.cell? ⟨P1, 0, none⟩ = some (.bool false) ∧ W.cell? ⟨P1, 1, none⟩ = some (.slice A1 n1 c1) ∧ W.cell? ⟨P1, 2, none⟩ = some (.slice A1' n1' c1') ∧ W.cell? ⟨P2, 0, none⟩ = some (.bool false) ∧ W.cell? ⟨P2, 1, none⟩ = some (.slice A2 n2 c2) ∧ W.cell? ⟨P2, 2, none⟩ = some (.slice A2' n2' c2') ∧ Below w8.heap.size w8 W)) := Lib.hid fun W h1 => ⟨(KP5.out.after h1).cell rfl, (KP5.out.after h1).cell rfl, (KP5.out.after h1).cell rfl, (KP1.out.after h1).cell rfl, (KP1.out.after h1).cell rfl, (KP1.out.after h1).cell rfl, (KP2.out.after h1).cell rfl, (KP2.out.after h1).cell rfl, (KP2.out.after h1).cell rfl, h1⟩
          have NEXT : Hid (∀ W W', (W.cell? ⟨P5, 0, none⟩ = some (.bool b5) ∧ W.cell? ⟨P5, 1, none⟩ = some (.slice A5 n5 c5) ∧ W.cell? ⟨P5, 2, none⟩ = some (.slice A5' n5' c5') ∧ W.cell? ⟨P1, 0, none⟩ = some (.bool false) ∧ W.cell? ⟨P1, 1, none⟩ = some (.slice A1 n1 c1) ∧ W.cell? ⟨P1, 2, none⟩ = some (.slice A1' n1' c1') ∧ W.cell? ⟨P2, 0, none⟩ = some (.bool false) ∧ W.cell? ⟨P2, 1, none⟩ = some (.slice A2 n2 c2) ∧ W.cell? ⟨P2, 2, none⟩ = some (.slice A2' n2' c2') ∧ Below w8.heap.size w8 W) → Below W.heap.size W W' → (W'.cell? ⟨P5, 0, none⟩ = some (.bool b5) ∧ W'.cell? ⟨P5, 1, none⟩ = some (.slice A5 n5 c5) ∧ W'.cell? ⟨P5, 2, none⟩ = some (.slice A5' n5' c5') ∧ W'.cell? ⟨P1, 0, none⟩ = some (.bool false) ∧ W'.cell? ⟨P1, 1, none⟩ = some (.slice A1 n1 c1) ∧ W'.cell? ⟨P1, 2, none⟩ = some (.slice A1' n1' c1') ∧ W'.cell? ⟨P2, 0, none⟩ = some (.bool false) ∧ W'.cell? ⟨P2, 1, none⟩ = some (.slice A2 n2 c2) ∧ W'.cell? ⟨P2, 2, none⟩ = some (.slice A2' n2' c2') ∧ Below w8.heap.size w8 W')) := Lib.hid fun W W' h hb => KEEP.out W' (h.2.2.2.2.2.2.2.2.2.trans (hb.mono h.2.2.2.2.2.2.2.2.2.size))
          have ALL : Hid (∀ W o, (W.cell? ⟨P5, 0, none⟩ = some (.bool b5) ∧ W.cell? ⟨P5, 1, none⟩ = some (.slice A5 n5 c5) ∧ W.cell? ⟨P5, 2, none⟩ = some (.slice A5' n5' c5') ∧ W.cell? ⟨P1, 0, none⟩ = some (.bool false) ∧ W.cell? ⟨P1, 1, none⟩ = some (.slice A1 n1 c1) ∧ W.cell? ⟨P1, 2, none⟩ = some (.slice A1' n1' c1') ∧ W.cell? ⟨P2, 0, none⟩ = some (.bool false) ∧ W.cell? ⟨P2, 1, none⟩ = some (.slice A2 n2 c2) ∧ W.cell? ⟨P2, 2, none⟩ = some (.slice A2' n2' c2') ∧ Below w8.heap.size w8 W) → ((W.alloc o).cell? ⟨P5, 0, none⟩ = some (.bool b5) ∧ (W.alloc o).cell? ⟨P5, 1, none⟩ = some (.slice A5 n5 c5) ∧ (W.alloc o).cell? ⟨P5, 2, none⟩ = some (.slice A5' n5' c5') ∧ (W.alloc o).cell? ⟨P1, 0, none⟩ = some (.bool false) ∧ (W.alloc o).cell? ⟨P1, 1, none⟩ = some (.slice A1 n1 c1) ∧ (W.alloc o).cell? ⟨P1, 2, none⟩ = some (.slice A1' n1' c1') ∧ (W.alloc o).cell? ⟨P2, 0, none⟩ = some (.bool false) ∧ (W.alloc o).cell? ⟨P2, 1, none⟩ = some (.slice A2 n2 c2) ∧ (W.alloc o).cell? ⟨P2, 2, none⟩ = some (.slice A2' n2' c2') ∧ Below w8.heap.size w8 (W.alloc o))) := Lib.hid fun W o h => NEXT.out W _ h (below1 W o)
          have ALC : Hid (∀ W w', (W.cell? ⟨P5, 0, none⟩ = some (.bool b5) ∧ W.cell? ⟨P5, 1, none⟩ = some (.slice A5 n5 c5) ∧ W.cell? ⟨P5, 2, none⟩ = some (.slice A5' n5' c5') ∧ W.cell? ⟨P1, 0, none⟩ = some (.bool false) ∧ W.cell? ⟨P1, 1, none⟩ = some (.slice A1 n1 c1) ∧ W.cell? ⟨P1, 2, none⟩ = some (.slice A1' n1' c1') ∧ W.cell? ⟨P2, 0, none⟩ = some (.bool false) ∧ W.cell? ⟨P2, 1, none⟩ = some (.slice A2 n2 c2) ∧ W.cell? ⟨P2, 2, none⟩ = some (.slice A2' n2' c2') ∧ Below w8.heap.size w8 W) → Below (W.alloc (.cells #[.bool false, .slice none 0 0, .slice none 0 0] 25)).heap.size (W.alloc (.cells #[.bool false, .slice none 0 0, .slice none 0 0] 25)) w' → Blk w' W.heap.size 25 #[.bool false, .slice none 0 0, .slice none 0 0] ∧ w8.heap.size ≤ W.heap.size) := Lib.hid fun W w' h hb => ⟨(Blk.new W _ _).after hb, h.2.2.2.2.2.2.2.2.2.size⟩
          have STO : Hid (∀ W p x y z, (W.cell? ⟨P5, 0, none⟩ = some (.bool b5) ∧ W.cell? ⟨P5, 1, none⟩ = some (.slice A5 n5 c5) ∧ W.cell? ⟨P5, 2, none⟩ = some (.slice A5' n5' c5') ∧ W.cell? ⟨P1, 0, none⟩ = some (.bool false) ∧ W.cell? ⟨P1, 1, none⟩ = some (.slice A1 n1 c1) ∧ W.cell? ⟨P1, 2, none⟩ = some (.slice A1' n1' c1') ∧ W.cell? ⟨P2, 0, none⟩ = some (.bool false) ∧ W.cell? ⟨P2, 1, none⟩ = some (.slice A2 n2 c2) ∧ W.cell? ⟨P2, 2, none⟩ = some (.slice A2' n2' c2') ∧ Below w8.heap.size w8 W) → w8.heap.size ≤ p → ((((W.setCell ⟨p, 0, none⟩ x).setCell ⟨p, 1, none⟩ y).setCell ⟨p, 2, none⟩ z).cell? ⟨P5, 0, none⟩ = some (.bool b5) ∧ (((W.setCell ⟨p, 0, none⟩ x).setCell ⟨p, 1, none⟩ y).setCell ⟨p, 2, none⟩ z).cell? ⟨P5, 1, none⟩ = some (.slice A5 n5 c5) ∧ (((W.setCell ⟨p, 0, none⟩ x).setCell ⟨p, 1, none⟩ y).setCell ⟨p, 2, none⟩ z).cell? ⟨P5, 2, none⟩ = some (.slice A5' n5' c5') ∧ (((W.setCell ⟨p, 0, none⟩ x).setCell ⟨p, 1, none⟩ y).setCell ⟨p, 2, none⟩ z).cell? ⟨P1, 0, none⟩ = some (.bool false) ∧ (((W.setCell ⟨p, 0, none⟩ x).setCell ⟨p, 1, none⟩ y).setCell ⟨p, 2, none⟩ z).cell? ⟨P1, 1, none⟩ = some (.slice A1 n1 c1) ∧ (((W.setCell ⟨p, 0, none⟩ x).setCell ⟨p, 1, none⟩ y).setCell ⟨p, 2, none⟩ z).cell? ⟨P1, 2, none⟩ = some (.slice A1' n1' c1') ∧ (((W.setCell ⟨p, 0, none⟩ x).setCell ⟨p, 1, none⟩ y).setCell ⟨p, 2, none⟩ z).cell? ⟨P2, 0, none⟩ = some (.bool false) ∧ (((W.setCell ⟨p, 0, none⟩ x).setCell ⟨p, 1, none⟩ y).setCell ⟨p, 2, none⟩ z).cell? ⟨P2, 1, none⟩ = some (.slice A2 n2 c2) ∧ (((W.setCell ⟨p, 0, none⟩ x).setCell ⟨p, 1, none⟩ y).setCell ⟨p, 2, none⟩ z).cell? ⟨P2, 2, none⟩ = some (.slice A2' n2' c2') ∧ Below w8.heap.size w8 (((W.setCell ⟨p, 0, none⟩ x).setCell ⟨p, 1, none⟩ y).setCell ⟨p, 2, none⟩ z))) := Lib.hid fun W p x y z h hg => KEEP.out _ (((h.2.2.2.2.2.2.2.2.2.setCell hg _).setCell hg _).setCell hg _)
          have hdrew := KEEP.out w8.drew (Below.refl _ _).drew
          have hdrewA := KEEP.out ((w8.alloc (.cells #[.bool false, .slice none 0 0, .slice none 0 0] 25)).drew) (below1 w8 _).drew
          have ALD : Hid (∀ w', Below ((w8.alloc (.cells #[.bool false, .slice none 0 0, .slice none 0 0] 25)).drew).heap.size ((w8.alloc (.cells #[.bool false, .slice none 0 0, .slice none 0 0] 25)).drew) w' → Blk w' w8.heap.size 25 #[.bool false, .slice none 0 0, .slice none 0 0] ∧ w8.heap.size ≤ w8.heap.size) := Lib.hid fun w' hb => ⟨Blk.after (show Blk ((w8.alloc (.cells #[.bool false, .slice none 0 0, .slice none 0 0] 25)).drew) w8.heap.size 25 #[.bool false, .slice none 0 0, .slice none 0 0] from Blk.new w8 _ _) hb, Nat.le_refl _⟩
          go_cut [7] (fun p wx => ∃ g s4 B4 m4 d4 B4' m4' d4', p = .pointer (some ⟨g, 0, none⟩) ∧ Hid (Blk wx g 25 #[.bool s4, .slice B4 m4 d4, .slice B4' m4' d4']) ∧ Hid (Rq wx (cfQ k (1 / (hi + -((lo.floor : Int) : Rat))) (1 / (lo + -((lo.floor : Int) : Rat)))) (.agg #[.bool s4, .slice B4 m4 d4, .slice B4' m4' d4'])) ∧ Hid (Below w8.heap.size w8 wx ∧ w8.heap.size ≤ g))
          case first =>
            go_region_held3 (fun W => W.cell? ⟨P5, 0, none⟩ = some (.bool b5) ∧ W.cell? ⟨P5, 1, none⟩ = some (.slice A5 n5 c5) ∧ W.cell? ⟨P5, 2, none⟩ = some (.slice A5' n5' c5') ∧ W.cell? ⟨P1, 0, none⟩ = some (.bool false) ∧ W.cell? ⟨P1, 1, none⟩ = some (.slice A1 n1 c1) ∧ W.cell? ⟨P1, 2, none⟩ = some (.slice A1' n1' c1') ∧ W.cell? ⟨P2, 0, none⟩ = some (.bool false) ∧ W.cell? ⟨P2, 1, none⟩ = some (.slice A2 n2 c2) ∧ W.cell? ⟨P2, 2, none⟩ = some (.slice A2' n2' c2') ∧ Below w8.heap.size w8 W)
              (first | with_reducible assumption | with_reducible exact ALL.out _ _ (by with_reducible assumption) | with_reducible exact STO.out _ _ _ _ _ (by with_reducible assumption) hge)
              (first
                | ((fail_if_success (have t := hS)); go_at_call 91; (with_reducible refine (C1.out ((w8.alloc (.cells #[.bool false, .slice none 0 0, .slice none 0 0] 25)).drew) ((show _ ∧ _ ∧ _ ∧ _ ∧ _ ∧ _ ∧ _ ∧ _ ∧ _ ∧ _ from by with_reducible assumption).2.2.2.2.2.2.2.2.2)).mono ?_); rintro _ y1 ⟨x1, rfl, hx1, hby1⟩; have HX1 := Lib.hid hx1; clear hx1; have hS := NEXT.out _ _ (by with_reducible assumption) hby1; obtain ⟨hA, hge⟩ := ALD.out _ hby1; have e0_ := hA.cell (i := 0) rfl; have e1_ := hA.cell (i := 1) rfl; have e2_ := hA.cell (i := 2) rfl; have hfA := hA.free; have hlA := hA.lt)
                | ((fail_if_success (have t := hS)); go_at_call 91; (with_reducible refine (C1.out (World.alloc _ (.cells #[.bool false, .slice none 0 0, .slice none 0 0] 25)) ((show _ ∧ _ ∧ _ ∧ _ ∧ _ ∧ _ ∧ _ ∧ _ ∧ _ ∧ _ from by with_reducible assumption).2.2.2.2.2.2.2.2.2)).mono ?_); rintro _ y1 ⟨x1, rfl, hx1, hby1⟩; have HX1 := Lib.hid hx1; clear hx1; have hS := NEXT.out _ _ (by with_reducible assumption) hby1; obtain ⟨hA, hge⟩ := ALC.out _ _ (by with_reducible assumption) hby1; have e0_ := hA.cell (i := 0) rfl; have e1_ := hA.cell (i := 1) rfl; have e2_ := hA.cell (i := 2) rfl; have hfA := hA.free; have hlA := hA.lt)
                | ((fail_if_success (have t := hS)); go_at_call 91; (with_reducible refine (C1.out _ ((show _ ∧ _ ∧ _ ∧ _ ∧ _ ∧ _ ∧ _ ∧ _ ∧ _ ∧ _ from by with_reducible assumption).2.2.2.2.2.2.2.2.2)).mono ?_); rintro _ y1 ⟨x1, rfl, hx1, hby1⟩; have HX1 := Lib.hid hx1; clear hx1; have hS := NEXT.out _ _ (by with_reducible assumption) hby1; replace hA := hA.after hby1; have e0_ := hA.cell (i := 0) rfl; have e1_ := hA.cell (i := 1) rfl; have e2_ := hA.cell (i := 2) rfl; have hfA := hA.free; have hlA := hA.lt)
                | ((fail_if_success (have t := hS)); go_at_call 91; (with_reducible refine (C1.out _ ((show _ ∧ _ ∧ _ ∧ _ ∧ _ ∧ _ ∧ _ ∧ _ ∧ _ ∧ _ from by with_reducible assumption).2.2.2.2.2.2.2.2.2)).mono ?_); rintro _ y1 ⟨x1, rfl, hx1, hby1⟩; have HX1 := Lib.hid hx1; clear hx1; have hS := NEXT.out _ _ (by with_reducible assumption) hby1)
                | (go_at_call 62; (with_reducible refine (C2.out (World.alloc _ (.cells #[.bool false, .slice none 0 0, .slice none 0 0] 25)) ((show _ ∧ _ ∧ _ ∧ _ ∧ _ ∧ _ ∧ _ ∧ _ ∧ _ ∧ _ from by with_reducible assumption).2.2.2.2.2.2.2.2.2)).mono ?_); rintro _ y2 ⟨x2, rfl, hx2, hby2⟩; have HX2 := Lib.hid hx2; clear hx2;replace HX1 := (by first | with_reducible exact Lib.hid (HX1.out.below hby2) | with_reducible exact Lib.hid ((HX1.out.below (below1 _ _)).below hby2) : Hid (Rq y2 _ x1)); have hS := NEXT.out _ _ (by with_reducible assumption) hby2; obtain ⟨hA, hge⟩ := ALC.out _ _ (by with_reducible assumption) hby2; have e0_ := hA.cell (i := 0) rfl; have e1_ := hA.cell (i := 1) rfl; have e2_ := hA.cell (i := 2) rfl; have hfA := hA.free; have hlA := hA.lt)
                | (go_at_call 62; (with_reducible refine (C2.out _ ((show _ ∧ _ ∧ _ ∧ _ ∧ _ ∧ _ ∧ _ ∧ _ ∧ _ ∧ _ from by with_reducible assumption).2.2.2.2.2.2.2.2.2)).mono ?_); rintro _ y2 ⟨x2, rfl, hx2, hby2⟩; have HX2 := Lib.hid hx2; clear hx2;replace HX1 := (by first | with_reducible exact Lib.hid (HX1.out.below hby2) | with_reducible exact Lib.hid ((HX1.out.below (below1 _ _)).below hby2) : Hid (Rq y2 _ x1)); have hS := NEXT.out _ _ (by with_reducible assumption) hby2; replace hA := hA.after hby2; have e0_ := hA.cell (i := 0) rfl; have e1_ := hA.cell (i := 1) rfl; have e2_ := hA.cell (i := 2) rfl; have hfA := hA.free; have hlA := hA.lt)
                | (go_at_call 62; (with_reducible refine (C2.out _ ((show _ ∧ _ ∧ _ ∧ _ ∧ _ ∧ _ ∧ _ ∧ _ ∧ _ ∧ _ from by with_reducible assumption).2.2.2.2.2.2.2.2.2)).mono ?_); rintro _ y2 ⟨x2, rfl, hx2, hby2⟩; have HX2 := Lib.hid hx2; clear hx2;replace HX1 := (by first | with_reducible exact Lib.hid (HX1.out.below hby2) | with_reducible exact Lib.hid ((HX1.out.below (below1 _ _)).below hby2) : Hid (Rq y2 _ x1)); have hS := NEXT.out _ _ (by with_reducible assumption) hby2)
                | (go_at_call 60; (with_reducible refine (C3.out y2 (World.alloc _ (.cells #[.bool false, .slice none 0 0, .slice none 0 0] 25)) x2 hS.2.2.2.2.2.2.2.2.2 (by first | with_reducible exact Below.refl _ _ | with_reducible exact below1 _ _) HX2.out).mono ?_); rintro _ y3 ⟨x3, rfl, hx3, hby3⟩; have HX3 := Lib.hid hx3; clear hx3;replace HX1 := (by first | with_reducible exact Lib.hid (HX1.out.below hby3) | with_reducible exact Lib.hid ((HX1.out.below (below1 _ _)).below hby3) : Hid (Rq y3 _ x1)); have hS := NEXT.out _ _ (by with_reducible assumption) hby3; obtain ⟨hA, hge⟩ := ALC.out _ _ (by with_reducible assumption) hby3; have e0_ := hA.cell (i := 0) rfl; have e1_ := hA.cell (i := 1) rfl; have e2_ := hA.cell (i := 2) rfl; have hfA := hA.free; have hlA := hA.lt)
                | (go_at_call 60; (with_reducible refine (C3.out y2 _ x2 hS.2.2.2.2.2.2.2.2.2 (by first | with_reducible exact Below.refl _ _ | with_reducible exact below1 _ _) HX2.out).mono ?_); rintro _ y3 ⟨x3, rfl, hx3, hby3⟩; have HX3 := Lib.hid hx3; clear hx3;replace HX1 := (by first | with_reducible exact Lib.hid (HX1.out.below hby3) | with_reducible exact Lib.hid ((HX1.out.below (below1 _ _)).below hby3) : Hid (Rq y3 _ x1)); have hS := NEXT.out _ _ (by with_reducible assumption) hby3; replace hA := hA.after hby3; have e0_ := hA.cell (i := 0) rfl; have e1_ := hA.cell (i := 1) rfl; have e2_ := hA.cell (i := 2) rfl; have hfA := hA.free; have hlA := hA.lt)
                | (go_at_call 60; (with_reducible refine (C3.out y2 _ x2 hS.2.2.2.2.2.2.2.2.2 (by first | with_reducible exact Below.refl _ _ | with_reducible exact below1 _ _) HX2.out).mono ?_); rintro _ y3 ⟨x3, rfl, hx3, hby3⟩; have HX3 := Lib.hid hx3; clear hx3;replace HX1 := (by first | with_reducible exact Lib.hid (HX1.out.below hby3) | with_reducible exact Lib.hid ((HX1.out.below (below1 _ _)).below hby3) : Hid (Rq y3 _ x1)); have hS := NEXT.out _ _ (by with_reducible assumption) hby3)
                | (go_at_call 66; (with_reducible refine (C4.out y3 (World.alloc _ (.cells #[.bool false, .slice none 0 0, .slice none 0 0] 25)) x1 x3 hS.2.2.2.2.2.2.2.2.2 (by first | with_reducible exact Below.refl _ _ | with_reducible exact below1 _ _) HX1.out HX3.out).mono ?_); rintro _ y4 ⟨x4, rfl, hx4, hby4⟩; have HX4 := Lib.hid hx4; clear hx4;clear HX1 HX2 HX3; have hS := NEXT.out _ _ (by with_reducible assumption) hby4; obtain ⟨hA, hge⟩ := ALC.out _ _ (by with_reducible assumption) hby4; have e0_ := hA.cell (i := 0) rfl; have e1_ := hA.cell (i := 1) rfl; have e2_ := hA.cell (i := 2) rfl; have hfA := hA.free; have hlA := hA.lt)
                | (go_at_call 66; (with_reducible refine (C4.out y3 _ x1 x3 hS.2.2.2.2.2.2.2.2.2 (by first | with_reducible exact Below.refl _ _ | with_reducible exact below1 _ _) HX1.out HX3.out).mono ?_); rintro _ y4 ⟨x4, rfl, hx4, hby4⟩; have HX4 := Lib.hid hx4; clear hx4;clear HX1 HX2 HX3; have hS := NEXT.out _ _ (by with_reducible assumption) hby4; replace hA := hA.after hby4; have e0_ := hA.cell (i := 0) rfl; have e1_ := hA.cell (i := 1) rfl; have e2_ := hA.cell (i := 2) rfl; have hfA := hA.free; have hlA := hA.lt)
                | (go_at_call 66; (with_reducible refine (C4.out y3 _ x1 x3 hS.2.2.2.2.2.2.2.2.2 (by first | with_reducible exact Below.refl _ _ | with_reducible exact below1 _ _) HX1.out HX3.out).mono ?_); rintro _ y4 ⟨x4, rfl, hx4, hby4⟩; have HX4 := Lib.hid hx4; clear hx4;clear HX1 HX2 HX3; have hS := NEXT.out _ _ (by with_reducible assumption) hby4)
                | (go_at_call 91; (with_reducible refine (C1.out (World.alloc _ (.cells #[.bool false, .slice none 0 0, .slice none 0 0] 25)) ((show _ ∧ _ ∧ _ ∧ _ ∧ _ ∧ _ ∧ _ ∧ _ ∧ _ ∧ _ from by with_reducible assumption).2.2.2.2.2.2.2.2.2)).mono ?_); rintro _ y5 ⟨x5, rfl, hx5, hby5⟩; have HX5 := Lib.hid hx5; clear hx5;replace HX4 := (by first | with_reducible exact Lib.hid (HX4.out.below hby5) | with_reducible exact Lib.hid ((HX4.out.below (below1 _ _)).below hby5) : Hid (Rq y5 _ x4)); have hS := NEXT.out _ _ (by with_reducible assumption) hby5; obtain ⟨hA, hge⟩ := ALC.out _ _ (by with_reducible assumption) hby5; have e0_ := hA.cell (i := 0) rfl; have e1_ := hA.cell (i := 1) rfl; have e2_ := hA.cell (i := 2) rfl; have hfA := hA.free; have hlA := hA.lt)
                | (go_at_call 91; (with_reducible refine (C1.out _ ((show _ ∧ _ ∧ _ ∧ _ ∧ _ ∧ _ ∧ _ ∧ _ ∧ _ ∧ _ from by with_reducible assumption).2.2.2.2.2.2.2.2.2)).mono ?_); rintro _ y5 ⟨x5, rfl, hx5, hby5⟩; have HX5 := Lib.hid hx5; clear hx5;replace HX4 := (by first | with_reducible exact Lib.hid (HX4.out.below hby5) | with_reducible exact Lib.hid ((HX4.out.below (below1 _ _)).below hby5) : Hid (Rq y5 _ x4)); have hS := NEXT.out _ _ (by with_reducible assumption) hby5; replace hA := hA.after hby5; have e0_ := hA.cell (i := 0) rfl; have e1_ := hA.cell (i := 1) rfl; have e2_ := hA.cell (i := 2) rfl; have hfA := hA.free; have hlA := hA.lt)
                | (go_at_call 91; (with_reducible refine (C1.out _ ((show _ ∧ _ ∧ _ ∧ _ ∧ _ ∧ _ ∧ _ ∧ _ ∧ _ ∧ _ from by with_reducible assumption).2.2.2.2.2.2.2.2.2)).mono ?_); rintro _ y5 ⟨x5, rfl, hx5, hby5⟩; have HX5 := Lib.hid hx5; clear hx5;replace HX4 := (by first | with_reducible exact Lib.hid (HX4.out.below hby5) | with_reducible exact Lib.hid ((HX4.out.below (below1 _ _)).below hby5) : Hid (Rq y5 _ x4)); have hS := NEXT.out _ _ (by with_reducible assumption) hby5)
                | (go_at_call 62; (with_reducible refine (C2.out (World.alloc _ (.cells #[.bool false, .slice none 0 0, .slice none 0 0] 25)) ((show _ ∧ _ ∧ _ ∧ _ ∧ _ ∧ _ ∧ _ ∧ _ ∧ _ ∧ _ from by with_reducible assumption).2.2.2.2.2.2.2.2.2)).mono ?_); rintro _ y6 ⟨x6, rfl, hx6, hby6⟩; have HX6 := Lib.hid hx6; clear hx6;replace HX4 := (by first | with_reducible exact Lib.hid (HX4.out.below hby6) | with_reducible exact Lib.hid ((HX4.out.below (below1 _ _)).below hby6) : Hid (Rq y6 _ x4));replace HX5 := (by first | with_reducible exact Lib.hid (HX5.out.below hby6) | with_reducible exact Lib.hid ((HX5.out.below (below1 _ _)).below hby6) : Hid (Rq y6 _ x5)); have hS := NEXT.out _ _ (by with_reducible assumption) hby6; obtain ⟨hA, hge⟩ := ALC.out _ _ (by with_reducible assumption) hby6; have e0_ := hA.cell (i := 0) rfl; have e1_ := hA.cell (i := 1) rfl; have e2_ := hA.cell (i := 2) rfl; have hfA := hA.free; have hlA := hA.lt)
                | (go_at_call 62; (with_reducible refine (C2.out _ ((show _ ∧ _ ∧ _ ∧ _ ∧ _ ∧ _ ∧ _ ∧ _ ∧ _ ∧ _ from by with_reducible assumption).2.2.2.2.2.2.2.2.2)).mono ?_); rintro _ y6 ⟨x6, rfl, hx6, hby6⟩; have HX6 := Lib.hid hx6; clear hx6;replace HX4 := (by first | with_reducible exact Lib.hid (HX4.out.below hby6) | with_reducible exact Lib.hid ((HX4.out.below (below1 _ _)).below hby6) : Hid (Rq y6 _ x4));replace HX5 := (by first | with_reducible exact Lib.hid (HX5.out.below hby6) | with_reducible exact Lib.hid ((HX5.out.below (below1 _ _)).below hby6) : Hid (Rq y6 _ x5)); have hS := NEXT.out _ _ (by with_reducible assumption) hby6; replace hA := hA.after hby6; have e0_ := hA.cell (i := 0) rfl; have e1_ := hA.cell (i := 1) rfl; have e2_ := hA.cell (i := 2) rfl; have hfA := hA.free; have hlA := hA.lt)
                | (go_at_call 62; (with_reducible refine (C2.out _ ((show _ ∧ _ ∧ _ ∧ _ ∧ _ ∧ _ ∧ _ ∧ _ ∧ _ ∧ _ from by with_reducible assumption).2.2.2.2.2.2.2.2.2)).mono ?_); rintro _ y6 ⟨x6, rfl, hx6, hby6⟩; have HX6 := Lib.hid hx6; clear hx6;replace HX4 := (by first | with_reducible exact Lib.hid (HX4.out.below hby6) | with_reducible exact Lib.hid ((HX4.out.below (below1 _ _)).below hby6) : Hid (Rq y6 _ x4));replace HX5 := (by first | with_reducible exact Lib.hid (HX5.out.below hby6) | with_reducible exact Lib.hid ((HX5.out.below (below1 _ _)).below hby6) : Hid (Rq y6 _ x5)); have hS := NEXT.out _ _ (by with_reducible assumption) hby6)
                | (go_at_call 60; (with_reducible refine (C7.out y6 (World.alloc _ (.cells #[.bool false, .slice none 0 0, .slice none 0 0] 25)) x6 hS.2.2.2.2.2.2.2.2.2 (by first | with_reducible exact Below.refl _ _ | with_reducible exact below1 _ _) HX6.out).mono ?_); rintro _ y7 ⟨x7, rfl, hx7, hby7⟩; have HX7 := Lib.hid hx7; clear hx7;replace HX4 := (by first | with_reducible exact Lib.hid (HX4.out.below hby7) | with_reducible exact Lib.hid ((HX4.out.below (below1 _ _)).below hby7) : Hid (Rq y7 _ x4));replace HX5 := (by first | with_reducible exact Lib.hid (HX5.out.below hby7) | with_reducible exact Lib.hid ((HX5.out.below (below1 _ _)).below hby7) : Hid (Rq y7 _ x5)); have hS := NEXT.out _ _ (by with_reducible assumption) hby7; obtain ⟨hA, hge⟩ := ALC.out _ _ (by with_reducible assumption) hby7; have e0_ := hA.cell (i := 0) rfl; have e1_ := hA.cell (i := 1) rfl; have e2_ := hA.cell (i := 2) rfl; have hfA := hA.free; have hlA := hA.lt)
                | (go_at_call 60; (with_reducible refine (C7.out y6 _ x6 hS.2.2.2.2.2.2.2.2.2 (by first | with_reducible exact Below.refl _ _ | with_reducible exact below1 _ _) HX6.out).mono ?_); rintro _ y7 ⟨x7, rfl, hx7, hby7⟩; have HX7 := Lib.hid hx7; clear hx7;replace HX4 := (by first | with_reducible exact Lib.hid (HX4.out.below hby7) | with_reducible exact Lib.hid ((HX4.out.below (below1 _ _)).below hby7) : Hid (Rq y7 _ x4));replace HX5 := (by first | with_reducible exact Lib.hid (HX5.out.below hby7) | with_reducible exact Lib.hid ((HX5.out.below (below1 _ _)).below hby7) : Hid (Rq y7 _ x5)); have hS := NEXT.out _ _ (by with_reducible assumption) hby7; replace hA := hA.after hby7; have e0_ := hA.cell (i := 0) rfl; have e1_ := hA.cell (i := 1) rfl; have e2_ := hA.cell (i := 2) rfl; have hfA := hA.free; have hlA := hA.lt)
                | (go_at_call 60; (with_reducible refine (C7.out y6 _ x6 hS.2.2.2.2.2.2.2.2.2 (by first | with_reducible exact Below.refl _ _ | with_reducible exact below1 _ _) HX6.out).mono ?_); rintro _ y7 ⟨x7, rfl, hx7, hby7⟩; have HX7 := Lib.hid hx7; clear hx7;replace HX4 := (by first | with_reducible exact Lib.hid (HX4.out.below hby7) | with_reducible exact Lib.hid ((HX4.out.below (below1 _ _)).below hby7) : Hid (Rq y7 _ x4));replace HX5 := (by first | with_reducible exact Lib.hid (HX5.out.below hby7) | with_reducible exact Lib.hid ((HX5.out.below (below1 _ _)).below hby7) : Hid (Rq y7 _ x5)); have hS := NEXT.out _ _ (by with_reducible assumption) hby7)
                | (go_at_call 66; (with_reducible refine (C8.out y7 (World.alloc _ (.cells #[.bool false, .slice none 0 0, .slice none 0 0] 25)) x5 x7 hS.2.2.2.2.2.2.2.2.2 (by first | with_reducible exact Below.refl _ _ | with_reducible exact below1 _ _) HX5.out HX7.out).mono ?_); rintro _ y8 ⟨x8, rfl, hx8, hby8⟩; have HX8 := Lib.hid hx8; clear hx8;replace HX4 := (by first | with_reducible exact Lib.hid (HX4.out.below hby8) | with_reducible exact Lib.hid ((HX4.out.below (below1 _ _)).below hby8) : Hid (Rq y8 _ x4)); have hS := NEXT.out _ _ (by with_reducible assumption) hby8; obtain ⟨hA, hge⟩ := ALC.out _ _ (by with_reducible assumption) hby8; have e0_ := hA.cell (i := 0) rfl; have e1_ := hA.cell (i := 1) rfl; have e2_ := hA.cell (i := 2) rfl; have hfA := hA.free; have hlA := hA.lt)
                | (go_at_call 66; (with_reducible refine (C8.out y7 _ x5 x7 hS.2.2.2.2.2.2.2.2.2 (by first | with_reducible exact Below.refl _ _ | with_reducible exact below1 _ _) HX5.out HX7.out).mono ?_); rintro _ y8 ⟨x8, rfl, hx8, hby8⟩; have HX8 := Lib.hid hx8; clear hx8;replace HX4 := (by first | with_reducible exact Lib.hid (HX4.out.below hby8) | with_reducible exact Lib.hid ((HX4.out.below (below1 _ _)).below hby8) : Hid (Rq y8 _ x4)); have hS := NEXT.out _ _ (by with_reducible assumption) hby8; replace hA := hA.after hby8; have e0_ := hA.cell (i := 0) rfl; have e1_ := hA.cell (i := 1) rfl; have e2_ := hA.cell (i := 2) rfl; have hfA := hA.free; have hlA := hA.lt)
                | (go_at_call 66; (with_reducible refine (C8.out y7 _ x5 x7 hS.2.2.2.2.2.2.2.2.2 (by first | with_reducible exact Below.refl _ _ | with_reducible exact below1 _ _) HX5.out HX7.out).mono ?_); rintro _ y8 ⟨x8, rfl, hx8, hby8⟩; have HX8 := Lib.hid hx8; clear hx8;replace HX4 := (by first | with_reducible exact Lib.hid (HX4.out.below hby8) | with_reducible exact Lib.hid ((HX4.out.below (below1 _ _)).below hby8) : Hid (Rq y8 _ x4)); have hS := NEXT.out _ _ (by with_reducible assumption) hby8)
                | (go_at_call 96; (with_reducible refine (C9.out y8 (World.alloc _ (.cells #[.bool false, .slice none 0 0, .slice none 0 0] 25)) x4 x8 hS.2.2.2.2.2.2.2.2.2 (by first | with_reducible exact Below.refl _ _ | with_reducible exact below1 _ _) HX4.out HX8.out).mono ?_); rintro _ y9 ⟨x9, rfl, hx9, hby9⟩; obtain ⟨b4, B4, m4, e4, B4', m4', e4', rfl, _, _, _⟩ := hx9.get; have HX9 := Lib.hid hx9; clear hx9; have hS := NEXT.out _ _ (by with_reducible assumption) hby9; obtain ⟨hA, hge⟩ := ALC.out _ _ (by with_reducible assumption) hby9; have e0_ := hA.cell (i := 0) rfl; have e1_ := hA.cell (i := 1) rfl; have e2_ := hA.cell (i := 2) rfl; have hfA := hA.free; have hlA := hA.lt)
                | (go_at_call 96; (with_reducible refine (C9.out y8 _ x4 x8 hS.2.2.2.2.2.2.2.2.2 (by first | with_reducible exact Below.refl _ _ | with_reducible exact below1 _ _) HX4.out HX8.out).mono ?_); rintro _ y9 ⟨x9, rfl, hx9, hby9⟩; obtain ⟨b4, B4, m4, e4, B4', m4', e4', rfl, _, _, _⟩ := hx9.get; have HX9 := Lib.hid hx9; clear hx9; have hS := NEXT.out _ _ (by with_reducible assumption) hby9; replace hA := hA.after hby9; have e0_ := hA.cell (i := 0) rfl; have e1_ := hA.cell (i := 1) rfl; have e2_ := hA.cell (i := 2) rfl; have hfA := hA.free; have hlA := hA.lt)
                | (go_at_call 96; (with_reducible refine (C9.out y8 _ x4 x8 hS.2.2.2.2.2.2.2.2.2 (by first | with_reducible exact Below.refl _ _ | with_reducible exact below1 _ _) HX4.out HX8.out).mono ?_); rintro _ y9 ⟨x9, rfl, hx9, hby9⟩; obtain ⟨b4, B4, m4, e4, B4', m4', e4', rfl, _, _, _⟩ := hx9.get; have HX9 := Lib.hid hx9; clear hx9; have hS := NEXT.out _ _ (by with_reducible assumption) hby9))
            all_goals
              go_wp2_with fail
              go_meet
              first
                | (have k := hA.rowF (.bool b4) (.slice B4 m4 e4) (.slice B4' m4' e4'); have h := STO.out _ _ (.bool b4) (.slice B4 m4 e4) (.slice B4' m4' e4') hS hge; obtain ⟨g1, g2, g3⟩ := HX9.out.inv; have hq := Rq.mk g3 rfl rfl (g1.put3 (i := 0) (j := 1) (l := 2) (u := .bool b4) (x := .slice B4 m4 e4) (y := .slice B4' m4' e4') hA (hnoR _ _ _ _ _ _ _)) (g2.put3 (i := 0) (j := 1) (l := 2) (u := .bool b4) (x := .slice B4 m4 e4) (y := .slice B4' m4' e4') hA (hnoR _ _ _ _ _ _ _)); with_reducible exact ⟨_, _, _, _, _, _, _, _, rfl, Lib.hid k, Lib.hid hq, Lib.hid ⟨h.2.2.2.2.2.2.2.2.2, hge⟩⟩)
                | (have k := Blk.new y9 #[.bool b4, .slice B4 m4 e4, .slice B4' m4' e4'] 25; have h := ALL.out _ (.cells #[.bool b4, .slice B4 m4 e4, .slice B4' m4' e4'] 25) hS; have hq := HX9.out.below (below1 y9 (.cells #[.bool b4, .slice B4 m4 e4, .slice B4' m4' e4'] 25)); with_reducible exact ⟨_, _, _, _, _, _, _, _, rfl, Lib.hid k, Lib.hid hq, Lib.hid ⟨h.2.2.2.2.2.2.2.2.2, hS.2.2.2.2.2.2.2.2.2.size⟩⟩)
          case rest =>
            obtain ⟨P7, b7, A7, n7, c7, A7', n7', c7', rfl, KP7, RX, hk⟩ := hcut
            generalize wc = w9 at *
            have hk1 := hk.out.1
            have h37 : P3 < P7 := Nat.lt_of_lt_of_le KP3.out.lt hk.out.2
            have h35 := H35.out
            replace RF := Lib.hid (RF.out.below hk1)
            replace KP5 := Lib.hid (KP5.out.after hk1)
            replace KP3 := Lib.hid (KP3.out.after hk1)
            replace HB := Lib.hid (HB.out.trans (hk1.mono HS.out))
            replace HS := Lib.hid (Nat.le_trans HS.out hk1.size)
            clear KEEP NEXT ALL ALC STO hdrew hdrewA ALD C1 C2 C3 C4 C7 C8 C9 hk hk1 Ra Rb KP1 KP2
            go_upto_region 12 with fail
            have KEEP : Hid (∀ W, Below w9.heap.size w9 W → (W.cell? ⟨P5, 0, none⟩ = some (.bool b5) ∧ W.cell? ⟨P5, 1, none⟩ = some (.slice A5 n5 c5) ∧ W.cell? ⟨P5, 2, none⟩ = some (.slice A5' n5' c5') ∧ W.cell? ⟨P7, 0, none⟩ = some (.bool b7) ∧ W.cell? ⟨P7, 1, none⟩ = some (.slice A7 n7 c7) ∧ W.cell? ⟨P7, 2, none⟩ = some (.slice A7' n7' c7'))) := Lib.hid fun W h1 => ⟨(KP5.out.after h1).cell rfl, (KP5.out.after h1).cell rfl, (KP5.out.after h1).cell rfl, (KP7.out.after h1).cell rfl, (KP7.out.after h1).cell rfl, (KP7.out.after h1).cell rfl⟩
            have KEEP3 : Hid (∀ W u v x, Below w9.heap.size w9 W → ((((W.setCell ⟨P3, 0, none⟩ u).setCell ⟨P3, 1, none⟩ v).setCell ⟨P3, 2, none⟩ x).cell? ⟨P5, 0, none⟩ = some (.bool b5) ∧ (((W.setCell ⟨P3, 0, none⟩ u).setCell ⟨P3, 1, none⟩ v).setCell ⟨P3, 2, none⟩ x).cell? ⟨P5, 1, none⟩ = some (.slice A5 n5 c5) ∧ (((W.setCell ⟨P3, 0, none⟩ u).setCell ⟨P3, 1, none⟩ v).setCell ⟨P3, 2, none⟩ x).cell? ⟨P5, 2, none⟩ = some (.slice A5' n5' c5') ∧ (((W.setCell ⟨P3, 0, none⟩ u).setCell ⟨P3, 1, none⟩ v).setCell ⟨P3, 2, none⟩ x).cell? ⟨P7, 0, none⟩ = some (.bool b7) ∧ (((W.setCell ⟨P3, 0, none⟩ u).setCell ⟨P3, 1, none⟩ v).setCell ⟨P3, 2, none⟩ x).cell? ⟨P7, 1, none⟩ = some (.slice A7 n7 c7) ∧ (((W.setCell ⟨P3, 0, none⟩ u).setCell ⟨P3, 1, none⟩ v).setCell ⟨P3, 2, none⟩ x).cell? ⟨P7, 2, none⟩ = some (.slice A7' n7' c7'))) := Lib.hid fun W u v x h1 => ⟨(((KP5.out.after h1).other3 (by omega) u v x)).cell rfl, (((KP5.out.after h1).other3 (by omega) u v x)).cell rfl, (((KP5.out.after h1).other3 (by omega) u v x)).cell rfl, (((KP7.out.after h1).other3 (by omega) u v x)).cell rfl, (((KP7.out.after h1).other3 (by omega) u v x)).cell rfl, (((KP7.out.after h1).other3 (by omega) u v x)).cell rfl⟩
            have hdrew : Below w9.heap.size w9 w9.drew := (Below.refl _ _).drew
            go_region_held3 (fun W => W.cell? ⟨P5, 0, none⟩ = some (.bool b5) ∧ W.cell? ⟨P5, 1, none⟩ = some (.slice A5 n5 c5) ∧ W.cell? ⟨P5, 2, none⟩ = some (.slice A5' n5' c5') ∧ W.cell? ⟨P7, 0, none⟩ = some (.bool b7) ∧ W.cell? ⟨P7, 1, none⟩ = some (.slice A7 n7 c7) ∧ W.cell? ⟨P7, 2, none⟩ = some (.slice A7' n7' c7'))
              (first | with_reducible exact KEEP.out wq3 hk3 | with_reducible exact KEEP.out wq2 hk2 | with_reducible exact KEEP.out wq1 hk1 | with_reducible exact KEEP.out w9.drew hdrew | with_reducible exact KEEP3.out wq3 _ _ _ hk3 | go_keep)
              (first
                | (go_at_call 91; (with_reducible refine (refWhole1 _).mono ?_); rintro _ wq1 ⟨o1, rfl, ho1, hb1⟩; have hk1 := hdrew.trans (hb1.mono hdrew.size); have HO := Lib.hid ho1; clear ho1)
                | (go_at_call 66; (with_reducible refine (refOverQ HO.out (RX.out.below hk1) sz_one SQ.out (by have := HI.out; omega) HQ0.out).mono ?_); rintro _ wq2 ⟨o2, rfl, ho2, hb2⟩; have hk2 := hk1.trans (hb2.mono hk1.size); have HO2 := Lib.hid ho2; clear ho2)
                | (go_at_call 60; (with_reducible refine (refPlusQ (RF.out.below hk2) HO2.out SF.out (sz_one.div SQ.out HQ0.out) (by have := HI.out; omega)).mono ?_); rintro _ wq3 ⟨xL, rfl, hxL, hb3⟩; have hk3 := hk2.trans (hb3.mono hk2.size); have hxM := hxL.cast EQ.out; obtain ⟨bL, AL, nL, cL, AL', nL', cL', rfl, _, _, _⟩ := hxL.get; have HXL := Lib.hid hxM; clear hxL hxM; have hzz : P3 < wq3.heap.size := (KP3.out.after hk3).lt; have z0 := (KP3.out.after hk3).cell (i := 0) rfl; have z1 := (KP3.out.after hk3).cell (i := 1) rfl; have z2 := (KP3.out.after hk3).cell (i := 2) rfl; have zf := (KP3.out.after hk3).free))
            have KK := KP3.out.after hk3
            have hbc := HB.out.trans (hk3.mono HS.out)
            go_wp2_with fail
            refine bodyPost_ret (results_cell_row (p := 4) (ty := 25) rfl _ _ P3 25 _ _ _ rfl KK.set.set.set Tryz.underlying25 rfl (by kernel_rfl)) rfl ?_
            obtain ⟨g1, g2, g3⟩ := HXL.out.inv
            exact ⟨_, rfl, Rq.mk g3 rfl rfl (g1.put3 KK (hnoR _ _ _ _ _ _ _)) (g2.put3 KK (hnoR _ _ _ _ _ _ _)), below_cast HP.out.1 (((hbc.setCell HP.out.2 _).setCell HP.out.2 _).setCell HP.out.2 _)⟩
end Go.Proofs.YtmcacofpnnaplaaGreatDoor

/- The reference's simplest number of any interval. Conditions as premises: the numbers read, and are short enough. -/
namespace Go.Proofs.YtmcacofpnnaplaaGreatDoor
open Go.RowKit Go.Shelf
attribute [local go_sem ↓] Go.wp_at_zero Go.wp_at_succ


theorem sQ_zero {lo hi : Rat} (h1 : lo.num ≤ 0) (h2 : 0 ≤ hi.num) : sQ lo hi = 0 := by
  unfold sQ
  by_cases hs : sg lo.num = sg hi.num
  · have a1 : lo.num = 0 ∧ hi.num = 0 := by
      rcases sg_cases lo.num with ⟨c, e⟩ | ⟨c, e⟩ | ⟨c, e⟩ <;> rcases sg_cases hi.num with ⟨c', e'⟩ | ⟨c', e'⟩ | ⟨c', e'⟩ <;> omega
    obtain rfl := Rat.num_eq_zero.1 a1.1
    obtain rfl := Rat.num_eq_zero.1 a1.2
    decide +kernel
  · rw [if_neg hs]
theorem sQ_cf {lo hi : Rat} (h1 : 0 < lo.num) (h2 : 0 < hi.num) : cfQ (lo.den + hi.den) lo hi = sQ lo hi := by
  unfold sQ cfQ
  rw [if_pos (by rw [sg_pos h1, sg_pos h2]), if_neg (by omega)]
theorem sQ_cf_neg {lo hi : Rat} (h1 : lo.num < 0) (h2 : hi.num < 0) : -cfQ (hi.den + lo.den) (-hi) (-lo) = sQ lo hi := by
  unfold sQ cfQ
  rw [if_pos (by rw [sg_neg h1, sg_neg h2]), if_pos h1, Rat.neg_num, Rat.neg_num, Int.natAbs_neg, Int.natAbs_neg, Rat.neg_den, Rat.neg_den]
  rw [← Rat.neg_mkRat]
theorem num_pos_of {a : Rat} (h : 0 < a) : 0 < a.num := by
  have h3 := Rat.num_nonneg.2 (Rat.le_of_lt h)
  have h4 : a.num ≠ 0 := fun e => by rw [Rat.num_eq_zero.1 e] at h; exact Rat.lt_irrefl h
  omega
theorem pos_of_num {a : Rat} (h : 0 < a.num) : 0 < a := by
  have h3 : 0 ≤ a := Rat.num_nonneg.1 (Int.le_of_lt h)
  rcases tri 0 a with c | c | c
  · exact c
  · rw [← c] at h; exact absurd h (by decide)
  · exact absurd h3 (Rat.not_le.2 c)
theorem hi_pos {lo hi : Rat} (h : 0 < lo.num) (hle : lo ≤ hi) : 0 < hi.num := num_pos_of (by have := pos_of_num h; grind)
theorem lo_neg {lo hi : Rat} (h : hi.num < 0) (hle : lo ≤ hi) : lo.num < 0 := by
  have h1 : 0 < (-hi).num := by rw [Rat.neg_num]; omega
  have h2 := hi_pos h1 (Rat.neg_le_neg hle)
  rw [Rat.neg_num] at h2; omega

set_option maxRecDepth 100000 in
set_option maxHeartbeats 8000000 in
theorem refSimple_a {w : World} {lo hi : Rat} {v u : Value} (ha : Rq w lo v) (hb : Rq w hi u) (h1 : lo.num < 0) (h2 : 0 ≤ hi.num) :
    Calls Tryz.prog 96 #[v, u] w fun e w' => ∃ x, e = .returned x ∧ Rq w' (sQ lo hi) x ∧ Below w.heap.size w w' := by
  obtain ⟨b1, A1, n1, c1, A1', n1', c1', rfl, _, _, e1⟩ := ha.get
  obtain ⟨b2, A2, n2, c2, A2', n2', c2', rfl, _, _, e2⟩ := hb.get
  obtain rfl : b1 = true := by rw [e1.out]; exact decide_eq_true (by omega)
  obtain rfl : b2 = false := by rw [e2.out]; exact decide_eq_false (by omega)
  have hbb : Below w.heap.size w (((w.alloc (.cells #[.bool true, .slice A1 n1 c1, .slice A1' n1' c1'] 25)).alloc (.cells #[.bool false, .slice A2 n2 c2, .slice A2' n2' c2'] 25)).alloc (.cells #[.bool false, .slice none 0 0, .slice none 0 0] 25)) := (below2 w _ _).alloc (by simp; omega) _
  have k1 := ((Blk.new w #[.bool true, .slice A1 n1 c1, .slice A1' n1' c1'] 25).alloc (.cells #[.bool false, .slice A2 n2 c2, .slice A2' n2' c2'] 25)).alloc (.cells #[.bool false, .slice none 0 0, .slice none 0 0] 25)
  have k2 := (Blk.new (w.alloc (.cells #[.bool true, .slice A1 n1 c1, .slice A1' n1' c1'] 25)) #[.bool false, .slice A2 n2 c2, .slice A2' n2' c2'] 25).alloc (.cells #[.bool false, .slice none 0 0, .slice none 0 0] 25)
  have k3 := Blk.new ((w.alloc (.cells #[.bool true, .slice A1 n1 c1, .slice A1' n1' c1'] 25)).alloc (.cells #[.bool false, .slice A2 n2 c2, .slice A2' n2' c2'] 25)) #[.bool false, .slice none 0 0, .slice none 0 0] 25
  simp only [World.size_alloc] at k2 k3
  have HB := Lib.hid hbb
  have KP1 := Lib.hid k1
  have KP2 := Lib.hid k2
  have KP3 := Lib.hid k3
  have Ra := Lib.hid (ha.below hbb)
  have Rb := Lib.hid (hb.below hbb)
  clear k1 k2 k3 e1 e2 ha hb hbb
  have d10 := KP1.out.cell (i := 0) rfl
  have d11 := KP1.out.cell (i := 1) rfl
  have d12 := KP1.out.cell (i := 2) rfl
  have d20 := KP2.out.cell (i := 0) rfl
  have d21 := KP2.out.cell (i := 1) rfl
  have d22 := KP2.out.cell (i := 2) rfl
  have EQ := Lib.hid (sQ_zero (Int.le_of_lt h1) h2)
  clear h1 h2
  go_enter Tryz.func96, Tryz.ntmps96
  have C0 := Lib.hid (refWhole0)
  go_wp2_with fail
  refine (C0.out _).mono ?_
  rintro _ w5 ⟨x, rfl, hx, hb⟩
  obtain ⟨bL, AL, nL, cL, AL', nL', cL', rfl, -, -, -⟩ := hx.get
  replace KP3 := Lib.hid (KP3.out.after hb)
  replace HB := Lib.hid (HB.out.trans (hb.mono HB.out.size))
  have RX := Lib.hid hx
  clear hx hb C0
  clear d10 d11 d12 d20 d21 d22
  have zk := KP3.out.lt
  have x0 := KP3.out.cell (i := 0) rfl
  have x1 := KP3.out.cell (i := 1) rfl
  have x2 := KP3.out.cell (i := 2) rfl
  have xf := KP3.out.free
  go_wp2_with fail
  refine bodyPost_ret (results_cell_row (p := 4) (ty := 25) rfl _ _ (w.heap.size + 1 + 1) 25 _ _ _ rfl KP3.out.set.set.set Tryz.underlying25 rfl (by kernel_rfl)) rfl ?_
  obtain ⟨g1, g2, g3⟩ := RX.out.inv
  exact ⟨_, rfl, (Rq.mk g3 rfl rfl (g1.put3 KP3.out (hnoR _ _ _ _ _ _ _)) (g2.put3 KP3.out (hnoR _ _ _ _ _ _ _))).cast (EQ.out.symm), ((HB.out.setCell (by simp; omega) _).setCell (by simp; omega) _).setCell (by simp; omega) _⟩

set_option maxRecDepth 100000 in
set_option maxHeartbeats 8000000 in
theorem refSimple_b {w : World} {lo hi : Rat} {v u : Value} (ha : Rq w lo v) (hb : Rq w hi u) (h1 : lo.num = 0) (h2 : 0 ≤ hi.num) :
    Calls Tryz.prog 96 #[v, u] w fun e w' => ∃ x, e = .returned x ∧ Rq w' (sQ lo hi) x ∧ Below w.heap.size w w' := by
  obtain ⟨b1, A1, n1, c1, A1', n1', c1', rfl, _, _, e1⟩ := ha.get
  obtain ⟨b2, A2, n2, c2, A2', n2', c2', rfl, _, _, e2⟩ := hb.get
  obtain rfl : b1 = false := by rw [e1.out]; exact decide_eq_false (by omega)
  obtain rfl : b2 = false := by rw [e2.out]; exact decide_eq_false (by omega)
  have hbb : Below w.heap.size w (((w.alloc (.cells #[.bool false, .slice A1 n1 c1, .slice A1' n1' c1'] 25)).alloc (.cells #[.bool false, .slice A2 n2 c2, .slice A2' n2' c2'] 25)).alloc (.cells #[.bool false, .slice none 0 0, .slice none 0 0] 25)) := (below2 w _ _).alloc (by simp; omega) _
  have k1 := ((Blk.new w #[.bool false, .slice A1 n1 c1, .slice A1' n1' c1'] 25).alloc (.cells #[.bool false, .slice A2 n2 c2, .slice A2' n2' c2'] 25)).alloc (.cells #[.bool false, .slice none 0 0, .slice none 0 0] 25)
  have k2 := (Blk.new (w.alloc (.cells #[.bool false, .slice A1 n1 c1, .slice A1' n1' c1'] 25)) #[.bool false, .slice A2 n2 c2, .slice A2' n2' c2'] 25).alloc (.cells #[.bool false, .slice none 0 0, .slice none 0 0] 25)
  have k3 := Blk.new ((w.alloc (.cells #[.bool false, .slice A1 n1 c1, .slice A1' n1' c1'] 25)).alloc (.cells #[.bool false, .slice A2 n2 c2, .slice A2' n2' c2'] 25)) #[.bool false, .slice none 0 0, .slice none 0 0] 25
  simp only [World.size_alloc] at k2 k3
  have HB := Lib.hid hbb
  have KP1 := Lib.hid k1
  have KP2 := Lib.hid k2
  have KP3 := Lib.hid k3
  have Ra := Lib.hid (ha.below hbb)
  have Rb := Lib.hid (hb.below hbb)
  clear k1 k2 k3 e1 e2 ha hb hbb
  have d10 := KP1.out.cell (i := 0) rfl
  have d11 := KP1.out.cell (i := 1) rfl
  have d12 := KP1.out.cell (i := 2) rfl
  have d20 := KP2.out.cell (i := 0) rfl
  have d21 := KP2.out.cell (i := 1) rfl
  have d22 := KP2.out.cell (i := 2) rfl
  have EQ := Lib.hid (sQ_zero (Int.le_of_eq h1) h2)
  have CZ := refZeroQ Ra.out
  rw [decide_eq_true h1] at CZ
  have CZ' := Lib.hid CZ
  clear h1 h2 CZ
  go_enter Tryz.func96, Tryz.ntmps96
  go_wp2_with fail
  refine (CZ'.out).mono ?_
  rintro _ w4 ⟨rfl, hb⟩
  replace KP2 := Lib.hid (KP2.out.after hb)
  replace KP3 := Lib.hid (KP3.out.after hb)
  replace HB := Lib.hid (HB.out.trans (hb.mono HB.out.size))
  clear hb CZ'
  clear d10 d11 d12 d20 d21 d22
  have d20 := KP2.out.cell (i := 0) rfl
  have d21 := KP2.out.cell (i := 1) rfl
  have d22 := KP2.out.cell (i := 2) rfl
  have C0 := Lib.hid (refWhole0)
  go_wp2_with fail
  refine (C0.out _).mono ?_
  rintro _ w5 ⟨x, rfl, hx, hb⟩
  obtain ⟨bL, AL, nL, cL, AL', nL', cL', rfl, -, -, -⟩ := hx.get
  replace KP3 := Lib.hid (KP3.out.after hb)
  replace HB := Lib.hid (HB.out.trans (hb.mono HB.out.size))
  have RX := Lib.hid hx
  clear hx hb C0
  clear d20 d21 d22
  have zk := KP3.out.lt
  have x0 := KP3.out.cell (i := 0) rfl
  have x1 := KP3.out.cell (i := 1) rfl
  have x2 := KP3.out.cell (i := 2) rfl
  have xf := KP3.out.free
  go_wp2_with fail
  refine bodyPost_ret (results_cell_row (p := 4) (ty := 25) rfl _ _ (w.heap.size + 1 + 1) 25 _ _ _ rfl KP3.out.set.set.set Tryz.underlying25 rfl (by kernel_rfl)) rfl ?_
  obtain ⟨g1, g2, g3⟩ := RX.out.inv
  exact ⟨_, rfl, (Rq.mk g3 rfl rfl (g1.put3 KP3.out (hnoR _ _ _ _ _ _ _)) (g2.put3 KP3.out (hnoR _ _ _ _ _ _ _))).cast (EQ.out.symm), ((HB.out.setCell (by simp; omega) _).setCell (by simp; omega) _).setCell (by simp; omega) _⟩

set_option maxRecDepth 100000 in
set_option maxHeartbeats 8000000 in
theorem refSimple_c {w : World} {i : Nat} {lo hi : Rat} {v u : Value} (ha : Rq w lo v) (hb : Rq w hi u) (sa : Sz i lo) (sb : Sz i hi) (hle : lo ≤ hi) (hi3 : i ≤ 300) (h1 : lo.num < 0) (h2 : hi.num < 0) :
    Calls Tryz.prog 96 #[v, u] w fun e w' => ∃ x, e = .returned x ∧ Rq w' (sQ lo hi) x ∧ Below w.heap.size w w' := by
  obtain ⟨b1, A1, n1, c1, A1', n1', c1', rfl, _, _, e1⟩ := ha.get
  obtain ⟨b2, A2, n2, c2, A2', n2', c2', rfl, _, _, e2⟩ := hb.get
  obtain rfl : b1 = true := by rw [e1.out]; exact decide_eq_true (by omega)
  obtain rfl : b2 = true := by rw [e2.out]; exact decide_eq_true (by omega)
  have hbb : Below w.heap.size w (((w.alloc (.cells #[.bool true, .slice A1 n1 c1, .slice A1' n1' c1'] 25)).alloc (.cells #[.bool true, .slice A2 n2 c2, .slice A2' n2' c2'] 25)).alloc (.cells #[.bool false, .slice none 0 0, .slice none 0 0] 25)) := (below2 w _ _).alloc (by simp; omega) _
  have k1 := ((Blk.new w #[.bool true, .slice A1 n1 c1, .slice A1' n1' c1'] 25).alloc (.cells #[.bool true, .slice A2 n2 c2, .slice A2' n2' c2'] 25)).alloc (.cells #[.bool false, .slice none 0 0, .slice none 0 0] 25)
  have k2 := (Blk.new (w.alloc (.cells #[.bool true, .slice A1 n1 c1, .slice A1' n1' c1'] 25)) #[.bool true, .slice A2 n2 c2, .slice A2' n2' c2'] 25).alloc (.cells #[.bool false, .slice none 0 0, .slice none 0 0] 25)
  have k3 := Blk.new ((w.alloc (.cells #[.bool true, .slice A1 n1 c1, .slice A1' n1' c1'] 25)).alloc (.cells #[.bool true, .slice A2 n2 c2, .slice A2' n2' c2'] 25)) #[.bool false, .slice none 0 0, .slice none 0 0] 25
  simp only [World.size_alloc] at k2 k3
  have HB := Lib.hid hbb
  have KP1 := Lib.hid k1
  have KP2 := Lib.hid k2
  have KP3 := Lib.hid k3
  have Ra := Lib.hid (ha.below hbb)
  have Rb := Lib.hid (hb.below hbb)
  clear k1 k2 k3 e1 e2 ha hb hbb
  have d10 := KP1.out.cell (i := 0) rfl
  have d11 := KP1.out.cell (i := 1) rfl
  have d12 := KP1.out.cell (i := 2) rfl
  have d20 := KP2.out.cell (i := 0) rfl
  have d21 := KP2.out.cell (i := 1) rfl
  have d22 := KP2.out.cell (i := 2) rfl
  have EQ := Lib.hid (sQ_cf_neg h1 h2)
  have EN : Hid (Ends (hi.den + lo.den) i (-hi) (-lo)) := Lib.hid ⟨by rw [Rat.neg_num]; omega, Rat.neg_le_neg hle, by rw [Rat.neg_den, Rat.neg_den]; exact Nat.le_refl _, by omega, sb.neg, sa.neg⟩
  have HI := Lib.hid hi3
  clear sa sb hle hi3 h1 h2
  go_enter Tryz.func96, Tryz.ntmps96
  go_upto_region 4 with fail
  generalize (((w.alloc (.cells #[.bool true, .slice A1 n1 c1, .slice A1' n1' c1'] 25)).alloc (.cells #[.bool true, .slice A2 n2 c2, .slice A2' n2' c2'] 25)).alloc (.cells #[.bool false, .slice none 0 0, .slice none 0 0] 25)) = wb at *
  clear d10 d11 d12 d20 d21 d22
  have KEEP : Hid (∀ W, Below wb.heap.size wb W → (W.cell? ⟨w.heap.size, 0, none⟩ = some (.bool true) ∧ W.cell? ⟨w.heap.size, 1, none⟩ = some (.slice A1 n1 c1) ∧ W.cell? ⟨w.heap.size, 2, none⟩ = some (.slice A1' n1' c1') ∧ W.cell? ⟨w.heap.size + 1, 0, none⟩ = some (.bool true) ∧ W.cell? ⟨w.heap.size + 1, 1, none⟩ = some (.slice A2 n2 c2) ∧ W.cell? ⟨w.heap.size + 1, 2, none⟩ = some (.slice A2' n2' c2'))) := Lib.hid fun W h1 => ⟨(KP1.out.after h1).cell rfl, (KP1.out.after h1).cell rfl, (KP1.out.after h1).cell rfl, (KP2.out.after h1).cell rfl, (KP2.out.after h1).cell rfl, (KP2.out.after h1).cell rfl⟩
  have KEEP3 : Hid (∀ W u v x, Below wb.heap.size wb W → ((((W.setCell ⟨w.heap.size + 1 + 1, 0, none⟩ u).setCell ⟨w.heap.size + 1 + 1, 1, none⟩ v).setCell ⟨w.heap.size + 1 + 1, 2, none⟩ x).cell? ⟨w.heap.size, 0, none⟩ = some (.bool true) ∧ (((W.setCell ⟨w.heap.size + 1 + 1, 0, none⟩ u).setCell ⟨w.heap.size + 1 + 1, 1, none⟩ v).setCell ⟨w.heap.size + 1 + 1, 2, none⟩ x).cell? ⟨w.heap.size, 1, none⟩ = some (.slice A1 n1 c1) ∧ (((W.setCell ⟨w.heap.size + 1 + 1, 0, none⟩ u).setCell ⟨w.heap.size + 1 + 1, 1, none⟩ v).setCell ⟨w.heap.size + 1 + 1, 2, none⟩ x).cell? ⟨w.heap.size, 2, none⟩ = some (.slice A1' n1' c1') ∧ (((W.setCell ⟨w.heap.size + 1 + 1, 0, none⟩ u).setCell ⟨w.heap.size + 1 + 1, 1, none⟩ v).setCell ⟨w.heap.size + 1 + 1, 2, none⟩ x).cell? ⟨w.heap.size + 1, 0, none⟩ = some (.bool true) ∧ (((W.setCell ⟨w.heap.size + 1 + 1, 0, none⟩ u).setCell ⟨w.heap.size + 1 + 1, 1, none⟩ v).setCell ⟨w.heap.size + 1 + 1, 2, none⟩ x).cell? ⟨w.heap.size + 1, 1, none⟩ = some (.slice A2 n2 c2) ∧ (((W.setCell ⟨w.heap.size + 1 + 1, 0, none⟩ u).setCell ⟨w.heap.size + 1 + 1, 1, none⟩ v).setCell ⟨w.heap.size + 1 + 1, 2, none⟩ x).cell? ⟨w.heap.size + 1, 2, none⟩ = some (.slice A2' n2' c2'))) := Lib.hid fun W u v x h1 => ⟨(((KP1.out.after h1).other3 (by omega) u v x)).cell rfl, (((KP1.out.after h1).other3 (by omega) u v x)).cell rfl, (((KP1.out.after h1).other3 (by omega) u v x)).cell rfl, (((KP2.out.after h1).other3 (by omega) u v x)).cell rfl, (((KP2.out.after h1).other3 (by omega) u v x)).cell rfl, (((KP2.out.after h1).other3 (by omega) u v x)).cell rfl⟩
  have hdrew : Below wb.heap.size wb wb.drew := (Below.refl _ _).drew
  go_region_held3 (fun W => W.cell? ⟨w.heap.size, 0, none⟩ = some (.bool true) ∧ W.cell? ⟨w.heap.size, 1, none⟩ = some (.slice A1 n1 c1) ∧ W.cell? ⟨w.heap.size, 2, none⟩ = some (.slice A1' n1' c1') ∧ W.cell? ⟨w.heap.size + 1, 0, none⟩ = some (.bool true) ∧ W.cell? ⟨w.heap.size + 1, 1, none⟩ = some (.slice A2 n2 c2) ∧ W.cell? ⟨w.heap.size + 1, 2, none⟩ = some (.slice A2' n2' c2'))
    (first | with_reducible exact KEEP.out wq4 hk4 | with_reducible exact KEEP.out wq3 hk3 | with_reducible exact KEEP.out wq2 hk2 | with_reducible exact KEEP.out wq1 hk1 | with_reducible exact KEEP.out wb.drew hdrew | with_reducible exact KEEP3.out wq4 _ _ _ hk4 | go_keep)
    (first
      | (go_at_call 62; (with_reducible refine (refMinusW (Rb.out.below hdrew)).mono ?_); rintro _ wq1 ⟨o1, rfl, ho1, hb1⟩; have hk1 := hdrew.trans (hb1.mono hdrew.size); have HO := Lib.hid ho1; clear ho1)
      | (go_at_call 62; (with_reducible refine (refMinusW (Ra.out.below hk1)).mono ?_); rintro _ wq2 ⟨o2, rfl, ho2, hb2⟩; have hk2 := hk1.trans (hb2.mono hk1.size); have HO2 := Lib.hid ho2; replace HO := Lib.hid (HO.out.below hb2); clear ho2)
      | (go_at_call 96; (with_reducible refine (refSimplePos _ i _ _ _ _ _ HO.out HO2.out EN.out HI.out).mono ?_); rintro _ wq3 ⟨o3, rfl, ho3, hb3⟩; have hk3 := hk2.trans (hb3.mono hk2.size); have HO3 := Lib.hid ho3; clear ho3)
      | (go_at_call 62; (with_reducible refine (refMinusW HO3.out).mono ?_); rintro _ wq4 ⟨xL, rfl, hxL, hb4⟩; have hk4 := hk3.trans (hb4.mono hk3.size); have hxM := hxL.cast EQ.out; obtain ⟨bL, AL, nL, cL, AL', nL', cL', rfl, _, _, _⟩ := hxL.get; have HXL := Lib.hid hxM; clear hxL hxM; have hzz : w.heap.size + 1 + 1 < wq4.heap.size := (KP3.out.after hk4).lt; have z0 := (KP3.out.after hk4).cell (i := 0) rfl; have z1 := (KP3.out.after hk4).cell (i := 1) rfl; have z2 := (KP3.out.after hk4).cell (i := 2) rfl; have zf := (KP3.out.after hk4).free))
  have KK := KP3.out.after hk4
  have hbc := HB.out.trans (hk4.mono HB.out.size)
  go_wp2_with fail
  refine bodyPost_ret (results_cell_row (p := 4) (ty := 25) rfl _ _ (w.heap.size + 1 + 1) 25 _ _ _ rfl KK.set.set.set Tryz.underlying25 rfl (by kernel_rfl)) rfl ?_
  obtain ⟨g1, g2, g3⟩ := HXL.out.inv
  exact ⟨_, rfl, Rq.mk g3 rfl rfl (g1.put3 KK (hnoR _ _ _ _ _ _ _)) (g2.put3 KK (hnoR _ _ _ _ _ _ _)), ((hbc.setCell (by simp; omega) _).setCell (by simp; omega) _).setCell (by simp; omega) _⟩

theorem refSimpleQ {w : World} {i : Nat} {lo hi : Rat} {v u : Value} (ha : Rq w lo v) (hb : Rq w hi u) (sa : Sz i lo) (sb : Sz i hi) (hle : lo ≤ hi) (hi3 : i ≤ 300) :
    Calls Tryz.prog 96 #[v, u] w fun e w' => ∃ x, e = .returned x ∧ Rq w' (sQ lo hi) x ∧ Below w.heap.size w w' := by
  rcases Int.lt_or_le 0 lo.num with h | h
  · have h2 := hi_pos h hle
    refine (refSimplePos (lo.den + hi.den) i lo hi v u w ha hb ⟨h, hle, Nat.le_refl _, by omega, sa, sb⟩ hi3).mono ?_
    rintro e w' ⟨x, he, hx, hbl⟩
    exact ⟨x, he, hx.cast (sQ_cf h h2), hbl⟩
  · rcases Int.lt_or_le hi.num 0 with h2 | h2
    · exact refSimple_c ha hb sa sb hle hi3 (lo_neg h2 hle) h2
    · rcases Int.lt_or_le lo.num 0 with h3 | h3
      · exact refSimple_a ha hb h3 h2
      · exact refSimple_b ha hb (by omega) h2
end Go.Proofs.YtmcacofpnnaplaaGreatDoor

/- The contracts of the reference's functions on rational numbers. Conditions as premises: the numbers read, and are short enough. -/
namespace Go.Proofs.YtmcacofpnnaplaaGreatDoor
open Go.RowKit Go.Shelf
attribute [local go_sem ↓] Go.wp_at_zero Go.wp_at_succ


theorem one_ltk {i : Nat} (h : 1 ≤ i) : 1 < LB ^ i := by
  have : LB ^ 1 ≤ LB ^ i := pow_le_of h
  exact Nat.lt_of_lt_of_le (show 1 < LB ^ 1 by rw [Nat.pow_one, LB_eq]; decide) this
theorem sz_sQ {i : Nat} {lo hi : Rat} (h1 : 1 ≤ i) (h2 : i ≤ 1024) (sa : Sz i lo) (sb : Sz i hi) (hle : lo ≤ hi) : Sz i (sQ lo hi) := by
  by_cases hs : sg lo.num = sg hi.num
  · rcases Int.lt_or_le lo.num 0 with h0 | h0
    · have h3 : hi.num < 0 := by have := sg_neg_iff.2 h0; rw [hs] at this; exact sg_neg_iff.1 this
      obtain ⟨e1, e2, _⟩ := sQ_neg hle h0 hs (sa.up h2) (sb.up h2)
      have bd := (sp_neg hle h0 h3 (sa.up h2) (sb.up h2)).bound
      exact ⟨by rw [e1, Int.natAbs_neg, Int.natAbs_natCast]; exact Nat.lt_of_le_of_lt bd.1 sb.1, by rw [e2]; exact Nat.lt_of_le_of_lt bd.2 sb.2⟩
    · have h3 : 0 ≤ hi.num := by
        rcases Int.lt_or_le hi.num 0 with k | k
        · have := lo_neg k hle; omega
        · exact k
      obtain ⟨e1, e2⟩ := sQ_pos hle h0 hs (sa.up h2) (sb.up h2)
      have bd := (sp_pos hle h0 h3 (sa.up h2) (sb.up h2)).bound
      exact ⟨by rw [e1, Int.natAbs_natCast]; exact Nat.lt_of_le_of_lt bd.1 sa.1, by rw [e2]; exact Nat.lt_of_le_of_lt bd.2 sa.2⟩
  · have : sQ lo hi = 0 := by unfold sQ; rw [if_neg hs]
    rw [this]
    exact ⟨Nat.lt_of_lt_of_le (by decide : 0 < 1) (Nat.one_le_of_lt (one_ltk h1)), one_ltk h1⟩
theorem cq_le_of {a b : Rat} (h : a ≤ b) : cq a b ≤ 0 := by
  rcases cq_range a b with e | e | e
  · omega
  · omega
  · exact absurd (cq_pos e) (Rat.not_lt.2 h)

set_option maxRecDepth 100000 in
set_option maxHeartbeats 8000000 in
theorem refSimpleOk {w : World} {i j : Nat} {a b : Rat} {v u : Value} (ha : Rq w a v) (hb : Rq w b u) (sa : Sz i a) (sb : Sz j b) (hij : i = j ∧ 1 ≤ i ∧ i ≤ 300) (hle : a ≤ b) :
    Calls Tryz.prog 39 #[v, u] w fun e w' => ∃ t, e = .returned (.tuple #[t, .int .i64 0]) ∧ Rq w' (sQ a b) t ∧ Below w.heap.size w w' := by
  obtain ⟨b1, A1, n1, c1, f1, A1', n1', c1', g1, rfl, hr, h0⟩ := ha.raw (lt_NL sa.1 (by omega)) (lt_NL sa.2 (by omega))
  obtain ⟨b2, A2, n2, c2, f2, A2', n2', c2', g2, rfl, kr, k0⟩ := hb.raw (lt_NL sb.1 (by omega)) (lt_NL sb.2 (by omega))
  have hbb : Below w.heap.size w (((w.alloc (.cells #[.bool b1, .slice A1 n1 c1, .slice A1' n1' c1'] 25)).alloc (.cells #[.bool b2, .slice A2 n2 c2, .slice A2' n2' c2'] 25)).alloc (.cells #[.bool false, .slice none 0 0, .slice none 0 0] 25)) := (below2 w _ _).alloc (by simp; omega) _
  have k1 := (Blk.new w #[.bool b1, .slice A1 n1 c1, .slice A1' n1' c1'] 25).alloc (.cells #[.bool b2, .slice A2 n2 c2, .slice A2' n2' c2'] 25)
  have k2 := Blk.new (w.alloc (.cells #[.bool b1, .slice A1 n1 c1, .slice A1' n1' c1'] 25)) #[.bool b2, .slice A2 n2 c2, .slice A2' n2' c2'] 25
  have k3 := Blk.new ((w.alloc (.cells #[.bool b1, .slice A1 n1 c1, .slice A1' n1' c1'] 25)).alloc (.cells #[.bool b2, .slice A2 n2 c2, .slice A2' n2' c2'] 25)) #[.bool false, .slice none 0 0, .slice none 0 0] 25
  replace k1 := k1.alloc (.cells #[.bool false, .slice none 0 0, .slice none 0 0] 25)
  replace k2 := k2.alloc (.cells #[.bool false, .slice none 0 0, .slice none 0 0] 25)
  simp only [World.size_alloc] at k2 k3
  have c1' := refBoth_any (hr.below hbb) (kr.below hbb)
  rw [chkRR_ok h0 k0] at c1'
  have C1 := Lib.hid c1'
  have HB := Lib.hid hbb
  have KP1 := Lib.hid k1
  have KP2 := Lib.hid k2
  have KP3 := Lib.hid k3
  have Ra := Lib.hid (ha.below hbb)
  have Rb := Lib.hid (hb.below hbb)
  have SA := Lib.hid sa
  have SB := Lib.hid sb
  clear ha hb hr kr h0 k0 c1' hbb k1 k2 k3 sa sb
  have d10 := KP1.out.cell (i := 0) rfl
  have d11 := KP1.out.cell (i := 1) rfl
  have d12 := KP1.out.cell (i := 2) rfl
  have d20 := KP2.out.cell (i := 0) rfl
  have d21 := KP2.out.cell (i := 1) rfl
  have d22 := KP2.out.cell (i := 2) rfl
  go_enter Tryz.func39, Tryz.ntmps39
  go_wp2_with fail
  refine (C1.out).mono ?_
  rintro _ w4 ⟨rfl, hb⟩
  clear d10 d11 d12 d20 d21 d22 C1
  replace Ra := Lib.hid (Ra.out.below hb)
  replace Rb := Lib.hid (Rb.out.below hb)
  replace KP1 := Lib.hid (KP1.out.after hb)
  replace KP2 := Lib.hid (KP2.out.after hb)
  replace KP3 := Lib.hid (KP3.out.after hb)
  replace HB := Lib.hid (HB.out.trans (hb.mono HB.out.size))
  clear hb
  have d10 := KP1.out.cell (i := 0) rfl
  have d11 := KP1.out.cell (i := 1) rfl
  have d12 := KP1.out.cell (i := 2) rfl
  have d20 := KP2.out.cell (i := 0) rfl
  have d21 := KP2.out.cell (i := 1) rfl
  have d22 := KP2.out.cell (i := 2) rfl
  have HLE := Lib.hid hle
  have HIJ := Lib.hid hij
  have hc := cq_le_of hle
  have C := refOrderQ Ra.out Rb.out SA.out SB.out (by omega)
  generalize cq a b = cc at *
  have CC := Lib.hid C
  clear hle hij C
  go_wp2_with fail
  refine (CC.out).mono ?_
  rintro _ w5 ⟨rfl, hb⟩
  replace Ra := Lib.hid (Ra.out.below hb)
  replace Rb := Lib.hid (Rb.out.below hb)
  replace KP1 := Lib.hid (KP1.out.after hb)
  replace KP2 := Lib.hid (KP2.out.after hb)
  replace KP3 := Lib.hid (KP3.out.after hb)
  replace HB := Lib.hid (HB.out.trans (hb.mono HB.out.size))
  clear hb CC
  clear d10 d11 d12 d20 d21 d22
  have d10 := KP1.out.cell (i := 0) rfl
  have d11 := KP1.out.cell (i := 1) rfl
  have d12 := KP1.out.cell (i := 2) rfl
  have d20 := KP2.out.cell (i := 0) rfl
  have d21 := KP2.out.cell (i := 1) rfl
  have d22 := KP2.out.cell (i := 2) rfl
  obtain ⟨hj, h1, h3⟩ := HIJ.out
  subst hj
  have C := refSimpleQ Ra.out Rb.out SA.out SB.out HLE.out h3
  have SX := Lib.hid (sz_sQ h1 (by omega) SA.out SB.out HLE.out)
  have CC := Lib.hid C
  have H3 := Lib.hid h3
  clear C h1 h3
  go_wp2_with fail
  refine (CC.out).mono ?_
  rintro _ w6 ⟨x, rfl, hx, hb⟩
  replace KP3 := Lib.hid (KP3.out.after hb)
  replace HB := Lib.hid (HB.out.trans (hb.mono HB.out.size))
  have RX := Lib.hid hx
  clear hx hb CC
  go_wp2_with fail
  refine (refFitsQ RX.out SX.out (by have := H3.out; omega)).mono ?_
  rintro _ w8 ⟨x, rfl, hx, hb⟩
  obtain ⟨bL, AL, nL, cL, AL', nL', cL', rfl, _, _, _⟩ := hx.get
  replace KP3 := Lib.hid (KP3.out.after hb)
  replace HB := Lib.hid (HB.out.trans (hb.mono HB.out.size))
  have HXL := Lib.hid hx
  clear hx hb
  have zx : w.heap.size + 1 + 1 < w8.heap.size := KP3.out.lt
  have x0 := KP3.out.cell (i := 0) rfl
  have x1 := KP3.out.cell (i := 1) rfl
  have x2 := KP3.out.cell (i := 2) rfl
  have xf := KP3.out.free
  go_wp2_with fail
  refine bodyPost_ret (results_row_tmp (p := 4) (ty := 25) rfl _ _ (w.heap.size + 1 + 1) 25 _ _ _ rfl KP3.out.set.set.set Tryz.underlying25 rfl (by kernel_rfl)) rfl ?_
  obtain ⟨g1, g2, g3⟩ := HXL.out.inv
  exact ⟨_, rfl, Rq.mk g3 rfl rfl (g1.put3 KP3.out (hnoR _ _ _ _ _ _ _)) (g2.put3 KP3.out (hnoR _ _ _ _ _ _ _)), ((HB.out.setCell (by simp; omega) _).setCell (by simp; omega) _).setCell (by simp; omega) _⟩

set_option maxRecDepth 100000 in
set_option maxHeartbeats 8000000 in
theorem refSimple_order {w : World} {i j : Nat} {a b : Rat} {v u : Value} (ha : Rq w a v) (hb : Rq w b u) (sa : Sz i a) (sb : Sz j b) (hij : i + j ≤ 1022) (hlt : b < a) :
    Calls Tryz.prog 39 #[v, u] w fun e w' => e = .returned (.tuple #[zeroRat, .int .i64 9]) ∧ Below w.heap.size w w' := by
  obtain ⟨b1, A1, n1, c1, f1, A1', n1', c1', g1, rfl, hr, h0⟩ := ha.raw (lt_NL sa.1 (by omega)) (lt_NL sa.2 (by omega))
  obtain ⟨b2, A2, n2, c2, f2, A2', n2', c2', g2, rfl, kr, k0⟩ := hb.raw (lt_NL sb.1 (by omega)) (lt_NL sb.2 (by omega))
  have hbb : Below w.heap.size w (((w.alloc (.cells #[.bool b1, .slice A1 n1 c1, .slice A1' n1' c1'] 25)).alloc (.cells #[.bool b2, .slice A2 n2 c2, .slice A2' n2' c2'] 25)).alloc (.cells #[.bool false, .slice none 0 0, .slice none 0 0] 25)) := (below2 w _ _).alloc (by simp; omega) _
  have k1 := (Blk.new w #[.bool b1, .slice A1 n1 c1, .slice A1' n1' c1'] 25).alloc (.cells #[.bool b2, .slice A2 n2 c2, .slice A2' n2' c2'] 25)
  have k2 := Blk.new (w.alloc (.cells #[.bool b1, .slice A1 n1 c1, .slice A1' n1' c1'] 25)) #[.bool b2, .slice A2 n2 c2, .slice A2' n2' c2'] 25
  have k3 := Blk.new ((w.alloc (.cells #[.bool b1, .slice A1 n1 c1, .slice A1' n1' c1'] 25)).alloc (.cells #[.bool b2, .slice A2 n2 c2, .slice A2' n2' c2'] 25)) #[.bool false, .slice none 0 0, .slice none 0 0] 25
  replace k1 := k1.alloc (.cells #[.bool false, .slice none 0 0, .slice none 0 0] 25)
  replace k2 := k2.alloc (.cells #[.bool false, .slice none 0 0, .slice none 0 0] 25)
  simp only [World.size_alloc] at k2 k3
  have c1' := refBoth_any (hr.below hbb) (kr.below hbb)
  rw [chkRR_ok h0 k0] at c1'
  have C1 := Lib.hid c1'
  have HB := Lib.hid hbb
  have KP1 := Lib.hid k1
  have KP2 := Lib.hid k2
  have KP3 := Lib.hid k3
  have Ra := Lib.hid (ha.below hbb)
  have Rb := Lib.hid (hb.below hbb)
  have SA := Lib.hid sa
  have SB := Lib.hid sb
  clear ha hb hr kr h0 k0 c1' hbb k1 k2 k3 sa sb
  have d10 := KP1.out.cell (i := 0) rfl
  have d11 := KP1.out.cell (i := 1) rfl
  have d12 := KP1.out.cell (i := 2) rfl
  have d20 := KP2.out.cell (i := 0) rfl
  have d21 := KP2.out.cell (i := 1) rfl
  have d22 := KP2.out.cell (i := 2) rfl
  go_enter Tryz.func39, Tryz.ntmps39
  go_wp2_with fail
  refine (C1.out).mono ?_
  rintro _ w4 ⟨rfl, hb⟩
  clear d10 d11 d12 d20 d21 d22 C1
  replace Ra := Lib.hid (Ra.out.below hb)
  replace Rb := Lib.hid (Rb.out.below hb)
  replace KP1 := Lib.hid (KP1.out.after hb)
  replace KP2 := Lib.hid (KP2.out.after hb)
  replace KP3 := Lib.hid (KP3.out.after hb)
  replace HB := Lib.hid (HB.out.trans (hb.mono HB.out.size))
  clear hb
  have d10 := KP1.out.cell (i := 0) rfl
  have d11 := KP1.out.cell (i := 1) rfl
  have d12 := KP1.out.cell (i := 2) rfl
  have d20 := KP2.out.cell (i := 0) rfl
  have d21 := KP2.out.cell (i := 1) rfl
  have d22 := KP2.out.cell (i := 2) rfl
  have C := refOrderQ Ra.out Rb.out SA.out SB.out (by omega)
  rw [cq_gt hlt] at C
  have CC := Lib.hid C
  clear C hlt
  go_wp2_with fail
  refine (CC.out).mono ?_
  rintro _ w5 ⟨rfl, hb⟩
  replace KP3 := Lib.hid (KP3.out.after hb)
  replace HB := Lib.hid (HB.out.trans (hb.mono HB.out.size))
  clear hb CC
  have zx : w.heap.size + 1 + 1 < w5.heap.size := KP3.out.lt
  have x0 := KP3.out.cell (i := 0) rfl
  have x1 := KP3.out.cell (i := 1) rfl
  have x2 := KP3.out.cell (i := 2) rfl
  have xf := KP3.out.free
  go_wp2_with fail
  refine bodyPost_ret (results_row_tmp (p := 4) (ty := 25) rfl _ _ (w.heap.size + 1 + 1) 25 _ _ _ rfl KP3.out.set.set.set Tryz.underlying25 rfl (by kernel_rfl)) rfl ?_
  exact ⟨rfl, ((HB.out.setCell (by simp; omega) _).setCell (by simp; omega) _).setCell (by simp; omega) _⟩

set_option maxRecDepth 100000 in
set_option maxHeartbeats 8000000 in
theorem ratSimple_order {w : World} {i j : Nat} {a b : Rat} {v u : Value} (ha : Rq w a v) (hb : Rq w b u) (sa : Sz i a) (sb : Sz j b) (hij : i + j ≤ 1022) (hlt : b < a) (hT : Tabs w) :
    Calls Tryz.prog 38 #[v, u] w fun e w' => e = .returned (.tuple #[zeroRat, .int .i64 9]) ∧ Below w.heap.size w w' := by
  obtain ⟨b1, A1, n1, c1, f1, A1', n1', c1', g1, rfl, hr, h0⟩ := ha.raw (lt_NL sa.1 (by omega)) (lt_NL sa.2 (by omega))
  obtain ⟨b2, A2, n2, c2, f2, A2', n2', c2', g2, rfl, kr, k0⟩ := hb.raw (lt_NL sb.1 (by omega)) (lt_NL sb.2 (by omega))
  have hbb : Below w.heap.size w (((w.alloc (.cells #[.bool b1, .slice A1 n1 c1, .slice A1' n1' c1'] 25)).alloc (.cells #[.bool b2, .slice A2 n2 c2, .slice A2' n2' c2'] 25)).alloc (.cells #[.bool false, .slice none 0 0, .slice none 0 0] 25)) := (below2 w _ _).alloc (by simp; omega) _
  have k1 := (Blk.new w #[.bool b1, .slice A1 n1 c1, .slice A1' n1' c1'] 25).alloc (.cells #[.bool b2, .slice A2 n2 c2, .slice A2' n2' c2'] 25)
  have k2 := Blk.new (w.alloc (.cells #[.bool b1, .slice A1 n1 c1, .slice A1' n1' c1'] 25)) #[.bool b2, .slice A2 n2 c2, .slice A2' n2' c2'] 25
  have k3 := Blk.new ((w.alloc (.cells #[.bool b1, .slice A1 n1 c1, .slice A1' n1' c1'] 25)).alloc (.cells #[.bool b2, .slice A2 n2 c2, .slice A2' n2' c2'] 25)) #[.bool false, .slice none 0 0, .slice none 0 0] 25
  replace k1 := k1.alloc (.cells #[.bool false, .slice none 0 0, .slice none 0 0] 25)
  replace k2 := k2.alloc (.cells #[.bool false, .slice none 0 0, .slice none 0 0] 25)
  simp only [World.size_alloc] at k2 k3
  have c1' := checkBoth_any (hr.below hbb) (kr.below hbb)
  rw [chkRR_ok h0 k0] at c1'
  have C1 := Lib.hid c1'
  have HB := Lib.hid hbb
  have KP1 := Lib.hid k1
  have KP2 := Lib.hid k2
  have KP3 := Lib.hid k3
  have Ra := Lib.hid (ha.below hbb)
  have Rb := Lib.hid (hb.below hbb)
  have SA := Lib.hid sa
  have SB := Lib.hid sb
  clear ha hb hr kr h0 k0 c1' hbb k1 k2 k3 sa sb
  have d10 := KP1.out.cell (i := 0) rfl
  have d11 := KP1.out.cell (i := 1) rfl
  have d12 := KP1.out.cell (i := 2) rfl
  have d20 := KP2.out.cell (i := 0) rfl
  have d21 := KP2.out.cell (i := 1) rfl
  have d22 := KP2.out.cell (i := 2) rfl
  go_enter Tryz.func38, Tryz.ntmps38
  go_wp2_with fail
  refine (C1.out).mono ?_
  rintro _ w4 ⟨rfl, hb⟩
  clear d10 d11 d12 d20 d21 d22 C1
  replace Ra := Lib.hid (Ra.out.below hb)
  replace Rb := Lib.hid (Rb.out.below hb)
  replace KP1 := Lib.hid (KP1.out.after hb)
  replace KP2 := Lib.hid (KP2.out.after hb)
  replace KP3 := Lib.hid (KP3.out.after hb)
  replace HB := Lib.hid (HB.out.trans (hb.mono HB.out.size))
  clear hb
  have d10 := KP1.out.cell (i := 0) rfl
  have d11 := KP1.out.cell (i := 1) rfl
  have d12 := KP1.out.cell (i := 2) rfl
  have d20 := KP2.out.cell (i := 0) rfl
  have d21 := KP2.out.cell (i := 1) rfl
  have d22 := KP2.out.cell (i := 2) rfl
  have C := orderQ Ra.out Rb.out (hT.below HB.out) (SA.out.up (by omega)) (SB.out.up (by omega))
  rw [cq_gt hlt] at C
  have CC := Lib.hid C
  clear C hlt hT
  go_wp2_with fail
  refine (CC.out).mono ?_
  rintro _ w5 ⟨rfl, hb⟩
  replace KP3 := Lib.hid (KP3.out.after hb)
  replace HB := Lib.hid (HB.out.trans (hb.mono HB.out.size))
  clear hb CC
  have zx : w.heap.size + 1 + 1 < w5.heap.size := KP3.out.lt
  have x0 := KP3.out.cell (i := 0) rfl
  have x1 := KP3.out.cell (i := 1) rfl
  have x2 := KP3.out.cell (i := 2) rfl
  have xf := KP3.out.free
  go_wp2_with fail
  refine bodyPost_ret (results_row_tmp (p := 4) (ty := 25) rfl _ _ (w.heap.size + 1 + 1) 25 _ _ _ rfl KP3.out.set.set.set Tryz.underlying25 rfl (by kernel_rfl)) rfl ?_
  exact ⟨rfl, ((HB.out.setCell (by simp; omega) _).setCell (by simp; omega) _).setCell (by simp; omega) _⟩

set_option maxRecDepth 100000 in
set_option maxHeartbeats 8000000 in
theorem ratSimple_bad {w : World} {b1 b2 : Bool} {A1 A2 A3 A4 : Option Addr} {n1 c1 n2 c2 n3 c3 n4 c4 : Nat} {f1 f2 f3 f4 : Nat → Nat} (h : Raw w b1 A1 n1 c1 f1 A2 n2 c2 f2) (k : Raw w b2 A3 n3 c3 f3 A4 n4 c4 f4) (he : chkRR b1 n1 f1 n2 f2 b2 n3 f3 n4 f4 ≠ 0) :
    Calls Tryz.prog 38 #[.agg #[.bool b1, .slice A1 n1 c1, .slice A2 n2 c2], .agg #[.bool b2, .slice A3 n3 c3, .slice A4 n4 c4]] w fun e w' => e = .returned (.tuple #[zeroRat, .int .i64 (chkRR b1 n1 f1 n2 f2 b2 n3 f3 n4 f4)]) ∧ Below w.heap.size w w' := by
  have hb0 : Below w.heap.size w (((w.alloc (.cells #[.bool b1, .slice A1 n1 c1, .slice A2 n2 c2] 25)).alloc (.cells #[.bool b2, .slice A3 n3 c3, .slice A4 n4 c4] 25)).alloc (.cells #[.bool false, .slice none 0 0, .slice none 0 0] 25)) := (below2 w _ _).alloc (by simp; omega) _
  have k4 := Blk.new ((w.alloc (.cells #[.bool b1, .slice A1 n1 c1, .slice A2 n2 c2] 25)).alloc (.cells #[.bool b2, .slice A3 n3 c3, .slice A4 n4 c4] 25)) #[.bool false, .slice none 0 0, .slice none 0 0] 25
  simp only [World.size_alloc] at k4
  have K4 := Lib.hid k4
  have C1 := Lib.hid (checkBoth_any (h.below hb0) (k.below hb0))
  have x1 : (chkRR b1 n1 f1 n2 f2 b2 n3 f3 n4 f4 != 0) = true := by rw [bne_iff_ne]; exact he
  have x2 : (chkRR b1 n1 f1 n2 f2 b2 n3 f3 n4 f4 == 0) = false := by rw [beq_eq_false_iff_ne]; exact he
  have HB := Lib.hid hb0
  generalize chkRR b1 n1 f1 n2 f2 b2 n3 f3 n4 f4 = er at *
  clear h k hb0 k4 he
  go_enter Tryz.func38, Tryz.ntmps38
  go_wp2_with fail
  refine C1.out.mono ?_
  rintro _ w1 ⟨rfl, hb⟩
  have k4 := K4.out.after hb
  have d0 := k4.cell (i := 0) rfl
  have d1 := k4.cell (i := 1) rfl
  have d2 := k4.cell (i := 2) rfl
  have ff := k4.free
  have hz : w.heap.size + 1 + 1 < w1.heap.size := k4.lt
  have K5 := Lib.hid k4
  replace HB := Lib.hid (HB.out.trans (hb.mono HB.out.size))
  clear hb k4 K4 C1
  go_wp2_with fail
  refine bodyPost_ret (results_row_tmp (p := 4) (ty := 25) rfl _ _ (w.heap.size + 1 + 1) 25 _ _ _ rfl K5.out.set.set.set Tryz.underlying25 rfl (by kernel_rfl)) rfl ?_
  exact ⟨rfl, ((HB.out.setCell (by simp; omega) _).setCell (by simp; omega) _).setCell (by simp; omega) _⟩


set_option maxRecDepth 100000 in
set_option maxHeartbeats 8000000 in
theorem refSimple_bad {w : World} {b1 b2 : Bool} {A1 A2 A3 A4 : Option Addr} {n1 c1 n2 c2 n3 c3 n4 c4 : Nat} {f1 f2 f3 f4 : Nat → Nat} (h : Raw w b1 A1 n1 c1 f1 A2 n2 c2 f2) (k : Raw w b2 A3 n3 c3 f3 A4 n4 c4 f4) (he : chkRR b1 n1 f1 n2 f2 b2 n3 f3 n4 f4 ≠ 0) :
    Calls Tryz.prog 39 #[.agg #[.bool b1, .slice A1 n1 c1, .slice A2 n2 c2], .agg #[.bool b2, .slice A3 n3 c3, .slice A4 n4 c4]] w fun e w' => e = .returned (.tuple #[zeroRat, .int .i64 (chkRR b1 n1 f1 n2 f2 b2 n3 f3 n4 f4)]) ∧ Below w.heap.size w w' := by
  have hb0 : Below w.heap.size w (((w.alloc (.cells #[.bool b1, .slice A1 n1 c1, .slice A2 n2 c2] 25)).alloc (.cells #[.bool b2, .slice A3 n3 c3, .slice A4 n4 c4] 25)).alloc (.cells #[.bool false, .slice none 0 0, .slice none 0 0] 25)) := (below2 w _ _).alloc (by simp; omega) _
  have k4 := Blk.new ((w.alloc (.cells #[.bool b1, .slice A1 n1 c1, .slice A2 n2 c2] 25)).alloc (.cells #[.bool b2, .slice A3 n3 c3, .slice A4 n4 c4] 25)) #[.bool false, .slice none 0 0, .slice none 0 0] 25
  simp only [World.size_alloc] at k4
  have K4 := Lib.hid k4
  have C1 := Lib.hid (refBoth_any (h.below hb0) (k.below hb0))
  have x1 : (chkRR b1 n1 f1 n2 f2 b2 n3 f3 n4 f4 != 0) = true := by rw [bne_iff_ne]; exact he
  have x2 : (chkRR b1 n1 f1 n2 f2 b2 n3 f3 n4 f4 == 0) = false := by rw [beq_eq_false_iff_ne]; exact he
  have HB := Lib.hid hb0
  generalize chkRR b1 n1 f1 n2 f2 b2 n3 f3 n4 f4 = er at *
  clear h k hb0 k4 he
  go_enter Tryz.func39, Tryz.ntmps39
  go_wp2_with fail
  refine C1.out.mono ?_
  rintro _ w1 ⟨rfl, hb⟩
  have k4 := K4.out.after hb
  have d0 := k4.cell (i := 0) rfl
  have d1 := k4.cell (i := 1) rfl
  have d2 := k4.cell (i := 2) rfl
  have ff := k4.free
  have hz : w.heap.size + 1 + 1 < w1.heap.size := k4.lt
  have K5 := Lib.hid k4
  replace HB := Lib.hid (HB.out.trans (hb.mono HB.out.size))
  clear hb k4 K4 C1
  go_wp2_with fail
  refine bodyPost_ret (results_row_tmp (p := 4) (ty := 25) rfl _ _ (w.heap.size + 1 + 1) 25 _ _ _ rfl K5.out.set.set.set Tryz.underlying25 rfl (by kernel_rfl)) rfl ?_
  exact ⟨rfl, ((HB.out.setCell (by simp; omega) _).setCell (by simp; omega) _).setCell (by simp; omega) _⟩


/-- the error of a search for the simplest number -/
noncomputable def simER (b1 : Bool) (n1 : Nat) (f1 : Nat → Nat) (n2 : Nat) (f2 : Nat → Nat) (b2 : Bool) (n3 : Nat) (f3 : Nat → Nat) (n4 : Nat) (f4 : Nat → Nat) : Int := if chkRR b1 n1 f1 n2 f2 b2 n3 f3 n4 f4 = 0 then (if rawq b1 n1 f1 n2 f2 ≤ rawq b2 n3 f3 n4 f4 then 0 else 9) else chkRR b1 n1 f1 n2 f2 b2 n3 f3 n4 f4

theorem ratSimpleO {w : World} {b1 b2 : Bool} {A1 A2 A3 A4 : Option Addr} {n1 c1 n2 c2 n3 c3 n4 c4 : Nat} {f1 f2 f3 f4 : Nat → Nat} (h : Raw w b1 A1 n1 c1 f1 A2 n2 c2 f2) (k : Raw w b2 A3 n3 c3 f3 A4 n4 c4 f4) (hT : Tabs w) (l1 : ¬ Lg n1 n2) (l2 : ¬ Lg n3 n4) :
    Calls Tryz.prog 38 #[.agg #[.bool b1, .slice A1 n1 c1, .slice A2 n2 c2], .agg #[.bool b2, .slice A3 n3 c3, .slice A4 n4 c4]] w fun e w' => ∃ x, e = .returned (.tuple #[x, .int .i64 (simER b1 n1 f1 n2 f2 b2 n3 f3 n4 f4)]) ∧ RqO w' (simER b1 n1 f1 n2 f2 b2 n3 f3 n4 f4) (sQ (rawq b1 n1 f1 n2 f2) (rawq b2 n3 f3 n4 f4)) x ∧ Below w.heap.size w w' := by
  by_cases he : chkRR b1 n1 f1 n2 f2 b2 n3 f3 n4 f4 = 0
  · obtain ⟨e1, e2⟩ := chkRR_zero he
    obtain ⟨ra, sa⟩ := h.q30 e1 l1
    obtain ⟨rb, sb⟩ := k.q30 e2 l2
    by_cases hz : rawq b1 n1 f1 n2 f2 ≤ rawq b2 n3 f3 n4 f4
    · have hd : simER b1 n1 f1 n2 f2 b2 n3 f3 n4 f4 = 0 := by unfold simER; rw [if_pos he, if_pos hz]
      refine (ratSimpleQ ra rb hT (sa.up (by omega)) (sb.up (by omega)) hz).mono ?_
      rintro e w' ⟨x, he', hx, hb⟩
      exact ⟨x, by rw [hd]; exact he', ⟨fun _ => hx, fun c => absurd hd c⟩, hb⟩
    · have hd : simER b1 n1 f1 n2 f2 b2 n3 f3 n4 f4 = 9 := by unfold simER; rw [if_pos he, if_neg hz]
      refine (ratSimple_order ra rb sa sb (by omega) (Rat.not_le.1 hz) hT).mono ?_
      rintro e w' ⟨he', hb⟩
      exact ⟨zeroRat, by rw [hd]; exact he', ⟨fun c => absurd (hd.symm.trans c) (by decide), fun _ => rfl⟩, hb⟩
  · have hd : simER b1 n1 f1 n2 f2 b2 n3 f3 n4 f4 = chkRR b1 n1 f1 n2 f2 b2 n3 f3 n4 f4 := by unfold simER; rw [if_neg he]
    refine (ratSimple_bad h k he).mono ?_
    rintro e w' ⟨he', hb⟩
    exact ⟨zeroRat, by rw [hd]; exact he', ⟨fun c => absurd (hd ▸ c) he, fun _ => rfl⟩, hb⟩

theorem refSimpleO {w : World} {b1 b2 : Bool} {A1 A2 A3 A4 : Option Addr} {n1 c1 n2 c2 n3 c3 n4 c4 : Nat} {f1 f2 f3 f4 : Nat → Nat} (h : Raw w b1 A1 n1 c1 f1 A2 n2 c2 f2) (k : Raw w b2 A3 n3 c3 f3 A4 n4 c4 f4) (l1 : ¬ Lg n1 n2) (l2 : ¬ Lg n3 n4) :
    Calls Tryz.prog 39 #[.agg #[.bool b1, .slice A1 n1 c1, .slice A2 n2 c2], .agg #[.bool b2, .slice A3 n3 c3, .slice A4 n4 c4]] w fun e w' => ∃ x, e = .returned (.tuple #[x, .int .i64 (simER b1 n1 f1 n2 f2 b2 n3 f3 n4 f4)]) ∧ RqO w' (simER b1 n1 f1 n2 f2 b2 n3 f3 n4 f4) (sQ (rawq b1 n1 f1 n2 f2) (rawq b2 n3 f3 n4 f4)) x ∧ Below w.heap.size w w' := by
  by_cases he : chkRR b1 n1 f1 n2 f2 b2 n3 f3 n4 f4 = 0
  · obtain ⟨e1, e2⟩ := chkRR_zero he
    obtain ⟨ra, sa⟩ := h.q30 e1 l1
    obtain ⟨rb, sb⟩ := k.q30 e2 l2
    by_cases hz : rawq b1 n1 f1 n2 f2 ≤ rawq b2 n3 f3 n4 f4
    · have hd : simER b1 n1 f1 n2 f2 b2 n3 f3 n4 f4 = 0 := by unfold simER; rw [if_pos he, if_pos hz]
      refine (refSimpleOk ra rb sa sb ⟨rfl, by omega, by omega⟩ hz).mono ?_
      rintro e w' ⟨x, he', hx, hb⟩
      exact ⟨x, by rw [hd]; exact he', ⟨fun _ => hx, fun c => absurd hd c⟩, hb⟩
    · have hd : simER b1 n1 f1 n2 f2 b2 n3 f3 n4 f4 = 9 := by unfold simER; rw [if_pos he, if_neg hz]
      refine (refSimple_order ra rb sa sb (by omega) (Rat.not_le.1 hz)).mono ?_
      rintro e w' ⟨he', hb⟩
      exact ⟨zeroRat, by rw [hd]; exact he', ⟨fun c => absurd (hd.symm.trans c) (by decide), fun _ => rfl⟩, hb⟩
  · have hd : simER b1 n1 f1 n2 f2 b2 n3 f3 n4 f4 = chkRR b1 n1 f1 n2 f2 b2 n3 f3 n4 f4 := by unfold simER; rw [if_neg he]
    refine (refSimple_bad h k he).mono ?_
    rintro e w' ⟨he', hb⟩
    exact ⟨zeroRat, by rw [hd]; exact he', ⟨fun c => absurd (hd ▸ c) he, fun _ => rfl⟩, hb⟩

end Go.Proofs.YtmcacofpnnaplaaGreatDoor

/- The walk of RatSimples: it returns true, and writes nothing that was there. Conditions as premises: the parts read, and the table of signs holds its numbers. -/
namespace Go.Proofs.YtmcacofpnnaplaaGreatDoor
open Go.RowKit Go.Shelf
attribute [local go_sem ↓] Go.wp_at_zero Go.wp_at_succ


/-- lengths that RatSimples leaves out -/
def Md (n : Nat) : Prop := 6 < n ∧ n < 31
theorem md_cls (n : Nat) : (Md n ∧ (6 : Int) < n ∧ (n : Int) < 31) ∨ (¬ Md n ∧ (n : Int) ≤ 6) ∨ (¬ Md n ∧ (6 : Int) < n ∧ (31 : Int) ≤ n) := by unfold Md; omega
theorem md_in {n : Nat} (h : Md n) : (6 : Int) < n ∧ (n : Int) < 31 := by unfold Md at h; omega
theorem md_out {n : Nat} (h : ¬ Md n) : (n : Int) ≤ 6 ∨ ((6 : Int) < n ∧ (31 : Int) ≤ n) := by unfold Md at h; omega

set_option maxRecDepth 100000 in
set_option maxHeartbeats 16000000 in
theorem ratSimples_awake1 (b1 : Bool) (A1 A1' : Option Addr) (n1 c1 n1' c1' : Nat) (f1 g1 : Nat → Nat) (b2 : Bool) (A2 A2' : Option Addr) (n2 c2 n2' c2' : Nat) (f2 g2 : Nat → Nat) (w : World) (h : Raw w b1 A1 n1 c1 f1 A1' n1' c1' g1) (k : Raw w b2 A2 n2 c2 f2 A2' n2' c2' g2) (hT : Tabs w) (l1 : Lg n1 n1') :
    Calls Tryz.prog 5 #[.agg #[.bool b1, .slice A1 n1 c1, .slice A1' n1' c1'], .agg #[.bool b2, .slice A2 n2 c2, .slice A2' n2' c2']] w fun e w' => e = .returned (.bool true) ∧ Below w.heap.size w w' := by
  have hbb := below2 w (.cells #[.bool b1, .slice A1 n1 c1, .slice A1' n1' c1'] 25) (.cells #[.bool b2, .slice A2 n2 c2, .slice A2' n2' c2'] 25)
  have k1 := (Blk.new w #[.bool b1, .slice A1 n1 c1, .slice A1' n1' c1'] 25).alloc (.cells #[.bool b2, .slice A2 n2 c2, .slice A2' n2' c2'] 25)
  have k2 := Blk.new (w.alloc (.cells #[.bool b1, .slice A1 n1 c1, .slice A1' n1' c1'] 25)) #[.bool b2, .slice A2 n2 c2, .slice A2' n2' c2'] 25
  simp only [World.size_alloc] at k2
  have HX := Lib.hid hbb
  have KP1 := Lib.hid k1
  have KP2 := Lib.hid k2
  have HA := Lib.hid h
  have HBR := Lib.hid k
  have HT := Lib.hid hT
  clear h k hT hbb k1 k2
  have d10 := KP1.out.cell (i := 0) rfl
  have d11 := KP1.out.cell (i := 1) rfl
  have d12 := KP1.out.cell (i := 2) rfl
  have d20 := KP2.out.cell (i := 0) rfl
  have d21 := KP2.out.cell (i := 1) rfl
  have d22 := KP2.out.cell (i := 2) rfl
  go_enter Tryz.func5, Tryz.ntmps5
  go_wp2_with fail
  refine (longR_yes b1 A1 A1' n1 c1 n1' c1' l1).mono ?_
  rintro _ w3 ⟨rfl, hb⟩
  replace KP1 := Lib.hid (KP1.out.after hb)
  replace KP2 := Lib.hid (KP2.out.after hb)
  replace HX := Lib.hid (HX.out.trans (hb.mono HX.out.size))
  clear hb
  clear d10 d11 d12 d20 d21 d22
  have d10 := KP1.out.cell (i := 0) rfl
  have d11 := KP1.out.cell (i := 1) rfl
  have d12 := KP1.out.cell (i := 2) rfl
  have d20 := KP2.out.cell (i := 0) rfl
  have d21 := KP2.out.cell (i := 1) rfl
  have d22 := KP2.out.cell (i := 2) rfl
  go_wp2_with fail
  refine (awakeN (HT.out.below HX.out)).mono ?_
  rintro _ w5 ⟨rfl, hb⟩
  replace HX := Lib.hid (HX.out.trans (hb.mono HX.out.size))
  clear hb
  go_wp2_with fail
  go_ret
  exact ⟨rfl, HX.out⟩

set_option maxRecDepth 100000 in
set_option maxHeartbeats 16000000 in
theorem ratSimples_awake2 (b1 : Bool) (A1 A1' : Option Addr) (n1 c1 n1' c1' : Nat) (f1 g1 : Nat → Nat) (b2 : Bool) (A2 A2' : Option Addr) (n2 c2 n2' c2' : Nat) (f2 g2 : Nat → Nat) (w : World) (h : Raw w b1 A1 n1 c1 f1 A1' n1' c1' g1) (k : Raw w b2 A2 n2 c2 f2 A2' n2' c2' g2) (hT : Tabs w) (l1 : ¬ Lg n1 n1') (l2 : Lg n2 n2') :
    Calls Tryz.prog 5 #[.agg #[.bool b1, .slice A1 n1 c1, .slice A1' n1' c1'], .agg #[.bool b2, .slice A2 n2 c2, .slice A2' n2' c2']] w fun e w' => e = .returned (.bool true) ∧ Below w.heap.size w w' := by
  have hbb := below2 w (.cells #[.bool b1, .slice A1 n1 c1, .slice A1' n1' c1'] 25) (.cells #[.bool b2, .slice A2 n2 c2, .slice A2' n2' c2'] 25)
  have k1 := (Blk.new w #[.bool b1, .slice A1 n1 c1, .slice A1' n1' c1'] 25).alloc (.cells #[.bool b2, .slice A2 n2 c2, .slice A2' n2' c2'] 25)
  have k2 := Blk.new (w.alloc (.cells #[.bool b1, .slice A1 n1 c1, .slice A1' n1' c1'] 25)) #[.bool b2, .slice A2 n2 c2, .slice A2' n2' c2'] 25
  simp only [World.size_alloc] at k2
  have HX := Lib.hid hbb
  have KP1 := Lib.hid k1
  have KP2 := Lib.hid k2
  have HA := Lib.hid h
  have HBR := Lib.hid k
  have HT := Lib.hid hT
  clear h k hT hbb k1 k2
  have d10 := KP1.out.cell (i := 0) rfl
  have d11 := KP1.out.cell (i := 1) rfl
  have d12 := KP1.out.cell (i := 2) rfl
  have d20 := KP2.out.cell (i := 0) rfl
  have d21 := KP2.out.cell (i := 1) rfl
  have d22 := KP2.out.cell (i := 2) rfl
  go_enter Tryz.func5, Tryz.ntmps5
  go_wp2_with fail
  refine (longR_no b1 A1 A1' n1 c1 n1' c1' l1).mono ?_
  rintro _ w3 ⟨rfl, hb⟩
  replace KP1 := Lib.hid (KP1.out.after hb)
  replace KP2 := Lib.hid (KP2.out.after hb)
  replace HX := Lib.hid (HX.out.trans (hb.mono HX.out.size))
  clear hb
  clear d10 d11 d12 d20 d21 d22
  have d10 := KP1.out.cell (i := 0) rfl
  have d11 := KP1.out.cell (i := 1) rfl
  have d12 := KP1.out.cell (i := 2) rfl
  have d20 := KP2.out.cell (i := 0) rfl
  have d21 := KP2.out.cell (i := 1) rfl
  have d22 := KP2.out.cell (i := 2) rfl
  go_wp2_with fail
  refine (longR_yes b2 A2 A2' n2 c2 n2' c2' l2).mono ?_
  rintro _ w4 ⟨rfl, hb⟩
  replace KP1 := Lib.hid (KP1.out.after hb)
  replace KP2 := Lib.hid (KP2.out.after hb)
  replace HX := Lib.hid (HX.out.trans (hb.mono HX.out.size))
  clear hb
  clear d10 d11 d12 d20 d21 d22
  go_wp2_with fail
  refine (awakeN (HT.out.below HX.out)).mono ?_
  rintro _ w5 ⟨rfl, hb⟩
  replace HX := Lib.hid (HX.out.trans (hb.mono HX.out.size))
  clear hb
  go_wp2_with fail
  go_ret
  exact ⟨rfl, HX.out⟩

set_option maxRecDepth 100000 in
set_option maxHeartbeats 16000000 in
theorem ratSimples_awake3 (b1 : Bool) (A1 A1' : Option Addr) (n1 c1 n1' c1' : Nat) (f1 g1 : Nat → Nat) (b2 : Bool) (A2 A2' : Option Addr) (n2 c2 n2' c2' : Nat) (f2 g2 : Nat → Nat) (w : World) (h : Raw w b1 A1 n1 c1 f1 A1' n1' c1' g1) (k : Raw w b2 A2 n2 c2 f2 A2' n2' c2' g2) (hT : Tabs w) (l1 : ¬ Lg n1 n1') (l2 : ¬ Lg n2 n2') (q1 : Md n1) :
    Calls Tryz.prog 5 #[.agg #[.bool b1, .slice A1 n1 c1, .slice A1' n1' c1'], .agg #[.bool b2, .slice A2 n2 c2, .slice A2' n2' c2']] w fun e w' => e = .returned (.bool true) ∧ Below w.heap.size w w' := by
  have hbb := below2 w (.cells #[.bool b1, .slice A1 n1 c1, .slice A1' n1' c1'] 25) (.cells #[.bool b2, .slice A2 n2 c2, .slice A2' n2' c2'] 25)
  have k1 := (Blk.new w #[.bool b1, .slice A1 n1 c1, .slice A1' n1' c1'] 25).alloc (.cells #[.bool b2, .slice A2 n2 c2, .slice A2' n2' c2'] 25)
  have k2 := Blk.new (w.alloc (.cells #[.bool b1, .slice A1 n1 c1, .slice A1' n1' c1'] 25)) #[.bool b2, .slice A2 n2 c2, .slice A2' n2' c2'] 25
  simp only [World.size_alloc] at k2
  have HX := Lib.hid hbb
  have KP1 := Lib.hid k1
  have KP2 := Lib.hid k2
  have HA := Lib.hid h
  have HBR := Lib.hid k
  have HT := Lib.hid hT
  clear h k hT hbb k1 k2
  have d10 := KP1.out.cell (i := 0) rfl
  have d11 := KP1.out.cell (i := 1) rfl
  have d12 := KP1.out.cell (i := 2) rfl
  have d20 := KP2.out.cell (i := 0) rfl
  have d21 := KP2.out.cell (i := 1) rfl
  have d22 := KP2.out.cell (i := 2) rfl
  go_enter Tryz.func5, Tryz.ntmps5
  have mq1 := md_in q1
  clear q1
  go_upto_region 1 with fail
  go_cut [62] (fun t wx => t = .bool true ∧ Hid (Below w.heap.size w wx) ∧ Hid (Blk wx w.heap.size 25 #[.bool b1, .slice A1 n1 c1, .slice A1' n1' c1']) ∧ Hid (Blk wx (w.heap.size + 1) 25 #[.bool b2, .slice A2 n2 c2, .slice A2' n2' c2']))
  case first =>
    obtain ⟨ma, mb⟩ := mq1
    all_goals
      go_wp2_with fail
      refine (longR_no b1 A1 A1' n1 c1 n1' c1' l1).mono ?_
      rintro _ w3 ⟨rfl, hb⟩
      replace KP1 := Lib.hid (KP1.out.after hb)
      replace KP2 := Lib.hid (KP2.out.after hb)
      replace HX := Lib.hid (HX.out.trans (hb.mono HX.out.size))
      clear hb
      clear d10 d11 d12 d20 d21 d22
      have d10 := KP1.out.cell (i := 0) rfl
      have d11 := KP1.out.cell (i := 1) rfl
      have d12 := KP1.out.cell (i := 2) rfl
      have d20 := KP2.out.cell (i := 0) rfl
      have d21 := KP2.out.cell (i := 1) rfl
      have d22 := KP2.out.cell (i := 2) rfl
      go_wp2_with fail
      refine (longR_no b2 A2 A2' n2 c2 n2' c2' l2).mono ?_
      rintro _ w4 ⟨rfl, hb⟩
      replace KP1 := Lib.hid (KP1.out.after hb)
      replace KP2 := Lib.hid (KP2.out.after hb)
      replace HX := Lib.hid (HX.out.trans (hb.mono HX.out.size))
      clear hb
      clear d10 d11 d12 d20 d21 d22
      have d10 := KP1.out.cell (i := 0) rfl
      have d11 := KP1.out.cell (i := 1) rfl
      have d12 := KP1.out.cell (i := 2) rfl
      have d20 := KP2.out.cell (i := 0) rfl
      have d21 := KP2.out.cell (i := 1) rfl
      have d22 := KP2.out.cell (i := 2) rfl
      go_wp2_with fail
      go_meet
      exact ⟨rfl, HX, KP1, KP2⟩
  case rest =>
    obtain ⟨rfl, HX, KP1, KP2⟩ := hcut
    have d10 := KP1.out.cell (i := 0) rfl
    have d11 := KP1.out.cell (i := 1) rfl
    have d12 := KP1.out.cell (i := 2) rfl
    have d20 := KP2.out.cell (i := 0) rfl
    have d21 := KP2.out.cell (i := 1) rfl
    have d22 := KP2.out.cell (i := 2) rfl
    go_wp2_with fail
    refine (awakeN (HT.out.below HX.out)).mono ?_
    rintro _ w5 ⟨rfl, hb⟩
    replace HX := Lib.hid (HX.out.trans (hb.mono HX.out.size))
    clear hb
    go_wp2_with fail
    go_ret
    exact ⟨rfl, HX.out⟩

set_option maxRecDepth 100000 in
set_option maxHeartbeats 16000000 in
theorem ratSimples_awake4 (b1 : Bool) (A1 A1' : Option Addr) (n1 c1 n1' c1' : Nat) (f1 g1 : Nat → Nat) (b2 : Bool) (A2 A2' : Option Addr) (n2 c2 n2' c2' : Nat) (f2 g2 : Nat → Nat) (w : World) (h : Raw w b1 A1 n1 c1 f1 A1' n1' c1' g1) (k : Raw w b2 A2 n2 c2 f2 A2' n2' c2' g2) (hT : Tabs w) (l1 : ¬ Lg n1 n1') (l2 : ¬ Lg n2 n2') (q1 : ¬ Md n1) (q2 : Md n1') :
    Calls Tryz.prog 5 #[.agg #[.bool b1, .slice A1 n1 c1, .slice A1' n1' c1'], .agg #[.bool b2, .slice A2 n2 c2, .slice A2' n2' c2']] w fun e w' => e = .returned (.bool true) ∧ Below w.heap.size w w' := by
  have hbb := below2 w (.cells #[.bool b1, .slice A1 n1 c1, .slice A1' n1' c1'] 25) (.cells #[.bool b2, .slice A2 n2 c2, .slice A2' n2' c2'] 25)
  have k1 := (Blk.new w #[.bool b1, .slice A1 n1 c1, .slice A1' n1' c1'] 25).alloc (.cells #[.bool b2, .slice A2 n2 c2, .slice A2' n2' c2'] 25)
  have k2 := Blk.new (w.alloc (.cells #[.bool b1, .slice A1 n1 c1, .slice A1' n1' c1'] 25)) #[.bool b2, .slice A2 n2 c2, .slice A2' n2' c2'] 25
  simp only [World.size_alloc] at k2
  have HX := Lib.hid hbb
  have KP1 := Lib.hid k1
  have KP2 := Lib.hid k2
  have HA := Lib.hid h
  have HBR := Lib.hid k
  have HT := Lib.hid hT
  clear h k hT hbb k1 k2
  have d10 := KP1.out.cell (i := 0) rfl
  have d11 := KP1.out.cell (i := 1) rfl
  have d12 := KP1.out.cell (i := 2) rfl
  have d20 := KP2.out.cell (i := 0) rfl
  have d21 := KP2.out.cell (i := 1) rfl
  have d22 := KP2.out.cell (i := 2) rfl
  go_enter Tryz.func5, Tryz.ntmps5
  have mq2 := md_in q2
  have mq1 := md_out q1
  clear q1 q2
  go_upto_region 1 with fail
  go_cut [62] (fun t wx => t = .bool true ∧ Hid (Below w.heap.size w wx) ∧ Hid (Blk wx w.heap.size 25 #[.bool b1, .slice A1 n1 c1, .slice A1' n1' c1']) ∧ Hid (Blk wx (w.heap.size + 1) 25 #[.bool b2, .slice A2 n2 c2, .slice A2' n2' c2']))
  case first =>
    obtain ⟨ma, mb⟩ := mq2
    rcases mq1 with mq1 | ⟨mq1, mq1'⟩
    all_goals
      go_wp2_with fail
      refine (longR_no b1 A1 A1' n1 c1 n1' c1' l1).mono ?_
      rintro _ w3 ⟨rfl, hb⟩
      replace KP1 := Lib.hid (KP1.out.after hb)
      replace KP2 := Lib.hid (KP2.out.after hb)
      replace HX := Lib.hid (HX.out.trans (hb.mono HX.out.size))
      clear hb
      clear d10 d11 d12 d20 d21 d22
      have d10 := KP1.out.cell (i := 0) rfl
      have d11 := KP1.out.cell (i := 1) rfl
      have d12 := KP1.out.cell (i := 2) rfl
      have d20 := KP2.out.cell (i := 0) rfl
      have d21 := KP2.out.cell (i := 1) rfl
      have d22 := KP2.out.cell (i := 2) rfl
      go_wp2_with fail
      refine (longR_no b2 A2 A2' n2 c2 n2' c2' l2).mono ?_
      rintro _ w4 ⟨rfl, hb⟩
      replace KP1 := Lib.hid (KP1.out.after hb)
      replace KP2 := Lib.hid (KP2.out.after hb)
      replace HX := Lib.hid (HX.out.trans (hb.mono HX.out.size))
      clear hb
      clear d10 d11 d12 d20 d21 d22
      have d10 := KP1.out.cell (i := 0) rfl
      have d11 := KP1.out.cell (i := 1) rfl
      have d12 := KP1.out.cell (i := 2) rfl
      have d20 := KP2.out.cell (i := 0) rfl
      have d21 := KP2.out.cell (i := 1) rfl
      have d22 := KP2.out.cell (i := 2) rfl
      go_wp2_with fail
      go_meet
      exact ⟨rfl, HX, KP1, KP2⟩
  case rest =>
    obtain ⟨rfl, HX, KP1, KP2⟩ := hcut
    have d10 := KP1.out.cell (i := 0) rfl
    have d11 := KP1.out.cell (i := 1) rfl
    have d12 := KP1.out.cell (i := 2) rfl
    have d20 := KP2.out.cell (i := 0) rfl
    have d21 := KP2.out.cell (i := 1) rfl
    have d22 := KP2.out.cell (i := 2) rfl
    go_wp2_with fail
    refine (awakeN (HT.out.below HX.out)).mono ?_
    rintro _ w5 ⟨rfl, hb⟩
    replace HX := Lib.hid (HX.out.trans (hb.mono HX.out.size))
    clear hb
    go_wp2_with fail
    go_ret
    exact ⟨rfl, HX.out⟩

set_option maxRecDepth 100000 in
set_option maxHeartbeats 16000000 in
theorem ratSimples_awake5 (b1 : Bool) (A1 A1' : Option Addr) (n1 c1 n1' c1' : Nat) (f1 g1 : Nat → Nat) (b2 : Bool) (A2 A2' : Option Addr) (n2 c2 n2' c2' : Nat) (f2 g2 : Nat → Nat) (w : World) (h : Raw w b1 A1 n1 c1 f1 A1' n1' c1' g1) (k : Raw w b2 A2 n2 c2 f2 A2' n2' c2' g2) (hT : Tabs w) (l1 : ¬ Lg n1 n1') (l2 : ¬ Lg n2 n2') (q1 : ¬ Md n1) (q2 : ¬ Md n1') (q3 : Md n2) :
    Calls Tryz.prog 5 #[.agg #[.bool b1, .slice A1 n1 c1, .slice A1' n1' c1'], .agg #[.bool b2, .slice A2 n2 c2, .slice A2' n2' c2']] w fun e w' => e = .returned (.bool true) ∧ Below w.heap.size w w' := by
  have hbb := below2 w (.cells #[.bool b1, .slice A1 n1 c1, .slice A1' n1' c1'] 25) (.cells #[.bool b2, .slice A2 n2 c2, .slice A2' n2' c2'] 25)
  have k1 := (Blk.new w #[.bool b1, .slice A1 n1 c1, .slice A1' n1' c1'] 25).alloc (.cells #[.bool b2, .slice A2 n2 c2, .slice A2' n2' c2'] 25)
  have k2 := Blk.new (w.alloc (.cells #[.bool b1, .slice A1 n1 c1, .slice A1' n1' c1'] 25)) #[.bool b2, .slice A2 n2 c2, .slice A2' n2' c2'] 25
  simp only [World.size_alloc] at k2
  have HX := Lib.hid hbb
  have KP1 := Lib.hid k1
  have KP2 := Lib.hid k2
  have HA := Lib.hid h
  have HBR := Lib.hid k
  have HT := Lib.hid hT
  clear h k hT hbb k1 k2
  have d10 := KP1.out.cell (i := 0) rfl
  have d11 := KP1.out.cell (i := 1) rfl
  have d12 := KP1.out.cell (i := 2) rfl
  have d20 := KP2.out.cell (i := 0) rfl
  have d21 := KP2.out.cell (i := 1) rfl
  have d22 := KP2.out.cell (i := 2) rfl
  go_enter Tryz.func5, Tryz.ntmps5
  have mq3 := md_in q3
  have mq1 := md_out q1
  have mq2 := md_out q2
  clear q1 q2 q3
  go_upto_region 1 with fail
  go_cut [62] (fun t wx => t = .bool true ∧ Hid (Below w.heap.size w wx) ∧ Hid (Blk wx w.heap.size 25 #[.bool b1, .slice A1 n1 c1, .slice A1' n1' c1']) ∧ Hid (Blk wx (w.heap.size + 1) 25 #[.bool b2, .slice A2 n2 c2, .slice A2' n2' c2']))
  case first =>
    obtain ⟨ma, mb⟩ := mq3
    rcases mq1 with mq1 | ⟨mq1, mq1'⟩
    all_goals rcases mq2 with mq2 | ⟨mq2, mq2'⟩
    all_goals
      go_wp2_with fail
      refine (longR_no b1 A1 A1' n1 c1 n1' c1' l1).mono ?_
      rintro _ w3 ⟨rfl, hb⟩
      replace KP1 := Lib.hid (KP1.out.after hb)
      replace KP2 := Lib.hid (KP2.out.after hb)
      replace HX := Lib.hid (HX.out.trans (hb.mono HX.out.size))
      clear hb
      clear d10 d11 d12 d20 d21 d22
      have d10 := KP1.out.cell (i := 0) rfl
      have d11 := KP1.out.cell (i := 1) rfl
      have d12 := KP1.out.cell (i := 2) rfl
      have d20 := KP2.out.cell (i := 0) rfl
      have d21 := KP2.out.cell (i := 1) rfl
      have d22 := KP2.out.cell (i := 2) rfl
      go_wp2_with fail
      refine (longR_no b2 A2 A2' n2 c2 n2' c2' l2).mono ?_
      rintro _ w4 ⟨rfl, hb⟩
      replace KP1 := Lib.hid (KP1.out.after hb)
      replace KP2 := Lib.hid (KP2.out.after hb)
      replace HX := Lib.hid (HX.out.trans (hb.mono HX.out.size))
      clear hb
      clear d10 d11 d12 d20 d21 d22
      have d10 := KP1.out.cell (i := 0) rfl
      have d11 := KP1.out.cell (i := 1) rfl
      have d12 := KP1.out.cell (i := 2) rfl
      have d20 := KP2.out.cell (i := 0) rfl
      have d21 := KP2.out.cell (i := 1) rfl
      have d22 := KP2.out.cell (i := 2) rfl
      go_wp2_with fail
      go_meet
      exact ⟨rfl, HX, KP1, KP2⟩
  case rest =>
    obtain ⟨rfl, HX, KP1, KP2⟩ := hcut
    have d10 := KP1.out.cell (i := 0) rfl
    have d11 := KP1.out.cell (i := 1) rfl
    have d12 := KP1.out.cell (i := 2) rfl
    have d20 := KP2.out.cell (i := 0) rfl
    have d21 := KP2.out.cell (i := 1) rfl
    have d22 := KP2.out.cell (i := 2) rfl
    go_wp2_with fail
    refine (awakeN (HT.out.below HX.out)).mono ?_
    rintro _ w5 ⟨rfl, hb⟩
    replace HX := Lib.hid (HX.out.trans (hb.mono HX.out.size))
    clear hb
    go_wp2_with fail
    go_ret
    exact ⟨rfl, HX.out⟩

set_option maxRecDepth 100000 in
set_option maxHeartbeats 16000000 in
theorem ratSimples_awake6 (b1 : Bool) (A1 A1' : Option Addr) (n1 c1 n1' c1' : Nat) (f1 g1 : Nat → Nat) (b2 : Bool) (A2 A2' : Option Addr) (n2 c2 n2' c2' : Nat) (f2 g2 : Nat → Nat) (w : World) (h : Raw w b1 A1 n1 c1 f1 A1' n1' c1' g1) (k : Raw w b2 A2 n2 c2 f2 A2' n2' c2' g2) (hT : Tabs w) (l1 : ¬ Lg n1 n1') (l2 : ¬ Lg n2 n2') (q1 : ¬ Md n1) (q2 : ¬ Md n1') (q3 : ¬ Md n2) (q4 : Md n2') :
    Calls Tryz.prog 5 #[.agg #[.bool b1, .slice A1 n1 c1, .slice A1' n1' c1'], .agg #[.bool b2, .slice A2 n2 c2, .slice A2' n2' c2']] w fun e w' => e = .returned (.bool true) ∧ Below w.heap.size w w' := by
  have hbb := below2 w (.cells #[.bool b1, .slice A1 n1 c1, .slice A1' n1' c1'] 25) (.cells #[.bool b2, .slice A2 n2 c2, .slice A2' n2' c2'] 25)
  have k1 := (Blk.new w #[.bool b1, .slice A1 n1 c1, .slice A1' n1' c1'] 25).alloc (.cells #[.bool b2, .slice A2 n2 c2, .slice A2' n2' c2'] 25)
  have k2 := Blk.new (w.alloc (.cells #[.bool b1, .slice A1 n1 c1, .slice A1' n1' c1'] 25)) #[.bool b2, .slice A2 n2 c2, .slice A2' n2' c2'] 25
  simp only [World.size_alloc] at k2
  have HX := Lib.hid hbb
  have KP1 := Lib.hid k1
  have KP2 := Lib.hid k2
  have HA := Lib.hid h
  have HBR := Lib.hid k
  have HT := Lib.hid hT
  clear h k hT hbb k1 k2
  have d10 := KP1.out.cell (i := 0) rfl
  have d11 := KP1.out.cell (i := 1) rfl
  have d12 := KP1.out.cell (i := 2) rfl
  have d20 := KP2.out.cell (i := 0) rfl
  have d21 := KP2.out.cell (i := 1) rfl
  have d22 := KP2.out.cell (i := 2) rfl
  go_enter Tryz.func5, Tryz.ntmps5
  have mq4 := md_in q4
  have mq1 := md_out q1
  have mq2 := md_out q2
  have mq3 := md_out q3
  clear q1 q2 q3 q4
  go_upto_region 1 with fail
  go_cut [62] (fun t wx => t = .bool true ∧ Hid (Below w.heap.size w wx) ∧ Hid (Blk wx w.heap.size 25 #[.bool b1, .slice A1 n1 c1, .slice A1' n1' c1']) ∧ Hid (Blk wx (w.heap.size + 1) 25 #[.bool b2, .slice A2 n2 c2, .slice A2' n2' c2']))
  case first =>
    obtain ⟨ma, mb⟩ := mq4
    rcases mq1 with mq1 | ⟨mq1, mq1'⟩
    all_goals rcases mq2 with mq2 | ⟨mq2, mq2'⟩
    all_goals rcases mq3 with mq3 | ⟨mq3, mq3'⟩
    all_goals
      go_wp2_with fail
      refine (longR_no b1 A1 A1' n1 c1 n1' c1' l1).mono ?_
      rintro _ w3 ⟨rfl, hb⟩
      replace KP1 := Lib.hid (KP1.out.after hb)
      replace KP2 := Lib.hid (KP2.out.after hb)
      replace HX := Lib.hid (HX.out.trans (hb.mono HX.out.size))
      clear hb
      clear d10 d11 d12 d20 d21 d22
      have d10 := KP1.out.cell (i := 0) rfl
      have d11 := KP1.out.cell (i := 1) rfl
      have d12 := KP1.out.cell (i := 2) rfl
      have d20 := KP2.out.cell (i := 0) rfl
      have d21 := KP2.out.cell (i := 1) rfl
      have d22 := KP2.out.cell (i := 2) rfl
      go_wp2_with fail
      refine (longR_no b2 A2 A2' n2 c2 n2' c2' l2).mono ?_
      rintro _ w4 ⟨rfl, hb⟩
      replace KP1 := Lib.hid (KP1.out.after hb)
      replace KP2 := Lib.hid (KP2.out.after hb)
      replace HX := Lib.hid (HX.out.trans (hb.mono HX.out.size))
      clear hb
      clear d10 d11 d12 d20 d21 d22
      have d10 := KP1.out.cell (i := 0) rfl
      have d11 := KP1.out.cell (i := 1) rfl
      have d12 := KP1.out.cell (i := 2) rfl
      have d20 := KP2.out.cell (i := 0) rfl
      have d21 := KP2.out.cell (i := 1) rfl
      have d22 := KP2.out.cell (i := 2) rfl
      go_wp2_with fail
      go_meet
      exact ⟨rfl, HX, KP1, KP2⟩
  case rest =>
    obtain ⟨rfl, HX, KP1, KP2⟩ := hcut
    have d10 := KP1.out.cell (i := 0) rfl
    have d11 := KP1.out.cell (i := 1) rfl
    have d12 := KP1.out.cell (i := 2) rfl
    have d20 := KP2.out.cell (i := 0) rfl
    have d21 := KP2.out.cell (i := 1) rfl
    have d22 := KP2.out.cell (i := 2) rfl
    go_wp2_with fail
    refine (awakeN (HT.out.below HX.out)).mono ?_
    rintro _ w5 ⟨rfl, hb⟩
    replace HX := Lib.hid (HX.out.trans (hb.mono HX.out.size))
    clear hb
    go_wp2_with fail
    go_ret
    exact ⟨rfl, HX.out⟩

set_option maxRecDepth 100000 in
set_option maxHeartbeats 16000000 in
theorem ratSimples_main (b1 : Bool) (A1 A1' : Option Addr) (n1 c1 n1' c1' : Nat) (f1 g1 : Nat → Nat) (b2 : Bool) (A2 A2' : Option Addr) (n2 c2 n2' c2' : Nat) (f2 g2 : Nat → Nat) (w : World) (h : Raw w b1 A1 n1 c1 f1 A1' n1' c1' g1) (k : Raw w b2 A2 n2 c2 f2 A2' n2' c2' g2) (hT : Tabs w) (l1 : ¬ Lg n1 n1') (l2 : ¬ Lg n2 n2') (q1 : ¬ Md n1) (q2 : ¬ Md n1') (q3 : ¬ Md n2) (q4 : ¬ Md n2') :
    Calls Tryz.prog 5 #[.agg #[.bool b1, .slice A1 n1 c1, .slice A1' n1' c1'], .agg #[.bool b2, .slice A2 n2 c2, .slice A2' n2' c2']] w fun e w' => e = .returned (.bool true) ∧ Below w.heap.size w w' := by
  have hbb := below2 w (.cells #[.bool b1, .slice A1 n1 c1, .slice A1' n1' c1'] 25) (.cells #[.bool b2, .slice A2 n2 c2, .slice A2' n2' c2'] 25)
  have k1 := (Blk.new w #[.bool b1, .slice A1 n1 c1, .slice A1' n1' c1'] 25).alloc (.cells #[.bool b2, .slice A2 n2 c2, .slice A2' n2' c2'] 25)
  have k2 := Blk.new (w.alloc (.cells #[.bool b1, .slice A1 n1 c1, .slice A1' n1' c1'] 25)) #[.bool b2, .slice A2 n2 c2, .slice A2' n2' c2'] 25
  simp only [World.size_alloc] at k2
  have HX := Lib.hid hbb
  have KP1 := Lib.hid k1
  have KP2 := Lib.hid k2
  have HA := Lib.hid h
  have HBR := Lib.hid k
  have HT := Lib.hid hT
  clear h k hT hbb k1 k2
  have d10 := KP1.out.cell (i := 0) rfl
  have d11 := KP1.out.cell (i := 1) rfl
  have d12 := KP1.out.cell (i := 2) rfl
  have d20 := KP2.out.cell (i := 0) rfl
  have d21 := KP2.out.cell (i := 1) rfl
  have d22 := KP2.out.cell (i := 2) rfl
  go_enter Tryz.func5, Tryz.ntmps5
  have mq1 := md_out q1
  have mq2 := md_out q2
  have mq3 := md_out q3
  have mq4 := md_out q4
  have hL1 := Lib.hid l1
  have hL2 := Lib.hid l2
  clear q1 q2 q3 q4
  go_upto_region 1 with fail
  go_cut [62] (fun t wx => t = .bool false ∧ Hid (Below w.heap.size w wx) ∧ Hid (Blk wx w.heap.size 25 #[.bool b1, .slice A1 n1 c1, .slice A1' n1' c1']) ∧ Hid (Blk wx (w.heap.size + 1) 25 #[.bool b2, .slice A2 n2 c2, .slice A2' n2' c2']))
  case first =>
    rcases mq1 with mq1 | ⟨mq1, mq1'⟩
    all_goals rcases mq2 with mq2 | ⟨mq2, mq2'⟩
    all_goals rcases mq3 with mq3 | ⟨mq3, mq3'⟩
    all_goals rcases mq4 with mq4 | ⟨mq4, mq4'⟩
    all_goals
      go_wp2_with fail
      refine (longR_no b1 A1 A1' n1 c1 n1' c1' l1).mono ?_
      rintro _ w3 ⟨rfl, hb⟩
      replace KP1 := Lib.hid (KP1.out.after hb)
      replace KP2 := Lib.hid (KP2.out.after hb)
      replace HX := Lib.hid (HX.out.trans (hb.mono HX.out.size))
      clear hb
      clear d10 d11 d12 d20 d21 d22
      have d10 := KP1.out.cell (i := 0) rfl
      have d11 := KP1.out.cell (i := 1) rfl
      have d12 := KP1.out.cell (i := 2) rfl
      have d20 := KP2.out.cell (i := 0) rfl
      have d21 := KP2.out.cell (i := 1) rfl
      have d22 := KP2.out.cell (i := 2) rfl
      go_wp2_with fail
      refine (longR_no b2 A2 A2' n2 c2 n2' c2' l2).mono ?_
      rintro _ w4 ⟨rfl, hb⟩
      replace KP1 := Lib.hid (KP1.out.after hb)
      replace KP2 := Lib.hid (KP2.out.after hb)
      replace HX := Lib.hid (HX.out.trans (hb.mono HX.out.size))
      clear hb
      clear d10 d11 d12 d20 d21 d22
      have d10 := KP1.out.cell (i := 0) rfl
      have d11 := KP1.out.cell (i := 1) rfl
      have d12 := KP1.out.cell (i := 2) rfl
      have d20 := KP2.out.cell (i := 0) rfl
      have d21 := KP2.out.cell (i := 1) rfl
      have d22 := KP2.out.cell (i := 2) rfl
      go_wp2_with fail
      go_meet
      exact ⟨(by first | rfl | exact congrArg Value.bool (by simp <;> omega)), HX, KP1, KP2⟩
  case rest =>
    obtain ⟨rfl, HX, KP1, KP2⟩ := hcut
    generalize wc = w10 at *
    have HW := HX
    have T10 := Lib.hid (HT.out.below HX.out)
    have RA := Lib.hid (HA.out.below HX.out)
    have RB := Lib.hid (HBR.out.below HX.out)
    have HY := Lib.hid (Below.refl w10.heap.size w10)
    obtain ⟨ES, hES⟩ : ∃ x, simER b1 n1 f1 n1' g1 b2 n2 f2 n2' g2 = x := ⟨_, rfl⟩
    have HES := Lib.hid hES
    clear HX HT HA HBR hES l1 l2 mq1 mq2 mq3 mq4
    have d10 := (KP1.out.after HY.out).cell (i := 0) rfl
    have d11 := (KP1.out.after HY.out).cell (i := 1) rfl
    have d12 := (KP1.out.after HY.out).cell (i := 2) rfl
    have d20 := (KP2.out.after HY.out).cell (i := 0) rfl
    have d21 := (KP2.out.after HY.out).cell (i := 1) rfl
    have d22 := (KP2.out.after HY.out).cell (i := 2) rfl
    have C := ratSimpleO (RA.out.below HY.out) (RB.out.below HY.out) (T10.out.below HY.out) hL1.out hL2.out
    rw [HES.out] at C
    have CC := Lib.hid C
    clear C
    go_wp2_with fail
    refine CC.out.mono ?_
    rintro _ w11 ⟨x, rfl, hx, hb⟩
    obtain ⟨bw11, Aw11, nw11, cw11, Aw11', nw11', cw11', rfl⟩ := hx.get
    clear CC
    clear d10 d11 d12 d20 d21 d22
    replace HY := Lib.hid (HY.out.trans (hb.mono HY.out.size))
    have hba := below1 w11 (.cells #[.bool bw11, .slice Aw11 nw11 cw11, .slice Aw11' nw11' cw11'] 25)
    have R7 := Lib.hid (hx.below hba)
    have K7 := Lib.hid (Blk.new w11 #[.bool bw11, .slice Aw11 nw11 cw11, .slice Aw11' nw11' cw11'] 25)
    replace HY := Lib.hid (HY.out.trans (hba.mono HY.out.size))
    clear hx hb hba
    go_upto_region 4 with fail
    generalize hP : w11.heap.size = P7 at *
    clear hP
    generalize w11.alloc (.cells #[.bool bw11, .slice Aw11 nw11 cw11, .slice Aw11' nw11' cw11'] 25) = vw11 at *
    have d10 := (KP1.out.after HY.out).cell (i := 0) rfl
    have d11 := (KP1.out.after HY.out).cell (i := 1) rfl
    have d12 := (KP1.out.after HY.out).cell (i := 2) rfl
    have d20 := (KP2.out.after HY.out).cell (i := 0) rfl
    have d21 := (KP2.out.after HY.out).cell (i := 1) rfl
    have d22 := (KP2.out.after HY.out).cell (i := 2) rfl
    have C := refSimpleO (RA.out.below HY.out) (RB.out.below HY.out) hL1.out hL2.out
    rw [HES.out] at C
    have CC := Lib.hid C
    clear C
    go_wp2_with fail
    refine CC.out.mono ?_
    rintro _ w12 ⟨x, rfl, hx, hb⟩
    obtain ⟨bw12, Aw12, nw12, cw12, Aw12', nw12', cw12', rfl⟩ := hx.get
    clear CC
    clear d10 d11 d12 d20 d21 d22
    replace HY := Lib.hid (HY.out.trans (hb.mono HY.out.size))
    replace K7 := Lib.hid (K7.out.after hb)
    replace R7 := Lib.hid (R7.out.below hb)
    have hba := below1 w12 (.cells #[.bool bw12, .slice Aw12 nw12 cw12, .slice Aw12' nw12' cw12'] 25)
    have R9 := Lib.hid (hx.below hba)
    have K9 := Lib.hid (Blk.new w12 #[.bool bw12, .slice Aw12 nw12 cw12, .slice Aw12' nw12' cw12'] 25)
    replace K7 := Lib.hid (K7.out.after hba)
    replace R7 := Lib.hid (R7.out.below hba)
    replace HY := Lib.hid (HY.out.trans (hba.mono HY.out.size))
    clear hx hb hba
    go_upto_region 5 with fail
    generalize hP : w12.heap.size = P9 at *
    clear hP
    generalize w12.alloc (.cells #[.bool bw12, .slice Aw12 nw12 cw12, .slice Aw12' nw12' cw12'] 25) = vw12 at *
    have d10 := K7.out.cell (i := 0) rfl
    have d20 := K9.out.cell (i := 0) rfl
    have d11 := K7.out.cell (i := 1) rfl
    have d21 := K9.out.cell (i := 1) rfl
    have d12 := K7.out.cell (i := 2) rfl
    have d22 := K9.out.cell (i := 2) rfl
    go_wp2_with fail
    refine (sameRatO R7.out R9.out).mono ?_
    rintro _ w13 ⟨rfl, hb⟩
    replace HY := Lib.hid (HY.out.trans (hb.mono HY.out.size))
    clear hb R7 R9 d10 d11 d12 d20 d21 d22
    go_wp2_with fail
    refine (awakeN (T10.out.below HY.out)).mono ?_
    rintro _ w14 ⟨rfl, hb⟩
    replace HY := Lib.hid (HY.out.trans (hb.mono HY.out.size))
    clear hb
    go_wp2_with fail
    go_ret
    exact ⟨rfl, HW.out.trans (HY.out.mono HW.out.size)⟩
end Go.Proofs.YtmcacofpnnaplaaGreatDoor

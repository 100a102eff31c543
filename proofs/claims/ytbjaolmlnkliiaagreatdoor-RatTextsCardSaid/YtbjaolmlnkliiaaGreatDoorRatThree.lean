/- The contracts of the functions under the laws of package rat: RatU, RatP, RatQ, RatR, RatS, RatW, RatX, joined into one file. -/
import Derived.Test.YtbjaolmlnkliiaaGreatDoorRatOne
import Derived.Test.YtbjaolmlnkliiaaGreatDoorRatTwo
import Derived.Deep.RegionHeld3
import Derived.Deep.DrawnRows
import Derived.Deep.DeepCutAuto
/- The contract of Simple at valid numbers. Conditions as premises: the numbers are short enough. -/
namespace Go.Proofs.YtbjaolmlnkliiaaGreatDoor
open Go.RowKit Go.Shelf
attribute [local go_sem ↓] Go.wp_at_zero Go.wp_at_succ

/-- the simplest number of the interval from lo to hi -/
def sQ (lo hi : Rat) : Rat :=
  if sg lo.num = sg hi.num then
    (if lo.num < 0 then mkRat (-((cfs (hi.den + lo.den) hi.num.natAbs hi.den lo.num.natAbs lo.den).1 : Int)) (cfs (hi.den + lo.den) hi.num.natAbs hi.den lo.num.natAbs lo.den).2
    else mkRat ((cfs (lo.den + hi.den) lo.num.natAbs lo.den hi.num.natAbs hi.den).1 : Int) (cfs (lo.den + hi.den) lo.num.natAbs lo.den hi.num.natAbs hi.den).2)
  else 0

theorem le_abs_pos {lo hi : Rat} (h : lo ≤ hi) (h0 : 0 ≤ lo.num) (h1 : 0 ≤ hi.num) : lo.num.natAbs * hi.den ≤ hi.num.natAbs * lo.den := by
  have := (Rat.le_iff lo hi).1 h
  have e1 : ((lo.num.natAbs * hi.den : Nat) : Int) = lo.num * hi.den := by rw [Int.natCast_mul, Int.natAbs_of_nonneg h0]
  have e2 : ((hi.num.natAbs * lo.den : Nat) : Int) = hi.num * lo.den := by rw [Int.natCast_mul, Int.natAbs_of_nonneg h1]
  omega
theorem le_abs_neg {lo hi : Rat} (h : lo ≤ hi) (h0 : lo.num < 0) (h1 : hi.num < 0) : hi.num.natAbs * lo.den ≤ lo.num.natAbs * hi.den := by
  have := (Rat.le_iff lo hi).1 h
  have e1 : ((lo.num.natAbs * hi.den : Nat) : Int) = -(lo.num * hi.den) := by rw [Int.natCast_mul, Int.ofNat_natAbs_of_nonpos (by omega), Int.neg_mul]
  have e2 : ((hi.num.natAbs * lo.den : Nat) : Int) = -(hi.num * lo.den) := by rw [Int.natCast_mul, Int.ofNat_natAbs_of_nonpos (by omega), Int.neg_mul]
  omega
theorem sg_neg_iff {z : Int} : sg z = 0 ↔ z < 0 := by
  rcases sg_cases z with ⟨h, e⟩ | ⟨h, e⟩ | ⟨h, e⟩ <;> omega

theorem sp_pos {lo hi : Rat} (h : lo ≤ hi) (h0 : 0 ≤ lo.num) (h1 : 0 ≤ hi.num) (s1 : Sz 1024 lo) (s2 : Sz 1024 hi) : Sp (lo.den + hi.den) lo.num.natAbs lo.den hi.num.natAbs hi.den :=
  ⟨Nat.le_refl _, lo.den_pos, hi.den_pos, le_abs_pos h h0 h1, lt_NL s1.1 (by omega), lt_NL s1.2 (by omega), lt_NL s2.1 (by omega), lt_NL s2.2 (by omega)⟩
theorem sp_neg {lo hi : Rat} (h : lo ≤ hi) (h0 : lo.num < 0) (h1 : hi.num < 0) (s1 : Sz 1024 lo) (s2 : Sz 1024 hi) : Sp (hi.den + lo.den) hi.num.natAbs hi.den lo.num.natAbs lo.den :=
  ⟨Nat.le_refl _, hi.den_pos, lo.den_pos, le_abs_neg h h0 h1, lt_NL s2.1 (by omega), lt_NL s2.2 (by omega), lt_NL s1.1 (by omega), lt_NL s1.2 (by omega)⟩

theorem sQ_pos {lo hi : Rat} (h : lo ≤ hi) (h0 : 0 ≤ lo.num) (hs : sg lo.num = sg hi.num) (s1 : Sz 1024 lo) (s2 : Sz 1024 hi) :
    (sQ lo hi).num = ((cfs (lo.den + hi.den) lo.num.natAbs lo.den hi.num.natAbs hi.den).1 : Int) ∧ (sQ lo hi).den = (cfs (lo.den + hi.den) lo.num.natAbs lo.den hi.num.natAbs hi.den).2 := by
  have h1 : 0 ≤ hi.num := by
    rcases Int.lt_or_le hi.num 0 with k | k
    · have := sg_neg_iff.2 k; rw [← hs] at this; have := sg_neg_iff.1 this; omega
    · exact k
  have sim := (sp_pos h h0 h1 s1 s2).sim
  unfold sQ
  rw [if_pos hs, if_neg (by omega)]
  exact mkRat_low (by have := sim.pos; omega) (by rw [Int.natAbs_natCast]; exact sim.coprime)
theorem sQ_neg {lo hi : Rat} (h : lo ≤ hi) (h0 : lo.num < 0) (hs : sg lo.num = sg hi.num) (s1 : Sz 1024 lo) (s2 : Sz 1024 hi) :
    (sQ lo hi).num = -((cfs (hi.den + lo.den) hi.num.natAbs hi.den lo.num.natAbs lo.den).1 : Int) ∧ (sQ lo hi).den = (cfs (hi.den + lo.den) hi.num.natAbs hi.den lo.num.natAbs lo.den).2 ∧ 0 < (cfs (hi.den + lo.den) hi.num.natAbs hi.den lo.num.natAbs lo.den).1 := by
  have h1 : hi.num < 0 := by have := sg_neg_iff.2 h0; rw [hs] at this; exact sg_neg_iff.1 this
  have sim := (sp_neg h h0 h1 s1 s2).sim
  unfold sQ
  rw [if_pos hs, if_pos h0]
  obtain ⟨e1, e2⟩ := mkRat_low (z := -((cfs (hi.den + lo.den) hi.num.natAbs hi.den lo.num.natAbs lo.den).1 : Int)) (d := (cfs (hi.den + lo.den) hi.num.natAbs hi.den lo.num.natAbs lo.den).2) (by have := sim.pos; omega) (by rw [Int.natAbs_neg, Int.natAbs_natCast]; exact sim.coprime)
  refine ⟨e1, e2, ?_⟩
  rcases Nat.eq_zero_or_pos (cfs (hi.den + lo.den) hi.num.natAbs hi.den lo.num.natAbs lo.den).1 with e | e
  · have h5 := sim.lo
    rw [e, Nat.zero_mul] at h5
    have := Nat.mul_pos (show 0 < hi.num.natAbs by omega) sim.pos
    omega
  · exact e

theorem field_side' (s : Int) (A : Option Addr) (n c : Nat) (w : World) : (Instr.field 102 (.agg #[.int .i64 s, .slice A n c]) 0).run Tryz.prog w = .ok (.int .i64 s) w := field_side s A n c w

set_option maxRecDepth 100000 in
set_option maxHeartbeats 8000000 in
theorem ratSimpleQ {w : World} {a b : Rat} {v u : Value} (ha : Rq w a v) (hb : Rq w b u) (hT : Tabs w) (sa : Sz 1024 a) (sb : Sz 1024 b) (hle : a ≤ b) :
    Calls Tryz.prog 28 #[v, u] w fun e w' => ∃ x, e = .returned (.tuple #[x, .int .i64 0]) ∧ Rq w' (sQ a b) x ∧ Below w.heap.size w w' := by
  obtain ⟨b1, A1, n1, c1, f1, A2, n2, c2, f2, rfl, hr, h0⟩ := ha.raw (lt_NL sa.1 (by omega)) (lt_NL sa.2 (by omega))
  obtain ⟨b2, A3, n3, c3, f3, A4, n4, c4, f4, rfl, kr, k0⟩ := hb.raw (lt_NL sb.1 (by omega)) (lt_NL sb.2 (by omega))
  have hbb : Below w.heap.size w (((w.alloc (.cells #[.bool b1, .slice A1 n1 c1, .slice A2 n2 c2] 25)).alloc (.cells #[.bool b2, .slice A3 n3 c3, .slice A4 n4 c4] 25)).alloc (.cells #[.bool false, .slice none 0 0, .slice none 0 0] 25)) := (below2 w _ _).alloc (by simp; omega) _
  have k2 := ((Blk.new w #[.bool b1, .slice A1 n1 c1, .slice A2 n2 c2] 25).alloc (.cells #[.bool b2, .slice A3 n3 c3, .slice A4 n4 c4] 25)).alloc (.cells #[.bool false, .slice none 0 0, .slice none 0 0] 25)
  have k3 := (Blk.new (w.alloc (.cells #[.bool b1, .slice A1 n1 c1, .slice A2 n2 c2] 25)) #[.bool b2, .slice A3 n3 c3, .slice A4 n4 c4] 25).alloc (.cells #[.bool false, .slice none 0 0, .slice none 0 0] 25)
  have k4 := Blk.new ((w.alloc (.cells #[.bool b1, .slice A1 n1 c1, .slice A2 n2 c2] 25)).alloc (.cells #[.bool b2, .slice A3 n3 c3, .slice A4 n4 c4] 25)) #[.bool false, .slice none 0 0, .slice none 0 0] 25
  simp only [World.size_alloc] at k2 k3 k4
  have K2 := Lib.hid k2
  have K3 := Lib.hid k3
  have K4 := Lib.hid k4
  have c1' := checkBoth_any (hr.below hbb) (kr.below hbb)
  rw [chkRR_ok h0 k0] at c1'
  have C1 := Lib.hid c1'
  have HA := Lib.hid (ha.below hbb)
  have HBB := Lib.hid (hb.below hbb)
  have HT := Lib.hid (hT.below hbb)
  have HB := Lib.hid hbb
  have SA := Lib.hid sa
  have SB := Lib.hid sb
  have HLE := Lib.hid hle
  have hcq : ¬ 0 < cq a b := by
    rcases tri a b with h | h | h
    · rw [cq_lt h]; decide
    · rw [h, cq_eq]; decide
    · exact absurd hle (Rat.not_le.2 h)
  clear ha hb hT hr kr h0 k0 c1' k2 k3 k4 hbb sa sb hle
  have CQ : Hid (∃ cc, cq a b = cc) := Lib.hid ⟨_, rfl⟩
  obtain ⟨cc, hcc⟩ := CQ.out
  rw [hcc] at hcq
  have HCC := Lib.hid hcc
  clear hcc CQ
  go_enter Tryz.func28, Tryz.ntmps28
  go_wp2_with fail
  refine C1.out.mono ?_
  rintro _ w1 ⟨rfl, hb⟩
  replace HA := Lib.hid (HA.out.below hb)
  replace HBB := Lib.hid (HBB.out.below hb)
  replace HT := Lib.hid (HT.out.below hb)
  replace HB := Lib.hid (HB.out.trans (hb.mono HB.out.size))
  replace K2 := Lib.hid (K2.out.after hb)
  replace K3 := Lib.hid (K3.out.after hb)
  replace K4 := Lib.hid (K4.out.after hb)
  have y2 : w.heap.size < w1.heap.size := K2.out.lt
  have y3 : w.heap.size + 1 < w1.heap.size := K3.out.lt
  have y4 : w.heap.size + 1 + 1 < w1.heap.size := K4.out.lt
  have d20 := K2.out.cell (i := 0) rfl
  have d21 := K2.out.cell (i := 1) rfl
  have d22 := K2.out.cell (i := 2) rfl
  have d30 := K3.out.cell (i := 0) rfl
  have d31 := K3.out.cell (i := 1) rfl
  have d32 := K3.out.cell (i := 2) rfl
  have c2' := orderQ HA.out HBB.out HT.out SA.out SB.out
  rw [HCC.out] at c2'
  have C2 := Lib.hid c2'
  clear hb c2' C1
  go_wp2_with fail
  refine C2.out.mono ?_
  rintro _ w2 ⟨rfl, hb⟩
  clear d20 d21 d22 d30 d31 d32 y2 y3 y4
  replace HA := Lib.hid (HA.out.below hb)
  replace HBB := Lib.hid (HBB.out.below hb)
  replace HT := Lib.hid (HT.out.below hb)
  replace HB := Lib.hid (HB.out.trans (hb.mono HB.out.size))
  replace K2 := Lib.hid (K2.out.after hb)
  replace K3 := Lib.hid (K3.out.after hb)
  replace K4 := Lib.hid (K4.out.after hb)
  have y2 : w.heap.size < w2.heap.size := K2.out.lt
  have y3 : w.heap.size + 1 < w2.heap.size := K3.out.lt
  have y4 : w.heap.size + 1 + 1 < w2.heap.size := K4.out.lt
  have d20 := K2.out.cell (i := 0) rfl
  have d21 := K2.out.cell (i := 1) rfl
  have d22 := K2.out.cell (i := 2) rfl
  have d30 := K3.out.cell (i := 0) rfl
  have d31 := K3.out.cell (i := 1) rfl
  have d32 := K3.out.cell (i := 2) rfl
  have C3 := Lib.hid (numeratorN (neg := b1) (A' := A2) (n' := n2) (c' := c2) HA.out.inv.1)
  clear hb C2
  go_wp2_with fail
  refine C3.out.mono ?_
  rintro _ w3 ⟨x, rfl, hall, hb⟩
  obtain ⟨s1, B1, m1, e1, rfl, _, es1, hs1⟩ := (hall w2 HA.out.inv.1).get
  clear d20 d21 d22 d30 d31 d32 y2 y3 y4
  replace HA := Lib.hid (HA.out.below hb)
  replace HBB := Lib.hid (HBB.out.below hb)
  replace HT := Lib.hid (HT.out.below hb)
  replace HB := Lib.hid (HB.out.trans (hb.mono HB.out.size))
  replace K2 := Lib.hid (K2.out.after hb)
  replace K3 := Lib.hid (K3.out.after hb)
  replace K4 := Lib.hid (K4.out.after hb)
  have y2 : w.heap.size < w3.heap.size := K2.out.lt
  have y3 : w.heap.size + 1 < w3.heap.size := K3.out.lt
  have y4 : w.heap.size + 1 + 1 < w3.heap.size := K4.out.lt
  have d20 := K2.out.cell (i := 0) rfl
  have d21 := K2.out.cell (i := 1) rfl
  have d22 := K2.out.cell (i := 2) rfl
  have d30 := K3.out.cell (i := 0) rfl
  have d31 := K3.out.cell (i := 1) rfl
  have d32 := K3.out.cell (i := 2) rfl
  have hfs1 := field_side s1 B1 m1 e1
  have C4 := Lib.hid (numeratorN (neg := b2) (A' := A4) (n' := n4) (c' := c4) HBB.out.inv.1)
  clear hb C3 hall
  go_wp2_with fail
  refine C4.out.mono ?_
  rintro _ w4 ⟨x, rfl, hall, hb⟩
  obtain ⟨s2, B2, m2, e2, rfl, _, es2, hs2⟩ := (hall w3 HBB.out.inv.1).get
  clear d20 d21 d22 d30 d31 d32 y2 y3 y4 hfs1
  replace HA := Lib.hid (HA.out.below hb)
  replace HBB := Lib.hid (HBB.out.below hb)
  replace HT := Lib.hid (HT.out.below hb)
  replace HB := Lib.hid (HB.out.trans (hb.mono HB.out.size))
  replace K2 := Lib.hid (K2.out.after hb)
  replace K3 := Lib.hid (K3.out.after hb)
  replace K4 := Lib.hid (K4.out.after hb)
  have y2 : w.heap.size < w4.heap.size := K2.out.lt
  have y3 : w.heap.size + 1 < w4.heap.size := K3.out.lt
  have y4 : w.heap.size + 1 + 1 < w4.heap.size := K4.out.lt
  have d20 := K2.out.cell (i := 0) rfl
  have d21 := K2.out.cell (i := 1) rfl
  have d22 := K2.out.cell (i := 2) rfl
  have d30 := K3.out.cell (i := 0) rfl
  have d31 := K3.out.cell (i := 1) rfl
  have d32 := K3.out.cell (i := 2) rfl
  have hfs2 := field_side s2 B2 m2 e2
  have ES1 := Lib.hid (show s1 = sg a.num by rw [es1.out, HA.out.inv.2.2, sn_num])
  have ES2 := Lib.hid (show s2 = sg b.num by rw [es2.out, HBB.out.inv.2.2, sn_num])
  clear hb C4 hall es1 es2
  by_cases hst : s1 = s2
  · have hbn : (s1 != s2) = false := by simp [hst]
    have hbe : (s1 == s2) = true := beq_iff_eq.2 hst
    have HS := Lib.hid (show sg a.num = sg b.num by rw [← ES1.out, ← ES2.out]; exact hst)
    clear hst
    by_cases hneg : s1 = 0
    · have HN := Lib.hid (sg_neg_iff.1 (by rw [← ES1.out]; exact hneg) : a.num < 0)
      have hb0 : (s1 == 0) = true := beq_iff_eq.2 hneg
      have HNE := Lib.hid hneg
      clear hneg
      have f2 := K2.out.free
      have f3 := K3.out.free
      go_wp2_with fail
      have ka : Blk (((w4.setCell ⟨w.heap.size, 0, none⟩ (.bool b2)).setCell ⟨w.heap.size, 1, none⟩ (.slice A3 n3 c3)).setCell ⟨w.heap.size, 2, none⟩ (.slice A4 n4 c4)) w.heap.size 25 #[.bool b2, .slice A3 n3 c3, .slice A4 n4 c4] := K2.out.set.set.set
      have kb : Blk (((w4.setCell ⟨w.heap.size, 0, none⟩ (.bool b2)).setCell ⟨w.heap.size, 1, none⟩ (.slice A3 n3 c3)).setCell ⟨w.heap.size, 2, none⟩ (.slice A4 n4 c4)) (w.heap.size + 1) 25 #[.bool b2, .slice A3 n3 c3, .slice A4 n4 c4] := ((K3.out.other (by show w.heap.size + 1 ≠ w.heap.size; omega)).other (by show w.heap.size + 1 ≠ w.heap.size; omega)).other (by show w.heap.size + 1 ≠ w.heap.size; omega)
      have kc : Blk (((w4.setCell ⟨w.heap.size, 0, none⟩ (.bool b2)).setCell ⟨w.heap.size, 1, none⟩ (.slice A3 n3 c3)).setCell ⟨w.heap.size, 2, none⟩ (.slice A4 n4 c4)) (w.heap.size + 1 + 1) 25 #[.bool false, .slice none 0 0, .slice none 0 0] := ((K4.out.other (by show w.heap.size + 1 + 1 ≠ w.heap.size; omega)).other (by show w.heap.size + 1 + 1 ≠ w.heap.size; omega)).other (by show w.heap.size + 1 + 1 ≠ w.heap.size; omega)
      have k2 : Blk ((((((w4.setCell ⟨w.heap.size, 0, none⟩ (.bool b2)).setCell ⟨w.heap.size, 1, none⟩ (.slice A3 n3 c3)).setCell ⟨w.heap.size, 2, none⟩ (.slice A4 n4 c4)).setCell ⟨w.heap.size + 1, 0, none⟩ (.bool b1)).setCell ⟨w.heap.size + 1, 1, none⟩ (.slice A1 n1 c1)).setCell ⟨w.heap.size + 1, 2, none⟩ (.slice A2 n2 c2)) w.heap.size 25 #[.bool b2, .slice A3 n3 c3, .slice A4 n4 c4] := ((ka.other (by show w.heap.size ≠ w.heap.size + 1; omega)).other (by show w.heap.size ≠ w.heap.size + 1; omega)).other (by show w.heap.size ≠ w.heap.size + 1; omega)
      have k3 : Blk ((((((w4.setCell ⟨w.heap.size, 0, none⟩ (.bool b2)).setCell ⟨w.heap.size, 1, none⟩ (.slice A3 n3 c3)).setCell ⟨w.heap.size, 2, none⟩ (.slice A4 n4 c4)).setCell ⟨w.heap.size + 1, 0, none⟩ (.bool b1)).setCell ⟨w.heap.size + 1, 1, none⟩ (.slice A1 n1 c1)).setCell ⟨w.heap.size + 1, 2, none⟩ (.slice A2 n2 c2)) (w.heap.size + 1) 25 #[.bool b1, .slice A1 n1 c1, .slice A2 n2 c2] := kb.set.set.set
      have k4 : Blk ((((((w4.setCell ⟨w.heap.size, 0, none⟩ (.bool b2)).setCell ⟨w.heap.size, 1, none⟩ (.slice A3 n3 c3)).setCell ⟨w.heap.size, 2, none⟩ (.slice A4 n4 c4)).setCell ⟨w.heap.size + 1, 0, none⟩ (.bool b1)).setCell ⟨w.heap.size + 1, 1, none⟩ (.slice A1 n1 c1)).setCell ⟨w.heap.size + 1, 2, none⟩ (.slice A2 n2 c2)) (w.heap.size + 1 + 1) 25 #[.bool false, .slice none 0 0, .slice none 0 0] := ((kc.other (by show w.heap.size + 1 + 1 ≠ w.heap.size + 1; omega)).other (by show w.heap.size + 1 + 1 ≠ w.heap.size + 1; omega)).other (by show w.heap.size + 1 + 1 ≠ w.heap.size + 1; omega)
      have put : ∀ {N : Nat} {x : Value}, Nr w4 N x → Nr ((((((w4.setCell ⟨w.heap.size, 0, none⟩ (.bool b2)).setCell ⟨w.heap.size, 1, none⟩ (.slice A3 n3 c3)).setCell ⟨w.heap.size, 2, none⟩ (.slice A4 n4 c4)).setCell ⟨w.heap.size + 1, 0, none⟩ (.bool b1)).setCell ⟨w.heap.size + 1, 1, none⟩ (.slice A1 n1 c1)).setCell ⟨w.heap.size + 1, 2, none⟩ (.slice A2 n2 c2)) N x := fun h => (h.put3 K2.out (hnoR _ _ _ _ _ _ _)).put3 kb (hnoR _ _ _ _ _ _ _)
      have ha2 : Rq ((((((w4.setCell ⟨w.heap.size, 0, none⟩ (.bool b2)).setCell ⟨w.heap.size, 1, none⟩ (.slice A3 n3 c3)).setCell ⟨w.heap.size, 2, none⟩ (.slice A4 n4 c4)).setCell ⟨w.heap.size + 1, 0, none⟩ (.bool b1)).setCell ⟨w.heap.size + 1, 1, none⟩ (.slice A1 n1 c1)).setCell ⟨w.heap.size + 1, 2, none⟩ (.slice A2 n2 c2)) a (.agg #[.bool b1, .slice A1 n1 c1, .slice A2 n2 c2]) := Rq.mk HA.out.inv.2.2 rfl rfl (put HA.out.inv.1) (put HA.out.inv.2.1)
      have hb2 : Rq ((((((w4.setCell ⟨w.heap.size, 0, none⟩ (.bool b2)).setCell ⟨w.heap.size, 1, none⟩ (.slice A3 n3 c3)).setCell ⟨w.heap.size, 2, none⟩ (.slice A4 n4 c4)).setCell ⟨w.heap.size + 1, 0, none⟩ (.bool b1)).setCell ⟨w.heap.size + 1, 1, none⟩ (.slice A1 n1 c1)).setCell ⟨w.heap.size + 1, 2, none⟩ (.slice A2 n2 c2)) b (.agg #[.bool b2, .slice A3 n3 c3, .slice A4 n4 c4]) := Rq.mk HBB.out.inv.2.2 rfl rfl (put HBB.out.inv.1) (put HBB.out.inv.2.1)
      have hB : Below w.heap.size w ((((((w4.setCell ⟨w.heap.size, 0, none⟩ (.bool b2)).setCell ⟨w.heap.size, 1, none⟩ (.slice A3 n3 c3)).setCell ⟨w.heap.size, 2, none⟩ (.slice A4 n4 c4)).setCell ⟨w.heap.size + 1, 0, none⟩ (.bool b1)).setCell ⟨w.heap.size + 1, 1, none⟩ (.slice A1 n1 c1)).setCell ⟨w.heap.size + 1, 2, none⟩ (.slice A2 n2 c2)) := (((((HB.out.setCell (Nat.le_refl _) _).setCell (Nat.le_refl _) _).setCell (Nat.le_refl _) _).setCell (by show w.heap.size ≤ w.heap.size + 1; omega) _).setCell (by show w.heap.size ≤ w.heap.size + 1; omega) _).setCell (by show w.heap.size ≤ w.heap.size + 1; omega) _
      clear ka kb kc put HA HBB HB K2 K3 K4 d20 d21 d22 d30 d31 d32 y2 y3 y4 f2 f3 HT hfs2
      go_upto_region 11 with fail
      generalize ((((((w4.setCell ⟨w.heap.size, 0, none⟩ (.bool b2)).setCell ⟨w.heap.size, 1, none⟩ (.slice A3 n3 c3)).setCell ⟨w.heap.size, 2, none⟩ (.slice A4 n4 c4)).setCell ⟨w.heap.size + 1, 0, none⟩ (.bool b1)).setCell ⟨w.heap.size + 1, 1, none⟩ (.slice A1 n1 c1)).setCell ⟨w.heap.size + 1, 2, none⟩ (.slice A2 n2 c2)) = w5 at *
      have HA := Lib.hid ha2
      have HBB := Lib.hid hb2
      have HB := Lib.hid hB
      have K2 := Lib.hid k2
      have K3 := Lib.hid k3
      have K4 := Lib.hid k4
      have y4 : w.heap.size + 1 + 1 < w5.heap.size := k4.lt
      clear ha2 hb2 hB k2 k3 k4
      have SQ := Lib.hid (sQ_neg HLE.out HN.out HS.out SA.out SB.out)
      have SPP := Lib.hid (sp_neg HLE.out HN.out (sg_neg_iff.1 (by rw [← HS.out]; exact sg_neg_iff.2 HN.out)) SA.out SB.out)
      have CS : Hid (∀ W, Below w5.heap.size w5 W → Calls Tryz.prog 107 #[.agg #[.slice A3 n3 c3, .slice A4 n4 c4, .slice A1 n1 c1, .slice A2 n2 c2]] W fun e w' => ∃ A n c A' n' c', e = .returned (.agg #[.slice A n c, .slice A' n' c']) ∧ Nr w' (cfs (b.den + a.den) b.num.natAbs b.den a.num.natAbs a.den).1 (.slice A n c) ∧ Nr w' (cfs (b.den + a.den) b.num.natAbs b.den a.num.natAbs a.den).2 (.slice A' n' c') ∧ Below W.heap.size W w') := Lib.hid fun W h1 =>
        simplestN (b.den + a.den) b.num.natAbs b.den a.num.natAbs a.den _ _ _ _ _ _ _ _ _ _ _ _ W (HBB.out.inv.1.below h1) (HBB.out.inv.2.1.below h1) (HA.out.inv.1.below h1) (HA.out.inv.2.1.below h1) SPP.out
      have KEEP : Hid (∀ W, Below w5.heap.size w5 W → (W.cell? ⟨w.heap.size, 0, none⟩ = some (.bool b2) ∧ W.cell? ⟨w.heap.size, 1, none⟩ = some (.slice A3 n3 c3) ∧ W.cell? ⟨w.heap.size, 2, none⟩ = some (.slice A4 n4 c4) ∧ W.cell? ⟨w.heap.size + 1, 0, none⟩ = some (.bool b1) ∧ W.cell? ⟨w.heap.size + 1, 1, none⟩ = some (.slice A1 n1 c1) ∧ W.cell? ⟨w.heap.size + 1, 2, none⟩ = some (.slice A2 n2 c2))) := Lib.hid fun W h1 => ⟨(K2.out.after h1).cell rfl, (K2.out.after h1).cell rfl, (K2.out.after h1).cell rfl, (K3.out.after h1).cell rfl, (K3.out.after h1).cell rfl, (K3.out.after h1).cell rfl⟩
      have hdrew : Below w5.heap.size w5 w5.drew := (Below.refl _ _).drew
      have hn2 : w.heap.size + 1 + 1 ≠ w.heap.size := by omega
      have hn3 : w.heap.size + 1 + 1 ≠ w.heap.size + 1 := by omega
      go_region_held3 (fun W => W.cell? ⟨w.heap.size, 0, none⟩ = some (.bool b2) ∧ W.cell? ⟨w.heap.size, 1, none⟩ = some (.slice A3 n3 c3) ∧ W.cell? ⟨w.heap.size, 2, none⟩ = some (.slice A4 n4 c4) ∧ W.cell? ⟨w.heap.size + 1, 0, none⟩ = some (.bool b1) ∧ W.cell? ⟨w.heap.size + 1, 1, none⟩ = some (.slice A1 n1 c1) ∧ W.cell? ⟨w.heap.size + 1, 2, none⟩ = some (.slice A2 n2 c2))
        (first | with_reducible exact KEEP.out w5.drew hdrew | with_reducible exact KEEP.out wd hkd | with_reducible exact KEEP.out we hke | with_reducible exact KEEP.out wf hkf | with_reducible exact KEEP.out wg hkg | go_keep)
        (first
          | (go_at_call_of 108 n3; (with_reducible refine (partsX b2 A3 A4 n3 c3 n4 c4 w5.drew).mono ?_); rintro _ wd ⟨rfl, hb1⟩; have hkd := hdrew.trans (hb1.mono hdrew.size))
          | (go_at_call_of 108 n1; (with_reducible refine (partsX b1 A1 A2 n1 c1 n2 c2 wd).mono ?_); rintro _ we ⟨rfl, hb2⟩; have hke := hkd.trans (hb2.mono hkd.size))
          | (go_at_call 107; (with_reducible refine (CS.out we hke).mono ?_); rintro _ wf ⟨B5, m5, e5, B6, m6, e6, rfl, hv5, hv6, hb3⟩; have hkf := hke.trans (hb3.mono hke.size); have HV := Lib.hid hv5; have HU := Lib.hid hv6; clear hv5 hv6)
          | (go_at_call 106; (with_reducible refine (numberX s1 B5 B6 m5 e5 m6 e6 wf).mono ?_); rintro _ wg ⟨rfl, hb4⟩; have hkg := hkf.trans (hb4.mono hkf.size); have hzg : w.heap.size + 1 + 1 < wg.heap.size := Nat.lt_of_lt_of_le y4 hkg.size; have g0 := (K4.out.after hkg).cell (i := 0) rfl; have g1 := (K4.out.after hkg).cell (i := 1) rfl; have g2 := (K4.out.after hkg).cell (i := 2) rfl; have ff := (K4.out.after hkg).free))
      have K4b := K4.out.after hkg
      have hv := HV.out.below hb4
      have hu := HU.out.below hb4
      have hbf := HB.out.trans (hkg.mono HB.out.size)
      go_wp2_with fail
      refine bodyPost_ret (results_row_tmp (p := 4) (ty := 25) rfl _ _ (w.heap.size + 1 + 1) 25 _ _ _ rfl K4b.set.set.set Tryz.underlying25 rfl (by kernel_rfl)) rfl ?_
      refine ⟨_, rfl, Rq.mk ?_ (by rw [SQ.out.1, Int.natAbs_neg, Int.natAbs_natCast]) SQ.out.2.1 (hv.put3 K4b (hnoR _ _ _ _ _ _ _)) (hu.put3 K4b (hnoR _ _ _ _ _ _ _)), ((hbf.setCell (by simp; omega) _).setCell (by simp; omega) _).setCell (by simp; omega) _⟩
      rw [SQ.out.1]
      have := SQ.out.2.2
      exact (decide_eq_true (by omega)).symm
    · have HN := Lib.hid (show 0 ≤ a.num by
        rcases Int.lt_or_le a.num 0 with k | k
        · exact absurd (by rw [ES1.out]; exact sg_neg_iff.2 k) hneg
        · exact k)
      have hb0 : (s1 == 0) = false := beq_eq_false_iff_ne.2 hneg
      have HNE := Lib.hid hneg
      clear hneg
      go_upto_region 11 with fail
      generalize w4 = w5 at *
      have SQ := Lib.hid (sQ_pos HLE.out HN.out HS.out SA.out SB.out)
      have SPP := Lib.hid (sp_pos HLE.out HN.out (by rcases Int.lt_or_le b.num 0 with k | k; (exact absurd (sg_neg_iff.1 (by rw [HS.out]; exact sg_neg_iff.2 k)) (by have := HN.out; omega)); exact k) SA.out SB.out)
      have CS : Hid (∀ W, Below w5.heap.size w5 W → Calls Tryz.prog 107 #[.agg #[.slice A1 n1 c1, .slice A2 n2 c2, .slice A3 n3 c3, .slice A4 n4 c4]] W fun e w' => ∃ A n c A' n' c', e = .returned (.agg #[.slice A n c, .slice A' n' c']) ∧ Nr w' (cfs (a.den + b.den) a.num.natAbs a.den b.num.natAbs b.den).1 (.slice A n c) ∧ Nr w' (cfs (a.den + b.den) a.num.natAbs a.den b.num.natAbs b.den).2 (.slice A' n' c') ∧ Below W.heap.size W w') := Lib.hid fun W h1 =>
        simplestN (a.den + b.den) a.num.natAbs a.den b.num.natAbs b.den _ _ _ _ _ _ _ _ _ _ _ _ W (HA.out.inv.1.below h1) (HA.out.inv.2.1.below h1) (HBB.out.inv.1.below h1) (HBB.out.inv.2.1.below h1) SPP.out
      have KEEP : Hid (∀ W, Below w5.heap.size w5 W → (W.cell? ⟨w.heap.size, 0, none⟩ = some (.bool b1) ∧ W.cell? ⟨w.heap.size, 1, none⟩ = some (.slice A1 n1 c1) ∧ W.cell? ⟨w.heap.size, 2, none⟩ = some (.slice A2 n2 c2) ∧ W.cell? ⟨w.heap.size + 1, 0, none⟩ = some (.bool b2) ∧ W.cell? ⟨w.heap.size + 1, 1, none⟩ = some (.slice A3 n3 c3) ∧ W.cell? ⟨w.heap.size + 1, 2, none⟩ = some (.slice A4 n4 c4))) := Lib.hid fun W h1 => ⟨(K2.out.after h1).cell rfl, (K2.out.after h1).cell rfl, (K2.out.after h1).cell rfl, (K3.out.after h1).cell rfl, (K3.out.after h1).cell rfl, (K3.out.after h1).cell rfl⟩
      have hdrew : Below w5.heap.size w5 w5.drew := (Below.refl _ _).drew
      have hn2 : w.heap.size + 1 + 1 ≠ w.heap.size := by omega
      have hn3 : w.heap.size + 1 + 1 ≠ w.heap.size + 1 := by omega
      go_region_held3 (fun W => W.cell? ⟨w.heap.size, 0, none⟩ = some (.bool b1) ∧ W.cell? ⟨w.heap.size, 1, none⟩ = some (.slice A1 n1 c1) ∧ W.cell? ⟨w.heap.size, 2, none⟩ = some (.slice A2 n2 c2) ∧ W.cell? ⟨w.heap.size + 1, 0, none⟩ = some (.bool b2) ∧ W.cell? ⟨w.heap.size + 1, 1, none⟩ = some (.slice A3 n3 c3) ∧ W.cell? ⟨w.heap.size + 1, 2, none⟩ = some (.slice A4 n4 c4))
        (first | with_reducible exact KEEP.out w5.drew hdrew | with_reducible exact KEEP.out wd hkd | with_reducible exact KEEP.out we hke | with_reducible exact KEEP.out wf hkf | with_reducible exact KEEP.out wg hkg | go_keep)
        (first
          | (go_at_call_of 108 n1; (with_reducible refine (partsX b1 A1 A2 n1 c1 n2 c2 w5.drew).mono ?_); rintro _ wd ⟨rfl, hb1⟩; have hkd := hdrew.trans (hb1.mono hdrew.size))
          | (go_at_call_of 108 n3; (with_reducible refine (partsX b2 A3 A4 n3 c3 n4 c4 wd).mono ?_); rintro _ we ⟨rfl, hb2⟩; have hke := hkd.trans (hb2.mono hkd.size))
          | (go_at_call 107; (with_reducible refine (CS.out we hke).mono ?_); rintro _ wf ⟨B5, m5, e5, B6, m6, e6, rfl, hv5, hv6, hb3⟩; have hkf := hke.trans (hb3.mono hke.size); have HV := Lib.hid hv5; have HU := Lib.hid hv6; clear hv5 hv6)
          | (go_at_call 106; (with_reducible refine (numberX s1 B5 B6 m5 e5 m6 e6 wf).mono ?_); rintro _ wg ⟨rfl, hb4⟩; have hkg := hkf.trans (hb4.mono hkf.size); have hzg : w.heap.size + 1 + 1 < wg.heap.size := Nat.lt_of_lt_of_le y4 hkg.size; have g0 := (K4.out.after hkg).cell (i := 0) rfl; have g1 := (K4.out.after hkg).cell (i := 1) rfl; have g2 := (K4.out.after hkg).cell (i := 2) rfl; have ff := (K4.out.after hkg).free))
      have K4b := K4.out.after hkg
      have hv := HV.out.below hb4
      have hu := HU.out.below hb4
      have hbf := HB.out.trans (hkg.mono HB.out.size)
      go_wp2_with fail
      refine bodyPost_ret (results_row_tmp (p := 4) (ty := 25) rfl _ _ (w.heap.size + 1 + 1) 25 _ _ _ rfl K4b.set.set.set Tryz.underlying25 rfl (by kernel_rfl)) rfl ?_
      refine ⟨_, rfl, Rq.mk ?_ (by rw [SQ.out.1, Int.natAbs_natCast]) SQ.out.2 (hv.put3 K4b (hnoR _ _ _ _ _ _ _)) (hu.put3 K4b (hnoR _ _ _ _ _ _ _)), ((hbf.setCell (by simp; omega) _).setCell (by simp; omega) _).setCell (by simp; omega) _⟩
      rw [SQ.out.1]
      exact (decide_eq_false (by omega)).symm
  · have hbn : (s1 != s2) = true := by simp [hst]
    have hbe : (s1 == s2) = false := beq_eq_false_iff_ne.2 hst
    have HS := Lib.hid (show sQ a b = 0 by unfold sQ; rw [if_neg (by rw [← ES1.out, ← ES2.out]; exact hst)])
    clear hst
    go_wp2_with fail
    refine (oneN w4).mono ?_
    rintro _ w5 ⟨x, rfl, hx, hb⟩
    obtain ⟨B5, m5, e5, rfl⟩ := hx.shape
    replace HB := Lib.hid (HB.out.trans (hb.mono HB.out.size))
    replace K4 := Lib.hid (K4.out.after hb)
    have HO := Lib.hid hx
    clear hx hb
    go_wp2_with fail
    refine (numberX 1 none B5 0 0 m5 e5 w5).mono ?_
    rintro _ w6 ⟨rfl, hb⟩
    replace HB := Lib.hid (HB.out.trans (hb.mono HB.out.size))
    replace K4 := Lib.hid (K4.out.after hb)
    replace HO := Lib.hid (HO.out.below hb)
    clear hb y4
    have y4 : w.heap.size + 1 + 1 < w6.heap.size := K4.out.lt
    have d40 := K4.out.cell (i := 0) rfl
    have d41 := K4.out.cell (i := 1) rfl
    have d42 := K4.out.cell (i := 2) rfl
    have ff := K4.out.free
    go_wp2_with fail
    refine bodyPost_ret (results_row_tmp (p := 4) (ty := 25) rfl _ _ (w.heap.size + 1 + 1) 25 _ _ _ rfl K4.out.set.set.set Tryz.underlying25 rfl (by kernel_rfl)) rfl ?_
    refine ⟨_, rfl, ?_, ((HB.out.setCell (by simp; omega) _).setCell (by simp; omega) _).setCell (by simp; omega) _⟩
    rw [HS.out]
    exact Rq.mk rfl rfl rfl ((Nr.zero w6).put3 K4.out (hnoR _ _ _ _ _ _ _)) (HO.out.put3 K4.out (hnoR _ _ _ _ _ _ _))
end Go.Proofs.YtbjaolmlnkliiaaGreatDoor

/- The contracts of split, floor, Floor and Ceil. Conditions as premises: the numbers read, and are short enough. -/
namespace Go.Proofs.YtbjaolmlnkliiaaGreatDoor
open Go.RowKit Go.Shelf
attribute [local go_sem ↓] Go.wp_at_zero Go.wp_at_succ

/-- what is left above the integer part, over the same denominator -/
def rst (q : Rat) : Nat := (q.num % (q.den : Int)).toNat
theorem rst_steps (a : Rat) : (0 ≤ a.num → rst a = a.num.natAbs % a.den) ∧ (a.num < 0 → a.num.natAbs % a.den = 0 → rst a = a.num.natAbs % a.den) ∧ (a.num < 0 → a.num.natAbs % a.den ≠ 0 → rst a = a.den - a.num.natAbs % a.den) := by
  unfold rst
  have hd : (0 : Int) < a.den := by have := a.den_pos; omega
  generalize a.den = d at *
  generalize a.num = z at *
  refine ⟨fun h => ?_, fun h h2 => ?_, fun h h2 => ?_⟩
  · obtain ⟨n, rfl⟩ := Int.eq_ofNat_of_zero_le h
    rw [Int.natAbs_natCast, ← Int.natCast_emod, Int.toNat_natCast]
  · rw [h2]
    have e := Nat.div_add_mod z.natAbs d
    rw [h2, Nat.add_zero] at e
    have e2 : z = (d : Int) * -((z.natAbs / d : Nat) : Int) := by
      rw [Int.mul_neg, ← Int.natCast_mul, e]; omega
    rw [e2, Int.mul_emod_right]
    rfl
  · have e := Nat.div_add_mod z.natAbs d
    have hlt := Nat.mod_lt z.natAbs (show 0 < d by omega)
    have e2 : z = (d : Int) * -((z.natAbs / d + 1 : Nat) : Int) + ((d - z.natAbs % d : Nat) : Int) := by
      rw [Int.mul_neg, ← Int.natCast_mul, Nat.mul_add]
      omega
    have e3 : z % (d : Int) = ((d - z.natAbs % d : Nat) : Int) := by
      conv => lhs; rw [e2]
      rw [Int.add_comm, Int.add_mul_emod_self_left, Int.emod_eq_of_lt (by omega) (by omega)]
    rw [e3, Int.toNat_natCast]
theorem rst_lt (a : Rat) : rst a < a.den := by
  unfold rst
  have hd : (0 : Int) < a.den := by have := a.den_pos; omega
  have h1 := Int.emod_nonneg a.num (Int.ne_of_gt hd)
  have h2 := Int.emod_lt_of_pos a.num hd
  omega
theorem rst_eq (a : Rat) : a.num = a.floor * a.den + rst a := by
  have hd : (0 : Int) < a.den := by have := a.den_pos; omega
  have h1 := Int.emod_nonneg a.num (Int.ne_of_gt hd)
  rw [Rat.floor_def]
  unfold rst
  rw [Int.toNat_of_nonneg h1, Int.mul_comm]
  exact (Int.mul_ediv_add_emod a.num a.den).symm
theorem floor_abs (a : Rat) : a.floor.natAbs ≤ a.num.natAbs := by
  obtain ⟨h1, h2, h3⟩ := floor_steps a
  by_cases h : 0 ≤ a.num
  · rw [h1 h, Int.natAbs_natCast]; exact Nat.div_le_self _ _
  · by_cases k : a.num.natAbs % a.den = 0
    · rw [h2 (by omega) k, Int.natAbs_neg, Int.natAbs_natCast]; exact Nat.div_le_self _ _
    · rw [h3 (by omega) k, Int.natAbs_neg, Int.natAbs_natCast]
      have hd : 2 ≤ a.den := by
        rcases Nat.lt_or_ge 1 a.den with g | g
        · exact g
        · have h5 : a.den = 1 := by have := a.den_pos; omega
          rw [h5, Nat.mod_one] at k; exact absurd rfl k
      have hn : 0 < a.num.natAbs := by omega
      have h6 : a.num.natAbs / a.den ≤ a.num.natAbs / 2 := Nat.div_le_div_left hd (by omega)
      omega

set_option maxRecDepth 100000 in
set_option maxHeartbeats 8000000 in
theorem splitQ {w : World} {q : Rat} {v : Value} (hq : Rq w q v) (sq : Sz 1024 q) :
    Calls Tryz.prog 100 #[v] w fun e w' => ∃ x A n c, e = .returned (.tuple #[x, .slice A n c]) ∧ Wh w' q.floor x ∧ Nr w' (rst q) (.slice A n c) ∧ Below w.heap.size w w' := by
  obtain ⟨b, A1, n1, c1, A2, n2, c2, rfl, kn, kd, eb⟩ := hq.get
  have hb0 := below2 w (.cells #[.bool b, .slice A1 n1 c1, .slice A2 n2 c2] 25) (.cells #[.int .i64 0, .slice none 0 0] 102)
  have k2 := (Blk.new w #[.bool b, .slice A1 n1 c1, .slice A2 n2 c2] 25).alloc (.cells #[.int .i64 0, .slice none 0 0] 102)
  have k3 := Blk.new (w.alloc (.cells #[.bool b, .slice A1 n1 c1, .slice A2 n2 c2] 25)) #[.int .i64 0, .slice none 0 0] 102
  simp only [World.size_alloc] at k2 k3
  have l1 : q.num.natAbs < LB ^ NL := lt_NL sq.1 (Nat.le_refl _)
  have l2 : q.den < LB ^ NL := lt_NL sq.2 (Nat.le_refl _)
  have C1 := Lib.hid (divideN (kn.below hb0) (kd.below hb0) l1 l2 q.den_pos)
  have L := Lib.hid (And.intro l1 l2)
  have KD := Lib.hid (kd.below hb0)
  have HB := Lib.hid hb0
  have K2 := Lib.hid k2
  have K3 := Lib.hid k3
  have FS := Lib.hid (floor_steps q)
  have RS := Lib.hid (rst_steps q)
  clear hq sq kn kd hb0 k2 k3 l1 l2
  go_enter Tryz.func100, Tryz.ntmps100
  go_wp2_with fail
  refine C1.out.mono ?_
  rintro _ w1 ⟨x, y, rfl, hx, hy, hb⟩
  obtain ⟨Q, qn, qc, rfl⟩ := hx.shape
  obtain ⟨R, rn, rc, rfl⟩ := hy.shape
  replace KD := Lib.hid (KD.out.below hb)
  replace HB := Lib.hid (HB.out.trans (hb.mono HB.out.size))
  replace K2 := Lib.hid (K2.out.after hb)
  replace K3 := Lib.hid (K3.out.after hb)
  have y2 : w.heap.size < w1.heap.size := K2.out.lt
  have y3 : w.heap.size + 1 < w1.heap.size := K3.out.lt
  have d0 := K2.out.cell (i := 0) rfl
  have d1 := K2.out.cell (i := 1) rfl
  have d2 := K2.out.cell (i := 2) rfl
  have HX := Lib.hid hx
  have HY := Lib.hid hy
  clear hb hx hy C1
  have hway : (b = false ∨ (b = true ∧ rn = 0)) ∨ (b = true ∧ rn ≠ 0) := by
    cases b
    · exact .inl (.inl rfl)
    · by_cases h : rn = 0
      · exact .inl (.inr ⟨rfl, h⟩)
      · exact .inr ⟨rfl, h⟩
  rcases hway with hway | ⟨rfl, hrn⟩
  · have hfl : q.floor = sn b (q.num.natAbs / q.den) ∧ rst q = q.num.natAbs % q.den := by
      rcases hway with rfl | ⟨rfl, h0⟩
      · have h : 0 ≤ q.num := by have := eb.out; simpa using this.symm
        exact ⟨FS.out.1 h, RS.out.1 h⟩
      · have h : q.num < 0 := by have := eb.out; simpa using this.symm
        have hr := HY.out.nz.1 h0
        exact ⟨FS.out.2.1 h hr, RS.out.2.1 h hr⟩
    have HFL := Lib.hid hfl
    have C2 := Lib.hid (signedN b HX.out)
    clear hfl
    rcases hway with rfl | ⟨rfl, rfl⟩
    all_goals
      go_wp2_with fail
      refine C2.out.mono ?_
      rintro _ w2 ⟨x, rfl, hall, hb⟩
      have hx2 := hall w2 (HX.out.below hb)
      obtain ⟨s, B, m, d, rfl, _, _, _⟩ := hx2.get
      replace HB := Lib.hid (HB.out.trans (hb.mono HB.out.size))
      replace K3 := Lib.hid (K3.out.after hb)
      replace HY := Lib.hid (HY.out.below hb)
      have z3 : w.heap.size + 1 < w2.heap.size := K3.out.lt
      have e0 := K3.out.cell (i := 0) rfl
      have e1 := K3.out.cell (i := 1) rfl
      have ff := K3.out.free
      have HW := Lib.hid hx2
      clear hb hall hx2 C2 d0 d1 d2
      go_wp2_with fail
      refine bodyPost_ret (results_row_tmp (p := 2) (ty := 102) rfl _ _ (w.heap.size + 1) 102 _ _ _ rfl K3.out.set.set Tryz.underlying102 rfl (by kernel_rfl)) rfl ?_
      exact ⟨_, _, _, _, rfl, (HW.out.put2 K3.out (hnoW _ _ _ _)).cast HFL.out.1.symm, by rw [HFL.out.2]; exact HY.out.put2 K3.out (hnoW _ _ _ _), (HB.out.setCell (by simp) _).setCell (by simp) _⟩
  · have h : q.num < 0 := by have := eb.out; simpa using this.symm
    have hr : q.num.natAbs % q.den ≠ 0 := fun e => hrn (HY.out.nz.2 e)
    have hfl : q.floor = sn true (q.num.natAbs / q.den + 1) ∧ rst q = q.den - q.num.natAbs % q.den := ⟨FS.out.2.2 h hr, RS.out.2.2 h hr⟩
    have hle : q.num.natAbs / q.den + 1 ≤ q.num.natAbs := by
      have := floor_abs q
      rw [hfl.1, sn_abs] at this
      exact this
    have lq : q.num.natAbs / q.den + 1 < LB ^ NL := Nat.lt_of_le_of_lt hle L.out.1
    have lq0 : q.num.natAbs / q.den < LB ^ NL := Nat.lt_trans (Nat.lt_succ_self _) lq
    have lr : q.num.natAbs % q.den < LB ^ NL := Nat.lt_trans (Nat.mod_lt _ q.den_pos) L.out.2
    have hrl : q.num.natAbs % q.den ≤ q.den := Nat.le_of_lt (Nat.mod_lt _ q.den_pos)
    have HFL := Lib.hid hfl
    have LQ := Lib.hid (And.intro lq (And.intro lq0 (And.intro lr hrl)))
    have hgt : (0 : Int) < (rn : Int) := by omega
    clear h hr hfl hle lq lq0 lr hrl hrn
    go_wp2_with fail
    refine (oneN w1).mono ?_
    rintro _ w2 ⟨x, rfl, hx, hb⟩
    have C2 := Lib.hid (addN (HX.out.below hb) hx LQ.out.2.1 one_lt.out LQ.out.1)
    replace KD := Lib.hid (KD.out.below hb)
    replace HY := Lib.hid (HY.out.below hb)
    replace HB := Lib.hid (HB.out.trans (hb.mono HB.out.size))
    replace K2 := Lib.hid (K2.out.after hb)
    replace K3 := Lib.hid (K3.out.after hb)
    clear hb hx d0 d1 d2
    go_wp2_with fail
    refine C2.out.mono ?_
    rintro _ w3 ⟨x, rfl, hx, hb⟩
    obtain ⟨B, m, d, rfl⟩ := hx.shape
    have C3 := Lib.hid (subN (KD.out.below hb) (HY.out.below hb) L.out.2 LQ.out.2.2.1 LQ.out.2.2.2)
    replace HB := Lib.hid (HB.out.trans (hb.mono HB.out.size))
    replace K2 := Lib.hid (K2.out.after hb)
    replace K3 := Lib.hid (K3.out.after hb)
    have HX3 := Lib.hid hx
    have z2 : w.heap.size < w3.heap.size := K2.out.lt
    have z3 : w.heap.size + 1 < w3.heap.size := K3.out.lt
    have d0 := K2.out.cell (i := 0) rfl
    have d1 := K2.out.cell (i := 1) rfl
    have d2 := K2.out.cell (i := 2) rfl
    clear hb hx C2 HX
    go_wp2_with fail
    refine C3.out.mono ?_
    rintro _ w4 ⟨x, rfl, hx, hb⟩
    obtain ⟨B2, m2, e2, rfl⟩ := hx.shape
    replace HX3 := Lib.hid (HX3.out.below hb)
    replace HB := Lib.hid (HB.out.trans (hb.mono HB.out.size))
    replace K2 := Lib.hid (K2.out.after hb)
    replace K3 := Lib.hid (K3.out.after hb)
    have HY4 := Lib.hid hx
    clear z2 z3 d0 d1 d2
    have z2 : w.heap.size < w4.heap.size := K2.out.lt
    have z3 : w.heap.size + 1 < w4.heap.size := K3.out.lt
    have d0 := K2.out.cell (i := 0) rfl
    have d1 := K2.out.cell (i := 1) rfl
    have d2 := K2.out.cell (i := 2) rfl
    have C4 := Lib.hid (signedN true HX3.out)
    clear hb hx C3
    go_wp2_with fail
    refine C4.out.mono ?_
    rintro _ w5 ⟨x, rfl, hall, hb⟩
    have hx2 := hall w5 (HX3.out.below hb)
    obtain ⟨s, B3, m3, d3, rfl, _, _, _⟩ := hx2.get
    replace HB := Lib.hid (HB.out.trans (hb.mono HB.out.size))
    replace K3 := Lib.hid (K3.out.after hb)
    replace HY4 := Lib.hid (HY4.out.below hb)
    have u3 : w.heap.size + 1 < w5.heap.size := K3.out.lt
    have e0 := K3.out.cell (i := 0) rfl
    have e1 := K3.out.cell (i := 1) rfl
    have ff := K3.out.free
    have HW := Lib.hid hx2
    clear hb hall hx2 C4 d0 d1 d2 z2 z3
    go_wp2_with fail
    refine bodyPost_ret (results_row_tmp (p := 2) (ty := 102) rfl _ _ (w.heap.size + 1) 102 _ _ _ rfl K3.out.set.set Tryz.underlying102 rfl (by kernel_rfl)) rfl ?_
    exact ⟨_, _, _, _, rfl, (HW.out.put2 K3.out (hnoW _ _ _ _)).cast HFL.out.1.symm, by rw [HFL.out.2]; exact HY4.out.put2 K3.out (hnoW _ _ _ _), (HB.out.setCell (by simp) _).setCell (by simp) _⟩

set_option maxRecDepth 100000 in
set_option maxHeartbeats 8000000 in
theorem floorQ {w : World} {q : Rat} {v : Value} (hq : Rq w q v) (sq : Sz 1024 q) :
    Calls Tryz.prog 99 #[v] w fun e w' => ∃ x, e = .returned x ∧ Rq w' (q.floor : Rat) x ∧ Below w.heap.size w w' := by
  obtain ⟨b, A1, n1, c1, A2, n2, c2, rfl, _, _, _⟩ := hq.get
  have hb0 := below2 w (.cells #[.bool b, .slice A1 n1 c1, .slice A2 n2 c2] 25) (.cells #[.bool false, .slice none 0 0, .slice none 0 0] 25)
  have k3 := Blk.new (w.alloc (.cells #[.bool b, .slice A1 n1 c1, .slice A2 n2 c2] 25)) #[.bool false, .slice none 0 0, .slice none 0 0] 25
  simp only [World.size_alloc] at k3
  have C1 := Lib.hid (splitQ (hq.below hb0) sq)
  have HB := Lib.hid hb0
  have K3 := Lib.hid k3
  clear hq sq hb0 k3
  go_enter Tryz.func99, Tryz.ntmps99
  go_wp2_with fail
  refine C1.out.mono ?_
  rintro _ w1 ⟨x, A, n, c, rfl, hx, _, hb⟩
  obtain ⟨s, B, m, d, rfl, hxn, es, hs⟩ := hx.get
  have hz1 : w.heap.size + 1 < w1.heap.size := (K3.out.after hb).lt
  have hbA := below1 w1 (.cells #[.int .i64 s, .slice B m d] 102)
  have KW := Lib.hid (Blk.new w1 #[.int .i64 s, .slice B m d] 102)
  replace K3 := Lib.hid ((K3.out.after hb).alloc (.cells #[.int .i64 s, .slice B m d] 102))
  replace HB := Lib.hid ((HB.out.trans (hb.mono HB.out.size)).alloc (HB.out.trans (hb.mono HB.out.size)).size (.cells #[.int .i64 s, .slice B m d] 102))
  have HX := Lib.hid (hxn.below hbA)
  clear hb hx hxn C1 hbA
  go_upto_region 2 with fail
  generalize hP : w1.heap.size = P at *
  clear hP
  generalize w1.alloc (.cells #[.int .i64 s, .slice B m d] 102) = w2 at *
  have KEEP : Hid (∀ W, Below w2.heap.size w2 W → W.cell? ⟨P, 0, none⟩ = some (.int .i64 s) ∧ W.cell? ⟨P, 1, none⟩ = some (.slice B m d)) := Lib.hid fun W h1 => ⟨(KW.out.after h1).cell rfl, (KW.out.after h1).cell rfl⟩
  have hdrew : Below w2.heap.size w2 w2.drew := (Below.refl _ _).drew
  have z3 : w.heap.size + 1 < w2.heap.size := K3.out.lt
  have hne : w.heap.size + 1 ≠ P := by omega
  clear hz1
  go_region_held3 (fun W => W.cell? ⟨P, 0, none⟩ = some (.int .i64 s) ∧ W.cell? ⟨P, 1, none⟩ = some (.slice B m d))
    (first | with_reducible exact KEEP.out w2.drew hdrew | with_reducible exact KEEP.out wa hka | with_reducible exact KEEP.out wb hkb | go_keep)
    (first
      | (go_at_call 77; (with_reducible refine (oneN w2.drew).mono ?_); rintro _ wa ⟨x1, rfl, hv1, hb1⟩; obtain ⟨B1, m1, d1, rfl⟩ := hv1.shape; have hka := hdrew.trans (hb1.mono hdrew.size); have HV := Lib.hid hv1; clear hv1)
      | (go_at_call 106; (with_reducible refine (numberX s B B1 m d m1 d1 wa).mono ?_); rintro _ wb ⟨rfl, hb2⟩; have hkb := hka.trans (hb2.mono hka.size); have hzb : w.heap.size + 1 < wb.heap.size := Nat.lt_of_lt_of_le z3 hkb.size; have e0 := (K3.out.after hkb).cell (i := 0) rfl; have e1 := (K3.out.after hkb).cell (i := 1) rfl; have e2 := (K3.out.after hkb).cell (i := 2) rfl; have ff := (K3.out.after hkb).free))
  have K3b := K3.out.after hkb
  have hx := HX.out.below hkb
  have hv := HV.out.below hb2
  have hbf := HB.out.trans (hkb.mono HB.out.size)
  go_wp2_with fail
  refine bodyPost_ret (results_cell_row (p := 2) (ty := 25) rfl _ _ (w.heap.size + 1) 25 _ _ _ rfl K3b.set.set.set Tryz.underlying25 rfl (by kernel_rfl)) rfl ?_
  refine ⟨_, rfl, Rq.mk ?_ rfl rfl (hx.put3 K3b (hnoR _ _ _ _ _ _ _)) (hv.put3 K3b (hnoR _ _ _ _ _ _ _)), ((hbf.setCell (by simp) _).setCell (by simp) _).setCell (by simp) _⟩
  rw [es.out, sg_0]
  rfl
end Go.Proofs.YtbjaolmlnkliiaaGreatDoor

/- The contracts of Floor and Ceil. Conditions as premises: the number reads, and is short enough, or is not valid. -/
namespace Go.Proofs.YtbjaolmlnkliiaaGreatDoor
open Go.RowKit Go.Shelf

theorem Sz.neg_iff {k : Nat} {q : Rat} : Sz k (-q) ↔ Sz k q := ⟨fun h => by have := h.neg; rwa [Rat.neg_neg] at this, Sz.neg⟩
theorem Sz.floor {k : Nat} {q : Rat} (h : Sz k q) (hk : 1 ≤ k) : Sz k (q.floor : Rat) :=
  ⟨Nat.lt_of_le_of_lt (floor_abs q) h.1, by show 1 < LB ^ k; exact Nat.one_lt_pow (by omega) (by rw [LB_eq]; omega)⟩

set_option maxRecDepth 100000 in
set_option maxHeartbeats 4000000 in
theorem ratFloor_bad {w : World} {b : Bool} {A1 A2 : Option Addr} {n1 c1 n2 c2 : Nat} {f1 f2 : Nat → Nat} (h : Raw w b A1 n1 c1 f1 A2 n2 c2 f2) (he : chkR b n1 f1 n2 f2 ≠ 0) :
    Calls Tryz.prog 25 #[.agg #[.bool b, .slice A1 n1 c1, .slice A2 n2 c2]] w fun e w' => e = .returned (.tuple #[zeroRat, .int .i64 (chkR b n1 f1 n2 f2)]) ∧ Below w.heap.size w w' := by
  have hb0 := below2 w (.cells #[.bool b, .slice A1 n1 c1, .slice A2 n2 c2] 25) (.cells #[.bool false, .slice none 0 0, .slice none 0 0] 25)
  have k4 := Blk.new (w.alloc (.cells #[.bool b, .slice A1 n1 c1, .slice A2 n2 c2] 25)) #[.bool false, .slice none 0 0, .slice none 0 0] 25
  simp only [World.size_alloc] at k4
  have K4 := Lib.hid k4
  have C1 := Lib.hid (ratCheck_any (h.below hb0))
  have x1 : (chkR b n1 f1 n2 f2 != 0) = true := by rw [bne_iff_ne]; exact he
  have x2 : (chkR b n1 f1 n2 f2 == 0) = false := by rw [beq_eq_false_iff_ne]; exact he
  have HB := Lib.hid hb0
  generalize chkR b n1 f1 n2 f2 = er at *
  clear h hb0 k4 he
  go_enter Tryz.func25, Tryz.ntmps25
  go_wp2_with fail
  refine C1.out.mono ?_
  rintro _ w1 ⟨rfl, hb⟩
  have k4 := K4.out.after hb
  have d0 := k4.cell (i := 0) rfl
  have d1 := k4.cell (i := 1) rfl
  have d2 := k4.cell (i := 2) rfl
  have ff := k4.free
  have hz : w.heap.size + 1 < w1.heap.size := k4.lt
  have K5 := Lib.hid k4
  replace HB := Lib.hid (HB.out.trans (hb.mono HB.out.size))
  clear hb k4 K4 C1
  go_wp2_with fail
  refine bodyPost_ret (results_row_tmp (p := 2) (ty := 25) rfl _ _ (w.heap.size + 1) 25 _ _ _ rfl K5.out.set.set.set Tryz.underlying25 rfl (by kernel_rfl)) rfl ?_
  exact ⟨rfl, ((HB.out.setCell (by simp) _).setCell (by simp) _).setCell (by simp) _⟩

set_option maxRecDepth 100000 in
set_option maxHeartbeats 4000000 in
theorem ratFloorQ {w : World} {q : Rat} {v : Value} (hq : Rq w q v) (sq : Sz 1024 q) :
    Calls Tryz.prog 25 #[v] w fun e w' => ∃ x, e = .returned (.tuple #[x, .int .i64 0]) ∧ Rq w' (q.floor : Rat) x ∧ Below w.heap.size w w' := by
  obtain ⟨b, A1, n1, c1, f1, A2, n2, c2, f2, rfl, hr, h0⟩ := hq.raw (lt_NL sq.1 (by omega)) (lt_NL sq.2 (by omega))
  have hbb := below2 w (.cells #[.bool b, .slice A1 n1 c1, .slice A2 n2 c2] 25) (.cells #[.bool false, .slice none 0 0, .slice none 0 0] 25)
  have k2 := (Blk.new w #[.bool b, .slice A1 n1 c1, .slice A2 n2 c2] 25).alloc (.cells #[.bool false, .slice none 0 0, .slice none 0 0] 25)
  have k4 := Blk.new (w.alloc (.cells #[.bool b, .slice A1 n1 c1, .slice A2 n2 c2] 25)) #[.bool false, .slice none 0 0, .slice none 0 0] 25
  simp only [World.size_alloc] at k2 k4
  have K2 := Lib.hid k2
  have K4 := Lib.hid k4
  have c1' := ratCheck_any (hr.below hbb)
  rw [h0] at c1'
  have C1 := Lib.hid c1'
  have HQ := Lib.hid (hq.below hbb)
  have HB := Lib.hid hbb
  have SQ := Lib.hid sq
  clear hq hr h0 c1' k2 k4 hbb sq
  go_enter Tryz.func25, Tryz.ntmps25
  go_wp2_with fail
  refine C1.out.mono ?_
  rintro _ w1 ⟨rfl, hb⟩
  have k2 := K2.out.after hb
  have k4 := K4.out.after hb
  have y2 : w.heap.size < w1.heap.size := k2.lt
  have y4 : w.heap.size + 1 < w1.heap.size := k4.lt
  have d20 := k2.cell (i := 0) rfl
  have d21 := k2.cell (i := 1) rfl
  have d22 := k2.cell (i := 2) rfl
  replace HQ := Lib.hid (HQ.out.below hb)
  replace HB := Lib.hid (HB.out.trans (hb.mono HB.out.size))
  replace K4 := Lib.hid k4
  clear hb k2 k4 K2 C1
  go_wp2_with fail
  refine (floorQ HQ.out SQ.out).mono ?_
  rintro _ w2 ⟨t, rfl, ht, hb⟩
  obtain ⟨b3, B1, m1, e1, B2, m2, e2, rfl, _, _, _⟩ := ht.get
  have k4 := K4.out.after hb
  have d40 := k4.cell (i := 0) rfl
  have d41 := k4.cell (i := 1) rfl
  have d42 := k4.cell (i := 2) rfl
  have ff := k4.free
  have z4 : w.heap.size + 1 < w2.heap.size := k4.lt
  have HR := Lib.hid ht
  have K6 := Lib.hid k4
  replace HB := Lib.hid (HB.out.trans (hb.mono HB.out.size))
  clear hb ht k4 d20 d21 d22
  go_wp2_with fail
  refine bodyPost_ret (results_row_tmp (p := 2) (ty := 25) rfl _ _ (w.heap.size + 1) 25 _ _ _ rfl K6.out.set.set.set Tryz.underlying25 rfl (by kernel_rfl)) rfl ?_
  obtain ⟨g1, g2, g3⟩ := HR.out.inv
  exact ⟨_, rfl, Rq.mk g3 rfl rfl (g1.put3 K6.out (hnoR _ _ _ _ _ _ _)) (g2.put3 K6.out (hnoR _ _ _ _ _ _ _)), ((HB.out.setCell (by simp) _).setCell (by simp) _).setCell (by simp) _⟩

set_option maxRecDepth 100000 in
set_option maxHeartbeats 4000000 in
theorem ratCeil_bad {w : World} {b : Bool} {A1 A2 : Option Addr} {n1 c1 n2 c2 : Nat} {f1 f2 : Nat → Nat} (h : Raw w b A1 n1 c1 f1 A2 n2 c2 f2) (he : chkR b n1 f1 n2 f2 ≠ 0) :
    Calls Tryz.prog 26 #[.agg #[.bool b, .slice A1 n1 c1, .slice A2 n2 c2]] w fun e w' => e = .returned (.tuple #[zeroRat, .int .i64 (chkR b n1 f1 n2 f2)]) ∧ Below w.heap.size w w' := by
  have hb0 := below2 w (.cells #[.bool b, .slice A1 n1 c1, .slice A2 n2 c2] 25) (.cells #[.bool false, .slice none 0 0, .slice none 0 0] 25)
  have k4 := Blk.new (w.alloc (.cells #[.bool b, .slice A1 n1 c1, .slice A2 n2 c2] 25)) #[.bool false, .slice none 0 0, .slice none 0 0] 25
  simp only [World.size_alloc] at k4
  have K4 := Lib.hid k4
  have C1 := Lib.hid (ratCheck_any (h.below hb0))
  have x1 : (chkR b n1 f1 n2 f2 != 0) = true := by rw [bne_iff_ne]; exact he
  have x2 : (chkR b n1 f1 n2 f2 == 0) = false := by rw [beq_eq_false_iff_ne]; exact he
  have HB := Lib.hid hb0
  generalize chkR b n1 f1 n2 f2 = er at *
  clear h hb0 k4 he
  go_enter Tryz.func26, Tryz.ntmps26
  go_wp2_with fail
  refine C1.out.mono ?_
  rintro _ w1 ⟨rfl, hb⟩
  have k4 := K4.out.after hb
  have d0 := k4.cell (i := 0) rfl
  have d1 := k4.cell (i := 1) rfl
  have d2 := k4.cell (i := 2) rfl
  have ff := k4.free
  have hz : w.heap.size + 1 < w1.heap.size := k4.lt
  have K5 := Lib.hid k4
  replace HB := Lib.hid (HB.out.trans (hb.mono HB.out.size))
  clear hb k4 K4 C1
  go_wp2_with fail
  refine bodyPost_ret (results_row_tmp (p := 2) (ty := 25) rfl _ _ (w.heap.size + 1) 25 _ _ _ rfl K5.out.set.set.set Tryz.underlying25 rfl (by kernel_rfl)) rfl ?_
  exact ⟨rfl, ((HB.out.setCell (by simp) _).setCell (by simp) _).setCell (by simp) _⟩

set_option maxRecDepth 100000 in
set_option maxHeartbeats 4000000 in
theorem ratCeilQ {w : World} {q : Rat} {v : Value} (hq : Rq w q v) (sq : Sz 1024 q) :
    Calls Tryz.prog 26 #[v] w fun e w' => ∃ x, e = .returned (.tuple #[x, .int .i64 0]) ∧ Rq w' (q.ceil : Rat) x ∧ Below w.heap.size w w' := by
  obtain ⟨b, A1, n1, c1, f1, A2, n2, c2, f2, rfl, hr, h0⟩ := hq.raw (lt_NL sq.1 (by omega)) (lt_NL sq.2 (by omega))
  have hbb := below2 w (.cells #[.bool b, .slice A1 n1 c1, .slice A2 n2 c2] 25) (.cells #[.bool false, .slice none 0 0, .slice none 0 0] 25)
  have k2 := (Blk.new w #[.bool b, .slice A1 n1 c1, .slice A2 n2 c2] 25).alloc (.cells #[.bool false, .slice none 0 0, .slice none 0 0] 25)
  have k4 := Blk.new (w.alloc (.cells #[.bool b, .slice A1 n1 c1, .slice A2 n2 c2] 25)) #[.bool false, .slice none 0 0, .slice none 0 0] 25
  simp only [World.size_alloc] at k2 k4
  have K2 := Lib.hid k2
  have K4 := Lib.hid k4
  have c1' := ratCheck_any (hr.below hbb)
  rw [h0] at c1'
  have C1 := Lib.hid c1'
  have HQ := Lib.hid (hq.below hbb)
  have HB := Lib.hid hbb
  have SQ := Lib.hid sq
  clear hq hr h0 c1' k2 k4 hbb sq
  go_enter Tryz.func26, Tryz.ntmps26
  go_wp2_with fail
  refine C1.out.mono ?_
  rintro _ w1 ⟨rfl, hb⟩
  have k2 := K2.out.after hb
  have k4 := K4.out.after hb
  have y2 : w.heap.size < w1.heap.size := k2.lt
  have y4 : w.heap.size + 1 < w1.heap.size := k4.lt
  have d20 := k2.cell (i := 0) rfl
  have d21 := k2.cell (i := 1) rfl
  have d22 := k2.cell (i := 2) rfl
  replace HQ := Lib.hid (HQ.out.below hb)
  replace HB := Lib.hid (HB.out.trans (hb.mono HB.out.size))
  replace K4 := Lib.hid k4
  clear hb k2 k4 K2 C1
  go_wp2_with fail
  refine (negatedQ HQ.out).mono ?_
  rintro _ w5 ⟨t, rfl, hall, hb⟩
  have HN := Lib.hid (hall w5 (HQ.out.below hb))
  replace HB := Lib.hid (HB.out.trans (hb.mono HB.out.size))
  replace K4 := Lib.hid (K4.out.after hb)
  clear hall hb
  go_wp2_with fail
  refine (floorQ HN.out SQ.out.neg).mono ?_
  rintro _ w6 ⟨t, rfl, ht, hb⟩
  have HF := Lib.hid ht
  replace HB := Lib.hid (HB.out.trans (hb.mono HB.out.size))
  replace K4 := Lib.hid (K4.out.after hb)
  clear ht hb
  go_wp2_with fail
  refine (negatedQ HF.out).mono ?_
  rintro _ w2 ⟨t, rfl, hall, hb⟩
  have ht := (hall w2 (HF.out.below hb)).cast (show -((-q).floor : Rat) = (q.ceil : Rat) by rw [Rat.ceil_eq_neg_floor_neg, Rat.intCast_neg])
  obtain ⟨b3, B1, m1, e1, B2, m2, e2, rfl, _, _, _⟩ := ht.get
  have k4 := K4.out.after hb
  have d40 := k4.cell (i := 0) rfl
  have d41 := k4.cell (i := 1) rfl
  have d42 := k4.cell (i := 2) rfl
  have ff := k4.free
  have z4 : w.heap.size + 1 < w2.heap.size := k4.lt
  have HR := Lib.hid ht
  have K6 := Lib.hid k4
  replace HB := Lib.hid (HB.out.trans (hb.mono HB.out.size))
  clear hb ht k4 d20 d21 d22
  go_wp2_with fail
  refine bodyPost_ret (results_row_tmp (p := 2) (ty := 25) rfl _ _ (w.heap.size + 1) 25 _ _ _ rfl K6.out.set.set.set Tryz.underlying25 rfl (by kernel_rfl)) rfl ?_
  obtain ⟨g1, g2, g3⟩ := HR.out.inv
  exact ⟨_, rfl, Rq.mk g3 rfl rfl (g1.put3 K6.out (hnoR _ _ _ _ _ _ _)) (g2.put3 K6.out (hnoR _ _ _ _ _ _ _)), ((HB.out.setCell (by simp) _).setCell (by simp) _).setCell (by simp) _⟩
end Go.Proofs.YtbjaolmlnkliiaaGreatDoor

/- The contracts of magnitude, toInt and share. Conditions as premises: the numbers read, and are short enough. -/
namespace Go.Proofs.YtbjaolmlnkliiaaGreatDoor
open Go.RowKit Go.Shelf
attribute [local go_sem ↓] Go.wp_at_zero Go.wp_at_succ

theorem nl_int {N : Nat} (h : N < 18446744073709551616) : N < LB ^ NL := by
  have h1 : LB ^ 3 ≤ LB ^ NL := pow_le_of (by rw [NL_eq]; omega)
  have h2 : LB ^ 3 = 1000000000000000000000000000 := by rw [LB_eq]
  omega

set_option maxHeartbeats 1600000 in
theorem magnitude_pos (x : Int) (h0 : 0 ≤ x) (h1 : x ≤ 9223372036854775807) (w : World) :
    Calls Tryz.prog 92 #[.int .i64 x] w fun e w' => ∃ v, e = .returned v ∧ Nr w' x.natAbs v ∧ Below w.heap.size w w' := by
  have C := Lib.hid (natOf_pos x h0 h1 w)
  go_enter Tryz.func92, Tryz.ntmps92
  go_wp2_with fail
  refine C.out.mono ?_
  rintro _ w' ⟨v, rfl, hm⟩
  have HM := Lib.hid hm.nr
  clear hm
  go_wp2_with fail
  go_ret
  exact ⟨v, rfl, HM.out.1.cast (by omega), HM.out.2⟩

set_option maxHeartbeats 1600000 in
theorem magnitude_neg (x : Int) (h0 : x < 0) (h1 : -9223372036854775808 ≤ x) (w : World) :
    Calls Tryz.prog 92 #[.int .i64 x] w fun e w' => ∃ v, e = .returned v ∧ Nr w' x.natAbs v ∧ Below w.heap.size w w' := by
  have C := Lib.hid (natOf_pos (-(x + 1)) (by omega) (by omega) w)
  have hN : (-(x + 1)).toNat + 1 = x.natAbs := by omega
  have L := Lib.hid (show (-(x + 1)).toNat < LB ^ NL ∧ (-(x + 1)).toNat + 1 < LB ^ NL from ⟨nl_int (by omega), nl_int (by omega)⟩)
  have HN := Lib.hid hN
  clear hN
  go_enter Tryz.func92, Tryz.ntmps92
  go_wp2_with fail
  refine C.out.mono ?_
  rintro _ w1 ⟨v, rfl, hm⟩
  have HM := Lib.hid hm.nr
  clear hm
  go_wp2_with fail
  refine (oneN w1).mono ?_
  rintro _ w2 ⟨y, rfl, hy, hb⟩
  have C2 := Lib.hid (addN (HM.out.1.below hb) hy L.out.1 one_lt.out L.out.2)
  have HB := Lib.hid (HM.out.2.trans (hb.mono HM.out.2.size))
  clear hy hb
  go_wp2_with fail
  refine C2.out.mono ?_
  rintro _ w3 ⟨z, rfl, hz, hb⟩
  have HZ := Lib.hid hz
  replace HB := Lib.hid (HB.out.trans (hb.mono HB.out.size))
  clear hz hb
  go_wp2_with fail
  go_ret
  exact ⟨z, rfl, HZ.out.cast HN.out, HB.out⟩

theorem magnitudeN (x : Int) (h0 : -9223372036854775808 ≤ x) (h1 : x ≤ 9223372036854775807) (w : World) :
    Calls Tryz.prog 92 #[.int .i64 x] w fun e w' => ∃ v, e = .returned v ∧ Nr w' x.natAbs v ∧ Below w.heap.size w w' := by
  by_cases h : 0 ≤ x
  · exact magnitude_pos x h h1 w
  · exact magnitude_neg x (by omega) h0 w

/-- an integer as an int, or the error -/
def intW (z : Int) : Value := if -9223372036854775808 ≤ z ∧ z ≤ 9223372036854775807 then .tuple #[.int .i64 z, .int .i64 0] else .tuple #[.int .i64 0, .int .i64 5]

theorem natIntN {w : World} {N : Nat} {v : Value} (h : Nr w N v) (hN : N < LB ^ NL) :
    Calls Tryz.prog 177 #[v] w fun e w' => e = .returned (if maxI < N then .tuple #[.int .i64 0, .int .i64 5] else .tuple #[.int .i64 (iv N), .int .i64 0]) ∧ Below w.heap.size w w' := by
  obtain ⟨A, n, c, f, rfl, hr, hd⟩ := h
  refine (natInt_any A n c f w hr).mono ?_
  rintro e w' ⟨rfl, hb⟩
  refine ⟨?_, hb⟩
  unfold intV
  rw [if_pos (Nr.chk hd hN), hd.eq]

set_option maxRecDepth 100000 in
set_option maxHeartbeats 4000000 in
theorem toIntN {w : World} {z : Int} {v : Value} (h : Wh w z v) (hz : z.natAbs < LB ^ NL) :
    Calls Tryz.prog 104 #[v] w fun e w' => e = .returned (intW z) ∧ Below w.heap.size w w' := by
  obtain ⟨s, A, n, c, rfl, kn, es, hs⟩ := h.get
  have hb0 := below1 w (.cells #[.int .i64 s, .slice A n c] 102)
  have K := Lib.hid (Blk.new w #[.int .i64 s, .slice A n c] 102)
  have KN := Lib.hid (kn.below hb0)
  have HB := Lib.hid hb0
  by_cases h0 : s = 0
  · have hneg : z < 0 := by
      rcases sg_cases z with ⟨h1, h2⟩ | ⟨h1, h2⟩ | ⟨h1, h2⟩
      · exact h1
      · rw [← es.out] at h2; omega
      · rw [← es.out] at h2; omega
    have hle : 1 ≤ z.natAbs := by omega
    have hl1 : z.natAbs - 1 < LB ^ NL := Nat.lt_of_le_of_lt (Nat.sub_le _ _) hz
    have L := Lib.hid (And.intro hz (And.intro hle (And.intro hl1 hneg)))
    subst h0
    clear h kn hz hle hl1 hneg hs hb0
    go_enter Tryz.func104, Tryz.ntmps104
    go_upto_region 3 with fail
    generalize w.alloc (.cells #[.int .i64 0, .slice A n c] 102) = w1 at *
    have KEEP : Hid (∀ W, Below w1.heap.size w1 W → W.cell? ⟨w.heap.size, 1, none⟩ = some (.slice A n c)) := Lib.hid fun W h1 => (K.out.after h1).cell rfl
    have hdrew : Below w1.heap.size w1 w1.drew := (Below.refl _ _).drew
    go_region_held3 (fun W => W.cell? ⟨w.heap.size, 1, none⟩ = some (.slice A n c))
      (first | with_reducible exact KEEP.out w1.drew hdrew | with_reducible exact KEEP.out wa hka | with_reducible exact KEEP.out wb hkb)
      (first
        | (go_at_call 77; (with_reducible refine (oneN w1.drew).mono ?_); rintro _ wa ⟨x1, rfl, hv1, hb1⟩; have hka := hdrew.trans (hb1.mono hdrew.size); have C2 := Lib.hid (subN (KN.out.below hka) hv1 L.out.1 one_lt.out L.out.2.1); clear hv1)
        | (go_at_call 176; (with_reducible refine C2.out.mono ?_); rintro _ wb ⟨x2, rfl, hv2, hb2⟩; have hkb := hka.trans (hb2.mono hka.size); have HV := Lib.hid hv2; clear hv2))
    have C3 := Lib.hid (natIntN HV.out L.out.2.2.1)
    replace HB := Lib.hid (HB.out.trans (hkb.mono HB.out.size))
    clear hkb hka hb1 hb2 hdrew KEEP C2
    by_cases hm : maxI < z.natAbs - 1
    · have hw : intW z = .tuple #[.int .i64 0, .int .i64 5] := by
        unfold intW; rw [if_neg]; rw [maxI_eq] at hm; omega
      rw [if_pos hm] at C3
      have HW := Lib.hid hw
      clear hm hw
      go_wp2_with fail
      refine C3.out.mono ?_
      rintro _ w2 ⟨rfl, hb⟩
      replace HB := Lib.hid (HB.out.trans (hb.mono HB.out.size))
      clear hb
      go_wp2_with fail
      go_ret2
      exact ⟨by rw [HW.out]; rfl, HB.out⟩
    · have hw : intW z = .tuple #[.int .i64 z, .int .i64 0] := by
        have h5 := L.out.2.2.2
        unfold intW; rw [if_pos]; rw [maxI_eq] at hm; omega
      rw [if_neg hm] at C3
      have HW := Lib.hid hw
      have hy : -iv (z.natAbs - 1) - 1 = z := by
        have h5 := L.out.2.2.2
        rw [iv_eq]; omega
      have hy0 := iv_nonneg (z.natAbs - 1)
      have hy1 : iv (z.natAbs - 1) ≤ 9223372036854775807 := by rw [iv_eq]; rw [maxI_eq] at hm; omega
      generalize iv (z.natAbs - 1) = y at *
      have HY := Lib.hid hy
      clear hm hw hy
      go_wp2_with fail
      refine C3.out.mono ?_
      rintro _ w2 ⟨rfl, hb⟩
      replace HB := Lib.hid (HB.out.trans (hb.mono HB.out.size))
      clear hb
      go_wp2_with fail
      go_ret2
      exact ⟨by rw [HW.out, ← HY.out]; rfl, HB.out⟩
  · have hnn : 0 ≤ z := by
      rcases sg_cases z with ⟨h1, h2⟩ | ⟨h1, h2⟩ | ⟨h1, h2⟩
      · rw [← es.out] at h2; exact absurd h2 h0
      · omega
      · omega
    have h1 : (s != 0) = true := by rw [bne_iff_ne]; exact h0
    have h2 : (s == 0) = false := by rw [beq_eq_false_iff_ne]; exact h0
    have C3 := Lib.hid (natIntN KN.out hz)
    have hw : (if maxI < z.natAbs then (.tuple #[.int .i64 0, .int .i64 5] : Value) else .tuple #[.int .i64 (iv z.natAbs), .int .i64 0]) = intW z := by
      unfold intW
      rw [maxI_eq]
      by_cases hh : 9223372036854775807 < z.natAbs
      · rw [if_pos hh, if_neg (by omega)]
      · rw [if_neg hh, if_pos (by omega), iv_eq, Int.natAbs_of_nonneg hnn]
    rw [hw] at C3
    have hwt : ∃ p q, intW z = .tuple #[.int .i64 p, .int .i64 q] := by
      unfold intW; split <;> exact ⟨_, _, rfl⟩
    obtain ⟨p, q, hpq⟩ := hwt
    rw [hpq] at C3
    have HW := Lib.hid hpq
    clear h kn hz hnn hw hb0 hs hpq h0
    go_enter Tryz.func104, Tryz.ntmps104
    go_wp2_with fail
    refine C3.out.mono ?_
    rintro _ w2 ⟨rfl, hb⟩
    replace HB := Lib.hid (HB.out.trans (hb.mono HB.out.size))
    clear hb
    go_wp2_with fail
    go_ret2
    exact ⟨by rw [HW.out]; rfl, HB.out⟩

set_option maxRecDepth 100000 in
set_option maxHeartbeats 4000000 in
/-- the greatest natural number that is at most n/d times m, where the product is short enough -/
theorem shareN {w : World} {n d m : Nat} {v u : Value} (h : Fr w n d v) (k : Nr w m u) (hd : 0 < d) (l1 : n < LB ^ NL) (l2 : d < LB ^ NL) (l3 : m < LB ^ NL) (l4 : n * m < LB ^ NL) :
    Calls Tryz.prog 103 #[v, u] w fun e w' => ∃ x, e = .returned x ∧ Nr w' (n * m / d) x ∧ Below w.heap.size w w' := by
  obtain ⟨A1, n1, c1, A2, n2, c2, rfl, kn, kd⟩ := h
  obtain ⟨A3, n3, c3, rfl⟩ := k.shape
  have hb0 := below2 w (.cells #[.slice A1 n1 c1, .slice A2 n2 c2] 105) (.cells #[.slice A3 n3 c3] 23)
  have k2 := (Blk.new w #[.slice A1 n1 c1, .slice A2 n2 c2] 105).alloc (.cells #[.slice A3 n3 c3] 23)
  have K2 := Lib.hid k2
  have KD := Lib.hid (kd.below hb0)
  have C1 := Lib.hid (mulN (kn.below hb0) (k.below hb0) l1 l3 l4)
  have HB := Lib.hid hb0
  have L := Lib.hid (And.intro hd (And.intro l2 l4))
  clear kn kd k hb0 k2 hd l1 l2 l3 l4
  go_enter Tryz.func103, Tryz.ntmps103
  go_wp2_with fail
  refine C1.out.mono ?_
  rintro _ w1 ⟨x, rfl, hx, hb⟩
  have C2 := Lib.hid (quotientN hx (KD.out.below hb) L.out.2.2 L.out.2.1 L.out.1)
  have k2 := K2.out.after hb
  have d0 := k2.cell (i := 0) rfl
  have d1 := k2.cell (i := 1) rfl
  have hz : w.heap.size < w1.heap.size := k2.lt
  replace HB := Lib.hid (HB.out.trans (hb.mono HB.out.size))
  clear hx hb k2 C1
  go_wp2_with fail
  refine C2.out.mono ?_
  rintro _ w2 ⟨y, rfl, hy, hb⟩
  have HY := Lib.hid hy
  replace HB := Lib.hid (HB.out.trans (hb.mono HB.out.size))
  clear hy hb
  go_wp2_with fail
  go_ret
  exact ⟨y, rfl, HY.out, HB.out⟩
end Go.Proofs.YtbjaolmlnkliiaaGreatDoor

/- The contract of Scale at valid numbers. Conditions as premises: the number is short enough. -/
namespace Go.Proofs.YtbjaolmlnkliiaaGreatDoor
open Go.RowKit Go.Shelf
attribute [local go_sem ↓] Go.wp_at_zero Go.wp_at_succ

theorem floor_mkRat (z : Int) (d : Nat) (hd : d ≠ 0) : (mkRat z d).floor = z / (d : Int) := by
  obtain ⟨e1, _, e3⟩ := mkRat_red z d hd
  rw [Rat.floor_def, e1, e3]
  have hg : 0 < Nat.gcd z.natAbs d := gcd_pos_r hd
  have h1 : ((Nat.gcd z.natAbs d : Nat) : Int) ∣ z := Int.ofNat_dvd_left.2 (Nat.gcd_dvd_left _ _)
  have h2 : Nat.gcd z.natAbs d ∣ d := Nat.gcd_dvd_right _ _
  generalize Nat.gcd z.natAbs d = g at *
  obtain ⟨a, ha⟩ := h1
  obtain ⟨b, hb⟩ := h2
  subst ha
  subst hb
  rw [Int.mul_ediv_cancel_left _ (by omega), Nat.mul_div_cancel_left _ hg, Int.natCast_mul, Int.mul_ediv_mul_of_pos _ _ (by omega)]
theorem scale_math (q : Rat) (F : Nat) : q.floor * (F : Int) + ((rst q * F / q.den : Nat) : Int) = (q * (F : Rat)).floor := by
  have hd : (0 : Int) < q.den := by have := q.den_pos; omega
  rw [Rat.mul_def', Rat.num_natCast, Rat.den_natCast, Nat.mul_one, floor_mkRat _ _ q.den_nz]
  have e := rst_eq q
  generalize q.floor = z at *
  generalize rst q = R at *
  generalize q.den = D at *
  rw [e, Int.add_mul, Int.mul_right_comm, Int.add_comm (z * (F : Int) * (D : Int)), Int.add_mul_ediv_right _ _ (by omega), Int.add_comm, Int.natCast_ediv, Int.natCast_mul]

theorem scale_fin (a : Rat) (n : Int) : (n < 0 → (-a).floor * (n.natAbs : Int) + ((rst (-a) * n.natAbs / (-a).den : Nat) : Int) = (a * (n : Rat)).floor) ∧ (0 ≤ n → a.floor * (n.natAbs : Int) + ((rst a * n.natAbs / a.den : Nat) : Int) = (a * (n : Rat)).floor) := by
  refine ⟨fun h => ?_, fun h => ?_⟩
  · rw [scale_math]
    have e : (n : Rat) = -((n.natAbs : Nat) : Rat) := by
      have h1 : n = -((n.natAbs : Nat) : Int) := by omega
      conv => lhs; rw [h1]
      rw [Rat.intCast_neg, Rat.intCast_natCast]
    rw [e, Rat.mul_neg, Rat.neg_mul]
  · rw [scale_math]
    have e : (n : Rat) = ((n.natAbs : Nat) : Rat) := by
      have h1 : n = ((n.natAbs : Nat) : Int) := by omega
      conv => lhs; rw [h1]
      rw [Rat.intCast_natCast]
    rw [e]

/-- what comes up in a scaling is short enough -/
structure ScOk (q : Rat) (F k : Nat) : Prop where
  kk : k ≤ 1000
  s : Sz k q
  f : F < LB ^ 3
theorem ScOk.b {q : Rat} {F k : Nat} (h : ScOk q F k) : q.floor.natAbs < LB ^ NL ∧ F < LB ^ NL ∧ (q.floor * (F : Int)).natAbs < LB ^ NL ∧ rst q < LB ^ NL ∧ rst q * F < LB ^ NL ∧ rst q * F / q.den < LB ^ NL ∧ (q.floor * (F : Int)).natAbs + rst q * F / q.den < LB ^ NL ∧ (q.floor * (F : Int) + ((rst q * F / q.den : Nat) : Int)).natAbs < LB ^ NL := by
  have hk := h.kk
  have f1 := Nat.lt_of_le_of_lt (floor_abs q) h.s.1
  have r1 := Nat.lt_trans (rst_lt q) h.s.2
  have p1 : (q.floor * (F : Int)).natAbs < LB ^ (k + 3) := by rw [Int.natAbs_mul, Int.natAbs_natCast]; exact mul_lt f1 h.f
  have p2 : rst q * F < LB ^ (k + 3) := mul_lt r1 h.f
  have p3 : rst q * F / q.den < LB ^ (k + 3) := Nat.lt_of_le_of_lt (Nat.div_le_self _ _) p2
  have p4 := add_lt p1 p3
  refine ⟨lt_NL f1 (by omega), lt_NL h.f (by omega), lt_NL p1 (by omega), lt_NL r1 (by omega), lt_NL p2 (by omega), lt_NL p3 (by omega), lt_NL p4 (by omega), lt_NL (Nat.lt_of_le_of_lt (Int.natAbs_add_le _ _) ?_) (by omega : k + 3 + 1 ≤ 1024)⟩
  rw [Int.natAbs_natCast]
  exact p4

set_option maxRecDepth 100000 in
set_option maxHeartbeats 8000000 in
theorem ratScaleQ {w : World} {a : Rat} {v : Value} (n : Int) (ha : Rq w a v) {k : Nat} (hT : Tabs w) (hk : k ≤ 1000) (sa : Sz k a) (h0 : -9223372036854775808 ≤ n) (h1 : n ≤ 9223372036854775807) :
    Calls Tryz.prog 27 #[v, .int .i64 n] w fun e w' => e = .returned (intW (a * (n : Rat)).floor) ∧ Below w.heap.size w w' := by
  obtain ⟨b, A1, n1, c1, f1, A2, n2, c2, f2, rfl, hr, hc0⟩ := ha.raw (lt_NL sa.1 (by omega)) (lt_NL sa.2 (by omega))
  have hb0 := below1 w (.cells #[.bool b, .slice A1 n1 c1, .slice A2 n2 c2] 25)
  have k2 := Blk.new w #[.bool b, .slice A1 n1 c1, .slice A2 n2 c2] 25
  have c1' := ratCheck_any (hr.below hb0)
  rw [hc0] at c1'
  have C1 := Lib.hid c1'
  have HQ := Lib.hid (ha.below hb0)
  have HT := Lib.hid (hT.below hb0)
  have HB := Lib.hid hb0
  have K2 := Lib.hid k2
  have SF := Lib.hid (scale_fin a n)
  have hF : n.natAbs < LB ^ 3 := by
    have : LB ^ 3 = 1000000000000000000000000000 := by rw [LB_eq]
    omega
  have hF' := Lib.hid hF
  have SA := Lib.hid sa
  have CM := Lib.hid (magnitudeN n h0 h1)
  have HTT := Lib.hid hT
  clear ha hT hr hc0 c1' k2 hb0 hF sa
  by_cases hn : n < 0
  · have hq' : ∃ q : Rat, q = -a := ⟨_, rfl⟩
    obtain ⟨q, hq'⟩ := hq'
    have FIN : Hid (q.floor * (n.natAbs : Int) + ((rst q * n.natAbs / q.den : Nat) : Int) = (a * (n : Rat)).floor) := Lib.hid (by rw [hq']; exact SF.out.1 hn)
    have SC := Lib.hid (show ScOk q n.natAbs k from ⟨hk, by rw [hq']; exact SA.out.neg, hF'.out⟩)
    have HQE := Lib.hid hq'
    clear hq'
    go_enter Tryz.func27, Tryz.ntmps27
    go_wp2_with fail
    refine C1.out.mono ?_
    rintro _ w1 ⟨rfl, hb⟩
    replace HQ := Lib.hid (HQ.out.below hb)
    replace HT := Lib.hid (HT.out.below hb)
    replace HB := Lib.hid (HB.out.trans (hb.mono HB.out.size))
    replace K2 := Lib.hid (K2.out.after hb)
    have y2 : w.heap.size < w1.heap.size := K2.out.lt
    have d0 := K2.out.cell (i := 0) rfl
    have d1 := K2.out.cell (i := 1) rfl
    have d2 := K2.out.cell (i := 2) rfl
    clear hb C1
    go_wp2_with fail
    refine (negatedQ HQ.out).mono ?_
    rintro _ w2 ⟨x, rfl, hall, hb⟩
    have hx := (hall w2 (HQ.out.below hb)).cast HQE.out.symm
    clear d0 d1 d2 y2 HQ hall
    replace HT := Lib.hid (HT.out.below hb)
    replace HB := Lib.hid (HB.out.trans (hb.mono HB.out.size))
    replace K2 := Lib.hid (K2.out.after hb)
    clear hb
    have y2 : w.heap.size < w2.heap.size := K2.out.lt
    have d0 := K2.out.cell (i := 0) rfl
    have d1 := K2.out.cell (i := 1) rfl
    have d2 := K2.out.cell (i := 2) rfl
    have ff := K2.out.free
    have HX := Lib.hid hx
    have KO := K2
    clear K2
    obtain ⟨b, A1, n1, c1, A2, n2, c2, rfl, _, _, _⟩ := hx.get
    clear hx
    go_upto_region 6 with fail
    have k2 : Blk (((w2.setCell ⟨w.heap.size, 0, none⟩ (.bool b)).setCell ⟨w.heap.size, 1, none⟩ (.slice A1 n1 c1)).setCell ⟨w.heap.size, 2, none⟩ (.slice A2 n2 c2)) w.heap.size 25 #[.bool b, .slice A1 n1 c1, .slice A2 n2 c2] := KO.out.set.set.set
    have hq2 : Rq (((w2.setCell ⟨w.heap.size, 0, none⟩ (.bool b)).setCell ⟨w.heap.size, 1, none⟩ (.slice A1 n1 c1)).setCell ⟨w.heap.size, 2, none⟩ (.slice A2 n2 c2)) q (.agg #[.bool b, .slice A1 n1 c1, .slice A2 n2 c2]) := by
      obtain ⟨g1, g2, g3⟩ := HX.out.inv
      exact Rq.mk g3 rfl rfl (g1.put3 KO.out (hnoR _ _ _ _ _ _ _)) (g2.put3 KO.out (hnoR _ _ _ _ _ _ _))
    have hb2 : Below w.heap.size w (((w2.setCell ⟨w.heap.size, 0, none⟩ (.bool b)).setCell ⟨w.heap.size, 1, none⟩ (.slice A1 n1 c1)).setCell ⟨w.heap.size, 2, none⟩ (.slice A2 n2 c2)) := ((HB.out.setCell (Nat.le_refl _) _).setCell (Nat.le_refl _) _).setCell (Nat.le_refl _) _
    have ht2 : Tabs (((w2.setCell ⟨w.heap.size, 0, none⟩ (.bool b)).setCell ⟨w.heap.size, 1, none⟩ (.slice A1 n1 c1)).setCell ⟨w.heap.size, 2, none⟩ (.slice A2 n2 c2)) := HTT.out.below hb2
    clear d0 d1 d2 y2 ff KO HX HB HT
    generalize (((w2.setCell ⟨w.heap.size, 0, none⟩ (.bool b)).setCell ⟨w.heap.size, 1, none⟩ (.slice A1 n1 c1)).setCell ⟨w.heap.size, 2, none⟩ (.slice A2 n2 c2)) = w3 at *
    have HQ := Lib.hid hq2
    have HT := Lib.hid ht2
    have HB := Lib.hid hb2
    have K2 := Lib.hid k2
    clear hq2 ht2 hb2 k2
    have y2 : w.heap.size < w3.heap.size := K2.out.lt
    have d0 := K2.out.cell (i := 0) rfl
    have d1 := K2.out.cell (i := 1) rfl
    have d2 := K2.out.cell (i := 2) rfl
    have C2 := Lib.hid (splitQ HQ.out (SC.out.s.up (by have := SC.out.kk; omega)))
    have KD := Lib.hid HQ.out.inv.2.1
    have BD := Lib.hid SC.out.b
    go_wp2_with fail
    refine C2.out.mono ?_
    rintro _ w4 ⟨x, R, rn, rc, rfl, hx, hy, hb⟩
    obtain ⟨s0, B0, m0, e0, rfl, _, _, _⟩ := hx.get
    have hb1 := below1 w4 (.cells #[.int .i64 s0, .slice B0 m0 e0] 102)
    have hbb := hb.trans (hb1.mono hb.size)
    replace KD := Lib.hid (KD.out.below hbb)
    replace HT := Lib.hid (HT.out.below hbb)
    replace HB := Lib.hid (HB.out.trans (hbb.mono HB.out.size))
    replace K2 := Lib.hid (K2.out.after hbb)
    have HZ := Lib.hid (hx.below hb1)
    have HR := Lib.hid (hy.below hb1)
    have K7 := Lib.hid (Blk.new w4 #[.int .i64 s0, .slice B0 m0 e0] 102)
    clear hb hx hy C2 d0 d1 d2 y2 HQ hb1 hbb
    go_upto_region 7 with fail
    generalize hP : w4.heap.size = P at *
    clear hP
    generalize w4.alloc (.cells #[.int .i64 s0, .slice B0 m0 e0] 102) = w5 at *
    have C3 := Lib.hid (CM.out w5)
    go_wp2_with fail
    refine C3.out.mono ?_
    rintro _ w6 ⟨x, rfl, hx, hb⟩
    obtain ⟨F, fn, fc, rfl⟩ := hx.shape
    replace KD := Lib.hid (KD.out.below hb)
    replace HT := Lib.hid (HT.out.below hb)
    replace HB := Lib.hid (HB.out.trans (hb.mono HB.out.size))
    replace K2 := Lib.hid (K2.out.after hb)
    replace HZ := Lib.hid (HZ.out.below hb)
    replace HR := Lib.hid (HR.out.below hb)
    replace K7 := Lib.hid (K7.out.after hb)
    have HF := Lib.hid hx
    clear hx hb C3
    go_upto_region 8 with fail
    have KEEP : Hid (∀ W, Below w6.heap.size w6 W → (W.cell? ⟨P, 0, none⟩ = some (.int .i64 s0) ∧ W.cell? ⟨P, 1, none⟩ = some (.slice B0 m0 e0) ∧ Below w6.heap.size w6 W)) := Lib.hid fun W h1 => ⟨(K7.out.after h1).cell rfl, (K7.out.after h1).cell rfl, h1⟩
    have HC1 : Hid (∀ W, (W.cell? ⟨P, 0, none⟩ = some (.int .i64 s0) ∧ W.cell? ⟨P, 1, none⟩ = some (.slice B0 m0 e0) ∧ Below w6.heap.size w6 W) → Calls Tryz.prog 86 #[.bool false, .slice F fn fc] W fun e w' => ∃ x, e = .returned x ∧ (∀ V, Nr V n.natAbs (.slice F fn fc) → Wh V (sn false n.natAbs) x) ∧ Below W.heap.size W w') := Lib.hid fun W h => signedN false (HF.out.below h.2.2)
    have HC2 : Hid (∀ W s1 B1 m1 e1, (W.cell? ⟨P, 0, none⟩ = some (.int .i64 s0) ∧ W.cell? ⟨P, 1, none⟩ = some (.slice B0 m0 e0) ∧ Below w6.heap.size w6 W) → Wh W (n.natAbs : Int) (.agg #[.int .i64 s1, .slice B1 m1 e1]) → Calls Tryz.prog 101 #[.agg #[.int .i64 s0, .slice B0 m0 e0], .agg #[.int .i64 s1, .slice B1 m1 e1]] W fun e w' => ∃ r, e = .returned (.tuple #[r, .int .i64 0]) ∧ Wh w' (q.floor * (n.natAbs : Int)) r ∧ Below W.heap.size W w') := Lib.hid fun W s1 B1 m1 e1 h hw => timesN (HZ.out.below h.2.2) hw (HT.out.below h.2.2) BD.out.1 (by rw [Int.natAbs_natCast]; exact BD.out.2.1) BD.out.2.2.1
    have SBEL : Hid (∀ W, (W.cell? ⟨P, 0, none⟩ = some (.int .i64 s0) ∧ W.cell? ⟨P, 1, none⟩ = some (.slice B0 m0 e0) ∧ Below w6.heap.size w6 W) → Below w6.heap.size w6 W) := Lib.hid fun W h => h.2.2
    have NEXT : Hid (∀ W W', (W.cell? ⟨P, 0, none⟩ = some (.int .i64 s0) ∧ W.cell? ⟨P, 1, none⟩ = some (.slice B0 m0 e0) ∧ Below w6.heap.size w6 W) → Below W.heap.size W W' → (W'.cell? ⟨P, 0, none⟩ = some (.int .i64 s0) ∧ W'.cell? ⟨P, 1, none⟩ = some (.slice B0 m0 e0) ∧ Below w6.heap.size w6 W')) := Lib.hid fun W W' h hb => KEEP.out W' (h.2.2.trans (hb.mono h.2.2.size))
    have ALL : Hid (∀ W o, (W.cell? ⟨P, 0, none⟩ = some (.int .i64 s0) ∧ W.cell? ⟨P, 1, none⟩ = some (.slice B0 m0 e0) ∧ Below w6.heap.size w6 W) → ((W.alloc o).cell? ⟨P, 0, none⟩ = some (.int .i64 s0) ∧ (W.alloc o).cell? ⟨P, 1, none⟩ = some (.slice B0 m0 e0) ∧ Below w6.heap.size w6 (W.alloc o))) := Lib.hid fun W o h => NEXT.out W _ h (below1 W o)
    have ALC : Hid (∀ W w', (W.cell? ⟨P, 0, none⟩ = some (.int .i64 s0) ∧ W.cell? ⟨P, 1, none⟩ = some (.slice B0 m0 e0) ∧ Below w6.heap.size w6 W) → Below (W.alloc (.cells #[.int .i64 0, .slice none 0 0] 102)).heap.size (W.alloc (.cells #[.int .i64 0, .slice none 0 0] 102)) w' → Blk w' W.heap.size 102 #[.int .i64 0, .slice none 0 0] ∧ w6.heap.size ≤ W.heap.size) := Lib.hid fun W w' h hb => ⟨(Blk.new W _ _).after hb, h.2.2.size⟩
    have STO : Hid (∀ W p u v, (W.cell? ⟨P, 0, none⟩ = some (.int .i64 s0) ∧ W.cell? ⟨P, 1, none⟩ = some (.slice B0 m0 e0) ∧ Below w6.heap.size w6 W) → w6.heap.size ≤ p → (((W.setCell ⟨p, 0, none⟩ u).setCell ⟨p, 1, none⟩ v).cell? ⟨P, 0, none⟩ = some (.int .i64 s0) ∧ ((W.setCell ⟨p, 0, none⟩ u).setCell ⟨p, 1, none⟩ v).cell? ⟨P, 1, none⟩ = some (.slice B0 m0 e0) ∧ Below w6.heap.size w6 ((W.setCell ⟨p, 0, none⟩ u).setCell ⟨p, 1, none⟩ v))) := Lib.hid fun W p u v h hg => KEEP.out _ ((h.2.2.setCell hg _).setCell hg _)
    have hdrew := KEEP.out w6.drew (Below.refl _ _).drew
    have hdrewA := KEEP.out ((w6.alloc (.cells #[.int .i64 0, .slice none 0 0] 102)).drew) (below1 w6 _).drew
    have ALD : Hid (∀ w', Below ((w6.alloc (.cells #[.int .i64 0, .slice none 0 0] 102)).drew).heap.size ((w6.alloc (.cells #[.int .i64 0, .slice none 0 0] 102)).drew) w' → Blk w' w6.heap.size 102 #[.int .i64 0, .slice none 0 0] ∧ w6.heap.size ≤ w6.heap.size) := Lib.hid fun w' hb => ⟨Blk.after (show Blk ((w6.alloc (.cells #[.int .i64 0, .slice none 0 0] 102)).drew) w6.heap.size 102 #[.int .i64 0, .slice none 0 0] from Blk.new w6 _ _) hb, Nat.le_refl _⟩
    go_cut [10, 11] (fun p e wx => ∃ g s B m d, p = .pointer (some ⟨g, 0, none⟩) ∧ e = .int .i64 0 ∧ Hid (Blk wx g 102 #[.int .i64 s, .slice B m d]) ∧ Hid (Wh wx (q.floor * (n.natAbs : Int)) (.agg #[.int .i64 s, .slice B m d])) ∧ Hid (Below w6.heap.size w6 wx))
    case first =>
      go_region_held3 (fun W => W.cell? ⟨P, 0, none⟩ = some (.int .i64 s0) ∧ W.cell? ⟨P, 1, none⟩ = some (.slice B0 m0 e0) ∧ Below w6.heap.size w6 W)
        (first | with_reducible assumption | with_reducible exact ALL.out _ _ (by with_reducible assumption) | with_reducible exact STO.out _ _ _ _ (by with_reducible assumption) hge)
        (first
          | (go_at_call 86; (with_reducible refine (HC1.out ((w6.alloc (.cells #[.int .i64 0, .slice none 0 0] 102)).drew) (by with_reducible assumption)).mono ?_); rintro _ w61 ⟨x61, rfl, hv61, hbw61⟩; obtain ⟨s1, B1, m1, e1, rfl, _, _, _⟩ := (hv61 w6 HF.out).get; have HV61 := Lib.hid hv61; clear hv61; have hS := NEXT.out _ _ (by with_reducible assumption) hbw61; obtain ⟨hA, hge⟩ := ALD.out _ hbw61; have e0_ := hA.cell (i := 0) rfl; have e1_ := hA.cell (i := 1) rfl; have hfA := hA.free; have hlA := hA.lt)
          | (go_at_call 86; (with_reducible refine (HC1.out (World.alloc _ (.cells #[.int .i64 0, .slice none 0 0] 102)) (by with_reducible assumption)).mono ?_); rintro _ w61 ⟨x61, rfl, hv61, hbw61⟩; obtain ⟨s1, B1, m1, e1, rfl, _, _, _⟩ := (hv61 w6 HF.out).get; have HV61 := Lib.hid hv61; clear hv61; have hS := NEXT.out _ _ (by with_reducible assumption) hbw61; obtain ⟨hA, hge⟩ := ALC.out _ _ (by with_reducible assumption) hbw61; have e0_ := hA.cell (i := 0) rfl; have e1_ := hA.cell (i := 1) rfl; have hfA := hA.free; have hlA := hA.lt)
          | (go_at_call 86; (with_reducible refine (HC1.out _ (by with_reducible assumption)).mono ?_); rintro _ w61 ⟨x61, rfl, hv61, hbw61⟩; obtain ⟨s1, B1, m1, e1, rfl, _, _, _⟩ := (hv61 w6 HF.out).get; have HV61 := Lib.hid hv61; clear hv61; have hS := NEXT.out _ _ (by with_reducible assumption) hbw61; replace hA := hA.after hbw61; have e0_ := hA.cell (i := 0) rfl; have e1_ := hA.cell (i := 1) rfl; have hfA := hA.free; have hlA := hA.lt)
          | (go_at_call 86; (with_reducible refine (HC1.out _ (by with_reducible assumption)).mono ?_); rintro _ w61 ⟨x61, rfl, hv61, hbw61⟩; obtain ⟨s1, B1, m1, e1, rfl, _, _, _⟩ := (hv61 w6 HF.out).get; have HV61 := Lib.hid hv61; clear hv61; have hS := NEXT.out _ _ (by with_reducible assumption) hbw61)
          | (go_at_call 101; (with_reducible refine (HC2.out (World.alloc _ (.cells #[.int .i64 0, .slice none 0 0] 102)) s1 B1 m1 e1 (by with_reducible assumption) (HV61.out _ (HF.out.below (SBEL.out _ (by with_reducible assumption))))).mono ?_); rintro _ w62 ⟨x62, rfl, hv62, hbw62⟩; obtain ⟨s2, B2, m2, e2, rfl, _, _, _⟩ := hv62.get; have HV62 := Lib.hid hv62; clear hv62; have hS := NEXT.out _ _ (by with_reducible assumption) hbw62; obtain ⟨hA, hge⟩ := ALC.out _ _ (by with_reducible assumption) hbw62; have e0_ := hA.cell (i := 0) rfl; have e1_ := hA.cell (i := 1) rfl; have hfA := hA.free; have hlA := hA.lt)
          | (go_at_call 101; (with_reducible refine (HC2.out _ s1 B1 m1 e1 (by with_reducible assumption) (HV61.out _ (HF.out.below (SBEL.out _ (by with_reducible assumption))))).mono ?_); rintro _ w62 ⟨x62, rfl, hv62, hbw62⟩; obtain ⟨s2, B2, m2, e2, rfl, _, _, _⟩ := hv62.get; have HV62 := Lib.hid hv62; clear hv62; have hS := NEXT.out _ _ (by with_reducible assumption) hbw62; replace hA := hA.after hbw62; have e0_ := hA.cell (i := 0) rfl; have e1_ := hA.cell (i := 1) rfl; have hfA := hA.free; have hlA := hA.lt)
          | (go_at_call 101; (with_reducible refine (HC2.out _ s1 B1 m1 e1 (by with_reducible assumption) (HV61.out _ (HF.out.below (SBEL.out _ (by with_reducible assumption))))).mono ?_); rintro _ w62 ⟨x62, rfl, hv62, hbw62⟩; obtain ⟨s2, B2, m2, e2, rfl, _, _, _⟩ := hv62.get; have HV62 := Lib.hid hv62; clear hv62; have hS := NEXT.out _ _ (by with_reducible assumption) hbw62))
      all_goals
        go_wp2_with fail
        go_meet
        first
          | (have k := hA.set2 (.int .i64 s2) (.slice B2 m2 e2); have h := STO.out _ _ (.int .i64 s2) (.slice B2 m2 e2) hS hge; have hq := HV62.out.put2 (i := 0) (j := 1) (u := .int .i64 s2) (x := .slice B2 m2 e2) hA (hnoW _ _ _ _); with_reducible exact ⟨_, _, _, _, _, rfl, rfl, Lib.hid k, Lib.hid hq, Lib.hid h.2.2⟩)
          | (have k := Blk.new w62 #[.int .i64 s2, .slice B2 m2 e2] 102; have h := ALL.out _ (.cells #[.int .i64 s2, .slice B2 m2 e2] 102) hS; have hq := HV62.out.below (below1 w62 (.cells #[.int .i64 s2, .slice B2 m2 e2] 102)); with_reducible exact ⟨_, _, _, _, _, rfl, rfl, Lib.hid k, Lib.hid hq, Lib.hid h.2.2⟩)
    case rest =>
      obtain ⟨P2, s3, B3, m3, e3, rfl, rfl, K10, HM, HBX⟩ := hcut
      replace KD := Lib.hid (KD.out.below HBX.out)
      replace HB := Lib.hid (HB.out.trans (HBX.out.mono HB.out.size))
      replace K2 := Lib.hid (K2.out.after HBX.out)
      replace HR := Lib.hid (HR.out.below HBX.out)
      replace HF := Lib.hid (HF.out.below HBX.out)
      clear HBX KEEP NEXT ALL ALC STO hdrew hdrewA ALD HC1 HC2 SBEL HZ HT K7
      generalize wc = w7 at *
      go_upto_region 11 with fail
      have KEEP : Hid (∀ W, Below w7.heap.size w7 W → (W.cell? ⟨P2, 0, none⟩ = some (.int .i64 s3) ∧ W.cell? ⟨P2, 1, none⟩ = some (.slice B3 m3 e3) ∧ W.cell? ⟨w.heap.size, 2, none⟩ = some (.slice A2 n2 c2) ∧ Below w7.heap.size w7 W)) := Lib.hid fun W h1 => ⟨(K10.out.after h1).cell rfl, (K10.out.after h1).cell rfl, (K2.out.after h1).cell rfl, h1⟩
      have SBEL : Hid (∀ W, (W.cell? ⟨P2, 0, none⟩ = some (.int .i64 s3) ∧ W.cell? ⟨P2, 1, none⟩ = some (.slice B3 m3 e3) ∧ W.cell? ⟨w.heap.size, 2, none⟩ = some (.slice A2 n2 c2) ∧ Below w7.heap.size w7 W) → Below w7.heap.size w7 W) := Lib.hid fun W h => h.2.2.2
      have HC1 : Hid (∀ W, (W.cell? ⟨P2, 0, none⟩ = some (.int .i64 s3) ∧ W.cell? ⟨P2, 1, none⟩ = some (.slice B3 m3 e3) ∧ W.cell? ⟨w.heap.size, 2, none⟩ = some (.slice A2 n2 c2) ∧ Below w7.heap.size w7 W) → Calls Tryz.prog 103 #[.agg #[.slice R rn rc, .slice A2 n2 c2], .slice F fn fc] W fun e w' => ∃ x, e = .returned x ∧ Nr w' (rst q * n.natAbs / q.den) x ∧ Below W.heap.size W w') := Lib.hid fun W h => shareN (Fr.mk (HR.out.below h.2.2.2) (KD.out.below h.2.2.2)) (HF.out.below h.2.2.2) q.den_pos BD.out.2.2.2.1 (lt_NL SC.out.s.2 (by have := SC.out.kk; omega)) BD.out.2.1 BD.out.2.2.2.2.1
      have HC2 : Hid (∀ W B4 m4 e4, (W.cell? ⟨P2, 0, none⟩ = some (.int .i64 s3) ∧ W.cell? ⟨P2, 1, none⟩ = some (.slice B3 m3 e3) ∧ W.cell? ⟨w.heap.size, 2, none⟩ = some (.slice A2 n2 c2) ∧ Below w7.heap.size w7 W) → Nr W (rst q * n.natAbs / q.den) (.slice B4 m4 e4) → Calls Tryz.prog 86 #[.bool false, .slice B4 m4 e4] W fun e w' => ∃ x, e = .returned x ∧ (∀ V, Nr V (rst q * n.natAbs / q.den) (.slice B4 m4 e4) → Wh V (sn false (rst q * n.natAbs / q.den)) x) ∧ Below W.heap.size W w') := Lib.hid fun W B4 m4 e4 _ h2 => signedN false h2
      have HC3 : Hid (∀ W s5 B5 m5 e5, (W.cell? ⟨P2, 0, none⟩ = some (.int .i64 s3) ∧ W.cell? ⟨P2, 1, none⟩ = some (.slice B3 m3 e3) ∧ W.cell? ⟨w.heap.size, 2, none⟩ = some (.slice A2 n2 c2) ∧ Below w7.heap.size w7 W) → Wh W ((rst q * n.natAbs / q.den : Nat) : Int) (.agg #[.int .i64 s5, .slice B5 m5 e5]) → Calls Tryz.prog 102 #[.agg #[.int .i64 s3, .slice B3 m3 e3], .agg #[.int .i64 s5, .slice B5 m5 e5]] W fun e w' => ∃ r, e = .returned (.tuple #[r, .int .i64 0]) ∧ Wh w' (q.floor * (n.natAbs : Int) + ((rst q * n.natAbs / q.den : Nat) : Int)) r ∧ Below W.heap.size W w') := Lib.hid fun W s5 B5 m5 e5 h hw => plusN (HM.out.below h.2.2.2) hw BD.out.2.2.1 (by rw [Int.natAbs_natCast]; exact BD.out.2.2.2.2.2.1) (by rw [Int.natAbs_natCast]; exact BD.out.2.2.2.2.2.2.1)
      have NEXT : Hid (∀ W W', (W.cell? ⟨P2, 0, none⟩ = some (.int .i64 s3) ∧ W.cell? ⟨P2, 1, none⟩ = some (.slice B3 m3 e3) ∧ W.cell? ⟨w.heap.size, 2, none⟩ = some (.slice A2 n2 c2) ∧ Below w7.heap.size w7 W) → Below W.heap.size W W' → (W'.cell? ⟨P2, 0, none⟩ = some (.int .i64 s3) ∧ W'.cell? ⟨P2, 1, none⟩ = some (.slice B3 m3 e3) ∧ W'.cell? ⟨w.heap.size, 2, none⟩ = some (.slice A2 n2 c2) ∧ Below w7.heap.size w7 W')) := Lib.hid fun W W' h hb => KEEP.out W' (h.2.2.2.trans (hb.mono h.2.2.2.size))
      have ALL : Hid (∀ W o, (W.cell? ⟨P2, 0, none⟩ = some (.int .i64 s3) ∧ W.cell? ⟨P2, 1, none⟩ = some (.slice B3 m3 e3) ∧ W.cell? ⟨w.heap.size, 2, none⟩ = some (.slice A2 n2 c2) ∧ Below w7.heap.size w7 W) → ((W.alloc o).cell? ⟨P2, 0, none⟩ = some (.int .i64 s3) ∧ (W.alloc o).cell? ⟨P2, 1, none⟩ = some (.slice B3 m3 e3) ∧ (W.alloc o).cell? ⟨w.heap.size, 2, none⟩ = some (.slice A2 n2 c2) ∧ Below w7.heap.size w7 (W.alloc o))) := Lib.hid fun W o h => NEXT.out W _ h (below1 W o)
      have ALC : Hid (∀ W w', (W.cell? ⟨P2, 0, none⟩ = some (.int .i64 s3) ∧ W.cell? ⟨P2, 1, none⟩ = some (.slice B3 m3 e3) ∧ W.cell? ⟨w.heap.size, 2, none⟩ = some (.slice A2 n2 c2) ∧ Below w7.heap.size w7 W) → Below (W.alloc (.cells #[.int .i64 0, .slice none 0 0] 102)).heap.size (W.alloc (.cells #[.int .i64 0, .slice none 0 0] 102)) w' → Blk w' W.heap.size 102 #[.int .i64 0, .slice none 0 0] ∧ w7.heap.size ≤ W.heap.size) := Lib.hid fun W w' h hb => ⟨(Blk.new W _ _).after hb, h.2.2.2.size⟩
      have STO : Hid (∀ W p u v, (W.cell? ⟨P2, 0, none⟩ = some (.int .i64 s3) ∧ W.cell? ⟨P2, 1, none⟩ = some (.slice B3 m3 e3) ∧ W.cell? ⟨w.heap.size, 2, none⟩ = some (.slice A2 n2 c2) ∧ Below w7.heap.size w7 W) → w7.heap.size ≤ p → (((W.setCell ⟨p, 0, none⟩ u).setCell ⟨p, 1, none⟩ v).cell? ⟨P2, 0, none⟩ = some (.int .i64 s3) ∧ ((W.setCell ⟨p, 0, none⟩ u).setCell ⟨p, 1, none⟩ v).cell? ⟨P2, 1, none⟩ = some (.slice B3 m3 e3) ∧ ((W.setCell ⟨p, 0, none⟩ u).setCell ⟨p, 1, none⟩ v).cell? ⟨w.heap.size, 2, none⟩ = some (.slice A2 n2 c2) ∧ Below w7.heap.size w7 ((W.setCell ⟨p, 0, none⟩ u).setCell ⟨p, 1, none⟩ v))) := Lib.hid fun W p u v h hg => KEEP.out _ ((h.2.2.2.setCell hg _).setCell hg _)
      have hdrew := KEEP.out w7.drew (Below.refl _ _).drew
      have hdrewA := KEEP.out ((w7.alloc (.cells #[.int .i64 0, .slice none 0 0] 102)).drew) (below1 w7 _).drew
      have ALD : Hid (∀ w', Below ((w7.alloc (.cells #[.int .i64 0, .slice none 0 0] 102)).drew).heap.size ((w7.alloc (.cells #[.int .i64 0, .slice none 0 0] 102)).drew) w' → Blk w' w7.heap.size 102 #[.int .i64 0, .slice none 0 0] ∧ w7.heap.size ≤ w7.heap.size) := Lib.hid fun w' hb => ⟨Blk.after (show Blk ((w7.alloc (.cells #[.int .i64 0, .slice none 0 0] 102)).drew) w7.heap.size 102 #[.int .i64 0, .slice none 0 0] from Blk.new w7 _ _) hb, Nat.le_refl _⟩
      go_cut [12, 11] (fun p e wx => ∃ g s B m d, p = .pointer (some ⟨g, 0, none⟩) ∧ e = .int .i64 0 ∧ Hid (Blk wx g 102 #[.int .i64 s, .slice B m d]) ∧ Hid (Wh wx (q.floor * (n.natAbs : Int) + ((rst q * n.natAbs / q.den : Nat) : Int)) (.agg #[.int .i64 s, .slice B m d])) ∧ Hid (Below w7.heap.size w7 wx))
      case first =>
        go_region_held3 (fun W => W.cell? ⟨P2, 0, none⟩ = some (.int .i64 s3) ∧ W.cell? ⟨P2, 1, none⟩ = some (.slice B3 m3 e3) ∧ W.cell? ⟨w.heap.size, 2, none⟩ = some (.slice A2 n2 c2) ∧ Below w7.heap.size w7 W)
          (first | with_reducible assumption | with_reducible exact ALL.out _ _ (by with_reducible assumption) | with_reducible exact STO.out _ _ _ _ (by with_reducible assumption) hge)
          (first
            | (go_at_call 103; (with_reducible refine (HC1.out ((w7.alloc (.cells #[.int .i64 0, .slice none 0 0] 102)).drew) (by with_reducible assumption)).mono ?_); rintro _ w71 ⟨x71, rfl, hv71, hbw71⟩; obtain ⟨B4, m4, e4, rfl⟩ := hv71.shape; have HV71 := Lib.hid hv71; clear hv71; have hS := NEXT.out _ _ (by with_reducible assumption) hbw71; obtain ⟨hA, hge⟩ := ALD.out _ hbw71; have e0_ := hA.cell (i := 0) rfl; have e1_ := hA.cell (i := 1) rfl; have hfA := hA.free; have hlA := hA.lt)
            | (go_at_call 103; (with_reducible refine (HC1.out (World.alloc _ (.cells #[.int .i64 0, .slice none 0 0] 102)) (by with_reducible assumption)).mono ?_); rintro _ w71 ⟨x71, rfl, hv71, hbw71⟩; obtain ⟨B4, m4, e4, rfl⟩ := hv71.shape; have HV71 := Lib.hid hv71; clear hv71; have hS := NEXT.out _ _ (by with_reducible assumption) hbw71; obtain ⟨hA, hge⟩ := ALC.out _ _ (by with_reducible assumption) hbw71; have e0_ := hA.cell (i := 0) rfl; have e1_ := hA.cell (i := 1) rfl; have hfA := hA.free; have hlA := hA.lt)
            | (go_at_call 103; (with_reducible refine (HC1.out _ (by with_reducible assumption)).mono ?_); rintro _ w71 ⟨x71, rfl, hv71, hbw71⟩; obtain ⟨B4, m4, e4, rfl⟩ := hv71.shape; have HV71 := Lib.hid hv71; clear hv71; have hS := NEXT.out _ _ (by with_reducible assumption) hbw71; replace hA := hA.after hbw71; have e0_ := hA.cell (i := 0) rfl; have e1_ := hA.cell (i := 1) rfl; have hfA := hA.free; have hlA := hA.lt)
            | (go_at_call 103; (with_reducible refine (HC1.out _ (by with_reducible assumption)).mono ?_); rintro _ w71 ⟨x71, rfl, hv71, hbw71⟩; obtain ⟨B4, m4, e4, rfl⟩ := hv71.shape; have HV71 := Lib.hid hv71; clear hv71; have hS := NEXT.out _ _ (by with_reducible assumption) hbw71)
            | (go_at_call 86; (with_reducible refine (HC2.out (World.alloc _ (.cells #[.int .i64 0, .slice none 0 0] 102)) B4 m4 e4 (by with_reducible assumption) (HV71.out.below (below1 w71 (.cells #[.int .i64 0, .slice none 0 0] 102)))).mono ?_); rintro _ w72 ⟨x72, rfl, hv72, hbw72⟩; obtain ⟨s5, B5, m5, e5, rfl, _, _, _⟩ := (hv72 _ HV71.out).get; have HV72 := Lib.hid hv72; clear hv72; have hS := NEXT.out _ _ (by with_reducible assumption) hbw72; obtain ⟨hA, hge⟩ := ALC.out _ _ (by with_reducible assumption) hbw72; have e0_ := hA.cell (i := 0) rfl; have e1_ := hA.cell (i := 1) rfl; have hfA := hA.free; have hlA := hA.lt)
            | (go_at_call 86; (with_reducible refine (HC2.out _ B4 m4 e4 (by with_reducible assumption) HV71.out).mono ?_); rintro _ w72 ⟨x72, rfl, hv72, hbw72⟩; obtain ⟨s5, B5, m5, e5, rfl, _, _, _⟩ := (hv72 _ HV71.out).get; have HV72 := Lib.hid hv72; clear hv72; have hS := NEXT.out _ _ (by with_reducible assumption) hbw72; replace hA := hA.after hbw72; have e0_ := hA.cell (i := 0) rfl; have e1_ := hA.cell (i := 1) rfl; have hfA := hA.free; have hlA := hA.lt)
            | (go_at_call 86; (with_reducible refine (HC2.out _ B4 m4 e4 (by with_reducible assumption) HV71.out).mono ?_); rintro _ w72 ⟨x72, rfl, hv72, hbw72⟩; obtain ⟨s5, B5, m5, e5, rfl, _, _, _⟩ := (hv72 _ HV71.out).get; have HV72 := Lib.hid hv72; clear hv72; have hS := NEXT.out _ _ (by with_reducible assumption) hbw72)
            | (go_at_call 102; (with_reducible refine (HC3.out (World.alloc _ (.cells #[.int .i64 0, .slice none 0 0] 102)) s5 B5 m5 e5 (by with_reducible assumption) (HV72.out _ ((HV71.out.below hbw72).below (below1 w72 (.cells #[.int .i64 0, .slice none 0 0] 102))))).mono ?_); rintro _ w73 ⟨x73, rfl, hv73, hbw73⟩; obtain ⟨s6, B6, m6, e6, rfl, _, _, _⟩ := hv73.get; have HV73 := Lib.hid hv73; clear hv73; have hS := NEXT.out _ _ (by with_reducible assumption) hbw73; obtain ⟨hA, hge⟩ := ALC.out _ _ (by with_reducible assumption) hbw73; have e0_ := hA.cell (i := 0) rfl; have e1_ := hA.cell (i := 1) rfl; have hfA := hA.free; have hlA := hA.lt)
            | (go_at_call 102; (with_reducible refine (HC3.out _ s5 B5 m5 e5 (by with_reducible assumption) (HV72.out _ (HV71.out.below hbw72))).mono ?_); rintro _ w73 ⟨x73, rfl, hv73, hbw73⟩; obtain ⟨s6, B6, m6, e6, rfl, _, _, _⟩ := hv73.get; have HV73 := Lib.hid hv73; clear hv73; have hS := NEXT.out _ _ (by with_reducible assumption) hbw73; replace hA := hA.after hbw73; have e0_ := hA.cell (i := 0) rfl; have e1_ := hA.cell (i := 1) rfl; have hfA := hA.free; have hlA := hA.lt)
            | (go_at_call 102; (with_reducible refine (HC3.out _ s5 B5 m5 e5 (by with_reducible assumption) (HV72.out _ ((HV71.out.below (below1 w71 (.cells #[.int .i64 0, .slice none 0 0] 102))).below hbw72))).mono ?_); rintro _ w73 ⟨x73, rfl, hv73, hbw73⟩; obtain ⟨s6, B6, m6, e6, rfl, _, _, _⟩ := hv73.get; have HV73 := Lib.hid hv73; clear hv73; have hS := NEXT.out _ _ (by with_reducible assumption) hbw73; replace hA := hA.after hbw73; have e0_ := hA.cell (i := 0) rfl; have e1_ := hA.cell (i := 1) rfl; have hfA := hA.free; have hlA := hA.lt)
            | (go_at_call 102; (with_reducible refine (HC3.out _ s5 B5 m5 e5 (by with_reducible assumption) (HV72.out _ (HV71.out.below hbw72))).mono ?_); rintro _ w73 ⟨x73, rfl, hv73, hbw73⟩; obtain ⟨s6, B6, m6, e6, rfl, _, _, _⟩ := hv73.get; have HV73 := Lib.hid hv73; clear hv73; have hS := NEXT.out _ _ (by with_reducible assumption) hbw73)
            | (go_at_call 102; (with_reducible refine (HC3.out _ s5 B5 m5 e5 (by with_reducible assumption) (HV72.out _ ((HV71.out.below (below1 w71 (.cells #[.int .i64 0, .slice none 0 0] 102))).below hbw72))).mono ?_); rintro _ w73 ⟨x73, rfl, hv73, hbw73⟩; obtain ⟨s6, B6, m6, e6, rfl, _, _, _⟩ := hv73.get; have HV73 := Lib.hid hv73; clear hv73; have hS := NEXT.out _ _ (by with_reducible assumption) hbw73))
        all_goals
          go_wp2_with fail
          go_meet
          first
            | (have k := hA.set2 (.int .i64 s6) (.slice B6 m6 e6); have h := STO.out _ _ (.int .i64 s6) (.slice B6 m6 e6) hS hge; have hq := HV73.out.put2 (i := 0) (j := 1) (u := .int .i64 s6) (x := .slice B6 m6 e6) hA (hnoW _ _ _ _); with_reducible exact ⟨_, _, _, _, _, rfl, rfl, Lib.hid k, Lib.hid hq, Lib.hid h.2.2.2⟩)
            | (have k := Blk.new w73 #[.int .i64 s6, .slice B6 m6 e6] 102; have h := ALL.out _ (.cells #[.int .i64 s6, .slice B6 m6 e6] 102) hS; have hq := HV73.out.below (below1 w73 (.cells #[.int .i64 s6, .slice B6 m6 e6] 102)); with_reducible exact ⟨_, _, _, _, _, rfl, rfl, Lib.hid k, Lib.hid hq, Lib.hid h.2.2.2⟩)
      case rest =>
        obtain ⟨P3, s7, B7, m7, e7, rfl, rfl, K12, HS, HBY⟩ := hcut
        replace HB := Lib.hid (HB.out.trans (HBY.out.mono HB.out.size))
        clear HBY KEEP NEXT ALL ALC STO hdrew hdrewA ALD HC1 HC2 HC3 SBEL
        have y2 : P3 < wc.heap.size := K12.out.lt
        have d0 := K12.out.cell (i := 0) rfl
        have d1 := K12.out.cell (i := 1) rfl
        have C5 := Lib.hid (toIntN HS.out BD.out.2.2.2.2.2.2.2)
        rw [FIN.out] at C5
        have hwt : ∃ p q, intW (a * (n : Rat)).floor = .tuple #[.int .i64 p, .int .i64 q] := by
          unfold intW; split <;> exact ⟨_, _, rfl⟩
        obtain ⟨p5, q5, hpq⟩ := hwt
        rw [hpq] at C5
        have HPQ := Lib.hid hpq
        clear hpq
        go_wp2_with fail
        refine C5.out.mono ?_
        rintro _ w9 ⟨rfl, hb⟩
        replace HB := Lib.hid (HB.out.trans (hb.mono HB.out.size))
        clear hb
        go_wp2_with fail
        go_ret2
        exact ⟨by rw [HPQ.out]; rfl, HB.out⟩
  · have hq' : ∃ q : Rat, q = a := ⟨_, rfl⟩
    obtain ⟨q, hq'⟩ := hq'
    have FIN : Hid (q.floor * (n.natAbs : Int) + ((rst q * n.natAbs / q.den : Nat) : Int) = (a * (n : Rat)).floor) := Lib.hid (by rw [hq']; exact SF.out.2 (by omega))
    have SC := Lib.hid (show ScOk q n.natAbs k from ⟨hk, by rw [hq']; exact SA.out, hF'.out⟩)
    have HQE := Lib.hid hq'
    clear hq'
    go_enter Tryz.func27, Tryz.ntmps27
    go_wp2_with fail
    refine C1.out.mono ?_
    rintro _ w3 ⟨rfl, hb⟩
    replace HQ := Lib.hid ((HQ.out.below hb).cast HQE.out.symm)
    replace HT := Lib.hid (HT.out.below hb)
    replace HB := Lib.hid (HB.out.trans (hb.mono HB.out.size))
    replace K2 := Lib.hid (K2.out.after hb)
    clear hb C1
    go_upto_region 6 with fail
    have y2 : w.heap.size < w3.heap.size := K2.out.lt
    have d0 := K2.out.cell (i := 0) rfl
    have d1 := K2.out.cell (i := 1) rfl
    have d2 := K2.out.cell (i := 2) rfl
    have C2 := Lib.hid (splitQ HQ.out (SC.out.s.up (by have := SC.out.kk; omega)))
    have KD := Lib.hid HQ.out.inv.2.1
    have BD := Lib.hid SC.out.b
    go_wp2_with fail
    refine C2.out.mono ?_
    rintro _ w4 ⟨x, R, rn, rc, rfl, hx, hy, hb⟩
    obtain ⟨s0, B0, m0, e0, rfl, _, _, _⟩ := hx.get
    have hb1 := below1 w4 (.cells #[.int .i64 s0, .slice B0 m0 e0] 102)
    have hbb := hb.trans (hb1.mono hb.size)
    replace KD := Lib.hid (KD.out.below hbb)
    replace HT := Lib.hid (HT.out.below hbb)
    replace HB := Lib.hid (HB.out.trans (hbb.mono HB.out.size))
    replace K2 := Lib.hid (K2.out.after hbb)
    have HZ := Lib.hid (hx.below hb1)
    have HR := Lib.hid (hy.below hb1)
    have K7 := Lib.hid (Blk.new w4 #[.int .i64 s0, .slice B0 m0 e0] 102)
    clear hb hx hy C2 d0 d1 d2 y2 HQ hb1 hbb
    go_upto_region 7 with fail
    generalize hP : w4.heap.size = P at *
    clear hP
    generalize w4.alloc (.cells #[.int .i64 s0, .slice B0 m0 e0] 102) = w5 at *
    have C3 := Lib.hid (CM.out w5)
    go_wp2_with fail
    refine C3.out.mono ?_
    rintro _ w6 ⟨x, rfl, hx, hb⟩
    obtain ⟨F, fn, fc, rfl⟩ := hx.shape
    replace KD := Lib.hid (KD.out.below hb)
    replace HT := Lib.hid (HT.out.below hb)
    replace HB := Lib.hid (HB.out.trans (hb.mono HB.out.size))
    replace K2 := Lib.hid (K2.out.after hb)
    replace HZ := Lib.hid (HZ.out.below hb)
    replace HR := Lib.hid (HR.out.below hb)
    replace K7 := Lib.hid (K7.out.after hb)
    have HF := Lib.hid hx
    clear hx hb C3
    go_upto_region 8 with fail
    have KEEP : Hid (∀ W, Below w6.heap.size w6 W → (W.cell? ⟨P, 0, none⟩ = some (.int .i64 s0) ∧ W.cell? ⟨P, 1, none⟩ = some (.slice B0 m0 e0) ∧ Below w6.heap.size w6 W)) := Lib.hid fun W h1 => ⟨(K7.out.after h1).cell rfl, (K7.out.after h1).cell rfl, h1⟩
    have HC1 : Hid (∀ W, (W.cell? ⟨P, 0, none⟩ = some (.int .i64 s0) ∧ W.cell? ⟨P, 1, none⟩ = some (.slice B0 m0 e0) ∧ Below w6.heap.size w6 W) → Calls Tryz.prog 86 #[.bool false, .slice F fn fc] W fun e w' => ∃ x, e = .returned x ∧ (∀ V, Nr V n.natAbs (.slice F fn fc) → Wh V (sn false n.natAbs) x) ∧ Below W.heap.size W w') := Lib.hid fun W h => signedN false (HF.out.below h.2.2)
    have HC2 : Hid (∀ W s1 B1 m1 e1, (W.cell? ⟨P, 0, none⟩ = some (.int .i64 s0) ∧ W.cell? ⟨P, 1, none⟩ = some (.slice B0 m0 e0) ∧ Below w6.heap.size w6 W) → Wh W (n.natAbs : Int) (.agg #[.int .i64 s1, .slice B1 m1 e1]) → Calls Tryz.prog 101 #[.agg #[.int .i64 s0, .slice B0 m0 e0], .agg #[.int .i64 s1, .slice B1 m1 e1]] W fun e w' => ∃ r, e = .returned (.tuple #[r, .int .i64 0]) ∧ Wh w' (q.floor * (n.natAbs : Int)) r ∧ Below W.heap.size W w') := Lib.hid fun W s1 B1 m1 e1 h hw => timesN (HZ.out.below h.2.2) hw (HT.out.below h.2.2) BD.out.1 (by rw [Int.natAbs_natCast]; exact BD.out.2.1) BD.out.2.2.1
    have SBEL : Hid (∀ W, (W.cell? ⟨P, 0, none⟩ = some (.int .i64 s0) ∧ W.cell? ⟨P, 1, none⟩ = some (.slice B0 m0 e0) ∧ Below w6.heap.size w6 W) → Below w6.heap.size w6 W) := Lib.hid fun W h => h.2.2
    have NEXT : Hid (∀ W W', (W.cell? ⟨P, 0, none⟩ = some (.int .i64 s0) ∧ W.cell? ⟨P, 1, none⟩ = some (.slice B0 m0 e0) ∧ Below w6.heap.size w6 W) → Below W.heap.size W W' → (W'.cell? ⟨P, 0, none⟩ = some (.int .i64 s0) ∧ W'.cell? ⟨P, 1, none⟩ = some (.slice B0 m0 e0) ∧ Below w6.heap.size w6 W')) := Lib.hid fun W W' h hb => KEEP.out W' (h.2.2.trans (hb.mono h.2.2.size))
    have ALL : Hid (∀ W o, (W.cell? ⟨P, 0, none⟩ = some (.int .i64 s0) ∧ W.cell? ⟨P, 1, none⟩ = some (.slice B0 m0 e0) ∧ Below w6.heap.size w6 W) → ((W.alloc o).cell? ⟨P, 0, none⟩ = some (.int .i64 s0) ∧ (W.alloc o).cell? ⟨P, 1, none⟩ = some (.slice B0 m0 e0) ∧ Below w6.heap.size w6 (W.alloc o))) := Lib.hid fun W o h => NEXT.out W _ h (below1 W o)
    have ALC : Hid (∀ W w', (W.cell? ⟨P, 0, none⟩ = some (.int .i64 s0) ∧ W.cell? ⟨P, 1, none⟩ = some (.slice B0 m0 e0) ∧ Below w6.heap.size w6 W) → Below (W.alloc (.cells #[.int .i64 0, .slice none 0 0] 102)).heap.size (W.alloc (.cells #[.int .i64 0, .slice none 0 0] 102)) w' → Blk w' W.heap.size 102 #[.int .i64 0, .slice none 0 0] ∧ w6.heap.size ≤ W.heap.size) := Lib.hid fun W w' h hb => ⟨(Blk.new W _ _).after hb, h.2.2.size⟩
    have STO : Hid (∀ W p u v, (W.cell? ⟨P, 0, none⟩ = some (.int .i64 s0) ∧ W.cell? ⟨P, 1, none⟩ = some (.slice B0 m0 e0) ∧ Below w6.heap.size w6 W) → w6.heap.size ≤ p → (((W.setCell ⟨p, 0, none⟩ u).setCell ⟨p, 1, none⟩ v).cell? ⟨P, 0, none⟩ = some (.int .i64 s0) ∧ ((W.setCell ⟨p, 0, none⟩ u).setCell ⟨p, 1, none⟩ v).cell? ⟨P, 1, none⟩ = some (.slice B0 m0 e0) ∧ Below w6.heap.size w6 ((W.setCell ⟨p, 0, none⟩ u).setCell ⟨p, 1, none⟩ v))) := Lib.hid fun W p u v h hg => KEEP.out _ ((h.2.2.setCell hg _).setCell hg _)
    have hdrew := KEEP.out w6.drew (Below.refl _ _).drew
    have hdrewA := KEEP.out ((w6.alloc (.cells #[.int .i64 0, .slice none 0 0] 102)).drew) (below1 w6 _).drew
    have ALD : Hid (∀ w', Below ((w6.alloc (.cells #[.int .i64 0, .slice none 0 0] 102)).drew).heap.size ((w6.alloc (.cells #[.int .i64 0, .slice none 0 0] 102)).drew) w' → Blk w' w6.heap.size 102 #[.int .i64 0, .slice none 0 0] ∧ w6.heap.size ≤ w6.heap.size) := Lib.hid fun w' hb => ⟨Blk.after (show Blk ((w6.alloc (.cells #[.int .i64 0, .slice none 0 0] 102)).drew) w6.heap.size 102 #[.int .i64 0, .slice none 0 0] from Blk.new w6 _ _) hb, Nat.le_refl _⟩
    go_cut [10, 11] (fun p e wx => ∃ g s B m d, p = .pointer (some ⟨g, 0, none⟩) ∧ e = .int .i64 0 ∧ Hid (Blk wx g 102 #[.int .i64 s, .slice B m d]) ∧ Hid (Wh wx (q.floor * (n.natAbs : Int)) (.agg #[.int .i64 s, .slice B m d])) ∧ Hid (Below w6.heap.size w6 wx))
    case first =>
      go_region_held3 (fun W => W.cell? ⟨P, 0, none⟩ = some (.int .i64 s0) ∧ W.cell? ⟨P, 1, none⟩ = some (.slice B0 m0 e0) ∧ Below w6.heap.size w6 W)
        (first | with_reducible assumption | with_reducible exact ALL.out _ _ (by with_reducible assumption) | with_reducible exact STO.out _ _ _ _ (by with_reducible assumption) hge)
        (first
          | (go_at_call 86; (with_reducible refine (HC1.out ((w6.alloc (.cells #[.int .i64 0, .slice none 0 0] 102)).drew) (by with_reducible assumption)).mono ?_); rintro _ w61 ⟨x61, rfl, hv61, hbw61⟩; obtain ⟨s1, B1, m1, e1, rfl, _, _, _⟩ := (hv61 w6 HF.out).get; have HV61 := Lib.hid hv61; clear hv61; have hS := NEXT.out _ _ (by with_reducible assumption) hbw61; obtain ⟨hA, hge⟩ := ALD.out _ hbw61; have e0_ := hA.cell (i := 0) rfl; have e1_ := hA.cell (i := 1) rfl; have hfA := hA.free; have hlA := hA.lt)
          | (go_at_call 86; (with_reducible refine (HC1.out (World.alloc _ (.cells #[.int .i64 0, .slice none 0 0] 102)) (by with_reducible assumption)).mono ?_); rintro _ w61 ⟨x61, rfl, hv61, hbw61⟩; obtain ⟨s1, B1, m1, e1, rfl, _, _, _⟩ := (hv61 w6 HF.out).get; have HV61 := Lib.hid hv61; clear hv61; have hS := NEXT.out _ _ (by with_reducible assumption) hbw61; obtain ⟨hA, hge⟩ := ALC.out _ _ (by with_reducible assumption) hbw61; have e0_ := hA.cell (i := 0) rfl; have e1_ := hA.cell (i := 1) rfl; have hfA := hA.free; have hlA := hA.lt)
          | (go_at_call 86; (with_reducible refine (HC1.out _ (by with_reducible assumption)).mono ?_); rintro _ w61 ⟨x61, rfl, hv61, hbw61⟩; obtain ⟨s1, B1, m1, e1, rfl, _, _, _⟩ := (hv61 w6 HF.out).get; have HV61 := Lib.hid hv61; clear hv61; have hS := NEXT.out _ _ (by with_reducible assumption) hbw61; replace hA := hA.after hbw61; have e0_ := hA.cell (i := 0) rfl; have e1_ := hA.cell (i := 1) rfl; have hfA := hA.free; have hlA := hA.lt)
          | (go_at_call 86; (with_reducible refine (HC1.out _ (by with_reducible assumption)).mono ?_); rintro _ w61 ⟨x61, rfl, hv61, hbw61⟩; obtain ⟨s1, B1, m1, e1, rfl, _, _, _⟩ := (hv61 w6 HF.out).get; have HV61 := Lib.hid hv61; clear hv61; have hS := NEXT.out _ _ (by with_reducible assumption) hbw61)
          | (go_at_call 101; (with_reducible refine (HC2.out (World.alloc _ (.cells #[.int .i64 0, .slice none 0 0] 102)) s1 B1 m1 e1 (by with_reducible assumption) (HV61.out _ (HF.out.below (SBEL.out _ (by with_reducible assumption))))).mono ?_); rintro _ w62 ⟨x62, rfl, hv62, hbw62⟩; obtain ⟨s2, B2, m2, e2, rfl, _, _, _⟩ := hv62.get; have HV62 := Lib.hid hv62; clear hv62; have hS := NEXT.out _ _ (by with_reducible assumption) hbw62; obtain ⟨hA, hge⟩ := ALC.out _ _ (by with_reducible assumption) hbw62; have e0_ := hA.cell (i := 0) rfl; have e1_ := hA.cell (i := 1) rfl; have hfA := hA.free; have hlA := hA.lt)
          | (go_at_call 101; (with_reducible refine (HC2.out _ s1 B1 m1 e1 (by with_reducible assumption) (HV61.out _ (HF.out.below (SBEL.out _ (by with_reducible assumption))))).mono ?_); rintro _ w62 ⟨x62, rfl, hv62, hbw62⟩; obtain ⟨s2, B2, m2, e2, rfl, _, _, _⟩ := hv62.get; have HV62 := Lib.hid hv62; clear hv62; have hS := NEXT.out _ _ (by with_reducible assumption) hbw62; replace hA := hA.after hbw62; have e0_ := hA.cell (i := 0) rfl; have e1_ := hA.cell (i := 1) rfl; have hfA := hA.free; have hlA := hA.lt)
          | (go_at_call 101; (with_reducible refine (HC2.out _ s1 B1 m1 e1 (by with_reducible assumption) (HV61.out _ (HF.out.below (SBEL.out _ (by with_reducible assumption))))).mono ?_); rintro _ w62 ⟨x62, rfl, hv62, hbw62⟩; obtain ⟨s2, B2, m2, e2, rfl, _, _, _⟩ := hv62.get; have HV62 := Lib.hid hv62; clear hv62; have hS := NEXT.out _ _ (by with_reducible assumption) hbw62))
      all_goals
        go_wp2_with fail
        go_meet
        first
          | (have k := hA.set2 (.int .i64 s2) (.slice B2 m2 e2); have h := STO.out _ _ (.int .i64 s2) (.slice B2 m2 e2) hS hge; have hq := HV62.out.put2 (i := 0) (j := 1) (u := .int .i64 s2) (x := .slice B2 m2 e2) hA (hnoW _ _ _ _); with_reducible exact ⟨_, _, _, _, _, rfl, rfl, Lib.hid k, Lib.hid hq, Lib.hid h.2.2⟩)
          | (have k := Blk.new w62 #[.int .i64 s2, .slice B2 m2 e2] 102; have h := ALL.out _ (.cells #[.int .i64 s2, .slice B2 m2 e2] 102) hS; have hq := HV62.out.below (below1 w62 (.cells #[.int .i64 s2, .slice B2 m2 e2] 102)); with_reducible exact ⟨_, _, _, _, _, rfl, rfl, Lib.hid k, Lib.hid hq, Lib.hid h.2.2⟩)
    case rest =>
      obtain ⟨P2, s3, B3, m3, e3, rfl, rfl, K10, HM, HBX⟩ := hcut
      replace KD := Lib.hid (KD.out.below HBX.out)
      replace HB := Lib.hid (HB.out.trans (HBX.out.mono HB.out.size))
      replace K2 := Lib.hid (K2.out.after HBX.out)
      replace HR := Lib.hid (HR.out.below HBX.out)
      replace HF := Lib.hid (HF.out.below HBX.out)
      clear HBX KEEP NEXT ALL ALC STO hdrew hdrewA ALD HC1 HC2 SBEL HZ HT K7
      generalize wc = w7 at *
      go_upto_region 11 with fail
      have KEEP : Hid (∀ W, Below w7.heap.size w7 W → (W.cell? ⟨P2, 0, none⟩ = some (.int .i64 s3) ∧ W.cell? ⟨P2, 1, none⟩ = some (.slice B3 m3 e3) ∧ W.cell? ⟨w.heap.size, 2, none⟩ = some (.slice A2 n2 c2) ∧ Below w7.heap.size w7 W)) := Lib.hid fun W h1 => ⟨(K10.out.after h1).cell rfl, (K10.out.after h1).cell rfl, (K2.out.after h1).cell rfl, h1⟩
      have SBEL : Hid (∀ W, (W.cell? ⟨P2, 0, none⟩ = some (.int .i64 s3) ∧ W.cell? ⟨P2, 1, none⟩ = some (.slice B3 m3 e3) ∧ W.cell? ⟨w.heap.size, 2, none⟩ = some (.slice A2 n2 c2) ∧ Below w7.heap.size w7 W) → Below w7.heap.size w7 W) := Lib.hid fun W h => h.2.2.2
      have HC1 : Hid (∀ W, (W.cell? ⟨P2, 0, none⟩ = some (.int .i64 s3) ∧ W.cell? ⟨P2, 1, none⟩ = some (.slice B3 m3 e3) ∧ W.cell? ⟨w.heap.size, 2, none⟩ = some (.slice A2 n2 c2) ∧ Below w7.heap.size w7 W) → Calls Tryz.prog 103 #[.agg #[.slice R rn rc, .slice A2 n2 c2], .slice F fn fc] W fun e w' => ∃ x, e = .returned x ∧ Nr w' (rst q * n.natAbs / q.den) x ∧ Below W.heap.size W w') := Lib.hid fun W h => shareN (Fr.mk (HR.out.below h.2.2.2) (KD.out.below h.2.2.2)) (HF.out.below h.2.2.2) q.den_pos BD.out.2.2.2.1 (lt_NL SC.out.s.2 (by have := SC.out.kk; omega)) BD.out.2.1 BD.out.2.2.2.2.1
      have HC2 : Hid (∀ W B4 m4 e4, (W.cell? ⟨P2, 0, none⟩ = some (.int .i64 s3) ∧ W.cell? ⟨P2, 1, none⟩ = some (.slice B3 m3 e3) ∧ W.cell? ⟨w.heap.size, 2, none⟩ = some (.slice A2 n2 c2) ∧ Below w7.heap.size w7 W) → Nr W (rst q * n.natAbs / q.den) (.slice B4 m4 e4) → Calls Tryz.prog 86 #[.bool false, .slice B4 m4 e4] W fun e w' => ∃ x, e = .returned x ∧ (∀ V, Nr V (rst q * n.natAbs / q.den) (.slice B4 m4 e4) → Wh V (sn false (rst q * n.natAbs / q.den)) x) ∧ Below W.heap.size W w') := Lib.hid fun W B4 m4 e4 _ h2 => signedN false h2
      have HC3 : Hid (∀ W s5 B5 m5 e5, (W.cell? ⟨P2, 0, none⟩ = some (.int .i64 s3) ∧ W.cell? ⟨P2, 1, none⟩ = some (.slice B3 m3 e3) ∧ W.cell? ⟨w.heap.size, 2, none⟩ = some (.slice A2 n2 c2) ∧ Below w7.heap.size w7 W) → Wh W ((rst q * n.natAbs / q.den : Nat) : Int) (.agg #[.int .i64 s5, .slice B5 m5 e5]) → Calls Tryz.prog 102 #[.agg #[.int .i64 s3, .slice B3 m3 e3], .agg #[.int .i64 s5, .slice B5 m5 e5]] W fun e w' => ∃ r, e = .returned (.tuple #[r, .int .i64 0]) ∧ Wh w' (q.floor * (n.natAbs : Int) + ((rst q * n.natAbs / q.den : Nat) : Int)) r ∧ Below W.heap.size W w') := Lib.hid fun W s5 B5 m5 e5 h hw => plusN (HM.out.below h.2.2.2) hw BD.out.2.2.1 (by rw [Int.natAbs_natCast]; exact BD.out.2.2.2.2.2.1) (by rw [Int.natAbs_natCast]; exact BD.out.2.2.2.2.2.2.1)
      have NEXT : Hid (∀ W W', (W.cell? ⟨P2, 0, none⟩ = some (.int .i64 s3) ∧ W.cell? ⟨P2, 1, none⟩ = some (.slice B3 m3 e3) ∧ W.cell? ⟨w.heap.size, 2, none⟩ = some (.slice A2 n2 c2) ∧ Below w7.heap.size w7 W) → Below W.heap.size W W' → (W'.cell? ⟨P2, 0, none⟩ = some (.int .i64 s3) ∧ W'.cell? ⟨P2, 1, none⟩ = some (.slice B3 m3 e3) ∧ W'.cell? ⟨w.heap.size, 2, none⟩ = some (.slice A2 n2 c2) ∧ Below w7.heap.size w7 W')) := Lib.hid fun W W' h hb => KEEP.out W' (h.2.2.2.trans (hb.mono h.2.2.2.size))
      have ALL : Hid (∀ W o, (W.cell? ⟨P2, 0, none⟩ = some (.int .i64 s3) ∧ W.cell? ⟨P2, 1, none⟩ = some (.slice B3 m3 e3) ∧ W.cell? ⟨w.heap.size, 2, none⟩ = some (.slice A2 n2 c2) ∧ Below w7.heap.size w7 W) → ((W.alloc o).cell? ⟨P2, 0, none⟩ = some (.int .i64 s3) ∧ (W.alloc o).cell? ⟨P2, 1, none⟩ = some (.slice B3 m3 e3) ∧ (W.alloc o).cell? ⟨w.heap.size, 2, none⟩ = some (.slice A2 n2 c2) ∧ Below w7.heap.size w7 (W.alloc o))) := Lib.hid fun W o h => NEXT.out W _ h (below1 W o)
      have ALC : Hid (∀ W w', (W.cell? ⟨P2, 0, none⟩ = some (.int .i64 s3) ∧ W.cell? ⟨P2, 1, none⟩ = some (.slice B3 m3 e3) ∧ W.cell? ⟨w.heap.size, 2, none⟩ = some (.slice A2 n2 c2) ∧ Below w7.heap.size w7 W) → Below (W.alloc (.cells #[.int .i64 0, .slice none 0 0] 102)).heap.size (W.alloc (.cells #[.int .i64 0, .slice none 0 0] 102)) w' → Blk w' W.heap.size 102 #[.int .i64 0, .slice none 0 0] ∧ w7.heap.size ≤ W.heap.size) := Lib.hid fun W w' h hb => ⟨(Blk.new W _ _).after hb, h.2.2.2.size⟩
      have STO : Hid (∀ W p u v, (W.cell? ⟨P2, 0, none⟩ = some (.int .i64 s3) ∧ W.cell? ⟨P2, 1, none⟩ = some (.slice B3 m3 e3) ∧ W.cell? ⟨w.heap.size, 2, none⟩ = some (.slice A2 n2 c2) ∧ Below w7.heap.size w7 W) → w7.heap.size ≤ p → (((W.setCell ⟨p, 0, none⟩ u).setCell ⟨p, 1, none⟩ v).cell? ⟨P2, 0, none⟩ = some (.int .i64 s3) ∧ ((W.setCell ⟨p, 0, none⟩ u).setCell ⟨p, 1, none⟩ v).cell? ⟨P2, 1, none⟩ = some (.slice B3 m3 e3) ∧ ((W.setCell ⟨p, 0, none⟩ u).setCell ⟨p, 1, none⟩ v).cell? ⟨w.heap.size, 2, none⟩ = some (.slice A2 n2 c2) ∧ Below w7.heap.size w7 ((W.setCell ⟨p, 0, none⟩ u).setCell ⟨p, 1, none⟩ v))) := Lib.hid fun W p u v h hg => KEEP.out _ ((h.2.2.2.setCell hg _).setCell hg _)
      have hdrew := KEEP.out w7.drew (Below.refl _ _).drew
      have hdrewA := KEEP.out ((w7.alloc (.cells #[.int .i64 0, .slice none 0 0] 102)).drew) (below1 w7 _).drew
      have ALD : Hid (∀ w', Below ((w7.alloc (.cells #[.int .i64 0, .slice none 0 0] 102)).drew).heap.size ((w7.alloc (.cells #[.int .i64 0, .slice none 0 0] 102)).drew) w' → Blk w' w7.heap.size 102 #[.int .i64 0, .slice none 0 0] ∧ w7.heap.size ≤ w7.heap.size) := Lib.hid fun w' hb => ⟨Blk.after (show Blk ((w7.alloc (.cells #[.int .i64 0, .slice none 0 0] 102)).drew) w7.heap.size 102 #[.int .i64 0, .slice none 0 0] from Blk.new w7 _ _) hb, Nat.le_refl _⟩
      go_cut [12, 11] (fun p e wx => ∃ g s B m d, p = .pointer (some ⟨g, 0, none⟩) ∧ e = .int .i64 0 ∧ Hid (Blk wx g 102 #[.int .i64 s, .slice B m d]) ∧ Hid (Wh wx (q.floor * (n.natAbs : Int) + ((rst q * n.natAbs / q.den : Nat) : Int)) (.agg #[.int .i64 s, .slice B m d])) ∧ Hid (Below w7.heap.size w7 wx))
      case first =>
        go_region_held3 (fun W => W.cell? ⟨P2, 0, none⟩ = some (.int .i64 s3) ∧ W.cell? ⟨P2, 1, none⟩ = some (.slice B3 m3 e3) ∧ W.cell? ⟨w.heap.size, 2, none⟩ = some (.slice A2 n2 c2) ∧ Below w7.heap.size w7 W)
          (first | with_reducible assumption | with_reducible exact ALL.out _ _ (by with_reducible assumption) | with_reducible exact STO.out _ _ _ _ (by with_reducible assumption) hge)
          (first
            | (go_at_call 103; (with_reducible refine (HC1.out ((w7.alloc (.cells #[.int .i64 0, .slice none 0 0] 102)).drew) (by with_reducible assumption)).mono ?_); rintro _ w71 ⟨x71, rfl, hv71, hbw71⟩; obtain ⟨B4, m4, e4, rfl⟩ := hv71.shape; have HV71 := Lib.hid hv71; clear hv71; have hS := NEXT.out _ _ (by with_reducible assumption) hbw71; obtain ⟨hA, hge⟩ := ALD.out _ hbw71; have e0_ := hA.cell (i := 0) rfl; have e1_ := hA.cell (i := 1) rfl; have hfA := hA.free; have hlA := hA.lt)
            | (go_at_call 103; (with_reducible refine (HC1.out (World.alloc _ (.cells #[.int .i64 0, .slice none 0 0] 102)) (by with_reducible assumption)).mono ?_); rintro _ w71 ⟨x71, rfl, hv71, hbw71⟩; obtain ⟨B4, m4, e4, rfl⟩ := hv71.shape; have HV71 := Lib.hid hv71; clear hv71; have hS := NEXT.out _ _ (by with_reducible assumption) hbw71; obtain ⟨hA, hge⟩ := ALC.out _ _ (by with_reducible assumption) hbw71; have e0_ := hA.cell (i := 0) rfl; have e1_ := hA.cell (i := 1) rfl; have hfA := hA.free; have hlA := hA.lt)
            | (go_at_call 103; (with_reducible refine (HC1.out _ (by with_reducible assumption)).mono ?_); rintro _ w71 ⟨x71, rfl, hv71, hbw71⟩; obtain ⟨B4, m4, e4, rfl⟩ := hv71.shape; have HV71 := Lib.hid hv71; clear hv71; have hS := NEXT.out _ _ (by with_reducible assumption) hbw71; replace hA := hA.after hbw71; have e0_ := hA.cell (i := 0) rfl; have e1_ := hA.cell (i := 1) rfl; have hfA := hA.free; have hlA := hA.lt)
            | (go_at_call 103; (with_reducible refine (HC1.out _ (by with_reducible assumption)).mono ?_); rintro _ w71 ⟨x71, rfl, hv71, hbw71⟩; obtain ⟨B4, m4, e4, rfl⟩ := hv71.shape; have HV71 := Lib.hid hv71; clear hv71; have hS := NEXT.out _ _ (by with_reducible assumption) hbw71)
            | (go_at_call 86; (with_reducible refine (HC2.out (World.alloc _ (.cells #[.int .i64 0, .slice none 0 0] 102)) B4 m4 e4 (by with_reducible assumption) (HV71.out.below (below1 w71 (.cells #[.int .i64 0, .slice none 0 0] 102)))).mono ?_); rintro _ w72 ⟨x72, rfl, hv72, hbw72⟩; obtain ⟨s5, B5, m5, e5, rfl, _, _, _⟩ := (hv72 _ HV71.out).get; have HV72 := Lib.hid hv72; clear hv72; have hS := NEXT.out _ _ (by with_reducible assumption) hbw72; obtain ⟨hA, hge⟩ := ALC.out _ _ (by with_reducible assumption) hbw72; have e0_ := hA.cell (i := 0) rfl; have e1_ := hA.cell (i := 1) rfl; have hfA := hA.free; have hlA := hA.lt)
            | (go_at_call 86; (with_reducible refine (HC2.out _ B4 m4 e4 (by with_reducible assumption) HV71.out).mono ?_); rintro _ w72 ⟨x72, rfl, hv72, hbw72⟩; obtain ⟨s5, B5, m5, e5, rfl, _, _, _⟩ := (hv72 _ HV71.out).get; have HV72 := Lib.hid hv72; clear hv72; have hS := NEXT.out _ _ (by with_reducible assumption) hbw72; replace hA := hA.after hbw72; have e0_ := hA.cell (i := 0) rfl; have e1_ := hA.cell (i := 1) rfl; have hfA := hA.free; have hlA := hA.lt)
            | (go_at_call 86; (with_reducible refine (HC2.out _ B4 m4 e4 (by with_reducible assumption) HV71.out).mono ?_); rintro _ w72 ⟨x72, rfl, hv72, hbw72⟩; obtain ⟨s5, B5, m5, e5, rfl, _, _, _⟩ := (hv72 _ HV71.out).get; have HV72 := Lib.hid hv72; clear hv72; have hS := NEXT.out _ _ (by with_reducible assumption) hbw72)
            | (go_at_call 102; (with_reducible refine (HC3.out (World.alloc _ (.cells #[.int .i64 0, .slice none 0 0] 102)) s5 B5 m5 e5 (by with_reducible assumption) (HV72.out _ ((HV71.out.below hbw72).below (below1 w72 (.cells #[.int .i64 0, .slice none 0 0] 102))))).mono ?_); rintro _ w73 ⟨x73, rfl, hv73, hbw73⟩; obtain ⟨s6, B6, m6, e6, rfl, _, _, _⟩ := hv73.get; have HV73 := Lib.hid hv73; clear hv73; have hS := NEXT.out _ _ (by with_reducible assumption) hbw73; obtain ⟨hA, hge⟩ := ALC.out _ _ (by with_reducible assumption) hbw73; have e0_ := hA.cell (i := 0) rfl; have e1_ := hA.cell (i := 1) rfl; have hfA := hA.free; have hlA := hA.lt)
            | (go_at_call 102; (with_reducible refine (HC3.out _ s5 B5 m5 e5 (by with_reducible assumption) (HV72.out _ (HV71.out.below hbw72))).mono ?_); rintro _ w73 ⟨x73, rfl, hv73, hbw73⟩; obtain ⟨s6, B6, m6, e6, rfl, _, _, _⟩ := hv73.get; have HV73 := Lib.hid hv73; clear hv73; have hS := NEXT.out _ _ (by with_reducible assumption) hbw73; replace hA := hA.after hbw73; have e0_ := hA.cell (i := 0) rfl; have e1_ := hA.cell (i := 1) rfl; have hfA := hA.free; have hlA := hA.lt)
            | (go_at_call 102; (with_reducible refine (HC3.out _ s5 B5 m5 e5 (by with_reducible assumption) (HV72.out _ ((HV71.out.below (below1 w71 (.cells #[.int .i64 0, .slice none 0 0] 102))).below hbw72))).mono ?_); rintro _ w73 ⟨x73, rfl, hv73, hbw73⟩; obtain ⟨s6, B6, m6, e6, rfl, _, _, _⟩ := hv73.get; have HV73 := Lib.hid hv73; clear hv73; have hS := NEXT.out _ _ (by with_reducible assumption) hbw73; replace hA := hA.after hbw73; have e0_ := hA.cell (i := 0) rfl; have e1_ := hA.cell (i := 1) rfl; have hfA := hA.free; have hlA := hA.lt)
            | (go_at_call 102; (with_reducible refine (HC3.out _ s5 B5 m5 e5 (by with_reducible assumption) (HV72.out _ (HV71.out.below hbw72))).mono ?_); rintro _ w73 ⟨x73, rfl, hv73, hbw73⟩; obtain ⟨s6, B6, m6, e6, rfl, _, _, _⟩ := hv73.get; have HV73 := Lib.hid hv73; clear hv73; have hS := NEXT.out _ _ (by with_reducible assumption) hbw73)
            | (go_at_call 102; (with_reducible refine (HC3.out _ s5 B5 m5 e5 (by with_reducible assumption) (HV72.out _ ((HV71.out.below (below1 w71 (.cells #[.int .i64 0, .slice none 0 0] 102))).below hbw72))).mono ?_); rintro _ w73 ⟨x73, rfl, hv73, hbw73⟩; obtain ⟨s6, B6, m6, e6, rfl, _, _, _⟩ := hv73.get; have HV73 := Lib.hid hv73; clear hv73; have hS := NEXT.out _ _ (by with_reducible assumption) hbw73))
        all_goals
          go_wp2_with fail
          go_meet
          first
            | (have k := hA.set2 (.int .i64 s6) (.slice B6 m6 e6); have h := STO.out _ _ (.int .i64 s6) (.slice B6 m6 e6) hS hge; have hq := HV73.out.put2 (i := 0) (j := 1) (u := .int .i64 s6) (x := .slice B6 m6 e6) hA (hnoW _ _ _ _); with_reducible exact ⟨_, _, _, _, _, rfl, rfl, Lib.hid k, Lib.hid hq, Lib.hid h.2.2.2⟩)
            | (have k := Blk.new w73 #[.int .i64 s6, .slice B6 m6 e6] 102; have h := ALL.out _ (.cells #[.int .i64 s6, .slice B6 m6 e6] 102) hS; have hq := HV73.out.below (below1 w73 (.cells #[.int .i64 s6, .slice B6 m6 e6] 102)); with_reducible exact ⟨_, _, _, _, _, rfl, rfl, Lib.hid k, Lib.hid hq, Lib.hid h.2.2.2⟩)
      case rest =>
        obtain ⟨P3, s7, B7, m7, e7, rfl, rfl, K12, HS, HBY⟩ := hcut
        replace HB := Lib.hid (HB.out.trans (HBY.out.mono HB.out.size))
        clear HBY KEEP NEXT ALL ALC STO hdrew hdrewA ALD HC1 HC2 HC3 SBEL
        have y2 : P3 < wc.heap.size := K12.out.lt
        have d0 := K12.out.cell (i := 0) rfl
        have d1 := K12.out.cell (i := 1) rfl
        have C5 := Lib.hid (toIntN HS.out BD.out.2.2.2.2.2.2.2)
        rw [FIN.out] at C5
        have hwt : ∃ p q, intW (a * (n : Rat)).floor = .tuple #[.int .i64 p, .int .i64 q] := by
          unfold intW; split <;> exact ⟨_, _, rfl⟩
        obtain ⟨p5, q5, hpq⟩ := hwt
        rw [hpq] at C5
        have HPQ := Lib.hid hpq
        clear hpq
        go_wp2_with fail
        refine C5.out.mono ?_
        rintro _ w9 ⟨rfl, hb⟩
        replace HB := Lib.hid (HB.out.trans (hb.mono HB.out.size))
        clear hb
        go_wp2_with fail
        go_ret2
        exact ⟨by rw [HPQ.out]; rfl, HB.out⟩
end Go.Proofs.YtbjaolmlnkliiaaGreatDoor

/- The contracts of SameRat where the numbers are equal, and of the laws' own small functions. Conditions as premises: small numbers. -/
namespace Go.Proofs.YtbjaolmlnkliiaaGreatDoor
open Go.RowKit Go.Shelf
attribute [local go_sem ↓] Go.wp_at_zero Go.wp_at_succ

set_option maxRecDepth 100000 in
set_option maxHeartbeats 4000000 in
theorem sameRatQ {w : World} {q : Rat} {v u : Value} (h : Rq w q v) (k : Rq w q u) :
    Calls Tryz.prog 17 #[v, u] w fun e w' => e = .returned (.bool true) ∧ Below w.heap.size w w' := by
  obtain ⟨b, A1, n1, c1, A2, n2, c2, rfl, h1, h2, e1⟩ := h.get
  obtain ⟨b', A3, n3, c3, A4, n4, c4, rfl, k1, k2, e2⟩ := k.get
  have hbb : b = b' := by rw [e1.out, e2.out]
  subst hbb
  have hb0 := below2 w (.cells #[.bool b, .slice A1 n1 c1, .slice A2 n2 c2] 25) (.cells #[.bool b, .slice A3 n3 c3, .slice A4 n4 c4] 25)
  have x2 := (Blk.new w #[.bool b, .slice A1 n1 c1, .slice A2 n2 c2] 25).alloc (.cells #[.bool b, .slice A3 n3 c3, .slice A4 n4 c4] 25)
  have x3 := Blk.new (w.alloc (.cells #[.bool b, .slice A1 n1 c1, .slice A2 n2 c2] 25)) #[.bool b, .slice A3 n3 c3, .slice A4 n4 c4] 25
  simp only [World.size_alloc] at x2 x3
  have H1 := Lib.hid (h1.below hb0)
  have H2 := Lib.hid (h2.below hb0)
  have K1 := Lib.hid (k1.below hb0)
  have K2 := Lib.hid (k2.below hb0)
  have X2 := Lib.hid x2
  have X3 := Lib.hid x3
  have HB := Lib.hid hb0
  clear h k h1 h2 k1 k2 x2 x3 e1 e2 hb0
  cases b
  all_goals
    go_enter Tryz.func17, Tryz.ntmps17
    go_wp2_with fail
    refine (alikeN H1.out K1.out).mono ?_
    rintro _ w1 ⟨rfl, hq⟩
    have hb := hq.below
    replace HB := Lib.hid (HB.out.trans (hb.mono HB.out.size))
    replace H2 := Lib.hid (H2.out.below hb)
    replace K2 := Lib.hid (K2.out.below hb)
    replace X2 := Lib.hid (X2.out.after hb)
    replace X3 := Lib.hid (X3.out.after hb)
    have y2 : w.heap.size < w1.heap.size := X2.out.lt
    have y3 : w.heap.size + 1 < w1.heap.size := X3.out.lt
    have d2 := X2.out.cell (i := 2) rfl
    have d3 := X3.out.cell (i := 2) rfl
    clear hq hb H1 K1
    go_wp2_with fail
    refine (alikeN H2.out K2.out).mono ?_
    rintro _ w2 ⟨rfl, hq⟩
    replace HB := Lib.hid (HB.out.trans (hq.below.mono HB.out.size))
    clear hq
    go_wp2_with fail
    go_ret
    exact ⟨rfl, HB.out⟩

set_option maxRecDepth 100000 in
set_option maxHeartbeats 4000000 in
theorem ofN (z : Int) (D : Nat) (h0 : -1000000000 ≤ z) (h1 : z ≤ 1000000000) (h2 : 0 < D) (h3 : D ≤ 1000000000) (w : World) :
    Calls Tryz.prog 22 #[.int .i64 z, .int .i64 (D : Int)] w fun e w' => ∃ v, e = .returned v ∧ Rq w' (mkRat z D) v ∧ Below w.heap.size w w' := by
  have C := Lib.hid fun w => ratOfN z D h0 h1 h2 h3 w
  clear h0 h1 h2 h3
  go_enter Tryz.func22, Tryz.ntmps22
  go_wp2_with fail
  refine (C.out _).mono ?_
  rintro _ w1 ⟨x, rfl, hx, hb⟩
  obtain ⟨b, A1, n1, c1, A2, n2, c2, rfl, _, _, _⟩ := hx.get
  have K := Lib.hid ((Blk.new w #[.bool false, .slice none 0 0, .slice none 0 0] 25).after hb)
  have HB := Lib.hid ((below1 w _).trans (hb.mono (below1 w _).size))
  have hz : w.heap.size < w1.heap.size := K.out.lt
  have k0 := K.out.cell (i := 0) rfl
  have k1 := K.out.cell (i := 1) rfl
  have k2 := K.out.cell (i := 2) rfl
  have ff := K.out.free
  have HX := Lib.hid hx
  clear hx hb
  go_wp2_with fail
  refine bodyPost_ret (results_cell_row (p := 4) (ty := 25) rfl _ _ w.heap.size 25 _ _ _ rfl K.out.set.set.set Tryz.underlying25 rfl (by kernel_rfl)) rfl ?_
  obtain ⟨g1, g2, g3⟩ := HX.out.inv
  exact ⟨_, rfl, Rq.mk g3 rfl rfl (g1.put3 K.out (hnoR _ _ _ _ _ _ _)) (g2.put3 K.out (hnoR _ _ _ _ _ _ _)), ((HB.out.setCell (Nat.le_refl _) _).setCell (Nat.le_refl _) _).setCell (Nat.le_refl _) _⟩

set_option maxRecDepth 100000 in
set_option maxHeartbeats 8000000 in
theorem isN {w : World} {q : Rat} {v : Value} (h : Rq w q v) (z : Int) (D : Nat) (h0 : -1000000000 ≤ z) (h1 : z ≤ 1000000000) (h2 : 0 < D) (h3 : D ≤ 1000000000) (he : q = mkRat z D) :
    Calls Tryz.prog 20 #[v, .int .i64 0, .int .i64 z, .int .i64 (D : Int)] w fun e w' => e = .returned (.bool true) ∧ Below w.heap.size w w' := by
  obtain ⟨b, A1, n1, c1, A2, n2, c2, rfl, _, _, _⟩ := h.get
  have hb0 := below1 w (.cells #[.bool b, .slice A1 n1 c1, .slice A2 n2 c2] 25)
  have C := Lib.hid fun w => ofN z D h0 h1 h2 h3 w
  have H := Lib.hid ((h.below hb0).cast he)
  have K := Lib.hid (Blk.new w #[.bool b, .slice A1 n1 c1, .slice A2 n2 c2] 25)
  have HB := Lib.hid hb0
  clear h hb0 h0 h1 h2 h3 he
  go_enter Tryz.func20, Tryz.ntmps20
  go_upto_region 1 with fail
  generalize w.alloc (.cells #[.bool b, .slice A1 n1 c1, .slice A2 n2 c2] 25) = w0 at *
  have KEEP : Hid (∀ W, Below w0.heap.size w0 W → (W.cell? ⟨w.heap.size, 0, none⟩ = some (.bool b) ∧ W.cell? ⟨w.heap.size, 1, none⟩ = some (.slice A1 n1 c1) ∧ W.cell? ⟨w.heap.size, 2, none⟩ = some (.slice A2 n2 c2))) := Lib.hid fun W h1 => ⟨(K.out.after h1).cell rfl, (K.out.after h1).cell rfl, (K.out.after h1).cell rfl⟩
  have hdrew : Below w0.heap.size w0 w0.drew := (Below.refl _ _).drew
  go_region_held3 (fun W => W.cell? ⟨w.heap.size, 0, none⟩ = some (.bool b) ∧ W.cell? ⟨w.heap.size, 1, none⟩ = some (.slice A1 n1 c1) ∧ W.cell? ⟨w.heap.size, 2, none⟩ = some (.slice A2 n2 c2))
    (first | with_reducible exact KEEP.out w0.drew hdrew | with_reducible exact KEEP.out wa hka | with_reducible exact KEEP.out wb hkb)
    (first
      | (go_at_call 22; (with_reducible refine (C.out w0.drew).mono ?_); rintro _ wa ⟨x1, rfl, hv1, hb1⟩; have hka := hdrew.trans (hb1.mono hdrew.size); have CS := Lib.hid (sameRatQ (H.out.below hka) hv1); obtain ⟨b5, B1, m1, d1, B2, m2, d2, rfl, _, _, _⟩ := hv1.get; clear hv1)
      | (go_at_call 17; (with_reducible refine CS.out.mono ?_); rintro _ wb ⟨rfl, hb2⟩; have hkb := hka.trans (hb2.mono hka.size)))
  all_goals
    have HB2 := Lib.hid (HB.out.trans (hkb.mono HB.out.size))
    clear hkb hka hb1 hb2
    go_wp2_with fail
    go_ret
    exact ⟨rfl, HB2.out⟩
end Go.Proofs.YtbjaolmlnkliiaaGreatDoor

/- The contract of the laws' awake. Condition as a premise: the table of signs holds what its initialiser lays. -/
namespace Go.Proofs.YtbjaolmlnkliiaaGreatDoor
open Go.RowKit Go.Shelf

theorem sz_mk {z : Int} {D : Nat} (h0 : z.natAbs < 1000000000) (h2 : D ≠ 0) (h3 : D < 1000000000) : Sz 1 (mkRat z D) := by
  obtain ⟨_, e2, e3⟩ := mkRat_red z D h2
  refine ⟨?_, ?_⟩
  · rw [e2, Nat.pow_one, LB_eq]; exact Nat.lt_of_le_of_lt (Nat.div_le_self _ _) h0
  · rw [e3, Nat.pow_one, LB_eq]; exact Nat.lt_of_le_of_lt (Nat.div_le_self _ _) h3
theorem aw1 : mkRat 1 2 + mkRat 1 3 = mkRat 5 6 := by decide +kernel
theorem aw2 : mkRat 2 3 * mkRat (-3) 4 = mkRat (-1) 2 := by decide +kernel
theorem aw3 : sQ (mkRat 1 3) (mkRat 1 2) = mkRat 1 2 := by decide +kernel
theorem aw4 : intW (mkRat (-1) 3 * ((100 : Int) : Rat)).floor = .tuple #[.int .i64 (-34), .int .i64 0] := by
  have h : (mkRat (-1) 3 * ((100 : Int) : Rat)).floor = -34 := by decide +kernel
  rw [h]; unfold intW; rw [if_pos (by omega)]
theorem aw5 : mkRat 1 3 ≤ mkRat 1 2 := by decide +kernel

set_option maxRecDepth 100000 in
set_option maxHeartbeats 8000000 in
theorem awakeN {w : World} (hT : Tabs w) :
    Calls Tryz.prog 12 #[] w fun e w' => e = .returned (.bool true) ∧ Below w.heap.size w w' := by
  have HT := Lib.hid hT
  have HB := Lib.hid (Below.refl w.heap.size w)
  clear hT
  go_enter Tryz.func12, Tryz.ntmps12
  go_wp2_with fail
  refine (ofN (1) 2 (by omega) (by omega) (by omega) (by omega) w).mono ?_
  rintro _ w1 ⟨vH1, rfl, hx, hb⟩
  replace HT := Lib.hid (HT.out.below hb)
  replace HB := Lib.hid (HB.out.trans (hb.mono HB.out.size))
  have H1 := Lib.hid hx
  clear hx hb
  go_wp2_with fail
  refine (ofN (1) 3 (by omega) (by omega) (by omega) (by omega) w1).mono ?_
  rintro _ w2 ⟨vH2, rfl, hx, hb⟩
  replace HT := Lib.hid (HT.out.below hb)
  replace H1 := Lib.hid (H1.out.below hb)
  replace HB := Lib.hid (HB.out.trans (hb.mono HB.out.size))
  have H2 := Lib.hid hx
  clear hx hb
  go_wp2_with fail
  refine (ratAddQ H1.out H2.out HT.out (sz_mk (z := 1) (D := 2) (by decide) (by decide) (by decide)) (sz_mk (z := 1) (D := 3) (by decide) (by decide) (by decide)) (by omega)).mono ?_
  rintro _ w3 ⟨vR1, rfl, hx, hb⟩
  obtain ⟨b3, A3, n3, c3, A3', n3', c3', rfl, _, _, _⟩ := hx.get
  have hba := below1 w3 (.cells #[.bool b3, .slice A3 n3 c3, .slice A3' n3' c3'] 25)
  have hbb := hb.trans (hba.mono hb.size)
  replace HT := Lib.hid (HT.out.below hbb)
  replace H1 := Lib.hid (H1.out.below hbb)
  replace H2 := Lib.hid (H2.out.below hbb)
  replace HB := Lib.hid (HB.out.trans (hbb.mono HB.out.size))
  have R1 := Lib.hid ((hx.below hba).cast aw1)
  have K1 := Lib.hid (Blk.new w3 #[.bool b3, .slice A3 n3 c3, .slice A3' n3' c3'] 25)
  clear hx hb hba hbb
  clear H1
  clear H2
  go_upto_region 2 with fail
  generalize hP3 : w3.heap.size = P3 at *
  clear hP3
  generalize w3.alloc (.cells #[.bool b3, .slice A3 n3 c3, .slice A3' n3' c3'] 25) = w4 at *
  go_wp2_with fail
  refine (ofN (2) 3 (by omega) (by omega) (by omega) (by omega) w4).mono ?_
  rintro _ w5 ⟨vH3, rfl, hx, hb⟩
  replace HT := Lib.hid (HT.out.below hb)
  replace R1 := Lib.hid (R1.out.below hb)
  replace K1 := Lib.hid (K1.out.after hb)
  replace HB := Lib.hid (HB.out.trans (hb.mono HB.out.size))
  have H3 := Lib.hid hx
  clear hx hb
  go_wp2_with fail
  refine (ofN (-3) 4 (by omega) (by omega) (by omega) (by omega) w5).mono ?_
  rintro _ w6 ⟨vH4, rfl, hx, hb⟩
  replace HT := Lib.hid (HT.out.below hb)
  replace R1 := Lib.hid (R1.out.below hb)
  replace K1 := Lib.hid (K1.out.after hb)
  replace H3 := Lib.hid (H3.out.below hb)
  replace HB := Lib.hid (HB.out.trans (hb.mono HB.out.size))
  have H4 := Lib.hid hx
  clear hx hb
  go_wp2_with fail
  refine (ratMulQ H3.out H4.out HT.out (sz_mk (z := 2) (D := 3) (by decide) (by decide) (by decide)) (sz_mk (z := -3) (D := 4) (by decide) (by decide) (by decide)) (by omega)).mono ?_
  rintro _ w7 ⟨vR2, rfl, hx, hb⟩
  obtain ⟨b7, A7, n7, c7, A7', n7', c7', rfl, _, _, _⟩ := hx.get
  have hba := below1 w7 (.cells #[.bool b7, .slice A7 n7 c7, .slice A7' n7' c7'] 25)
  have hbb := hb.trans (hba.mono hb.size)
  replace HT := Lib.hid (HT.out.below hbb)
  replace R1 := Lib.hid (R1.out.below hbb)
  replace K1 := Lib.hid (K1.out.after hbb)
  replace H3 := Lib.hid (H3.out.below hbb)
  replace H4 := Lib.hid (H4.out.below hbb)
  replace HB := Lib.hid (HB.out.trans (hbb.mono HB.out.size))
  have R2 := Lib.hid ((hx.below hba).cast aw2)
  have K2 := Lib.hid (Blk.new w7 #[.bool b7, .slice A7 n7 c7, .slice A7' n7' c7'] 25)
  clear hx hb hba hbb
  clear H3
  clear H4
  go_upto_region 3 with fail
  generalize hP7 : w7.heap.size = P7 at *
  clear hP7
  generalize w7.alloc (.cells #[.bool b7, .slice A7 n7 c7, .slice A7' n7' c7'] 25) = w8 at *
  go_wp2_with fail
  refine (ofN (1) 3 (by omega) (by omega) (by omega) (by omega) w8).mono ?_
  rintro _ w9 ⟨vH5, rfl, hx, hb⟩
  replace HT := Lib.hid (HT.out.below hb)
  replace R1 := Lib.hid (R1.out.below hb)
  replace K1 := Lib.hid (K1.out.after hb)
  replace R2 := Lib.hid (R2.out.below hb)
  replace K2 := Lib.hid (K2.out.after hb)
  replace HB := Lib.hid (HB.out.trans (hb.mono HB.out.size))
  have H5 := Lib.hid hx
  clear hx hb
  go_wp2_with fail
  refine (ofN (1) 2 (by omega) (by omega) (by omega) (by omega) w9).mono ?_
  rintro _ w10 ⟨vH6, rfl, hx, hb⟩
  replace HT := Lib.hid (HT.out.below hb)
  replace R1 := Lib.hid (R1.out.below hb)
  replace K1 := Lib.hid (K1.out.after hb)
  replace R2 := Lib.hid (R2.out.below hb)
  replace K2 := Lib.hid (K2.out.after hb)
  replace H5 := Lib.hid (H5.out.below hb)
  replace HB := Lib.hid (HB.out.trans (hb.mono HB.out.size))
  have H6 := Lib.hid hx
  clear hx hb
  go_wp2_with fail
  refine (ratSimpleQ H5.out H6.out HT.out ((sz_mk (z := 1) (D := 3) (by decide) (by decide) (by decide)).up (by omega)) ((sz_mk (z := 1) (D := 2) (by decide) (by decide) (by decide)).up (by omega)) aw5).mono ?_
  rintro _ w11 ⟨vR3, rfl, hx, hb⟩
  obtain ⟨b11, A11, n11, c11, A11', n11', c11', rfl, _, _, _⟩ := hx.get
  have hba := below1 w11 (.cells #[.bool b11, .slice A11 n11 c11, .slice A11' n11' c11'] 25)
  have hbb := hb.trans (hba.mono hb.size)
  replace HT := Lib.hid (HT.out.below hbb)
  replace R1 := Lib.hid (R1.out.below hbb)
  replace K1 := Lib.hid (K1.out.after hbb)
  replace R2 := Lib.hid (R2.out.below hbb)
  replace K2 := Lib.hid (K2.out.after hbb)
  replace H5 := Lib.hid (H5.out.below hbb)
  replace H6 := Lib.hid (H6.out.below hbb)
  replace HB := Lib.hid (HB.out.trans (hbb.mono HB.out.size))
  have R3 := Lib.hid ((hx.below hba).cast aw3)
  have K3 := Lib.hid (Blk.new w11 #[.bool b11, .slice A11 n11 c11, .slice A11' n11' c11'] 25)
  clear hx hb hba hbb
  clear H5
  clear H6
  go_upto_region 4 with fail
  generalize hP11 : w11.heap.size = P11 at *
  clear hP11
  generalize w11.alloc (.cells #[.bool b11, .slice A11 n11 c11, .slice A11' n11' c11'] 25) = w12 at *
  go_wp2_with fail
  refine (ofN (-1) 3 (by omega) (by omega) (by omega) (by omega) w12).mono ?_
  rintro _ w13 ⟨vH7, rfl, hx, hb⟩
  replace HT := Lib.hid (HT.out.below hb)
  replace R1 := Lib.hid (R1.out.below hb)
  replace K1 := Lib.hid (K1.out.after hb)
  replace R2 := Lib.hid (R2.out.below hb)
  replace K2 := Lib.hid (K2.out.after hb)
  replace R3 := Lib.hid (R3.out.below hb)
  replace K3 := Lib.hid (K3.out.after hb)
  replace HB := Lib.hid (HB.out.trans (hb.mono HB.out.size))
  have H7 := Lib.hid hx
  clear hx hb
  go_wp2_with fail
  have cs := ratScaleQ 100 H7.out HT.out (by omega) (sz_mk (z := -1) (D := 3) (by decide) (by decide) (by decide)) (by omega) (by omega)
  rw [aw4] at cs
  have CS := Lib.hid cs
  clear cs
  refine CS.out.mono ?_
  rintro _ w14 ⟨rfl, hb⟩
  replace HT := Lib.hid (HT.out.below hb)
  replace R1 := Lib.hid (R1.out.below hb)
  replace K1 := Lib.hid (K1.out.after hb)
  replace R2 := Lib.hid (R2.out.below hb)
  replace K2 := Lib.hid (K2.out.after hb)
  replace R3 := Lib.hid (R3.out.below hb)
  replace K3 := Lib.hid (K3.out.after hb)
  replace H7 := Lib.hid (H7.out.below hb)
  replace HB := Lib.hid (HB.out.trans (hb.mono HB.out.size))
  clear hb CS
  clear H7
  have dK10 := K1.out.cell (i := 0) rfl
  have dK11 := K1.out.cell (i := 1) rfl
  have dK12 := K1.out.cell (i := 2) rfl
  have zK1 := K1.out.lt
  go_wp2_with fail
  refine (isN R1.out (5) 6 (by omega) (by omega) (by omega) (by omega) rfl).mono ?_
  rintro _ w15 ⟨rfl, hb⟩
  clear dK10 dK11 dK12 zK1
  replace HT := Lib.hid (HT.out.below hb)
  replace R1 := Lib.hid (R1.out.below hb)
  replace K1 := Lib.hid (K1.out.after hb)
  replace R2 := Lib.hid (R2.out.below hb)
  replace K2 := Lib.hid (K2.out.after hb)
  replace R3 := Lib.hid (R3.out.below hb)
  replace K3 := Lib.hid (K3.out.after hb)
  replace HB := Lib.hid (HB.out.trans (hb.mono HB.out.size))
  clear hb
  clear R1
  clear K1
  have dK20 := K2.out.cell (i := 0) rfl
  have dK21 := K2.out.cell (i := 1) rfl
  have dK22 := K2.out.cell (i := 2) rfl
  have zK2 := K2.out.lt
  go_wp2_with fail
  refine (isN R2.out (-1) 2 (by omega) (by omega) (by omega) (by omega) rfl).mono ?_
  rintro _ w16 ⟨rfl, hb⟩
  clear dK20 dK21 dK22 zK2
  replace HT := Lib.hid (HT.out.below hb)
  replace R2 := Lib.hid (R2.out.below hb)
  replace K2 := Lib.hid (K2.out.after hb)
  replace R3 := Lib.hid (R3.out.below hb)
  replace K3 := Lib.hid (K3.out.after hb)
  replace HB := Lib.hid (HB.out.trans (hb.mono HB.out.size))
  clear hb
  clear R2
  clear K2
  have dK30 := K3.out.cell (i := 0) rfl
  have dK31 := K3.out.cell (i := 1) rfl
  have dK32 := K3.out.cell (i := 2) rfl
  have zK3 := K3.out.lt
  go_wp2_with fail
  refine (isN R3.out (1) 2 (by omega) (by omega) (by omega) (by omega) rfl).mono ?_
  rintro _ w17 ⟨rfl, hb⟩
  clear dK30 dK31 dK32 zK3
  replace HT := Lib.hid (HT.out.below hb)
  replace R3 := Lib.hid (R3.out.below hb)
  replace K3 := Lib.hid (K3.out.after hb)
  replace HB := Lib.hid (HB.out.trans (hb.mono HB.out.size))
  clear hb
  clear R3
  clear K3
  go_wp2_with fail
  go_ret
  exact ⟨rfl, HB.out⟩
end Go.Proofs.YtbjaolmlnkliiaaGreatDoor

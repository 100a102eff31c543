/- The contracts of the functions under the laws of package rat: DoorOne, DoorInt, RatMath, RatA, RatB, RatC, RatD, RatV, RatN, RatE, RatH, RatT, RatI, RatF, joined into one file. -/
import Derived.Test.YtbjaolmlnkliiaaGreatDoorNatB
import Derived.Test.YtbjaolmlnkliiaaGreatDoorNatH
import Derived.Laws.ResultCell
import Derived.Deep.RegionHeld3
import Derived.Deep.DrawnRows
import Derived.Test.YtbjaolmlnkliiaaGreatDoorNatG
import Derived.IntWalk
import Derived.LoopN
/- The contracts of Of, Int and Cmp, of the program and of the reference. Conditions as premises: the lists read. -/
namespace Go.Proofs.YtbjaolmlnkliiaaGreatDoor
open Go.RowKit

/-- what Cmp says of two lists: the value, then the error -/
noncomputable def cmpV (n : Nat) (f : Nat → Nat) (m : Nat) (g : Nat → Nat) : Value := .tuple #[.int .i64 (if chk2 n f m g = 0 then cn (nv f n) (nv g m) else 0), .int .i64 (chk2 n f m g)]

set_option maxHeartbeats 400000 in
theorem natCmp_any (A A' : Option Addr) (n c m c' : Nat) (f g : Nat → Nat) (w : World) (hA : Rs w w.heap.size A n c f) (hB : Rs w w.heap.size A' m c' g) :
    Calls Tryz.prog 151 #[.slice A n c, .slice A' m c'] w fun e w' => e = .returned (cmpV n f m g) ∧ Below w.heap.size w w' := by
  have hA1 := hA.alloc (Nat.le_refl _) (.cells #[.slice A n c, .slice A' m c'] 23)
  have hB1 := hB.alloc (Nat.le_refl _) (.cells #[.slice A n c, .slice A' m c'] 23)
  have c1 := checkAll_any w.heap.size A A' n c m c' f g _ _ (w.alloc (.cells #[.slice A n c, .slice A' m c'] 23)) hA1 hB1 (by rw [World.cell?_alloc_at _ _ _ _ rfl]; rfl) (by rw [World.cell?_alloc_at _ _ _ _ rfl]; rfl)
  have hbel : Below w.heap.size w (w.alloc (.cells #[.slice A n c, .slice A' m c'] 23)) := (Below.refl _ _).alloc (Nat.le_refl _) _
  by_cases h : chk2 n f m g = 0
  · obtain ⟨e1, e2⟩ := chk2_zero h
    rw [h] at c1
    have c2 := compare_any A A' n c m c' f g _ _ (w.alloc (.cells #[.slice A n c, .slice A' m c'] 23)) hA1 hB1 (chk_zero e1).2 (chk_zero e2).2
    rw [show cmpV n f m g = .tuple #[.int .i64 (cn (nv f n) (nv g m)), .int .i64 0] by unfold cmpV; rw [if_pos h, h]]
    have C1 := Lib.hid c1
    have C2 := Lib.hid c2
    clear c1 c2 h e1 e2
    go_enter Tryz.func151, Tryz.ntmps151
    go_wp2_with fail
    refine C1.out.mono ?_
    rintro e w' ⟨rfl, rfl⟩
    go_wp2_with fail
    refine C2.out.mono ?_
    rintro e w' ⟨rfl, k, rfl⟩
    go_wp2_with fail
    go_ret2
    exact ⟨rfl, hbel.trans ((Qt.n1 _ k).below.mono (by simp))⟩
  · rw [show cmpV n f m g = .tuple #[.int .i64 0, .int .i64 (chk2 n f m g)] by unfold cmpV; rw [if_neg h]]
    have h1 : (chk2 n f m g != 0) = true := by rw [bne_iff_ne]; exact h
    have h2 : (chk2 n f m g == 0) = false := by rw [beq_eq_false_iff_ne]; exact h
    have C1 := Lib.hid c1
    clear c1 h
    go_enter Tryz.func151, Tryz.ntmps151
    go_wp2_with fail
    refine C1.out.mono ?_
    rintro e w' ⟨rfl, rfl⟩
    go_wp2_with fail
    go_ret2
    exact ⟨rfl, hbel⟩

end Go.Proofs.YtbjaolmlnkliiaaGreatDoor

/- The contracts of Int, of the program and of the reference. Conditions as premises: the list reads. -/
namespace Go.Proofs.YtbjaolmlnkliiaaGreatDoor
open Go.RowKit

@[irreducible] def maxI : Nat := 9223372036854775807
theorem maxI_eq : maxI = 9223372036854775807 := by unfold maxI; rfl

theorem fromWord_max (w : World) :
    Calls Tryz.prog 205 #[.int .u64 9223372036854775807] w fun e w' => ∃ v, e = .returned v ∧ Made w maxI v w' := by
  have h := fromWord_nat maxI (Big.mk (by rw [maxI_eq]; omega)) w
  have e : iv maxI = 9223372036854775807 := by rw [iv_eq, maxI_eq]; rfl
  rw [e] at h
  exact h

theorem l3_max : nv (l3 854775807 223372036 9) 3 = maxI := by
  rw [maxI_eq]; simp only [nv, l3, LB_eq]; rfl
theorem l3_val : Val 3 (l3 854775807 223372036 9) := by
  refine ⟨fun j _ => ?_, fun _ => by unfold l3; decide⟩
  rw [LB_eq]
  unfold l3
  split
  · decide
  · split <;> decide

/-- what Int says of a list: the value, then the error -/
noncomputable def intV (n : Nat) (f : Nat → Nat) : Value :=
  if chk n f = 0 then (if maxI < nv f n then .tuple #[.int .i64 0, .int .i64 5] else .tuple #[.int .i64 (iv (nv f n)), .int .i64 0]) else .tuple #[.int .i64 0, .int .i64 (chk n f)]
theorem intV_bad {n : Nat} {f : Nat → Nat} (h : ¬ chk n f = 0) : intV n f = .tuple #[.int .i64 0, .int .i64 (chk n f)] := by unfold intV; rw [if_neg h]
theorem intV_over {n : Nat} {f : Nat → Nat} (h : chk n f = 0) (k : maxI < nv f n) : intV n f = .tuple #[.int .i64 0, .int .i64 5] := by unfold intV; rw [if_pos h, if_pos k]
theorem intV_ok {n : Nat} {f : Nat → Nat} (h : chk n f = 0) (k : ¬ maxI < nv f n) : intV n f = .tuple #[.int .i64 (iv (nv f n)), .int .i64 0] := by unfold intV; rw [if_pos h, if_neg k]

theorem cn_pos {a b : Nat} (h : b < a) : 0 < cn a b := by rw [cn_gt h]; decide
theorem cn_le {a b : Nat} (h : ¬ b < a) : cn a b ≤ 0 := by
  rcases Nat.lt_or_ge a b with k | k
  · rw [cn_lt k]; decide
  · rw [cn_eq (by omega)]; decide

set_option maxHeartbeats 800000 in
theorem natInt_any (A : Option Addr) (n c : Nat) (f : Nat → Nat) (w : World) (h : Rs w w.heap.size A n c f) :
    Calls Tryz.prog 177 #[.slice A n c] w fun e w' => e = .returned (intV n f) ∧ Below w.heap.size w w' := by
  have c1 := check_any A n c f _ w h
  by_cases hk : chk n f = 0
  · rw [hk] at c1
    have C1 := Lib.hid c1
    clear c1
    have hv := Lib.hid (chk_zero hk).2
    by_cases hover : maxI < nv f n
    · rw [intV_over hk hover]
      have HO := Big.mk hover
      clear hk hover
      go_enter Tryz.func177, Tryz.ntmps177
      go_wp2_with fail
      refine C1.out.mono ?_
      rintro e w' ⟨rfl, rfl⟩
      go_wp2_with fail
      refine (fromWord_max _).mono ?_
      rintro e w1 ⟨v, rfl, A2, n2, c2, f2, rfl, hr2, hd2, hb⟩
      have hcmp := compare_any A A2 n c n2 c2 f f2 _ _ w1 (h.below hb) hr2 hv.out hd2.ok
      rw [hd2.eq] at hcmp
      have hpos := cn_pos HO.out
      generalize cn (nv f n) maxI = z at *
      have HC := Lib.hid hcmp
      have HD := Lib.hid hd2
      clear hcmp hd2
      go_wp2_with fail
      refine HC.out.mono ?_
      rintro e w' ⟨rfl, d, rfl⟩
      go_wp2_with fail
      go_ret2
      exact ⟨rfl, hb.trans ((Qt.n1 _ d).below.mono hb.size)⟩
    · rw [intV_ok hk hover]
      have HO := Big.mk hover
      have HB : Big (nv f n < 18446744073709551616) := Big.mk (by rw [maxI_eq] at hover; omega)
      clear hk hover
      go_enter Tryz.func177, Tryz.ntmps177
      go_wp2_with fail
      refine C1.out.mono ?_
      rintro e w' ⟨rfl, rfl⟩
      go_wp2_with fail
      refine (fromWord_max _).mono ?_
      rintro e w1 ⟨v, rfl, A2, n2, c2, f2, rfl, hr2, hd2, hb⟩
      have hcmp := compare_any A A2 n c n2 c2 f f2 _ _ w1 (h.below hb) hr2 hv.out hd2.ok
      rw [hd2.eq] at hcmp
      have hpos := cn_le HO.out
      have hpos' : ¬ 0 < cn (nv f n) maxI := by omega
      generalize cn (nv f n) maxI = z at *
      have HC := Lib.hid hcmp
      have HD := Lib.hid hd2
      clear hcmp hd2
      go_wp2_with fail
      refine HC.out.mono ?_
      rintro e w' ⟨rfl, d, rfl⟩
      have hw := toWord_any A n c f w.heap.size (w1.drewN d) ((h.below hb).drewN d) HB
      have HW := Lib.hid hw
      clear hw
      go_wp2_with fail
      refine HW.out.mono ?_
      rintro e w' ⟨rfl, rfl⟩
      have hx0 := iv_nonneg (nv f n)
      have hx1 : iv (nv f n) ≤ 9223372036854775807 := by have := HO.out; rw [maxI_eq] at this; rw [iv_eq]; omega
      generalize hgz : iv (nv f n) = z at *
      have HZ := Lib.hid hgz
      clear hgz
      go_wp2_with fail
      go_ret2
      exact ⟨by rw [HZ.out]; rfl, hb.trans ((Qt.n1 _ d).below.mono hb.size)⟩
  · rw [intV_bad hk]
    have h1 : (chk n f != 0) = true := by rw [bne_iff_ne]; exact hk
    have h2 : (chk n f == 0) = false := by rw [beq_eq_false_iff_ne]; exact hk
    have C1 := Lib.hid c1
    clear c1 hk
    go_enter Tryz.func177, Tryz.ntmps177
    go_wp2_with fail
    refine C1.out.mono ?_
    rintro e w' ⟨rfl, rfl⟩
    go_wp2_with fail
    go_ret2
    exact ⟨rfl, Below.refl _ _⟩

theorem l3_cells : (#[Value.int .u32 (iv 854775807), .int .u32 (iv 223372036), .int .u32 (iv 9)] : Array Value) = #[.int .u32 854775807, .int .u32 223372036, .int .u32 9] := by
  rw [iv_eq, iv_eq, iv_eq]; rfl

theorem rs_max (w : World) : Rs (w.alloc (.cells #[.int .u32 854775807, .int .u32 223372036, .int .u32 9] 40)) (w.heap.size + 1) (some ⟨w.heap.size, 0, none⟩) 3 3 (l3 854775807 223372036 9) := by
  have h := rs_l3 w 854775807 223372036 9 (by omega) (by omega) (by omega)
  rw [l3_cells] at h
  exact h

end Go.Proofs.YtbjaolmlnkliiaaGreatDoor

/- Plain facts on rational numbers: what the steps of a sum, a product and a reduction lead to, how they compare, their integer part, and the simplest one of an interval. No conditions. -/
namespace Go.Proofs.YtbjaolmlnkliiaaGreatDoor

theorem mkRat_low {z : Int} {d : Nat} (h : d ≠ 0) (c : z.natAbs.Coprime d) : (mkRat z d).num = z ∧ (mkRat z d).den = d := by
  rw [← Rat.mk_eq_mkRat z d h c]; exact ⟨rfl, rfl⟩

theorem gcd_pos_r {n d : Nat} (h : d ≠ 0) : 0 < Nat.gcd n d := Nat.gcd_pos_of_pos_right _ (Nat.pos_of_ne_zero h)

/-- a fraction in lowest terms -/
theorem mkRat_red (z : Int) (d : Nat) (h : d ≠ 0) : (mkRat z d).num = z / (Nat.gcd z.natAbs d : Nat) ∧ (mkRat z d).num.natAbs = z.natAbs / Nat.gcd z.natAbs d ∧ (mkRat z d).den = d / Nat.gcd z.natAbs d := by
  have h1 : (mkRat z d).num = z / (Nat.gcd z.natAbs d : Nat) := by rw [Rat.num_mkRat, if_neg h, Nat.gcd_comm]
  refine ⟨h1, ?_, ?_⟩
  · rw [h1, Int.natAbs_ediv_of_dvd (Int.ofNat_dvd_left.2 (Nat.gcd_dvd_left _ _)), Int.natAbs_natCast]
  · rw [Rat.den_mkRat, if_neg h, Nat.gcd_comm]

theorem mkRat_neg_iff (z : Int) (d : Nat) (h : d ≠ 0) : (mkRat z d).num < 0 ↔ z < 0 := by
  rw [(mkRat_red z d h).1]
  have hg := gcd_pos_r (n := z.natAbs) h
  have hd : ((Nat.gcd z.natAbs d : Nat) : Int) ∣ z := Int.ofNat_dvd_left.2 (Nat.gcd_dvd_left _ _)
  generalize Nat.gcd z.natAbs d = g at *
  have hg' : (0 : Int) < g := by omega
  constructor
  · intro hl
    have := Int.ediv_mul_cancel hd
    have h2 : z / (g : Int) * g < 0 := Int.mul_neg_of_neg_of_pos hl hg'
    omega
  · intro hl
    exact Int.ediv_neg_of_neg_of_pos hl hg'

/-- the steps of a sum -/
theorem sum_steps (a b : Rat) :
    let g := Nat.gcd a.den b.den
    let T := a.num * ((b.den / g : Nat) : Int) + b.num * ((a.den / g : Nat) : Int)
    let s := Nat.gcd T.natAbs g
    ((a + b).num < 0 ↔ T < 0) ∧ (a + b).num.natAbs = T.natAbs / s ∧ (a + b).den = a.den / g * (b.den / s) ∧ (T = 0 ↔ a + b = 0) := by
  intro g T s
  have hg : 0 < g := gcd_pos_r b.den_nz
  have ha : a.den / g * g = a.den := Nat.div_mul_cancel (Nat.gcd_dvd_left _ _)
  have hb : b.den / g * g = b.den := Nat.div_mul_cancel (Nat.gcd_dvd_right _ _)
  have hd : a.den / g * b.den ≠ 0 := by
    have h1 := a.den_pos
    have h2 := b.den_pos
    refine Nat.mul_ne_zero (fun e => ?_) (by omega)
    rw [e, Nat.zero_mul] at ha; omega
  have e1 : a + b = mkRat T (a.den / g * b.den) := by
    rw [Rat.add_def', ← Rat.mkRat_mul_right (n := T) (d := a.den / g * b.den) (a := g) (by omega)]
    congr 1
    · show _ = (a.num * ((b.den / g : Nat) : Int) + b.num * ((a.den / g : Nat) : Int)) * (g : Int)
      rw [Int.add_mul, Int.mul_assoc, Int.mul_assoc, ← Int.natCast_mul, ← Int.natCast_mul, ha, hb]
    · rw [Nat.mul_right_comm, ha]
  have e2 : Nat.gcd T.natAbs (a.den / g * b.den) = s := (Rat.add.aux a b (g := g) rfl rfl rfl).symm
  obtain ⟨_, h2, h3⟩ := mkRat_red T _ hd
  rw [e2] at h2 h3
  have hsb : s ∣ b.den := Nat.dvd_trans (Nat.gcd_dvd_right _ _) (Nat.gcd_dvd_right _ _)
  rw [e1]
  refine ⟨mkRat_neg_iff T _ hd, h2, ?_, ?_⟩
  · rw [h3, Nat.mul_div_assoc _ hsb]
  · rw [Rat.mkRat_eq_zero hd]

/-- the steps of a product -/
theorem mul_steps (a b : Rat) :
    let g1 := Nat.gcd a.num.natAbs b.den
    let g2 := Nat.gcd b.num.natAbs a.den
    (a * b).num.natAbs = a.num.natAbs / g1 * (b.num.natAbs / g2) ∧ (a * b).den = b.den / g1 * (a.den / g2) ∧ ((a * b).num = 0 ↔ a.num = 0 ∨ b.num = 0) ∧ ((a * b).num < 0 ↔ (a.num < 0 ∧ 0 < b.num) ∨ (0 < a.num ∧ b.num < 0)) := by
  intro g1 g2
  have hg1 : 0 < g1 := gcd_pos_r b.den_nz
  have hg2 : 0 < g2 := gcd_pos_r a.den_nz
  have a1 : a.num.natAbs / g1 * g1 = a.num.natAbs := Nat.div_mul_cancel (Nat.gcd_dvd_left _ _)
  have a2 : a.den / g2 * g2 = a.den := Nat.div_mul_cancel (Nat.gcd_dvd_right _ _)
  have b1 : b.den / g1 * g1 = b.den := Nat.div_mul_cancel (Nat.gcd_dvd_right _ _)
  have b2 : b.num.natAbs / g2 * g2 = b.num.natAbs := Nat.div_mul_cancel (Nat.gcd_dvd_left _ _)
  have hd0 : a.den * b.den ≠ 0 := Nat.mul_ne_zero a.den_nz b.den_nz
  have hG : Nat.gcd (a.num * b.num).natAbs (a.den * b.den) = g1 * g2 := by
    rw [Int.natAbs_mul]
    have c1 : Nat.Coprime (a.num.natAbs / g1) (b.den / g1) := Nat.coprime_div_gcd_div_gcd hg1
    have c2 : Nat.Coprime (b.num.natAbs / g2) (a.den / g2) := Nat.coprime_div_gcd_div_gcd hg2
    have c3 : Nat.Coprime (a.num.natAbs / g1) (a.den / g2) := (a.reduced.coprime_div_left (Nat.gcd_dvd_left _ _)).coprime_div_right (Nat.gcd_dvd_right _ _)
    have c4 : Nat.Coprime (b.num.natAbs / g2) (b.den / g1) := (b.reduced.coprime_div_left (Nat.gcd_dvd_left _ _)).coprime_div_right (Nat.gcd_dvd_right _ _)
    have c : Nat.Coprime (a.num.natAbs / g1 * (b.num.natAbs / g2)) (a.den / g2 * (b.den / g1)) :=
      Nat.Coprime.mul_left (Nat.Coprime.mul_right c3 c1) (Nat.Coprime.mul_right c2 c4)
    have e1 : a.num.natAbs * b.num.natAbs = (a.num.natAbs / g1 * (b.num.natAbs / g2)) * (g1 * g2) := by
      rw [Nat.mul_mul_mul_comm, a1, b2]
    have e2 : a.den * b.den = (a.den / g2 * (b.den / g1)) * (g1 * g2) := by
      rw [Nat.mul_comm g1 g2, Nat.mul_mul_mul_comm, a2, b1]
    rw [e1, e2, Nat.gcd_mul_right, c, Nat.one_mul]
  obtain ⟨_, h2, h3⟩ := mkRat_red (a.num * b.num) _ hd0
  have hn := mkRat_neg_iff (a.num * b.num) _ hd0
  rw [hG] at h2 h3
  rw [← Rat.mul_def'] at h2 h3 hn
  refine ⟨?_, ?_, ?_, ?_⟩
  · rw [h2, Int.natAbs_mul]
    have e1 : a.num.natAbs * b.num.natAbs = (a.num.natAbs / g1 * (b.num.natAbs / g2)) * (g1 * g2) := by
      rw [Nat.mul_mul_mul_comm, a1, b2]
    rw [e1, Nat.mul_div_cancel _ (Nat.mul_pos hg1 hg2)]
  · rw [h3]
    have e2 : a.den * b.den = (b.den / g1 * (a.den / g2)) * (g1 * g2) := by
      rw [Nat.mul_mul_mul_comm, a2, b1, Nat.mul_comm]
    rw [e2, Nat.mul_div_cancel _ (Nat.mul_pos hg1 hg2)]
  · rw [Rat.mul_def', Rat.num_eq_zero, Rat.mkRat_eq_zero hd0, Int.mul_eq_zero]
  · rw [hn]
    constructor
    · intro h
      rcases Int.lt_trichotomy a.num 0 with x | x | x
      · rcases Int.lt_trichotomy b.num 0 with y | y | y
        · have := Int.mul_pos_of_neg_of_neg x y; omega
        · rw [y, Int.mul_zero] at h; omega
        · exact .inl ⟨x, y⟩
      · rw [x, Int.zero_mul] at h; omega
      · rcases Int.lt_trichotomy b.num 0 with y | y | y
        · exact .inr ⟨x, y⟩
        · rw [y, Int.mul_zero] at h; omega
        · have := Int.mul_pos x y; omega
    · rintro (⟨x, y⟩ | ⟨x, y⟩)
      · exact Int.mul_neg_of_neg_of_pos x y
      · exact Int.mul_neg_of_pos_of_neg x y


/-- -1, 0 or 1 for two rational numbers -/
def cq (a b : Rat) : Int := if a < b then -1 else if b < a then 1 else 0
theorem cq_lt {a b : Rat} (h : a < b) : cq a b = -1 := by unfold cq; rw [if_pos h]
theorem not_lt_of_lt {a b : Rat} (h : b < a) : ¬ a < b := Rat.not_lt.2 (Rat.le_of_lt h)
theorem cq_gt {a b : Rat} (h : b < a) : cq a b = 1 := by unfold cq; rw [if_neg (not_lt_of_lt h), if_pos h]
theorem cq_eq (a : Rat) : cq a a = 0 := by unfold cq; rw [if_neg Rat.lt_irrefl, if_neg Rat.lt_irrefl]
theorem tri (a b : Rat) : a < b ∨ a = b ∨ b < a := by
  rcases Classical.em (a < b) with h | h
  · exact .inl h
  · have h1 := Rat.not_lt.1 h
    rcases Classical.em (b < a) with k | k
    · exact .inr (.inr k)
    · exact .inr (.inl (Rat.le_antisymm (Rat.not_lt.1 k) h1))
theorem cq_range (a b : Rat) : cq a b = -1 ∨ cq a b = 0 ∨ cq a b = 1 := by
  unfold cq; split; exact .inl rfl; split; exact .inr (.inr rfl); exact .inr (.inl rfl)
theorem cq_zero {a b : Rat} (h : cq a b = 0) : a = b := by
  rcases tri a b with k | k | k
  · rw [cq_lt k] at h; exact absurd h (by decide)
  · exact k
  · rw [cq_gt k] at h; exact absurd h (by decide)
theorem cq_neg {a b : Rat} (h : cq a b = -1) : a < b := by
  rcases tri a b with k | k | k
  · exact k
  · rw [k, cq_eq] at h; exact absurd h (by decide)
  · rw [cq_gt k] at h; exact absurd h (by decide)
theorem cq_pos {a b : Rat} (h : cq a b = 1) : b < a := by
  rcases tri a b with k | k | k
  · rw [cq_lt k] at h; exact absurd h (by decide)
  · rw [k, cq_eq] at h; exact absurd h (by decide)
  · exact k

/-- -1, 0 or 1 for two integers -/
def ci (a b : Int) : Int := if a < b then -1 else if b < a then 1 else 0
theorem cq_ci (a b : Rat) : cq a b = ci (a.num * b.den) (b.num * a.den) := by
  unfold cq ci
  simp only [Rat.lt_iff]
theorem ci_range (a b : Int) : ci a b = -1 ∨ ci a b = 0 ∨ ci a b = 1 := by
  unfold ci; split; exact .inl rfl; split; exact .inr (.inr rfl); exact .inr (.inl rfl)

/-- the side of 0: 0, 1, 2 -/
def sg (z : Int) : Int := if z < 0 then 0 else if z = 0 then 1 else 2
theorem sg_neg {z : Int} (h : z < 0) : sg z = 0 := by unfold sg; rw [if_pos h]
theorem sg_zero {z : Int} (h : z = 0) : sg z = 1 := by unfold sg; rw [if_neg (by omega), if_pos h]
theorem sg_pos {z : Int} (h : 0 < z) : sg z = 2 := by unfold sg; rw [if_neg (by omega), if_neg (by omega)]

/-- numbers on one side of 0 compare as their distances from it do, or in reverse -/
theorem cq_side {a b : Rat} (h : sg a.num = sg b.num) : cq a b = (sg a.num - 1) * ci ((a.num.natAbs * b.den : Nat) : Int) ((b.num.natAbs * a.den : Nat) : Int) := by
  rw [cq_ci]
  have ha := a.den_pos
  have hb := b.den_pos
  rcases Int.lt_trichotomy a.num 0 with x | x | x
  · rw [sg_neg x] at h ⊢
    have y : b.num < 0 := by
      rcases Int.lt_trichotomy b.num 0 with y | y | y
      · exact y
      · rw [sg_zero y] at h; omega
      · rw [sg_pos y] at h; omega
    have e1 : ((a.num.natAbs * b.den : Nat) : Int) = -(a.num * b.den) := by
      rw [Int.natCast_mul, Int.ofNat_natAbs_of_nonpos (by omega), Int.neg_mul]
    have e2 : ((b.num.natAbs * a.den : Nat) : Int) = -(b.num * a.den) := by
      rw [Int.natCast_mul, Int.ofNat_natAbs_of_nonpos (by omega), Int.neg_mul]
    rw [e1, e2]
    generalize a.num * (b.den : Int) = p
    generalize b.num * (a.den : Int) = q
    unfold ci
    by_cases h1 : p < q
    · rw [if_pos h1, if_neg (by omega), if_pos (by omega)]; rfl
    · by_cases h2 : q < p
      · rw [if_neg h1, if_pos h2, if_pos (by omega)]; rfl
      · rw [if_neg h1, if_neg h2, if_neg (by omega), if_neg (by omega)]; rfl
  · have y : b.num = 0 := by
      rw [sg_zero x] at h
      rcases Int.lt_trichotomy b.num 0 with y | y | y
      · rw [sg_neg y] at h; omega
      · exact y
      · rw [sg_pos y] at h; omega
    rw [sg_zero x, x, y, Int.zero_mul, Int.zero_mul]
    simp [ci]
  · have y : 0 < b.num := by
      rw [sg_pos x] at h
      rcases Int.lt_trichotomy b.num 0 with y | y | y
      · rw [sg_neg y] at h; omega
      · rw [sg_zero y] at h; omega
      · exact y
    have e1 : ((a.num.natAbs * b.den : Nat) : Int) = a.num * b.den := by
      rw [Int.natCast_mul, Int.natAbs_of_nonneg (by omega)]
    have e2 : ((b.num.natAbs * a.den : Nat) : Int) = b.num * a.den := by
      rw [Int.natCast_mul, Int.natAbs_of_nonneg (by omega)]
    rw [e1, e2, sg_pos x]
    omega

/-- numbers on different sides -/
theorem cq_sides {a b : Rat} (h : sg a.num ≠ sg b.num) : cq a b = ci (sg a.num) (sg b.num) := by
  rw [cq_ci]
  have ha : (0 : Int) < a.den := by have := a.den_pos; omega
  have hb : (0 : Int) < b.den := by have := b.den_pos; omega
  have key : ∀ (z : Int) (d : Nat), (0 : Int) < d → (z < 0 → z * d < 0) ∧ (z = 0 → z * d = 0) ∧ (0 < z → 0 < z * d) := fun z d hd =>
    ⟨fun h => Int.mul_neg_of_neg_of_pos h hd, fun h => by rw [h, Int.zero_mul], fun h => Int.mul_pos h hd⟩
  have k1 := key a.num b.den hb
  have k2 := key b.num a.den ha
  rcases Int.lt_trichotomy a.num 0 with x | x | x <;> rcases Int.lt_trichotomy b.num 0 with y | y | y
  · rw [sg_neg x, sg_neg y] at h; exact absurd rfl h
  · have := k1.1 x; have := k2.2.1 y; rw [sg_neg x, sg_zero y]; unfold ci; rw [if_pos (by omega)]; rfl
  · have := k1.1 x; have := k2.2.2 y; rw [sg_neg x, sg_pos y]; unfold ci; rw [if_pos (by omega)]; rfl
  · have := k1.2.1 x; have := k2.1 y; rw [sg_zero x, sg_neg y]; unfold ci; rw [if_neg (by omega), if_pos (by omega)]; rfl
  · rw [sg_zero x, sg_zero y] at h; exact absurd rfl h
  · have := k1.2.1 x; have := k2.2.2 y; rw [sg_zero x, sg_pos y]; unfold ci; rw [if_pos (by omega)]; rfl
  · have := k1.2.2 x; have := k2.1 y; rw [sg_pos x, sg_neg y]; unfold ci; rw [if_neg (by omega), if_pos (by omega)]; rfl
  · have := k1.2.2 x; have := k2.2.1 y; rw [sg_pos x, sg_zero y]; unfold ci; rw [if_neg (by omega), if_pos (by omega)]; rfl
  · rw [sg_pos x, sg_pos y] at h; exact absurd rfl h

/-- one step of the comparison by continued fractions: the same integer part -/
theorem cf_step {an ad bn bd : Nat} (h : an / ad = bn / bd) :
    ci ((an * bd : Nat) : Int) ((bn * ad : Nat) : Int) = ci ((bd * (an % ad) : Nat) : Int) ((ad * (bn % bd) : Nat) : Int) := by
  have e1 := Nat.div_add_mod an ad
  have e2 := Nat.div_add_mod bn bd
  have f1 : an * bd = an / ad * (ad * bd) + bd * (an % ad) := by
    have : an * bd = (ad * (an / ad) + an % ad) * bd := by rw [e1]
    rw [this, Nat.add_mul]
    congr 1
    · rw [Nat.mul_comm ad, Nat.mul_assoc]
    · rw [Nat.mul_comm]
  have f2 : bn * ad = an / ad * (ad * bd) + ad * (bn % bd) := by
    have : bn * ad = (bd * (bn / bd) + bn % bd) * ad := by rw [e2]
    rw [this, Nat.add_mul, ← h]
    congr 1
    · rw [Nat.mul_comm bd, Nat.mul_assoc, Nat.mul_comm bd]
    · rw [Nat.mul_comm]
  rw [f1, f2]
  unfold ci
  generalize an / ad * (ad * bd) = k
  generalize bd * (an % ad) = p
  generalize ad * (bn % bd) = q
  by_cases h1 : p < q
  · rw [if_pos (by omega), if_pos (by omega)]
  · by_cases h2 : q < p
    · rw [if_neg (by omega), if_pos (by omega), if_neg (by omega), if_pos (by omega)]
    · rw [if_neg (by omega), if_neg (by omega), if_neg (by omega), if_neg (by omega)]

theorem cf_lt {an ad bn bd : Nat} (ha : 0 < ad) (hb : 0 < bd) (h : an / ad < bn / bd) : an * bd < bn * ad := by
  have h1 : an < ad * (an / ad + 1) := by
    have := Nat.lt_mul_div_succ an ha
    exact this
  have h2 : bd * (bn / bd) ≤ bn := Nat.mul_div_le bn bd
  have h3 : an / ad + 1 ≤ bn / bd := h
  calc an * bd < ad * (an / ad + 1) * bd := Nat.mul_lt_mul_of_pos_right h1 hb
    _ ≤ ad * (bn / bd) * bd := Nat.mul_le_mul_right _ (Nat.mul_le_mul_left _ h3)
    _ = bd * (bn / bd) * ad := by rw [Nat.mul_assoc, Nat.mul_comm ad, Nat.mul_comm (bn / bd) bd]
    _ ≤ bn * ad := Nat.mul_le_mul_right _ h2

/-- different integer parts decide -/
theorem cf_parts {an ad bn bd : Nat} (ha : 0 < ad) (hb : 0 < bd) (h : an / ad ≠ bn / bd) :
    ci ((an * bd : Nat) : Int) ((bn * ad : Nat) : Int) = ci ((an / ad : Nat) : Int) ((bn / bd : Nat) : Int) := by
  rcases Nat.lt_or_gt_of_ne h with k | k
  · have := cf_lt ha hb k
    unfold ci; rw [if_pos (by omega), if_pos (by omega)]
  · have := cf_lt hb ha k
    unfold ci; rw [if_neg (by omega), if_pos (by omega), if_neg (by omega), if_pos (by omega)]

/-- a rest of 0 decides -/
theorem cf_zero {p q r s : Nat} (hp : 0 < p) (hq : 0 < q) (h : r = 0 ∨ s = 0) : ci ((q * r : Nat) : Int) ((p * s : Nat) : Int) = ci (r : Int) (s : Int) := by
  rcases h with rfl | rfl
  · rcases Nat.eq_zero_or_pos s with e | e
    · subst e; simp [ci]
    · have := Nat.mul_pos hp e
      unfold ci; rw [if_pos (by omega), if_pos (by omega)]
  · rcases Nat.eq_zero_or_pos r with e | e
    · subst e; simp [ci]
    · have := Nat.mul_pos hq e
      unfold ci; rw [if_neg (by omega), if_pos (by omega), if_neg (by omega), if_pos (by omega)]

theorem cf_same {an d bn : Nat} (hd : 0 < d) : ci ((an * d : Nat) : Int) ((bn * d : Nat) : Int) = ci (an : Int) (bn : Int) := by
  unfold ci
  have e1 : ((an * d : Nat) : Int) < ((bn * d : Nat) : Int) ↔ (an : Int) < (bn : Int) := by
    rw [Int.ofNat_lt, Int.ofNat_lt]; exact Nat.mul_lt_mul_right hd
  have e2 : ((bn * d : Nat) : Int) < ((an * d : Nat) : Int) ↔ (bn : Int) < (an : Int) := by
    rw [Int.ofNat_lt, Int.ofNat_lt]; exact Nat.mul_lt_mul_right hd
  simp only [e1, e2]

/-- the integer part of a number -/
theorem floor_steps (a : Rat) : (0 ≤ a.num → a.floor = ((a.num.natAbs / a.den : Nat) : Int)) ∧
    (a.num < 0 → a.num.natAbs % a.den = 0 → a.floor = -((a.num.natAbs / a.den : Nat) : Int)) ∧
    (a.num < 0 → a.num.natAbs % a.den ≠ 0 → a.floor = -((a.num.natAbs / a.den + 1 : Nat) : Int)) := by
  rw [Rat.floor_def]
  have hd : (0 : Int) < a.den := by have := a.den_pos; omega
  generalize a.den = d at *
  generalize a.num = z at *
  refine ⟨fun h => ?_, fun h h2 => ?_, fun h h2 => ?_⟩
  · rw [Int.natCast_ediv, Int.natAbs_of_nonneg h]
  · have e := Nat.div_add_mod z.natAbs d
    rw [h2, Nat.add_zero] at e
    have e2 : z = (d : Int) * -((z.natAbs / d : Nat) : Int) := by
      rw [Int.mul_neg, ← Int.natCast_mul, e]; omega
    rw [e2, Int.mul_ediv_cancel_left _ (by omega)]
    rw [← e2]
  · have e := Nat.div_add_mod z.natAbs d
    have hlt := Nat.mod_lt z.natAbs (show 0 < d by omega)
    have e2 : z = (d : Int) * -((z.natAbs / d + 1 : Nat) : Int) + ((d - z.natAbs % d : Nat) : Int) := by
      rw [Int.mul_neg, ← Int.natCast_mul, Nat.mul_add]
      omega
    generalize hq : z.natAbs / d + 1 = q at *
    rw [e2, Int.add_comm, Int.add_mul_ediv_left _ _ (by omega), Int.ediv_eq_zero_of_lt (by omega) (by omega), Int.zero_add]

/-- the recursion, with a bound on its depth -/
def cfs : Nat → Nat → Nat → Nat → Nat → Nat × Nat
  | 0, _, _, _, _ => (0, 1)
  | k + 1, ln, ld, hn, hd =>
    if ln % ld = 0 then (ln / ld, 1)
    else if ln / ld < hn / hd then (ln / ld + 1, 1)
    else (ln / ld * (cfs k hd (hn % hd) ld (ln % ld)).1 + (cfs k hd (hn % hd) ld (ln % ld)).2, (cfs k hd (hn % hd) ld (ln % ld)).1)

/-- n/d is the simplest number from ln/ld to hn/hd -/
structure Sim (ln ld hn hd n d : Nat) : Prop where
  pos : 0 < d
  lo : ln * d ≤ n * ld
  hi : n * hd ≤ hn * d
  least : ∀ p q, 0 < q → ln * q ≤ p * ld → p * hd ≤ hn * q → d ≤ q ∧ n ≤ p

theorem Sim.unique {ln ld hn hd n d n' d' : Nat} (h : Sim ln ld hn hd n d) (k : Sim ln ld hn hd n' d') : n = n' ∧ d = d' := by
  have a := h.least n' d' k.pos k.lo k.hi
  have b := k.least n d h.pos h.lo h.hi
  omega

theorem Sim.coprime {ln ld hn hd n d : Nat} (h : Sim ln ld hn hd n d) : Nat.Coprime n d := by
  have hg : 0 < Nat.gcd n d := Nat.gcd_pos_of_pos_right _ h.pos
  obtain ⟨n', hn'⟩ := Nat.gcd_dvd_left n d
  obtain ⟨d', hd'⟩ := Nat.gcd_dvd_right n d
  have hd0 : 0 < d' := by
    rcases Nat.eq_zero_or_pos d' with e | e
    · rw [e, Nat.mul_zero] at hd'; have := h.pos; omega
    · exact e
  have h1 := h.lo
  have h2 := h.hi
  generalize hG : Nat.gcd n d = g at *
  have l1 : ln * d' ≤ n' * ld := by
    have : g * (ln * d') ≤ g * (n' * ld) := by
      rw [Nat.mul_left_comm, ← hd', ← Nat.mul_assoc, ← hn']; exact h1
    exact Nat.le_of_mul_le_mul_left this hg
  have l2 : n' * hd ≤ hn * d' := by
    have : g * (n' * hd) ≤ g * (hn * d') := by
      rw [Nat.mul_left_comm g hn, ← hd', ← Nat.mul_assoc, ← hn']; exact h2
    exact Nat.le_of_mul_le_mul_left this hg
  have l3 := (h.least n' d' hd0 l1 l2).1
  have l4 : g * d' ≤ 1 * d' := by rw [← hd', Nat.one_mul]; exact l3
  have := Nat.le_of_mul_le_mul_right l4 hd0
  unfold Nat.Coprime
  omega

/-- no smaller integer lies above -/
theorem div_le_of {a b p q : Nat} (hb : 0 < b) (h : a * q ≤ p * b) : a / b * q ≤ p := by
  have h1 : b * (a / b) ≤ a := Nat.mul_div_le a b
  have h2 : b * (a / b * q) ≤ b * p := by
    rw [← Nat.mul_assoc, Nat.mul_comm b p]
    exact Nat.le_trans (Nat.mul_le_mul_right _ h1) h
  exact Nat.le_of_mul_le_mul_left h2 hb

theorem cfs_sim : ∀ k ln ld hn hd, 0 < ld → 0 < hd → ln * hd ≤ hn * ld → ld + hd ≤ k → Sim ln ld hn hd (cfs k ln ld hn hd).1 (cfs k ln ld hn hd).2
  | 0, ln, ld, hn, hd, h1, h2, _, h4 => by omega
  | k + 1, ln, ld, hn, hd, h1, h2, h3, h4 => by
    have e1 := Nat.div_add_mod ln ld
    have e2 := Nat.div_add_mod hn hd
    unfold cfs
    by_cases hr : ln % ld = 0
    · rw [if_pos hr]
      rw [hr, Nat.add_zero] at e1
      refine ⟨by omega, ?_, ?_, fun p q hq hl hh => ⟨hq, ?_⟩⟩
      · show ln * 1 ≤ ln / ld * ld
        rw [Nat.mul_one, Nat.mul_comm, e1]; exact Nat.le_refl _
      · show ln / ld * hd ≤ hn * 1
        rw [Nat.mul_one]
        exact div_le_of h1 h3
      · have := div_le_of h1 hl
        have h5 : ln / ld * 1 ≤ ln / ld * q := Nat.mul_le_mul_left _ hq
        show ln / ld ≤ p
        omega
    · rw [if_neg hr]
      -- a number of the interval is above the integer part
      have above : ∀ p q, 0 < q → ln * q ≤ p * ld → ln / ld * q < p := fun p q hq hl => by
        rcases Nat.lt_or_ge (ln / ld * q) p with h | h
        · exact h
        · have h5 : p * ld ≤ ln / ld * q * ld := Nat.mul_le_mul_right _ h
          have h6 : ln * q = ld * (ln / ld) * q + ln % ld * q := by rw [← Nat.add_mul, e1]
          have h7 : 0 < ln % ld * q := Nat.mul_pos (by omega) hq
          have h8 : ln / ld * q * ld = ld * (ln / ld) * q := by rw [Nat.mul_comm _ ld, Nat.mul_assoc]
          omega
      by_cases hf : ln / ld < hn / hd
      · rw [if_pos hf]
        refine ⟨by show 0 < 1; omega, ?_, ?_, fun p q hq hl hh => ⟨hq, ?_⟩⟩
        · show ln * 1 ≤ (ln / ld + 1) * ld
          have := Nat.mod_lt ln h1
          rw [Nat.add_mul, Nat.mul_comm (ln / ld)]
          omega
        · show (ln / ld + 1) * hd ≤ hn * 1
          have h5 : (ln / ld + 1) * hd ≤ hn / hd * hd := Nat.mul_le_mul_right _ hf
          rw [Nat.mul_comm (hn / hd)] at h5
          omega
        · have := above p q hq hl
          have h5 : ln / ld * 1 ≤ ln / ld * q := Nat.mul_le_mul_left _ hq
          show ln / ld + 1 ≤ p
          omega
      · rw [if_neg hf]
        have hfe : hn / hd = ln / ld := by
          have := div_le_of h1 h3
          have h5 : hd * (ln / ld) ≤ hn := by rw [Nat.mul_comm]; exact this
          have h6 : ln / ld ≤ hn / hd := by rw [Nat.le_div_iff_mul_le h2, Nat.mul_comm]; exact h5
          omega
        rw [hfe] at e2
        generalize hgf : ln / ld = f at *
        generalize hgl : ln % ld = rl at *
        generalize hgh : hn % hd = rh at *
        have hrl : rl < ld := by rw [← hgl]; exact Nat.mod_lt _ h1
        have hrh : rh < hd := by rw [← hgh]; exact Nat.mod_lt _ h2
        -- rests compare as the numbers do
        have h3' : rl * hd ≤ rh * ld := by
          rw [← e1, ← e2, Nat.add_mul, Nat.add_mul] at h3
          have : ld * f * hd = hd * f * ld := by rw [Nat.mul_right_comm, Nat.mul_comm (ld * hd), Nat.mul_right_comm hd, Nat.mul_comm (hd * ld), Nat.mul_comm ld hd]
          omega
        have hrh0 : 0 < rh := by
          rcases Nat.eq_zero_or_pos rh with e | e
          · rw [e, Nat.zero_mul] at h3'
            have := Nat.mul_pos (show 0 < rl by omega) h2
            omega
          · exact e
        have ih := cfs_sim k hd rh ld rl hrh0 (by omega) (by rw [Nat.mul_comm, Nat.mul_comm ld]; exact h3') (by omega)
        generalize (cfs k hd rh ld rl).1 = n' at *
        generalize (cfs k hd rh ld rl).2 = d' at *
        have hn' : 0 < n' := by
          rcases Nat.eq_zero_or_pos n' with e | e
          · have h5 := ih.lo
            rw [e, Nat.zero_mul] at h5
            have := Nat.mul_pos h2 ih.pos
            omega
          · exact e
        refine ⟨hn', ?_, ?_, fun p q hq hl hh => ?_⟩
        · show ln * n' ≤ (f * n' + d') * ld
          have h5 : rl * n' ≤ d' * ld := by have := ih.hi; rw [Nat.mul_comm, Nat.mul_comm d']; exact this
          rw [← e1, Nat.add_mul, Nat.add_mul]
          have : ld * f * n' = f * n' * ld := by rw [Nat.mul_assoc, Nat.mul_comm]
          omega
        · show (f * n' + d') * hd ≤ hn * n'
          have h5 : d' * hd ≤ rh * n' := by have := ih.lo; rw [Nat.mul_comm, Nat.mul_comm rh]; exact this
          rw [← e2, Nat.add_mul, Nat.add_mul]
          have : hd * f * n' = f * n' * hd := by rw [Nat.mul_assoc, Nat.mul_comm]
          omega
        · have ha := above p q hq hl
          obtain ⟨p', hp'⟩ : ∃ p', p = f * q + p' := ⟨p - f * q, by omega⟩
          subst hp'
          have g1 : rl * q ≤ p' * ld := by
            rw [← e1, Nat.add_mul, Nat.add_mul] at hl
            have : ld * f * q = f * q * ld := by rw [Nat.mul_assoc, Nat.mul_comm]
            omega
          have g2 : p' * hd ≤ rh * q := by
            rw [← e2, Nat.add_mul, Nat.add_mul] at hh
            have : hd * f * q = f * q * hd := by rw [Nat.mul_assoc, Nat.mul_comm]
            omega
          have g3 := ih.least q p' (by omega) (by rw [Nat.mul_comm, Nat.mul_comm q]; exact g2) (by rw [Nat.mul_comm, Nat.mul_comm ld]; exact g1)
          refine ⟨g3.2, ?_⟩
          have : f * n' ≤ f * q := Nat.mul_le_mul_left _ g3.2
          show f * n' + d' ≤ f * q + p'
          omega
end Go.Proofs.YtbjaolmlnkliiaaGreatDoor

/- Words for rational numbers in memory, and the contracts of the program's small functions on them. Conditions as premises: the numbers read, and are short enough. -/
namespace Go.Proofs.YtbjaolmlnkliiaaGreatDoor
open Go.RowKit Go.Shelf

/-- v is the rational number q in the world w -/
def Rq (w : World) (q : Rat) (v : Value) : Prop := ∃ A n c A' n' c', v = .agg #[.bool (decide (q.num < 0)), .slice A n c, .slice A' n' c'] ∧ Nr w q.num.natAbs (.slice A n c) ∧ Nr w q.den (.slice A' n' c')
theorem Rq.below {w w' : World} {q : Rat} {v : Value} (h : Rq w q v) (hb : Below w.heap.size w w') : Rq w' q v := by
  obtain ⟨A, n, c, A', n', c', e, hx, hy⟩ := h; exact ⟨A, n, c, A', n', c', e, hx.below hb, hy.below hb⟩
theorem Rq.cast {w : World} {q r : Rat} {v : Value} (h : Rq w q v) (e : q = r) : Rq w r v := e ▸ h
/-- v is the integer z, as a side of 0 and a distance -/
def Wh (w : World) (z : Int) (v : Value) : Prop := ∃ A n c, v = .agg #[.int .i64 (sg z), .slice A n c] ∧ Nr w z.natAbs (.slice A n c)
theorem Wh.below {w w' : World} {z : Int} {v : Value} (h : Wh w z v) (hb : Below w.heap.size w w') : Wh w' z v := by
  obtain ⟨A, n, c, e, hx⟩ := h; exact ⟨A, n, c, e, hx.below hb⟩
theorem Wh.cast {w : World} {z y : Int} {v : Value} (h : Wh w z v) (e : z = y) : Wh w y v := e ▸ h
/-- v is a fraction n/d, in lowest terms or not -/
def Fr (w : World) (N D : Nat) (v : Value) : Prop := ∃ A n c A' n' c', v = .agg #[.slice A n c, .slice A' n' c'] ∧ Nr w N (.slice A n c) ∧ Nr w D (.slice A' n' c')
theorem Fr.below {w w' : World} {N D : Nat} {v : Value} (h : Fr w N D v) (hb : Below w.heap.size w w') : Fr w' N D v := by
  obtain ⟨A, n, c, A', n', c', e, hx, hy⟩ := h; exact ⟨A, n, c, A', n', c', e, hx.below hb, hy.below hb⟩

theorem Nr.len {w : World} {N : Nat} {v : Value} (h : Nr w N v) : ∃ A n c, v = .slice A n c ∧ (n = 0 ↔ N = 0) := by
  obtain ⟨A, n, c, f, e, _, hd⟩ := h
  exact ⟨A, n, c, e, by rw [← hd.eq]; exact hd.ok.zero_iff.symm⟩
theorem Nr.zero (w : World) : Nr w 0 (.slice none 0 0) := ⟨none, 0, 0, fun _ => 0, rfl, Rs.nil _ _ _, ⟨⟨fun j hj => by omega, fun h => by omega⟩, rfl⟩⟩

/-- the part of the world that a call makes is new -/
theorem below1 (w : World) (o : Obj) : Below w.heap.size w (w.alloc o) := (Below.refl _ _).alloc (Nat.le_refl _) _
theorem below2 (w : World) (o p : Obj) : Below w.heap.size w ((w.alloc o).alloc p) := (below1 w o).alloc (by simp) _

/-- block g holds just these cells -/
def Blk (w : World) (g : Nat) (t : TypeId) (cs : Array Value) : Prop := w.heap[g]? = some (.cells cs t (0, 0))
def notU32 : Value → Bool | .int .u32 _ => false | _ => true
section
variable {w w' : World} {g : Nat} {t : TypeId} {cs : Array Value}
theorem Blk.below {B : Nat} (h : Blk w g t cs) (hb : Below B w w') (hg : g < B) : Blk w' g t cs := (hb.block _ hg).trans h
theorem Blk.lt (h : Blk w g t cs) : g < w.heap.size := (Array.getElem?_eq_some_iff.1 h).1
theorem Blk.after (h : Blk w g t cs) (hb : Below w.heap.size w w') : Blk w' g t cs := h.below hb h.lt
theorem Blk.set {i : Nat} {v : Value} (h : Blk w g t cs) : Blk (w.setCell ⟨g, i, none⟩ v) g t (cs.setIfInBounds i v) := heap_setCell_same w g i cs t v h
theorem Blk.other {h i : Nat} {u : Value} (k : Blk w g t cs) (hne : g ≠ h) : Blk (w.setCell ⟨h, i, none⟩ u) g t cs := (heap_setCell_other w ⟨h, i, none⟩ g u hne).trans k
theorem Blk.cell {i : Nat} {v : Value} (h : Blk w g t cs) (hv : cs[i]? = some v) : w.cell? ⟨g, i, none⟩ = some v := by rw [cell_of_row w g i _ _ _ h]; exact hv
theorem Blk.free (h : Blk w g t cs) (i : Nat) : w.frozen? ⟨g, i, none⟩ = false := frozen_of_row w g i cs t h
theorem Blk.new (w : World) (cs : Array Value) (t : TypeId) : Blk (w.alloc (.cells cs t)) w.heap.size t cs := heap_alloc_new _ _
theorem Blk.alloc (h : Blk w g t cs) (o : Obj) : Blk (w.alloc o) g t cs := by
  first | exact (heap_alloc_old w o g h.lt).trans h | exact (heap_alloc_old w o h.lt).trans h
/-- what happens in a block that holds no limbs changes no number -/
theorem Nr.far {N : Nat} {v : Value} (h : Nr w N v) (k : Blk w g t cs) (hno : cs.all notU32 = true) (hw : ∀ p : Addr, p.block ≠ g → w'.cell? p = w.cell? p) (hs : w.heap.size ≤ w'.heap.size) : Nr w' N v := by
  obtain ⟨A, n, c, f, e, hr, hd⟩ := h
  refine ⟨A, n, c, f, e, ⟨hr.cap, hr.max, hr.bd, fun hn => ?_⟩, hd⟩
  obtain ⟨b, off, e2, hb, hc⟩ := hr.cell hn
  have hbg : b ≠ g := by
    rintro rfl
    have h0 := hc 0 hn
    rw [cell_of_row w b _ _ _ _ k] at h0
    have h1 := Array.all_eq_true'.1 hno _ (Array.mem_of_getElem? h0)
    cases h1
  exact ⟨b, off, e2, by omega, fun j hj => (hw _ hbg).trans (hc j hj)⟩
theorem hnoW (x : Int) (A : Option Addr) (n c : Nat) : (#[.int .i64 x, .slice A n c] : Array Value).all notU32 = true := by simp [notU32]
theorem hnoF (A A' : Option Addr) (n c n' c' : Nat) : (#[.slice A n c, .slice A' n' c'] : Array Value).all notU32 = true := by simp [notU32]
theorem hnoR (b : Bool) (A A' : Option Addr) (n c n' c' : Nat) : (#[.bool b, .slice A n c, .slice A' n' c'] : Array Value).all notU32 = true := by simp [notU32]
theorem cell_far (w : World) {p : Addr} {g i : Nat} (u : Value) (h : p.block ≠ g) : (w.setCell ⟨g, i, none⟩ u).cell? p = w.cell? p := World.cell?_setCell_far w ⟨g, i, none⟩ p u (fun e => h e.symm)
theorem Nr.put {N i : Nat} {v u : Value} (h : Nr w N v) (k : Blk w g t cs) (hno : cs.all notU32 = true) : Nr (w.setCell ⟨g, i, none⟩ u) N v :=
  h.far k hno (fun _ hp => cell_far w u hp) (by simp)
theorem Nr.put2 {N i j : Nat} {v u x : Value} (h : Nr w N v) (k : Blk w g t cs) (hno : cs.all notU32 = true) : Nr ((w.setCell ⟨g, i, none⟩ u).setCell ⟨g, j, none⟩ x) N v :=
  h.far k hno (fun _ hp => (cell_far _ x hp).trans (cell_far w u hp)) (by simp)
theorem Nr.put3 {N i j l : Nat} {v u x y : Value} (h : Nr w N v) (k : Blk w g t cs) (hno : cs.all notU32 = true) : Nr (((w.setCell ⟨g, i, none⟩ u).setCell ⟨g, j, none⟩ x).setCell ⟨g, l, none⟩ y) N v :=
  h.far k hno (fun _ hp => (cell_far _ y hp).trans ((cell_far _ x hp).trans (cell_far w u hp))) (by simp)
end

set_option maxHeartbeats 400000 in
theorem compareN {w : World} {N M : Nat} {v u : Value} (h : Nr w N v) (k : Nr w M u) (hN : N < LB ^ NL) (hM : M < LB ^ NL) :
    Calls Tryz.prog 76 #[v, u] w fun e w' => e = .returned (.int .i64 (cn N M)) ∧ Below w.heap.size w w' := by
  obtain ⟨A, n, c, f, rfl, hA, hd⟩ := h
  obtain ⟨A', m, c', g, rfl, hB, hd'⟩ := k
  have c1 := natCmp_any A A' n c m c' f g w hA hB
  have h2 : chk2 n f m g = 0 := by unfold chk2; rw [if_pos (Nr.chk hd hN)]; exact Nr.chk hd' hM
  rw [show cmpV n f m g = .tuple #[.int .i64 (cn N M), .int .i64 0] by unfold cmpV; rw [if_pos h2, h2, hd.eq, hd'.eq]] at c1
  have C1 := Lib.hid c1
  clear c1 h2 hd hd' hN hM hA hB
  go_enter Tryz.func76, Tryz.ntmps76
  go_wp2_with fail
  refine C1.out.mono ?_
  rintro e w' ⟨rfl, hb⟩
  go_wp2_with fail
  go_ret
  exact ⟨rfl, hb⟩

set_option maxHeartbeats 400000 in
theorem divisorN {w : World} {N M : Nat} {v u : Value} (h : Nr w N v) (k : Nr w M u) (hN : N < LB ^ NL) (hM : M < LB ^ NL) :
    Calls Tryz.prog 109 #[v, u] w fun e w' => ∃ x, e = .returned x ∧ Nr w' (Nat.gcd N M) x ∧ Below w.heap.size w w' := by
  have C := Lib.hid (gcdN h k hN hM)
  clear h k hN hM
  go_enter Tryz.func109, Tryz.ntmps109
  go_wp2_with fail
  refine C.out.mono ?_
  rintro _ w' ⟨x, rfl, hx⟩
  have H := Lib.hid hx
  clear hx
  go_wp2_with fail
  go_ret
  exact ⟨x, rfl, H.out⟩

set_option maxHeartbeats 400000 in
theorem divideN {w : World} {N M : Nat} {v u : Value} (h : Nr w N v) (k : Nr w M u) (hN : N < LB ^ NL) (hM : M < LB ^ NL) (hM0 : 0 < M) :
    Calls Tryz.prog 175 #[v, u] w fun e w' => ∃ x y, e = .returned (.tuple #[x, y]) ∧ Nr w' (N / M) x ∧ Nr w' (N % M) y ∧ Below w.heap.size w w' := by
  have C := Lib.hid (divN h k hN hM hM0)
  clear h k hN hM hM0
  go_enter Tryz.func175, Tryz.ntmps175
  go_wp2_with fail
  refine C.out.mono ?_
  rintro _ w' ⟨x, y, rfl, hx⟩
  have H := Lib.hid hx
  clear hx
  go_wp2_with fail
  go_ret2
  exact ⟨x, y, rfl, H.out⟩

set_option maxHeartbeats 400000 in
theorem quotientN {w : World} {N M : Nat} {v u : Value} (h : Nr w N v) (k : Nr w M u) (hN : N < LB ^ NL) (hM : M < LB ^ NL) (hM0 : 0 < M) :
    Calls Tryz.prog 161 #[v, u] w fun e w' => ∃ x, e = .returned x ∧ Nr w' (N / M) x ∧ Below w.heap.size w w' := by
  have C := Lib.hid (divideN h k hN hM hM0)
  clear h k hN hM hM0
  go_enter Tryz.func161, Tryz.ntmps161
  go_wp2_with fail
  refine C.out.mono ?_
  rintro _ w' ⟨x, y, rfl, hx, _, hb⟩
  have H := Lib.hid hx
  clear hx
  go_wp2_with fail
  go_ret
  exact ⟨x, rfl, H.out, hb⟩

theorem oneN (w : World) :
    Calls Tryz.prog 77 #[] w fun e w' => ∃ x, e = .returned x ∧ Nr w' 1 x ∧ Below w.heap.size w w' := by
  go_enter Tryz.func77, Tryz.ntmps77
  go_wp2_with fail
  go_ret
  exact ⟨_, rfl, nr_one w, below1 w _⟩

theorem Wh.mk {w : World} {z s : Int} {N n c : Nat} {A : Option Addr} (hs : s = sg z) (hz : z.natAbs = N) (h : Nr w N (.slice A n c)) : Wh w z (.agg #[.int .i64 s, .slice A n c]) := ⟨A, n, c, by rw [hs], by rw [hz]; exact h⟩
theorem Nr.shape {w : World} {N : Nat} {v : Value} (h : Nr w N v) : ∃ A n c, v = .slice A n c := by
  obtain ⟨A, n, c, f, e, _⟩ := h; exact ⟨A, n, c, e⟩
/-- what a call leaves of the cells that were there -/
theorem bcell {W w1 : World} (hb : Below W.heap.size W w1) : (∀ b o, b < W.heap.size → w1.cell? ⟨b, o, none⟩ = W.cell? ⟨b, o, none⟩) ∧ (∀ b o, b < W.heap.size → w1.frozen? ⟨b, o, none⟩ = W.frozen? ⟨b, o, none⟩) :=
  ⟨fun b o h => hb.cell (p := ⟨b, o, none⟩) h, fun b o h => hb.frozen (p := ⟨b, o, none⟩) h⟩

/-- a sign and a distance -/
def sn (neg : Bool) (N : Nat) : Int := if neg then -(N : Int) else N
theorem sn_abs (neg : Bool) (N : Nat) : (sn neg N).natAbs = N := by unfold sn; cases neg <;> simp
theorem sn_zero (neg : Bool) : sn neg 0 = 0 := by unfold sn; cases neg <;> rfl
theorem sn_num (q : Rat) : sn (decide (q.num < 0)) q.num.natAbs = q.num := by
  unfold sn
  by_cases h : q.num < 0
  · rw [if_pos (decide_eq_true h)]; omega
  · rw [if_neg (by simpa using h)]; omega
theorem sn_lt (neg : Bool) (N : Nat) (h : N ≠ 0) : decide (sn neg N < 0) = neg := by
  unfold sn; cases neg <;> simp <;> omega
theorem sg_sn_t {N : Nat} (h : N ≠ 0) : sg (sn true N) = 0 := sg_neg (by unfold sn; rw [if_pos rfl]; omega)
theorem sg_sn_f {N : Nat} (h : N ≠ 0) : sg (sn false N) = 2 := sg_pos (by unfold sn; rw [if_neg (by decide)]; omega)

set_option maxHeartbeats 800000 in
/-- a natural number, or its negative, as an integer -/
theorem signedN {w : World} {N : Nat} {v : Value} (neg : Bool) (h : Nr w N v) :
    Calls Tryz.prog 86 #[.bool neg, v] w fun e w' => ∃ x, e = .returned x ∧ (∀ W, Nr W N v → Wh W (sn neg N) x) ∧ Below w.heap.size w w' := by
  obtain ⟨A, n, c, rfl, hn⟩ := h.len
  clear h
  by_cases h0 : n = 0
  · have hN : Hid (N = 0) := Lib.hid (hn.1 h0)
    subst h0
    clear hn
    go_enter Tryz.func86, Tryz.ntmps86
    go_wp2_with fail
    refine bodyPost_ret (results_cell_row (p := 4) (ty := 102) rfl _ _ w.heap.size 102 _ _ _ rfl (heap_alloc_new _ _) Tryz.underlying102 rfl (by kernel_rfl)) rfl ?_
    exact ⟨_, rfl, fun W _ => Wh.mk (by rw [hN.out, sn_zero]; rfl) (by rw [hN.out, sn_zero]; rfl) (Nr.zero _), below1 w _⟩
  · have hN : Hid (N ≠ 0) := Lib.hid fun e => h0 (hn.2 e)
    have hz : ((n : Int) == 0) = false := by rw [beq_eq_false_iff_ne]; omega
    clear hn h0
    cases neg
    · go_enter Tryz.func86, Tryz.ntmps86
      go_wp2_with fail
      refine bodyPost_ret (results_cell_row (p := 4) (ty := 102) rfl _ _ w.heap.size 102 _ _ _ rfl (heap_alloc_new _ _) Tryz.underlying102 rfl (by kernel_rfl)) rfl ?_
      exact ⟨_, rfl, fun W hW => Wh.mk (sg_sn_f hN.out).symm (sn_abs _ _) hW, below1 w _⟩
    · go_enter Tryz.func86, Tryz.ntmps86
      go_wp2_with fail
      refine bodyPost_ret (results_cell_row (p := 4) (ty := 102) rfl _ _ w.heap.size 102 _ _ _ rfl (heap_alloc_new _ _) Tryz.underlying102 rfl (by kernel_rfl)) rfl ?_
      exact ⟨_, rfl, fun W hW => Wh.mk (sg_sn_t hN.out).symm (sn_abs _ _) hW, below1 w _⟩

theorem agg2 {a b : Value} {x y : Value} : (#[a, b].setIfInBounds 0 x).setIfInBounds 1 y = #[x, y] := rfl
theorem agg3 {a b c : Value} {x y z : Value} : ((#[a, b, c].setIfInBounds 0 x).setIfInBounds 1 y).setIfInBounds 2 z = #[x, y, z] := rfl

set_option maxHeartbeats 800000 in
/-- the upper part of a number -/
theorem numeratorN {w : World} {neg : Bool} {N n c n' c' : Nat} {A A' : Option Addr} (h : Nr w N (.slice A n c)) :
    Calls Tryz.prog 105 #[.agg #[.bool neg, .slice A n c, .slice A' n' c']] w fun e w' => ∃ v, e = .returned v ∧ (∀ W, Nr W N (.slice A n c) → Wh W (sn neg N) v) ∧ Below w.heap.size w w' := by
  have hb0 := below2 w (.cells #[.bool neg, .slice A n c, .slice A' n' c'] 25) (.cells #[.int .i64 0, .slice none 0 0] 102)
  have C := Lib.hid (signedN neg (h.below hb0))
  have HB := Lib.hid hb0
  clear hb0
  have H := Lib.hid h
  clear h
  go_enter Tryz.func105, Tryz.ntmps105
  go_wp2_with fail
  refine C.out.mono ?_
  rintro _ w' ⟨v, rfl, hall, hb⟩
  obtain ⟨A1, n1, c1, rfl, _⟩ := hall w H.out
  have hblk := Blk.below (Blk.new (w.alloc (.cells #[.bool neg, .slice A n c, .slice A' n' c'] 25)) #[.int .i64 0, .slice none 0 0] 102) hb (by simp)
  rw [World.size_alloc] at hblk
  obtain ⟨hc, hf⟩ := bcell hb
  have hz : w.heap.size + 1 < w'.heap.size := by have := hb.size; simp at this; omega
  have HX := Lib.hid hall
  have HK := Lib.hid hblk
  have HB2 := Lib.hid hb
  clear hall hblk hb
  go_wp2_with fail
  refine bodyPost_ret (results_cell_row (p := 2) (ty := 102) rfl _ _ (w.heap.size + 1) 102 _ _ _ rfl HK.out.set.set Tryz.underlying102 rfl (by kernel_rfl)) rfl ?_
  exact ⟨_, rfl, HX.out, ((HB.out.trans (HB2.out.mono HB.out.size)).setCell (by simp) _).setCell (by simp) _⟩
end Go.Proofs.YtbjaolmlnkliiaaGreatDoor

/- The contracts of the signs, and of integers that are a sign and a distance. Conditions as premises: the table of signs holds what its initialiser lays. -/
namespace Go.Proofs.YtbjaolmlnkliiaaGreatDoor
open Go.RowKit Go.Shelf

/-- the table of the signs of products -/
def sign9 : Array Value := #[.int .i64 2, .int .i64 1, .int .i64 0, .int .i64 1, .int .i64 1, .int .i64 1, .int .i64 0, .int .i64 1, .int .i64 2]
def Tabs (w : World) : Prop := ∃ t fr, w.heap[0]? = some (.cells sign9 t fr)
theorem Tabs.lt {w : World} (h : Tabs w) : 0 < w.heap.size := by
  obtain ⟨t, fr, h⟩ := h
  exact (Array.getElem?_eq_some_iff.1 h).1
theorem Tabs.below {w w' : World} (h : Tabs w) (hb : Below w.heap.size w w') : Tabs w' := by
  have hl := h.lt
  obtain ⟨t, fr, h⟩ := h
  exact ⟨t, fr, (hb.block _ hl).trans h⟩
theorem Tabs.cell {w : World} (h : Tabs w) (k : Nat) (v : Value) (hv : sign9[k]? = some v) : w.cell? ⟨0, k, none⟩ = some v := by
  obtain ⟨t, fr, h⟩ := h
  rw [← hv]
  simp [World.cell?, h]

theorem sg_cases (z : Int) : (z < 0 ∧ sg z = 0) ∨ (z = 0 ∧ sg z = 1) ∨ (0 < z ∧ sg z = 2) := by
  rcases Int.lt_trichotomy z 0 with h | h | h
  · exact .inl ⟨h, sg_neg h⟩
  · exact .inr (.inl ⟨h, sg_zero h⟩)
  · exact .inr (.inr ⟨h, sg_pos h⟩)
theorem sg_mul (x y : Int) : sg (x * y) = (sg x - 1) * (sg y - 1) + 1 := by
  rcases sg_cases x with ⟨hx, ex⟩ | ⟨hx, ex⟩ | ⟨hx, ex⟩ <;> rcases sg_cases y with ⟨hy, ey⟩ | ⟨hy, ey⟩ | ⟨hy, ey⟩ <;> rw [ex, ey]
  · exact sg_pos (Int.mul_pos_of_neg_of_neg hx hy)
  · exact sg_zero (by rw [hy, Int.mul_zero])
  · exact sg_neg (Int.mul_neg_of_neg_of_pos hx hy)
  · exact sg_zero (by rw [hx, Int.zero_mul])
  · exact sg_zero (by rw [hx, Int.zero_mul])
  · exact sg_zero (by rw [hx, Int.zero_mul])
  · exact sg_neg (Int.mul_neg_of_pos_of_neg hx hy)
  · exact sg_zero (by rw [hy, Int.mul_zero])
  · exact sg_pos (Int.mul_pos hx hy)

set_option maxHeartbeats 1600000 in
theorem signTimes (s t : Int) (hs : s = 0 ∨ s = 1 ∨ s = 2) (ht : t = 0 ∨ t = 1 ∨ t = 2) {w : World} (h : Tabs w) :
    Calls Tryz.prog 91 #[.int .i64 s, .int .i64 t] w fun e w' => e = .returned (.int .i64 ((s - 1) * (t - 1) + 1)) ∧ w = w' := by
  have c0 := h.cell 0 _ rfl
  have c1 := h.cell 1 _ rfl
  have c2 := h.cell 2 _ rfl
  have c3 := h.cell 3 _ rfl
  have c4 := h.cell 4 _ rfl
  have c5 := h.cell 5 _ rfl
  have c6 := h.cell 6 _ rfl
  have c7 := h.cell 7 _ rfl
  have c8 := h.cell 8 _ rfl
  clear h
  rcases hs with rfl | rfl | rfl <;> rcases ht with rfl | rfl | rfl
  all_goals
    go_enter Tryz.func91, Tryz.ntmps91
    go_wp2_with fail
    go_ret
    exact ⟨rfl, rfl⟩
end Go.Proofs.YtbjaolmlnkliiaaGreatDoor

/- The contracts of products and sums of integers that are a sign and a distance. Conditions as premises: the results are short enough. -/
namespace Go.Proofs.YtbjaolmlnkliiaaGreatDoor
open Go.RowKit Go.Shelf

theorem results_row_tmp {P : Program} {fn : Func} {p u : Tmp} {ty : TypeId} (h : fn.results = #[.cell p ty, .tmp u]) (tmps : Array Value) (w : World) (g : Nat) (t : TypeId) (cs : Array Value) (fr : Nat × Nat) (d : TypeDesc)
    (hp : tmps.getD p undef = .pointer (some ⟨g, 0, none⟩)) (hg : w.heap[g]? = some (.cells cs t fr))
    (hu : P.underlying ty = some d) (hd : (match d with | .struct _ | .array _ _ => true | _ => false) = true) (hi : (P.info? ty).map (·.size) = some cs.size) :
    (results fn tmps).run P w = .ok (.tuple #[.agg cs, tmps.getD u undef]) w := by
  have hp' : tmps[p]?.getD undef = .pointer (some ⟨g, 0, none⟩) := by simpa using hp
  rw [results_cell_tmp h]
  simp [hp', asAddr, run_loadVar_row w g t ty cs fr d hg hu hd hi, Result.andThen]

theorem sg_range (z : Int) : sg z = 0 ∨ sg z = 1 ∨ sg z = 2 := by
  rcases sg_cases z with ⟨_, h⟩ | ⟨_, h⟩ | ⟨_, h⟩ <;> omega

theorem Wh.get {w : World} {z : Int} {v : Value} (h : Wh w z v) : ∃ s A n c, v = .agg #[.int .i64 s, .slice A n c] ∧ Nr w z.natAbs (.slice A n c) ∧ Hid (s = sg z) ∧ (s = 0 ∨ s = 1 ∨ s = 2) := by
  obtain ⟨A, n, c, e, h⟩ := h
  exact ⟨sg z, A, n, c, e, h, rfl, sg_range z⟩

set_option maxHeartbeats 1600000 in
theorem timesN {w : World} {x y : Int} {v u : Value} (hx : Wh w x v) (hy : Wh w y u) (hT : Tabs w) (hX : x.natAbs < LB ^ NL) (hY : y.natAbs < LB ^ NL) (hs : (x * y).natAbs < LB ^ NL) :
    Calls Tryz.prog 101 #[v, u] w fun e w' => ∃ r, e = .returned (.tuple #[r, .int .i64 0]) ∧ Wh w' (x * y) r ∧ Below w.heap.size w w' := by
  obtain ⟨s, A, n, c, rfl, kx, es, hsr⟩ := hx.get
  obtain ⟨t, A', n', c', rfl, ky, et, htr⟩ := hy.get
  have hb0 : Below w.heap.size w (((w.alloc (.cells #[.int .i64 s, .slice A n c] 102)).alloc (.cells #[.int .i64 t, .slice A' n' c'] 102)).alloc (.cells #[.int .i64 0, .slice none 0 0] 102)) := (below2 w _ _).alloc (by simp; omega) _
  have hK := (Blk.new ((w.alloc (.cells #[.int .i64 s, .slice A n c] 102)).alloc (.cells #[.int .i64 t, .slice A' n' c'] 102)) #[.int .i64 0, .slice none 0 0] 102)
  have C := Lib.hid (mulN (kx.below hb0) (ky.below hb0) hX hY (by rw [← Int.natAbs_mul]; exact hs))
  have HT := Lib.hid (hT.below hb0)
  have HK := Lib.hid hK
  have HB := Lib.hid hb0
  clear hx hy kx ky hb0 hK hT hX hY hs
  go_enter Tryz.func101, Tryz.ntmps101
  go_wp2_with fail
  refine C.out.mono ?_
  rintro _ w1 ⟨r, rfl, hr, hb⟩
  obtain ⟨A1, n1, c1, rfl⟩ := hr.shape
  have hblk := Blk.below HK.out hb (by simp)
  have hT1 := HT.out.below hb
  obtain ⟨hc, hf⟩ := bcell hb
  have hz : w.heap.size + 1 + 1 < w1.heap.size := by have := hb.size; simp at this; omega
  simp only [World.size_alloc] at hblk
  have HR := Lib.hid hr
  have HK1 := Lib.hid hblk
  have HB1 := Lib.hid (HB.out.trans (hb.mono HB.out.size))
  have HST := Lib.hid (signTimes s t hsr htr hT1)
  clear hr hblk hb hT1 hsr htr C HT HK HB
  go_wp2_with fail
  refine HST.out.mono ?_
  rintro _ _ ⟨rfl, rfl⟩
  go_wp2_with fail
  refine bodyPost_ret (results_row_tmp (p := 4) (ty := 102) rfl _ _ (w.heap.size + 1 + 1) 102 _ _ _ rfl HK1.out.set.set Tryz.underlying102 rfl (by kernel_rfl)) rfl ?_
  refine ⟨_, rfl, Wh.mk ?_ ?_ (HR.out.put2 HK1.out (hnoW _ _ _ _)), (HB1.out.setCell (by simp; omega) _).setCell (by simp; omega) _⟩
  · rw [sg_mul, es.out, et.out]
  · rw [Int.natAbs_mul]

theorem Wh.put2 {w : World} {g i j : Nat} {t : TypeId} {cs : Array Value} {z : Int} {v u x : Value} (h : Wh w z v) (k : Blk w g t cs) (hno : cs.all notU32 = true) : Wh ((w.setCell ⟨g, i, none⟩ u).setCell ⟨g, j, none⟩ x) z v := by
  obtain ⟨A, n, c, e, hx⟩ := h; exact ⟨A, n, c, e, hx.put2 k hno⟩
theorem sg_same {x y : Int} (h : sg x = sg y) : sg (x + y) = sg x ∧ (x + y).natAbs = x.natAbs + y.natAbs := by
  rcases sg_cases x with ⟨hx, ex⟩ | ⟨hx, ex⟩ | ⟨hx, ex⟩ <;> rcases sg_cases y with ⟨hy, ey⟩ | ⟨hy, ey⟩ | ⟨hy, ey⟩ <;> rw [ex, ey] at h <;> first | omega | skip
  · rw [ex]; exact ⟨sg_neg (by omega), by omega⟩
  · rw [ex]; exact ⟨sg_zero (by omega), by omega⟩
  · rw [ex]; exact ⟨sg_pos (by omega), by omega⟩
theorem sn_diff {x y : Int} (h : sg x ≠ sg y) (hle : y.natAbs ≤ x.natAbs) : sn (sg x == 0) (x.natAbs - y.natAbs) = x + y := by
  unfold sn
  rcases sg_cases x with ⟨hx, ex⟩ | ⟨hx, ex⟩ | ⟨hx, ex⟩ <;> rcases sg_cases y with ⟨hy, ey⟩ | ⟨hy, ey⟩ | ⟨hy, ey⟩ <;> rw [ex] at h ⊢ <;> rw [ey] at h <;> simp at h ⊢ <;> omega

set_option maxHeartbeats 1600000 in
theorem plusN {w : World} {x y : Int} {v u : Value} (hx : Wh w x v) (hy : Wh w y u) (hX : x.natAbs < LB ^ NL) (hY : y.natAbs < LB ^ NL) (hs : x.natAbs + y.natAbs < LB ^ NL) :
    Calls Tryz.prog 102 #[v, u] w fun e w' => ∃ r, e = .returned (.tuple #[r, .int .i64 0]) ∧ Wh w' (x + y) r ∧ Below w.heap.size w w' := by
  obtain ⟨s, A, n, c, rfl, kx, es, hsr⟩ := hx.get
  obtain ⟨t, A', n', c', rfl, ky, et, htr⟩ := hy.get
  have hb0 : Below w.heap.size w (((w.alloc (.cells #[.int .i64 s, .slice A n c] 102)).alloc (.cells #[.int .i64 t, .slice A' n' c'] 102)).alloc (.cells #[.int .i64 0, .slice none 0 0] 102)) := (below2 w _ _).alloc (by simp; omega) _
  have hK := (Blk.new ((w.alloc (.cells #[.int .i64 s, .slice A n c] 102)).alloc (.cells #[.int .i64 t, .slice A' n' c'] 102)) #[.int .i64 0, .slice none 0 0] 102)
  have HK := Lib.hid hK
  have HB := Lib.hid hb0
  have HX := Lib.hid (kx.below hb0)
  have HY := Lib.hid (ky.below hb0)
  clear hx hy kx ky hb0 hK
  by_cases hst : s = t
  · have hbe : (s == t) = true := beq_iff_eq.2 hst
    have C := Lib.hid (addN HX.out HY.out hX hY hs)
    have HS := Lib.hid hst
    clear hst hX hY hs
    go_enter Tryz.func102, Tryz.ntmps102
    go_wp2_with fail
    refine C.out.mono ?_
    rintro _ w1 ⟨r, rfl, hr, hb⟩
    obtain ⟨A1, n1, c1, rfl⟩ := hr.shape
    have hblk := Blk.below HK.out hb (by simp)
    obtain ⟨hc, hf⟩ := bcell hb
    have hz : w.heap.size + 1 + 1 < w1.heap.size := by have := hb.size; simp at this; omega
    simp only [World.size_alloc] at hblk
    have HR := Lib.hid hr
    have HK1 := Lib.hid hblk
    have HB1 := Lib.hid (HB.out.trans (hb.mono HB.out.size))
    clear hr hblk hb C HK HB HX HY hsr htr
    go_wp2_with fail
    refine bodyPost_ret (results_row_tmp (p := 4) (ty := 102) rfl _ _ (w.heap.size + 1 + 1) 102 _ _ _ rfl HK1.out.set.set Tryz.underlying102 rfl (by kernel_rfl)) rfl ?_
    refine ⟨_, rfl, Wh.mk ?_ ?_ (HR.out.put2 HK1.out (hnoW _ _ _ _)), (HB1.out.setCell (by simp; omega) _).setCell (by simp; omega) _⟩
    · rw [es.out]; exact (sg_same (by rw [← es.out, ← et.out]; exact HS.out)).1.symm
    · exact (sg_same (by rw [← es.out, ← et.out]; exact HS.out)).2
  · have hbe : (s == t) = false := beq_eq_false_iff_ne.2 hst
    have C := Lib.hid (compareN HX.out HY.out hX hY)
    by_cases hlt : x.natAbs < y.natAbs
    · have hcn : cn x.natAbs y.natAbs = -1 := cn_lt hlt
      rw [hcn] at C
      clear hcn
      have HS := Lib.hid hst
      have HL := Lib.hid hlt
      clear hst hlt hs
      go_enter Tryz.func102, Tryz.ntmps102
      go_wp2_with fail
      refine C.out.mono ?_
      rintro _ w1 ⟨rfl, hb⟩
      have k2 := Blk.below (Blk.alloc (Blk.alloc (Blk.new w #[.int .i64 s, .slice A n c] 102) (.cells #[.int .i64 t, .slice A' n' c'] 102)) (.cells #[.int .i64 0, .slice none 0 0] 102)) hb (by simp; omega)
      have k3 := Blk.below (Blk.alloc (Blk.new (w.alloc (.cells #[.int .i64 s, .slice A n c] 102)) #[.int .i64 t, .slice A' n' c'] 102) (.cells #[.int .i64 0, .slice none 0 0] 102)) hb (by simp)
      have k4 := Blk.below HK.out hb (by simp)
      simp only [World.size_alloc] at k2 k3 k4
      have hx1 := HX.out.below hb
      have hy1 := HY.out.below hb
      have hb1 := HB.out.trans (hb.mono HB.out.size)
      have c20 := k2.cell (i := 0) rfl
      have c21 := k2.cell (i := 1) rfl
      have c30 := k3.cell (i := 0) rfl
      have c31 := k3.cell (i := 1) rfl
      have f2 := k2.free
      have f3 := k3.free
      have hz : w.heap.size + 1 + 1 < w1.heap.size := by have := hb.size; simp at this; omega
      clear hb HX HY HK HB C
      go_wp2_with fail
      have k2a : Blk ((w1.setCell ⟨w.heap.size, 0, none⟩ (.int .i64 t)).setCell ⟨w.heap.size, 1, none⟩ (.slice A' n' c')) w.heap.size 102 #[.int .i64 t, .slice A' n' c'] := k2.set.set
      have k3a : Blk ((w1.setCell ⟨w.heap.size, 0, none⟩ (.int .i64 t)).setCell ⟨w.heap.size, 1, none⟩ (.slice A' n' c')) (w.heap.size + 1) 102 #[.int .i64 t, .slice A' n' c'] := (k3.other (by show w.heap.size + 1 ≠ w.heap.size; omega)).other (by show w.heap.size + 1 ≠ w.heap.size; omega)
      have k2' : Blk ((((w1.setCell ⟨w.heap.size, 0, none⟩ (.int .i64 t)).setCell ⟨w.heap.size, 1, none⟩ (.slice A' n' c')).setCell ⟨w.heap.size + 1, 0, none⟩ (.int .i64 s)).setCell ⟨w.heap.size + 1, 1, none⟩ (.slice A n c)) w.heap.size 102 #[.int .i64 t, .slice A' n' c'] := (k2a.other (by show w.heap.size ≠ w.heap.size + 1; omega)).other (by show w.heap.size ≠ w.heap.size + 1; omega)
      have k4' : Blk ((((w1.setCell ⟨w.heap.size, 0, none⟩ (.int .i64 t)).setCell ⟨w.heap.size, 1, none⟩ (.slice A' n' c')).setCell ⟨w.heap.size + 1, 0, none⟩ (.int .i64 s)).setCell ⟨w.heap.size + 1, 1, none⟩ (.slice A n c)) (w.heap.size + 1 + 1) 102 #[.int .i64 0, .slice none 0 0] := (((k4.other (by show w.heap.size + 1 + 1 ≠ w.heap.size; omega)).other (by show w.heap.size + 1 + 1 ≠ w.heap.size; omega)).other (by show w.heap.size + 1 + 1 ≠ w.heap.size + 1; omega)).other (by show w.heap.size + 1 + 1 ≠ w.heap.size + 1; omega)
      have hx2 : Nr ((((w1.setCell ⟨w.heap.size, 0, none⟩ (.int .i64 t)).setCell ⟨w.heap.size, 1, none⟩ (.slice A' n' c')).setCell ⟨w.heap.size + 1, 0, none⟩ (.int .i64 s)).setCell ⟨w.heap.size + 1, 1, none⟩ (.slice A n c)) x.natAbs (.slice A n c) := (hx1.put2 k2 (hnoW _ _ _ _)).put2 k3a (hnoW _ _ _ _)
      have hy2 : Nr ((((w1.setCell ⟨w.heap.size, 0, none⟩ (.int .i64 t)).setCell ⟨w.heap.size, 1, none⟩ (.slice A' n' c')).setCell ⟨w.heap.size + 1, 0, none⟩ (.int .i64 s)).setCell ⟨w.heap.size + 1, 1, none⟩ (.slice A n c)) y.natAbs (.slice A' n' c') := (hy1.put2 k2 (hnoW _ _ _ _)).put2 k3a (hnoW _ _ _ _)
      have hb2 : Below w.heap.size w ((((w1.setCell ⟨w.heap.size, 0, none⟩ (.int .i64 t)).setCell ⟨w.heap.size, 1, none⟩ (.slice A' n' c')).setCell ⟨w.heap.size + 1, 0, none⟩ (.int .i64 s)).setCell ⟨w.heap.size + 1, 1, none⟩ (.slice A n c)) := (((hb1.setCell (Nat.le_refl _) _).setCell (Nat.le_refl _) _).setCell (by show w.heap.size ≤ w.heap.size + 1; omega) _).setCell (by show w.heap.size ≤ w.heap.size + 1; omega) _
      clear hx1 hy1 hb1 k2 k3 k4 k2a k3a c20 c21 c30 c31 f2 f3 hz
      generalize (((w1.setCell ⟨w.heap.size, 0, none⟩ (.int .i64 t)).setCell ⟨w.heap.size, 1, none⟩ (.slice A' n' c')).setCell ⟨w.heap.size + 1, 0, none⟩ (.int .i64 s)).setCell ⟨w.heap.size + 1, 1, none⟩ (.slice A n c) = w2 at *
      have hz : w.heap.size + 1 + 1 < w2.heap.size := k4'.lt
      have C2 := Lib.hid (subN hy2 hx2 hY hX (Nat.le_of_lt HL.out))
      have HB2 := Lib.hid hb2
      have K4 := Lib.hid k4'
      have K2 := Lib.hid k2'
      clear k2' k4' hb2 hx2 hy2 hX hY
      refine C2.out.mono ?_
      rintro _ w3 ⟨r, rfl, hr, hb⟩
      obtain ⟨A1, n1, c1, rfl⟩ := hr.shape
      have c20 := (K2.out.after hb).cell (i := 0) rfl
      have K43 := K4.out.after hb
      have C3 := Lib.hid (signedN (t == 0) hr)
      have HR := Lib.hid hr
      have HB3 := Lib.hid (HB2.out.trans (hb.mono HB2.out.size))
      have K4' := Lib.hid K43
      have hz3 : w.heap.size + 1 + 1 < w3.heap.size := K43.lt
      clear hr hb K4 K43 hz C2
      go_wp2_with fail
      refine C3.out.mono ?_
      rintro _ w4 ⟨q, rfl, hall, hb⟩
      have hq := hall w4 (HR.out.below hb)
      obtain ⟨A2, n2, c2, rfl, _⟩ := hall w3 HR.out
      have K44 := K4'.out.after hb
      have d0 := K44.cell (i := 0) rfl
      have d1 := K44.cell (i := 1) rfl
      have ff := K44.free
      have HQ := Lib.hid hq
      have HK5 := Lib.hid K44
      have HB4 := Lib.hid (HB3.out.trans (hb.mono HB3.out.size))
      have hz4 := Lib.hid K44.lt
      clear hq hall K44 hb HB3 HR K4' C3
      go_wp2_with fail
      refine bodyPost_ret (results_row_tmp (p := 4) (ty := 102) rfl _ _ (w.heap.size + 1 + 1) 102 _ _ _ rfl HK5.out.set.set Tryz.underlying102 rfl (by kernel_rfl)) rfl ?_
      refine ⟨_, rfl, (Wh.put2 HQ.out HK5.out (hnoW _ _ _ _)).cast ?_, (HB4.out.setCell (by simp; omega) _).setCell (by simp; omega) _⟩
      rw [et.out, sn_diff (by rw [← es.out, ← et.out]; exact fun e => HS.out e.symm) (Nat.le_of_lt HL.out), Int.add_comm]
    · have hcn : cn x.natAbs y.natAbs = 0 ∨ cn x.natAbs y.natAbs = 1 := by
        rcases Nat.eq_or_lt_of_le (Nat.not_lt.1 hlt) with e | e
        · exact .inl (cn_eq e.symm)
        · exact .inr (cn_gt e)
      have HS := Lib.hid hst
      have HL := Lib.hid (Nat.not_lt.1 hlt)
      clear hst hlt hs
      generalize cn x.natAbs y.natAbs = cc at *
      have hcc : ¬ cc < 0 := by rcases hcn with rfl | rfl <;> decide
      clear hcn
      go_enter Tryz.func102, Tryz.ntmps102
      go_wp2_with fail
      refine C.out.mono ?_
      rintro _ w1 ⟨rfl, hb⟩
      have k2 := Blk.below (Blk.alloc (Blk.alloc (Blk.new w #[.int .i64 s, .slice A n c] 102) (.cells #[.int .i64 t, .slice A' n' c'] 102)) (.cells #[.int .i64 0, .slice none 0 0] 102)) hb (by simp; omega)
      have k3 := Blk.below (Blk.alloc (Blk.new (w.alloc (.cells #[.int .i64 s, .slice A n c] 102)) #[.int .i64 t, .slice A' n' c'] 102) (.cells #[.int .i64 0, .slice none 0 0] 102)) hb (by simp)
      have k4 := Blk.below HK.out hb (by simp)
      simp only [World.size_alloc] at k2 k3 k4
      have hx2 := HX.out.below hb
      have hy2 := HY.out.below hb
      have c20 := k2.cell (i := 0) rfl
      have c21 := k2.cell (i := 1) rfl
      have c30 := k3.cell (i := 0) rfl
      have c31 := k3.cell (i := 1) rfl
      have hz : w.heap.size + 1 + 1 < w1.heap.size := k4.lt
      have C2 := Lib.hid (subN hx2 hy2 hX hY HL.out)
      have HB2 := Lib.hid (HB.out.trans (hb.mono HB.out.size))
      have K4 := Lib.hid k4
      have K2 := Lib.hid k2
      clear hb HX HY HK HB C hx2 hy2 k2 k3 k4 hX hY
      go_wp2_with fail
      clear c20 c21 c30 c31
      refine C2.out.mono ?_
      rintro _ w3 ⟨r, rfl, hr, hb⟩
      obtain ⟨A1, n1, c1, rfl⟩ := hr.shape
      have c20 := (K2.out.after hb).cell (i := 0) rfl
      have K43 := K4.out.after hb
      have C3 := Lib.hid (signedN (s == 0) hr)
      have HR := Lib.hid hr
      have HB3 := Lib.hid (HB2.out.trans (hb.mono HB2.out.size))
      have K4' := Lib.hid K43
      have hz3 : w.heap.size + 1 + 1 < w3.heap.size := K43.lt
      clear hr hb K4 K43 hz C2
      go_wp2_with fail
      refine C3.out.mono ?_
      rintro _ w4 ⟨q, rfl, hall, hb⟩
      have hq := hall w4 (HR.out.below hb)
      obtain ⟨A2, n2, c2, rfl, _⟩ := hall w3 HR.out
      have K44 := K4'.out.after hb
      have d0 := K44.cell (i := 0) rfl
      have d1 := K44.cell (i := 1) rfl
      have ff := K44.free
      have HQ := Lib.hid hq
      have HK5 := Lib.hid K44
      have HB4 := Lib.hid (HB3.out.trans (hb.mono HB3.out.size))
      have hz4 := Lib.hid K44.lt
      clear hq hall K44 hb HB3 HR K4' C3
      go_wp2_with fail
      refine bodyPost_ret (results_row_tmp (p := 4) (ty := 102) rfl _ _ (w.heap.size + 1 + 1) 102 _ _ _ rfl HK5.out.set.set Tryz.underlying102 rfl (by kernel_rfl)) rfl ?_
      refine ⟨_, rfl, (Wh.put2 HQ.out HK5.out (hnoW _ _ _ _)).cast ?_, (HB4.out.setCell (by simp; omega) _).setCell (by simp; omega) _⟩
      rw [es.out, sn_diff (by rw [← es.out, ← et.out]; exact HS.out) HL.out]
end Go.Proofs.YtbjaolmlnkliiaaGreatDoor

/- The contracts of number, parts, negated and reduced. Conditions as premises: the parts read, and are short enough. -/
namespace Go.Proofs.YtbjaolmlnkliiaaGreatDoor
open Go.RowKit Go.Shelf
attribute [local go_sem ↓] Go.wp_at_zero Go.wp_at_succ

set_option maxHeartbeats 800000 in
theorem numberX (s : Int) (A A' : Option Addr) (n c n' c' : Nat) (w : World) :
    Calls Tryz.prog 106 #[.int .i64 s, .agg #[.slice A n c, .slice A' n' c']] w fun e w' => e = .returned (.agg #[.bool (s == 0), .slice A n c, .slice A' n' c']) ∧ Below w.heap.size w w' := by
  have hb0 := below2 w (.cells #[.slice A n c, .slice A' n' c'] 105) (.cells #[.bool (s == 0), .slice A n c, .slice A' n' c'] 25)
  have HB := Lib.hid hb0
  clear hb0
  go_enter Tryz.func106, Tryz.ntmps106
  go_wp2_with fail
  refine bodyPost_ret (results_cell_row (p := 4) (ty := 25) rfl _ _ (w.heap.size + 1) 25 _ _ _ rfl (heap_alloc2_new _ _ _) Tryz.underlying25 rfl (by kernel_rfl)) rfl ?_
  exact ⟨rfl, HB.out⟩

set_option maxHeartbeats 800000 in
theorem partsX (b : Bool) (A A' : Option Addr) (n c n' c' : Nat) (w : World) :
    Calls Tryz.prog 108 #[.agg #[.bool b, .slice A n c, .slice A' n' c']] w fun e w' => e = .returned (.agg #[.slice A n c, .slice A' n' c']) ∧ Below w.heap.size w w' := by
  have hb0 := below2 w (.cells #[.bool b, .slice A n c, .slice A' n' c'] 25) (.cells #[.slice A n c, .slice A' n' c'] 105)
  have HB := Lib.hid hb0
  clear hb0
  go_enter Tryz.func108, Tryz.ntmps108
  go_wp2_with fail
  refine bodyPost_ret (results_cell_row (p := 2) (ty := 105) rfl _ _ (w.heap.size + 1) 105 _ _ _ rfl (heap_alloc2_new _ _ _) Tryz.underlying105 rfl (by kernel_rfl)) rfl ?_
  exact ⟨rfl, HB.out⟩

theorem Rq.get {w : World} {q : Rat} {v : Value} (h : Rq w q v) : ∃ b A n c A' n' c', v = .agg #[.bool b, .slice A n c, .slice A' n' c'] ∧ Nr w q.num.natAbs (.slice A n c) ∧ Nr w q.den (.slice A' n' c') ∧ Hid (b = decide (q.num < 0)) := by
  obtain ⟨A, n, c, A', n', c', e, hx, hy⟩ := h
  exact ⟨_, A, n, c, A', n', c', e, hx, hy, rfl⟩
theorem Rq.mk {w : World} {q : Rat} {b : Bool} {N D n c n' c' : Nat} {A A' : Option Addr} (hb : b = decide (q.num < 0)) (hn : q.num.natAbs = N) (hd : q.den = D) (h : Nr w N (.slice A n c)) (k : Nr w D (.slice A' n' c')) : Rq w q (.agg #[.bool b, .slice A n c, .slice A' n' c']) :=
  ⟨A, n, c, A', n', c', by rw [hb], by rw [hn]; exact h, by rw [hd]; exact k⟩

theorem Rq.inv {w : World} {q : Rat} {b : Bool} {n c n' c' : Nat} {A A' : Option Addr} (h : Rq w q (.agg #[.bool b, .slice A n c, .slice A' n' c'])) : Nr w q.num.natAbs (.slice A n c) ∧ Nr w q.den (.slice A' n' c') ∧ b = decide (q.num < 0) := by
  obtain ⟨A1, n1, c1, A2, n2, c2, e, hx, hy⟩ := h
  simp only [Value.agg.injEq, Array.mk.injEq, List.cons.injEq, Value.bool.injEq, Value.slice.injEq, and_true] at e
  obtain ⟨rfl, ⟨rfl, rfl, rfl⟩, rfl, rfl, rfl⟩ := e
  exact ⟨hx, hy, rfl⟩
theorem field_side (s : Int) (A : Option Addr) (n c : Nat) (w : World) : (Instr.field 102 (.agg #[.int .i64 s, .slice A n c]) 0).run Tryz.prog w = .ok (.int .i64 s) w := by kernel_rfl
theorem sg_two (z : Int) : (sg z == 2) = decide (-z < 0) := by
  rcases sg_cases z with ⟨h, e⟩ | ⟨h, e⟩ | ⟨h, e⟩ <;> rw [e] <;> simp <;> omega
theorem sg_0 (z : Int) : (sg z == 0) = decide (z < 0) := by
  rcases sg_cases z with ⟨h, e⟩ | ⟨h, e⟩ | ⟨h, e⟩ <;> rw [e] <;> simp <;> omega

set_option maxRecDepth 100000 in
set_option maxHeartbeats 1600000 in
theorem negatedQ {w : World} {q : Rat} {v : Value} (h : Rq w q v) :
    Calls Tryz.prog 96 #[v] w fun e w' => ∃ x, e = .returned x ∧ (∀ W, Rq W q v → Rq W (-q) x) ∧ Below w.heap.size w w' := by
  obtain ⟨b, A, n, c, A', n', c', rfl, kx, ky, eb⟩ := h.get
  have hb0 := below2 w (.cells #[.bool b, .slice A n c, .slice A' n' c'] 25) (.cells #[.bool false, .slice none 0 0, .slice none 0 0] 25)
  have C := Lib.hid (numeratorN (neg := b) (A' := A') (n' := n') (c' := c') (kx.below hb0))
  have H := Lib.hid kx
  have HB := Lib.hid hb0
  clear h ky hb0 kx
  go_enter Tryz.func96, Tryz.ntmps96
  go_wp2_with fail
  refine C.out.mono ?_
  rintro _ w1 ⟨x, rfl, hall, hb⟩
  obtain ⟨s, A1, n1, c1, rfl, _, es, hsr⟩ := (hall w H.out).get
  have k2 := Blk.below (Blk.alloc (Blk.new w #[.bool b, .slice A n c, .slice A' n' c'] 25) (.cells #[.bool false, .slice none 0 0, .slice none 0 0] 25)) hb (by simp; omega)
  have k3 := Blk.below (Blk.new (w.alloc (.cells #[.bool b, .slice A n c, .slice A' n' c'] 25)) #[.bool false, .slice none 0 0, .slice none 0 0] 25) hb (by simp)
  simp only [World.size_alloc] at k2 k3
  have c20 := k2.cell (i := 0) rfl
  have c21 := k2.cell (i := 1) rfl
  have c22 := k2.cell (i := 2) rfl
  have c30 := k3.cell (i := 0) rfl
  have c31 := k3.cell (i := 1) rfl
  have c32 := k3.cell (i := 2) rfl
  have f2 := k2.free
  have f3 := k3.free
  have hz : w.heap.size + 1 < w1.heap.size := k3.lt
  have HB1 := Lib.hid (HB.out.trans (hb.mono HB.out.size))
  have K2 := Lib.hid k2
  have K3 := Lib.hid k3
  clear hb hall k2 k3 H HB C
  have hfld := field_side s A1 n1 c1 w1
  go_wp2_with fail
  refine bodyPost_ret (results_cell_row (p := 2) (ty := 25) rfl _ _ (w.heap.size + 1) 25 _ _ _ rfl (K3.out.other (by show w.heap.size + 1 ≠ w.heap.size; omega)).set.set.set Tryz.underlying25 rfl (by kernel_rfl)) rfl ?_
  refine ⟨_, rfl, fun W hW => ?_, (((HB1.out.setCell (Nat.le_refl _) _).setCell (by simp) _).setCell (by simp) _).setCell (by simp) _⟩
  obtain ⟨h1, h2, _⟩ := hW.inv
  refine Rq.mk ?_ ?_ rfl h1 h2
  · rw [es.out, eb.out, sn_num, sg_two]; rfl
  · rw [Rat.neg_num, Int.natAbs_neg]

set_option maxRecDepth 100000 in
set_option maxHeartbeats 4000000 in
/-- any fraction as a number, in lowest terms -/
theorem reducedQ {w : World} {z : Int} {N D : Nat} {v : Value} (h : Fr w N D v) (hz : z.natAbs = N) (hD : D ≠ 0) (hN : N < LB ^ NL) (hDl : D < LB ^ NL) :
    Calls Tryz.prog 85 #[.int .i64 (sg z), v] w fun e w' => ∃ x, e = .returned x ∧ Rq w' (mkRat z D) x ∧ Below w.heap.size w w' := by
  obtain ⟨A, n, c, A', n', c', rfl, kx, ky⟩ := h
  have hb0 := below2 w (.cells #[.slice A n c, .slice A' n' c'] 105) (.cells #[.bool false, .slice none 0 0, .slice none 0 0] 25)
  have C := Lib.hid (divisorN (kx.below hb0) (ky.below hb0) hN hDl)
  have HX := Lib.hid (kx.below hb0)
  have HY := Lib.hid (ky.below hb0)
  have HB := Lib.hid hb0
  have hsr := sg_range z
  have hz' := Lib.hid hz
  clear hz
  generalize hs : sg z = s at *
  have HS := Lib.hid hs
  clear hs hb0 kx ky
  go_enter Tryz.func85, Tryz.ntmps85
  go_wp2_with fail
  refine C.out.mono ?_
  rintro _ w1 ⟨g, rfl, hg, hb⟩
  have k2 := Blk.below (Blk.alloc (Blk.new w #[.slice A n c, .slice A' n' c'] 105) (.cells #[.bool false, .slice none 0 0, .slice none 0 0] 25)) hb (by simp; omega)
  have k3 := Blk.below (Blk.new (w.alloc (.cells #[.slice A n c, .slice A' n' c'] 105)) #[.bool false, .slice none 0 0, .slice none 0 0] 25) hb (by simp)
  simp only [World.size_alloc] at k2 k3
  have hgd : 0 < Nat.gcd N D := gcd_pos_r hD
  have hgl : Nat.gcd N D < LB ^ NL := Nat.lt_of_le_of_lt (Nat.gcd_le_right _ (Nat.pos_of_ne_zero hD)) hDl
  have HX1 := Lib.hid (HX.out.below hb)
  have HY1 := Lib.hid (HY.out.below hb)
  have HG1 := Lib.hid hg
  have HB1 := Lib.hid (HB.out.trans (hb.mono HB.out.size))
  have K2 := Lib.hid k2
  have K3 := Lib.hid k3
  have HQ1 := Lib.hid fun W (h1 : Below w1.heap.size w1 W) => quotientN (HX1.out.below h1) (HG1.out.below h1) hN hgl hgd
  have HQ2 := Lib.hid fun W (h1 : Below w1.heap.size w1 W) => quotientN (HY1.out.below h1) (HG1.out.below h1) hDl hgl hgd
  have KEEP : Hid (∀ W, Below w1.heap.size w1 W → W.cell? ⟨w.heap.size, 0, none⟩ = some (.slice A n c) ∧ W.cell? ⟨w.heap.size, 1, none⟩ = some (.slice A' n' c')) := Lib.hid fun W h1 =>
    ⟨(K2.out.after h1).cell rfl, (K2.out.after h1).cell rfl⟩
  have hdrew : Below w1.heap.size w1 w1.drew := (Below.refl _ _).drew
  have hz : w.heap.size + 1 < w1.heap.size := k3.lt
  clear hb hg k2 k3 HX HY HB C hN hDl hgl hgd
  go_wp2_with fail
  go_region_held3 (fun W => W.cell? ⟨w.heap.size, 0, none⟩ = some (.slice A n c) ∧ W.cell? ⟨w.heap.size, 1, none⟩ = some (.slice A' n' c'))
    (first | with_reducible exact KEEP.out w1.drew hdrew | with_reducible exact KEEP.out wa hka | with_reducible exact KEEP.out wb hkb | with_reducible exact KEEP.out wc hkc | go_keep)
    (first
      | (go_at_call_of 161 n; (with_reducible refine (HQ1.out w1.drew hdrew).mono ?_); rintro _ wa ⟨v1, rfl, hv1, hba⟩; obtain ⟨A3, n3, c3, rfl⟩ := hv1.shape; have HV1 := Lib.hid hv1; clear hv1; have hka := hdrew.trans (hba.mono hdrew.size))
      | (go_at_call_of 161 n'; (with_reducible refine (HQ2.out wa hka).mono ?_); rintro _ wb ⟨v2, rfl, hv2, hbb⟩; obtain ⟨A4, n4, c4, rfl⟩ := hv2.shape; have HV2 := Lib.hid hv2; clear hv2; have hkb := hka.trans (hbb.mono hka.size))
      | (go_at_call 106; (with_reducible refine (numberX s A3 A4 n3 c3 n4 c4 wb).mono ?_); rintro _ wc ⟨rfl, hbc⟩; have hkc := hkb.trans (hbc.mono hkb.size); have hzc : w.heap.size + 1 < wc.heap.size := Nat.lt_of_lt_of_le hz hkc.size; have d0 := (K3.out.after hkc).cell (i := 0) rfl; have d1 := (K3.out.after hkc).cell (i := 1) rfl; have d2 := (K3.out.after hkc).cell (i := 2) rfl; have ff := (K3.out.after hkc).free))
  have K3c := K3.out.after hkc
  have hv1 := (HV1.out.below hbb).below hbc
  have hv2 := HV2.out.below hbc
  have hbc' := HB1.out.trans (hkc.mono HB1.out.size)
  obtain ⟨_, e2, e3⟩ := mkRat_red z D hD
  rw [hz'.out] at e2 e3
  go_wp2_with fail
  refine bodyPost_ret (results_cell_row (p := 4) (ty := 25) rfl _ _ (w.heap.size + 1) 25 _ _ _ rfl K3c.set.set.set Tryz.underlying25 rfl (by kernel_rfl)) rfl ?_
  refine ⟨_, rfl, Rq.mk ?_ e2 e3 (hv1.put3 K3c (hnoR _ _ _ _ _ _ _)) (hv2.put3 K3c (hnoR _ _ _ _ _ _ _)), ((hbc'.setCell (by simp) _).setCell (by simp) _).setCell (by simp) _⟩
  rw [← HS.out, sg_0]
  exact decide_eq_decide.2 (mkRat_neg_iff z D hD).symm
end Go.Proofs.YtbjaolmlnkliiaaGreatDoor

/- The contracts of the kit's Gcd, NatOf and RatOf. Conditions as premises: small ints. -/
namespace Go.Proofs.YtbjaolmlnkliiaaGreatDoor
open Go.RowKit

set_option maxHeartbeats 800000 in
set_option maxRecDepth 100000 in
theorem kitGcd_any (x y : Nat) (hx : x ≤ 1000000000) (hy : y ≤ 1000000000) (w : World) :
    Calls Tryz.prog 135 #[.int .i64 (iv x), .int .i64 (iv y)] w fun e w' => e = .returned (.int .i64 (iv (Nat.gcd x y))) ∧ Below w.heap.size w w' := by
  obtain ⟨X0, hX0⟩ : ∃ X, X = iv x := ⟨_, rfl⟩
  obtain ⟨Y0, hY0⟩ : ∃ Y, Y = iv y := ⟨_, rfl⟩
  rw [← hX0, ← hY0]
  have HX0 := Lib.hid hX0
  have HY0 := Lib.hid hY0
  clear hX0 hY0
  go_enter Tryz.func135, Tryz.ntmps135
  go_wp2
  go_loopw [0, 1] (fun u v wr => ∃ X Y d : Nat, u = .int .i64 (iv X) ∧ v = .int .i64 (iv Y) ∧ Hid (Nat.gcd X Y = Nat.gcd x y ∧ X ≤ 1000000000 ∧ Y ≤ 1000000000) ∧ wr = w.drewN d) (fun _ v _ => (intOf v).toNat)
  case atStart => exact ⟨x, y, 0, by rw [HX0.out], by rw [HY0.out], ⟨rfl, hx, hy⟩, rfl⟩
  case round =>
    obtain ⟨X, Y, d, rfl, rfl, hg, rfl⟩ := hrel
    have hX1 : iv X ≤ 1000000000 := by rw [iv_eq]; have := hg.out.2.1; omega
    have hX0' := iv_nonneg X
    rcases Nat.eq_zero_or_pos Y with h0 | h0
    · subst h0
      have HG : Hid (X = Nat.gcd x y) := Lib.hid (by rw [← hg.out.1, Nat.gcd_zero_right])
      have hm : max (iv X) (-iv X) = iv X := Int.max_eq_left (by omega)
      rw [iv_zero]
      clear hg
      generalize hgX : iv X = XX at *
      have HGX := Lib.hid hgX
      clear hgX
      go_wp2
      go_ret
      exact ⟨ret_int (by rw [← HGX.out, ← HG.out]), (Qt.n1 w d).below⟩
    · have hp := iv_pos (show Y ≠ 0 by omega)
      have hY1 : iv Y ≤ 1000000000 := by rw [iv_eq]; have := hg.out.2.2; omega
      have hm := (iv_mod' X Y).1
      have hm0 := iv_nonneg (X % Y)
      have hml : iv (X % Y) < iv Y := by rw [iv_eq, iv_eq]; have := Nat.mod_lt X h0; omega
      have HM := Lib.hid hm
      have HG : Hid (Nat.gcd Y (X % Y) = Nat.gcd x y ∧ Y ≤ 1000000000 ∧ X % Y ≤ 1000000000) := ⟨by rw [← hg.out.1, Nat.gcd_comm X Y, Nat.gcd_rec Y X, Nat.gcd_comm], hg.out.2.2, Nat.le_trans (Nat.le_of_lt (Nat.mod_lt X h0)) hg.out.2.2⟩
      clear hm h0 hg
      generalize hgX : iv X = XX at *
      generalize hgY : iv Y = YY at *
      generalize hgZ : iv (X % Y) = Z at *
      have HGY := Lib.hid hgY
      have HGZ := Lib.hid hgZ
      clear hgX hgY hgZ
      go_wp2
      go_quiet (fail)
      go_wp2
      go_roundw
      case rel => exact ⟨Y, X % Y, _, by rw [HGY.out], by rw [HM.out, HGZ.out], HG, World.drewN_drewN _ _ _⟩
      case measure => rw [HM.out]; simp [intOf] <;> omega

set_option maxHeartbeats 800000 in
theorem kitNatOf_any (N : Nat) (hN : Big (N ≤ 9000000000000000000)) (w : World) :
    Calls Tryz.prog 136 #[.int .i64 (iv N)] w fun e w' => ∃ v, e = .returned v ∧ Made w N v w' := by
  obtain ⟨i0, hi, hz0, hz1, hz2⟩ := info_parts info32
  go_enter Tryz.func136, Tryz.ntmps136
  go_wp2
  go_loopw [0, 3] (fun u v wr => ∃ k : Nat, k ≤ 3 ∧ u = .int .i64 (iv (N / LB ^ k)) ∧ Own wr w.heap.size v k (dig N) ∧ Below w.heap.size w wr ∧ Hid (∀ j, j < k → N / LB ^ j ≠ 0)) (fun u _ _ => (intOf u).toNat)
  case atStart => exact ⟨0, by omega, by simp, Own.nil _ _ _, Below.refl _ _, fun j hj => by omega⟩
  case round =>
    obtain ⟨k, hk, rfl, hown, hbel, hpre⟩ := hrel
    have hx0 : 0 ≤ iv (N / LB ^ k) := iv_nonneg _
    have hmod := Lib.hid (iv_mod N k)
    have hdiv := Lib.hid (iv_div N k)
    by_cases hq : N / LB ^ k = 0
    · rw [show iv (N / LB ^ k) = 0 by rw [hq, iv_zero]]
      have HQ := Lib.hid hq
      clear hq hx0
      go_wp2
      go_ret
      exact ⟨_, rfl, made_of hown hbel HQ.out hpre.out⟩
    · have hz := iv_pos hq
      have hx1 : iv (N / LB ^ k) ≤ 9000000000000000000 := by
        have h1 := Nat.div_le_self N (LB ^ k)
        have h2 := hN.out
        rw [iv_eq]; omega
      have hk3 := div_lt3 (Nat.lt_of_le_of_lt hN.out (by omega)) hq
      have HQ := Lib.hid hq
      clear hq
      generalize hgx : iv (N / LB ^ k) = x at *
      have HGX := Lib.hid hgx
      clear hgx
      have hsz := hbel.size
      go_wp2_with (at_builtin; refine wpList_append_own _ rfl (.tmp 6) (.tmp 10) 23 rfl w.heap.size 40 i0 (.int .u32 0) 1 4 Tryz.underlying23 hi hz0 hz1 hz2 rfl (by decide) _ _ _ rfl (World.ownsRow.alloc hown _) ⟨wr.heap.size, 0, none⟩ 1 1 [.int .u32 (x % 1000000000)] rfl rfl (cell_one_new _ _ _) ?c2 ?c3 ?c4 ?c5 ?_)
      case c2 => intro u hu; simp at hu; subst hu; rfl
      case c3 => unfold maxLen; omega
      case c4 => omega
      case c5 => simp; omega
      intro v' w1 hown' hgrow _
      have hb1 := snoc_below hown hbel (Nat.le_refl _) hsz hgrow
      rw [hmod.out] at hown'
      have hown1 := Own.snoc hown' rfl
      clear hown' hgrow hown hbel
      go_wp2
      go_roundw
      case rel => exact ⟨k + 1, by omega, by rw [hdiv.out], hown1, hb1, fun j hj => by
        by_cases e : j = k
        · subst e; exact HQ.out
        · exact hpre.out j (by omega)⟩
      case measure => simp [intOf] <;> omega

theorem kitNatOfN (N : Nat) (hN : N ≤ 1000000000) (w : World) :
    Calls Tryz.prog 136 #[.int .i64 (iv N)] w fun e w' => ∃ v, e = .returned v ∧ Nr w' N v ∧ Below w.heap.size w w' := by
  refine (kitNatOf_any N (Big.mk (by omega)) w).mono ?_
  rintro e w' ⟨v, he, hm⟩
  exact ⟨v, he, hm.nr⟩

theorem mkRat_div (z : Int) (d : Nat) (hd : d ≠ 0) (N : Nat) (hN : z.natAbs = N) : (mkRat z d).num.natAbs = N / Nat.gcd N d ∧ (mkRat z d).den = d / Nat.gcd N d ∧ decide ((mkRat z d).num < 0) = decide (z < 0) := by
  obtain ⟨_, e2, e3⟩ := mkRat_red z d hd
  rw [hN] at e2 e3
  exact ⟨e2, e3, decide_eq_decide.2 (mkRat_neg_iff z d hd)⟩

set_option maxHeartbeats 1600000 in
set_option maxRecDepth 100000 in
theorem ratOf_neg (N D : Nat) (h0 : 0 < N) (h1 : N ≤ 1000000000) (h2 : 0 < D) (h3 : D ≤ 1000000000) (w : World) :
    Calls Tryz.prog 57 #[.int .i64 (-iv N), .int .i64 (iv D)] w fun e w' => ∃ v, e = .returned v ∧ Rq w' (mkRat (-(N : Int)) D) v ∧ Below w.heap.size w w' := by
  have hg0 : 0 < Nat.gcd N D := Nat.gcd_pos_of_pos_left _ h0
  have hgl : Nat.gcd N D ≤ N := Nat.gcd_le_left _ h0
  have hgr : Nat.gcd N D ≤ D := Nat.gcd_le_right _ h2
  have e1 := (iv_mod' N (Nat.gcd N D)).2
  have e2 := (iv_mod' D (Nat.gcd N D)).2
  have C1 := Lib.hid (kitGcd_any N D h1 h3)
  have hq1 : N / Nat.gcd N D ≤ 1000000000 := Nat.le_trans (Nat.div_le_self _ _) h1
  have hq2 : D / Nat.gcd N D ≤ 1000000000 := Nat.le_trans (Nat.div_le_self _ _) h3
  have hq0 : 0 < N / Nat.gcd N D := Nat.div_pos hgl hg0
  have C2 := Lib.hid (kitNatOfN (N / Nat.gcd N D) hq1)
  have C3 := Lib.hid (kitNatOfN (D / Nat.gcd N D) hq2)
  have M := Lib.hid (mkRat_div (-(N : Int)) D (by omega) N (by omega))
  have p1 : 0 < iv N := iv_pos (by omega)
  have p2 : iv N ≤ 1000000000 := by rw [iv_eq]; omega
  have p3 : 0 < iv D := iv_pos (by omega)
  have p4 : iv D ≤ 1000000000 := by rw [iv_eq]; omega
  have p5 : 0 < iv (Nat.gcd N D) := iv_pos (by omega)
  have p6 : iv (Nat.gcd N D) ≤ 1000000000 := by rw [iv_eq]; omega
  have p7 : 0 < iv (N / Nat.gcd N D) := iv_pos (by omega)
  have p8 : iv (N / Nat.gcd N D) ≤ 1000000000 := by rw [iv_eq]; omega
  have p9 : 0 ≤ iv (D / Nat.gcd N D) := iv_nonneg _
  have p10 : iv (D / Nat.gcd N D) ≤ 1000000000 := by rw [iv_eq]; omega
  have NN := Lib.hid h0
  clear h0 h1 h2 h3 hg0 hgl hgr hq0 hq1 hq2
  generalize iv N = n at *
  generalize iv D = d at *
  generalize iv (Nat.gcd N D) = g at *
  have hm : max (-n) n = n := Int.max_eq_right (by omega)
  have e3 : wrap64 (-n.tdiv g) = -iv (N / Nat.gcd N D) := by
    rw [Int.tdiv_eq_ediv_of_nonneg (by omega), e1]
    exact IntWalk.wrap64_in _ (by omega)
  generalize iv (N / Nat.gcd N D) = q at *
  generalize iv (D / Nat.gcd N D) = r at *
  have hlt : -q < 0 := by omega
  go_enter Tryz.func57, Tryz.ntmps57
  go_wp2_with fail
  refine (C1.out _).mono ?_
  rintro _ w1 ⟨rfl, hb⟩
  have K := Lib.hid ((Blk.new w #[.bool false, .slice none 0 0, .slice none 0 0] 25).after hb)
  have HB := Lib.hid ((below1 w _).trans (hb.mono (below1 w _).size))
  clear hb e1
  go_wp2_with fail
  go_quiet (fail)
  go_wp2_with fail
  refine (C2.out _).mono ?_
  rintro _ w2 ⟨x, rfl, hx, hb⟩
  obtain ⟨B1, m1, d1, rfl⟩ := hx.shape
  replace HB := Lib.hid ((HB.out.trans ((Qt.n1 w1 nq).below.mono HB.out.size)).trans (hb.mono (HB.out.trans ((Qt.n1 w1 nq).below.mono HB.out.size)).size))
  replace K := Lib.hid ((K.out.after (Qt.n1 w1 nq).below).after hb)
  have HX := Lib.hid hx
  clear hx hb
  go_wp2_with fail
  refine (C3.out _).mono ?_
  rintro _ w3 ⟨x, rfl, hx, hb⟩
  obtain ⟨B2, m2, d2, rfl⟩ := hx.shape
  replace HB := Lib.hid (HB.out.trans (hb.mono HB.out.size))
  replace K := Lib.hid (K.out.after hb)
  replace HX := Lib.hid (HX.out.below hb)
  have HY := Lib.hid hx
  have hz : w.heap.size < w3.heap.size := K.out.lt
  have k0 := K.out.cell (i := 0) rfl
  have k1 := K.out.cell (i := 1) rfl
  have k2 := K.out.cell (i := 2) rfl
  have ff := K.out.free
  clear hx hb
  go_wp2_with fail
  refine bodyPost_ret (results_cell_row (p := 4) (ty := 25) rfl _ _ w.heap.size 25 _ _ _ rfl K.out.set.set.set Tryz.underlying25 rfl (by kernel_rfl)) rfl ?_
  refine ⟨_, rfl, Rq.mk ?_ M.out.1 M.out.2.1 (HX.out.put3 K.out (hnoR _ _ _ _ _ _ _)) (HY.out.put3 K.out (hnoR _ _ _ _ _ _ _)), ((HB.out.setCell (Nat.le_refl _) _).setCell (Nat.le_refl _) _).setCell (Nat.le_refl _) _⟩
  rw [M.out.2.2]
  exact (decide_eq_true (by have := NN.out; omega)).symm

set_option maxHeartbeats 1600000 in
set_option maxRecDepth 100000 in
theorem ratOf_pos (N D : Nat) (h1 : N ≤ 1000000000) (h2 : 0 < D) (h3 : D ≤ 1000000000) (w : World) :
    Calls Tryz.prog 57 #[.int .i64 (iv N), .int .i64 (iv D)] w fun e w' => ∃ v, e = .returned v ∧ Rq w' (mkRat (N : Int) D) v ∧ Below w.heap.size w w' := by
  have hg0 : 0 < Nat.gcd N D := Nat.gcd_pos_of_pos_right _ h2
  have hgr : Nat.gcd N D ≤ D := Nat.gcd_le_right _ h2
  have e1 := (iv_mod' N (Nat.gcd N D)).2
  have e2 := (iv_mod' D (Nat.gcd N D)).2
  have C1 := Lib.hid (kitGcd_any N D h1 h3)
  have hq1 : N / Nat.gcd N D ≤ 1000000000 := Nat.le_trans (Nat.div_le_self _ _) h1
  have hq2 : D / Nat.gcd N D ≤ 1000000000 := Nat.le_trans (Nat.div_le_self _ _) h3
  have C2 := Lib.hid (kitNatOfN (N / Nat.gcd N D) hq1)
  have C3 := Lib.hid (kitNatOfN (D / Nat.gcd N D) hq2)
  have M := Lib.hid (mkRat_div (N : Int) D (by omega) N (by omega))
  have p1 : 0 ≤ iv N := iv_nonneg _
  have p2 : iv N ≤ 1000000000 := by rw [iv_eq]; omega
  have p3 : 0 < iv D := iv_pos (by omega)
  have p4 : iv D ≤ 1000000000 := by rw [iv_eq]; omega
  have p5 : 0 < iv (Nat.gcd N D) := iv_pos (by omega)
  have p6 : iv (Nat.gcd N D) ≤ 1000000000 := by rw [iv_eq]; omega
  have p7 : 0 ≤ iv (N / Nat.gcd N D) := iv_nonneg _
  have p8 : iv (N / Nat.gcd N D) ≤ 1000000000 := by rw [iv_eq]; omega
  have p9 : 0 ≤ iv (D / Nat.gcd N D) := iv_nonneg _
  have p10 : iv (D / Nat.gcd N D) ≤ 1000000000 := by rw [iv_eq]; omega
  clear h1 h2 h3 hg0 hgr hq1 hq2
  generalize iv N = n at *
  generalize iv D = d at *
  generalize iv (Nat.gcd N D) = g at *
  have hm : max n (-n) = n := Int.max_eq_left (by omega)
  generalize iv (N / Nat.gcd N D) = q at *
  generalize iv (D / Nat.gcd N D) = r at *
  go_enter Tryz.func57, Tryz.ntmps57
  go_wp2_with fail
  refine (C1.out _).mono ?_
  rintro _ w1 ⟨rfl, hb⟩
  have K := Lib.hid ((Blk.new w #[.bool false, .slice none 0 0, .slice none 0 0] 25).after hb)
  have HB := Lib.hid ((below1 w _).trans (hb.mono (below1 w _).size))
  clear hb
  go_wp2_with fail
  go_quiet (fail)
  go_wp2_with fail
  refine (C2.out _).mono ?_
  rintro _ w2 ⟨x, rfl, hx, hb⟩
  obtain ⟨B1, m1, d1, rfl⟩ := hx.shape
  replace HB := Lib.hid ((HB.out.trans ((Qt.n1 w1 nq).below.mono HB.out.size)).trans (hb.mono (HB.out.trans ((Qt.n1 w1 nq).below.mono HB.out.size)).size))
  replace K := Lib.hid ((K.out.after (Qt.n1 w1 nq).below).after hb)
  have HX := Lib.hid hx
  clear hx hb
  go_wp2_with fail
  refine (C3.out _).mono ?_
  rintro _ w3 ⟨x, rfl, hx, hb⟩
  obtain ⟨B2, m2, d2, rfl⟩ := hx.shape
  replace HB := Lib.hid (HB.out.trans (hb.mono HB.out.size))
  replace K := Lib.hid (K.out.after hb)
  replace HX := Lib.hid (HX.out.below hb)
  have HY := Lib.hid hx
  have hz : w.heap.size < w3.heap.size := K.out.lt
  have k0 := K.out.cell (i := 0) rfl
  have k1 := K.out.cell (i := 1) rfl
  have k2 := K.out.cell (i := 2) rfl
  have ff := K.out.free
  clear hx hb
  go_wp2_with fail
  refine bodyPost_ret (results_cell_row (p := 4) (ty := 25) rfl _ _ w.heap.size 25 _ _ _ rfl K.out.set.set.set Tryz.underlying25 rfl (by kernel_rfl)) rfl ?_
  refine ⟨_, rfl, Rq.mk ?_ M.out.1 M.out.2.1 (HX.out.put3 K.out (hnoR _ _ _ _ _ _ _)) (HY.out.put3 K.out (hnoR _ _ _ _ _ _ _)), ((HB.out.setCell (Nat.le_refl _) _).setCell (Nat.le_refl _) _).setCell (Nat.le_refl _) _⟩
  rw [M.out.2.2]
  exact (decide_eq_false (by omega)).symm

/-- a quotient of small ints -/
theorem ratOfN (z : Int) (D : Nat) (h0 : -1000000000 ≤ z) (h1 : z ≤ 1000000000) (h2 : 0 < D) (h3 : D ≤ 1000000000) (w : World) :
    Calls Tryz.prog 57 #[.int .i64 z, .int .i64 (D : Int)] w fun e w' => ∃ v, e = .returned v ∧ Rq w' (mkRat z D) v ∧ Below w.heap.size w w' := by
  rcases Int.lt_or_le z 0 with h | h
  · have e := ratOf_neg z.natAbs D (by omega) (by omega) h2 h3 w
    rw [iv_eq, iv_eq, show -((z.natAbs : Nat) : Int) = z by omega] at e
    exact e
  · have e := ratOf_pos z.natAbs D (by omega) h2 h3 w
    rw [iv_eq, iv_eq, show ((z.natAbs : Nat) : Int) = z by omega] at e
    exact e
end Go.Proofs.YtbjaolmlnkliiaaGreatDoor

/- The contract of orderFractions: two fractions compare by their continued fractions. Conditions as premises: the parts read, and are short enough. -/
namespace Go.Proofs.YtbjaolmlnkliiaaGreatDoor
open Go.RowKit Go.Shelf

theorem cn_ci (a b : Nat) : cn a b = ci (a : Int) (b : Int) := rfl

/-- two fractions that are still to be compared -/
structure Fo (C : Int) (k an ad bn bd : Nat) : Prop where
  ap : 0 < ad
  bp : 0 < bd
  la : an < LB ^ NL
  lb : ad < LB ^ NL
  lc : bn < LB ^ NL
  ld : bd < LB ^ NL
  c : cn (an * bd) (bn * ad) = C
  k : ad + bd = k

theorem Fo.same {C : Int} {k an ad bn bd : Nat} (h : Fo C k an ad bn bd) (e : ad = bd) : cn an bn = C := by
  have h1 := h.c
  rw [cn_ci] at h1 ⊢
  subst e
  rw [← h1, cf_same h.ap]
theorem Fo.parts {C : Int} {k an ad bn bd : Nat} (h : Fo C k an ad bn bd) (e : an / ad ≠ bn / bd) : cn (an / ad) (bn / bd) = C := by
  have h1 := h.c
  rw [cn_ci] at h1 ⊢
  rw [← h1, cf_parts h.ap h.bp e]
theorem Fo.rests {C : Int} {k an ad bn bd : Nat} (h : Fo C k an ad bn bd) (e : an / ad = bn / bd) (hz : an % ad = 0 ∨ bn % bd = 0) : cn (an % ad) (bn % bd) = C := by
  have h1 := h.c
  rw [cn_ci] at h1 ⊢
  rw [← h1, cf_step e, cf_zero h.ap h.bp hz]
theorem Fo.next {C : Int} {k an ad bn bd : Nat} (h : Fo C k an ad bn bd) (e : an / ad = bn / bd) (ha : an % ad ≠ 0) (hb : bn % bd ≠ 0) : Fo C (bn % bd + an % ad) bd (bn % bd) ad (an % ad) ∧ bn % bd + an % ad < k := by
  have r1 := Nat.mod_lt an h.ap
  have r2 := Nat.mod_lt bn h.bp
  refine ⟨⟨by omega, by omega, h.ld, Nat.lt_trans r2 h.ld, h.lb, Nat.lt_trans r1 h.lb, ?_, rfl⟩, by have := h.k; omega⟩
  have h1 := h.c
  rw [cn_ci] at h1 ⊢
  rw [← h1, cf_step e]

theorem cn_cases (N M : Nat) : (N = M ∧ cn N M = 0) ∨ (N ≠ M ∧ (cn N M != 0) = true ∧ (cn N M == 0) = false) := by
  rcases Nat.lt_trichotomy N M with h | h | h
  · exact .inr ⟨by omega, by rw [cn_lt h]; rfl, by rw [cn_lt h]; rfl⟩
  · exact .inl ⟨h, cn_eq h⟩
  · exact .inr ⟨by omega, by rw [cn_gt h]; rfl, by rw [cn_gt h]; rfl⟩

theorem Nr.nz {w : World} {N n c : Nat} {A : Option Addr} (h : Nr w N (.slice A n c)) : n = 0 ↔ N = 0 := by
  obtain ⟨_, _, _, e, h⟩ := h.len
  cases e
  exact h

set_option maxRecDepth 100000 in
set_option maxHeartbeats 8000000 in
theorem orderFractionsN {w : World} {an ad bn bd : Nat} {v u : Value} (ha : Fr w an ad v) (hb : Fr w bn bd u) (fo : Fo (cn (an * bd) (bn * ad)) (ad + bd) an ad bn bd) :
    Calls Tryz.prog 173 #[v, u] w fun e w' => e = .returned (.int .i64 (cn (an * bd) (bn * ad))) ∧ Below w.heap.size w w' := by
  obtain ⟨A1, n1, c1, A2, n2, c2, rfl, k1, k2⟩ := ha
  obtain ⟨A3, n3, c3, A4, n4, c4, rfl, k3, k4⟩ := hb
  have hb0 := below2 w (.cells #[.slice A1 n1 c1, .slice A2 n2 c2] 105) (.cells #[.slice A3 n3 c3, .slice A4 n4 c4] 105)
  have x2 := (Blk.new w #[.slice A1 n1 c1, .slice A2 n2 c2] 105).alloc (.cells #[.slice A3 n3 c3, .slice A4 n4 c4] 105)
  have x3 := Blk.new (w.alloc (.cells #[.slice A1 n1 c1, .slice A2 n2 c2] 105)) #[.slice A3 n3 c3, .slice A4 n4 c4] 105
  simp only [World.size_alloc] at x2 x3
  have H1 := Lib.hid (k1.below hb0)
  have H2 := Lib.hid (k2.below hb0)
  have H3 := Lib.hid (k3.below hb0)
  have H4 := Lib.hid (k4.below hb0)
  have HB := Lib.hid hb0
  have X2 := Lib.hid x2
  have X3 := Lib.hid x3
  have hk0 : Hid (∃ K0, K0 = ad + bd) := Lib.hid ⟨_, rfl⟩
  obtain ⟨K0, hK0⟩ := hk0.out
  rw [← hK0] at fo
  have FO := Lib.hid fo
  clear k1 k2 k3 k4 hb0 x2 x3 hk0 hK0 fo
  generalize cn (an * bd) (bn * ad) = C at *
  go_enter Tryz.func173, Tryz.ntmps173
  go_wp2_with fail
  go_loopg [9] K0 (fun k _ wr => ∃ an ad bn bd A1 n1 c1 A2 n2 c2 A3 n3 c3 A4 n4 c4, Hid (Blk wr w.heap.size 105 #[.slice A1 n1 c1, .slice A2 n2 c2]) ∧ Hid (Blk wr (w.heap.size + 1) 105 #[.slice A3 n3 c3, .slice A4 n4 c4]) ∧
    Hid (Nr wr an (.slice A1 n1 c1)) ∧ Hid (Nr wr ad (.slice A2 n2 c2)) ∧ Hid (Nr wr bn (.slice A3 n3 c3)) ∧ Hid (Nr wr bd (.slice A4 n4 c4)) ∧ Hid (Fo C k an ad bn bd) ∧ Hid (Below w.heap.size w wr))
  case atStart => exact ⟨an, ad, bn, bd, A1, n1, c1, A2, n2, c2, A3, n3, c3, A4, n4, c4, X2, X3, H1, H2, H3, H4, FO, HB⟩
  case round =>
    clear X2 X3 H1 H2 H3 H4 FO HB
    obtain ⟨an, ad, bn, bd, A1, n1, c1, A2, n2, c2, A3, n3, c3, A4, n4, c4, X2, X3, H1, H2, H3, H4, FO, HB⟩ := hrel
    have d20 := X2.out.cell (i := 0) rfl
    have d21 := X2.out.cell (i := 1) rfl
    have d30 := X3.out.cell (i := 0) rfl
    have d31 := X3.out.cell (i := 1) rfl
    have y2 : w.heap.size < wr.heap.size := X2.out.lt
    have y3 : w.heap.size + 1 < wr.heap.size := X3.out.lt
    have C1 := Lib.hid (compareN H2.out H4.out FO.out.lb FO.out.ld)
    rcases cn_cases ad bd with ⟨he, hc⟩ | ⟨he, hc1, hc2⟩
    · rw [hc] at C1
      have HE := Lib.hid he
      clear hc he
      go_wp2_with fail
      refine C1.out.mono ?_
      rintro _ w1 ⟨rfl, hb⟩
      clear d20 d21 d30 d31 y2 y3
      replace H1 := Lib.hid (H1.out.below hb)
      replace H3 := Lib.hid (H3.out.below hb)
      replace X2 := Lib.hid (X2.out.after hb)
      replace X3 := Lib.hid (X3.out.after hb)
      replace HB := Lib.hid (HB.out.trans (hb.mono HB.out.size))
      have d20 := X2.out.cell (i := 0) rfl
      have d21 := X2.out.cell (i := 1) rfl
      have d30 := X3.out.cell (i := 0) rfl
      have d31 := X3.out.cell (i := 1) rfl
      have y2 : w.heap.size < w1.heap.size := X2.out.lt
      have y3 : w.heap.size + 1 < w1.heap.size := X3.out.lt
      have C2 := Lib.hid (compareN H1.out H3.out FO.out.la FO.out.lc)
      clear hb C1
      go_wp2_with fail
      refine C2.out.mono ?_
      rintro _ w2 ⟨rfl, hb⟩
      have HR := Lib.hid (FO.out.same HE.out)
      have HB2 := Lib.hid (HB.out.trans (hb.mono HB.out.size))
      clear hb
      go_wp2_with fail
      go_ret
      exact ⟨ret_int HR.out, HB2.out⟩
    · generalize cn ad bd = cc at *
      clear he
      go_wp2_with fail
      refine C1.out.mono ?_
      rintro _ w1 ⟨rfl, hb⟩
      clear d20 d21 d30 d31 y2 y3
      replace H1 := Lib.hid (H1.out.below hb)
      replace H2 := Lib.hid (H2.out.below hb)
      replace H3 := Lib.hid (H3.out.below hb)
      replace H4 := Lib.hid (H4.out.below hb)
      replace X2 := Lib.hid (X2.out.after hb)
      replace X3 := Lib.hid (X3.out.after hb)
      replace HB := Lib.hid (HB.out.trans (hb.mono HB.out.size))
      have d20 := X2.out.cell (i := 0) rfl
      have d21 := X2.out.cell (i := 1) rfl
      have d30 := X3.out.cell (i := 0) rfl
      have d31 := X3.out.cell (i := 1) rfl
      have y2 : w.heap.size < w1.heap.size := X2.out.lt
      have y3 : w.heap.size + 1 < w1.heap.size := X3.out.lt
      have C2 := Lib.hid (divideN H1.out H2.out FO.out.la FO.out.lb FO.out.ap)
      clear hb C1
      go_wp2_with fail
      refine C2.out.mono ?_
      rintro _ w2 ⟨x, y, rfl, hx, hy, hb⟩
      obtain ⟨Q1, qn1, qc1, rfl⟩ := hx.shape
      obtain ⟨R1, rn1, rc1, rfl⟩ := hy.shape
      clear d20 d21 d30 d31 y2 y3
      replace H2 := Lib.hid (H2.out.below hb)
      replace H3 := Lib.hid (H3.out.below hb)
      replace H4 := Lib.hid (H4.out.below hb)
      replace X2 := Lib.hid (X2.out.after hb)
      replace X3 := Lib.hid (X3.out.after hb)
      replace HB := Lib.hid (HB.out.trans (hb.mono HB.out.size))
      have d20 := X2.out.cell (i := 0) rfl
      have d21 := X2.out.cell (i := 1) rfl
      have d30 := X3.out.cell (i := 0) rfl
      have d31 := X3.out.cell (i := 1) rfl
      have y2 : w.heap.size < w2.heap.size := X2.out.lt
      have y3 : w.heap.size + 1 < w2.heap.size := X3.out.lt
      have L1 := Lib.hid hx
      have M1 := Lib.hid hy
      have C3 := Lib.hid (divideN H3.out H4.out FO.out.lc FO.out.ld FO.out.bp)
      clear hb hx hy C2 H1
      go_wp2_with fail
      refine C3.out.mono ?_
      rintro _ w3 ⟨x, y, rfl, hx, hy, hb⟩
      obtain ⟨Q2, qn2, qc2, rfl⟩ := hx.shape
      obtain ⟨R2, rn2, rc2, rfl⟩ := hy.shape
      clear d20 d21 d30 d31 y2 y3
      replace H2 := Lib.hid (H2.out.below hb)
      replace H4 := Lib.hid (H4.out.below hb)
      replace L1 := Lib.hid (L1.out.below hb)
      replace M1 := Lib.hid (M1.out.below hb)
      replace X2 := Lib.hid (X2.out.after hb)
      replace X3 := Lib.hid (X3.out.after hb)
      replace HB := Lib.hid (HB.out.trans (hb.mono HB.out.size))
      have L2 := Lib.hid hx
      have M2 := Lib.hid hy
      have C4 := Lib.hid (compareN L1.out L2.out (Nat.lt_of_le_of_lt (Nat.div_le_self _ _) FO.out.la) (Nat.lt_of_le_of_lt (Nat.div_le_self _ _) FO.out.lc))
      clear hb hx hy C3 H3
      go_wp2_with fail
      rcases cn_cases (an / ad) (bn / bd) with ⟨he, hc⟩ | ⟨he, hd1, hd2⟩
      · rw [hc] at C4
        refine C4.out.mono ?_
        rintro _ w4 ⟨rfl, hb⟩
        have HE := Lib.hid he
        replace H2 := Lib.hid (H2.out.below hb)
        replace H4 := Lib.hid (H4.out.below hb)
        replace M1 := Lib.hid (M1.out.below hb)
        replace M2 := Lib.hid (M2.out.below hb)
        replace X2 := Lib.hid (X2.out.after hb)
        replace X3 := Lib.hid (X3.out.after hb)
        replace HB := Lib.hid (HB.out.trans (hb.mono HB.out.size))
        clear hb hc he C4 L1 L2
        by_cases hz : rn1 = 0 ∨ rn2 = 0
        · have hzz : an % ad = 0 ∨ bn % bd = 0 := hz.imp M1.out.nz.1 M2.out.nz.1
          have HR := Lib.hid (FO.out.rests HE.out hzz)
          have lr1 : an % ad < LB ^ NL := Nat.lt_of_le_of_lt (Nat.mod_le _ _) FO.out.la
          have lr2 : bn % bd < LB ^ NL := Nat.lt_of_le_of_lt (Nat.mod_le _ _) FO.out.lc
          have C5 := Lib.hid (compareN M1.out M2.out lr1 lr2)
          clear hzz lr1 lr2 M1 M2
          have hor : ((rn1 : Int) == 0) = true ∨ (((rn1 : Int) == 0) = false ∧ ((rn2 : Int) == 0) = true) := by
            by_cases h1 : rn1 = 0
            · exact .inl (by rw [beq_iff_eq]; omega)
            · exact .inr ⟨by rw [beq_eq_false_iff_ne]; omega, by rw [beq_iff_eq]; rcases hz with h | h <;> omega⟩
          clear hz
          rcases hor with h1 | ⟨h1, h2⟩
          all_goals
            go_wp2_with fail
            refine C5.out.mono ?_
            rintro _ w5 ⟨rfl, hb⟩
            have HB2 := Lib.hid (HB.out.trans (hb.mono HB.out.size))
            clear hb
            go_wp2_with fail
            go_ret
            exact ⟨ret_int HR.out, HB2.out⟩
        · have h1 : ((rn1 : Int) == 0) = false := by rw [beq_eq_false_iff_ne]; omega
          have h2 : ((rn2 : Int) == 0) = false := by rw [beq_eq_false_iff_ne]; omega
          have hn1 : an % ad ≠ 0 := fun e => hz (.inl (M1.out.nz.2 e))
          have hn2 : bn % bd ≠ 0 := fun e => hz (.inr (M2.out.nz.2 e))
          have HN := Lib.hid (FO.out.next HE.out hn1 hn2)
          clear hz hn1 hn2 HE
          have d20 := X2.out.cell (i := 0) rfl
          have d21 := X2.out.cell (i := 1) rfl
          have d30 := X3.out.cell (i := 0) rfl
          have d31 := X3.out.cell (i := 1) rfl
          have y2 : w.heap.size < w4.heap.size := X2.out.lt
          have y3 : w.heap.size + 1 < w4.heap.size := X3.out.lt
          have f2 := X2.out.free
          have f3 := X3.out.free
          go_wp2_with fail
          have ka : Blk ((w4.setCell ⟨w.heap.size, 0, none⟩ (.slice A4 n4 c4)).setCell ⟨w.heap.size, 1, none⟩ (.slice R2 rn2 rc2)) w.heap.size 105 #[.slice A4 n4 c4, .slice R2 rn2 rc2] := X2.out.set.set
          have kb : Blk ((w4.setCell ⟨w.heap.size, 0, none⟩ (.slice A4 n4 c4)).setCell ⟨w.heap.size, 1, none⟩ (.slice R2 rn2 rc2)) (w.heap.size + 1) 105 #[.slice A3 n3 c3, .slice A4 n4 c4] := (X3.out.other (by show w.heap.size + 1 ≠ w.heap.size; omega)).other (by show w.heap.size + 1 ≠ w.heap.size; omega)
          have Y2 : Hid (Blk ((((w4.setCell ⟨w.heap.size, 0, none⟩ (.slice A4 n4 c4)).setCell ⟨w.heap.size, 1, none⟩ (.slice R2 rn2 rc2)).setCell ⟨w.heap.size + 1, 0, none⟩ (.slice A2 n2 c2)).setCell ⟨w.heap.size + 1, 1, none⟩ (.slice R1 rn1 rc1)) w.heap.size 105 #[.slice A4 n4 c4, .slice R2 rn2 rc2]) := Lib.hid ((ka.other (by show w.heap.size ≠ w.heap.size + 1; omega)).other (by show w.heap.size ≠ w.heap.size + 1; omega))
          have Y3 : Hid (Blk ((((w4.setCell ⟨w.heap.size, 0, none⟩ (.slice A4 n4 c4)).setCell ⟨w.heap.size, 1, none⟩ (.slice R2 rn2 rc2)).setCell ⟨w.heap.size + 1, 0, none⟩ (.slice A2 n2 c2)).setCell ⟨w.heap.size + 1, 1, none⟩ (.slice R1 rn1 rc1)) (w.heap.size + 1) 105 #[.slice A2 n2 c2, .slice R1 rn1 rc1]) := Lib.hid kb.set.set
          have G1 := Lib.hid ((H4.out.put2 (i := 0) (j := 1) (u := .slice A4 n4 c4) (x := .slice R2 rn2 rc2) X2.out (hnoF _ _ _ _ _ _)).put2 (i := 0) (j := 1) (u := .slice A2 n2 c2) (x := .slice R1 rn1 rc1) kb (hnoF _ _ _ _ _ _))
          have G2 := Lib.hid ((M2.out.put2 (i := 0) (j := 1) (u := .slice A4 n4 c4) (x := .slice R2 rn2 rc2) X2.out (hnoF _ _ _ _ _ _)).put2 (i := 0) (j := 1) (u := .slice A2 n2 c2) (x := .slice R1 rn1 rc1) kb (hnoF _ _ _ _ _ _))
          have G3 := Lib.hid ((H2.out.put2 (i := 0) (j := 1) (u := .slice A4 n4 c4) (x := .slice R2 rn2 rc2) X2.out (hnoF _ _ _ _ _ _)).put2 (i := 0) (j := 1) (u := .slice A2 n2 c2) (x := .slice R1 rn1 rc1) kb (hnoF _ _ _ _ _ _))
          have G4 := Lib.hid ((M1.out.put2 (i := 0) (j := 1) (u := .slice A4 n4 c4) (x := .slice R2 rn2 rc2) X2.out (hnoF _ _ _ _ _ _)).put2 (i := 0) (j := 1) (u := .slice A2 n2 c2) (x := .slice R1 rn1 rc1) kb (hnoF _ _ _ _ _ _))
          have HB5 : Hid (Below w.heap.size w ((((w4.setCell ⟨w.heap.size, 0, none⟩ (.slice A4 n4 c4)).setCell ⟨w.heap.size, 1, none⟩ (.slice R2 rn2 rc2)).setCell ⟨w.heap.size + 1, 0, none⟩ (.slice A2 n2 c2)).setCell ⟨w.heap.size + 1, 1, none⟩ (.slice R1 rn1 rc1))) := Lib.hid ((((HB.out.setCell (by simp) _).setCell (by simp) _).setCell (by simp) _).setCell (by simp) _)
          clear ka kb
          go_roundg (bn % bd + an % ad)
          case measure => exact HN.out.2
          case rel => exact ⟨bd, bn % bd, ad, an % ad, A4, n4, c4, R2, rn2, rc2, A2, n2, c2, R1, rn1, rc1, Y2, Y3, G1, G2, G3, G4, Lib.hid HN.out.1, HB5⟩
      · have HR := Lib.hid (FO.out.parts he)
        generalize cn (an / ad) (bn / bd) = dd at *
        refine C4.out.mono ?_
        rintro _ w4 ⟨rfl, hb⟩
        have HB2 := Lib.hid (HB.out.trans (hb.mono HB.out.size))
        clear hb he
        go_wp2_with fail
        go_ret
        exact ⟨ret_int HR.out, HB2.out⟩
end Go.Proofs.YtbjaolmlnkliiaaGreatDoor

/- The contracts of the steps of a sum, and of the fold over two pairs of integers. Conditions as premises: the numbers read, and are short enough. -/
namespace Go.Proofs.YtbjaolmlnkliiaaGreatDoor
open Go.RowKit Go.Shelf
attribute [local go_sem ↓] Go.wp_at_zero Go.wp_at_succ

set_option maxRecDepth 100000 in
set_option maxHeartbeats 4000000 in
/-- so + left * right -/
theorem sumStep {w : World} {z x y s0 s1 s2 : Int} {A0 A1 A2 : Option Addr} {n0 c0 n1 c1 n2 c2 : Nat} (hz : Wh w z (.agg #[.int .i64 s0, .slice A0 n0 c0])) (hx : Wh w x (.agg #[.int .i64 s1, .slice A1 n1 c1])) (hy : Wh w y (.agg #[.int .i64 s2, .slice A2 n2 c2])) (hT : Tabs w) (hZ : z.natAbs < LB ^ NL) (hX : x.natAbs < LB ^ NL) (hY : y.natAbs < LB ^ NL) (hp : (x * y).natAbs < LB ^ NL) (hs : z.natAbs + (x * y).natAbs < LB ^ NL) :
    Calls Tryz.prog 168 #[.agg #[.int .i64 s0, .slice A0 n0 c0], .agg #[.int .i64 s1, .slice A1 n1 c1, .int .i64 s2, .slice A2 n2 c2]] w fun e w' => ∃ t, e = .returned (.tuple #[t, .int .i64 0]) ∧ Wh w' (z + x * y) t ∧ Below w.heap.size w w' := by
  have hb0 : Below w.heap.size w (((w.alloc (.cells #[.int .i64 s0, .slice A0 n0 c0] 102)).alloc (.cells #[.int .i64 s1, .slice A1 n1 c1, .int .i64 s2, .slice A2 n2 c2] 172)).alloc (.cells #[.int .i64 0, .slice none 0 0] 102)) := (below2 w _ _).alloc (by simp; omega) _
  have hk0 := ((Blk.new w #[.int .i64 s0, .slice A0 n0 c0] 102).alloc (.cells #[.int .i64 s1, .slice A1 n1 c1, .int .i64 s2, .slice A2 n2 c2] 172)).alloc (.cells #[.int .i64 0, .slice none 0 0] 102)
  have hk2 := Blk.new ((w.alloc (.cells #[.int .i64 s0, .slice A0 n0 c0] 102)).alloc (.cells #[.int .i64 s1, .slice A1 n1 c1, .int .i64 s2, .slice A2 n2 c2] 172)) #[.int .i64 0, .slice none 0 0] 102
  simp only [World.size_alloc] at hk2
  have C := Lib.hid (timesN (hx.below hb0) (hy.below hb0) (hT.below hb0) hX hY hp)
  have HZ := Lib.hid (hz.below hb0)
  have HB := Lib.hid hb0
  have HK0 := Lib.hid hk0
  have HK2 := Lib.hid hk2
  clear hb0 hz hx hy hT hk0 hk2
  go_enter Tryz.func168, Tryz.ntmps168
  go_wp2_with fail
  refine C.out.mono ?_
  rintro _ w1 ⟨t, rfl, ht, hb⟩
  obtain ⟨s3, A3, n3, c3, rfl, _, _, _⟩ := ht.get
  have k0 := HK0.out.after hb
  have k2 := HK2.out.after hb
  have HZ1 := Lib.hid (HZ.out.below hb)
  have HT1 := Lib.hid ht
  have HB1 := Lib.hid (HB.out.trans (hb.mono HB.out.size))
  have hz : w.heap.size + 1 + 1 < w1.heap.size := k2.lt
  have hz0 : w.heap.size < w1.heap.size := k0.lt
  have c00 := k0.cell (i := 0) rfl
  have c01 := k0.cell (i := 1) rfl
  have c20 := k2.cell (i := 0) rfl
  have c21 := k2.cell (i := 1) rfl
  have f2 := k2.free
  have K2 := Lib.hid k2
  clear C HZ HB HK0 HK2 hb ht k2 k0
  have hb4 := below1 w1 (.cells #[.int .i64 s3, .slice A3 n3 c3] 102)
  have C2 := Lib.hid (plusN (HZ1.out.below hb4) (HT1.out.below hb4) hZ hp hs)
  have HB4 := Lib.hid hb4
  clear hb4
  go_wp2_with fail
  refine C2.out.mono ?_
  rintro _ w2 ⟨r, rfl, hr, hb⟩
  obtain ⟨s4, A4, n4, c4, rfl, _, _, _⟩ := hr.get
  have k2 := (K2.out.alloc (.cells #[.int .i64 s3, .slice A3 n3 c3] 102)).after hb
  have c20' := k2.cell (i := 0) rfl
  have c21' := k2.cell (i := 1) rfl
  have f2' := k2.free
  have hz2 : w.heap.size + 1 + 1 < w2.heap.size := k2.lt
  have HR := Lib.hid hr
  have HB2 := Lib.hid ((HB1.out.trans (HB4.out.mono HB1.out.size)).trans (hb.mono (HB1.out.trans (HB4.out.mono HB1.out.size)).size))
  have K2' := Lib.hid k2
  clear k2 hr hb C2 HB4 HB1 HZ1 HT1 K2
  go_wp2_with fail
  refine bodyPost_ret (results_row_tmp (p := 4) (ty := 102) rfl _ _ (w.heap.size + 1 + 1) 102 _ _ _ rfl K2'.out.set.set Tryz.underlying102 rfl (by kernel_rfl)) rfl ?_
  exact ⟨_, rfl, HR.out.put2 K2'.out (hnoW _ _ _ _), (HB2.out.setCell (by simp; omega) _).setCell (by simp; omega) _⟩
end Go.Proofs.YtbjaolmlnkliiaaGreatDoor

/- The contracts of the steps of a product, and of the fold over two pairs of natural numbers. Conditions as premises: the numbers read, and are short enough. -/
namespace Go.Proofs.YtbjaolmlnkliiaaGreatDoor
open Go.RowKit Go.Shelf
attribute [local go_sem ↓] Go.wp_at_zero Go.wp_at_succ

theorem Nr.putF {w : World} {g i j N : Nat} {t : TypeId} {A A' : Option Addr} {n c n' c' : Nat} {v u x : Value} (h : Nr w N v) (k : Blk w g t #[.slice A n c, .slice A' n' c']) : Nr ((w.setCell ⟨g, i, none⟩ u).setCell ⟨g, j, none⟩ x) N v := h.put2 k (hnoF _ _ _ _ _ _)
theorem Fr.inv {w : World} {N D n c n' c' : Nat} {A A' : Option Addr} (h : Fr w N D (.agg #[.slice A n c, .slice A' n' c'])) : Nr w N (.slice A n c) ∧ Nr w D (.slice A' n' c') := by
  obtain ⟨A1, n1, c1, A2, n2, c2, e, hx, hy⟩ := h
  simp only [Value.agg.injEq, Array.mk.injEq, List.cons.injEq, Value.slice.injEq, and_true] at e
  obtain ⟨⟨rfl, rfl, rfl⟩, rfl, rfl, rfl⟩ := e
  exact ⟨hx, hy⟩
theorem Fr.mk {w : World} {N D n c n' c' : Nat} {A A' : Option Addr} (h : Nr w N (.slice A n c)) (k : Nr w D (.slice A' n' c')) : Fr w N D (.agg #[.slice A n c, .slice A' n' c']) := ⟨A, n, c, A', n', c', rfl, h, k⟩

set_option maxRecDepth 100000 in
set_option maxHeartbeats 8000000 in
/-- so, times left and right without what divides both -/
theorem productStep {w : World} {N D L R : Nat} {A0 A1 A2 A3 : Option Addr} {n0 c0 n1 c1 n2 c2 n3 c3 : Nat} (hN : Nr w N (.slice A0 n0 c0)) (hD : Nr w D (.slice A1 n1 c1)) (hL : Nr w L (.slice A2 n2 c2)) (hR : Nr w R (.slice A3 n3 c3)) (hR0 : R ≠ 0)
    (lN : N < LB ^ NL) (lD : D < LB ^ NL) (lL : L < LB ^ NL) (lR : R < LB ^ NL) (h1 : N * (L / Nat.gcd L R) < LB ^ NL) (h2 : D * (R / Nat.gcd L R) < LB ^ NL) :
    Calls Tryz.prog 171 #[.agg #[.slice A0 n0 c0, .slice A1 n1 c1], .agg #[.slice A2 n2 c2, .slice A3 n3 c3]] w fun e w' => ∃ A n c A' n' c', e = .returned (.tuple #[.agg #[.slice A n c, .slice A' n' c'], .int .i64 0]) ∧ Nr w' (N * (L / Nat.gcd L R)) (.slice A n c) ∧ Nr w' (D * (R / Nat.gcd L R)) (.slice A' n' c') ∧ Below w.heap.size w w' := by
  have hb0 : Below w.heap.size w (((w.alloc (.cells #[.slice A0 n0 c0, .slice A1 n1 c1] 105)).alloc (.cells #[.slice A2 n2 c2, .slice A3 n3 c3] 177)).alloc (.cells #[.slice none 0 0, .slice none 0 0] 105)) := (below2 w _ _).alloc (by simp; omega) _
  have k2 := ((Blk.new w #[.slice A0 n0 c0, .slice A1 n1 c1] 105).alloc (.cells #[.slice A2 n2 c2, .slice A3 n3 c3] 177)).alloc (.cells #[.slice none 0 0, .slice none 0 0] 105)
  have k3 := (Blk.new (w.alloc (.cells #[.slice A0 n0 c0, .slice A1 n1 c1] 105)) #[.slice A2 n2 c2, .slice A3 n3 c3] 177).alloc (.cells #[.slice none 0 0, .slice none 0 0] 105)
  have k4 := Blk.new ((w.alloc (.cells #[.slice A0 n0 c0, .slice A1 n1 c1] 105)).alloc (.cells #[.slice A2 n2 c2, .slice A3 n3 c3] 177)) #[.slice none 0 0, .slice none 0 0] 105
  simp only [World.size_alloc] at k2 k3 k4
  have hg0 : 0 < Nat.gcd L R := gcd_pos_r hR0
  have hgl : Nat.gcd L R < LB ^ NL := Nat.lt_of_le_of_lt (Nat.gcd_le_right _ (Nat.pos_of_ne_zero hR0)) lR
  have C := Lib.hid (divisorN (hL.below hb0) (hR.below hb0) lL lR)
  have lLq : L / Nat.gcd L R < LB ^ NL := Nat.lt_of_le_of_lt (Nat.div_le_self _ _) lL
  have lRq : R / Nat.gcd L R < LB ^ NL := Nat.lt_of_le_of_lt (Nat.div_le_self _ _) lR
  have BD := Lib.hid (And.intro lN (And.intro lD (And.intro lL (And.intro lR (And.intro h1 (And.intro h2 (And.intro hg0 (And.intro hgl (And.intro lLq lRq)))))))))
  have HN := Lib.hid (hN.below hb0)
  have HD := Lib.hid (hD.below hb0)
  have HL := Lib.hid (hL.below hb0)
  have HR := Lib.hid (hR.below hb0)
  have HB := Lib.hid hb0
  have K2 := Lib.hid k2
  have K3 := Lib.hid k3
  have K4 := Lib.hid k4
  clear hb0 hN hD hL hR hR0 lN lD lL lR h1 h2 hg0 hgl lLq lRq k2 k3 k4
  go_enter Tryz.func171, Tryz.ntmps171
  go_wp2_with fail
  refine C.out.mono ?_
  rintro _ w1 ⟨x, rfl, hx, hb⟩
  obtain ⟨Ag, ng, cg, rfl⟩ := hx.shape
  replace HN := Lib.hid (HN.out.below hb)
  replace HD := Lib.hid (HD.out.below hb)
  replace HL := Lib.hid (HL.out.below hb)
  replace HR := Lib.hid (HR.out.below hb)
  replace HB := Lib.hid (HB.out.trans (hb.mono HB.out.size))
  replace K2 := Lib.hid (K2.out.after hb)
  replace K3 := Lib.hid (K3.out.after hb)
  replace K4 := Lib.hid (K4.out.after hb)
  have HG := Lib.hid hx
  have z2 : w.heap.size < w1.heap.size := K2.out.lt
  have z3 : w.heap.size + 1 < w1.heap.size := K3.out.lt
  have z4 : w.heap.size + 1 + 1 < w1.heap.size := K4.out.lt
  have Q1 : Hid (∀ W, Below w1.heap.size w1 W → _) := Lib.hid fun W (h : Below w1.heap.size w1 W) => quotientN (HL.out.below h) (HG.out.below h) BD.out.2.2.1 BD.out.2.2.2.2.2.2.2.1 BD.out.2.2.2.2.2.2.1
  have KEEP : Hid (∀ W, Below w1.heap.size w1 W → W.cell? ⟨w.heap.size, 0, none⟩ = some (.slice A0 n0 c0) ∧ W.cell? ⟨w.heap.size + 1, 0, none⟩ = some (.slice A2 n2 c2)) := Lib.hid fun W h1 => ⟨(K2.out.after h1).cell rfl, (K3.out.after h1).cell rfl⟩
  have hdrew : Below w1.heap.size w1 w1.drew := (Below.refl _ _).drew
  clear hx hb C
  go_wp2_with fail
  go_region_held3 (fun W => W.cell? ⟨w.heap.size, 0, none⟩ = some (.slice A0 n0 c0) ∧ W.cell? ⟨w.heap.size + 1, 0, none⟩ = some (.slice A2 n2 c2))
    (first | with_reducible exact KEEP.out w1.drew hdrew | with_reducible exact KEEP.out wa hka | with_reducible exact KEEP.out wb hkb)
    (first
      | (go_at_call 161; (with_reducible refine (Q1.out w1.drew hdrew).mono ?_); rintro _ wa ⟨v1, rfl, hv1, hba⟩; obtain ⟨B1, m1, d1, rfl⟩ := hv1.shape; have hka := hdrew.trans (hba.mono hdrew.size); have M1 := Lib.hid (mulN (HN.out.below hka) hv1 BD.out.1 BD.out.2.2.2.2.2.2.2.2.1 BD.out.2.2.2.2.1); clear hv1)
      | (go_at_call 169; (with_reducible refine M1.out.mono ?_); rintro _ wb ⟨v2, rfl, hv2, hbb⟩; obtain ⟨B2, m2, d2, rfl⟩ := hv2.shape; have hkb := hka.trans (hbb.mono hka.size); have HV := Lib.hid hv2; clear hv2))
  replace HD := Lib.hid (HD.out.below hkb)
  replace HR := Lib.hid (HR.out.below hkb)
  replace HG := Lib.hid (HG.out.below hkb)
  replace HB := Lib.hid (HB.out.trans (hkb.mono HB.out.size))
  replace K2 := Lib.hid (K2.out.after hkb)
  replace K3 := Lib.hid (K3.out.after hkb)
  replace K4 := Lib.hid (K4.out.after hkb)
  have y2 : w.heap.size < wb.heap.size := K2.out.lt
  have y3 : w.heap.size + 1 < wb.heap.size := K3.out.lt
  have y4 : w.heap.size + 1 + 1 < wb.heap.size := K4.out.lt
  clear M1 Q1 KEEP hdrew hba hbb hka hkb z2 z3 z4 HL HN
  have Q1 : Hid (∀ W, Below wb.heap.size wb W → _) := Lib.hid fun W (h : Below wb.heap.size wb W) => quotientN (HR.out.below h) (HG.out.below h) BD.out.2.2.2.1 BD.out.2.2.2.2.2.2.2.1 BD.out.2.2.2.2.2.2.1
  have KEEP : Hid (∀ W, Below wb.heap.size wb W → W.cell? ⟨w.heap.size, 1, none⟩ = some (.slice A1 n1 c1) ∧ W.cell? ⟨w.heap.size + 1, 1, none⟩ = some (.slice A3 n3 c3)) := Lib.hid fun W h1 => ⟨(K2.out.after h1).cell rfl, (K3.out.after h1).cell rfl⟩
  have hdrew : Below wb.heap.size wb wb.drew := (Below.refl _ _).drew
  go_wp2_with fail
  go_region_held3 (fun W => W.cell? ⟨w.heap.size, 1, none⟩ = some (.slice A1 n1 c1) ∧ W.cell? ⟨w.heap.size + 1, 1, none⟩ = some (.slice A3 n3 c3))
    (first | with_reducible exact KEEP.out wb.drew hdrew | with_reducible exact KEEP.out wd hkd | with_reducible exact KEEP.out we hke)
    (first
      | (go_at_call 161; (with_reducible refine (Q1.out wb.drew hdrew).mono ?_); rintro _ wd ⟨v1, rfl, hv1, hba⟩; obtain ⟨B3, m3, d3, rfl⟩ := hv1.shape; have hkd := hdrew.trans (hba.mono hdrew.size); have M1 := Lib.hid (mulN (HD.out.below hkd) hv1 BD.out.2.1 BD.out.2.2.2.2.2.2.2.2.2 BD.out.2.2.2.2.2.1); clear hv1)
      | (go_at_call 169; (with_reducible refine M1.out.mono ?_); rintro _ we ⟨v2, rfl, hv2, hbb⟩; obtain ⟨B4, m4, d4, rfl⟩ := hv2.shape; have hke := hkd.trans (hbb.mono hkd.size); have HV2 := Lib.hid hv2; clear hv2))
  replace HV := Lib.hid (HV.out.below hke)
  replace HB := Lib.hid (HB.out.trans (hke.mono HB.out.size))
  replace K4 := Lib.hid (K4.out.after hke)
  have x4 : w.heap.size + 1 + 1 < we.heap.size := K4.out.lt
  have d0 := K4.out.cell (i := 0) rfl
  have d1 := K4.out.cell (i := 1) rfl
  have ff := K4.out.free
  clear M1 Q1 KEEP hdrew hba hbb hkd hke y2 y3 y4 HD HR HG K2 K3
  go_wp2_with fail
  refine bodyPost_ret (results_row_tmp (p := 4) (ty := 105) rfl _ _ (w.heap.size + 1 + 1) 105 _ _ _ rfl K4.out.set.set Tryz.underlying105 rfl (by kernel_rfl)) rfl ?_
  exact ⟨_, _, _, _, _, _, rfl, HV.out.putF K4.out, HV2.out.putF K4.out, (HB.out.setCell (by simp; omega) _).setCell (by simp; omega) _⟩
end Go.Proofs.YtbjaolmlnkliiaaGreatDoor

/- The contract of simplest: the recursion by continued fractions. Conditions as premises: the parts read, and are short enough. -/
namespace Go.Proofs.YtbjaolmlnkliiaaGreatDoor
open Go.RowKit Go.Shelf

/-- an interval of fractions whose ends are short enough -/
structure Sp (k ln ld hn hd : Nat) : Prop where
  k : ld + hd ≤ k
  lp : 0 < ld
  hp : 0 < hd
  le : ln * hd ≤ hn * ld
  l1 : ln < LB ^ NL
  l2 : ld < LB ^ NL
  l3 : hn < LB ^ NL
  l4 : hd < LB ^ NL
theorem Sp.sim {k ln ld hn hd : Nat} (h : Sp k ln ld hn hd) : Sim ln ld hn hd (cfs k ln ld hn hd).1 (cfs k ln ld hn hd).2 := cfs_sim k ln ld hn hd h.lp h.hp h.le h.k
theorem Sp.bound {k ln ld hn hd : Nat} (h : Sp k ln ld hn hd) : (cfs k ln ld hn hd).1 ≤ ln ∧ (cfs k ln ld hn hd).2 ≤ ld := by
  have := h.sim.least ln ld h.lp (Nat.le_refl _) h.le
  exact ⟨this.2, this.1⟩
theorem Sp.floor_le {k ln ld hn hd : Nat} (h : Sp k ln ld hn hd) : ln / ld ≤ hn / hd := by
  rw [Nat.le_div_iff_mul_le h.hp]
  exact div_le_of h.lp h.le
theorem Sp.next {k ln ld hn hd : Nat} (h : Sp (k + 1) ln ld hn hd) (h1 : ln % ld ≠ 0) (h2 : ¬ ln / ld < hn / hd) : Sp k hd (hn % hd) ld (ln % ld) := by
  have hfe : hn / hd = ln / ld := by have := h.floor_le; omega
  have e1 := Nat.div_add_mod ln ld
  have e2 := Nat.div_add_mod hn hd
  rw [hfe] at e2
  have hle := h.le
  have hlp := h.lp
  have hhp := h.hp
  have hk := h.k
  have r1 := Nat.mod_lt ln h.lp
  have r2 := Nat.mod_lt hn h.hp
  have l2 := h.l2
  have l4 := h.l4
  generalize ln / ld = f at *
  generalize ln % ld = rl at *
  generalize hn % hd = rh at *
  have h3 : rl * hd ≤ rh * ld := by
    rw [← e1, ← e2, Nat.add_mul, Nat.add_mul] at hle
    have : ld * f * hd = hd * f * ld := by rw [Nat.mul_right_comm, Nat.mul_comm (ld * hd), Nat.mul_right_comm hd, Nat.mul_comm (hd * ld), Nat.mul_comm ld hd]
    omega
  have hrh : 0 < rh := by
    rcases Nat.eq_zero_or_pos rh with e | e
    · rw [e, Nat.zero_mul] at h3
      have := Nat.mul_pos (show 0 < rl by omega) hhp
      omega
    · exact e
  exact ⟨by omega, hrh, by omega, by rw [Nat.mul_comm, Nat.mul_comm ld]; exact h3, l4, by omega, l2, by omega⟩

theorem cfs_whole {k ln ld hn hd : Nat} (h : ln % ld = 0) : cfs (k + 1) ln ld hn hd = (ln / ld, 1) := by unfold cfs; rw [if_pos h]
theorem cfs_above {k ln ld hn hd : Nat} (h : ln % ld ≠ 0) (h2 : ln / ld < hn / hd) : cfs (k + 1) ln ld hn hd = (ln / ld + 1, 1) := by unfold cfs; rw [if_neg h, if_pos h2]
theorem cfs_in {k ln ld hn hd : Nat} (h : ln % ld ≠ 0) (h2 : ¬ ln / ld < hn / hd) : cfs (k + 1) ln ld hn hd = (ln / ld * (cfs k hd (hn % hd) ld (ln % ld)).1 + (cfs k hd (hn % hd) ld (ln % ld)).2, (cfs k hd (hn % hd) ld (ln % ld)).1) := by
  conv => lhs; unfold cfs
  rw [if_neg h, if_neg h2]

set_option maxRecDepth 100000 in
set_option maxHeartbeats 8000000 in
theorem simplestN : ∀ (k ln ld hn hd : Nat) (A1 A2 A3 A4 : Option Addr) (n1 c1 n2 c2 n3 c3 n4 c4 : Nat) (w : World), Nr w ln (.slice A1 n1 c1) → Nr w ld (.slice A2 n2 c2) → Nr w hn (.slice A3 n3 c3) → Nr w hd (.slice A4 n4 c4) → Sp k ln ld hn hd →
    Calls Tryz.prog 107 #[.agg #[.slice A1 n1 c1, .slice A2 n2 c2, .slice A3 n3 c3, .slice A4 n4 c4]] w fun e w' => ∃ A n c A' n' c', e = .returned (.agg #[.slice A n c, .slice A' n' c']) ∧ Nr w' (cfs k ln ld hn hd).1 (.slice A n c) ∧ Nr w' (cfs k ln ld hn hd).2 (.slice A' n' c') ∧ Below w.heap.size w w' := by
  intro k
  induction k with
  | zero => intro ln ld hn hd _ _ _ _ _ _ _ _ _ _ _ _ w _ _ _ _ sp; have := sp.k; have := sp.lp; omega
  | succ k ih =>
    intro ln ld hn hd A1 A2 A3 A4 n1 c1 n2 c2 n3 c3 n4 c4 w h1 h2 h3 h4 sp
    have IH := Lib.hid ih
    clear ih
    have hb0 := below2 w (.cells #[.slice A1 n1 c1, .slice A2 n2 c2, .slice A3 n3 c3, .slice A4 n4 c4] 125) (.cells #[.slice none 0 0, .slice none 0 0] 105)
    have k2 := (Blk.new w #[.slice A1 n1 c1, .slice A2 n2 c2, .slice A3 n3 c3, .slice A4 n4 c4] 125).alloc (.cells #[.slice none 0 0, .slice none 0 0] 105)
    have k3 := Blk.new (w.alloc (.cells #[.slice A1 n1 c1, .slice A2 n2 c2, .slice A3 n3 c3, .slice A4 n4 c4] 125)) #[.slice none 0 0, .slice none 0 0] 105
    simp only [World.size_alloc] at k2 k3
    have C1 := Lib.hid (divideN (h1.below hb0) (h2.below hb0) sp.l1 sp.l2 sp.lp)
    have H2 := Lib.hid (h2.below hb0)
    have H3 := Lib.hid (h3.below hb0)
    have H4 := Lib.hid (h4.below hb0)
    have HB := Lib.hid hb0
    have K2 := Lib.hid k2
    have K3 := Lib.hid k3
    have SP := Lib.hid sp
    clear h1 h2 h3 h4 hb0 k2 k3 sp
    go_enter Tryz.func107, Tryz.ntmps107
    go_wp2_with fail
    refine C1.out.mono ?_
    rintro _ w1 ⟨x, y, rfl, hx, hy, hb⟩
    obtain ⟨Q1, q1, p1, rfl⟩ := hx.shape
    obtain ⟨R1, r1, s1, rfl⟩ := hy.shape
    replace H2 := Lib.hid (H2.out.below hb)
    replace H3 := Lib.hid (H3.out.below hb)
    replace H4 := Lib.hid (H4.out.below hb)
    replace HB := Lib.hid (HB.out.trans (hb.mono HB.out.size))
    replace K2 := Lib.hid (K2.out.after hb)
    replace K3 := Lib.hid (K3.out.after hb)
    have HQ := Lib.hid hx
    have HR := Lib.hid hy
    clear hb hx hy C1
    by_cases hr : r1 = 0
    · have hcf := cfs_whole (k := k) (hn := hn) (hd := hd) (HR.out.nz.1 hr)
      have HCF := Lib.hid hcf
      subst hr
      clear hcf
      go_wp2_with fail
      refine (oneN w1).mono ?_
      rintro _ w2 ⟨x, rfl, hx, hb⟩
      obtain ⟨B, m, d, rfl⟩ := hx.shape
      replace HQ := Lib.hid (HQ.out.below hb)
      replace HB := Lib.hid (HB.out.trans (hb.mono HB.out.size))
      replace K3 := Lib.hid (K3.out.after hb)
      have z3 : w.heap.size + 1 < w2.heap.size := K3.out.lt
      have e0 := K3.out.cell (i := 0) rfl
      have e1 := K3.out.cell (i := 1) rfl
      have ff := K3.out.free
      have HX := Lib.hid hx
      clear hx hb
      go_wp2_with fail
      refine bodyPost_ret (results_cell_row (p := 2) (ty := 105) rfl _ _ (w.heap.size + 1) 105 _ _ _ rfl K3.out.set.set Tryz.underlying105 rfl (by kernel_rfl)) rfl ?_
      exact ⟨_, _, _, _, _, _, rfl, by rw [HCF.out]; exact HQ.out.putF K3.out, by rw [HCF.out]; exact HX.out.putF K3.out, (HB.out.setCell (by simp) _).setCell (by simp) _⟩
    · have hr0 : ((r1 : Int) == 0) = false := by rw [beq_eq_false_iff_ne]; omega
      have HRN : Hid (ln % ld ≠ 0) := Lib.hid fun e => hr (HR.out.nz.2 e)
      have y2 : w.heap.size < w1.heap.size := K2.out.lt
      have d0 := K2.out.cell (i := 0) rfl
      have d1 := K2.out.cell (i := 1) rfl
      have d2 := K2.out.cell (i := 2) rfl
      have d3 := K2.out.cell (i := 3) rfl
      have C2 := Lib.hid (divideN H3.out H4.out SP.out.l3 SP.out.l4 SP.out.hp)
      clear hr
      go_wp2_with fail
      refine C2.out.mono ?_
      rintro _ w2 ⟨x, y, rfl, hx, hy, hb⟩
      obtain ⟨Q2, q2, p2, rfl⟩ := hx.shape
      obtain ⟨R2, r2, s2, rfl⟩ := hy.shape
      replace HQ := Lib.hid (HQ.out.below hb)
      replace HR := Lib.hid (HR.out.below hb)
      replace H2 := Lib.hid (H2.out.below hb)
      replace H4 := Lib.hid (H4.out.below hb)
      replace HB := Lib.hid (HB.out.trans (hb.mono HB.out.size))
      replace K2 := Lib.hid (K2.out.after hb)
      replace K3 := Lib.hid (K3.out.after hb)
      have HR2 := Lib.hid hy
      have lq1 : ln / ld < LB ^ NL := Nat.lt_of_le_of_lt (Nat.div_le_self _ _) SP.out.l1
      have lq2 : hn / hd < LB ^ NL := Nat.lt_of_le_of_lt (Nat.div_le_self _ _) SP.out.l3
      have C3 := Lib.hid (compareN HQ.out hx lq1 lq2)
      have LQ1 := Lib.hid lq1
      clear hb hx hy C2 d0 d1 d2 d3 y2 lq1 lq2 H3
      by_cases hlt : ln / ld < hn / hd
      · rw [cn_lt hlt] at C3
        have hcf := cfs_above (k := k) HRN.out hlt
        have hbd := SP.out.bound
        rw [hcf] at hbd
        have L3 := Lib.hid (show ln / ld + 1 < LB ^ NL from Nat.lt_of_le_of_lt hbd.1 SP.out.l1)
        have HCF := Lib.hid hcf
        clear hcf hbd hlt
        go_wp2_with fail
        refine C3.out.mono ?_
        rintro _ w3 ⟨rfl, hb⟩
        replace HQ := Lib.hid (HQ.out.below hb)
        replace HB := Lib.hid (HB.out.trans (hb.mono HB.out.size))
        replace K3 := Lib.hid (K3.out.after hb)
        clear hb C3
        go_wp2_with fail
        refine (oneN w3).mono ?_
        rintro _ w4 ⟨x, rfl, hx, hb⟩
        have C4 := Lib.hid (addN (HQ.out.below hb) hx LQ1.out one_lt.out L3.out)
        replace HB := Lib.hid (HB.out.trans (hb.mono HB.out.size))
        replace K3 := Lib.hid (K3.out.after hb)
        clear hx hb
        go_wp2_with fail
        refine C4.out.mono ?_
        rintro _ w5 ⟨x, rfl, hx, hb⟩
        obtain ⟨B, m, d, rfl⟩ := hx.shape
        have HX := Lib.hid hx
        replace HB := Lib.hid (HB.out.trans (hb.mono HB.out.size))
        replace K3 := Lib.hid (K3.out.after hb)
        clear hx hb C4
        go_wp2_with fail
        refine (oneN w5).mono ?_
        rintro _ w6 ⟨x, rfl, hx, hb⟩
        obtain ⟨B2, m2, d2, rfl⟩ := hx.shape
        replace HX := Lib.hid (HX.out.below hb)
        replace HB := Lib.hid (HB.out.trans (hb.mono HB.out.size))
        replace K3 := Lib.hid (K3.out.after hb)
        have HY := Lib.hid hx
        have z3 : w.heap.size + 1 < w6.heap.size := K3.out.lt
        have e0 := K3.out.cell (i := 0) rfl
        have e1 := K3.out.cell (i := 1) rfl
        have ff := K3.out.free
        clear hx hb
        go_wp2_with fail
        refine bodyPost_ret (results_cell_row (p := 2) (ty := 105) rfl _ _ (w.heap.size + 1) 105 _ _ _ rfl K3.out.set.set Tryz.underlying105 rfl (by kernel_rfl)) rfl ?_
        exact ⟨_, _, _, _, _, _, rfl, by rw [HCF.out]; exact HX.out.putF K3.out, by rw [HCF.out]; exact HY.out.putF K3.out, (HB.out.setCell (by simp) _).setCell (by simp) _⟩
      · have hcc : ¬ cn (ln / ld) (hn / hd) < 0 := by
          rcases Nat.lt_trichotomy (ln / ld) (hn / hd) with h | h | h
          · exact absurd h hlt
          · rw [cn_eq h]; decide
          · rw [cn_gt h]; decide
        have HCF := Lib.hid (cfs_in (k := k) HRN.out hlt)
        have SN := Lib.hid (SP.out.next HRN.out hlt)
        have hbd := SP.out.bound
        rw [HCF.out] at hbd
        have LB1 := Lib.hid (show ln / ld * (cfs k hd (hn % hd) ld (ln % ld)).1 + (cfs k hd (hn % hd) ld (ln % ld)).2 < LB ^ NL ∧ ln / ld * (cfs k hd (hn % hd) ld (ln % ld)).1 < LB ^ NL ∧ (cfs k hd (hn % hd) ld (ln % ld)).1 < LB ^ NL ∧ (cfs k hd (hn % hd) ld (ln % ld)).2 < LB ^ NL from
          ⟨Nat.lt_of_le_of_lt hbd.1 SP.out.l1, Nat.lt_of_le_of_lt (Nat.le_trans (Nat.le_add_right _ _) hbd.1) SP.out.l1, Nat.lt_of_le_of_lt hbd.2 SP.out.l2, Nat.lt_of_le_of_lt (Nat.le_trans (Nat.le_add_left _ _) hbd.1) SP.out.l1⟩)
        generalize cn (ln / ld) (hn / hd) = cc at *
        clear hlt hbd
        go_wp2_with fail
        refine C3.out.mono ?_
        rintro _ w3 ⟨rfl, hb⟩
        replace HQ := Lib.hid (HQ.out.below hb)
        replace HR := Lib.hid (HR.out.below hb)
        replace HR2 := Lib.hid (HR2.out.below hb)
        replace H2 := Lib.hid (H2.out.below hb)
        replace H4 := Lib.hid (H4.out.below hb)
        replace HB := Lib.hid (HB.out.trans (hb.mono HB.out.size))
        replace K2 := Lib.hid (K2.out.after hb)
        replace K3 := Lib.hid (K3.out.after hb)
        have y2 : w.heap.size < w3.heap.size := K2.out.lt
        have d0 := K2.out.cell (i := 0) rfl
        have d1 := K2.out.cell (i := 1) rfl
        have d2 := K2.out.cell (i := 2) rfl
        have d3 := K2.out.cell (i := 3) rfl
        have C5 := Lib.hid (IH.out hd (hn % hd) ld (ln % ld) A4 R2 A2 R1 n4 c4 r2 s2 n2 c2 r1 s1 w3 H4.out HR2.out H2.out HR.out SN.out)
        clear hb C3
        go_wp2_with fail
        refine C5.out.mono ?_
        rintro _ w4 ⟨T1, t1, u1, T2, t2, u2, rfl, hx, hy, hb⟩
        have hbA := below1 w4 (.cells #[.slice T1 t1 u1, .slice T2 t2 u2] 105)
        have hbb := hb.trans (hbA.mono hb.size)
        replace HQ := Lib.hid (HQ.out.below hbb)
        replace HB := Lib.hid (HB.out.trans (hbb.mono HB.out.size))
        replace K3 := Lib.hid (K3.out.after hbb)
        have HX := Lib.hid (hx.below hbA)
        have HY := Lib.hid (hy.below hbA)
        have KT := Lib.hid (Blk.new w4 #[.slice T1 t1 u1, .slice T2 t2 u2] 105)
        have C6 := Lib.hid (mulN HQ.out HX.out LQ1.out LB1.out.2.2.1 LB1.out.2.1)
        clear hb hx hy hbA hbb d0 d1 d2 d3 y2 C5 K2 HR HR2 H2 H4
        go_wp2_with fail
        refine C6.out.mono ?_
        rintro _ w5 ⟨x, rfl, hx, hb⟩
        replace HB := Lib.hid (HB.out.trans (hb.mono HB.out.size))
        replace K3 := Lib.hid (K3.out.after hb)
        replace KT := Lib.hid (KT.out.after hb)
        replace HX := Lib.hid (HX.out.below hb)
        have t0 := KT.out.cell (i := 0) rfl
        have t1' := KT.out.cell (i := 1) rfl
        have zt : w4.heap.size < w5.heap.size := KT.out.lt
        have C7 := Lib.hid (addN hx (HY.out.below hb) LB1.out.2.1 LB1.out.2.2.2 LB1.out.1)
        clear hx hb C6 HY
        go_wp2_with fail
        refine C7.out.mono ?_
        rintro _ w6 ⟨x, rfl, hx, hb⟩
        obtain ⟨B2, m2, d2, rfl⟩ := hx.shape
        replace HB := Lib.hid (HB.out.trans (hb.mono HB.out.size))
        replace K3 := Lib.hid (K3.out.after hb)
        replace KT := Lib.hid (KT.out.after hb)
        replace HX := Lib.hid (HX.out.below hb)
        clear t0 t1' zt
        have t0 := KT.out.cell (i := 0) rfl
        have t1' := KT.out.cell (i := 1) rfl
        have zt : w4.heap.size < w6.heap.size := KT.out.lt
        have z3 : w.heap.size + 1 < w6.heap.size := K3.out.lt
        have e0 := K3.out.cell (i := 0) rfl
        have e1 := K3.out.cell (i := 1) rfl
        have ff := K3.out.free
        have HY := Lib.hid hx
        clear hx hb C7
        go_wp2_with fail
        refine bodyPost_ret (results_cell_row (p := 2) (ty := 105) rfl _ _ (w.heap.size + 1) 105 _ _ _ rfl K3.out.set.set Tryz.underlying105 rfl (by kernel_rfl)) rfl ?_
        exact ⟨_, _, _, _, _, _, rfl, by rw [HCF.out]; exact HY.out.putF K3.out, by rw [HCF.out]; exact HX.out.putF K3.out, (HB.out.setCell (by simp) _).setCell (by simp) _⟩
end Go.Proofs.YtbjaolmlnkliiaaGreatDoor

/- The fold over two pairs of natural numbers. Conditions as premises: the numbers read, and are short enough. -/
namespace Go.Proofs.YtbjaolmlnkliiaaGreatDoor
open Go.RowKit Go.Shelf

theorem index_two0 (a b c d : Value) (w : World) : (Instr.index 178 (.agg #[a, b, c, d]) (.int .i64 0)).run Tryz.prog w = .ok (.agg #[a, b]) w := by kernel_rfl
theorem index_two1 (a b c d : Value) (w : World) : (Instr.index 178 (.agg #[a, b, c, d]) (.int .i64 1)).run Tryz.prog w = .ok (.agg #[c, d]) w := by kernel_rfl

/-- what comes up in a product is short enough -/
structure ProdOk (L0 R0 L1 R1 : Nat) : Prop where
  r0 : R0 ≠ 0
  r1 : R1 ≠ 0
  ll0 : L0 < LB ^ NL
  lr0 : R0 < LB ^ NL
  ll1 : L1 < LB ^ NL
  lr1 : R1 < LB ^ NL
  p1 : 1 * (L0 / Nat.gcd L0 R0) < LB ^ NL
  p2 : 1 * (R0 / Nat.gcd L0 R0) < LB ^ NL
  q1 : 1 * (L0 / Nat.gcd L0 R0) * (L1 / Nat.gcd L1 R1) < LB ^ NL
  q2 : 1 * (R0 / Nat.gcd L0 R0) * (R1 / Nat.gcd L1 R1) < LB ^ NL

set_option maxRecDepth 100000 in
set_option maxHeartbeats 4000000 in
theorem foldProd {w : World} {L0 R0 L1 R1 : Nat} {A1 A2 A3 A4 A5 A6 : Option Addr} {n1 c1 n2 c2 n3 c3 n4 c4 n5 c5 n6 c6 : Nat}
    (hx0 : Nr w L0 (.slice A1 n1 c1)) (hy0 : Nr w R0 (.slice A2 n2 c2)) (hx1 : Nr w L1 (.slice A3 n3 c3)) (hy1 : Nr w R1 (.slice A4 n4 c4)) (hn : Nr w 1 (.slice A5 n5 c5)) (hd : Nr w 1 (.slice A6 n6 c6)) (ok : ProdOk L0 R0 L1 R1) :
    Calls Tryz.prog 170 #[.agg #[.slice A1 n1 c1, .slice A2 n2 c2, .slice A3 n3 c3, .slice A4 n4 c4], .agg #[.slice A5 n5 c5, .slice A6 n6 c6], .func (.func 171) #[] #[]] w fun e w' => ∃ A n c A' n' c', e = .returned (.tuple #[.agg #[.slice A n c, .slice A' n' c'], .int .i64 0]) ∧ Nr w' (1 * (L0 / Nat.gcd L0 R0) * (L1 / Nat.gcd L1 R1)) (.slice A n c) ∧ Nr w' (1 * (R0 / Nat.gcd L0 R0) * (R1 / Nat.gcd L1 R1)) (.slice A' n' c') ∧ Below w.heap.size w w' := by
  have i0 := fun w => index_two0 (.slice A1 n1 c1) (.slice A2 n2 c2) (.slice A3 n3 c3) (.slice A4 n4 c4) w
  have i1 := fun w => index_two1 (.slice A1 n1 c1) (.slice A2 n2 c2) (.slice A3 n3 c3) (.slice A4 n4 c4) w
  have hbW : Below w.heap.size w (((((w.alloc (.cells #[.slice A1 n1 c1, .slice A2 n2 c2, .slice A3 n3 c3, .slice A4 n4 c4] 178)).alloc (.cells #[.slice A5 n5 c5, .slice A6 n6 c6] 105)).alloc (.cells #[.slice none 0 0, .slice none 0 0] 105)).alloc (.cells #[.slice A5 n5 c5, .slice A6 n6 c6] 105)).alloc (.cells #[.slice A1 n1 c1, .slice A2 n2 c2] 177)) := (((below2 w _ _).alloc (by simp; omega) _).alloc (by simp; omega) _).alloc (by simp; omega) _
  have kR : Blk (((((w.alloc (.cells #[.slice A1 n1 c1, .slice A2 n2 c2, .slice A3 n3 c3, .slice A4 n4 c4] 178)).alloc (.cells #[.slice A5 n5 c5, .slice A6 n6 c6] 105)).alloc (.cells #[.slice none 0 0, .slice none 0 0] 105)).alloc (.cells #[.slice A5 n5 c5, .slice A6 n6 c6] 105)).alloc (.cells #[.slice A1 n1 c1, .slice A2 n2 c2] 177)) (w.heap.size + 1 + 1) 105 #[.slice none 0 0, .slice none 0 0] := by
    have h := (((Blk.new ((w.alloc (.cells #[.slice A1 n1 c1, .slice A2 n2 c2, .slice A3 n3 c3, .slice A4 n4 c4] 178)).alloc (.cells #[.slice A5 n5 c5, .slice A6 n6 c6] 105)) #[.slice none 0 0, .slice none 0 0] 105).alloc (.cells #[.slice A5 n5 c5, .slice A6 n6 c6] 105)).alloc (.cells #[.slice A1 n1 c1, .slice A2 n2 c2] 177))
    simp only [World.size_alloc] at h
    exact h
  have kS : Blk (((((w.alloc (.cells #[.slice A1 n1 c1, .slice A2 n2 c2, .slice A3 n3 c3, .slice A4 n4 c4] 178)).alloc (.cells #[.slice A5 n5 c5, .slice A6 n6 c6] 105)).alloc (.cells #[.slice none 0 0, .slice none 0 0] 105)).alloc (.cells #[.slice A5 n5 c5, .slice A6 n6 c6] 105)).alloc (.cells #[.slice A1 n1 c1, .slice A2 n2 c2] 177)) (w.heap.size + 1 + 1 + 1) 105 #[.slice A5 n5 c5, .slice A6 n6 c6] := by
    have h := ((Blk.new (((w.alloc (.cells #[.slice A1 n1 c1, .slice A2 n2 c2, .slice A3 n3 c3, .slice A4 n4 c4] 178)).alloc (.cells #[.slice A5 n5 c5, .slice A6 n6 c6] 105)).alloc (.cells #[.slice none 0 0, .slice none 0 0] 105)) #[.slice A5 n5 c5, .slice A6 n6 c6] 105).alloc (.cells #[.slice A1 n1 c1, .slice A2 n2 c2] 177))
    simp only [World.size_alloc] at h
    exact h
  have HX0 := Lib.hid hx0
  have HY0 := Lib.hid hy0
  have HX1 := Lib.hid hx1
  have HY1 := Lib.hid hy1
  have HN := Lib.hid hn
  have HD := Lib.hid hd
  have OK := Lib.hid ok
  clear hx0 hy0 hx1 hy1 hn hd ok
  go_enter Tryz.func170, Tryz.ntmps170
  go_wp2_with fail
  refine wp_loop_rounds 3 ?_
  rw [rounds_succ]
  go_wp2_with fail
  generalize (((((w.alloc (.cells #[.slice A1 n1 c1, .slice A2 n2 c2, .slice A3 n3 c3, .slice A4 n4 c4] 178)).alloc (.cells #[.slice A5 n5 c5, .slice A6 n6 c6] 105)).alloc (.cells #[.slice none 0 0, .slice none 0 0] 105)).alloc (.cells #[.slice A5 n5 c5, .slice A6 n6 c6] 105)).alloc (.cells #[.slice A1 n1 c1, .slice A2 n2 c2] 177)) = W at *
  have C := Lib.hid (productStep (HN.out.below hbW) (HD.out.below hbW) (HX0.out.below hbW) (HY0.out.below hbW) OK.out.r0 one_lt.out one_lt.out OK.out.ll0 OK.out.lr0 OK.out.p1 OK.out.p2)
  have HB := Lib.hid hbW
  have KR := Lib.hid kR
  have KS := Lib.hid kS
  clear hbW kR kS
  refine C.out.mono ?_
  rintro _ w1 ⟨B1, m1, d1, B2, m2, d2, rfl, ht, hu, hb⟩
  have kS := KS.out.after hb
  have e0 := kS.cell (i := 0) rfl
  have e1 := kS.cell (i := 1) rfl
  have df := kS.free
  have hzS : w.heap.size + 1 + 1 + 1 < w1.heap.size := kS.lt
  have HT1 := Lib.hid ht
  have HU1 := Lib.hid hu
  have HB1 := Lib.hid (HB.out.trans (hb.mono HB.out.size))
  have KR1 := Lib.hid (KR.out.after hb)
  have KS1 := Lib.hid kS
  clear kS hb ht hu C HB KR KS
  go_wp2_with fail
  have kS2 : Blk (((w1.setCell ⟨w.heap.size + 1 + 1 + 1, 0, none⟩ (.slice B1 m1 d1)).setCell ⟨w.heap.size + 1 + 1 + 1, 1, none⟩ (.slice B2 m2 d2)).alloc (.cells #[.slice B1 m1 d1, .slice B2 m2 d2] 105)) (w.heap.size + 1 + 1 + 1) 105 #[.slice B1 m1 d1, .slice B2 m2 d2] := KS1.out.set.set.alloc (.cells #[.slice B1 m1 d1, .slice B2 m2 d2] 105)
  have kR2 : Blk (((w1.setCell ⟨w.heap.size + 1 + 1 + 1, 0, none⟩ (.slice B1 m1 d1)).setCell ⟨w.heap.size + 1 + 1 + 1, 1, none⟩ (.slice B2 m2 d2)).alloc (.cells #[.slice B1 m1 d1, .slice B2 m2 d2] 105)) (w.heap.size + 1 + 1) 105 #[.slice none 0 0, .slice none 0 0] := ((KR1.out.other (by show w.heap.size + 1 + 1 ≠ w.heap.size + 1 + 1 + 1; omega)).other (by show w.heap.size + 1 + 1 ≠ w.heap.size + 1 + 1 + 1; omega)).alloc (.cells #[.slice B1 m1 d1, .slice B2 m2 d2] 105)
  have ht2 : Nr (((w1.setCell ⟨w.heap.size + 1 + 1 + 1, 0, none⟩ (.slice B1 m1 d1)).setCell ⟨w.heap.size + 1 + 1 + 1, 1, none⟩ (.slice B2 m2 d2)).alloc (.cells #[.slice B1 m1 d1, .slice B2 m2 d2] 105)) (1 * (L0 / Nat.gcd L0 R0)) (.slice B1 m1 d1) := (HT1.out.putF KS1.out).below (below1 _ _)
  have hu2 : Nr (((w1.setCell ⟨w.heap.size + 1 + 1 + 1, 0, none⟩ (.slice B1 m1 d1)).setCell ⟨w.heap.size + 1 + 1 + 1, 1, none⟩ (.slice B2 m2 d2)).alloc (.cells #[.slice B1 m1 d1, .slice B2 m2 d2] 105)) (1 * (R0 / Nat.gcd L0 R0)) (.slice B2 m2 d2) := (HU1.out.putF KS1.out).below (below1 _ _)
  have hbW : Below w.heap.size w (((w1.setCell ⟨w.heap.size + 1 + 1 + 1, 0, none⟩ (.slice B1 m1 d1)).setCell ⟨w.heap.size + 1 + 1 + 1, 1, none⟩ (.slice B2 m2 d2)).alloc (.cells #[.slice B1 m1 d1, .slice B2 m2 d2] 105)) := ((HB1.out.setCell (by simp; omega) _).setCell (by simp; omega) _).alloc (by simpa using HB1.out.size) _
  clear e0 e1 df hzS KS1 KR1 HT1 HU1 HB1
  generalize (((w1.setCell ⟨w.heap.size + 1 + 1 + 1, 0, none⟩ (.slice B1 m1 d1)).setCell ⟨w.heap.size + 1 + 1 + 1, 1, none⟩ (.slice B2 m2 d2)).alloc (.cells #[.slice B1 m1 d1, .slice B2 m2 d2] 105)) = W2 at *
  have g0 := kS2.cell (i := 0) rfl
  have g1 := kS2.cell (i := 1) rfl
  have hz0 : w.heap.size + 1 + 1 + 1 < W2.heap.size := kS2.lt
  have hb3 := below1 W2 (.cells #[.slice A3 n3 c3, .slice A4 n4 c4] 177)
  have hbW3 := hbW.trans (hb3.mono hbW.size)
  have C := Lib.hid (productStep (ht2.below hb3) (hu2.below hb3) (HX1.out.below hbW3) (HY1.out.below hbW3) OK.out.r1 OK.out.p1 OK.out.p2 OK.out.ll1 OK.out.lr1 OK.out.q1 OK.out.q2)
  have HB := Lib.hid hbW3
  have KR := Lib.hid (kR2.alloc (.cells #[.slice A3 n3 c3, .slice A4 n4 c4] 177))
  have KS := Lib.hid (kS2.alloc (.cells #[.slice A3 n3 c3, .slice A4 n4 c4] 177))
  clear hbW kR2 kS2 hb3 hbW3 ht2 hu2
  rw [rounds_succ]
  go_wp2_with fail
  refine C.out.mono ?_
  rintro _ w2 ⟨B3, m3, d3, B4, m4, d4, rfl, ht, hu, hb⟩
  have kS := KS.out.after hb
  have e0 := kS.cell (i := 0) rfl
  have e1 := kS.cell (i := 1) rfl
  have df := kS.free
  have hzS : w.heap.size + 1 + 1 + 1 < w2.heap.size := kS.lt
  have HT1 := Lib.hid ht
  have HU1 := Lib.hid hu
  have HB1 := Lib.hid (HB.out.trans (hb.mono HB.out.size))
  have KR1 := Lib.hid (KR.out.after hb)
  have KS1 := Lib.hid kS
  clear kS hb ht hu C HB KR KS g0 g1 hz0
  go_wp2_with fail
  have kS2 : Blk (((w2.setCell ⟨w.heap.size + 1 + 1 + 1, 0, none⟩ (.slice B3 m3 d3)).setCell ⟨w.heap.size + 1 + 1 + 1, 1, none⟩ (.slice B4 m4 d4)).alloc (.cells #[.slice B3 m3 d3, .slice B4 m4 d4] 105)) (w.heap.size + 1 + 1 + 1) 105 #[.slice B3 m3 d3, .slice B4 m4 d4] := KS1.out.set.set.alloc (.cells #[.slice B3 m3 d3, .slice B4 m4 d4] 105)
  have kR2 : Blk (((w2.setCell ⟨w.heap.size + 1 + 1 + 1, 0, none⟩ (.slice B3 m3 d3)).setCell ⟨w.heap.size + 1 + 1 + 1, 1, none⟩ (.slice B4 m4 d4)).alloc (.cells #[.slice B3 m3 d3, .slice B4 m4 d4] 105)) (w.heap.size + 1 + 1) 105 #[.slice none 0 0, .slice none 0 0] := ((KR1.out.other (by show w.heap.size + 1 + 1 ≠ w.heap.size + 1 + 1 + 1; omega)).other (by show w.heap.size + 1 + 1 ≠ w.heap.size + 1 + 1 + 1; omega)).alloc (.cells #[.slice B3 m3 d3, .slice B4 m4 d4] 105)
  have ht2 : Nr (((w2.setCell ⟨w.heap.size + 1 + 1 + 1, 0, none⟩ (.slice B3 m3 d3)).setCell ⟨w.heap.size + 1 + 1 + 1, 1, none⟩ (.slice B4 m4 d4)).alloc (.cells #[.slice B3 m3 d3, .slice B4 m4 d4] 105)) (1 * (L0 / Nat.gcd L0 R0) * (L1 / Nat.gcd L1 R1)) (.slice B3 m3 d3) := (HT1.out.putF KS1.out).below (below1 _ _)
  have hu2 : Nr (((w2.setCell ⟨w.heap.size + 1 + 1 + 1, 0, none⟩ (.slice B3 m3 d3)).setCell ⟨w.heap.size + 1 + 1 + 1, 1, none⟩ (.slice B4 m4 d4)).alloc (.cells #[.slice B3 m3 d3, .slice B4 m4 d4] 105)) (1 * (R0 / Nat.gcd L0 R0) * (R1 / Nat.gcd L1 R1)) (.slice B4 m4 d4) := (HU1.out.putF KS1.out).below (below1 _ _)
  have hbW : Below w.heap.size w (((w2.setCell ⟨w.heap.size + 1 + 1 + 1, 0, none⟩ (.slice B3 m3 d3)).setCell ⟨w.heap.size + 1 + 1 + 1, 1, none⟩ (.slice B4 m4 d4)).alloc (.cells #[.slice B3 m3 d3, .slice B4 m4 d4] 105)) := ((HB1.out.setCell (by simp; omega) _).setCell (by simp; omega) _).alloc (by simpa using HB1.out.size) _
  clear e0 e1 df hzS KS1 KR1 HT1 HU1 HB1
  generalize (((w2.setCell ⟨w.heap.size + 1 + 1 + 1, 0, none⟩ (.slice B3 m3 d3)).setCell ⟨w.heap.size + 1 + 1 + 1, 1, none⟩ (.slice B4 m4 d4)).alloc (.cells #[.slice B3 m3 d3, .slice B4 m4 d4] 105)) = W4 at *
  have g0 := kS2.cell (i := 0) rfl
  have g1 := kS2.cell (i := 1) rfl
  have r0 := kR2.cell (i := 0) rfl
  have r1 := kR2.cell (i := 1) rfl
  have rf := kR2.free
  have hz0 : w.heap.size + 1 + 1 + 1 < W4.heap.size := kS2.lt
  have HT2 := Lib.hid ht2
  have HU2 := Lib.hid hu2
  have HBW := Lib.hid hbW
  have KR2 := Lib.hid kR2
  clear ht2 hu2 hbW kR2 kS2
  rw [rounds_succ]
  go_wp2_with fail
  refine bodyPost_ret (results_row_tmp (p := 6) (ty := 105) rfl _ _ (w.heap.size + 1 + 1) 105 _ _ _ rfl KR2.out.set.set Tryz.underlying105 rfl (by kernel_rfl)) rfl ?_
  exact ⟨_, _, _, _, _, _, rfl, HT2.out.putF KR2.out, HU2.out.putF KR2.out, (HBW.out.setCell (by simp; omega) _).setCell (by simp; omega) _⟩
end Go.Proofs.YtbjaolmlnkliiaaGreatDoor

/- The fold over two pairs of integers. Conditions as premises: the numbers read, and are short enough. -/
namespace Go.Proofs.YtbjaolmlnkliiaaGreatDoor
open Go.RowKit Go.Shelf

theorem index_pairs0 (a b c d e f g h : Value) (w : World) : (Instr.index 173 (.agg #[a, b, c, d, e, f, g, h]) (.int .i64 0)).run Tryz.prog w = .ok (.agg #[a, b, c, d]) w := by kernel_rfl
theorem index_pairs1 (a b c d e f g h : Value) (w : World) : (Instr.index 173 (.agg #[a, b, c, d, e, f, g, h]) (.int .i64 1)).run Tryz.prog w = .ok (.agg #[e, f, g, h]) w := by kernel_rfl

set_option maxRecDepth 100000 in
set_option maxHeartbeats 4000000 in
theorem foldSum {w : World} {x0 y0 x1 y1 s1 s2 s3 s4 : Int} {A1 A2 A3 A4 : Option Addr} {n1 c1 n2 c2 n3 c3 n4 c4 : Nat}
    (hx0 : Wh w x0 (.agg #[.int .i64 s1, .slice A1 n1 c1])) (hy0 : Wh w y0 (.agg #[.int .i64 s2, .slice A2 n2 c2])) (hx1 : Wh w x1 (.agg #[.int .i64 s3, .slice A3 n3 c3])) (hy1 : Wh w y1 (.agg #[.int .i64 s4, .slice A4 n4 c4])) (hT : Tabs w)
    (h1 : x0.natAbs < LB ^ NL) (h2 : y0.natAbs < LB ^ NL) (h3 : x1.natAbs < LB ^ NL) (h4 : y1.natAbs < LB ^ NL) (h5 : (x0 * y0).natAbs < LB ^ NL) (h6 : (x1 * y1).natAbs < LB ^ NL) (h7 : (x0 * y0).natAbs + (x1 * y1).natAbs < LB ^ NL) :
    Calls Tryz.prog 167 #[.agg #[.int .i64 s1, .slice A1 n1 c1, .int .i64 s2, .slice A2 n2 c2, .int .i64 s3, .slice A3 n3 c3, .int .i64 s4, .slice A4 n4 c4], .agg #[.int .i64 1, .slice none 0 0], .func (.func 168) #[] #[]] w fun e w' => ∃ t, e = .returned (.tuple #[t, .int .i64 0]) ∧ Wh w' (x0 * y0 + x1 * y1) t ∧ Below w.heap.size w w' := by
  have i0 := fun w => index_pairs0 (.int .i64 s1) (.slice A1 n1 c1) (.int .i64 s2) (.slice A2 n2 c2) (.int .i64 s3) (.slice A3 n3 c3) (.int .i64 s4) (.slice A4 n4 c4) w
  have i1 := fun w => index_pairs1 (.int .i64 s1) (.slice A1 n1 c1) (.int .i64 s2) (.slice A2 n2 c2) (.int .i64 s3) (.slice A3 n3 c3) (.int .i64 s4) (.slice A4 n4 c4) w
  have hbW : Below w.heap.size w (((((w.alloc (.cells #[.int .i64 s1, .slice A1 n1 c1, .int .i64 s2, .slice A2 n2 c2, .int .i64 s3, .slice A3 n3 c3, .int .i64 s4, .slice A4 n4 c4] 173)).alloc (.cells #[.int .i64 1, .slice none 0 0] 102)).alloc (.cells #[.int .i64 0, .slice none 0 0] 102)).alloc (.cells #[.int .i64 1, .slice none 0 0] 102)).alloc (.cells #[.int .i64 s1, .slice A1 n1 c1, .int .i64 s2, .slice A2 n2 c2] 172)) := (((below2 w _ _).alloc (by simp; omega) _).alloc (by simp; omega) _).alloc (by simp; omega) _
  have kR : Blk (((((w.alloc (.cells #[.int .i64 s1, .slice A1 n1 c1, .int .i64 s2, .slice A2 n2 c2, .int .i64 s3, .slice A3 n3 c3, .int .i64 s4, .slice A4 n4 c4] 173)).alloc (.cells #[.int .i64 1, .slice none 0 0] 102)).alloc (.cells #[.int .i64 0, .slice none 0 0] 102)).alloc (.cells #[.int .i64 1, .slice none 0 0] 102)).alloc (.cells #[.int .i64 s1, .slice A1 n1 c1, .int .i64 s2, .slice A2 n2 c2] 172)) (w.heap.size + 1 + 1) 102 #[.int .i64 0, .slice none 0 0] := by
    have h := (((Blk.new ((w.alloc (.cells #[.int .i64 s1, .slice A1 n1 c1, .int .i64 s2, .slice A2 n2 c2, .int .i64 s3, .slice A3 n3 c3, .int .i64 s4, .slice A4 n4 c4] 173)).alloc (.cells #[.int .i64 1, .slice none 0 0] 102)) #[.int .i64 0, .slice none 0 0] 102).alloc (.cells #[.int .i64 1, .slice none 0 0] 102)).alloc (.cells #[.int .i64 s1, .slice A1 n1 c1, .int .i64 s2, .slice A2 n2 c2] 172))
    simp only [World.size_alloc] at h
    exact h
  have kS : Blk (((((w.alloc (.cells #[.int .i64 s1, .slice A1 n1 c1, .int .i64 s2, .slice A2 n2 c2, .int .i64 s3, .slice A3 n3 c3, .int .i64 s4, .slice A4 n4 c4] 173)).alloc (.cells #[.int .i64 1, .slice none 0 0] 102)).alloc (.cells #[.int .i64 0, .slice none 0 0] 102)).alloc (.cells #[.int .i64 1, .slice none 0 0] 102)).alloc (.cells #[.int .i64 s1, .slice A1 n1 c1, .int .i64 s2, .slice A2 n2 c2] 172)) (w.heap.size + 1 + 1 + 1) 102 #[.int .i64 1, .slice none 0 0] := by
    have h := ((Blk.new (((w.alloc (.cells #[.int .i64 s1, .slice A1 n1 c1, .int .i64 s2, .slice A2 n2 c2, .int .i64 s3, .slice A3 n3 c3, .int .i64 s4, .slice A4 n4 c4] 173)).alloc (.cells #[.int .i64 1, .slice none 0 0] 102)).alloc (.cells #[.int .i64 0, .slice none 0 0] 102)) #[.int .i64 1, .slice none 0 0] 102).alloc (.cells #[.int .i64 s1, .slice A1 n1 c1, .int .i64 s2, .slice A2 n2 c2] 172))
    simp only [World.size_alloc] at h
    exact h
  have HX0 := Lib.hid hx0
  have HY0 := Lib.hid hy0
  have HX1 := Lib.hid hx1
  have HY1 := Lib.hid hy1
  have HT := Lib.hid hT
  clear hx0 hy0 hx1 hy1 hT
  go_enter Tryz.func167, Tryz.ntmps167
  go_wp2_with fail
  refine wp_loop_rounds 3 ?_
  rw [rounds_succ]
  go_wp2_with fail
  generalize (((((w.alloc (.cells #[.int .i64 s1, .slice A1 n1 c1, .int .i64 s2, .slice A2 n2 c2, .int .i64 s3, .slice A3 n3 c3, .int .i64 s4, .slice A4 n4 c4] 173)).alloc (.cells #[.int .i64 1, .slice none 0 0] 102)).alloc (.cells #[.int .i64 0, .slice none 0 0] 102)).alloc (.cells #[.int .i64 1, .slice none 0 0] 102)).alloc (.cells #[.int .i64 s1, .slice A1 n1 c1, .int .i64 s2, .slice A2 n2 c2] 172)) = W at *
  have hz : Wh W 0 (.agg #[.int .i64 1, .slice none 0 0]) := ⟨none, 0, 0, rfl, Nr.zero _⟩
  have C := Lib.hid (sumStep hz (HX0.out.below hbW) (HY0.out.below hbW) (HT.out.below hbW) (Nat.pow_pos LB_pos) h1 h2 h5 (by simpa using h5))
  have HB := Lib.hid hbW
  have KR := Lib.hid kR
  have KS := Lib.hid kS
  clear hbW kR kS hz
  refine C.out.mono ?_
  rintro _ w1 ⟨t, rfl, ht, hb⟩
  obtain ⟨s5, A5, n5, c5, rfl, _, _, _⟩ := ht.get
  have kS := KS.out.after hb
  have d0 := kS.cell (i := 0) rfl
  have d1 := kS.cell (i := 1) rfl
  have df := kS.free
  have hzS : w.heap.size + 1 + 1 + 1 < w1.heap.size := kS.lt
  have HT1 := Lib.hid (ht.cast (Int.zero_add _))
  have HB1 := Lib.hid (HB.out.trans (hb.mono HB.out.size))
  have KR1 := Lib.hid (KR.out.after hb)
  have KS1 := Lib.hid kS
  clear kS hb ht C HB KR KS
  go_wp2_with fail
  have kS2 : Blk (((w1.setCell ⟨w.heap.size + 1 + 1 + 1, 0, none⟩ (.int .i64 s5)).setCell ⟨w.heap.size + 1 + 1 + 1, 1, none⟩ (.slice A5 n5 c5)).alloc (.cells #[.int .i64 s5, .slice A5 n5 c5] 102)) (w.heap.size + 1 + 1 + 1) 102 #[.int .i64 s5, .slice A5 n5 c5] := KS1.out.set.set.alloc (.cells #[.int .i64 s5, .slice A5 n5 c5] 102)
  have kR2 : Blk (((w1.setCell ⟨w.heap.size + 1 + 1 + 1, 0, none⟩ (.int .i64 s5)).setCell ⟨w.heap.size + 1 + 1 + 1, 1, none⟩ (.slice A5 n5 c5)).alloc (.cells #[.int .i64 s5, .slice A5 n5 c5] 102)) (w.heap.size + 1 + 1) 102 #[.int .i64 0, .slice none 0 0] := ((KR1.out.other (by show w.heap.size + 1 + 1 ≠ w.heap.size + 1 + 1 + 1; omega)).other (by show w.heap.size + 1 + 1 ≠ w.heap.size + 1 + 1 + 1; omega)).alloc (.cells #[.int .i64 s5, .slice A5 n5 c5] 102)
  have ht2 : Wh (((w1.setCell ⟨w.heap.size + 1 + 1 + 1, 0, none⟩ (.int .i64 s5)).setCell ⟨w.heap.size + 1 + 1 + 1, 1, none⟩ (.slice A5 n5 c5)).alloc (.cells #[.int .i64 s5, .slice A5 n5 c5] 102)) (x0 * y0) (.agg #[.int .i64 s5, .slice A5 n5 c5]) := (HT1.out.put2 KS1.out (hnoW _ _ _ _)).below (below1 _ _)
  have hbW : Below w.heap.size w (((w1.setCell ⟨w.heap.size + 1 + 1 + 1, 0, none⟩ (.int .i64 s5)).setCell ⟨w.heap.size + 1 + 1 + 1, 1, none⟩ (.slice A5 n5 c5)).alloc (.cells #[.int .i64 s5, .slice A5 n5 c5] 102)) := ((HB1.out.setCell (by simp; omega) _).setCell (by simp; omega) _).alloc (by simpa using HB1.out.size) _
  clear d0 d1 df hzS KS1 KR1 HT1 HB1
  generalize ((w1.setCell ⟨w.heap.size + 1 + 1 + 1, 0, none⟩ (.int .i64 s5)).setCell ⟨w.heap.size + 1 + 1 + 1, 1, none⟩ (.slice A5 n5 c5)).alloc (.cells #[.int .i64 s5, .slice A5 n5 c5] 102) = W2 at *
  have e0 := kS2.cell (i := 0) rfl
  have e1 := kS2.cell (i := 1) rfl
  have hz0 : w.heap.size + 1 + 1 + 1 < W2.heap.size := kS2.lt
  have hb3 := below1 W2 (.cells #[.int .i64 s3, .slice A3 n3 c3, .int .i64 s4, .slice A4 n4 c4] 172)
  have hbW3 := hbW.trans (hb3.mono hbW.size)
  have C := Lib.hid (sumStep (ht2.below hb3) (HX1.out.below hbW3) (HY1.out.below hbW3) (HT.out.below hbW3) h5 h3 h4 h6 h7)
  have HB := Lib.hid hbW3
  have KR := Lib.hid (kR2.alloc (.cells #[.int .i64 s3, .slice A3 n3 c3, .int .i64 s4, .slice A4 n4 c4] 172))
  have KS := Lib.hid (kS2.alloc (.cells #[.int .i64 s3, .slice A3 n3 c3, .int .i64 s4, .slice A4 n4 c4] 172))
  clear hbW kR2 kS2 hb3 hbW3 ht2
  rw [rounds_succ]
  go_wp2_with fail
  refine C.out.mono ?_
  rintro _ w2 ⟨t, rfl, ht, hb⟩
  obtain ⟨s6, A6, n6, c6, rfl, _, _, _⟩ := ht.get
  have kS := KS.out.after hb
  have d0 := kS.cell (i := 0) rfl
  have d1 := kS.cell (i := 1) rfl
  have df := kS.free
  have hzS : w.heap.size + 1 + 1 + 1 < w2.heap.size := kS.lt
  have HT1 := Lib.hid ht
  have HB1 := Lib.hid (HB.out.trans (hb.mono HB.out.size))
  have KR1 := Lib.hid (KR.out.after hb)
  have KS1 := Lib.hid kS
  clear kS hb ht C HB KR KS e0 e1 hz0
  go_wp2_with fail
  have kS2 : Blk (((w2.setCell ⟨w.heap.size + 1 + 1 + 1, 0, none⟩ (.int .i64 s6)).setCell ⟨w.heap.size + 1 + 1 + 1, 1, none⟩ (.slice A6 n6 c6)).alloc (.cells #[.int .i64 s6, .slice A6 n6 c6] 102)) (w.heap.size + 1 + 1 + 1) 102 #[.int .i64 s6, .slice A6 n6 c6] := KS1.out.set.set.alloc (.cells #[.int .i64 s6, .slice A6 n6 c6] 102)
  have kR2 : Blk (((w2.setCell ⟨w.heap.size + 1 + 1 + 1, 0, none⟩ (.int .i64 s6)).setCell ⟨w.heap.size + 1 + 1 + 1, 1, none⟩ (.slice A6 n6 c6)).alloc (.cells #[.int .i64 s6, .slice A6 n6 c6] 102)) (w.heap.size + 1 + 1) 102 #[.int .i64 0, .slice none 0 0] := ((KR1.out.other (by show w.heap.size + 1 + 1 ≠ w.heap.size + 1 + 1 + 1; omega)).other (by show w.heap.size + 1 + 1 ≠ w.heap.size + 1 + 1 + 1; omega)).alloc (.cells #[.int .i64 s6, .slice A6 n6 c6] 102)
  have ht2 : Wh (((w2.setCell ⟨w.heap.size + 1 + 1 + 1, 0, none⟩ (.int .i64 s6)).setCell ⟨w.heap.size + 1 + 1 + 1, 1, none⟩ (.slice A6 n6 c6)).alloc (.cells #[.int .i64 s6, .slice A6 n6 c6] 102)) (x0 * y0 + x1 * y1) (.agg #[.int .i64 s6, .slice A6 n6 c6]) := (HT1.out.put2 KS1.out (hnoW _ _ _ _)).below (below1 _ _)
  have hbW : Below w.heap.size w (((w2.setCell ⟨w.heap.size + 1 + 1 + 1, 0, none⟩ (.int .i64 s6)).setCell ⟨w.heap.size + 1 + 1 + 1, 1, none⟩ (.slice A6 n6 c6)).alloc (.cells #[.int .i64 s6, .slice A6 n6 c6] 102)) := ((HB1.out.setCell (by simp; omega) _).setCell (by simp; omega) _).alloc (by simpa using HB1.out.size) _
  clear d0 d1 df hzS KS1 KR1 HT1 HB1
  generalize ((w2.setCell ⟨w.heap.size + 1 + 1 + 1, 0, none⟩ (.int .i64 s6)).setCell ⟨w.heap.size + 1 + 1 + 1, 1, none⟩ (.slice A6 n6 c6)).alloc (.cells #[.int .i64 s6, .slice A6 n6 c6] 102) = W4 at *
  have e0 := kS2.cell (i := 0) rfl
  have e1 := kS2.cell (i := 1) rfl
  have r0 := kR2.cell (i := 0) rfl
  have r1 := kR2.cell (i := 1) rfl
  have rf := kR2.free
  have hz0 : w.heap.size + 1 + 1 + 1 < W4.heap.size := kS2.lt
  have HT2 := Lib.hid ht2
  have HBW := Lib.hid hbW
  have KR2 := Lib.hid kR2
  clear ht2 hbW kR2 kS2
  rw [rounds_succ]
  go_wp2_with fail
  refine bodyPost_ret (results_row_tmp (p := 6) (ty := 102) rfl _ _ (w.heap.size + 1 + 1) 102 _ _ _ rfl KR2.out.set.set Tryz.underlying102 rfl (by kernel_rfl)) rfl ?_
  exact ⟨_, rfl, HT2.out.put2 KR2.out (hnoW _ _ _ _), (HBW.out.setCell (by simp; omega) _).setCell (by simp; omega) _⟩
end Go.Proofs.YtbjaolmlnkliiaaGreatDoor

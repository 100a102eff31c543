/- The contracts of the functions under the laws of package rat: Limbs, RatY, RatZ, joined into one file. -/
import Derived.Test.YtbjaolmlnkliiaaGreatDoorNatC
import Derived.Test.YtbjaolmlnkliiaaGreatDoorRatThree
import Derived.Deep.RegionHeld3
import Derived.Deep.DrawnRows
import Derived.Deep.DeepCutAuto
/- The contract of Limbs: it makes a valid list of at most as many limbs. Conditions as premises: the list reads, and has at most 1000 limbs. -/
namespace Go.Proofs.YtbjaolmlnkliiaaGreatDoor
open Go.RowKit

theorem oneCell_u32 (x : Int) : ∀ u ∈ [Value.int .u32 x], u.oneCell' = true := by intro u hu; simp at hu; subst hu; rfl
theorem size_one {w : World} {B : Nat} (h : B ≤ w.heap.size) (o : Obj) : B ≤ (w.alloc o).heap.size := by simp; omega

end Go.Proofs.YtbjaolmlnkliiaaGreatDoor

/- The contracts of Make and of the laws' sum, product and number. Conditions as premises: the numbers read, and are short enough. -/
namespace Go.Proofs.YtbjaolmlnkliiaaGreatDoor
open Go.RowKit Go.Shelf
attribute [local go_sem ↓] Go.wp_at_zero Go.wp_at_succ

theorem checkNr {w : World} {N : Nat} {v : Value} (h : Nr w N v) (hN : N < LB ^ NL) :
    Calls Tryz.prog 93 #[v] w fun e w' => e = .returned (.int .i64 0) ∧ w = w' := by
  obtain ⟨A, n, c, f, rfl, hr, hd⟩ := h
  have := check_any A n c f _ w hr
  rw [Nr.chk hd hN] at this
  exact this

set_option maxRecDepth 100000 in
set_option maxHeartbeats 4000000 in
theorem ratMakeQ {w : World} {N D : Nat} {v u : Value} (neg : Bool) (h : Nr w N v) (k : Nr w D u) (hN : N < LB ^ NL) (hDl : D < LB ^ NL) (hD : D ≠ 0) :
    Calls Tryz.prog 19 #[.bool neg, v, u] w fun e w' => ∃ x, e = .returned (.tuple #[x, .int .i64 0]) ∧ Rq w' (mkRat (sn neg N) D) x ∧ Below w.heap.size w w' := by
  obtain ⟨A1, n1, c1, rfl, _⟩ := h.len
  obtain ⟨A2, n2, c2, rfl, hz2⟩ := k.len
  have hb0 := below1 w (.cells #[.bool false, .slice none 0 0, .slice none 0 0] 25)
  have C1 := Lib.hid (checkNr (h.below hb0) hN)
  have C2 := Lib.hid (checkNr (k.below hb0) hDl)
  have C3 := Lib.hid (signedN neg (h.below hb0))
  have H := Lib.hid (h.below hb0)
  have K := Lib.hid (k.below hb0)
  have HB := Lib.hid hb0
  have X := Lib.hid (Blk.new w #[.bool false, .slice none 0 0, .slice none 0 0] 25)
  have hlen : ((n2 : Int) == 0) = false := by rw [beq_eq_false_iff_ne]; intro e; exact hD (hz2.1 (by omega))
  have L := Lib.hid (And.intro hN (And.intro hDl hD))
  clear h k hb0 hN hDl hD hz2
  go_enter Tryz.func19, Tryz.ntmps19
  go_wp2_with fail
  refine C1.out.mono ?_
  rintro _ _ ⟨rfl, rfl⟩
  go_wp2_with fail
  refine C2.out.mono ?_
  rintro _ _ ⟨rfl, rfl⟩
  go_wp2_with fail
  refine C3.out.mono ?_
  rintro _ w1 ⟨x, rfl, hall, hb⟩
  obtain ⟨s, B, m, d, rfl, _, es, hs⟩ := (hall _ H.out).get
  have hfs := field_side s B m d w1
  have C4 := reducedQ (z := sn neg N) (Fr.mk (H.out.below hb) (K.out.below hb)) (sn_abs _ _) L.out.2.2 L.out.1 L.out.2.1
  rw [← es.out] at C4
  have C5 := Lib.hid C4
  replace HB := Lib.hid (HB.out.trans (hb.mono HB.out.size))
  replace X := Lib.hid (X.out.after hb)
  clear hall hb C4
  go_wp2_with fail
  refine C5.out.mono ?_
  rintro _ w2 ⟨x, rfl, hx, hb⟩
  obtain ⟨b3, B1, m1, e1, B2, m2, e2, rfl, _, _, _⟩ := hx.get
  replace HB := Lib.hid (HB.out.trans (hb.mono HB.out.size))
  replace X := Lib.hid (X.out.after hb)
  have HX := Lib.hid hx
  have z4 : w.heap.size < w2.heap.size := X.out.lt
  have d0 := X.out.cell (i := 0) rfl
  have d1 := X.out.cell (i := 1) rfl
  have d2 := X.out.cell (i := 2) rfl
  have ff := X.out.free
  clear hx hb C5 hfs
  go_wp2_with fail
  refine bodyPost_ret (results_row_tmp (p := 6) (ty := 25) rfl _ _ w.heap.size 25 _ _ _ rfl X.out.set.set.set Tryz.underlying25 rfl (by kernel_rfl)) rfl ?_
  obtain ⟨g1, g2, g3⟩ := HX.out.inv
  exact ⟨_, rfl, Rq.mk g3 rfl rfl (g1.put3 X.out (hnoR _ _ _ _ _ _ _)) (g2.put3 X.out (hnoR _ _ _ _ _ _ _)), ((HB.out.setCell (Nat.le_refl _) _).setCell (Nat.le_refl _) _).setCell (Nat.le_refl _) _⟩

theorem tmod_cases (x m : Int) (hm : 0 < m) : (x.tmod m < 0 → x.tmod m + m = x % m) ∧ (¬ x.tmod m < 0 → x.tmod m = x % m) ∧ -m < x.tmod m ∧ x.tmod m < m ∧ 0 ≤ x % m ∧ x % m < m := by
  have h1 := Int.emod_nonneg x (Int.ne_of_gt hm)
  have h2 := Int.emod_lt_of_pos x hm
  rw [Int.tmod_eq_emod]
  split
  · omega
  · have : (m.natAbs : Int) = m := by omega
    omega

set_option maxHeartbeats 800000 in
theorem modN (x m : Int) (hm : 0 < m) (hm2 : m ≤ 1000000) (w : World) :
    Calls Tryz.prog 65 #[.int .i64 x, .int .i64 m] w fun e w' => e = .returned (.int .i64 (x % m)) ∧ w = w' := by
  obtain ⟨t1, t2, t3, t4, t5, t6⟩ := tmod_cases x m hm
  have hmz : (m == 0) = false := by rw [beq_eq_false_iff_ne]; omega
  by_cases hx : x.tmod m < 0
  · have HE := Lib.hid (t1 hx)
    clear t1 t2 t5 t6
    go_enter Tryz.func65, Tryz.ntmps65
    go_wp2
    go_ret
    exact ⟨ret_int HE.out, rfl⟩
  · have HE := Lib.hid (t2 hx)
    clear t1 t2 t5 t6
    go_enter Tryz.func65, Tryz.ntmps65
    go_wp2
    go_ret
    exact ⟨ret_int HE.out, rfl⟩

theorem ratCheckQ {w : World} {q : Rat} {v : Value} (h : Rq w q v) (s : Sz 1024 q) :
    Calls Tryz.prog 29 #[v] w fun e w' => e = .returned (.int .i64 0) ∧ Below w.heap.size w w' := by
  obtain ⟨b, A1, n1, c1, f1, A2, n2, c2, f2, rfl, hr, h0⟩ := h.raw (lt_NL s.1 (by omega)) (lt_NL s.2 (by omega))
  have := ratCheck_any hr
  rw [h0] at this
  exact this

theorem sz_mkq {neg : Bool} {N D k : Nat} (h1 : N < LB ^ k) (h2 : D < LB ^ k) (h3 : D ≠ 0) : Sz k (mkRat (sn neg N) D) := by
  obtain ⟨_, e2, e3⟩ := mkRat_red (sn neg N) D h3
  rw [sn_abs] at e2
  exact ⟨by rw [e2]; exact Nat.lt_of_le_of_lt (Nat.div_le_self _ _) h1, by rw [e3]; exact Nat.lt_of_le_of_lt (Nat.div_le_self _ _) h2⟩

end Go.Proofs.YtbjaolmlnkliiaaGreatDoor

/- The walk of RatField: it returns true, and writes nothing that was there. Conditions as premises: the lists read, and the table of signs holds its numbers. -/
namespace Go.Proofs.YtbjaolmlnkliiaaGreatDoor
open Go.RowKit Go.Shelf
attribute [local go_sem ↓] Go.wp_at_zero Go.wp_at_succ

theorem Blk.row3 {w : World} {g : Nat} {t : TypeId} {a b c : Value} (h : Blk w g t #[a, b, c]) (u v x : Value) : Blk (((w.setCell ⟨g, 0, none⟩ u).setCell ⟨g, 1, none⟩ v).setCell ⟨g, 2, none⟩ x) g t #[u, v, x] := h.set.set.set
theorem quo_wrap {x m : Int} (h0 : -9223372036854775808 ≤ x) (h1 : x ≤ 9223372036854775807) (hm : 1 ≤ m) : IntKind.i64.wrap (x.tdiv m) = x.tdiv m := IntWalk.i64_quo' x m ⟨h0, h1, hm⟩
theorem ofN1 (z : Int) (h0 : -1000000000 ≤ z) (h1 : z ≤ 1000000000) (w : World) :
    Calls Tryz.prog 22 #[.int .i64 z, .int .i64 1] w fun e w' => ∃ t, e = .returned t ∧ Rq w' (mkRat z 1) t ∧ Below w.heap.size w w' := ofN z 1 h0 h1 (by omega) (by omega) w
theorem add_of0 (a : Rat) : a + mkRat 0 1 = a := by rw [show mkRat 0 1 = 0 by decide +kernel]; exact Rat.add_zero a
theorem mul_of1 (a : Rat) : a * mkRat 1 1 = a := by rw [show mkRat 1 1 = 1 by decide +kernel]; exact Rat.mul_one a
theorem rq_len {w : World} {b : Rat} {s : Bool} {A A' : Option Addr} {n c n' c' : Nat} (h : Rq w b (.agg #[.bool s, .slice A n c, .slice A' n' c'])) : n = 0 ↔ b = 0 := by
  obtain ⟨h1, _, _⟩ := h.inv
  obtain ⟨_, _, _, e, h2⟩ := h1.len
  cases e
  rw [h2, Int.natAbs_eq_zero, Rat.num_eq_zero]

set_option maxRecDepth 100000 in
set_option maxHeartbeats 4000000 in
theorem ratDiv_zero {w : World} {i j : Nat} {a b : Rat} {v u : Value} (ha : Rq w a v) (hb : Rq w b u) (sa : Sz i a) (sb : Sz j b) (hi : i ≤ 1024) (hj : j ≤ 1024) (hb0 : b = 0) :
    Calls Tryz.prog 23 #[v, u] w fun e w' => e = .returned (.tuple #[.agg #[.bool false, .slice none 0 0, .slice none 0 0], .int .i64 6]) ∧ Below w.heap.size w w' := by
  obtain ⟨b1, A1, n1, c1, f1, A2, n2, c2, f2, rfl, hr, h0⟩ := ha.raw (lt_NL sa.1 hi) (lt_NL sa.2 hi)
  obtain ⟨b2, A3, n3, c3, f3, A4, n4, c4, f4, rfl, kr, k0⟩ := hb.raw (lt_NL sb.1 hj) (lt_NL sb.2 hj)
  have hbb : Below w.heap.size w (((w.alloc (.cells #[.bool b1, .slice A1 n1 c1, .slice A2 n2 c2] 25)).alloc (.cells #[.bool b2, .slice A3 n3 c3, .slice A4 n4 c4] 25)).alloc (.cells #[.bool false, .slice none 0 0, .slice none 0 0] 25)) := (below2 w _ _).alloc (by simp; omega) _
  have k3 := (Blk.new (w.alloc (.cells #[.bool b1, .slice A1 n1 c1, .slice A2 n2 c2] 25)) #[.bool b2, .slice A3 n3 c3, .slice A4 n4 c4] 25).alloc (.cells #[.bool false, .slice none 0 0, .slice none 0 0] 25)
  have k4 := Blk.new ((w.alloc (.cells #[.bool b1, .slice A1 n1 c1, .slice A2 n2 c2] 25)).alloc (.cells #[.bool b2, .slice A3 n3 c3, .slice A4 n4 c4] 25)) #[.bool false, .slice none 0 0, .slice none 0 0] 25
  simp only [World.size_alloc] at k3 k4
  have K3 := Lib.hid k3
  have K4 := Lib.hid k4
  have c1' := checkBoth_any (hr.below hbb) (kr.below hbb)
  rw [chkRR_ok h0 k0] at c1'
  have C1 := Lib.hid c1'
  have HB := Lib.hid hbb
  have hlen : ((n3 : Int) == 0) = true := by rw [beq_iff_eq]; have := (rq_len hb).2 hb0; omega
  clear hb0 ha hb hr kr h0 k0 c1' k3 k4 hbb sa sb
  go_enter Tryz.func23, Tryz.ntmps23
  go_wp2_with fail
  refine C1.out.mono ?_
  rintro _ w1 ⟨rfl, hb⟩
  have k3 := K3.out.after hb
  have k4 := K4.out.after hb
  have y3 : w.heap.size + 1 < w1.heap.size := k3.lt
  have y4 : w.heap.size + 1 + 1 < w1.heap.size := k4.lt
  replace HB := Lib.hid (HB.out.trans (hb.mono HB.out.size))
  have d31 := k3.cell (i := 1) rfl
  have d40 := k4.cell (i := 0) rfl
  have d41 := k4.cell (i := 1) rfl
  have d42 := k4.cell (i := 2) rfl
  have ff := k4.free
  have K6 := Lib.hid k4
  clear hb k3 k4 K3 K4 C1
  go_wp2_with fail
  refine bodyPost_ret (results_row_tmp (p := 4) (ty := 25) rfl _ _ (w.heap.size + 1 + 1) 25 _ _ _ rfl K6.out.set.set.set Tryz.underlying25 rfl (by kernel_rfl)) rfl ?_
  exact ⟨rfl, ((HB.out.setCell (by simp; omega) _).setCell (by simp; omega) _).setCell (by simp; omega) _⟩

end Go.Proofs.YtbjaolmlnkliiaaGreatDoor

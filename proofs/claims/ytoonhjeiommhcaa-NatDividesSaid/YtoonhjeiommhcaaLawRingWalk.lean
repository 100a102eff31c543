/- The walk of NatRing: it returns true, and writes nothing that was there. Conditions as premises: the three lists read, the ints are ints. -/
import Derived.Test.YtoonhjeiommhcaaNr
namespace Go.Proofs.Ytoonhjeiommhcaa
open Go.RowKit

theorem bde {x e : Nat} (h : x < LB ^ e) (he : e ≤ 1024) : x < LB ^ NL := Nat.lt_of_lt_of_le h (pow_le_of (by rw [NL_eq]; exact he))
theorem bd20 {x : Nat} (h : x < LB ^ 20) : x < LB ^ NL := bde h (by omega)
theorem add_bd {x y e : Nat} (h : x < LB ^ e) (k : y < LB ^ e) : x + y < LB ^ (e + 1) := by
  have : LB ^ e * 2 ≤ LB ^ e * LB := Nat.mul_le_mul_left _ (by rw [LB_eq]; omega)
  rw [Nat.pow_succ]; omega
theorem mul_bd {x y a b : Nat} (h : x < LB ^ a) (k : y < LB ^ b) : x * y < LB ^ (a + b) := by
  rw [Nat.pow_add]; exact Nat.mul_lt_mul'' h k
theorem up_bd {x a b : Nat} (h : x < LB ^ a) (k : a ≤ b) : x < LB ^ b := Nat.lt_of_lt_of_le h (pow_le_of k)
theorem pow_bd {N i : Nat} (h : N < LB ^ 20) (hi : i ≤ 40) : N ^ i < LB ^ NL := by
  have h1 : N ^ i ≤ (LB ^ 20) ^ i := Nat.pow_le_pow_left (Nat.le_of_lt h) i
  rw [← Nat.pow_mul] at h1
  exact Nat.lt_of_le_of_lt h1 (Nat.pow_lt_pow_right (by rw [LB_eq]; omega) (by rw [NL_eq]; omega))

theorem ring_bounds {N M K : Nat} (h : N < LB ^ 20) (k : M < LB ^ 20) (l : K < LB ^ 20) :
    Big (N + M < LB ^ NL) ∧ Big (M + N < LB ^ NL) ∧ (Big (N + M + K < LB ^ NL) ∧ Big (N + (M + K) < LB ^ NL)) ∧ Big (M + K < LB ^ NL) ∧
    Big (N * M < LB ^ NL) ∧ Big (M * N < LB ^ NL) ∧ (Big (N * M * K < LB ^ NL) ∧ Big (N * (M * K) < LB ^ NL)) ∧ Big (M * K < LB ^ NL) ∧
    Big (N * (M + K) < LB ^ NL) ∧ Big (N * K < LB ^ NL) ∧ Big (N * M + N * K < LB ^ NL) := by
  have a1 := add_bd h k
  have a2 := add_bd k h
  have a3 := add_bd k l
  have m1 := mul_bd h k
  have m2 := mul_bd k h
  have m3 := mul_bd k l
  have m4 := mul_bd h l
  exact ⟨Big.mk (bde a1 (by omega)), Big.mk (bde a2 (by omega)), ⟨Big.mk (bde (add_bd a1 (up_bd l (by omega))) (by omega)), Big.mk (bde (add_bd (up_bd h (by omega)) a3) (by omega))⟩, Big.mk (bde a3 (by omega)),
    Big.mk (bde m1 (by omega)), Big.mk (bde m2 (by omega)), ⟨Big.mk (bde (mul_bd m1 l) (by omega)), Big.mk (bde (mul_bd h m3) (by omega))⟩, Big.mk (bde m3 (by omega)),
    Big.mk (bde (mul_bd h a3) (by omega)), Big.mk (bde m4 (by omega)), Big.mk (bde (add_bd m1 m4) (by omega))⟩

set_option maxRecDepth 100000 in
set_option maxHeartbeats 4000000 in
theorem natRing_awake (A A' A'' : Option Addr) (n c m c' l c'' : Nat) (i j : Int) (w : World) (h : 20 < n ∨ (n ≤ 20 ∧ 20 < m) ∨ (n ≤ 20 ∧ m ≤ 20 ∧ 20 < l)) :
    Calls Try.prog 5 #[.slice A n c, .slice A' m c', .slice A'' l c'', .int .i64 i, .int .i64 j] w fun r w' => r = .returned (.bool true) ∧ Below w.heap.size w w' := by
  rcases h with h | ⟨h, h2⟩ | ⟨h, h2, h3⟩
  all_goals
    go_enter Try.func5, Try.ntmps5
    go_wp2_with fail
    refine (awake_any _).mono ?_
    rintro _ _ ⟨rfl, hb⟩
    go_wp2_with fail
    go_ret
    exact ⟨rfl, hb⟩

set_option maxRecDepth 100000 in
set_option maxHeartbeats 8000000 in
theorem natRing_main (A A' A'' : Option Addr) (n c m c' l c'' : Nat) (f g h : Nat → Nat) (i j : Int) (w : World) (hA : Rs w w.heap.size A n c f) (hB : Rs w w.heap.size A' m c' g) (hC : Rs w w.heap.size A'' l c'' h)
    (hn0 : n ≤ 20) (hm0 : m ≤ 20) (hk0 : l ≤ 20) (hi0 : -9223372036854775808 ≤ i) (hi1 : i ≤ 9223372036854775807) (hj0 : -9223372036854775808 ≤ j) (hj1 : j ≤ 9223372036854775807) :
    Calls Try.prog 5 #[.slice A n c, .slice A' m c', .slice A'' l c'', .int .i64 i, .int .i64 j] w fun r w' => r = .returned (.bool true) ∧ Below w.heap.size w w' := by
  obtain ⟨I, hI⟩ := Int.eq_ofNat_of_zero_le (show 0 ≤ i % 21 by omega)
  obtain ⟨J, hJ⟩ := Int.eq_ofNat_of_zero_le (show 0 ≤ j % 21 by omega)
  have hI20 : I ≤ 20 := by omega
  have hJ20 : J ≤ 20 := by omega
  have MI := Lib.hid fun w => mod21_any i hi0 hi1 w
  have MJ := Lib.hid fun w => mod21_any j hj0 hj1 w
  rw [hI] at MI
  rw [hJ] at MJ
  have PIJ : ∀ {w : World} {N : Nat} {v : Value} (h : Nr w N v) (hN : N < LB ^ NL) (hs : N ^ (I + J) < LB ^ NL), Calls Try.prog 16 #[v, .int .i64 ((I : Int) + (J : Int))] w fun e w' => ∃ x, e = .returned (.tuple #[x, .int .i64 0]) ∧ Nr w' (N ^ (I + J)) x ∧ Below w.heap.size w w' := fun h hN hs => by
    have := powN (k := I + J) h hN (by omega) hs
    rw [Int.natCast_add] at this
    exact this
  have HA := Lib.hid hA
  have HB := Lib.hid hB
  have HC := Lib.hid hC
  have BEL := Lib.hid (Below.refl w.heap.size w)
  clear hA hB hC hI hJ hi0 hi1 hj0 hj1
  go_enter Try.func5, Try.ntmps5
  go_wp2_with fail
  refine (limbsN HA.out (by omega)).mono ?_
  rintro _ w1 ⟨a, N, rfl, hx, hn, hb⟩
  clear HA
  replace BEL := Lib.hid (BEL.out.trans (hb.mono BEL.out.size))
  replace HB := Lib.hid ((HB.out.below hb).more hb.size)
  replace HC := Lib.hid ((HC.out.below hb).more hb.size)
  have Ha := Lib.hid hx
  have BN := Big.mk (Nat.lt_of_lt_of_le hn (pow_le_of hn0))
  clear hx hb hn
  go_wp2_with fail
  refine (limbsN HB.out (by omega)).mono ?_
  rintro _ w2 ⟨b, M, rfl, hx, hn, hb⟩
  clear HB
  replace Ha := Lib.hid (Ha.out.below hb)
  replace BEL := Lib.hid (BEL.out.trans (hb.mono BEL.out.size))
  replace HC := Lib.hid ((HC.out.below hb).more hb.size)
  have Hb := Lib.hid hx
  have BM := Big.mk (Nat.lt_of_lt_of_le hn (pow_le_of hm0))
  clear hx hb hn
  go_wp2_with fail
  refine (limbsN HC.out (by omega)).mono ?_
  rintro _ w3 ⟨c, K, rfl, hx, hn, hb⟩
  clear HC
  replace Ha := Lib.hid (Ha.out.below hb)
  replace Hb := Lib.hid (Hb.out.below hb)
  replace BEL := Lib.hid (BEL.out.trans (hb.mono BEL.out.size))
  have Hc := Lib.hid hx
  have BK := Big.mk (Nat.lt_of_lt_of_le hn (pow_le_of hk0))
  clear hx hb hn
  go_wp2_with fail
  have bN := Big.mk (bd20 BN.out)
  have bM := Big.mk (bd20 BM.out)
  have bK := Big.mk (bd20 BK.out)
  obtain ⟨s1, s2, ⟨s3, s3a⟩, s4, p1, p2, ⟨p3, p3a⟩, p4, p5, p6, p7⟩ := ring_bounds BN.out BM.out BK.out
  refine (sumN Ha.out Hb.out bN.out bM.out s1.out).mono ?_
  rintro _ w4 ⟨x, rfl, hx, hb⟩
  replace Ha := Lib.hid (Ha.out.below hb)
  replace Hb := Lib.hid (Hb.out.below hb)
  replace Hc := Lib.hid (Hc.out.below hb)
  replace BEL := Lib.hid (BEL.out.trans (hb.mono BEL.out.size))
  have Hx := Lib.hid hx
  clear hx hb
  go_wp2_with fail
  refine (sumN Hb.out Ha.out bM.out bN.out s2.out).mono ?_
  rintro _ w5 ⟨y, rfl, hx, hb⟩
  replace Ha := Lib.hid (Ha.out.below hb)
  replace Hb := Lib.hid (Hb.out.below hb)
  replace Hc := Lib.hid (Hc.out.below hb)
  replace Hx := Lib.hid (Hx.out.below hb)
  replace BEL := Lib.hid (BEL.out.trans (hb.mono BEL.out.size))
  have Hy := Lib.hid hx
  clear hx hb
  go_wp2_with fail
  refine (alikeN Hx.out (Hy.out.cast (Nat.add_comm _ _))).mono ?_
  rintro _ _ ⟨rfl, d, rfl⟩
  replace Ha := Lib.hid (Ha.out.below (Below.drewN _ d))
  replace Hb := Lib.hid (Hb.out.below (Below.drewN _ d))
  replace Hc := Lib.hid (Hc.out.below (Below.drewN _ d))
  replace Hx := Lib.hid (Hx.out.below (Below.drewN _ d))
  replace Hy := Lib.hid (Hy.out.below (Below.drewN _ d))
  replace BEL := Lib.hid (BEL.out.trans ((Below.drewN _ d).mono BEL.out.size))
  generalize w5.drewN d = w6 at *
  go_wp2_with fail
  clear Hx
  clear Hy
  refine (productN Ha.out Hb.out bN.out bM.out p1.out).mono ?_
  rintro _ w7 ⟨x, rfl, hx, hb⟩
  replace Ha := Lib.hid (Ha.out.below hb)
  replace Hb := Lib.hid (Hb.out.below hb)
  replace Hc := Lib.hid (Hc.out.below hb)
  replace BEL := Lib.hid (BEL.out.trans (hb.mono BEL.out.size))
  have Hx := Lib.hid hx
  clear hx hb
  go_wp2_with fail
  refine (productN Hb.out Ha.out bM.out bN.out p2.out).mono ?_
  rintro _ w8 ⟨y, rfl, hx, hb⟩
  replace Ha := Lib.hid (Ha.out.below hb)
  replace Hb := Lib.hid (Hb.out.below hb)
  replace Hc := Lib.hid (Hc.out.below hb)
  replace Hx := Lib.hid (Hx.out.below hb)
  replace BEL := Lib.hid (BEL.out.trans (hb.mono BEL.out.size))
  have Hy := Lib.hid hx
  clear hx hb
  go_wp2_with fail
  refine (alikeN Hx.out (Hy.out.cast (Nat.mul_comm _ _))).mono ?_
  rintro _ _ ⟨rfl, d, rfl⟩
  replace Ha := Lib.hid (Ha.out.below (Below.drewN _ d))
  replace Hb := Lib.hid (Hb.out.below (Below.drewN _ d))
  replace Hc := Lib.hid (Hc.out.below (Below.drewN _ d))
  replace Hx := Lib.hid (Hx.out.below (Below.drewN _ d))
  replace Hy := Lib.hid (Hy.out.below (Below.drewN _ d))
  replace BEL := Lib.hid (BEL.out.trans ((Below.drewN _ d).mono BEL.out.size))
  generalize w8.drewN d = w9 at *
  go_wp2_with fail
  clear Hx
  clear Hy
  refine (sumN Ha.out Hb.out bN.out bM.out s1.out).mono ?_
  rintro _ w10 ⟨x0, rfl, hx, hb⟩
  replace Ha := Lib.hid (Ha.out.below hb)
  replace Hb := Lib.hid (Hb.out.below hb)
  replace Hc := Lib.hid (Hc.out.below hb)
  replace BEL := Lib.hid (BEL.out.trans (hb.mono BEL.out.size))
  have Hx0 := Lib.hid hx
  clear hx hb
  go_wp2_with fail
  refine (sumN Hx0.out Hc.out s1.out bK.out s3.out).mono ?_
  rintro _ w11 ⟨x, rfl, hx, hb⟩
  replace Ha := Lib.hid (Ha.out.below hb)
  replace Hb := Lib.hid (Hb.out.below hb)
  replace Hc := Lib.hid (Hc.out.below hb)
  replace Hx0 := Lib.hid (Hx0.out.below hb)
  replace BEL := Lib.hid (BEL.out.trans (hb.mono BEL.out.size))
  have Hx := Lib.hid hx
  clear hx hb
  go_wp2_with fail
  refine (sumN Hb.out Hc.out bM.out bK.out s4.out).mono ?_
  rintro _ w12 ⟨y0, rfl, hx, hb⟩
  replace Ha := Lib.hid (Ha.out.below hb)
  replace Hb := Lib.hid (Hb.out.below hb)
  replace Hc := Lib.hid (Hc.out.below hb)
  replace Hx0 := Lib.hid (Hx0.out.below hb)
  replace Hx := Lib.hid (Hx.out.below hb)
  replace BEL := Lib.hid (BEL.out.trans (hb.mono BEL.out.size))
  have Hy0 := Lib.hid hx
  clear hx hb
  go_wp2_with fail
  refine (sumN Ha.out Hy0.out bN.out s4.out s3a.out).mono ?_
  rintro _ w13 ⟨y, rfl, hx, hb⟩
  replace Ha := Lib.hid (Ha.out.below hb)
  replace Hb := Lib.hid (Hb.out.below hb)
  replace Hc := Lib.hid (Hc.out.below hb)
  replace Hx0 := Lib.hid (Hx0.out.below hb)
  replace Hx := Lib.hid (Hx.out.below hb)
  replace Hy0 := Lib.hid (Hy0.out.below hb)
  replace BEL := Lib.hid (BEL.out.trans (hb.mono BEL.out.size))
  have Hy := Lib.hid hx
  clear hx hb
  go_wp2_with fail
  refine (alikeN Hx.out (Hy.out.cast (Nat.add_assoc _ _ _).symm)).mono ?_
  rintro _ _ ⟨rfl, d, rfl⟩
  replace Ha := Lib.hid (Ha.out.below (Below.drewN _ d))
  replace Hb := Lib.hid (Hb.out.below (Below.drewN _ d))
  replace Hc := Lib.hid (Hc.out.below (Below.drewN _ d))
  replace Hx0 := Lib.hid (Hx0.out.below (Below.drewN _ d))
  replace Hx := Lib.hid (Hx.out.below (Below.drewN _ d))
  replace Hy0 := Lib.hid (Hy0.out.below (Below.drewN _ d))
  replace Hy := Lib.hid (Hy.out.below (Below.drewN _ d))
  replace BEL := Lib.hid (BEL.out.trans ((Below.drewN _ d).mono BEL.out.size))
  generalize w13.drewN d = w14 at *
  go_wp2_with fail
  clear Hx
  clear Hy
  clear Hx0
  clear Hy0
  refine (productN Ha.out Hb.out bN.out bM.out p1.out).mono ?_
  rintro _ w15 ⟨x0, rfl, hx, hb⟩
  replace Ha := Lib.hid (Ha.out.below hb)
  replace Hb := Lib.hid (Hb.out.below hb)
  replace Hc := Lib.hid (Hc.out.below hb)
  replace BEL := Lib.hid (BEL.out.trans (hb.mono BEL.out.size))
  have Hx0 := Lib.hid hx
  clear hx hb
  go_wp2_with fail
  refine (productN Hx0.out Hc.out p1.out bK.out p3.out).mono ?_
  rintro _ w16 ⟨x, rfl, hx, hb⟩
  replace Ha := Lib.hid (Ha.out.below hb)
  replace Hb := Lib.hid (Hb.out.below hb)
  replace Hc := Lib.hid (Hc.out.below hb)
  replace Hx0 := Lib.hid (Hx0.out.below hb)
  replace BEL := Lib.hid (BEL.out.trans (hb.mono BEL.out.size))
  have Hx := Lib.hid hx
  clear hx hb
  go_wp2_with fail
  refine (productN Hb.out Hc.out bM.out bK.out p4.out).mono ?_
  rintro _ w17 ⟨y0, rfl, hx, hb⟩
  replace Ha := Lib.hid (Ha.out.below hb)
  replace Hb := Lib.hid (Hb.out.below hb)
  replace Hc := Lib.hid (Hc.out.below hb)
  replace Hx0 := Lib.hid (Hx0.out.below hb)
  replace Hx := Lib.hid (Hx.out.below hb)
  replace BEL := Lib.hid (BEL.out.trans (hb.mono BEL.out.size))
  have Hy0 := Lib.hid hx
  clear hx hb
  go_wp2_with fail
  refine (productN Ha.out Hy0.out bN.out p4.out p3a.out).mono ?_
  rintro _ w18 ⟨y, rfl, hx, hb⟩
  replace Ha := Lib.hid (Ha.out.below hb)
  replace Hb := Lib.hid (Hb.out.below hb)
  replace Hc := Lib.hid (Hc.out.below hb)
  replace Hx0 := Lib.hid (Hx0.out.below hb)
  replace Hx := Lib.hid (Hx.out.below hb)
  replace Hy0 := Lib.hid (Hy0.out.below hb)
  replace BEL := Lib.hid (BEL.out.trans (hb.mono BEL.out.size))
  have Hy := Lib.hid hx
  clear hx hb
  go_wp2_with fail
  refine (alikeN Hx.out (Hy.out.cast (Nat.mul_assoc _ _ _).symm)).mono ?_
  rintro _ _ ⟨rfl, d, rfl⟩
  replace Ha := Lib.hid (Ha.out.below (Below.drewN _ d))
  replace Hb := Lib.hid (Hb.out.below (Below.drewN _ d))
  replace Hc := Lib.hid (Hc.out.below (Below.drewN _ d))
  replace Hx0 := Lib.hid (Hx0.out.below (Below.drewN _ d))
  replace Hx := Lib.hid (Hx.out.below (Below.drewN _ d))
  replace Hy0 := Lib.hid (Hy0.out.below (Below.drewN _ d))
  replace Hy := Lib.hid (Hy.out.below (Below.drewN _ d))
  replace BEL := Lib.hid (BEL.out.trans ((Below.drewN _ d).mono BEL.out.size))
  generalize w18.drewN d = w19 at *
  go_wp2_with fail
  clear Hx
  clear Hy
  clear Hx0
  clear Hy0
  refine (sumN Hb.out Hc.out bM.out bK.out s4.out).mono ?_
  rintro _ w20 ⟨x0, rfl, hx, hb⟩
  replace Ha := Lib.hid (Ha.out.below hb)
  replace Hb := Lib.hid (Hb.out.below hb)
  replace Hc := Lib.hid (Hc.out.below hb)
  replace BEL := Lib.hid (BEL.out.trans (hb.mono BEL.out.size))
  have Hx0 := Lib.hid hx
  clear hx hb
  go_wp2_with fail
  refine (productN Ha.out Hx0.out bN.out s4.out p5.out).mono ?_
  rintro _ w21 ⟨x, rfl, hx, hb⟩
  replace Ha := Lib.hid (Ha.out.below hb)
  replace Hb := Lib.hid (Hb.out.below hb)
  replace Hc := Lib.hid (Hc.out.below hb)
  replace Hx0 := Lib.hid (Hx0.out.below hb)
  replace BEL := Lib.hid (BEL.out.trans (hb.mono BEL.out.size))
  have Hx := Lib.hid hx
  clear hx hb
  go_wp2_with fail
  refine (productN Ha.out Hb.out bN.out bM.out p1.out).mono ?_
  rintro _ w22 ⟨y0, rfl, hx, hb⟩
  replace Ha := Lib.hid (Ha.out.below hb)
  replace Hb := Lib.hid (Hb.out.below hb)
  replace Hc := Lib.hid (Hc.out.below hb)
  replace Hx0 := Lib.hid (Hx0.out.below hb)
  replace Hx := Lib.hid (Hx.out.below hb)
  replace BEL := Lib.hid (BEL.out.trans (hb.mono BEL.out.size))
  have Hy0 := Lib.hid hx
  clear hx hb
  go_wp2_with fail
  refine (productN Ha.out Hc.out bN.out bK.out p6.out).mono ?_
  rintro _ w23 ⟨y1, rfl, hx, hb⟩
  replace Ha := Lib.hid (Ha.out.below hb)
  replace Hb := Lib.hid (Hb.out.below hb)
  replace Hc := Lib.hid (Hc.out.below hb)
  replace Hx0 := Lib.hid (Hx0.out.below hb)
  replace Hx := Lib.hid (Hx.out.below hb)
  replace Hy0 := Lib.hid (Hy0.out.below hb)
  replace BEL := Lib.hid (BEL.out.trans (hb.mono BEL.out.size))
  have Hy1 := Lib.hid hx
  clear hx hb
  go_wp2_with fail
  refine (sumN Hy0.out Hy1.out p1.out p6.out p7.out).mono ?_
  rintro _ w24 ⟨y, rfl, hx, hb⟩
  replace Ha := Lib.hid (Ha.out.below hb)
  replace Hb := Lib.hid (Hb.out.below hb)
  replace Hc := Lib.hid (Hc.out.below hb)
  replace Hx0 := Lib.hid (Hx0.out.below hb)
  replace Hx := Lib.hid (Hx.out.below hb)
  replace Hy0 := Lib.hid (Hy0.out.below hb)
  replace Hy1 := Lib.hid (Hy1.out.below hb)
  replace BEL := Lib.hid (BEL.out.trans (hb.mono BEL.out.size))
  have Hy := Lib.hid hx
  clear hx hb
  go_wp2_with fail
  refine (alikeN Hx.out (Hy.out.cast (Nat.mul_add _ _ _).symm)).mono ?_
  rintro _ _ ⟨rfl, d, rfl⟩
  replace Ha := Lib.hid (Ha.out.below (Below.drewN _ d))
  replace Hb := Lib.hid (Hb.out.below (Below.drewN _ d))
  replace Hc := Lib.hid (Hc.out.below (Below.drewN _ d))
  replace Hx0 := Lib.hid (Hx0.out.below (Below.drewN _ d))
  replace Hx := Lib.hid (Hx.out.below (Below.drewN _ d))
  replace Hy0 := Lib.hid (Hy0.out.below (Below.drewN _ d))
  replace Hy1 := Lib.hid (Hy1.out.below (Below.drewN _ d))
  replace Hy := Lib.hid (Hy.out.below (Below.drewN _ d))
  replace BEL := Lib.hid (BEL.out.trans ((Below.drewN _ d).mono BEL.out.size))
  generalize w24.drewN d = w25 at *
  go_wp2_with fail
  clear Hx
  clear Hy
  clear Hx0
  clear Hy0
  clear Hy1
  refine (sumN Ha.out Hb.out bN.out bM.out s1.out).mono ?_
  rintro _ w26 ⟨x0, rfl, hx, hb⟩
  replace Ha := Lib.hid (Ha.out.below hb)
  replace Hb := Lib.hid (Hb.out.below hb)
  replace Hc := Lib.hid (Hc.out.below hb)
  replace BEL := Lib.hid (BEL.out.trans (hb.mono BEL.out.size))
  have Hx0 := Lib.hid hx
  clear hx hb
  go_wp2_with fail
  refine (subN Hx0.out Hb.out s1.out bM.out (Nat.le_add_left _ _)).mono ?_
  rintro _ w27 ⟨back, rfl, hx, hb⟩
  replace Ha := Lib.hid (Ha.out.below hb)
  replace Hb := Lib.hid (Hb.out.below hb)
  replace Hc := Lib.hid (Hc.out.below hb)
  replace Hx0 := Lib.hid (Hx0.out.below hb)
  replace BEL := Lib.hid (BEL.out.trans (hb.mono BEL.out.size))
  have Hback := Lib.hid hx
  clear hx hb
  go_wp2_with fail
  clear Hx0
  refine (MI.out _).mono ?_
  rintro _ _ ⟨rfl, rfl⟩
  go_wp2_with fail
  refine (MJ.out _).mono ?_
  rintro _ _ ⟨rfl, rfl⟩
  go_wp2_with fail
  have q1 := pow_bd (i := I) BN.out (by omega)
  have q2 := pow_bd (i := J) BN.out (by omega)
  have q3 := pow_bd (i := I + J) BN.out (by omega)
  have Q1 := Big.mk q1
  have Q2 := Big.mk q2
  have Q3 := Big.mk q3
  clear q1 q2 q3
  refine (powN Ha.out bN.out (by omega : I ≤ 10000) Q1.out).mono ?_
  rintro _ w28 ⟨x, rfl, hx, hb⟩
  replace Ha := Lib.hid (Ha.out.below hb)
  replace Hb := Lib.hid (Hb.out.below hb)
  replace Hc := Lib.hid (Hc.out.below hb)
  replace Hback := Lib.hid (Hback.out.below hb)
  replace BEL := Lib.hid (BEL.out.trans (hb.mono BEL.out.size))
  have Hx := Lib.hid hx
  clear hx hb
  go_wp2_with fail
  refine (powN Ha.out bN.out (by omega : J ≤ 10000) Q2.out).mono ?_
  rintro _ w29 ⟨y, rfl, hx, hb⟩
  replace Ha := Lib.hid (Ha.out.below hb)
  replace Hb := Lib.hid (Hb.out.below hb)
  replace Hc := Lib.hid (Hc.out.below hb)
  replace Hback := Lib.hid (Hback.out.below hb)
  replace Hx := Lib.hid (Hx.out.below hb)
  replace BEL := Lib.hid (BEL.out.trans (hb.mono BEL.out.size))
  have Hy := Lib.hid hx
  clear hx hb
  go_wp2_with fail
  refine (PIJ Ha.out bN.out Q3.out).mono ?_
  rintro _ w30 ⟨z, rfl, hx, hb⟩
  replace Ha := Lib.hid (Ha.out.below hb)
  replace Hb := Lib.hid (Hb.out.below hb)
  replace Hc := Lib.hid (Hc.out.below hb)
  replace Hback := Lib.hid (Hback.out.below hb)
  replace Hx := Lib.hid (Hx.out.below hb)
  replace Hy := Lib.hid (Hy.out.below hb)
  replace BEL := Lib.hid (BEL.out.trans (hb.mono BEL.out.size))
  have Hz := Lib.hid hx
  clear hx hb
  go_wp2_with fail
  refine (alikeN (Hback.out.cast (Nat.add_sub_cancel _ _)) Ha.out).mono ?_
  rintro _ _ ⟨rfl, d, rfl⟩
  replace Ha := Lib.hid (Ha.out.below (Below.drewN _ d))
  replace Hb := Lib.hid (Hb.out.below (Below.drewN _ d))
  replace Hc := Lib.hid (Hc.out.below (Below.drewN _ d))
  replace Hback := Lib.hid (Hback.out.below (Below.drewN _ d))
  replace Hx := Lib.hid (Hx.out.below (Below.drewN _ d))
  replace Hy := Lib.hid (Hy.out.below (Below.drewN _ d))
  replace Hz := Lib.hid (Hz.out.below (Below.drewN _ d))
  replace BEL := Lib.hid (BEL.out.trans ((Below.drewN _ d).mono BEL.out.size))
  generalize w30.drewN d = w31 at *
  go_wp2_with fail
  clear Hback
  refine (productN Hx.out Hy.out Q1.out Q2.out (by rw [← Nat.pow_add]; exact Q3.out)).mono ?_
  rintro _ w32 ⟨p, rfl, hx, hb⟩
  replace Ha := Lib.hid (Ha.out.below hb)
  replace Hb := Lib.hid (Hb.out.below hb)
  replace Hc := Lib.hid (Hc.out.below hb)
  replace Hx := Lib.hid (Hx.out.below hb)
  replace Hy := Lib.hid (Hy.out.below hb)
  replace Hz := Lib.hid (Hz.out.below hb)
  replace BEL := Lib.hid (BEL.out.trans (hb.mono BEL.out.size))
  have Hp := Lib.hid hx
  clear hx hb
  go_wp2_with fail
  refine (alikeN Hp.out (Hz.out.cast (Nat.pow_add _ _ _))).mono ?_
  rintro _ _ ⟨rfl, d, rfl⟩
  replace Ha := Lib.hid (Ha.out.below (Below.drewN _ d))
  replace Hb := Lib.hid (Hb.out.below (Below.drewN _ d))
  replace Hc := Lib.hid (Hc.out.below (Below.drewN _ d))
  replace Hx := Lib.hid (Hx.out.below (Below.drewN _ d))
  replace Hy := Lib.hid (Hy.out.below (Below.drewN _ d))
  replace Hz := Lib.hid (Hz.out.below (Below.drewN _ d))
  replace Hp := Lib.hid (Hp.out.below (Below.drewN _ d))
  replace BEL := Lib.hid (BEL.out.trans ((Below.drewN _ d).mono BEL.out.size))
  generalize w32.drewN d = w33 at *
  go_wp2_with fail
  clear Hp
  clear Hx
  clear Hy
  clear Hz
  have L := nr_one w33
  replace Ha := Lib.hid (Ha.out.below (((Below.refl _ w33).alloc (Nat.le_refl _) (.cells #[.int .u32 1] 30))))
  replace Hb := Lib.hid (Hb.out.below (((Below.refl _ w33).alloc (Nat.le_refl _) (.cells #[.int .u32 1] 30))))
  replace Hc := Lib.hid (Hc.out.below (((Below.refl _ w33).alloc (Nat.le_refl _) (.cells #[.int .u32 1] 30))))
  replace BEL := Lib.hid (BEL.out.trans ((((Below.refl _ w33).alloc (Nat.le_refl _) (.cells #[.int .u32 1] 30))).mono BEL.out.size))
  have HL := Lib.hid L
  clear L
  refine (productN Ha.out HL.out bN.out one_lt.out (by rw [Nat.mul_one]; exact bN.out)).mono ?_
  rintro _ w35 ⟨p, rfl, hx, hb⟩
  replace Ha := Lib.hid (Ha.out.below hb)
  replace Hb := Lib.hid (Hb.out.below hb)
  replace Hc := Lib.hid (Hc.out.below hb)
  replace BEL := Lib.hid (BEL.out.trans (hb.mono BEL.out.size))
  have Hp := Lib.hid hx
  clear hx hb
  go_wp2_with fail
  refine (alikeN (Hp.out.cast (Nat.mul_one _)) Ha.out).mono ?_
  rintro _ _ ⟨rfl, d, rfl⟩
  replace Ha := Lib.hid (Ha.out.below (Below.drewN _ d))
  replace Hb := Lib.hid (Hb.out.below (Below.drewN _ d))
  replace Hc := Lib.hid (Hc.out.below (Below.drewN _ d))
  replace Hp := Lib.hid (Hp.out.below (Below.drewN _ d))
  replace BEL := Lib.hid (BEL.out.trans ((Below.drewN _ d).mono BEL.out.size))
  generalize w35.drewN d = w36 at *
  go_wp2_with fail
  refine (awake_any _).mono ?_
  rintro _ _ ⟨rfl, hb⟩
  replace BEL := Lib.hid (BEL.out.trans (hb.mono BEL.out.size))
  clear hb
  go_wp2_with fail
  go_ret
  exact ⟨rfl, BEL.out⟩

theorem natRing_any (A A' A'' : Option Addr) (n c m c' l c'' : Nat) (f g h : Nat → Nat) (i j : Int) (w : World) (hA : Rs w w.heap.size A n c f) (hB : Rs w w.heap.size A' m c' g) (hC : Rs w w.heap.size A'' l c'' h)
    (hi0 : -9223372036854775808 ≤ i) (hi1 : i ≤ 9223372036854775807) (hj0 : -9223372036854775808 ≤ j) (hj1 : j ≤ 9223372036854775807) :
    Calls Try.prog 5 #[.slice A n c, .slice A' m c', .slice A'' l c'', .int .i64 i, .int .i64 j] w fun r w' => r = .returned (.bool true) ∧ Below w.heap.size w w' := by
  by_cases h1 : n ≤ 20
  · by_cases h2 : m ≤ 20
    · by_cases h3 : l ≤ 20
      · exact natRing_main A A' A'' n c m c' l c'' f g h i j w hA hB hC h1 h2 h3 hi0 hi1 hj0 hj1
      · exact natRing_awake A A' A'' n c m c' l c'' i j w (.inr (.inr ⟨h1, h2, by omega⟩))
    · exact natRing_awake A A' A'' n c m c' l c'' i j w (.inr (.inl ⟨h1, by omega⟩))
  · exact natRing_awake A A' A'' n c m c' l c'' i j w (.inl (by omega))

end Go.Proofs.Ytoonhjeiommhcaa

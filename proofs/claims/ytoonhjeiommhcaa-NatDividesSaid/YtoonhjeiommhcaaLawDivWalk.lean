/- The walk of NatDivides: it returns true, and writes nothing that was there. Conditions as premises: the three lists read. -/
import Derived.Test.YtoonhjeiommhcaaLcm
import Derived.Test.YtoonhjeiommhcaaLawRingWalk
namespace Go.Proofs.Ytoonhjeiommhcaa
open Go.RowKit

set_option maxHeartbeats 400000 in
theorem cmpN {w : World} {N M : Nat} {v u : Value} (h : Nr w N v) (k : Nr w M u) (hN : N < LB ^ NL) (hM : M < LB ^ NL) :
    Calls Try.prog 28 #[v, u] w fun e w' => e = .returned (.tuple #[.int .i64 (cn N M), .int .i64 0]) ∧ Below w.heap.size w w' := by
  obtain ⟨A, n, c, f, rfl, hA, hd⟩ := h
  obtain ⟨A', m, c', g, rfl, hB, hd'⟩ := k
  have c1 := checkAll_call A A' n c m c' f g w hA hB
  have hb : Below w.heap.size w (w.alloc (.cells #[.slice A n c, .slice A' m c'] 23)) := (Below.refl _ _).alloc (Nat.le_refl _) _
  have h2 : chk2 n f m g = 0 := by unfold chk2; rw [if_pos (Nr.chk hd hN)]; exact Nr.chk hd' hM
  rw [h2] at c1
  have c2 := compare_any A A' n c m c' f g _ _ (w.alloc (.cells #[.slice A n c, .slice A' m c'] 23)) (hA.alloc (Nat.le_refl _) _) (hB.alloc (Nat.le_refl _) _) hd.ok hd'.ok
  rw [hd.eq, hd'.eq] at c2
  have C1 := Lib.hid c1
  have C2 := Lib.hid c2
  clear c1 c2 h2 hd hd' hN hM
  go_enter Try.func28, Try.ntmps28
  go_wp2_with fail
  refine C1.out.mono ?_
  rintro e w' ⟨rfl, rfl⟩
  go_wp2_with fail
  refine C2.out.mono ?_
  rintro e w' ⟨rfl, k, rfl⟩
  go_wp2_with fail
  go_ret2
  exact ⟨rfl, hb.trans ((Qt.n1 _ k).below.mono (by simp))⟩

set_option maxRecDepth 100000 in
set_option maxHeartbeats 4000000 in
theorem natDivides_awake (A A' A'' : Option Addr) (n c m c' l c'' : Nat) (w : World) (h : 25 < n ∨ (n ≤ 25 ∧ 25 < m) ∨ (n ≤ 25 ∧ m ≤ 25 ∧ 5 < l)) :
    Calls Try.prog 6 #[.slice A n c, .slice A' m c', .slice A'' l c''] w fun r w' => r = .returned (.bool true) ∧ Below w.heap.size w w' := by
  rcases h with h | ⟨h, h2⟩ | ⟨h, h2, h3⟩
  all_goals
    go_enter Try.func6, Try.ntmps6
    go_wp2_with fail
    refine (awake_any _).mono ?_
    rintro _ _ ⟨rfl, hb⟩
    go_wp2_with fail
    go_ret
    exact ⟨rfl, hb⟩

/-- the bounds of the numbers that come up -/
theorem div_bounds {N M K : Nat} (h : N < LB ^ 25) (k : M < LB ^ 25) (l : K < LB ^ 5) :
    Big (N < LB ^ NL) ∧ Big (M < LB ^ NL) ∧ Big (K < LB ^ NL) ∧ Big (N / M < LB ^ NL) ∧ Big (N % M < LB ^ NL) ∧ Big (N / M * M < LB ^ NL) ∧ Big (N / M * M + N % M < LB ^ NL) ∧ Big (N * K < LB ^ NL) ∧ Big (M * K < LB ^ NL) ∧
    Big (Nat.gcd N M < LB ^ NL) ∧ Big (lcmV N M < LB ^ NL) ∧ Big (Nat.gcd N M * K < LB ^ NL) ∧ Big (Nat.gcd N M * lcmV N M < LB ^ NL) ∧ Big (N * M < LB ^ NL) ∧ Big (N / Nat.gcd N M < LB ^ NL) ∧ Big (M / Nat.gcd N M < LB ^ NL) := by
  have hN := bde h (by omega)
  have hM := bde k (by omega)
  have hG : Nat.gcd N M < LB ^ 25 ∨ Nat.gcd N M = 0 := by
    rcases Nat.eq_zero_or_pos N with e | e
    · rcases Nat.eq_zero_or_pos M with e' | e'
      · right; rw [e, e']; rfl
      · left; exact Nat.lt_of_le_of_lt (Nat.gcd_le_right _ e') k
    · left; exact Nat.lt_of_le_of_lt (Nat.gcd_le_left _ e) h
  have hG' : Nat.gcd N M < LB ^ 25 := by
    rcases hG with e | e
    · exact e
    · rw [e]; exact Nat.pow_pos LB_pos
  have hq : N / M * M ≤ N := Nat.div_mul_le_self _ _
  have hl : lcmV N M ≤ N * M := Nat.mul_le_mul_right _ (Nat.div_le_self _ _)
  have hm : N % M ≤ N := Nat.mod_le _ _
  have hgl : Nat.gcd N M * lcmV N M ≤ N * M := by
    unfold lcmV
    rw [← Nat.mul_assoc, Nat.mul_comm (Nat.gcd N M)]
    exact Nat.mul_le_mul_right _ (Nat.div_mul_le_self _ _)
  refine ⟨Big.mk hN, Big.mk hM, Big.mk (bde l (by omega)), Big.mk (Nat.lt_of_le_of_lt (Nat.div_le_self _ _) hN), Big.mk (Nat.lt_of_le_of_lt hm hN), Big.mk (Nat.lt_of_le_of_lt hq hN), Big.mk (by rw [Nat.mul_comm, Nat.div_add_mod]; exact hN), Big.mk (bde (mul_bd h l) (by omega)), Big.mk (bde (mul_bd k l) (by omega)),
    Big.mk (bde hG' (by omega)), Big.mk (bde (Nat.lt_of_le_of_lt hl (mul_bd h k)) (by omega)), Big.mk (bde (mul_bd hG' l) (by omega)), Big.mk (bde (Nat.lt_of_le_of_lt hgl (mul_bd h k)) (by omega)), Big.mk (bde (mul_bd h k) (by omega)),
    Big.mk (Nat.lt_of_le_of_lt (Nat.div_le_self _ _) hN), Big.mk (Nat.lt_of_le_of_lt (Nat.div_le_self _ _) hM)⟩

theorem dig_nil {n N : Nat} {f : Nat → Nat} (h : Dig n f N) : n = 0 ↔ N = 0 := by rw [← h.eq]; exact h.ok.zero_iff.symm
theorem gcd_ones {N M : Nat} (hN : 0 < N) : Nat.gcd (N / Nat.gcd N M) (M / Nat.gcd N M) = 1 := by
  rw [Nat.gcd_div (Nat.gcd_dvd_left _ _) (Nat.gcd_dvd_right _ _), Nat.div_self (Nat.gcd_pos_of_pos_left _ hN)]
theorem gcd_lcm {N M : Nat} : Nat.gcd N M * lcmV N M = N * M := by
  unfold lcmV
  rw [← Nat.mul_assoc, Nat.mul_div_cancel' (Nat.gcd_dvd_left _ _)]

set_option maxRecDepth 100000 in
set_option maxHeartbeats 8000000 in
theorem natDivides_main (A A' A'' : Option Addr) (n c m c' l c'' : Nat) (f g h : Nat → Nat) (w : World) (hA : Rs w w.heap.size A n c f) (hB : Rs w w.heap.size A' m c' g) (hC : Rs w w.heap.size A'' l c'' h)
    (hn0 : n ≤ 25) (hm0 : m ≤ 25) (hk0 : l ≤ 5) :
    Calls Try.prog 6 #[.slice A n c, .slice A' m c', .slice A'' l c''] w fun r w' => r = .returned (.bool true) ∧ Below w.heap.size w w' := by
  have HA := Lib.hid hA
  have HB := Lib.hid hB
  have HC := Lib.hid hC
  have BEL := Lib.hid (Below.refl w.heap.size w)
  clear hA hB hC
  go_enter Try.func6, Try.ntmps6
  go_wp2_with fail
  refine (limbsN HA.out (by omega)).mono ?_
  rintro _ w1 ⟨_, N, rfl, ⟨la, na, ca, fa, rfl, hr, hd⟩, hn, hb⟩
  clear HA
  replace HB := Lib.hid ((HB.out.below hb).more hb.size)
  replace HC := Lib.hid ((HC.out.below hb).more hb.size)
  replace BEL := Lib.hid (BEL.out.trans (hb.mono BEL.out.size))
  have Ha := Lib.hid (show Nr w1 N (.slice la na ca) from ⟨_, _, _, _, rfl, hr, hd⟩)
  have Da := Lib.hid hd
  have BN := Big.mk (Nat.lt_of_lt_of_le hn (pow_le_of hn0))
  clear hr hd hb hn
  go_wp2_with fail
  refine (limbsN HB.out (by omega)).mono ?_
  rintro _ w2 ⟨_, M, rfl, ⟨lb, nb, cb, fb, rfl, hr, hd⟩, hn, hb⟩
  clear HB
  replace HC := Lib.hid ((HC.out.below hb).more hb.size)
  replace Ha := Lib.hid (Ha.out.below hb)
  replace BEL := Lib.hid (BEL.out.trans (hb.mono BEL.out.size))
  have Hb := Lib.hid (show Nr w2 M (.slice lb nb cb) from ⟨_, _, _, _, rfl, hr, hd⟩)
  have Db := Lib.hid hd
  have BM := Big.mk (Nat.lt_of_lt_of_le hn (pow_le_of hm0))
  clear hr hd hb hn
  go_wp2_with fail
  refine (limbsN HC.out (by omega)).mono ?_
  rintro _ w3 ⟨_, K, rfl, ⟨lk, nk, ck, fk, rfl, hr, hd⟩, hn, hb⟩
  clear HC
  replace Ha := Lib.hid (Ha.out.below hb)
  replace Hb := Lib.hid (Hb.out.below hb)
  replace BEL := Lib.hid (BEL.out.trans (hb.mono BEL.out.size))
  have Hc := Lib.hid (show Nr w3 K (.slice lk nk ck) from ⟨_, _, _, _, rfl, hr, hd⟩)
  have Dk := Lib.hid hd
  have BK := Big.mk (Nat.lt_of_lt_of_le hn (pow_le_of hk0))
  clear hr hd hb hn
  obtain ⟨bN, bM, bK, bQ, bR, bQM, bQMR, bNK, bMK, bG, bL, bGK, bGL, bNM, bNG, bMG⟩ := div_bounds BN.out BM.out BK.out
  by_cases hz : na = 0 ∨ nb = 0 ∨ nk = 0
  · have hcond : ((na : Int) == 0) = true ∨ (((na : Int) == 0) = false ∧ ((nb : Int) == 0) = true) ∨ (((na : Int) == 0) = false ∧ ((nb : Int) == 0) = false ∧ ((nk : Int) == 0) = true) := by
      simp only [beq_iff_eq, beq_eq_false_iff_ne]; omega
    clear hz
    obtain ⟨_, _, _, xa, e1, hra, hda⟩ := Ha.out
    cases e1
    have HDV := Lib.hid (natDiv_all la none na ca 0 0 xa (fun _ => 0) w3 hra (Rs.nil _ _ _))
    have hE : divE na xa 0 (fun _ => 0) = 6 := by
      have h2 : chk2 na xa 0 (fun _ => 0) = 0 := by unfold chk2; rw [if_pos (Nr.chk hda bN.out)]; exact chk_ok (by omega) ⟨fun j hj => by omega, fun h => by omega⟩
      unfold divE; rw [if_pos h2, if_pos rfl]
    have HE := Lib.hid hE
    clear hra hda hE
    rcases hcond with h1 | ⟨h1, h2⟩ | ⟨h1, h2, h3⟩
    all_goals
      go_wp2_with fail
      refine HDV.out.mono ?_
      rintro _ wd ⟨v, u, rfl, hm⟩
      rw [HE.out] at *
      have hbd := BEL.out.trans ((made_bel hm.fst).mono BEL.out.size)
      clear hm
      go_wp2_with fail
      refine (awake_any _).mono ?_
      rintro _ _ ⟨rfl, hb⟩
      replace BEL := Lib.hid (hbd.trans (hb.mono hbd.size))
      clear hb hbd
      go_wp2_with fail
      go_ret
      exact ⟨rfl, BEL.out⟩
  · have hcond : ((na : Int) == 0) = false ∧ ((nb : Int) == 0) = false ∧ ((nk : Int) == 0) = false := by
      simp only [beq_eq_false_iff_ne]; omega
    obtain ⟨h1, h2, h3⟩ := hcond
    have N0 : Big (0 < N) := Big.mk (by have := dig_nil Da.out; omega)
    have M0 : Big (0 < M) := Big.mk (by have := dig_nil Db.out; omega)
    have G0 : Big (0 < Nat.gcd N M) := Big.mk (Nat.gcd_pos_of_pos_left _ N0.out)
    clear hz
    go_wp2_with fail
    refine (divN Ha.out Hb.out bN.out bM.out M0.out).mono ?_
    rintro _ w4 ⟨q, r, rfl, hx, hy, hb⟩
    replace Ha := Lib.hid (Ha.out.below hb)
    replace Hb := Lib.hid (Hb.out.below hb)
    replace Hc := Lib.hid (Hc.out.below hb)
    replace BEL := Lib.hid (BEL.out.trans (hb.mono BEL.out.size))
    have Hq := Lib.hid hx
    have Hr := Lib.hid hy
    clear hx hy hb
    go_wp2_with fail
    refine (cmpN Hr.out Hb.out bR.out bM.out).mono ?_
    rintro _ w5 ⟨rfl, hb⟩
    replace Ha := Lib.hid (Ha.out.below hb)
    replace Hb := Lib.hid (Hb.out.below hb)
    replace Hc := Lib.hid (Hc.out.below hb)
    replace Hq := Lib.hid (Hq.out.below hb)
    replace Hr := Lib.hid (Hr.out.below hb)
    replace BEL := Lib.hid (BEL.out.trans (hb.mono BEL.out.size))
    clear hb
    rw [cn_lt (Nat.mod_lt N M0.out)]
    go_wp2_with fail
    refine (productN Hq.out Hb.out bQ.out bM.out bQM.out).mono ?_
    rintro _ w6 ⟨p, rfl, hx, hb⟩
    replace Ha := Lib.hid (Ha.out.below hb)
    replace Hb := Lib.hid (Hb.out.below hb)
    replace Hc := Lib.hid (Hc.out.below hb)
    replace Hq := Lib.hid (Hq.out.below hb)
    replace Hr := Lib.hid (Hr.out.below hb)
    replace BEL := Lib.hid (BEL.out.trans (hb.mono BEL.out.size))
    have Hp := Lib.hid hx
    clear hx hb
    go_wp2_with fail
    refine (sumN Hp.out Hr.out bQM.out bR.out bQMR.out).mono ?_
    rintro _ w7 ⟨s, rfl, hx, hb⟩
    replace Ha := Lib.hid (Ha.out.below hb)
    replace Hb := Lib.hid (Hb.out.below hb)
    replace Hc := Lib.hid (Hc.out.below hb)
    replace Hq := Lib.hid (Hq.out.below hb)
    replace Hr := Lib.hid (Hr.out.below hb)
    replace Hp := Lib.hid (Hp.out.below hb)
    replace BEL := Lib.hid (BEL.out.trans (hb.mono BEL.out.size))
    have Hs := Lib.hid hx
    clear hx hb
    go_wp2_with fail
    refine (alikeN (Hs.out.cast (by rw [Nat.mul_comm]; exact Nat.div_add_mod N M)) Ha.out).mono ?_
    rintro _ _ ⟨rfl, d, rfl⟩
    replace Ha := Lib.hid (Ha.out.below (Below.drewN _ d))
    replace Hb := Lib.hid (Hb.out.below (Below.drewN _ d))
    replace Hc := Lib.hid (Hc.out.below (Below.drewN _ d))
    replace Hq := Lib.hid (Hq.out.below (Below.drewN _ d))
    replace Hr := Lib.hid (Hr.out.below (Below.drewN _ d))
    replace Hp := Lib.hid (Hp.out.below (Below.drewN _ d))
    replace Hs := Lib.hid (Hs.out.below (Below.drewN _ d))
    replace BEL := Lib.hid (BEL.out.trans ((Below.drewN _ d).mono BEL.out.size))
    generalize w7.drewN d = w8 at *
    go_wp2_with fail
    clear Hp
    clear Hs
    clear Hq
    clear Hr
    refine (productN Ha.out Hc.out bN.out bK.out bNK.out).mono ?_
    rintro _ w9 ⟨p, rfl, hx, hb⟩
    replace Ha := Lib.hid (Ha.out.below hb)
    replace Hb := Lib.hid (Hb.out.below hb)
    replace Hc := Lib.hid (Hc.out.below hb)
    replace BEL := Lib.hid (BEL.out.trans (hb.mono BEL.out.size))
    have Hp := Lib.hid hx
    clear hx hb
    go_wp2_with fail
    refine (productN Hb.out Hc.out bM.out bK.out bMK.out).mono ?_
    rintro _ w10 ⟨s, rfl, hx, hb⟩
    replace Ha := Lib.hid (Ha.out.below hb)
    replace Hb := Lib.hid (Hb.out.below hb)
    replace Hc := Lib.hid (Hc.out.below hb)
    replace Hp := Lib.hid (Hp.out.below hb)
    replace BEL := Lib.hid (BEL.out.trans (hb.mono BEL.out.size))
    have Hs := Lib.hid hx
    clear hx hb
    go_wp2_with fail
    refine (gcdN Hp.out Hs.out bNK.out bMK.out).mono ?_
    rintro _ w11 ⟨gg, rfl, hx, hb⟩
    replace Ha := Lib.hid (Ha.out.below hb)
    replace Hb := Lib.hid (Hb.out.below hb)
    replace Hc := Lib.hid (Hc.out.below hb)
    replace Hp := Lib.hid (Hp.out.below hb)
    replace Hs := Lib.hid (Hs.out.below hb)
    replace BEL := Lib.hid (BEL.out.trans (hb.mono BEL.out.size))
    have Hg := Lib.hid hx
    clear hx hb
    go_wp2_with fail
    clear Hp
    clear Hs
    replace Hg := Lib.hid (Hg.out.cast (Nat.gcd_mul_right N K M))
    refine (gcdN Ha.out Hb.out bN.out bM.out).mono ?_
    rintro _ w12 ⟨_, rfl, ⟨lh, nh, ch, fh, rfl, hr, hd⟩, hb⟩
    replace Ha := Lib.hid (Ha.out.below hb)
    replace Hb := Lib.hid (Hb.out.below hb)
    replace Hc := Lib.hid (Hc.out.below hb)
    replace Hg := Lib.hid (Hg.out.below hb)
    replace BEL := Lib.hid (BEL.out.trans (hb.mono BEL.out.size))
    have Hh := Lib.hid (show Nr w12 _ _ from ⟨_, _, _, _, rfl, hr, hd⟩)
    have Dh := Lib.hid hd
    clear hr hd hb
    go_wp2_with fail
    refine (lcmN Ha.out Hb.out bN.out bM.out bL.out).mono ?_
    rintro _ w13 ⟨nn, rfl, hx, hb⟩
    replace Ha := Lib.hid (Ha.out.below hb)
    replace Hb := Lib.hid (Hb.out.below hb)
    replace Hc := Lib.hid (Hc.out.below hb)
    replace Hg := Lib.hid (Hg.out.below hb)
    replace Hh := Lib.hid (Hh.out.below hb)
    replace BEL := Lib.hid (BEL.out.trans (hb.mono BEL.out.size))
    have Hn := Lib.hid hx
    clear hx hb
    have hh0 : ((nh : Int) == 0) = false := by rw [beq_eq_false_iff_ne]; have := dig_nil Dh.out; have := G0.out; omega
    go_wp2_with fail
    refine (productN Hh.out Hc.out bG.out bK.out bGK.out).mono ?_
    rintro _ w14 ⟨p, rfl, hx, hb⟩
    replace Ha := Lib.hid (Ha.out.below hb)
    replace Hb := Lib.hid (Hb.out.below hb)
    replace Hc := Lib.hid (Hc.out.below hb)
    replace Hg := Lib.hid (Hg.out.below hb)
    replace Hh := Lib.hid (Hh.out.below hb)
    replace Hn := Lib.hid (Hn.out.below hb)
    replace BEL := Lib.hid (BEL.out.trans (hb.mono BEL.out.size))
    have Hp := Lib.hid hx
    clear hx hb
    go_wp2_with fail
    refine (alikeN Hg.out Hp.out).mono ?_
    rintro _ _ ⟨rfl, d, rfl⟩
    replace Ha := Lib.hid (Ha.out.below (Below.drewN _ d))
    replace Hb := Lib.hid (Hb.out.below (Below.drewN _ d))
    replace Hc := Lib.hid (Hc.out.below (Below.drewN _ d))
    replace Hg := Lib.hid (Hg.out.below (Below.drewN _ d))
    replace Hh := Lib.hid (Hh.out.below (Below.drewN _ d))
    replace Hn := Lib.hid (Hn.out.below (Below.drewN _ d))
    replace Hp := Lib.hid (Hp.out.below (Below.drewN _ d))
    replace BEL := Lib.hid (BEL.out.trans ((Below.drewN _ d).mono BEL.out.size))
    generalize w14.drewN d = w15 at *
    go_wp2_with fail
    clear Hp
    clear Hg
    refine (productN Hh.out Hn.out bG.out bL.out bGL.out).mono ?_
    rintro _ w16 ⟨p, rfl, hx, hb⟩
    replace Ha := Lib.hid (Ha.out.below hb)
    replace Hb := Lib.hid (Hb.out.below hb)
    replace Hc := Lib.hid (Hc.out.below hb)
    replace Hh := Lib.hid (Hh.out.below hb)
    replace Hn := Lib.hid (Hn.out.below hb)
    replace BEL := Lib.hid (BEL.out.trans (hb.mono BEL.out.size))
    have Hp := Lib.hid hx
    clear hx hb
    go_wp2_with fail
    refine (productN Ha.out Hb.out bN.out bM.out bNM.out).mono ?_
    rintro _ w17 ⟨s, rfl, hx, hb⟩
    replace Ha := Lib.hid (Ha.out.below hb)
    replace Hb := Lib.hid (Hb.out.below hb)
    replace Hc := Lib.hid (Hc.out.below hb)
    replace Hh := Lib.hid (Hh.out.below hb)
    replace Hn := Lib.hid (Hn.out.below hb)
    replace Hp := Lib.hid (Hp.out.below hb)
    replace BEL := Lib.hid (BEL.out.trans (hb.mono BEL.out.size))
    have Hs := Lib.hid hx
    clear hx hb
    go_wp2_with fail
    refine (alikeN (Hp.out.cast gcd_lcm) Hs.out).mono ?_
    rintro _ _ ⟨rfl, d, rfl⟩
    replace Ha := Lib.hid (Ha.out.below (Below.drewN _ d))
    replace Hb := Lib.hid (Hb.out.below (Below.drewN _ d))
    replace Hc := Lib.hid (Hc.out.below (Below.drewN _ d))
    replace Hh := Lib.hid (Hh.out.below (Below.drewN _ d))
    replace Hn := Lib.hid (Hn.out.below (Below.drewN _ d))
    replace Hp := Lib.hid (Hp.out.below (Below.drewN _ d))
    replace Hs := Lib.hid (Hs.out.below (Below.drewN _ d))
    replace BEL := Lib.hid (BEL.out.trans ((Below.drewN _ d).mono BEL.out.size))
    generalize w17.drewN d = w18 at *
    go_wp2_with fail
    clear Hp
    clear Hs
    clear Hn
    clear Hc
    refine (divN Ha.out Hh.out bN.out bG.out G0.out).mono ?_
    rintro _ w19 ⟨x, _, rfl, hx, ⟨lr, nr, cr, fr, rfl, hr, hd⟩, hb⟩
    replace Ha := Lib.hid (Ha.out.below hb)
    replace Hb := Lib.hid (Hb.out.below hb)
    replace Hh := Lib.hid (Hh.out.below hb)
    replace BEL := Lib.hid (BEL.out.trans (hb.mono BEL.out.size))
    have Hx := Lib.hid hx
    have Dr := Lib.hid hd
    clear hr hd hx hb
    go_wp2_with fail
    refine (divN Hb.out Hh.out bM.out bG.out G0.out).mono ?_
    rintro _ w20 ⟨y, _, rfl, hx, ⟨lo, no, co, fo, rfl, hr, hd⟩, hb⟩
    replace Ha := Lib.hid (Ha.out.below hb)
    replace Hb := Lib.hid (Hb.out.below hb)
    replace Hh := Lib.hid (Hh.out.below hb)
    replace Hx := Lib.hid (Hx.out.below hb)
    replace BEL := Lib.hid (BEL.out.trans (hb.mono BEL.out.size))
    have Hy := Lib.hid hx
    have Do := Lib.hid hd
    clear hr hd hx hb
    go_wp2_with fail
    refine (gcdN Hx.out Hy.out bNG.out bMG.out).mono ?_
    rintro _ w21 ⟨z, rfl, hx, hb⟩
    replace Ha := Lib.hid (Ha.out.below hb)
    replace Hb := Lib.hid (Hb.out.below hb)
    replace Hh := Lib.hid (Hh.out.below hb)
    replace Hx := Lib.hid (Hx.out.below hb)
    replace Hy := Lib.hid (Hy.out.below hb)
    replace BEL := Lib.hid (BEL.out.trans (hb.mono BEL.out.size))
    have Hz := Lib.hid hx
    clear hx hb
    have hr0 : ((nr : Int) == 0) = true := by rw [beq_iff_eq]; have := (dig_nil Dr.out).2 (Nat.mod_eq_zero_of_dvd (Nat.gcd_dvd_left N M)); omega
    have ho0 : ((no : Int) == 0) = true := by rw [beq_iff_eq]; have := (dig_nil Do.out).2 (Nat.mod_eq_zero_of_dvd (Nat.gcd_dvd_right N M)); omega
    obtain ⟨lz, nz, cz, fz, rfl, hrz, hdz⟩ := Hz.out.cast (gcd_ones N0.out)
    obtain ⟨rfl, hez⟩ := hdz.unique one_dig
    have HZ := Lib.hid (hrz.congr hez)
    clear hrz hdz hez Hz Hx Hy Hh Ha Hb
    go_wp2_with fail
    refine (awake_is1 _ lz cz 1 1 _ HZ.out (Nat.le_refl _) rfl (by omega)).mono ?_
    rintro _ wl ⟨rfl, hb⟩
    replace BEL := Lib.hid (BEL.out.trans (hb.mono BEL.out.size))
    clear hb
    go_wp2_with fail
    refine (awake_any _).mono ?_
    rintro _ _ ⟨rfl, hb⟩
    replace BEL := Lib.hid (BEL.out.trans (hb.mono BEL.out.size))
    clear hb
    go_wp2_with fail
    go_ret
    exact ⟨rfl, BEL.out⟩

theorem natDivides_any (A A' A'' : Option Addr) (n c m c' l c'' : Nat) (f g h : Nat → Nat) (w : World) (hA : Rs w w.heap.size A n c f) (hB : Rs w w.heap.size A' m c' g) (hC : Rs w w.heap.size A'' l c'' h) :
    Calls Try.prog 6 #[.slice A n c, .slice A' m c', .slice A'' l c''] w fun r w' => r = .returned (.bool true) ∧ Below w.heap.size w w' := by
  by_cases h1 : n ≤ 25
  · by_cases h2 : m ≤ 25
    · by_cases h3 : l ≤ 5
      · exact natDivides_main A A' A'' n c m c' l c'' f g h w hA hB hC h1 h2 h3
      · exact natDivides_awake A A' A'' n c m c' l c'' w (.inr (.inr ⟨h1, h2, by omega⟩))
    · exact natDivides_awake A A' A'' n c m c' l c'' w (.inr (.inl ⟨h1, by omega⟩))
  · exact natDivides_awake A A' A'' n c m c' l c'' w (.inl (by omega))

end Go.Proofs.Ytoonhjeiommhcaa

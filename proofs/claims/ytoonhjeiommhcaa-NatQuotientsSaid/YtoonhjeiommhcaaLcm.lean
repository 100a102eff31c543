/- The contracts of Gcd and Lcm, and what Div, Gcd, Lcm and Cmp make of lists that stand for numbers. Conditions as premises: the lists read; the results are short enough. -/
import Derived.Test.YtoonhjeiommhcaaGcd
namespace Go.Proofs.Ytoonhjeiommhcaa
open Go.RowKit Go.Shelf

set_option maxRecDepth 100000 in
set_option maxHeartbeats 1600000 in
theorem natGcd_any (A A' : Option Addr) (n c m c' : Nat) (f g : Nat → Nat) (w : World) (hA : Rs w w.heap.size A n c f) (hB : Rs w w.heap.size A' m c' g) :
    Calls Try.prog 20 #[.slice A n c, .slice A' m c'] w fun e w' => Ans w (chk2 n f m g) (Nat.gcd (nv f n) (nv g m)) e w' := by
  have c1 := checkAll_call A A' n c m c' f g w hA hB
  have hb : Below w.heap.size w (w.alloc (.cells #[.slice A n c, .slice A' m c'] 23)) := (Below.refl _ _).alloc (Nat.le_refl _) _
  have HB := Lib.hid hb
  by_cases h : chk2 n f m g = 0
  · rw [h] at c1
    rw [h]
    obtain ⟨h1, h2⟩ := chk2_zero h
    obtain ⟨hn, vf⟩ := chk_zero h1
    obtain ⟨hm, vg⟩ := chk_zero h2
    have C1 := Lib.hid c1
    have C2 := Lib.hid (common_any A A' n c m c' f g (w.alloc (.cells #[.slice A n c, .slice A' m c'] 23)) ((hA.below hb).more hb.size) ((hB.below hb).more hb.size) vf vg hn hm)
    clear c1 h h1 h2 vf vg hn hm hA hB hb
    go_enter Try.func20, Try.ntmps20
    go_wp2_with fail
    refine C1.out.mono ?_
    rintro e w' ⟨rfl, rfl⟩
    go_wp2_with fail
    refine C2.out.mono ?_
    rintro e w' ⟨u, rfl, hm⟩
    have HM2 := Lib.hid hm
    clear hm
    go_wp2_with fail
    go_ret2
    exact ⟨u, rfl, by rw [zr_ok]; exact HM2.out.after HB.out⟩
  · have h1 : (chk2 n f m g != 0) = true := by rw [bne_iff_ne]; exact h
    have h2 : (chk2 n f m g == 0) = false := by rw [beq_eq_false_iff_ne]; exact h
    have H := Lib.hid h
    have C1 := Lib.hid c1
    clear c1 h hA hB hb
    generalize chk2 n f m g = er at *
    go_enter Try.func20, Try.ntmps20
    go_wp2_with fail
    refine C1.out.mono ?_
    rintro e w' ⟨rfl, rfl⟩
    go_wp2_with fail
    go_ret2
    exact Ans.bad H.out HB.out

/-- the number and the error of a least common multiple -/
def lcmV (N M : Nat) : Nat := N / Nat.gcd N M * M
noncomputable def lcmE (n : Nat) (f : Nat → Nat) (m : Nat) (g : Nat → Nat) : Int := if chk2 n f m g = 0 then fitE (lcmV (nv f n) (nv g m)) else chk2 n f m g

set_option maxRecDepth 100000 in
set_option maxHeartbeats 1600000 in
theorem natLcm_any (A A' : Option Addr) (n c m c' : Nat) (f g : Nat → Nat) (w : World) (hA : Rs w w.heap.size A n c f) (hB : Rs w w.heap.size A' m c' g) :
    Calls Try.prog 22 #[.slice A n c, .slice A' m c'] w fun e w' => Ans w (lcmE n f m g) (lcmV (nv f n) (nv g m)) e w' := by
  have c1 := checkAll_call A A' n c m c' f g w hA hB
  have hb : Below w.heap.size w (w.alloc (.cells #[.slice A n c, .slice A' m c'] 23)) := (Below.refl _ _).alloc (Nat.le_refl _) _
  have HB := Lib.hid hb
  by_cases h : chk2 n f m g = 0
  · rw [h] at c1
    rw [show lcmE n f m g = fitE (lcmV (nv f n) (nv g m)) by unfold lcmE; rw [if_pos h]]
    obtain ⟨h1, h2⟩ := chk2_zero h
    obtain ⟨hn, vf⟩ := chk_zero h1
    obtain ⟨hm, vg⟩ := chk_zero h2
    have C1 := Lib.hid c1
    by_cases h0 : n = 0 ∨ m = 0
    · have hz : lcmV (nv f n) (nv g m) = 0 := by
        unfold lcmV
        rcases h0 with e | e
        · subst e; simp [nv]
        · subst e; simp [nv]
      rw [hz, fitE_ok (Nat.pow_pos LB_pos)]
      have hcond : ((n : Int) == 0) = true ∨ (((n : Int) == 0) = false ∧ ((m : Int) == 0) = true) := by
        by_cases e : n = 0
        · left; rw [beq_iff_eq]; omega
        · right; exact ⟨by rw [beq_eq_false_iff_ne]; omega, by rw [beq_iff_eq]; omega⟩
      clear c1 h h1 h2 vf vg hn hm hA hB hb h0 hz
      rcases hcond with hc1 | ⟨hc1, hc2⟩
      all_goals
        go_enter Try.func22, Try.ntmps22
        go_wp2_with fail
        refine C1.out.mono ?_
        rintro e w' ⟨rfl, rfl⟩
        go_wp2_with fail
        go_ret2
        exact ⟨_, rfl, by rw [zr_ok]; exact Made.nil HB.out⟩
    · have hc1 : ((n : Int) == 0) = false := by rw [beq_eq_false_iff_ne]; omega
      have hc2 : ((m : Int) == 0) = false := by rw [beq_eq_false_iff_ne]; omega
      have C2 := Lib.hid (common_any A A' n c m c' f g (w.alloc (.cells #[.slice A n c, .slice A' m c'] 23)) ((hA.below hb).more hb.size) ((hB.below hb).more hb.size) vf vg hn hm)
      have hA1 := (hA.below hb).more hb.size
      have hB1 := (hB.below hb).more hb.size
      have hgp : 0 < Nat.gcd (nv f n) (nv g m) := Nat.gcd_pos_of_pos_left _ (vf.pos (by omega))
      have VF := Lib.hid vf
      have VG := Lib.hid vg
      have HGP := Lib.hid hgp
      clear c1 h h1 h2 vf vg hA hB hb h0 hgp
      go_enter Try.func22, Try.ntmps22
      go_wp2_with fail
      refine C1.out.mono ?_
      rintro e w' ⟨rfl, rfl⟩
      go_wp2_with fail
      generalize w.alloc (.cells #[.slice A n c, .slice A' m c'] 23) = w1 at *
      refine C2.out.mono ?_
      rintro e w2 ⟨_, rfl, lG, ng, cG, xG, rfl, hrG, hdG, hbG⟩
      have HD := Lib.hid (divide_any A lG n c ng cG f xG w2 ((hA1.below hbG).more hbG.size) hrG VF.out hdG.ok hn (by
        rcases Nat.eq_zero_or_pos ng with e | e
        · exact absurd (show Nat.gcd (nv f n) (nv g m) = 0 by rw [← hdG.eq, e]; rfl) (by have := HGP.out; omega)
        · exact e))
      have HDE := Lib.hid hdG.eq
      have hB2 := (hB1.below hbG).more hbG.size
      clear hrG hdG hA1 hB1 C2
      go_wp2_with fail
      refine HD.out.mono ?_
      rintro e w3 ⟨v, u, rfl, hm2⟩
      have hq := hm2.fst
      rw [HDE.out] at hq
      obtain ⟨lQ, nq, cQ, xQ, rfl, hrQ, hdQ, hbQ⟩ := hq
      have hnq : nq ≤ 1024 := by
        have h3 : nv f n / Nat.gcd (nv f n) (nv g m) ≤ nv f n := Nat.div_le_self _ _
        rcases Nat.lt_or_ge n nq with h | h
        · have := VF.out.lt_of_len hdQ.ok h; rw [hdQ.eq] at this; omega
        · omega
      have HMU := multiply_any lQ A' nq cQ m c' xQ g w3 hrQ ((hB2.below hbQ).more hbQ.size) hdQ.ok VG.out hnq hm
      rw [hdQ.eq] at HMU
      have HMUL := Lib.hid HMU
      have HBL := Lib.hid (HB.out.trans ((hbG.trans (hbQ.mono hbG.size)).mono HB.out.size))
      clear hm2 hrQ hdQ hbQ hB2 HMU HD
      go_wp2_with fail
      refine HMUL.out.mono ?_
      rintro e w4 ⟨v, rfl, hm4⟩
      have HM4 := Lib.hid hm4
      clear hm4 HMUL
      generalize hge : fitE (nv f n / Nat.gcd (nv f n) (nv g m) * nv g m) = er at *
      have HGE := Lib.hid hge
      clear hge
      go_wp2_with fail
      go_ret2
      exact ⟨v, by unfold lcmV; rw [HGE.out]; rfl, by unfold lcmV; rw [HGE.out]; exact HM4.out.after HBL.out⟩
  · rw [show lcmE n f m g = chk2 n f m g by unfold lcmE; rw [if_neg h]]
    have h1 : (chk2 n f m g != 0) = true := by rw [bne_iff_ne]; exact h
    have h2 : (chk2 n f m g == 0) = false := by rw [beq_eq_false_iff_ne]; exact h
    have H := Lib.hid h
    have C1 := Lib.hid c1
    clear c1 h hA hB hb
    generalize chk2 n f m g = er at *
    go_enter Try.func22, Try.ntmps22
    go_wp2_with fail
    refine C1.out.mono ?_
    rintro e w' ⟨rfl, rfl⟩
    go_wp2_with fail
    go_ret2
    exact Ans.bad H.out HB.out

theorem gcdN {w : World} {N M : Nat} {v u : Value} (h : Nr w N v) (k : Nr w M u) (hN : N < LB ^ NL) (hM : M < LB ^ NL) :
    Calls Try.prog 20 #[v, u] w fun e w' => ∃ x, e = .returned (.tuple #[x, .int .i64 0]) ∧ Nr w' (Nat.gcd N M) x ∧ Below w.heap.size w w' := by
  obtain ⟨A, n, c, f, rfl, hr, hd⟩ := h
  obtain ⟨A', n', c', f', rfl, hr', hd'⟩ := k
  refine (natGcd_any A A' n c n' c' f f' w hr hr').mono ?_
  rintro e w' ⟨x, he, hm⟩
  have h2 : chk2 n f n' f' = 0 := by unfold chk2; rw [if_pos (Nr.chk hd hN)]; exact Nr.chk hd' hM
  rw [h2, zr_ok, hd.eq, hd'.eq] at hm
  rw [h2] at he
  exact ⟨x, he, hm.nr⟩

theorem lcmN {w : World} {N M : Nat} {v u : Value} (h : Nr w N v) (k : Nr w M u) (hN : N < LB ^ NL) (hM : M < LB ^ NL) (hs : lcmV N M < LB ^ NL) :
    Calls Try.prog 22 #[v, u] w fun e w' => ∃ x, e = .returned (.tuple #[x, .int .i64 0]) ∧ Nr w' (lcmV N M) x ∧ Below w.heap.size w w' := by
  obtain ⟨A, n, c, f, rfl, hr, hd⟩ := h
  obtain ⟨A', n', c', f', rfl, hr', hd'⟩ := k
  refine (natLcm_any A A' n c n' c' f f' w hr hr').mono ?_
  rintro e w' ⟨x, he, hm⟩
  have h2 : chk2 n f n' f' = 0 := by unfold chk2; rw [if_pos (Nr.chk hd hN)]; exact Nr.chk hd' hM
  have h3 : lcmE n f n' f' = 0 := by unfold lcmE; rw [if_pos h2, hd.eq, hd'.eq]; exact fitE_ok hs
  rw [h3, zr_ok, hd.eq, hd'.eq] at hm
  rw [h3] at he
  exact ⟨x, he, hm.nr⟩

theorem divN {w : World} {N M : Nat} {v u : Value} (h : Nr w N v) (k : Nr w M u) (hN : N < LB ^ NL) (hM : M < LB ^ NL) (hM0 : 0 < M) :
    Calls Try.prog 18 #[v, u] w fun e w' => ∃ x y, e = .returned (.tuple #[x, y, .int .i64 0]) ∧ Nr w' (N / M) x ∧ Nr w' (N % M) y ∧ Below w.heap.size w w' := by
  obtain ⟨A, n, c, f, rfl, hr, hd⟩ := h
  obtain ⟨A', n', c', f', rfl, hr', hd'⟩ := k
  refine (natDiv_all A A' n c n' c' f f' w hr hr').mono ?_
  rintro e w' ⟨x, y, he, hm⟩
  have h2 : chk2 n f n' f' = 0 := by unfold chk2; rw [if_pos (Nr.chk hd hN)]; exact Nr.chk hd' hM
  have hn0 : n' ≠ 0 := by rintro rfl; have := hd'.eq; simp [nv] at this; omega
  have h3 : divE n f n' f' = 0 := by unfold divE; rw [if_pos h2, if_neg hn0]
  rw [h3, zr_ok, zr_ok, hd.eq, hd'.eq] at hm
  rw [h3] at he
  exact ⟨x, y, he, hm.fst.nr.1, hm.snd.nr⟩

end Go.Proofs.Ytoonhjeiommhcaa

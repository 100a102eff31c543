/- The contracts of the reference's Common, Div, Gcd and Lcm. Conditions as premises: the lists read. -/
import Derived.Test.YtoonhjeiommhcaaOverWalk
import Derived.Test.YtoonhjeiommhcaaLcm
namespace Go.Proofs.Ytoonhjeiommhcaa
open Go.RowKit Go.Shelf

theorem refOver_any (A A' : Option Addr) (n c m c' : Nat) (f g : Nat → Nat) (w : World) (hA : Rs w w.heap.size A n c f) (hB : Rs w w.heap.size A' m c' g) (vf : Val n f) (vg : Val m g) (hn : n ≤ 1024) (hm0 : 0 < m) :
    Calls Try.prog 48 #[.slice A n c, .slice A' m c'] w fun e w' => ∃ v u, e = .returned (.tuple #[v, u]) ∧ Made2 w (nv f n / nv g m) (nv f n % nv g m) v u w' := by
  rcases Nat.lt_or_ge (nv f n) (nv g m) with hlt | hle
  · exact refOver_less A A' n c m c' f g w hA hB vf vg hlt
  · exact refOver_main A A' n c m c' f g w hA hB vf vg hn hm0 hle

set_option maxRecDepth 100000 in
set_option maxHeartbeats 1600000 in
theorem refCommon_any (A A' : Option Addr) (n c m c' : Nat) (f g : Nat → Nat) (w : World) (hA : Rs w w.heap.size A n c f) (hB : Rs w w.heap.size A' m c' g) (vf : Val n f) (vg : Val m g) (hn : n ≤ 1024) (hm : m ≤ 1024) :
    Calls Try.prog 50 #[.slice A n c, .slice A' m c'] w fun e w' => ∃ v, e = .returned v ∧ Made w (Nat.gcd (nv f n) (nv g m)) v w' := by
  have hF : nv f n < LB ^ NL := Nat.lt_of_lt_of_le vf.lt (pow_le_of (by rw [NL_eq]; exact hn))
  have hG : nv g m < LB ^ NL := Nat.lt_of_lt_of_le vg.lt (pow_le_of (by rw [NL_eq]; exact hm))
  have hnf : Nr w (nv f n) (.slice A n c) := ⟨_, _, _, _, rfl, hA, ⟨vf, rfl⟩⟩
  have hng : Nr w (nv g m) (.slice A' m c') := ⟨_, _, _, _, rfl, hB, ⟨vg, rfl⟩⟩
  obtain ⟨K0, hK0⟩ : ∃ K0, K0 = nv g m := ⟨_, rfl⟩
  rw [← hK0] at hng hG
  have hst : Hid (nv f n < LB ^ NL ∧ K0 < LB ^ NL ∧ Nat.gcd (nv f n) K0 = Nat.gcd (nv f n) (nv g m)) := Lib.hid ⟨hF, hG, by rw [hK0]⟩
  clear hF hG vf vg hA hB hK0
  generalize Nat.gcd (nv f n) (nv g m) = G at *
  go_enter Try.func50, Try.ntmps50
  go_wp2_with fail
  go_loopg [0, 1, 5, 6] K0 (fun k a b _ _ wr => ∃ N, Nr wr N a ∧ Nr wr k b ∧ Hid (N < LB ^ NL ∧ k < LB ^ NL ∧ Nat.gcd N k = G) ∧ Below w.heap.size w wr)
  case atStart => exact ⟨_, hnf, hng, hst, Below.refl _ _⟩
  case round =>
    clear hst hnf hng
    obtain ⟨N, ha, hb, hgl, hbl⟩ := hrel
    obtain ⟨lA, na, cA, xA, rfl, hrA, vA, eA, hnA⟩ := nr_slice ha hgl.out.1
    obtain ⟨lB, nb, cB, xB, rfl, hrB, vB, eB, hnB⟩ := nr_slice hb hgl.out.2.1
    have EA := Lib.hid eA
    have EB := Lib.hid eB
    clear eA eB
    by_cases h0 : 0 < nb
    · have h0' : (0 : Int) < (nb : Int) := by omega
      have HO := Lib.hid (refOver_any lA lB na cA nb cB xA xB wr hrA hrB vA vB hnA h0)
      have hpos : 0 < gk := by rw [← EB.out]; exact vB.pos h0
      have VB := Lib.hid vB
      clear vA vB
      go_wp2_with fail
      refine HO.out.mono ?_
      rintro _ w4 ⟨v, u, rfl, hm2⟩
      have hm := hm2.snd
      rw [EA.out, EB.out] at hm
      have hnr := Made.nr hm
      have hbn : Nr w4 gk (.slice lB nb cB) := ⟨_, _, _, _, rfl, (hrB.below hnr.2).more hnr.2.size, ⟨VB.out, EB.out⟩⟩
      have hbl4 := hbl.trans (hnr.2.mono hbl.size)
      have hlt : N % gk < gk := Nat.mod_lt _ hpos
      have hg2 : Hid (gk < LB ^ NL ∧ N % gk < LB ^ NL ∧ Nat.gcd gk (N % gk) = G) := Lib.hid ⟨hgl.out.2.1, Nat.lt_trans hlt hgl.out.2.1, by rw [Nat.gcd_comm gk, ← Nat.gcd_rec, Nat.gcd_comm]; exact hgl.out.2.2⟩
      have HN := Lib.hid hnr.1
      have HLT := Lib.hid hlt
      clear hm2 hm hnr HO hlt hpos
      go_wp2_with fail
      go_roundg (N % gk)
      case measure => exact HLT.out
      case rel => exact ⟨gk, hbn, HN.out, hg2, hbl4⟩
    · obtain rfl : nb = 0 := by omega
      have hgN : N = G := by
        have h1 := hgl.out.2.2
        rw [← EB.out] at h1
        rw [← h1]
        exact (Nat.gcd_zero_right N).symm
      have HM : Hid (Made w G (.slice lA na cA) wr) := Lib.hid (made_rs hrA ⟨vA, by rw [EA.out]; exact hgN⟩ hbl)
      clear hgN hgl vA vB
      go_wp2_with fail
      go_ret
      exact ⟨_, rfl, HM.out⟩

set_option maxRecDepth 100000 in
set_option maxHeartbeats 1600000 in
theorem refDiv_all (A A' : Option Addr) (n c m c' : Nat) (f g : Nat → Nat) (w : World) (hA : Rs w w.heap.size A n c f) (hB : Rs w w.heap.size A' m c' g) :
    Calls Try.prog 19 #[.slice A n c, .slice A' m c'] w fun e w' => Ans2 w (divE n f m g) (nv f n / nv g m) (nv f n % nv g m) e w' := by
  have c1 := both_any A A' n c m c' f g _ _ w hA hB
  by_cases h : chk2 n f m g = 0
  · obtain ⟨h1, h2⟩ := chk2_zero h
    obtain ⟨hn, vf⟩ := chk_zero h1
    obtain ⟨hm, vg⟩ := chk_zero h2
    have he : divE n f m g = if m = 0 then 6 else 0 := by unfold divE; rw [if_pos h]
    rw [h] at c1
    have C1 := Lib.hid c1
    by_cases hm0 : m = 0
    · rw [he, if_pos hm0]
      subst hm0
      clear c1 h h1 h2 vf vg hn hm hA hB he
      go_enter Try.func19, Try.ntmps19
      go_wp2_with fail
      refine C1.out.mono ?_
      rintro e w' ⟨rfl, rfl⟩
      go_wp2_with fail
      go_ret3
      exact Ans2.bad (by decide) (Below.refl _ _)
    · rw [he, if_neg hm0]
      have hlt : nv f n % nv g m < LB ^ NL := Nat.lt_of_lt_of_le (Nat.mod_lt _ (vg.pos (by omega))) (Nat.le_of_lt (Nat.lt_of_lt_of_le vg.lt (pow_le_of (by rw [NL_eq]; exact hm))))
      have C2 := Lib.hid (refOver_any A A' n c m c' f g w hA hB vf vg hn (by omega))
      have HLT := Lib.hid hlt
      have hmb : ((m : Int) == 0) = false := by rw [beq_eq_false_iff_ne]; omega
      clear c1 h h1 h2 vf vg hn hm hA hB he hm0 hlt
      go_enter Try.func19, Try.ntmps19
      go_wp2_with fail
      refine C1.out.mono ?_
      rintro e w' ⟨rfl, rfl⟩
      go_wp2_with fail
      refine C2.out.mono ?_
      rintro e w2 ⟨_, _, rfl, lQ, nQ, cQ, fQ, lR, nR, cR, fR, rfl, hrQ, hdQ, rfl, hrR, hdR, hb⟩
      have hnR : nR ≤ 1024 := hdR.len_NL HLT.out
      have HDQ := Lib.hid hdQ
      have HDR := Lib.hid hdR
      clear hdQ hdR
      go_wp2_with (at_builtin; refine app_all rfl (.tmp 24) (.tmp 25) rfl hrR (Nat.le_refl _) (by omega) rfl rfl ?_; intro A5 c5 w5 hr5 hb5)
      go_ret3
      exact ⟨_, _, rfl, by rw [zr_ok, zr_ok]; exact ⟨lQ, nQ, cQ, fQ, A5, nR, c5, fR, rfl, (hrQ.below hb5).more hb5.size, HDQ.out, rfl, hr5, HDR.out, hb.trans (hb5.mono hb.size)⟩⟩
  · rw [show divE n f m g = chk2 n f m g by unfold divE; rw [if_neg h]]
    have h1 : (chk2 n f m g != 0) = true := by rw [bne_iff_ne]; exact h
    have h2 : (chk2 n f m g == 0) = false := by rw [beq_eq_false_iff_ne]; exact h
    have H := Lib.hid h
    have C1 := Lib.hid c1
    clear c1 h hA hB
    generalize chk2 n f m g = er at *
    go_enter Try.func19, Try.ntmps19
    go_wp2_with fail
    refine C1.out.mono ?_
    rintro e w' ⟨rfl, rfl⟩
    go_wp2_with fail
    go_ret3
    exact Ans2.bad H.out (Below.refl _ _)

/-- a common divisor is short enough -/
theorem gcd_short {N M : Nat} (hN : N < LB ^ NL) (hM : M < LB ^ NL) : Nat.gcd N M < LB ^ NL := by
  rcases Nat.eq_zero_or_pos N with e | e
  · subst e; rw [Nat.gcd_zero_left]; exact hM
  · exact Nat.lt_of_le_of_lt (Nat.gcd_le_left _ e) hN

set_option maxRecDepth 100000 in
set_option maxHeartbeats 1600000 in
theorem refGcd_any (A A' : Option Addr) (n c m c' : Nat) (f g : Nat → Nat) (w : World) (hA : Rs w w.heap.size A n c f) (hB : Rs w w.heap.size A' m c' g) :
    Calls Try.prog 21 #[.slice A n c, .slice A' m c'] w fun e w' => Ans w (chk2 n f m g) (Nat.gcd (nv f n) (nv g m)) e w' := by
  have c1 := both_any A A' n c m c' f g _ _ w hA hB
  by_cases h : chk2 n f m g = 0
  · rw [h] at c1
    rw [h]
    obtain ⟨h1, h2⟩ := chk2_zero h
    obtain ⟨hn, vf⟩ := chk_zero h1
    obtain ⟨hm, vg⟩ := chk_zero h2
    have hF : nv f n < LB ^ NL := Nat.lt_of_lt_of_le vf.lt (pow_le_of (by rw [NL_eq]; exact hn))
    have hG : nv g m < LB ^ NL := Nat.lt_of_lt_of_le vg.lt (pow_le_of (by rw [NL_eq]; exact hm))
    have HE := Lib.hid (fitE_ok (gcd_short hF hG))
    have C1 := Lib.hid c1
    have C2 := Lib.hid (refCommon_any A A' n c m c' f g w hA hB vf vg hn hm)
    clear c1 h h1 h2 vf vg hn hm hA hB hF hG
    go_enter Try.func21, Try.ntmps21
    go_wp2_with fail
    refine C1.out.mono ?_
    rintro e w' ⟨rfl, rfl⟩
    go_wp2_with fail
    refine C2.out.mono ?_
    rintro e w' ⟨v, rfl, hm⟩
    have HF := refFits_any hm
    rw [HE.out] at HF
    have HFI := Lib.hid HF
    clear hm HF
    go_wp2_with fail
    refine HFI.out.mono ?_
    rintro e w2 ⟨u, rfl, hm⟩
    have HM2 := Lib.hid hm
    clear hm
    go_wp2_with fail
    go_ret2
    exact ⟨u, rfl, HM2.out⟩
  · have h1 : (chk2 n f m g != 0) = true := by rw [bne_iff_ne]; exact h
    have h2 : (chk2 n f m g == 0) = false := by rw [beq_eq_false_iff_ne]; exact h
    have H := Lib.hid h
    have C1 := Lib.hid c1
    clear c1 h hA hB
    generalize chk2 n f m g = er at *
    go_enter Try.func21, Try.ntmps21
    go_wp2_with fail
    refine C1.out.mono ?_
    rintro e w' ⟨rfl, rfl⟩
    go_wp2_with fail
    go_ret2
    exact Ans.bad H.out (Below.refl _ _)

set_option maxRecDepth 100000 in
set_option maxHeartbeats 1600000 in
theorem refLcm_any (A A' : Option Addr) (n c m c' : Nat) (f g : Nat → Nat) (w : World) (hA : Rs w w.heap.size A n c f) (hB : Rs w w.heap.size A' m c' g) :
    Calls Try.prog 23 #[.slice A n c, .slice A' m c'] w fun e w' => Ans w (lcmE n f m g) (lcmV (nv f n) (nv g m)) e w' := by
  have c1 := both_any A A' n c m c' f g _ _ w hA hB
  by_cases h : chk2 n f m g = 0
  · rw [h] at c1
    rw [show lcmE n f m g = fitE (lcmV (nv f n) (nv g m)) by unfold lcmE; rw [if_pos h]]
    obtain ⟨h1, h2⟩ := chk2_zero h
    obtain ⟨hn, vf⟩ := chk_zero h1
    obtain ⟨hm, vg⟩ := chk_zero h2
    have C1 := Lib.hid c1
    by_cases h0 : n = 0 ∨ m = 0
    · have hz : lcmV (nv f n) (nv g m) = 0 := by
        unfold lcmV
        rcases h0 with e | e
        · subst e; simp [nv]
        · subst e; simp [nv]
      rw [hz, fitE_ok (Nat.pow_pos LB_pos)]
      have hcond : ((n : Int) == 0) = true ∨ (((n : Int) == 0) = false ∧ ((m : Int) == 0) = true) := by
        by_cases e : n = 0
        · left; rw [beq_iff_eq]; omega
        · right; exact ⟨by rw [beq_eq_false_iff_ne]; omega, by rw [beq_iff_eq]; omega⟩
      clear c1 h h1 h2 vf vg hn hm hA hB h0 hz
      rcases hcond with hc1 | ⟨hc1, hc2⟩
      all_goals
        go_enter Try.func23, Try.ntmps23
        go_wp2_with fail
        refine C1.out.mono ?_
        rintro e w' ⟨rfl, rfl⟩
        go_wp2_with fail
        go_ret2
        exact ⟨_, rfl, by rw [zr_ok]; exact Made.nil (Below.refl _ _)⟩
    · have hc1 : ((n : Int) == 0) = false := by rw [beq_eq_false_iff_ne]; omega
      have hc2 : ((m : Int) == 0) = false := by rw [beq_eq_false_iff_ne]; omega
      have C2 := Lib.hid (refCommon_any A A' n c m c' f g w hA hB vf vg hn hm)
      have hgp : 0 < Nat.gcd (nv f n) (nv g m) := Nat.gcd_pos_of_pos_left _ (vf.pos (by omega))
      have VF := Lib.hid vf
      have VG := Lib.hid vg
      have HGP := Lib.hid hgp
      clear c1 h h1 h2 vf vg h0 hgp
      go_enter Try.func23, Try.ntmps23
      go_wp2_with fail
      refine C1.out.mono ?_
      rintro e w' ⟨rfl, rfl⟩
      go_wp2_with fail
      refine C2.out.mono ?_
      rintro e w2 ⟨_, rfl, lG, ng, cG, xG, rfl, hrG, hdG, hbG⟩
      have HD := Lib.hid (refOver_any A lG n c ng cG f xG w2 ((hA.below hbG).more hbG.size) hrG VF.out hdG.ok hn (by
        rcases Nat.eq_zero_or_pos ng with e | e
        · exact absurd (show Nat.gcd (nv f n) (nv g m) = 0 by rw [← hdG.eq, e]; rfl) (by have := HGP.out; omega)
        · exact e))
      have HDE := Lib.hid hdG.eq
      have hB2 := (hB.below hbG).more hbG.size
      clear hrG hdG hA hB C2
      go_wp2_with fail
      refine HD.out.mono ?_
      rintro e w3 ⟨v, u, rfl, hm2⟩
      have hq := hm2.fst
      rw [HDE.out] at hq
      obtain ⟨lQ, nq, cQ, xQ, rfl, hrQ, hdQ, hbQ⟩ := hq
      have hnq : nq ≤ 1024 := by
        have h3 : nv f n / Nat.gcd (nv f n) (nv g m) ≤ nv f n := Nat.div_le_self _ _
        rcases Nat.lt_or_ge n nq with h | h
        · have := VF.out.lt_of_len hdQ.ok h; rw [hdQ.eq] at this; omega
        · omega
      have HMU := refTimes_any lQ A' nq cQ m c' xQ g w3 hrQ ((hB2.below hbQ).more hbQ.size) hdQ.ok.1 VG.out.1 (by omega) (by omega)
      rw [hdQ.eq] at HMU
      have HMUL := Lib.hid HMU
      have HBL := Lib.hid (hbG.trans (hbQ.mono hbG.size))
      clear hm2 hrQ hdQ hbQ hB2 HMU HD
      go_wp2_with fail
      refine HMUL.out.mono ?_
      rintro e w4 ⟨v, rfl, hm4⟩
      have HM4 := Lib.hid hm4
      clear hm4 HMUL
      go_wp2_with fail
      refine (refFits_any HM4.out).mono ?_
      rintro e w5 ⟨v, rfl, hm5⟩
      have HM5 := Lib.hid hm5
      clear hm5
      generalize hge : fitE (nv f n / Nat.gcd (nv f n) (nv g m) * nv g m) = er at *
      have HGE := Lib.hid hge
      clear hge
      go_wp2_with fail
      go_ret2
      exact ⟨v, by unfold lcmV; rw [HGE.out]; rfl, by unfold lcmV; rw [HGE.out]; exact HM5.out.after HBL.out⟩
  · rw [show lcmE n f m g = chk2 n f m g by unfold lcmE; rw [if_neg h]]
    have h1 : (chk2 n f m g != 0) = true := by rw [bne_iff_ne]; exact h
    have h2 : (chk2 n f m g == 0) = false := by rw [beq_eq_false_iff_ne]; exact h
    have H := Lib.hid h
    have C1 := Lib.hid c1
    clear c1 h hA hB
    generalize chk2 n f m g = er at *
    go_enter Try.func23, Try.ntmps23
    go_wp2_with fail
    refine C1.out.mono ?_
    rintro e w' ⟨rfl, rfl⟩
    go_wp2_with fail
    go_ret2
    exact Ans.bad H.out (Below.refl _ _)

end Go.Proofs.Ytoonhjeiommhcaa

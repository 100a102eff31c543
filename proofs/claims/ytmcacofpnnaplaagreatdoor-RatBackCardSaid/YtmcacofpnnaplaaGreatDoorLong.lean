/- The contract of divideLong. Conditions as premises: the lists read and are valid, the divisor has two limbs or more and is not longer. -/
import Derived.Test.YtmcacofpnnaplaaGreatDoorDivLong
import Derived.Test.YtmcacofpnnaplaaGreatDoorAwake
namespace Go.Proofs.YtmcacofpnnaplaaGreatDoor
open Go.RowKit Go.Shelf

theorem made_bel {w w' : World} {N : Nat} {v : Value} (h : Made w N v w') : Below w.heap.size w w' := by
  obtain ⟨A, n, c, f, e, hr, hd, hb⟩ := h
  exact hb

set_option maxRecDepth 100000 in
set_option maxHeartbeats 800000 in
theorem divideLong_any (A A' : Option Addr) (n c s c' : Nat) (f g : Nat → Nat) (w : World) (hA : Rs w w.heap.size A n c f) (hB : Rs w w.heap.size A' s c' g) (hf : ∀ j, j < n → f j < LB) (hg : ∀ j, j < s → g j < LB) (hs2 : 2 ≤ s) (hsn : s ≤ n) (hn : n ≤ 2000) (ht : g (s - 1) ≠ 0) :
    Calls Tryz.prog 184 #[.slice A n c, .slice A' s c'] w fun e w' => ∃ v u, e = .returned (.tuple #[v, u]) ∧ Made2 w (nv f n / nv g s) (nv f n % nv g s) v u w' := by
  obtain ⟨J, hJ⟩ : ∃ J, J = n - s + 1 := ⟨_, rfl⟩
  have hmk := run_make_row' (P := Tryz.prog) 23 48 (.int .u32 0) 4 Tryz.underlying23 info32 rfl .i64 .i64 J (by omega) (by omega)
  rw [show ((J : Nat) : Int) = (n : Int) - (s : Int) + 1 by omega] at hmk
  obtain ⟨b2, off2, rfl, hb2, hc2⟩ := hB.cell (by omega)
  have htop := hc2 (s - 1) (by omega)
  rw [show ((off2 + (s - 1) : Nat)) = off2 + (s - 1) from rfl] at htop
  obtain ⟨F, hF⟩ : ∃ F, F = LB / (g (s - 1) + 1) := ⟨_, rfl⟩
  have htB := hg (s - 1) (by omega)
  obtain ⟨hn1, hn2, hn3, hn4⟩ := scale_norm (t := g (s - 1)) (by omega) htB hF
  have hfi : 1000000000 / (iv (g (s - 1)) + 1) = iv F := by rw [hF]; simp only [iv_eq]; rw [LB_eq, Int.natCast_ediv, Int.natCast_add]; rfl
  have hg0 := iv_nonneg (g (s - 1))
  have hg1 := iv_limb htB
  have hs1 := scaled_any A n c F (n + 1) f w hA hf hn4 (by omega)
  rw [show ((n + 1 : Nat) : Int) = (n : Int) + 1 by omega] at hs1
  have HS1 := Lib.hid hs1
  have HS2 := Lib.hid fun w1 (h : Rs w1 w1.heap.size (some ⟨b2, off2, none⟩) s c' g) => scaled_any _ s c' F s g w1 h hg hn4 (by omega)
  clear hs1
  have HF := Lib.hid hf
  have HG := Lib.hid hg
  have HFI := Lib.hid hfi
  have HFD := Lib.hid hF
  have HFL := Lib.hid hn4
  have HJ := Lib.hid hJ
  have hJ1 : J ≤ 2000 := by omega
  have hJ2 : 1 ≤ J := by omega
  clear hF hJ hc2 hf hg hn1 hn2 hn3 hn4 hfi htB
  go_enter Tryz.func184, Tryz.ntmps184
  go_wp2_with fail
  rw [HFI.out]
  refine HS1.out.mono ?_
  rintro _ w1 ⟨rfl, hbl1, x, C, hrx, hxl, hxe⟩
  have hsz1 : w.heap.size < w1.heap.size := hrx.lt
  have HXL := Lib.hid hxl
  have HXE := Lib.hid hxe
  clear hxl hxe
  go_wp2_with fail
  refine (HS2.out w1 ((hB.below hbl1).more hbl1.size)).mono ?_
  rintro _ w2 ⟨rfl, hbl2, v, C', hrv, hvl, hve⟩
  have hsz2 : w1.heap.size < w2.heap.size := hrv.lt
  have hrx2 := hrx.keep (hbl2.block _ hsz1)
  have HVL := Lib.hid hvl
  have HVE := Lib.hid hve
  clear hvl hve hrx
  go_wp2_with fail
  have hrq2 := Row.made w2 J
  have hbl3 : Below w.heap.size w (w2.alloc (.cells (madeCells #[.int .u32 0] J) 48)) := (hbl1.trans (hbl2.mono hbl1.size)).alloc (by omega) _
  have hs12 : w.heap.size < w2.heap.size := by omega
  have hrx3 : Row (w2.alloc (.cells (madeCells #[.int .u32 0] J) 48)) w.heap.size (n + 1) x := hrx2.keep (Below.heap_alloc _ _ _ (by omega))
  have hrv3 : Row (w2.alloc (.cells (madeCells #[.int .u32 0] J) 48)) w1.heap.size s v := hrv.keep (Below.heap_alloc _ _ _ (by omega))
  have LG := Lib.hid (Long.mk' (J := J) HF.out HG.out (by omega) (by have := HJ.out; omega) ht HFD.out HXE.out HVE.out HVL.out)
  have LS := Lib.hid (LG.out.start HXL.out)
  generalize hR : w.heap.size = R at *
  generalize hD : w1.heap.size = D at *
  generalize hQ : w2.heap.size = Q at *
  have HR := Lib.hid hR
  have HDR : Hid (D ≠ R) := Lib.hid (by omega)
  have HQR : Hid (Q ≠ R) := Lib.hid (by omega)
  have HQD : Hid (Q ≠ D) := Lib.hid (by omega)
  have HRQ : Hid (R ≤ Q) := Lib.hid (by omega)
  clear hmk HS1 HS2 hrx2 hrv hbl1 hbl2 HXE HVE HXL hR hD hQ ht htop hA hB hg0 hg1 HFI
  generalize w2.alloc (.cells (madeCells #[.int .u32 0] J) 48) = w3 at *
  go_loopw [9, 10, 11] (fun i _ _ wr => ∃ (k : Nat) (r q : Nat → Nat), k ≤ J ∧ i = .int .i64 ((k : Int) - 1) ∧ Row wr R (n + 1) r ∧ Row wr D s v ∧ Row wr Q J q ∧ Hid (Dl (n + 1) s J (nv v s) x r q k) ∧ Below R w wr) (fun i _ _ _ => (intOf i + 1).toNat)
  case atStart => exact ⟨J, x, _, Nat.le_refl _, rfl, hrx3, hrv3, hrq2, LS, hbl3⟩
  case round =>
    obtain ⟨k, r, q, hk, rfl, hrr, hrv, hrq, hdl, hb⟩ := hrel
    by_cases hk0 : k = 0
    · subst hk0
      have hql : ∀ j, j < J → q j < LB := fun j _ => hdl.out.ql j
      have hrl := hdl.out.rl
      have HD := Lib.hid (LG.out.done hdl.out)
      have hRB : R < wr.heap.size := hrr.lt
      have HT1 := Lib.hid (trim_any (some ⟨R, 0, none⟩) (n + 1) (n + 1) r _ wr (hrr.rs (by omega) (fun j hj => by have := hrl j; rw [LB_eq] at this; omega)))
      have HRL := Lib.hid hrl
      have HQL := Lib.hid hql
      clear hrl hql hdl
      go_wp2_with fail
      refine HT1.out.mono ?_
      rintro _ _ ⟨⟨_, rfl, AT, mT, cT, rfl, hrT, htT⟩, rfl⟩
      have hdT := htT.dig (fun j _ => HRL.out j) rfl
      have HDL := Lib.hid (divideLimb_any AT mT cT F r wr hrT (fun j _ => HRL.out j) (by have := htT.le; omega) HD.out.1 HFL.out)
      have HDT := Lib.hid hdT.eq
      clear hdT htT hrT
      go_wp2_with fail
      refine HDL.out.mono ?_
      rintro _ w4 ⟨u, rfl, hm⟩
      have hrq4 : Row w4 Q J q := hrq.keep ((made_bel hm).block _ hrq.lt)
      have HT2 := Lib.hid (trim_any (some ⟨Q, 0, none⟩) J J q _ w4 (hrq4.rs (by omega) (fun j hj => by have := HQL.out j hj; rw [LB_eq] at this; omega)))
      have HM := Lib.hid hm
      clear hm
      go_wp2_with fail
      refine HT2.out.mono ?_
      rintro _ _ ⟨⟨_, rfl, AT2, mT2, cT2, rfl, hrT2, htT2⟩, rfl⟩
      have HDQ := Lib.hid (htT2.dig HQL.out HD.out.2.1)
      have HRT := Lib.hid hrT2
      clear hrT2 htT2
      go_wp2_with fail
      go_ret2
      have hM := HM.out
      rw [HDT.out, HD.out.2.2] at hM
      have hbel : Below w.heap.size w w4 := by rw [HR.out]; exact hb.trans ((made_bel hM).mono (by have := hb.size; have := HR.out; omega))
      obtain ⟨A4, n4, c4, f4, rfl, hr4, hd4, hb4⟩ := hM
      exact ⟨_, _, rfl, AT2, mT2, cT2, q, A4, n4, c4, f4, rfl, HRT.out, HDQ.out, rfl, hr4, hd4, hbel⟩
    · obtain ⟨p, rfl⟩ : ∃ p, k = p + 1 := ⟨k - 1, by omega⟩
      rw [show (((p + 1 : Nat) : Int) - 1) = (p : Int) by omega]
      have hps : p + s + 1 ≤ n + 1 := by have := HJ.out; omega
      have h1 : (p : Int) + (s : Int) + 1 ≤ (n : Int) + 1 := by omega
      have h2 : ¬ n + 1 = p := by omega
      have hPt := hdl.out.top LG.out.lt hps
      have hrl := hdl.out.rl
      have hrs : Rs wr wr.heap.size (some ⟨R, p, none⟩) (s + 1) (n + 1 - p) (fun j => r (p + j)) := by
        have h := (hrr.rs (by omega) (fun j hj => by have := hrl j; rw [LB_eq] at this; omega)).sub (lo := p) (hi := p + s + 1) (by omega) (by omega)
        rw [show p + s + 1 - p = s + 1 by omega, Nat.zero_add] at h
        exact h
      have hlt : nv (fun j => r (p + j)) (s + 1) < nv v s * LB := by rw [← hPt.1]; exact hPt.2.2
      have HGS := Lib.hid (guess_any (some ⟨R, p, none⟩) (some ⟨D, 0, none⟩) s (n + 1 - p) s (fun j => r (p + j)) v _ _ wr hrs (hrv.rs (by omega) (fun j hj => by have := HVL.out j; rw [LB_eq] at this; omega)) hs2 (by omega) (fun j => hrl _) HVL.out hlt LG.out.norm)
      have HPT := Lib.hid hPt
      have HRL := Lib.hid hrl
      have hpp : p + s + 1 - p = s + 1 := by omega
      clear hlt hrs hPt hrl
      go_wp2_with fail
      rw [hpp]
      clear hpp
      refine HGS.out.mono ?_
      rintro _ _ ⟨gs, rfl, ⟨dd, rfl⟩, hge, hle, hgl⟩
      have hrr1 : Row (wr.drewN dd) R (n + 1) r := hrr
      have hrv1 : Row (wr.drewN dd) D s v := hrv
      have hrq1 : Row (wr.drewN dd) Q J q := hrq
      have hb1 := hb.trans ((Below.drewN wr dd).mono (by have := hb.size; have := HR.out; omega))
      have HGE := Lib.hid hge
      have HLE := Lib.hid hle
      have HGL := Lib.hid hgl
      clear hrr hrv hrq hb HGS hge hle hgl
      generalize wr.drewN dd = wa at *
      go_wp2_with fail
      refine (subtract_any R p (n + 1) s _ D s gs r v wa hrr1 hrv1 HDR.out (by omega) HRL.out HVL.out HGL.out (by omega)).mono ?_
      rintro _ wb ⟨C2, r2, rfl, hgr, hrr2, he2, hrl2, hsm2⟩
      have hrv2 : Row wb D s v := hrv1.grown hgr HDR.out
      have hrq2 : Row wb Q J q := hrq1.grown hgr HQR.out
      have hb2 : Below R w wb := hb1.grown hgr (by have := hb1.size; have := HR.out; omega) (fun j e => by cases e; exact Nat.le_refl _)
      have hstep := step_ok LG.out.pos (Nat.lt_of_lt_of_le LG.out.lt (pow_le_of (Nat.le_succ s))) (nv_lt (s + 1) (f := fun j => r2 (p + j)) fun j _ => hrl2 _) (by rw [nv_pl v s (s + 1) (by omega)] at he2; exact he2) HGE.out HLE.out
      have HST := Lib.hid hstep
      have HRL2 := Lib.hid hrl2
      have HSM2 := Lib.hid hsm2
      clear hstep hrl2 hsm2 he2 hgr hrr1 hrv1 hrq1 hb1
      have hfz := hrq2.frozen p
      have hcp := hrq2.cell (show p < J by omega)
      have hdiv : hi r (n + 1) p / nv v s < LB := by rw [Nat.div_lt_iff_lt_mul LG.out.pos, Nat.mul_comm]; exact HPT.out.2.2
      have HDIV := Lib.hid hdiv
      clear hdiv
      by_cases hC : 0 < C2
      · have hdec : decide (0 < C2) = true := decide_eq_true hC
        rw [hdec]
        obtain ⟨hg1, hg2, hg3⟩ := HST.out.2 hC
        have hz1 : iv gs - 1 = iv (gs - 1) := by simp only [iv_eq]; omega
        have hz2 : 1 ≤ iv gs := by rw [iv_eq]; omega
        have hz3 : iv gs ≤ 1000000000 := by have := iv_le HGL.out; rw [LB_eq] at this; exact this
        have HG1 := Lib.hid hg1
        have HG2 := Lib.hid hg2
        have HG3 := Lib.hid hg3
        have HZ1 := Lib.hid hz1
        clear hdec hC HST hg1 hg2 hg3 hz1 hfz hcp
        go_wp2_with fail
        refine (restore_any R p (n + 1) s _ D s r2 v wb hrr2 hrv2 HDR.out (by omega) HRL2.out HVL.out (by omega)).mono ?_
        rintro _ wc ⟨C3, r3, rfl, hgr, hrr3, he3, hrl3, hsm3⟩
        have hrv3 : Row wc D s v := hrv2.grown hgr HDR.out
        have hrq3 : Row wc Q J q := hrq2.grown hgr HQR.out
        have hb3 : Below R w wc := hb2.grown hgr (by have := hb2.size; have := HR.out; omega) (fun j e => by cases e; exact Nat.le_refl _)
        have hw3 := HG3.out _ C3 (nv_lt (s + 1) (f := fun j => r3 (p + j)) fun j _ => hrl3 _) (by rw [nv_pl v s (s + 1) (by omega)] at he3; exact he3)
        rw [← HPT.out.1] at hw3
        have hnext := hdl.out.next LG.out.pos LG.out.lt hps (by omega) hw3 hrl3 (fun j hj => by rw [hsm3 j hj, HSM2.out j hj])
        have hq1 : hi r (n + 1) p / nv v s = gs - 1 := by rw [HPT.out.1]; exact HG2.out.symm
        rw [hq1] at hnext
        have HN := Lib.hid hnext
        have HZ4 : iv (gs - 1) < 1000000000 := iv_limb (by rw [← hq1]; exact HDIV.out)
        have hnew := Lib.hid (hrq3.set p (gs - 1))
        have hrr4 : Row (wc.setCell ⟨Q, p, none⟩ (.int .u32 (iv (gs - 1)))) R (n + 1) r3 := hrr3.keep (Below.heap_setCell _ _ _ _ (by have := HQR.out; exact fun e => this e.symm))
        have hrv4 : Row (wc.setCell ⟨Q, p, none⟩ (.int .u32 (iv (gs - 1)))) D s v := hrv3.keep (Below.heap_setCell _ _ _ _ (by have := HQD.out; exact fun e => this e.symm))
        have hb4 : Below R w (wc.setCell ⟨Q, p, none⟩ (.int .u32 (iv (gs - 1)))) := hb3.setCell (by have := HRQ.out; exact this) _
        have hfz := hrq3.frozen p
        have hcp := hrq3.cell (show p < J by omega)
        have hz0 := iv_nonneg (gs - 1)
        rw [← HZ1.out] at hz0 HZ4 hnew hrr4 hrv4 hb4
        have HB4 := Lib.hid hb4
        have HR4 := Lib.hid hrr4
        have HV4 := Lib.hid hrv4
        clear hb4 hrr4 hrv4 hb3 hrq3 hrv3 hrr3 hb2 hrq2 hrv2 hrr2 hw3 hnext hq1 he3 hrl3 hsm3 hgr HPT HG3
        generalize iv gs = Z at *
        go_wp2_with fail
        go_roundw
        case rel => exact ⟨p, r3, _, by omega, rfl, HR4.out, HV4.out, hnew.out, HN.out, HB4.out⟩
        case measure => simp [intOf] <;> omega
      · have hdec : decide (0 < C2) = false := decide_eq_false hC
        rw [hdec]
        obtain ⟨hg1, hw3⟩ := HST.out.1 (by omega)
        rw [← HPT.out.1] at hg1 hw3
        have hnext := hdl.out.next LG.out.pos LG.out.lt hps (by omega) hw3 HRL2.out HSM2.out
        rw [← hg1] at hnext
        have HN := Lib.hid hnext
        have hz4 : iv gs < 1000000000 := iv_limb (by rw [hg1]; exact HDIV.out)
        have hz0 := iv_nonneg gs
        have hnew := Lib.hid (hrq2.set p gs)
        have HR4 := Lib.hid (hrr2.keep (w' := wb.setCell ⟨Q, p, none⟩ (.int .u32 (iv gs))) (Below.heap_setCell _ _ _ _ (by have := HQR.out; exact fun e => this e.symm)))
        have HV4 := Lib.hid (hrv2.keep (w' := wb.setCell ⟨Q, p, none⟩ (.int .u32 (iv gs))) (Below.heap_setCell _ _ _ _ (by have := HQD.out; exact fun e => this e.symm)))
        have HB4 := Lib.hid (hb2.setCell (p := ⟨Q, p, none⟩) (by have := HRQ.out; exact this) (.int .u32 (iv gs)))
        clear hdec hC HST hg1 hw3 hnext HPT hb2 hrq2 hrv2 hrr2
        generalize iv gs = Z at *
        go_wp2_with fail
        go_roundw
        case rel => exact ⟨p, r2, _, by omega, rfl, HR4.out, HV4.out, hnew.out, HN.out, HB4.out⟩
        case measure => simp [intOf] <;> omega

end Go.Proofs.YtmcacofpnnaplaaGreatDoor

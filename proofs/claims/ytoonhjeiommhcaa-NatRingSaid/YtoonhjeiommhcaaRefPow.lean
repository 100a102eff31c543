/- The contracts of the reference's Mul and Pow. Conditions as premises: the lists read. -/
import Derived.Test.YtoonhjeiommhcaaTimes
import Derived.Test.YtoonhjeiommhcaaAwake2
namespace Go.Proofs.Ytoonhjeiommhcaa
open Go.RowKit Go.Shelf

/-- the error of a product -/
noncomputable def mulE (n : Nat) (f : Nat → Nat) (m : Nat) (g : Nat → Nat) : Int := if chk2 n f m g = 0 then fitE (nv f n * nv g m) else chk2 n f m g

set_option maxRecDepth 100000 in
set_option maxHeartbeats 1600000 in
theorem refMul_any (A A' : Option Addr) (n c m c' : Nat) (f g : Nat → Nat) (w : World) (hA : Rs w w.heap.size A n c f) (hB : Rs w w.heap.size A' m c' g) :
    Calls Try.prog 15 #[.slice A n c, .slice A' m c'] w fun e w' => Ans w (mulE n f m g) (nv f n * nv g m) e w' := by
  have c1 := both_any A A' n c m c' f g _ _ w hA hB
  by_cases h : chk2 n f m g = 0
  · rw [show mulE n f m g = fitE (nv f n * nv g m) by unfold mulE; rw [if_pos h]]
    obtain ⟨h1, h2⟩ := chk2_zero h
    obtain ⟨hn, vf⟩ := chk_zero h1
    obtain ⟨hm, vg⟩ := chk_zero h2
    rw [h] at c1
    have C1 := Lib.hid c1
    have C2 := Lib.hid (refTimes_any A A' n c m c' f g w hA hB vf.1 vg.1 (by omega) (by omega))
    clear c1 h h1 h2 vf vg hn hm hA hB
    go_enter Try.func15, Try.ntmps15
    go_wp2_with fail
    refine C1.out.mono ?_
    rintro e w' ⟨rfl, rfl⟩
    go_wp2_with fail
    refine C2.out.mono ?_
    rintro e w' ⟨v, rfl, hm⟩
    have HM := Lib.hid hm
    clear hm
    go_wp2_with fail
    refine (refFits_any HM.out).mono ?_
    rintro e w2 ⟨u, rfl, hm⟩
    have HM2 := Lib.hid hm
    clear hm
    generalize hge : fitE (nv f n * nv g m) = er at *
    have HGE := Lib.hid hge
    clear hge
    go_wp2_with fail
    go_ret2
    exact ⟨u, by rw [HGE.out]; rfl, by rw [HGE.out]; exact HM2.out⟩
  · rw [show mulE n f m g = chk2 n f m g by unfold mulE; rw [if_neg h]]
    have h1 : (chk2 n f m g != 0) = true := by rw [bne_iff_ne]; exact h
    have h2 : (chk2 n f m g == 0) = false := by rw [beq_eq_false_iff_ne]; exact h
    have H := Lib.hid h
    have C1 := Lib.hid c1
    clear c1 h hA hB
    generalize chk2 n f m g = er at *
    go_enter Try.func15, Try.ntmps15
    go_wp2_with fail
    refine C1.out.mono ?_
    rintro e w' ⟨rfl, rfl⟩
    go_wp2_with fail
    go_ret2
    exact Ans.bad H.out (Below.refl _ _)

/-- the error of a power -/
noncomputable def powE (n : Nat) (f : Nat → Nat) (e : Int) : Int := if chk n f = 0 then (if e < 0 ∨ 10000 < e then 2 else fitE (nv f n ^ e.toNat)) else chk n f

theorem powE_bad {n : Nat} {f : Nat → Nat} {e : Int} (h : chk n f ≠ 0) : powE n f e = chk n f := by unfold powE; rw [if_neg h]
theorem powE_range {n : Nat} {f : Nat → Nat} {e : Int} (h : chk n f = 0) (he : e < 0 ∨ 10000 < e) : powE n f e = 2 := by unfold powE; rw [if_pos h, if_pos he]
theorem powE_ok {n : Nat} {f : Nat → Nat} {k : Nat} (h : chk n f = 0) (he : k ≤ 10000) : powE n f (k : Int) = fitE (nv f n ^ k) := by
  unfold powE; rw [if_pos h, if_neg (by omega), Int.toNat_natCast]

set_option maxRecDepth 100000 in
set_option maxHeartbeats 1600000 in
theorem refPow_bad (A : Option Addr) (n c : Nat) (f : Nat → Nat) (e : Int) (w : World) (hA : Rs w w.heap.size A n c f) (h : chk n f ≠ 0) :
    Calls Try.prog 17 #[.slice A n c, .int .i64 e] w fun e' w' => Ans w (powE n f e) (nv f n ^ e.toNat) e' w' := by
  rw [powE_bad h]
  have c1 := refCheck_any A n c f _ w hA
  have h1 : (chk n f != 0) = true := by rw [bne_iff_ne]; exact h
  have h2 : (chk n f == 0) = false := by rw [beq_eq_false_iff_ne]; exact h
  have H := Lib.hid h
  have C1 := Lib.hid c1
  clear c1 h hA
  generalize chk n f = er at *
  go_enter Try.func17, Try.ntmps17
  go_wp2_with fail
  refine C1.out.mono ?_
  rintro e w' ⟨rfl, rfl⟩
  go_wp2_with fail
  go_ret2
  exact Ans.bad H.out (Below.refl _ _)

set_option maxRecDepth 100000 in
set_option maxHeartbeats 1600000 in
theorem refPow_range (A : Option Addr) (n c : Nat) (f : Nat → Nat) (e : Int) (w : World) (hA : Rs w w.heap.size A n c f) (h : chk n f = 0) (he : e < 0 ∨ 10000 < e) :
    Calls Try.prog 17 #[.slice A n c, .int .i64 e] w fun e' w' => Ans w (powE n f e) (nv f n ^ e.toNat) e' w' := by
  rw [powE_range h he]
  have c1 := refCheck_any A n c f _ w hA
  rw [h] at c1
  have C1 := Lib.hid c1
  clear c1 h hA
  rcases he with he | he
  · go_enter Try.func17, Try.ntmps17
    go_wp2_with fail
    refine C1.out.mono ?_
    rintro e w' ⟨rfl, rfl⟩
    go_wp2_with fail
    go_ret2
    exact Ans.bad (by decide) (Below.refl _ _)
  · have he' : ¬ e < 0 := by omega
    go_enter Try.func17, Try.ntmps17
    go_wp2_with fail
    refine C1.out.mono ?_
    rintro e w' ⟨rfl, rfl⟩
    go_wp2_with fail
    go_ret2
    exact Ans.bad (by decide) (Below.refl _ _)

theorem pow_mono {a i k : Nat} (ha : 2 ≤ a) (h : i ≤ k) : a ^ i ≤ a ^ k := Nat.pow_le_pow_right (by omega) h

/-- the walk of the loop: the base is at least 2, or the exponent is 0 -/
theorem one_dig : Dig 1 (l1 1) 1 := ⟨val_l1 (by omega) (by omega), nv_l1 1⟩

set_option maxRecDepth 100000 in
set_option maxHeartbeats 4000000 in
theorem refPow_small (A : Option Addr) (n c : Nat) (f : Nat → Nat) (k : Nat) (w : World) (hA : Rs w w.heap.size A n c f) (h : chk n f = 0) (hk : k ≤ 10000) (h0 : 0 < k) (h1 : nv f n ≤ 1) :
    Calls Try.prog 17 #[.slice A n c, .int .i64 k] w fun e' w' => Ans w (fitE (nv f n ^ k)) (nv f n ^ k) e' w' := by
  obtain ⟨hn, vf⟩ := chk_zero h
  have hp : nv f n ^ k = nv f n := by
    rcases (by omega : nv f n = 0 ∨ nv f n = 1) with e | e
    · rw [e]; exact Nat.zero_pow h0
    · rw [e, Nat.one_pow]
  rw [hp]
  have c1 := refCheck_any A n c f _ w hA
  rw [h] at c1
  have hl := lit1 w 1 1 rfl (by omega)
  have ho := order_any A (some ⟨w.heap.size, 0, none⟩) n c 1 1 f (l1 1) _ _ (w.alloc (.cells #[.int .u32 1] 30)) (hA.alloc (Nat.le_refl _) _) hl vf one_dig.ok
  rw [nv_l1] at ho
  have hcn : cn (nv f n) 1 ≤ 0 := by
    rcases Nat.eq_or_lt_of_le h1 with e | e
    · rw [cn_eq e]; decide
    · rw [cn_lt e]; decide
  have hb : Below w.heap.size w (w.alloc (.cells #[.int .u32 1] 30)) := (Below.refl _ _).alloc (Nat.le_refl _) _
  have hm : ∀ d, Made w (nv f n) (.slice A n c) ((w.alloc (.cells #[.int .u32 1] 30)).drewN d) := fun d =>
    made_rs (((hA.below hb).more hb.size).drewN d) ⟨vf, rfl⟩ (hb.trans ((Below.drewN _ d).mono hb.size))
  have HM := Lib.hid hm
  have C1 := Lib.hid c1
  have HO := Lib.hid ho
  clear c1 h hn vf hp ho hA hb hm hl
  generalize cn (nv f n) 1 = cc at *
  go_enter Try.func17, Try.ntmps17
  go_wp2_with fail
  refine C1.out.mono ?_
  rintro e w' ⟨rfl, rfl⟩
  go_wp2_with fail
  refine HO.out.mono ?_
  rintro e w' ⟨rfl, d, rfl⟩
  go_wp2_with fail
  refine (refFits_any (HM.out d)).mono ?_
  rintro e w2 ⟨u, rfl, hm⟩
  have HM2 := Lib.hid hm
  clear hm
  generalize hge : fitE (nv f n) = er at *
  have HGE := Lib.hid hge
  clear hge
  go_wp2_with fail
  go_ret2
  exact ⟨u, by rw [HGE.out]; rfl, by rw [HGE.out]; exact HM2.out⟩

set_option maxRecDepth 100000 in
set_option maxHeartbeats 4000000 in
theorem refPow_zero (A : Option Addr) (n c : Nat) (f : Nat → Nat) (w : World) (hA : Rs w w.heap.size A n c f) (h : chk n f = 0) :
    Calls Try.prog 17 #[.slice A n c, .int .i64 0] w fun e' w' => Ans w 0 1 e' w' := by
  have c1 := refCheck_any A n c f _ w hA
  rw [h] at c1
  have C1 := Lib.hid c1
  have hl := lit1 w 1 1 rfl (by omega)
  have HL := Lib.hid (hl.more (B' := (w.alloc (.cells #[.int .u32 1] 30)).heap.size) (by simp))
  clear c1 h hA hl
  go_enter Try.func17, Try.ntmps17
  go_wp2_with fail
  refine C1.out.mono ?_
  rintro e w' ⟨rfl, rfl⟩
  go_wp2_with fail
  refine wp_loop_rounds 1 ?_
  rw [rounds_succ]
  go_wp2_with fail
  go_ret2
  exact ⟨_, rfl, by rw [zr_ok]; exact made_rs HL.out one_dig ((Below.refl _ _).alloc (Nat.le_refl _) _)⟩

set_option maxRecDepth 100000 in
set_option maxHeartbeats 4000000 in
theorem refPow_loop (A : Option Addr) (n c : Nat) (f : Nat → Nat) (k : Nat) (w : World) (hA : Rs w w.heap.size A n c f) (h : chk n f = 0) (hk : k ≤ 10000) (h0 : 0 < k) (h1 : 2 ≤ nv f n) :
    Calls Try.prog 17 #[.slice A n c, .int .i64 k] w fun e' w' => Ans w (fitE (nv f n ^ k)) (nv f n ^ k) e' w' := by
  obtain ⟨hn, vf⟩ := chk_zero h
  have c1 := refCheck_any A n c f _ w hA
  rw [h] at c1
  have hl := lit1 w 1 1 rfl (by omega)
  have ho := order_any A (some ⟨w.heap.size, 0, none⟩) n c 1 1 f (l1 1) _ _ (w.alloc (.cells #[.int .u32 1] 30)) (hA.alloc (Nat.le_refl _) _) hl vf one_dig.ok
  rw [nv_l1, cn_gt (by omega)] at ho
  have HL : Hid (∀ d, Rs (((w.alloc (.cells #[.int .u32 1] 30)).drewN d).alloc (.cells #[.int .u32 1] 30)) ((w.heap.size + 1) + 1) (some ⟨w.heap.size + 1, 0, none⟩) 1 1 (l1 1)) := Lib.hid fun d => by
    have h9 := lit1 ((w.alloc (.cells #[.int .u32 1] 30)).drewN d) 1 1 rfl (by omega)
    rw [show ((w.alloc (.cells #[.int .u32 1] 30)).drewN d).heap.size = w.heap.size + 1 from World.size_alloc _ _] at h9
    exact h9
  have HB : Hid (∀ d, Below w.heap.size w (((w.alloc (.cells #[.int .u32 1] 30)).drewN d).alloc (.cells #[.int .u32 1] 30))) := Lib.hid fun d => by
    have hb : Below w.heap.size w (w.alloc (.cells #[.int .u32 1] 30)) := (Below.refl _ _).alloc (Nat.le_refl _) _
    exact (hb.trans ((Below.drewN _ d).mono hb.size)).alloc (by show _ ≤ (w.alloc _).heap.size; simp) _
  have C1 := Lib.hid c1
  have HO := Lib.hid ho
  have VF := Lib.hid vf
  have H1 := Lib.hid h1
  clear c1 h vf ho hl h1
  go_enter Try.func17, Try.ntmps17
  go_wp2_with fail
  refine C1.out.mono ?_
  rintro e w' ⟨rfl, rfl⟩
  go_wp2_with fail
  refine HO.out.mono ?_
  rintro e w' ⟨rfl, d, rfl⟩
  go_wp2_with fail
  have hr0 := HL.out d
  have hb0 := HB.out d
  generalize hgw : ((w.alloc (.cells #[.int .u32 1] 30)).drewN d).alloc (.cells #[.int .u32 1] 30) = w0 at *
  have hs0 : w.heap.size + 1 + 1 ≤ w0.heap.size := by
    rw [← hgw]
    show _ ≤ (((w.alloc _).drewN d).heap.push _).size
    rw [Array.size_push]
    show _ ≤ (w.alloc _).heap.size + 1
    simp
  clear hgw
  go_loopw [7, 8] (fun v i wr => ∃ j : Nat, j ≤ k ∧ i = .int .i64 j ∧ Made w (nv f n ^ j) v wr ∧ Hid (nv f n ^ j < LB ^ NL)) (fun _ i _ => k - (intOf i).toNat)
  case atStart => exact ⟨0, Nat.zero_le _, rfl, by rw [Nat.pow_zero]; exact made_rs (hr0.more hs0) one_dig hb0, by rw [Nat.pow_zero]; exact one_lt_NL⟩
  case round =>
    obtain ⟨j, hj, rfl, ⟨A2, n2, c2, f2, rfl, hr2, hd2, hb2⟩, hlt⟩ := hrel
    have HD2 := Lib.hid hd2
    by_cases hjk : j < k
    · have hn2 : n2 ≤ 1024 := hd2.len_NL hlt.out
      have hr1 := (hA.below hb2).more hb2.size
      have HT := Lib.hid (refTimes_any A2 A n2 c2 n c f2 f wr hr2 hr1 hd2.ok.1 VF.out.1 (by omega) (by omega))
      clear hd2
      go_wp2_with fail
      refine HT.out.mono ?_
      rintro e w' ⟨v, rfl, hm⟩
      rw [HD2.out.eq, ← Nat.pow_succ] at hm
      have HM := Lib.hid (hm.after hb2)
      clear hm
      obtain ⟨A3, n3, c3, f3, rfl, hr3, hd3, hb3⟩ := HM.out
      have HD3 := Lib.hid hd3.len_iff
      clear hd3 hr3
      by_cases h3 : 1024 < n3
      · have hover : fitE (nv f n ^ k) = 5 := fitE_over (Nat.le_trans (HD3.out.2 h3) (pow_mono H1.out hjk))
        have HO2 := Lib.hid hover
        clear hover
        go_wp2_with fail
        refine bodyPost_ret (results_tmp2 rfl _ _ _) rfl ?_
        rw [HO2.out]
        exact Ans.bad (by decide) hb3
      · go_wp2_with fail
        go_roundw
        case rel => exact ⟨j + 1, by omega, by go_num, HM.out, HD3.out.1 (by omega)⟩
        case measure => simp [intOf]; omega
    · obtain rfl : j = k := by omega
      have HM := Lib.hid (made_rs hr2 hd2 hb2)
      clear hd2
      go_wp2_with fail
      go_ret2
      exact ⟨_, by rw [fitE_ok hlt.out]; rfl, by rw [fitE_ok hlt.out, zr_ok]; exact HM.out⟩

theorem refPow_any (A : Option Addr) (n c : Nat) (f : Nat → Nat) (e : Int) (w : World) (hA : Rs w w.heap.size A n c f) :
    Calls Try.prog 17 #[.slice A n c, .int .i64 e] w fun e' w' => Ans w (powE n f e) (nv f n ^ e.toNat) e' w' := by
  by_cases h : chk n f = 0
  · by_cases he : e < 0 ∨ 10000 < e
    · exact refPow_range A n c f e w hA h he
    · obtain ⟨k, rfl⟩ := Int.eq_ofNat_of_zero_le (show 0 ≤ e by omega)
      rw [powE_ok h (by omega), Int.toNat_natCast]
      rcases Nat.eq_zero_or_pos k with h0 | h0
      · subst h0
        rw [Nat.pow_zero, fitE_ok one_lt_NL]
        exact refPow_zero A n c f w hA h
      · rcases Nat.lt_or_ge (nv f n) 2 with h1 | h1
        · exact refPow_small A n c f k w hA h (by omega) h0 (by omega)
        · exact refPow_loop A n c f k w hA h (by omega) h0 h1
  · exact refPow_bad A n c f e w hA h

end Go.Proofs.Ytoonhjeiommhcaa

/- The contracts of the functions under the laws of package rat: StrJ, StrK, StrL, StrP, StrO, joined into one file. -/
import Derived.Test.YtbjaolmlnkliiaaGreatDoorTextTwo
import Derived.Test.YtbjaolmlnkliiaaGreatDoorRefTwo
/- The contract of Parse at texts that are no numbers: too long, or a sign that is not where it can be. Conditions as premises: which of them it is. -/
namespace Go.Proofs.YtbjaolmlnkliiaaGreatDoor
open Go.RowKit Go.Shelf
attribute [local go_sem ↓] Go.wp_at_zero Go.wp_at_succ

set_option maxRecDepth 100000 in
set_option maxHeartbeats 4000000 in
theorem ratParse_long (s : ByteArray) (h1 : 20000 < s.size) (w : World) :
    Calls Tryz.prog 15 #[.string s] w fun e w' => e = .returned (.tuple #[.agg #[.bool false, .slice none 0 0, .slice none 0 0], .agg #[.int .i64 4, .int .i64 20000]]) ∧ Below w.heap.size w w' := by
  have i1 : (20000 : Int) < (s.size : Int) := by omega
  have hbb := below2 w (.cells #[.bool false, .slice none 0 0, .slice none 0 0] 25) (.cells #[.int .i64 4, .int .i64 20000] 32)
  have k1 := (Blk.new w #[.bool false, .slice none 0 0, .slice none 0 0] 25).alloc (.cells #[.int .i64 4, .int .i64 20000] 32)
  have k2 := Blk.new (w.alloc (.cells #[.bool false, .slice none 0 0, .slice none 0 0] 25)) #[.int .i64 4, .int .i64 20000] 32
  simp only [World.size_alloc] at k2
  have K1 := Lib.hid k1
  have K2 := Lib.hid k2
  have HB := Lib.hid hbb
  clear k1 k2 hbb h1
  go_enter Tryz.func15, Tryz.ntmps15
  go_wp2_with fail
  refine bodyPost_ret (results_row_row (p := 2) (u := 3) (ty := 25) (ty2 := 32) rfl _ _ w.heap.size (w.heap.size + 1) 25 32 _ _ _ _ _ _ rfl K1.out Tryz.underlying25 rfl (by kernel_rfl) rfl K2.out Tryz.underlying32 rfl (by kernel_rfl)) rfl ?_
  exact ⟨rfl, HB.out⟩

set_option maxRecDepth 100000 in
set_option maxHeartbeats 4000000 in
theorem ratParse_syntax (s : ByteArray) (h1 : s.size ≤ 20000) (i : Int) (hi : 0 ≤ i) (hu : ∀ v, Msp s v → v = i) (w : World) :
    Calls Tryz.prog 15 #[.string s] w fun e w' => e = .returned (.tuple #[.agg #[.bool false, .slice none 0 0, .slice none 0 0], .agg #[.int .i64 11, .int .i64 i]]) ∧ Below w.heap.size w w' := by
  have i1 : (s.size : Int) ≤ 20000 := by omega
  have hbb := below2 w (.cells #[.bool false, .slice none 0 0, .slice none 0 0] 25) (.cells #[.int .i64 0, .int .i64 0] 32)
  have k1 := (Blk.new w #[.bool false, .slice none 0 0, .slice none 0 0] 25).alloc (.cells #[.int .i64 0, .int .i64 0] 32)
  have k2 := Blk.new (w.alloc (.cells #[.bool false, .slice none 0 0, .slice none 0 0] 25)) #[.int .i64 0, .int .i64 0] 32
  simp only [World.size_alloc] at k2
  have K1 := Lib.hid k1
  have K2 := Lib.hid k2
  have HB := Lib.hid hbb
  have HU := Lib.hid hu
  have CM := Lib.hid (misplaced_any s (by omega) ((w.alloc (.cells #[.bool false, .slice none 0 0, .slice none 0 0] 25)).alloc (.cells #[.int .i64 0, .int .i64 0] 32)))
  clear k1 k2 hbb h1 hu
  go_enter Tryz.func15, Tryz.ntmps15
  go_wp2_with fail
  refine CM.out.mono ?_
  rintro _ w1 ⟨v, rfl, hv, hb⟩
  obtain rfl := HU.out v hv
  replace K1 := Lib.hid (K1.out.after hb)
  replace K2 := Lib.hid (K2.out.after hb)
  replace HB := Lib.hid (HB.out.trans (hb.mono HB.out.size))
  clear hv hb CM HU
  have d0 := K1.out.cell (i := 0) rfl
  have d1 := K1.out.cell (i := 1) rfl
  have d2 := K1.out.cell (i := 2) rfl
  have e0 := K2.out.cell (i := 0) rfl
  have e1' := K2.out.cell (i := 1) rfl
  have ff := K1.out.free
  have ff2 := K2.out.free
  go_wp2_with fail
  have hne1 : w.heap.size ≠ w.heap.size + 1 := by omega
  have hne2 : w.heap.size + 1 ≠ w.heap.size := by omega
  refine bodyPost_ret (results_row_row (p := 2) (u := 3) (ty := 25) (ty2 := 32) rfl _ _ w.heap.size (w.heap.size + 1) 25 32 _ _ _ _ _ _ rfl ((K1.out.set.set.set.other hne1).other hne1) Tryz.underlying25 rfl (by kernel_rfl) rfl (((K2.out.other hne2).other hne2).other hne2).set.set Tryz.underlying32 rfl (by kernel_rfl)) rfl ?_
  exact ⟨rfl, ((((HB.out.setCell (p := ⟨w.heap.size, 0, none⟩) (Nat.le_refl _) _).setCell (p := ⟨w.heap.size, 1, none⟩) (Nat.le_refl _) _).setCell (p := ⟨w.heap.size, 2, none⟩) (Nat.le_refl _) _).setCell (p := ⟨w.heap.size + 1, 0, none⟩) (by simp) _).setCell (p := ⟨w.heap.size + 1, 1, none⟩) (by simp) _⟩
end Go.Proofs.YtbjaolmlnkliiaaGreatDoor

/- The contract of Parse at texts one of whose parts is no number, or whose denominator is 0. Conditions as premises: which fault it is, and the table of powers holds what its initialiser lays. -/
namespace Go.Proofs.YtbjaolmlnkliiaaGreatDoor
open Go.RowKit Go.Shelf
attribute [local go_sem ↓] Go.wp_at_zero Go.wp_at_succ

theorem PE.unique {s : ByteArray} {e a e' a' : Int} (h : PE s e a) (k : PE s e' a') : e = e' ∧ a = a' := by
  rcases h with ⟨h1, rfl, rfl⟩ | ⟨h1, i, h2, h3, h4, rfl, rfl⟩ | ⟨h1, h2, h3, rfl, rfl⟩ | ⟨h1, h2, h3, rfl, rfl⟩ <;>
    rcases k with ⟨k1, rfl, rfl⟩ | ⟨k1, j, k2, k3, k4, rfl, rfl⟩ | ⟨k1, k2, k3, rfl, rfl⟩ | ⟨k1, k2, k3, rfl, rfl⟩
  all_goals first | exact ⟨rfl, rfl⟩ | (exfalso; omega) | (exfalso; exact h3 (k2 i h2)) | (exfalso; exact k3 (h2 j k2)) | (exfalso; exact h3 k3) | (exfalso; exact k3 h3) | skip
  · refine ⟨rfl, ?_⟩
    rcases Nat.lt_trichotomy i j with c | c | c
    · exact absurd (k4 i c) h3
    · rw [c]
    · exact absurd (h4 j c) k3
theorem Blk.f3 {w : World} {g h : Nat} {t : TypeId} {cs : Array Value} (k : Blk w g t cs) (n1 : g ≠ h) (u v x : Value) : Blk (((w.setCell ⟨h, 0, none⟩ u).setCell ⟨h, 1, none⟩ v).setCell ⟨h, 2, none⟩ x) g t cs := ((k.other n1).other n1).other n1
theorem Blk.drew {w : World} {g : Nat} {t : TypeId} {cs : Array Value} (k : Blk w g t cs) : Blk w.drew g t cs := k
theorem Blk.cellsD {w : World} {g : Nat} {t : TypeId} {v0 v1 : Value} (h : Blk w g t #[v0, v1]) : w.drew.cell? ⟨g, 0, none⟩ = some v0 ∧ w.drew.cell? ⟨g, 1, none⟩ = some v1 := ⟨h.drew.cell rfl, h.drew.cell rfl⟩
set_option maxRecDepth 100000 in
set_option maxHeartbeats 4000000 in
theorem ratParse_top (s : ByteArray) (h1 : s.size ≤ 20000) (hm : Msp s (-1)) (e b : Int) (ht : PE (topS (unm s)) e b) (he : e ≠ 0) (w : World) (hP : Tab w) :
    Calls Tryz.prog 15 #[.string s] w fun r w' => r = .returned (.tuple #[.agg #[.bool false, .slice none 0 0, .slice none 0 0], .agg #[.int .i64 e, .int .i64 (b + ((s.size : Int) - ((unm s).size : Int)))]]) ∧ Below w.heap.size w w' := by
  have i1 : (s.size : Int) ≤ 20000 := by omega
  have hbb := below2 w (.cells #[.bool false, .slice none 0 0, .slice none 0 0] 25) (.cells #[.int .i64 0, .int .i64 0] 32)
  have k1 := (Blk.new w #[.bool false, .slice none 0 0, .slice none 0 0] 25).alloc (.cells #[.int .i64 0, .int .i64 0] 32)
  have k2 := Blk.new (w.alloc (.cells #[.bool false, .slice none 0 0, .slice none 0 0] 25)) #[.int .i64 0, .int .i64 0] 32
  simp only [World.size_alloc] at k2
  have K1 := Lib.hid k1
  have K2 := Lib.hid k2
  have HB := Lib.hid hbb
  have HP := Lib.hid hP
  have HM := Lib.hid hm
  have HT := Lib.hid ht
  have x1 : (e != 0) = true := by rw [bne_iff_ne]; exact he
  have u1 := (unm_size s).1
  have u2 := (unm_size s).2
  have CM := Lib.hid (misplaced_any s (by omega) ((w.alloc (.cells #[.bool false, .slice none 0 0, .slice none 0 0] 25)).alloc (.cells #[.int .i64 0, .int .i64 0] 32)))
  have CP := Lib.hid fun w => cutPrefix_minus s w
  have CT := fun w => cut_slash (unm s) (by omega) w
  generalize decide (0 ≤ fby (unm s) 47) = dv at *
  have CC := Lib.hid CT
  generalize topS (unm s) = top at *
  generalize botS (unm s) = bot at *
  generalize unm s = dg at *
  generalize mns s = neg at *
  have HE := Lib.hid he
  clear CT hbb k1 k2 hP hm ht he
  have hk0 : (0 : Int) ≤ (s.size : Int) - (dg.size : Int) := by omega
  have hk1 : (s.size : Int) - (dg.size : Int) ≤ 100000 := by omega
  go_enter Tryz.func15, Tryz.ntmps15
  go_wp2_with fail
  refine CM.out.mono ?_
  rintro _ w1 ⟨v, rfl, hv, hb⟩
  obtain rfl := hv.none HM.out
  replace K1 := Lib.hid (K1.out.after hb)
  replace K2 := Lib.hid (K2.out.after hb)
  replace HB := Lib.hid (HB.out.trans (hb.mono HB.out.size))
  clear hv hb CM HM
  go_wp2_with fail
  refine (CP.out _).mono ?_
  rintro _ _ ⟨rfl, rfl⟩
  go_wp2_with fail
  refine (CC.out _).mono ?_
  rintro _ w2 ⟨rfl, d, hd⟩
  have hb := (Qt.n1 w1 d).below
  rw [← hd] at hb
  replace K1 := Lib.hid (K1.out.after hb)
  replace K2 := Lib.hid (K2.out.after hb)
  replace HB := Lib.hid (HB.out.trans (hb.mono HB.out.size))
  clear hb hd CP CC
  have C1 := Lib.hid (parseAt_any top _ hk0 hk1 w2 (HP.out.after HB.out))
  go_wp2_with fail
  refine C1.out.mono ?_
  rintro _ w3 ⟨A1, n1, c1, y1, a1, rfl, hpe, hnr, _, hb⟩
  obtain ⟨rfl, rfl⟩ := hpe.unique HT.out
  rw [if_neg HE.out]
  replace K1 := Lib.hid (K1.out.after hb)
  replace K2 := Lib.hid (K2.out.after hb)
  replace HB := Lib.hid (HB.out.trans (hb.mono HB.out.size))
  clear hpe hnr hb C1
  go_upto_region 8 with fail
  generalize hpl : (a1 + ((s.size : Int) - (dg.size : Int))) = pl at *
  have HPL := Lib.hid hpl
  clear hpl
  have hba := below1 w3 (.cells #[.int .i64 y1, .int .i64 pl] 32)
  have KF := Lib.hid (Blk.new w3 #[.int .i64 y1, .int .i64 pl] 32)
  have HFN : Hid (w.heap.size < w3.heap.size ∧ w.heap.size + 1 < w3.heap.size) := Lib.hid ⟨K1.out.lt, K2.out.lt⟩
  replace K1 := Lib.hid (K1.out.after hba)
  replace K2 := Lib.hid (K2.out.after hba)
  replace HB := Lib.hid (HB.out.trans (hba.mono HB.out.size))
  clear hba
  generalize hF : w3.heap.size = F at *
  clear hF
  generalize w3.alloc (.cells #[.int .i64 y1, .int .i64 pl] 32) = w4 at *
  have f0 := KF.out.cell (i := 0) rfl
  have f1 := KF.out.cell (i := 1) rfl
  have g1 : F ≠ w.heap.size := by have := HFN.out; omega
  have g2 : F ≠ w.heap.size + 1 := by have := HFN.out; omega
  have h12 : w.heap.size ≠ w.heap.size + 1 := by omega
  have h21 : w.heap.size + 1 ≠ w.heap.size := by omega
  have hle1 : w.heap.size ≤ w.heap.size + 1 := by omega
  have hle0 : w.heap.size ≤ w.heap.size := Nat.le_refl _
  go_upto_region 10 with fail
  clear f0 f1
  generalize hR2 : w.heap.size + 1 = R2 at *
  clear hR2
  generalize hR : w.heap.size = R at *
  have HR := Lib.hid hR
  clear hR
  have KEEP := Lib.hid KF.out.cellsD
  have KS3 : Hid (∀ u v x, (((w4.setCell ⟨R, 0, none⟩ u).setCell ⟨R, 1, none⟩ v).setCell ⟨R, 2, none⟩ x).drew.cell? ⟨F, 0, none⟩ = some (.int .i64 y1) ∧ (((w4.setCell ⟨R, 0, none⟩ u).setCell ⟨R, 1, none⟩ v).setCell ⟨R, 2, none⟩ x).drew.cell? ⟨F, 1, none⟩ = some (.int .i64 pl)) := Lib.hid fun u v x => (KF.out.f3 g1 u v x).cellsD
  have KS5 : Hid (∀ u v x y z, (((((w4.setCell ⟨R, 0, none⟩ u).setCell ⟨R, 1, none⟩ v).setCell ⟨R, 2, none⟩ x).setCell ⟨R2, 0, none⟩ y).setCell ⟨R2, 1, none⟩ z).drew.cell? ⟨F, 0, none⟩ = some (.int .i64 y1) ∧ (((((w4.setCell ⟨R, 0, none⟩ u).setCell ⟨R, 1, none⟩ v).setCell ⟨R, 2, none⟩ x).setCell ⟨R2, 0, none⟩ y).setCell ⟨R2, 1, none⟩ z).drew.cell? ⟨F, 1, none⟩ = some (.int .i64 pl)) := Lib.hid fun u v x y z => (((KF.out.f3 g1 u v x).other g2).other g2).cellsD
  have KS2 : Hid (∀ y z, ((w4.setCell ⟨R2, 0, none⟩ y).setCell ⟨R2, 1, none⟩ z).drew.cell? ⟨F, 0, none⟩ = some (.int .i64 y1) ∧ ((w4.setCell ⟨R2, 0, none⟩ y).setCell ⟨R2, 1, none⟩ z).drew.cell? ⟨F, 1, none⟩ = some (.int .i64 pl)) := Lib.hid fun y z => ((KF.out.other g2).other g2).cellsD
  have KS6 : Hid (∀ u v x y z, (((((w4.setCell ⟨R2, 0, none⟩ y).setCell ⟨R2, 1, none⟩ z).setCell ⟨R, 0, none⟩ u).setCell ⟨R, 1, none⟩ v).setCell ⟨R, 2, none⟩ x).drew.cell? ⟨F, 0, none⟩ = some (.int .i64 y1) ∧ (((((w4.setCell ⟨R2, 0, none⟩ y).setCell ⟨R2, 1, none⟩ z).setCell ⟨R, 0, none⟩ u).setCell ⟨R, 1, none⟩ v).setCell ⟨R, 2, none⟩ x).drew.cell? ⟨F, 1, none⟩ = some (.int .i64 pl)) := Lib.hid fun u v x y z => (((KF.out.other g2).other g2).f3 g1 u v x).cellsD
  have d0 := K1.out.cell (i := 0) rfl
  have d1 := K1.out.cell (i := 1) rfl
  have d2 := K1.out.cell (i := 2) rfl
  have e0 := K2.out.cell (i := 0) rfl
  have e1 := K2.out.cell (i := 1) rfl
  have ff := K1.out.free
  have ff2 := K2.out.free
  go_region_held3 (fun W => W.cell? ⟨F, 0, none⟩ = some (.int .i64 y1) ∧ W.cell? ⟨F, 1, none⟩ = some (.int .i64 pl))
    (first | with_reducible exact KEEP.out | with_reducible exact KS3.out _ _ _ | with_reducible exact KS5.out _ _ _ _ _ | with_reducible exact KS2.out _ _ | with_reducible exact KS6.out _ _ _ _ _ | fail)
    (fail)
  clear KEEP KS3 KS5 KS2 KS6 d0 d1 d2 e0 e1 ff ff2
  have hx1 := ((K1.out.set (i := 0) (v := .bool false)).set (i := 1) (v := .slice none 0 0)).set (i := 2) (v := .slice none 0 0)
  go_wp2_with fail
  refine bodyPost_ret (results_row_row (p := 2) (u := 3) (ty := 25) (ty2 := 32) rfl _ _ R R2 25 32 _ _ _ _ _ _ rfl ((hx1.other h12).other h12).drew Tryz.underlying25 rfl (by kernel_rfl) rfl ((((K2.out.other h21).other h21).other h21).set.set).drew Tryz.underlying32 rfl (by kernel_rfl)) rfl ?_
  exact ⟨by rw [HPL.out]; rfl, HR.out ▸ (((((HB.out.setCell (p := ⟨R, 0, none⟩) hle0 _).setCell (p := ⟨R, 1, none⟩) hle0 _).setCell (p := ⟨R, 2, none⟩) hle0 _).setCell (p := ⟨R2, 0, none⟩) hle1 _).setCell (p := ⟨R2, 1, none⟩) hle1 _).drew⟩
set_option maxRecDepth 100000 in
set_option maxHeartbeats 4000000 in
theorem ratParse_bot (s : ByteArray) (h1 : s.size ≤ 20000) (hm : Msp s (-1)) (hf : 0 ≤ fby (unm s) 47) (ht : PE (topS (unm s)) 0 0) (e b : Int) (hb0 : PE (botS (unm s)) e b) (he : e ≠ 0) (w : World) (hP : Tab w) :
    Calls Tryz.prog 15 #[.string s] w fun r w' => r = .returned (.tuple #[.agg #[.bool false, .slice none 0 0, .slice none 0 0], .agg #[.int .i64 e, .int .i64 (b + ((s.size : Int) - ((botS (unm s)).size : Int)))]]) ∧ Below w.heap.size w w' := by
  have i1 : (s.size : Int) ≤ 20000 := by omega
  have hbb := below2 w (.cells #[.bool false, .slice none 0 0, .slice none 0 0] 25) (.cells #[.int .i64 0, .int .i64 0] 32)
  have k1 := (Blk.new w #[.bool false, .slice none 0 0, .slice none 0 0] 25).alloc (.cells #[.int .i64 0, .int .i64 0] 32)
  have k2 := Blk.new (w.alloc (.cells #[.bool false, .slice none 0 0, .slice none 0 0] 25)) #[.int .i64 0, .int .i64 0] 32
  simp only [World.size_alloc] at k2
  have K1 := Lib.hid k1
  have K2 := Lib.hid k2
  have HB := Lib.hid hbb
  have HP := Lib.hid hP
  have HM := Lib.hid hm
  have HE := Lib.hid he
  have x1 : (e != 0) = true := by rw [bne_iff_ne]; exact he
  have HT := Lib.hid ht
  have HU := Lib.hid hb0
  have u1 := (unm_size s).1
  have u2 := (unm_size s).2
  have u3 := botS_size (unm s)
  have CM := Lib.hid (misplaced_any s (by omega) ((w.alloc (.cells #[.bool false, .slice none 0 0, .slice none 0 0] 25)).alloc (.cells #[.int .i64 0, .int .i64 0] 32)))
  have CP := Lib.hid fun w => cutPrefix_minus s w
  have CT := fun w => cut_slash (unm s) (by omega) w
  simp only [decide_eq_true hf] at CT
  have CC := Lib.hid CT
  generalize topS (unm s) = top at *
  generalize botS (unm s) = bot at *
  generalize unm s = dg at *
  generalize mns s = neg at *
  clear CT hf hbb k1 k2 hP hm ht hb0 he
  have hk0 : (0 : Int) ≤ (s.size : Int) - (dg.size : Int) := by omega
  have hk1 : (s.size : Int) - (dg.size : Int) ≤ 100000 := by omega
  have hl0 : (0 : Int) ≤ (s.size : Int) - (bot.size : Int) := by omega
  have hl1 : (s.size : Int) - (bot.size : Int) ≤ 100000 := by omega
  go_enter Tryz.func15, Tryz.ntmps15
  go_wp2_with fail
  refine CM.out.mono ?_
  rintro _ w1 ⟨v, rfl, hv, hb⟩
  obtain rfl := hv.none HM.out
  replace K1 := Lib.hid (K1.out.after hb)
  replace K2 := Lib.hid (K2.out.after hb)
  replace HB := Lib.hid (HB.out.trans (hb.mono HB.out.size))
  clear hv hb CM HM
  go_wp2_with fail
  refine (CP.out _).mono ?_
  rintro _ _ ⟨rfl, rfl⟩
  go_wp2_with fail
  refine (CC.out _).mono ?_
  rintro _ w2 ⟨rfl, d, hd⟩
  have hb := (Qt.n1 w1 d).below
  rw [← hd] at hb
  replace K1 := Lib.hid (K1.out.after hb)
  replace K2 := Lib.hid (K2.out.after hb)
  replace HB := Lib.hid (HB.out.trans (hb.mono HB.out.size))
  clear hb hd CP CC
  have C1 := Lib.hid (parseAt_any top _ hk0 hk1 w2 (HP.out.after HB.out))
  go_wp2_with fail
  refine C1.out.mono ?_
  rintro _ w3 ⟨A1, n1, c1, x1, a1, rfl, hpe, hnr, _, hb⟩
  obtain ⟨rfl, rfl⟩ := hpe.zero HT.out
  replace K1 := Lib.hid (K1.out.after hb)
  replace K2 := Lib.hid (K2.out.after hb)
  replace HB := Lib.hid (HB.out.trans (hb.mono HB.out.size))
  have N1 := Lib.hid (hnr rfl)
  clear hpe hnr hb C1
  go_upto_region 8 with fail
  have hba := below1 w3 (.cells #[.int .i64 0, .int .i64 0] 32)
  have KF := Lib.hid (Blk.new w3 #[.int .i64 0, .int .i64 0] 32)
  have HFN : Hid (w.heap.size < w3.heap.size ∧ w.heap.size + 1 < w3.heap.size) := Lib.hid ⟨K1.out.lt, K2.out.lt⟩
  replace K1 := Lib.hid (K1.out.after hba)
  replace K2 := Lib.hid (K2.out.after hba)
  have HFS := Lib.hid HB.out.size
  replace HB := Lib.hid (HB.out.trans (hba.mono HB.out.size))
  replace N1 := Lib.hid (N1.out.below hba)
  clear hba
  generalize hF : w3.heap.size = F at *
  clear hF
  generalize w3.alloc (.cells #[.int .i64 0, .int .i64 0] 32) = w4 at *
  have f0 := KF.out.cell (i := 0) rfl
  have f1 := KF.out.cell (i := 1) rfl
  go_wp2_with fail
  refine (oneN w4).mono ?_
  rintro _ w5 ⟨x2, rfl, ho, hb⟩
  obtain ⟨A2, n2, c2, rfl⟩ := ho.shape
  replace K1 := Lib.hid (K1.out.after hb)
  replace K2 := Lib.hid (K2.out.after hb)
  replace KF := Lib.hid (KF.out.after hb)
  replace HB := Lib.hid (HB.out.trans (hb.mono HB.out.size))
  replace N1 := Lib.hid (N1.out.below hb)
  clear hb ho f0 f1
  have C2 := Lib.hid (parseAt_any bot _ hl0 hl1 w5 (HP.out.after HB.out))
  go_wp2_with fail
  refine C2.out.mono ?_
  rintro _ w6 ⟨A3, n3, c3, x3, a3, rfl, hpe, hnr, _, hb⟩
  obtain ⟨rfl, rfl⟩ := hpe.unique HU.out
  rw [if_neg HE.out]
  replace K1 := Lib.hid (K1.out.after hb)
  replace K2 := Lib.hid (K2.out.after hb)
  replace KF := Lib.hid (KF.out.after hb)
  replace HB := Lib.hid (HB.out.trans (hb.mono HB.out.size))
  clear hpe hnr hb C2 N1
  generalize hpl : (a3 + ((s.size : Int) - (bot.size : Int))) = pl at *
  have HPL := Lib.hid hpl
  clear hpl
  have f0 := KF.out.cell (i := 0) rfl
  have f1 := KF.out.cell (i := 1) rfl
  have ff := KF.out.free
  have zf := KF.out.lt
  go_upto_region 15 with fail
  have g1 : F ≠ w.heap.size := by have := HFN.out; omega
  have g2 : F ≠ w.heap.size + 1 := by have := HFN.out; omega
  have k1 := (K1.out.other (h := F) (i := 0) (u := .int .i64 x3) g1.symm).other (h := F) (i := 1) (u := .int .i64 pl) g1.symm
  have k2 := (K2.out.other (h := F) (i := 0) (u := .int .i64 x3) g2.symm).other (h := F) (i := 1) (u := .int .i64 pl) g2.symm
  have kF : Blk ((w6.setCell ⟨F, 0, none⟩ (.int .i64 x3)).setCell ⟨F, 1, none⟩ (.int .i64 pl)) F 32 #[.int .i64 x3, .int .i64 pl] := KF.out.set.set
  have hbb : Below w.heap.size w ((w6.setCell ⟨F, 0, none⟩ (.int .i64 x3)).setCell ⟨F, 1, none⟩ (.int .i64 pl)) := (HB.out.setCell (p := ⟨F, 0, none⟩) HFS.out _).setCell (p := ⟨F, 1, none⟩) HFS.out _
  clear f0 f1 ff zf KF K1 K2 HB
  have K1 := Lib.hid k1
  have K2 := Lib.hid k2
  have KF := Lib.hid kF
  have HB := Lib.hid hbb
  clear k1 k2 kF hbb
  generalize ((w6.setCell ⟨F, 0, none⟩ (.int .i64 x3)).setCell ⟨F, 1, none⟩ (.int .i64 pl)) = w4' at *
  have f0 := KF.out.cell (i := 0) rfl
  have f1 := KF.out.cell (i := 1) rfl
  have h12 : w.heap.size ≠ w.heap.size + 1 := by omega
  have h21 : w.heap.size + 1 ≠ w.heap.size := by omega
  have hle1 : w.heap.size ≤ w.heap.size + 1 := by omega
  have hle0 : w.heap.size ≤ w.heap.size := Nat.le_refl _
  go_upto_region 16 with fail
  clear f0 f1
  generalize hR2 : w.heap.size + 1 = R2 at *
  clear hR2
  generalize hR : w.heap.size = R at *
  have HR := Lib.hid hR
  clear hR
  have KEEP := Lib.hid KF.out.cellsD
  have KS3 : Hid (∀ u v x, (((w4'.setCell ⟨R, 0, none⟩ u).setCell ⟨R, 1, none⟩ v).setCell ⟨R, 2, none⟩ x).drew.cell? ⟨F, 0, none⟩ = some (.int .i64 x3) ∧ (((w4'.setCell ⟨R, 0, none⟩ u).setCell ⟨R, 1, none⟩ v).setCell ⟨R, 2, none⟩ x).drew.cell? ⟨F, 1, none⟩ = some (.int .i64 pl)) := Lib.hid fun u v x => (KF.out.f3 g1 u v x).cellsD
  have KS5 : Hid (∀ u v x y z, (((((w4'.setCell ⟨R, 0, none⟩ u).setCell ⟨R, 1, none⟩ v).setCell ⟨R, 2, none⟩ x).setCell ⟨R2, 0, none⟩ y).setCell ⟨R2, 1, none⟩ z).drew.cell? ⟨F, 0, none⟩ = some (.int .i64 x3) ∧ (((((w4'.setCell ⟨R, 0, none⟩ u).setCell ⟨R, 1, none⟩ v).setCell ⟨R, 2, none⟩ x).setCell ⟨R2, 0, none⟩ y).setCell ⟨R2, 1, none⟩ z).drew.cell? ⟨F, 1, none⟩ = some (.int .i64 pl)) := Lib.hid fun u v x y z => (((KF.out.f3 g1 u v x).other g2).other g2).cellsD
  have KS2 : Hid (∀ y z, ((w4'.setCell ⟨R2, 0, none⟩ y).setCell ⟨R2, 1, none⟩ z).drew.cell? ⟨F, 0, none⟩ = some (.int .i64 x3) ∧ ((w4'.setCell ⟨R2, 0, none⟩ y).setCell ⟨R2, 1, none⟩ z).drew.cell? ⟨F, 1, none⟩ = some (.int .i64 pl)) := Lib.hid fun y z => ((KF.out.other g2).other g2).cellsD
  have KS6 : Hid (∀ u v x y z, (((((w4'.setCell ⟨R2, 0, none⟩ y).setCell ⟨R2, 1, none⟩ z).setCell ⟨R, 0, none⟩ u).setCell ⟨R, 1, none⟩ v).setCell ⟨R, 2, none⟩ x).drew.cell? ⟨F, 0, none⟩ = some (.int .i64 x3) ∧ (((((w4'.setCell ⟨R2, 0, none⟩ y).setCell ⟨R2, 1, none⟩ z).setCell ⟨R, 0, none⟩ u).setCell ⟨R, 1, none⟩ v).setCell ⟨R, 2, none⟩ x).drew.cell? ⟨F, 1, none⟩ = some (.int .i64 pl)) := Lib.hid fun u v x y z => (((KF.out.other g2).other g2).f3 g1 u v x).cellsD
  have d0 := K1.out.cell (i := 0) rfl
  have d1 := K1.out.cell (i := 1) rfl
  have d2 := K1.out.cell (i := 2) rfl
  have e0 := K2.out.cell (i := 0) rfl
  have e1 := K2.out.cell (i := 1) rfl
  have ff := K1.out.free
  have ff2 := K2.out.free
  go_region_held3 (fun W => W.cell? ⟨F, 0, none⟩ = some (.int .i64 x3) ∧ W.cell? ⟨F, 1, none⟩ = some (.int .i64 pl))
    (first | with_reducible exact KEEP.out | with_reducible exact KS3.out _ _ _ | with_reducible exact KS5.out _ _ _ _ _ | with_reducible exact KS2.out _ _ | with_reducible exact KS6.out _ _ _ _ _ | fail)
    (fail)
  clear KEEP KS3 KS5 KS2 KS6 d0 d1 d2 e0 e1 ff ff2
  have hx1 := ((K1.out.set (i := 0) (v := .bool false)).set (i := 1) (v := .slice none 0 0)).set (i := 2) (v := .slice none 0 0)
  go_wp2_with fail
  refine bodyPost_ret (results_row_row (p := 2) (u := 3) (ty := 25) (ty2 := 32) rfl _ _ R R2 25 32 _ _ _ _ _ _ rfl ((hx1.other h12).other h12).drew Tryz.underlying25 rfl (by kernel_rfl) rfl ((((K2.out.other h21).other h21).other h21).set.set).drew Tryz.underlying32 rfl (by kernel_rfl)) rfl ?_
  exact ⟨by rw [HPL.out]; rfl, HR.out ▸ (((((HB.out.setCell (p := ⟨R, 0, none⟩) hle0 _).setCell (p := ⟨R, 1, none⟩) hle0 _).setCell (p := ⟨R, 2, none⟩) hle0 _).setCell (p := ⟨R2, 0, none⟩) hle1 _).setCell (p := ⟨R2, 1, none⟩) hle1 _).drew⟩
set_option maxRecDepth 100000 in
set_option maxHeartbeats 4000000 in
theorem ratParse_zero (s : ByteArray) (h1 : s.size ≤ 20000) (hm : Msp s (-1)) (hf : 0 ≤ fby (unm s) 47) (ht : PE (topS (unm s)) 0 0) (hb0 : PE (botS (unm s)) 0 0) (hz : pnum (botS (unm s)) = 0) (w : World) (hP : Tab w) :
    Calls Tryz.prog 15 #[.string s] w fun r w' => r = .returned (.tuple #[.agg #[.bool false, .slice none 0 0, .slice none 0 0], .agg #[.int .i64 6, .int .i64 ((s.size : Int) - ((botS (unm s)).size : Int))]]) ∧ Below w.heap.size w w' := by
  have i1 : (s.size : Int) ≤ 20000 := by omega
  have hbb := below2 w (.cells #[.bool false, .slice none 0 0, .slice none 0 0] 25) (.cells #[.int .i64 0, .int .i64 0] 32)
  have k1 := (Blk.new w #[.bool false, .slice none 0 0, .slice none 0 0] 25).alloc (.cells #[.int .i64 0, .int .i64 0] 32)
  have k2 := Blk.new (w.alloc (.cells #[.bool false, .slice none 0 0, .slice none 0 0] 25)) #[.int .i64 0, .int .i64 0] 32
  simp only [World.size_alloc] at k2
  have K1 := Lib.hid k1
  have K2 := Lib.hid k2
  have HB := Lib.hid hbb
  have HP := Lib.hid hP
  have HM := Lib.hid hm
  have HZ := Lib.hid hz
  have HT := Lib.hid ht
  have HU := Lib.hid hb0
  have u1 := (unm_size s).1
  have u2 := (unm_size s).2
  have u3 := botS_size (unm s)
  have CM := Lib.hid (misplaced_any s (by omega) ((w.alloc (.cells #[.bool false, .slice none 0 0, .slice none 0 0] 25)).alloc (.cells #[.int .i64 0, .int .i64 0] 32)))
  have CP := Lib.hid fun w => cutPrefix_minus s w
  have CT := fun w => cut_slash (unm s) (by omega) w
  simp only [decide_eq_true hf] at CT
  have CC := Lib.hid CT
  generalize topS (unm s) = top at *
  generalize botS (unm s) = bot at *
  generalize unm s = dg at *
  generalize mns s = neg at *
  clear CT hf hbb k1 k2 hP hm hz ht hb0
  have hk0 : (0 : Int) ≤ (s.size : Int) - (dg.size : Int) := by omega
  have hk1 : (s.size : Int) - (dg.size : Int) ≤ 100000 := by omega
  have hl0 : (0 : Int) ≤ (s.size : Int) - (bot.size : Int) := by omega
  have hl1 : (s.size : Int) - (bot.size : Int) ≤ 100000 := by omega
  go_enter Tryz.func15, Tryz.ntmps15
  go_wp2_with fail
  refine CM.out.mono ?_
  rintro _ w1 ⟨v, rfl, hv, hb⟩
  obtain rfl := hv.none HM.out
  replace K1 := Lib.hid (K1.out.after hb)
  replace K2 := Lib.hid (K2.out.after hb)
  replace HB := Lib.hid (HB.out.trans (hb.mono HB.out.size))
  clear hv hb CM HM
  go_wp2_with fail
  refine (CP.out _).mono ?_
  rintro _ _ ⟨rfl, rfl⟩
  go_wp2_with fail
  refine (CC.out _).mono ?_
  rintro _ w2 ⟨rfl, d, hd⟩
  have hb := (Qt.n1 w1 d).below
  rw [← hd] at hb
  replace K1 := Lib.hid (K1.out.after hb)
  replace K2 := Lib.hid (K2.out.after hb)
  replace HB := Lib.hid (HB.out.trans (hb.mono HB.out.size))
  clear hb hd CP CC
  have C1 := Lib.hid (parseAt_any top _ hk0 hk1 w2 (HP.out.after HB.out))
  go_wp2_with fail
  refine C1.out.mono ?_
  rintro _ w3 ⟨A1, n1, c1, x1, a1, rfl, hpe, hnr, _, hb⟩
  obtain ⟨rfl, rfl⟩ := hpe.zero HT.out
  replace K1 := Lib.hid (K1.out.after hb)
  replace K2 := Lib.hid (K2.out.after hb)
  replace HB := Lib.hid (HB.out.trans (hb.mono HB.out.size))
  have N1 := Lib.hid (hnr rfl)
  clear hpe hnr hb C1
  go_upto_region 8 with fail
  have hba := below1 w3 (.cells #[.int .i64 0, .int .i64 0] 32)
  have KF := Lib.hid (Blk.new w3 #[.int .i64 0, .int .i64 0] 32)
  have HFN : Hid (w.heap.size < w3.heap.size ∧ w.heap.size + 1 < w3.heap.size) := Lib.hid ⟨K1.out.lt, K2.out.lt⟩
  replace K1 := Lib.hid (K1.out.after hba)
  replace K2 := Lib.hid (K2.out.after hba)
  have HFS := Lib.hid HB.out.size
  replace HB := Lib.hid (HB.out.trans (hba.mono HB.out.size))
  replace N1 := Lib.hid (N1.out.below hba)
  clear hba
  generalize hF : w3.heap.size = F at *
  clear hF
  generalize w3.alloc (.cells #[.int .i64 0, .int .i64 0] 32) = w4 at *
  have f0 := KF.out.cell (i := 0) rfl
  have f1 := KF.out.cell (i := 1) rfl
  go_wp2_with fail
  refine (oneN w4).mono ?_
  rintro _ w5 ⟨x2, rfl, ho, hb⟩
  obtain ⟨A2, n2, c2, rfl⟩ := ho.shape
  replace K1 := Lib.hid (K1.out.after hb)
  replace K2 := Lib.hid (K2.out.after hb)
  replace KF := Lib.hid (KF.out.after hb)
  replace HB := Lib.hid (HB.out.trans (hb.mono HB.out.size))
  replace N1 := Lib.hid (N1.out.below hb)
  clear hb ho f0 f1
  have C2 := Lib.hid (parseAt_any bot _ hl0 hl1 w5 (HP.out.after HB.out))
  go_wp2_with fail
  refine C2.out.mono ?_
  rintro _ w6 ⟨A3, n3, c3, x3, a3, rfl, hpe, hnr, _, hb⟩
  obtain ⟨rfl, rfl⟩ := hpe.zero HU.out
  replace K1 := Lib.hid (K1.out.after hb)
  replace K2 := Lib.hid (K2.out.after hb)
  replace KF := Lib.hid (KF.out.after hb)
  replace HB := Lib.hid (HB.out.trans (hb.mono HB.out.size))
  replace N1 := Lib.hid (N1.out.below hb)
  have n3' := hnr rfl
  have N3 := Lib.hid n3'
  obtain ⟨_, _, _, e3, hz3⟩ := n3'.len
  cases e3
  have hn3 : ((n3 : Int) == 0) = true := by rw [beq_iff_eq]; have := hz3.2 HZ.out; omega
  clear hpe hnr hb C2 hz3 n3'
  have f0 := KF.out.cell (i := 0) rfl
  have f1 := KF.out.cell (i := 1) rfl
  have ff := KF.out.free
  have zf := KF.out.lt
  go_upto_region 17 with fail
  have g1 : F ≠ w.heap.size := by have := HFN.out; omega
  have g2 : F ≠ w.heap.size + 1 := by have := HFN.out; omega
  have k1 := (K1.out.other (h := F) (i := 0) (u := .int .i64 0) g1.symm).other (h := F) (i := 1) (u := .int .i64 0) g1.symm
  have k2 := (K2.out.other (h := F) (i := 0) (u := .int .i64 0) g2.symm).other (h := F) (i := 1) (u := .int .i64 0) g2.symm
  have hbb : Below w.heap.size w ((w6.setCell ⟨F, 0, none⟩ (.int .i64 0)).setCell ⟨F, 1, none⟩ (.int .i64 0)) := (HB.out.setCell (p := ⟨F, 0, none⟩) HFS.out _).setCell (p := ⟨F, 1, none⟩) HFS.out _
  clear f0 f1 ff zf KF K1 K2 HB N1 N3
  have K1 := Lib.hid k1
  have K2 := Lib.hid k2
  have HB := Lib.hid hbb
  clear k1 k2 hbb
  generalize ((w6.setCell ⟨F, 0, none⟩ (.int .i64 0)).setCell ⟨F, 1, none⟩ (.int .i64 0)) = w7 at *
  have d0 := K1.out.cell (i := 0) rfl
  have d1 := K1.out.cell (i := 1) rfl
  have d2 := K1.out.cell (i := 2) rfl
  have e0 := K2.out.cell (i := 0) rfl
  have e1' := K2.out.cell (i := 1) rfl
  have ff := K1.out.free
  have ff2 := K2.out.free
  go_wp2_with fail
  have hne1 : w.heap.size ≠ w.heap.size + 1 := by omega
  have hne2 : w.heap.size + 1 ≠ w.heap.size := by omega
  refine bodyPost_ret (results_row_row (p := 2) (u := 3) (ty := 25) (ty2 := 32) rfl _ _ w.heap.size (w.heap.size + 1) 25 32 _ _ _ _ _ _ rfl ((K1.out.set.set.set.other hne1).other hne1) Tryz.underlying25 rfl (by kernel_rfl) rfl (((K2.out.other hne2).other hne2).other hne2).set.set Tryz.underlying32 rfl (by kernel_rfl)) rfl ?_
  exact ⟨rfl, ((((HB.out.setCell (p := ⟨w.heap.size, 0, none⟩) (Nat.le_refl _) _).setCell (p := ⟨w.heap.size, 1, none⟩) (Nat.le_refl _) _).setCell (p := ⟨w.heap.size, 2, none⟩) (Nat.le_refl _) _).setCell (p := ⟨w.heap.size + 1, 0, none⟩) (by simp) _).setCell (p := ⟨w.heap.size + 1, 1, none⟩) (by simp) _⟩
end Go.Proofs.YtbjaolmlnkliiaaGreatDoor

/- Plain facts on a text with one slash: where its parts lie, and what Parse answers at any text, in one relation. Conditions as premises. -/
namespace Go.Proofs.YtbjaolmlnkliiaaGreatDoor
open Go.RowKit

theorem bt_lt (s : ByteArray) (i : Nat) : bt s i < 256 := UInt8.toNat_lt _
theorem al_dec : ∀ b : Nat, b < 256 → (al b = true ↔ (48 ≤ b ∧ b ≤ 57) ∨ b = 45 ∨ b = 47) := by decide +kernel
theorem al_iff (s : ByteArray) (i : Nat) : al (bt s i) = true ↔ (48 ≤ bt s i ∧ bt s i ≤ 57) ∨ bt s i = 45 ∨ bt s i = 47 := al_dec _ (bt_lt s i)
/-- where the slash stands, or the text's end -/
def Slash (s : ByteArray) (k : Nat) : Prop := k ≤ s.size ∧ (∀ j, j < k → bt s j ≠ 47) ∧ (k < s.size → bt s k = 47)
/-- where the digits begin -/
def fr (s : ByteArray) : Nat := if mns s = true then 1 else 0
theorem mns_iff (s : ByteArray) : mns s = true ↔ 0 < s.size ∧ bt s 0 = 45 := by
  rw [mns_l, beq_iff_eq]
  constructor
  · intro h
    have h0 : 0 < s.size := by
      rcases Nat.eq_zero_or_pos s.size with c | c
      · rw [empty_of c] at h; cases h
      · exact c
    refine ⟨h0, ?_⟩
    have h1 : (s.data.toList.take 1)[0]? = some 45 := by rw [h]; rfl
    rw [List.getElem?_take_of_lt (by omega)] at h1
    rw [bt_l s 0 h0, h1]
    rfl
  · rintro ⟨h0, h⟩
    rw [bt_l s 0 h0] at h
    have hl : 0 < s.data.toList.length := by rw [lb_size]; exact h0
    rw [List.getElem?_eq_getElem hl, Option.getD_some] at h
    have h2 : s.data.toList[0] = 45 := UInt8.toNat_inj.1 h
    rw [List.take_one, List.head?_eq_getElem?, List.getElem?_eq_getElem hl, h2]
    rfl
theorem unm_list (s : ByteArray) : (unm s).data.toList = s.data.toList.drop (fr s) := by
  unfold unm fr
  split
  · rw [lb_ext, List.take_of_length_le (by rw [List.length_drop, lb_size]; omega)]
  · rfl
theorem fr_le (s : ByteArray) : fr s ≤ s.size := by
  unfold fr
  split
  · rename_i h; exact ((mns_iff s).1 h).1
  · exact Nat.zero_le _
theorem unm_sz (s : ByteArray) : (unm s).size = s.size - fr s := by rw [← lb_size, unm_list, List.length_drop, lb_size]
theorem Slash.from {s : ByteArray} {k : Nat} (h : Slash s k) : fr s ≤ k := by
  unfold fr
  split
  · rename_i c
    obtain ⟨c1, c2⟩ := (mns_iff s).1 c
    rcases Nat.eq_zero_or_pos k with e | e
    · subst e; have := h.2.2 c1; omega
    · exact e
  · exact Nat.zero_le _
theorem ne47 {s : ByteArray} {k : Nat} (h : Slash s k) {i : Nat} {b : UInt8} (hi : i < k) (hb : s.data.toList[i]? = some b) : b ≠ 47 := by
  rintro rfl
  have := h.2.1 i hi
  rw [bt_l s i (by have := h.1; omega), hb] at this
  exact this rfl
theorem drop47 {s : ByteArray} {k : Nat} (h : Slash s k) (hk : k < s.size) : s.data.toList.drop k = 47 :: s.data.toList.drop (k + 1) := by
  have hl : k < s.data.toList.length := by rw [lb_size]; exact hk
  rw [List.drop_eq_getElem_cons hl]
  congr 1
  have := h.2.2 hk
  rw [bt_l s k hk, List.getElem?_eq_getElem hl, Option.getD_some] at this
  exact UInt8.toNat_inj.1 this
theorem parts47 {s : ByteArray} {k : Nat} (h : Slash s k) (hk : k < s.size) : (unm s).data.toList = (s.data.toList.drop (fr s)).take (k - fr s) ++ 47 :: s.data.toList.drop (k + 1) := by
  have hf := h.from
  have h1 : (s.data.toList.drop (fr s)).drop (k - fr s) = s.data.toList.drop k := by rw [List.drop_drop]; congr 1; omega
  rw [unm_list, ← drop47 h hk, ← h1, List.take_append_drop]
theorem slash_fby {s : ByteArray} {k : Nat} (h : Slash s k) : fby (unm s) 47 = if k < s.size then ((k - fr s : Nat) : Int) else -1 := by
  have hf := h.from
  unfold fby
  by_cases hk : k < s.size
  · rw [if_pos hk, parts47 h hk]
    have := ib_app 47 (s.data.toList.drop (k + 1)) ((s.data.toList.drop (fr s)).take (k - fr s)) (fun b hb => by
      obtain ⟨i, hi⟩ := List.mem_iff_getElem?.1 hb
      have hlt : i < k - fr s := by
        rcases Nat.lt_or_ge i (k - fr s) with c | c
        · exact c
        · rw [List.getElem?_eq_none (by rw [List.length_take]; omega)] at hi; cases hi
      rw [List.getElem?_take_of_lt hlt, List.getElem?_drop] at hi
      exact ne47 h (by omega) hi)
    rw [List.length_take, List.length_drop, lb_size] at this
    rw [show min (k - fr s) (s.size - fr s) = k - fr s by omega] at this
    exact this
  · rw [if_neg hk]
    obtain rfl : k = s.size := by have := h.1; omega
    rw [unm_list]
    exact ib_none _ _ (fun b hb => by
      obtain ⟨i, hi⟩ := List.mem_iff_getElem?.1 hb
      rw [List.getElem?_drop] at hi
      have hlt : fr s + i < s.size := by
        rcases Nat.lt_or_ge (fr s + i) s.size with c | c
        · exact c
        · rw [List.getElem?_eq_none (by rw [lb_size]; exact c)] at hi; cases hi
      exact ne47 h hlt hi)
theorem slash_top {s : ByteArray} {k : Nat} (h : Slash s k) : topS (unm s) = s.extract (fr s) k := by
  have hf := h.from
  have hk0 := h.1
  apply ba_ext
  unfold topS
  rw [slash_fby h, lb_ext]
  by_cases hk : k < s.size
  · rw [if_pos hk, if_neg (by omega), lb_ext, unm_list, List.drop_zero, Int.toNat_natCast, Nat.sub_zero]
  · rw [if_neg hk, if_pos (by omega), unm_list, List.take_of_length_le (by rw [List.length_drop, lb_size]; omega)]
theorem slash_bot {s : ByteArray} {k : Nat} (h : Slash s k) (hk : k < s.size) : botS (unm s) = s.extract (k + 1) s.size := by
  have hf := h.from
  apply ba_ext
  unfold botS
  rw [slash_fby h, if_pos hk, if_neg (by omega), lb_ext, lb_ext, unm_list, List.drop_drop, Int.toNat_natCast, unm_sz]
  rw [show fr s + (k - fr s + 1) = k + 1 by omega, show s.size - fr s - (k - fr s + 1) = s.size - (k + 1) by omega]
theorem slash_ex (s : ByteArray) : ∃ k, Slash s k := by
  by_cases h : ∃ k, k < s.size ∧ bt s k = 47
  · obtain ⟨k, hk⟩ := h
    have : ∃ k, (k < s.size ∧ bt s k = 47) ∧ ∀ j, j < k → ¬ (j < s.size ∧ bt s j = 47) := by
      induction k using Nat.strongRecOn with
      | ind k ih =>
        by_cases c : ∃ j, j < k ∧ j < s.size ∧ bt s j = 47
        · obtain ⟨j, c1, c2⟩ := c; exact ih j c1 c2
        · exact ⟨k, hk, fun j hj e => c ⟨j, hj, e⟩⟩
    obtain ⟨k, h1, h2⟩ := this
    exact ⟨k, by omega, fun j hj e => h2 j hj ⟨by omega, e⟩, fun _ => h1.2⟩
  · exact ⟨s.size, Nat.le_refl _, fun j hj e => h ⟨j, hj, e⟩, fun c => by omega⟩
theorem Slash.uniq {s : ByteArray} {k l : Nat} (h : Slash s k) (h' : Slash s l) : k = l := by
  rcases Nat.lt_trichotomy k l with c | c | c
  · exact absurd (h.2.2 (by have := h'.1; omega)) (h'.2.1 k c)
  · exact c
  · exact absurd (h'.2.2 (by have := h.1; omega)) (h.2.1 l c)
theorem Msp.ge {s : ByteArray} {v : Int} (h : Msp s v) : v = -1 ∨ 0 ≤ v := by
  rcases h with ⟨i, rfl, _⟩ | ⟨_, ⟨rfl, _⟩ | ⟨i, rfl, _⟩⟩
  · exact .inr (by omega)
  · exact .inl rfl
  · exact .inr (by omega)
theorem Msp.uniq {s : ByteArray} {v u : Int} (h : Msp s v) (k : Msp s u) : v = u := by
  rcases h with ⟨i, rfl, h1, h2, h3⟩ | ⟨h0, h⟩
  · rcases k with ⟨j, rfl, k1, k2, k3⟩ | ⟨k0, k⟩
    · rcases Nat.lt_trichotomy i j with c | c | c
      · rw [k3 i c] at h2; cases h2
      · rw [c]
      · rw [h3 j c] at k2; cases k2
    · rw [k0 i h1] at h2; cases h2
  · rcases k with ⟨j, rfl, k1, k2, k3⟩ | ⟨k0, k⟩
    · rw [h0 j k1] at k2; cases k2
    · rcases h with ⟨rfl, h1⟩ | ⟨i, rfl, h1, h2, h3⟩ <;> rcases k with ⟨rfl, k1⟩ | ⟨j, rfl, k1, k2, k3⟩
      · rfl
      · exact absurd k2 (h1 j k1)
      · exact absurd h2 (k1 i h1)
      · rcases Nat.lt_trichotomy i j with c | c | c
        · exact absurd h2 (k3 i c)
        · rw [c]
        · exact absurd k2 (h3 j c)
/-- What Parse answers: a number q, or the error e at a. The text is too long; a sign is misplaced; the part in front is no number; without a slash; the part behind is none; it is 0; it is a number. -/
def PQ (s : ByteArray) (e a : Int) (q : Rat) : Prop :=
  (20000 < s.size ∧ e = 4 ∧ a = 20000) ∨
  (s.size ≤ 20000 ∧ Msp s a ∧ 0 ≤ a ∧ e = 11) ∨
  (s.size ≤ 20000 ∧ Msp s (-1) ∧ ∃ k, Slash s k ∧
    ((∃ b, PE (s.extract (fr s) k) e b ∧ e ≠ 0 ∧ a = b + (fr s : Nat)) ∨
     (PE (s.extract (fr s) k) 0 0 ∧ ((¬ k < s.size ∧ e = 0 ∧ a = 0 ∧ q = mkRat (sn (mns s) (pnum (s.extract (fr s) k))) 1) ∨
       (k < s.size ∧ ((∃ b, PE (s.extract (k + 1) s.size) e b ∧ e ≠ 0 ∧ a = b + (k + 1 : Nat)) ∨
         (PE (s.extract (k + 1) s.size) 0 0 ∧ ((pnum (s.extract (k + 1) s.size) = 0 ∧ e = 6 ∧ a = (k + 1 : Nat)) ∨
           (pnum (s.extract (k + 1) s.size) ≠ 0 ∧ e = 0 ∧ a = 0 ∧ q = mkRat (sn (mns s) (pnum (s.extract (fr s) k))) (pnum (s.extract (k + 1) s.size)))))))))))
theorem PQ.uniq {s : ByteArray} {e a e' a' : Int} {q q' : Rat} (h : PQ s e a q) (k : PQ s e' a' q') : e = e' ∧ a = a' ∧ (e = 0 → q = q') := by
  rcases h with ⟨h1, rfl, rfl⟩ | ⟨h1, h2, h3, rfl⟩ | ⟨h1, h2, l, h3, h⟩
  · rcases k with ⟨k1, rfl, rfl⟩ | ⟨k1, k2, k3, rfl⟩ | ⟨k1, k2, m, k3, k⟩
    · exact ⟨rfl, rfl, fun c => absurd c (by decide)⟩
    · omega
    · omega
  · rcases k with ⟨k1, rfl, rfl⟩ | ⟨k1, k2, k3, rfl⟩ | ⟨k1, k2, m, k3, k⟩
    · omega
    · exact ⟨rfl, h2.uniq k2, fun c => absurd c (by decide)⟩
    · have := h2.uniq k2; omega
  · rcases k with ⟨k1, rfl, rfl⟩ | ⟨k1, k2, k3, rfl⟩ | ⟨k1, k2, m, k3, k⟩
    · omega
    · have := h2.uniq k2; omega
    · obtain rfl := h3.uniq k3
      rcases h with ⟨b, h4, h5, rfl⟩ | ⟨h4, h⟩ <;> rcases k with ⟨b', k4, k5, rfl⟩ | ⟨k4, k⟩
      · obtain ⟨rfl, rfl⟩ := h4.unique k4
        exact ⟨rfl, rfl, fun c => absurd c h5⟩
      · exact absurd (h4.unique k4).1 h5
      · exact absurd (k4.unique h4).1 k5
      · rcases h with ⟨h5, rfl, rfl, rfl⟩ | ⟨h5, h⟩ <;> rcases k with ⟨k5, rfl, rfl, rfl⟩ | ⟨k5, k⟩
        · exact ⟨rfl, rfl, fun _ => rfl⟩
        · exact absurd k5 h5
        · exact absurd h5 k5
        · rcases h with ⟨b, h6, h7, rfl⟩ | ⟨h6, h⟩ <;> rcases k with ⟨b', k6, k7, rfl⟩ | ⟨k6, k⟩
          · obtain ⟨rfl, rfl⟩ := h6.unique k6
            exact ⟨rfl, rfl, fun c => absurd c h7⟩
          · exact absurd (h6.unique k6).1 h7
          · exact absurd (k6.unique h6).1 k7
          · rcases h with ⟨h7, rfl, rfl⟩ | ⟨h7, rfl, rfl, rfl⟩ <;> rcases k with ⟨k7, rfl, rfl⟩ | ⟨k7, rfl, rfl, rfl⟩
            · exact ⟨rfl, rfl, fun c => absurd c (by decide)⟩
            · exact absurd h7 k7
            · exact absurd k7 h7
            · exact ⟨rfl, rfl, fun _ => rfl⟩
end Go.Proofs.YtbjaolmlnkliiaaGreatDoor

/- What Parse returns. No conditions. -/
namespace Go.Proofs.YtbjaolmlnkliiaaGreatDoor
open Go.RowKit

/-- what Parse returns -/
def PRet (w : World) (s : ByteArray) (e : Ending) (w' : World) : Prop := ∃ X er a, e = .returned (.tuple #[X, .agg #[.int .i64 er, .int .i64 a]]) ∧ (∃ q, PQ s er a q ∧ RqO w' er q X) ∧ Below w.heap.size w w'
end Go.Proofs.YtbjaolmlnkliiaaGreatDoor

/- The contract of Parse at any text, and at the texts of RatKnown. Condition as a premise: the tables hold what their initialisers lay. -/
namespace Go.Proofs.YtbjaolmlnkliiaaGreatDoor
open Go.RowKit

theorem least {p : Nat → Prop} {n : Nat} (h : ∃ i, i < n ∧ p i) : ∃ i, i < n ∧ p i ∧ ∀ j, j < i → ¬ p j := by
  obtain ⟨k, hk⟩ := h
  induction k using Nat.strongRecOn with
  | ind k ih =>
    by_cases c : ∃ j, j < k ∧ p j
    · obtain ⟨j, c1, c2⟩ := c; exact ih j c1 ⟨by omega, c2⟩
    · exact ⟨k, hk.1, hk.2, fun j hj e => c ⟨j, hj, e⟩⟩
theorem msp_ex (s : ByteArray) : ∃ v, Msp s v := by
  by_cases h : ∃ i, i < s.size ∧ al (bt s i) = false
  · obtain ⟨i, h1, h2, h3⟩ := least h
    exact ⟨i, .inl ⟨i, rfl, h1, h2, fun j hj => by simpa using h3 j hj⟩⟩
  · have h0 : ∀ j, j < s.size → al (bt s j) = true := fun j hj => by
      cases e : al (bt s j)
      · exact absurd ⟨j, hj, e⟩ h
      · rfl
    by_cases k : ∃ i, i < s.size ∧ mis s i
    · obtain ⟨i, h1, h2, h3⟩ := least k
      exact ⟨i, .inr ⟨h0, .inr ⟨i, rfl, h1, h2, h3⟩⟩⟩
    · exact ⟨-1, .inr ⟨h0, .inl ⟨rfl, fun j hj e => k ⟨j, hj, e⟩⟩⟩⟩
theorem pe_ex (s : ByteArray) : ∃ e a, PE s e a := by
  by_cases h : 9216 < s.size
  · exact ⟨4, 9216, .inl ⟨h, rfl, rfl⟩⟩
  · by_cases k : ∃ i, i < s.size ∧ ¬ good s i
    · obtain ⟨i, h1, h2, h3⟩ := least k
      exact ⟨11, i, .inr (.inl ⟨by omega, i, h1, h2, fun j hj => Classical.byContradiction (h3 j hj), rfl, rfl⟩)⟩
    · have hg : ∀ i, i < s.size → good s i := fun i hi => Classical.byContradiction fun c => k ⟨i, hi, c⟩
      by_cases l : s.size = 0 ∨ (1 < s.size ∧ sb s 0 = 48)
      · exact ⟨11, 0, .inr (.inr (.inl ⟨by omega, hg, l, rfl, rfl⟩))⟩
      · exact ⟨0, 0, .inr (.inr (.inr ⟨by omega, hg, l, rfl, rfl⟩))⟩
theorem ext_size (s : ByteArray) (i : Nat) (h : i ≤ s.size) : (s.size : Int) - ((s.extract i s.size).size : Int) = (i : Int) := by
  rw [ByteArray.size_extract]; omega
theorem ratParse_any (s : ByteArray) (w : World) (hP : Tab w) (hS : Tabs w) : Calls Tryz.prog 15 #[.string s] w (PRet w s) := by
  by_cases h1 : 20000 < s.size
  · refine (ratParse_long s h1 w).mono ?_
    rintro e w' ⟨he, hb⟩
    exact ⟨_, _, _, he, ⟨0, .inl ⟨h1, rfl, rfl⟩, fun c => absurd c (by decide), fun _ => rfl⟩, hb⟩
  have h1 : s.size ≤ 20000 := by omega
  obtain ⟨v, hv⟩ := msp_ex s
  by_cases h2 : 0 ≤ v
  · refine (ratParse_syntax s h1 v h2 (fun u hu => hu.uniq hv) w).mono ?_
    rintro e w' ⟨he, hb⟩
    exact ⟨_, _, _, he, ⟨0, .inr (.inl ⟨h1, hv, h2, rfl⟩), fun c => absurd c (by decide), fun _ => rfl⟩, hb⟩
  obtain rfl : v = -1 := by have := hv.ge; omega
  obtain ⟨k, hk⟩ := slash_ex s
  obtain ⟨e1, a1, ht⟩ := pe_ex (topS (unm s))
  have ht' : PE (s.extract (fr s) k) e1 a1 := by rw [← slash_top hk]; exact ht
  have hf0 := fr_le s
  have hu := unm_sz s
  by_cases h3 : e1 = 0
  · subst h3
    obtain rfl : a1 = 0 := by
      rcases ht with ⟨_, c, _⟩ | ⟨_, _, _, _, _, c, _⟩ | ⟨_, _, _, c, _⟩ | ⟨_, _, _, _, c⟩
      · cases c
      · cases c
      · cases c
      · exact c
    have hfb := slash_fby hk
    by_cases h4 : k < s.size
    · rw [if_pos h4] at hfb
      have hf : 0 ≤ fby (unm s) 47 := by rw [hfb]; omega
      obtain ⟨e2, a2, hb2⟩ := pe_ex (botS (unm s))
      have hb2' : PE (s.extract (k + 1) s.size) e2 a2 := by rw [← slash_bot hk h4]; exact hb2
      have hsz := ext_size s (k + 1) (by omega)
      by_cases h5 : e2 = 0
      · subst h5
        obtain rfl : a2 = 0 := by
          rcases hb2 with ⟨_, c, _⟩ | ⟨_, _, _, _, _, c, _⟩ | ⟨_, _, _, c, _⟩ | ⟨_, _, _, _, c⟩
          · cases c
          · cases c
          · cases c
          · exact c
        by_cases h6 : pnum (botS (unm s)) = 0
        · refine (ratParse_zero s h1 hv hf ht hb2 h6 w hP).mono ?_
          rintro e w' ⟨he, hb⟩
          rw [slash_bot hk h4, hsz] at he
          rw [slash_bot hk h4] at h6
          exact ⟨_, _, _, he, ⟨0, .inr (.inr ⟨h1, hv, k, hk, .inr ⟨ht', .inr ⟨h4, .inr ⟨hb2', .inl ⟨h6, rfl, rfl⟩⟩⟩⟩⟩), fun c => absurd c (by decide), fun _ => rfl⟩, hb⟩
        · refine (ratParse_slash s h1 hv hf ht hb2 h6 w hP hS).mono ?_
          rintro e w' ⟨x, he, hx, hb⟩
          rw [slash_bot hk h4, slash_top hk] at hx
          rw [slash_bot hk h4] at h6
          exact ⟨_, _, _, he, ⟨_, .inr (.inr ⟨h1, hv, k, hk, .inr ⟨ht', .inr ⟨h4, .inr ⟨hb2', .inr ⟨h6, rfl, rfl, rfl⟩⟩⟩⟩⟩), fun _ => hx, fun c => absurd rfl c⟩, hb⟩
      · refine (ratParse_bot s h1 hv hf ht e2 a2 hb2 h5 w hP).mono ?_
        rintro e w' ⟨he, hb⟩
        rw [slash_bot hk h4, hsz] at he
        exact ⟨_, _, _, he, ⟨0, .inr (.inr ⟨h1, hv, k, hk, .inr ⟨ht', .inr ⟨h4, .inl ⟨a2, hb2', h5, rfl⟩⟩⟩⟩), fun c => absurd c h5, fun _ => rfl⟩, hb⟩
    · rw [if_neg h4] at hfb
      have htu : topS (unm s) = unm s := by unfold topS; rw [if_pos (by rw [hfb]; decide)]
      rw [htu] at ht
      refine (ratParse_whole s h1 hv (by rw [hfb]; decide) ht w hP hS).mono ?_
      rintro e w' ⟨x, he, hx, hb⟩
      rw [← htu, slash_top hk] at hx
      exact ⟨_, _, _, he, ⟨_, .inr (.inr ⟨h1, hv, k, hk, .inr ⟨ht', .inl ⟨h4, rfl, rfl, rfl⟩⟩⟩), fun _ => hx, fun c => absurd rfl c⟩, hb⟩
  · refine (ratParse_top s h1 hv e1 a1 ht h3 w hP).mono ?_
    rintro e w' ⟨he, hb⟩
    rw [hu, show (s.size : Int) - ((s.size - fr s : Nat) : Int) = (fr s : Nat) by omega] at he
    exact ⟨_, _, _, he, ⟨0, .inr (.inr ⟨h1, hv, k, hk, .inl ⟨a1, ht', h3, rfl⟩⟩), fun c => absurd c h3, fun _ => rfl⟩, hb⟩

/-! the texts of RatKnown -/
theorem il1 {N : Nat} (h : N < 10) : IsLen N 1 := ⟨by omega, by omega, fun h => by omega⟩
theorem ps_a {w : World} (hP : Tab w) (hS : Tabs w) : Calls Tryz.prog 15 #[.string ⟨#[45, 54, 47, 52]⟩] w fun e w' => ∃ x, e = .returned (.tuple #[x, .agg #[.int .i64 0, .int .i64 0]]) ∧ Rq w' (mkRat (-3) 2) x ∧ Below w.heap.size w w' := by
  have C := parse_fr (w := w) true (il1 (N := 6) (by decide)) (il1 (N := 4) (by decide)) (by decide) (by decide) (by decide) hP hS
  rw [show frT true 6 1 4 1 = ⟨#[45, 54, 47, 52]⟩ by decide +kernel, show mkRat (sn true 6) 4 = mkRat (-3) 2 by decide +kernel] at C
  exact C
theorem ps_b {w : World} (hP : Tab w) (hS : Tabs w) : Calls Tryz.prog 15 #[.string ⟨#[45, 48, 47, 51]⟩] w fun e w' => ∃ x, e = .returned (.tuple #[x, .agg #[.int .i64 0, .int .i64 0]]) ∧ Rq w' (mkRat 0 1) x ∧ Below w.heap.size w w' := by
  have C := parse_fr (w := w) true (il1 (N := 0) (by decide)) (il1 (N := 3) (by decide)) (by decide) (by decide) (by decide) hP hS
  rw [show frT true 0 1 3 1 = ⟨#[45, 48, 47, 51]⟩ by decide +kernel, show mkRat (sn true 0) 3 = mkRat 0 1 by decide +kernel] at C
  exact C
/-- what Parse answers is what a relation says that has just one answer -/
theorem ps_of {s : ByteArray} {er at_ : Int} (h : PQ s er at_ 0) (h0 : er ≠ 0) {w : World} (hP : Tab w) (hS : Tabs w) : Calls Tryz.prog 15 #[.string s] w fun e w' => e = .returned (.tuple #[.agg #[.bool false, .slice none 0 0, .slice none 0 0], .agg #[.int .i64 er, .int .i64 at_]]) ∧ Below w.heap.size w w' := by
  refine (ratParse_any s w hP hS).mono ?_
  rintro e w' ⟨X, er', a', he, ⟨q, hq, hX⟩, hb⟩
  obtain ⟨rfl, rfl, _⟩ := hq.uniq h
  have := hX.2 h0
  subst this
  exact ⟨he, hb⟩
instance (s : ByteArray) (i : Nat) : Decidable (mis s i) := by unfold mis; exact inferInstance
theorem ps_c {w : World} (hP : Tab w) (hS : Tabs w) : Calls Tryz.prog 15 #[.string ⟨#[49, 47, 48]⟩] w fun e w' => e = .returned (.tuple #[.agg #[.bool false, .slice none 0 0, .slice none 0 0], .agg #[.int .i64 6, .int .i64 2]]) ∧ Below w.heap.size w w' := by
  refine ps_of (.inr (.inr ⟨by decide, .inr ⟨by decide +kernel, .inl ⟨rfl, by decide +kernel⟩⟩, 1, ⟨by decide, by decide +kernel, by decide +kernel⟩, .inr ⟨?_, .inr ⟨by decide, .inr ⟨?_, .inl ⟨by decide +kernel, rfl, rfl⟩⟩⟩⟩⟩)) (by decide) hP hS
  · rw [show (⟨#[49, 47, 48]⟩ : ByteArray).extract (fr ⟨#[49, 47, 48]⟩) 1 = txt 1 1 by decide +kernel]; exact pe_txt (il1 (by decide)) (by decide)
  · rw [show (⟨#[49, 47, 48]⟩ : ByteArray).extract (1 + 1) (⟨#[49, 47, 48]⟩ : ByteArray).size = txt 0 1 by decide +kernel]; exact pe_txt (il1 (by decide)) (by decide)
theorem ps_d {w : World} (hP : Tab w) (hS : Tabs w) : Calls Tryz.prog 15 #[.string ⟨#[49, 47]⟩] w fun e w' => e = .returned (.tuple #[.agg #[.bool false, .slice none 0 0, .slice none 0 0], .agg #[.int .i64 11, .int .i64 2]]) ∧ Below w.heap.size w w' := by
  refine ps_of (.inr (.inr ⟨by decide, .inr ⟨by decide +kernel, .inl ⟨rfl, by decide +kernel⟩⟩, 1, ⟨by decide, by decide +kernel, by decide +kernel⟩, .inr ⟨?_, .inr ⟨by decide, .inl ⟨0, ?_, by decide, rfl⟩⟩⟩⟩)) (by decide) hP hS
  · rw [show (⟨#[49, 47]⟩ : ByteArray).extract (fr ⟨#[49, 47]⟩) 1 = txt 1 1 by decide +kernel]; exact pe_txt (il1 (by decide)) (by decide)
  · rw [show (⟨#[49, 47]⟩ : ByteArray).extract (1 + 1) (⟨#[49, 47]⟩ : ByteArray).size = ⟨#[]⟩ by decide +kernel]; exact .inr (.inr (.inl ⟨by decide, fun i hi => absurd hi (Nat.not_lt_zero _), .inl rfl, rfl, rfl⟩))
theorem ps_e {w : World} (hP : Tab w) (hS : Tabs w) : Calls Tryz.prog 15 #[.string ⟨#[49, 45, 50]⟩] w fun e w' => e = .returned (.tuple #[.agg #[.bool false, .slice none 0 0, .slice none 0 0], .agg #[.int .i64 11, .int .i64 1]]) ∧ Below w.heap.size w w' :=
  ps_of (.inr (.inl ⟨by decide, .inr ⟨by decide +kernel, .inr ⟨1, rfl, by decide, by decide +kernel, by decide +kernel⟩⟩, by decide, rfl⟩)) (by decide) hP hS
theorem ps_f {w : World} (hP : Tab w) (hS : Tabs w) : Calls Tryz.prog 15 #[.string ⟨#[49, 47, 47, 50]⟩] w fun e w' => e = .returned (.tuple #[.agg #[.bool false, .slice none 0 0, .slice none 0 0], .agg #[.int .i64 11, .int .i64 2]]) ∧ Below w.heap.size w w' :=
  ps_of (.inr (.inl ⟨by decide, .inr ⟨by decide +kernel, .inr ⟨2, rfl, by decide, by decide +kernel, by decide +kernel⟩⟩, by decide, rfl⟩)) (by decide) hP hS
theorem ps_g {w : World} (hP : Tab w) (hS : Tabs w) : Calls Tryz.prog 15 #[.string ⟨#[48, 49]⟩] w fun e w' => e = .returned (.tuple #[.agg #[.bool false, .slice none 0 0, .slice none 0 0], .agg #[.int .i64 11, .int .i64 0]]) ∧ Below w.heap.size w w' := by
  refine ps_of (.inr (.inr ⟨by decide, .inr ⟨by decide +kernel, .inl ⟨rfl, by decide +kernel⟩⟩, 2, ⟨by decide, by decide +kernel, by decide +kernel⟩, .inl ⟨0, ?_, by decide, by decide +kernel⟩⟩)) (by decide) hP hS
  rw [show (⟨#[48, 49]⟩ : ByteArray).extract (fr ⟨#[48, 49]⟩) 2 = ⟨#[48, 49]⟩ by decide +kernel]
  refine .inr (.inr (.inl ⟨by decide, ?_, .inr ⟨by decide, by decide +kernel⟩, rfl, rfl⟩))
  unfold good
  decide +kernel
end Go.Proofs.YtbjaolmlnkliiaaGreatDoor

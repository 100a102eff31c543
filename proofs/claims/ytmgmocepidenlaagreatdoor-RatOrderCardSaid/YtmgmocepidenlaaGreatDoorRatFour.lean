/- The contracts of the functions under the laws of package rat: Limbs, RatY, joined into one file. -/
import Derived.Test.YtmgmocepidenlaaGreatDoorTrim
import Derived.Test.YtmgmocepidenlaaGreatDoorRatThree
import Derived.Deep.RegionHeld3
import Derived.Deep.DrawnRows
import Derived.Deep.DeepCutAuto
/- The contract of Limbs: it makes a valid list of at most as many limbs. Conditions as premises: the list reads, and has at most 1000 limbs. -/
namespace Go.Proofs.YtmgmocepidenlaaGreatDoor
open Go.RowKit

theorem oneCell_u32 (x : Int) : ∀ u ∈ [Value.int .u32 x], u.oneCell' = true := by intro u hu; simp at hu; subst hu; rfl
theorem size_one {w : World} {B : Nat} (h : B ≤ w.heap.size) (o : Obj) : B ≤ (w.alloc o).heap.size := by simp; omega

set_option maxHeartbeats 1600000 in
set_option maxRecDepth 100000 in
theorem limbs_any (A : Option Addr) (n c : Nat) (f : Nat → Nat) (w : World) (h : Rs w w.heap.size A n c f) (hn : n ≤ 1000) :
    Calls Tryz.prog 105 #[.slice A n c] w fun e w' => ∃ A' m c' g, e = .returned (.slice A' m c') ∧ Rs w' w'.heap.size A' m c' g ∧ Val m g ∧ m ≤ n ∧ Below w.heap.size w w' := by
  go_enter Tryz.func105, Tryz.ntmps105
  go_wp2_with fail
  go_loopw [3, 4] (fun v i wr => ∃ k : Nat, k ≤ n ∧ i = .int .i64 k ∧ Own wr w.heap.size v k (fun j => f j % LB) ∧ Below w.heap.size w wr) (fun _ i _ => n - (intOf i).toNat)
  case atStart => exact ⟨0, Nat.zero_le _, rfl, Own.nil _ _ _, Below.refl _ _⟩
  case round =>
    obtain ⟨k, hk, rfl, hown, hbel⟩ := hrel
    by_cases hlt : k < n
    · have hr := h.below hbel
      obtain ⟨b, off, rfl, hb, hc⟩ := hr.cell (by omega)
      have hck := hc k hlt
      have hx0 := iv_nonneg (f k)
      have hmod : iv (f k) % 1000000000 = iv (f k % LB) := by rw [iv_eq, iv_eq, LB_eq]; rfl
      have HM := Lib.hid hmod
      have hsz := hbel.size
      clear hc hmod
      generalize hgx : iv (f k) = x at *
      have HGX := Lib.hid hgx
      clear hgx
      obtain ⟨i0, hi, hz0, hz1, hz2⟩ := info_parts info32
      go_wp2_with (at_builtin; refine wpList_append_own _ rfl (.tmp 11) (.tmp 17) 23 rfl w.heap.size 48 i0 (.int .u32 0) 1 4 Tryz.underlying23 hi hz0 hz1 hz2 rfl (by decide) _ _ _ rfl (World.ownsRow.alloc hown _) ⟨wr.heap.size, 0, none⟩ 1 1 [.int .u32 (x % 1000000000)] rfl rfl (cell_one_new _ _ _) (oneCell_u32 _) (by unfold maxLen; omega) (by omega) (size_one hsz _) ?_)
      intro v' w1 hown' hgrow _
      have hb1 := snoc_below hown hbel (Nat.le_refl _) hsz hgrow
      rw [HM.out] at hown'
      have hown1 := Own.snoc hown' rfl
      clear hown' hgrow hown hbel
      go_wp2_with fail
      go_roundw
      case rel => exact ⟨k + 1, by omega, by go_num, hown1, hb1⟩
      case measure => simp [intOf] <;> omega
    · obtain rfl : k = n := by omega
      obtain ⟨wo, rfl⟩ : ∃ wo : World, wo = wr := ⟨_, rfl⟩
      have hlb : ∀ j, f j % LB < LB := fun j => Nat.mod_lt _ LB_pos
      obtain ⟨V, cap, rfl, hr⟩ := hown.rs (fun j _ => by have := hlb j; rw [LB_eq] at this ⊢; omega)
      have HR := Lib.hid hr
      have hcap := hr.cap
      have hcm : (cap : Int) ≤ 9223372036854775807 := by have := hr.max; omega
      clear hown hr hlb
      go_wp2_with fail
      go_loop [3] (fun s => ∃ m : Nat, m ≤ k ∧ s = .slice V m cap) (fun s => lenV s)
      case atStart => exact ⟨_, Nat.le_refl _, rfl⟩
      case round =>
        obtain ⟨m, hm, rfl⟩ := hrel
        by_cases hm0 : m = 0
        · subst hm0
          go_wp2_with fail
          go_ret
          exact ⟨_, 0, _, rfl, _, HR.out.take (by omega), ⟨fun j hj => by omega, fun h => by omega⟩, by omega, hbel⟩
        · have hmp : 0 < m := by omega
          have hmp' : (0 : Int) < (m : Int) := by omega
          have hmc : m ≤ cap := by omega
          obtain ⟨g, off, rfl, hg, hcell⟩ := HR.out.cell (by omega)
          have hcm := hcell (m - 1) (by omega)
          clear hm0 hcell
          by_cases hl : f (m - 1) % LB = 0
          · rw [hl, iv_zero] at hcm
            clear hl
            go_wp2_with fail
            go_round
            case rel => exact ⟨m - 1, by omega, by go_num⟩
            case measure => simp [lenV] <;> omega
          · have hlb : (iv (f (m - 1) % LB) == 0) = false := by rw [beq_eq_false_iff_ne]; intro e; apply hl; rw [iv_eq] at e; omega
            have HL := Lib.hid hl
            generalize iv (f (m - 1) % LB) = x at *
            clear hl
            go_wp2_with fail
            go_ret
            exact ⟨_, m, _, rfl, _, HR.out.take hm, ⟨fun j _ => Nat.mod_lt _ LB_pos, fun _ => HL.out⟩, hm, hbel⟩

end Go.Proofs.YtmgmocepidenlaaGreatDoor

/- The contracts of Make and of the laws' sum, product and number. Conditions as premises: the numbers read, and are short enough. -/
namespace Go.Proofs.YtmgmocepidenlaaGreatDoor
open Go.RowKit Go.Shelf
attribute [local go_sem ↓] Go.wp_at_zero Go.wp_at_succ

theorem checkNr {w : World} {N : Nat} {v : Value} (h : Nr w N v) (hN : N < LB ^ NL) :
    Calls Tryz.prog 69 #[v] w fun e w' => e = .returned (.int .i64 0) ∧ w = w' := by
  obtain ⟨A, n, c, f, rfl, hr, hd⟩ := h
  have := check_any A n c f _ w hr
  rw [Nr.chk hd hN] at this
  exact this

set_option maxRecDepth 100000 in
set_option maxHeartbeats 4000000 in
theorem ratMakeQ {w : World} {N D : Nat} {v u : Value} (neg : Bool) (h : Nr w N v) (k : Nr w D u) (hN : N < LB ^ NL) (hDl : D < LB ^ NL) (hD : D ≠ 0) :
    Calls Tryz.prog 30 #[.bool neg, v, u] w fun e w' => ∃ x, e = .returned (.tuple #[x, .int .i64 0]) ∧ Rq w' (mkRat (sn neg N) D) x ∧ Below w.heap.size w w' := by
  obtain ⟨A1, n1, c1, rfl, _⟩ := h.len
  obtain ⟨A2, n2, c2, rfl, hz2⟩ := k.len
  have hb0 := below1 w (.cells #[.bool false, .slice none 0 0, .slice none 0 0] 25)
  have C1 := Lib.hid (checkNr (h.below hb0) hN)
  have C2 := Lib.hid (checkNr (k.below hb0) hDl)
  have C3 := Lib.hid (signedN neg (h.below hb0))
  have H := Lib.hid (h.below hb0)
  have K := Lib.hid (k.below hb0)
  have HB := Lib.hid hb0
  have X := Lib.hid (Blk.new w #[.bool false, .slice none 0 0, .slice none 0 0] 25)
  have hlen : ((n2 : Int) == 0) = false := by rw [beq_eq_false_iff_ne]; intro e; exact hD (hz2.1 (by omega))
  have L := Lib.hid (And.intro hN (And.intro hDl hD))
  clear h k hb0 hN hDl hD hz2
  go_enter Tryz.func30, Tryz.ntmps30
  go_wp2_with fail
  refine C1.out.mono ?_
  rintro _ _ ⟨rfl, rfl⟩
  go_wp2_with fail
  refine C2.out.mono ?_
  rintro _ _ ⟨rfl, rfl⟩
  go_wp2_with fail
  refine C3.out.mono ?_
  rintro _ w1 ⟨x, rfl, hall, hb⟩
  obtain ⟨s, B, m, d, rfl, _, es, hs⟩ := (hall _ H.out).get
  have hfs := field_side s B m d w1
  have C4 := reducedQ (z := sn neg N) (Fr.mk (H.out.below hb) (K.out.below hb)) (sn_abs _ _) L.out.2.2 L.out.1 L.out.2.1
  rw [← es.out] at C4
  have C5 := Lib.hid C4
  replace HB := Lib.hid (HB.out.trans (hb.mono HB.out.size))
  replace X := Lib.hid (X.out.after hb)
  clear hall hb C4
  go_wp2_with fail
  refine C5.out.mono ?_
  rintro _ w2 ⟨x, rfl, hx, hb⟩
  obtain ⟨b3, B1, m1, e1, B2, m2, e2, rfl, _, _, _⟩ := hx.get
  replace HB := Lib.hid (HB.out.trans (hb.mono HB.out.size))
  replace X := Lib.hid (X.out.after hb)
  have HX := Lib.hid hx
  have z4 : w.heap.size < w2.heap.size := X.out.lt
  have d0 := X.out.cell (i := 0) rfl
  have d1 := X.out.cell (i := 1) rfl
  have d2 := X.out.cell (i := 2) rfl
  have ff := X.out.free
  clear hx hb C5 hfs
  go_wp2_with fail
  refine bodyPost_ret (results_row_tmp (p := 6) (ty := 25) rfl _ _ w.heap.size 25 _ _ _ rfl X.out.set.set.set Tryz.underlying25 rfl (by kernel_rfl)) rfl ?_
  obtain ⟨g1, g2, g3⟩ := HX.out.inv
  exact ⟨_, rfl, Rq.mk g3 rfl rfl (g1.put3 X.out (hnoR _ _ _ _ _ _ _)) (g2.put3 X.out (hnoR _ _ _ _ _ _ _)), ((HB.out.setCell (Nat.le_refl _) _).setCell (Nat.le_refl _) _).setCell (Nat.le_refl _) _⟩

set_option maxRecDepth 100000 in
set_option maxHeartbeats 4000000 in
theorem lawsumQ {w : World} {i j : Nat} {a b : Rat} {v u : Value} (ha : Rq w a v) (hb : Rq w b u) (hT : Tabs w) (sa : Sz i a) (sb : Sz j b) (hij : i + j ≤ 1023) :
    Calls Tryz.prog 50 #[v, u] w fun e w' => ∃ t, e = .returned t ∧ Rq w' (a + b) t ∧ Below w.heap.size w w' := by
  obtain ⟨b1, A1, n1, c1, A2, n2, c2, rfl, _, _, _⟩ := ha.get
  obtain ⟨b2, A3, n3, c3, A4, n4, c4, rfl, _, _, _⟩ := hb.get
  have hbb : Below w.heap.size w (((w.alloc (.cells #[.bool b1, .slice A1 n1 c1, .slice A2 n2 c2] 25)).alloc (.cells #[.bool b2, .slice A3 n3 c3, .slice A4 n4 c4] 25)).alloc (.cells #[.bool false, .slice none 0 0, .slice none 0 0] 25)) := (below2 w _ _).alloc (by simp; omega) _
  have k4 := Blk.new ((w.alloc (.cells #[.bool b1, .slice A1 n1 c1, .slice A2 n2 c2] 25)).alloc (.cells #[.bool b2, .slice A3 n3 c3, .slice A4 n4 c4] 25)) #[.bool false, .slice none 0 0, .slice none 0 0] 25
  simp only [World.size_alloc] at k4
  have C := Lib.hid (ratAddQ (ha.below hbb) (hb.below hbb) (hT.below hbb) sa sb hij)
  have HB := Lib.hid hbb
  have K4 := Lib.hid k4
  clear ha hb hT hbb k4 sa sb
  go_enter Tryz.func50, Tryz.ntmps50
  go_wp2_with fail
  refine C.out.mono ?_
  rintro _ w1 ⟨x, rfl, hx, hb⟩
  obtain ⟨b3, B1, m1, e1, B2, m2, e2, rfl, _, _, _⟩ := hx.get
  replace HB := Lib.hid (HB.out.trans (hb.mono HB.out.size))
  have K1 := K4.out.after hb
  have HX := Lib.hid hx
  have z4 : w.heap.size + 1 + 1 < w1.heap.size := K1.lt
  have d0 := K1.cell (i := 0) rfl
  have d1 := K1.cell (i := 1) rfl
  have d2 := K1.cell (i := 2) rfl
  have ff := K1.free
  have KK := Lib.hid K1
  clear hx hb C K1
  go_wp2_with fail
  have hb9 := ((HB.out.setCell (p := ⟨w.heap.size + 1 + 1, 0, none⟩) (by simp; omega) (.bool b3)).setCell (p := ⟨w.heap.size + 1 + 1, 1, none⟩) (by simp; omega) (.slice B1 m1 e1)).setCell (p := ⟨w.heap.size + 1 + 1, 2, none⟩) (by simp; omega) (.slice B2 m2 e2)
  refine bodyPost_ret (results_cell_row (p := 4) (ty := 25) rfl _ _ (w.heap.size + 1 + 1) 25 _ _ _ rfl (KK.out.set.set.set.alloc _) Tryz.underlying25 rfl (by kernel_rfl)) rfl ?_
  obtain ⟨g1, g2, g3⟩ := HX.out.inv
  exact ⟨_, rfl, Rq.mk g3 rfl rfl ((g1.put3 KK.out (hnoR _ _ _ _ _ _ _)).below (below1 _ _)) ((g2.put3 KK.out (hnoR _ _ _ _ _ _ _)).below (below1 _ _)), hb9.alloc hb9.size _⟩

set_option maxRecDepth 100000 in
set_option maxHeartbeats 4000000 in
theorem lawproductQ {w : World} {i j : Nat} {a b : Rat} {v u : Value} (ha : Rq w a v) (hb : Rq w b u) (hT : Tabs w) (sa : Sz i a) (sb : Sz j b) (hij : i + j ≤ 1024) :
    Calls Tryz.prog 51 #[v, u] w fun e w' => ∃ t, e = .returned t ∧ Rq w' (a * b) t ∧ Below w.heap.size w w' := by
  obtain ⟨b1, A1, n1, c1, A2, n2, c2, rfl, _, _, _⟩ := ha.get
  obtain ⟨b2, A3, n3, c3, A4, n4, c4, rfl, _, _, _⟩ := hb.get
  have hbb : Below w.heap.size w (((w.alloc (.cells #[.bool b1, .slice A1 n1 c1, .slice A2 n2 c2] 25)).alloc (.cells #[.bool b2, .slice A3 n3 c3, .slice A4 n4 c4] 25)).alloc (.cells #[.bool false, .slice none 0 0, .slice none 0 0] 25)) := (below2 w _ _).alloc (by simp; omega) _
  have k4 := Blk.new ((w.alloc (.cells #[.bool b1, .slice A1 n1 c1, .slice A2 n2 c2] 25)).alloc (.cells #[.bool b2, .slice A3 n3 c3, .slice A4 n4 c4] 25)) #[.bool false, .slice none 0 0, .slice none 0 0] 25
  simp only [World.size_alloc] at k4
  have C := Lib.hid (ratMulQ (ha.below hbb) (hb.below hbb) (hT.below hbb) sa sb hij)
  have HB := Lib.hid hbb
  have K4 := Lib.hid k4
  clear ha hb hT hbb k4 sa sb
  go_enter Tryz.func51, Tryz.ntmps51
  go_wp2_with fail
  refine C.out.mono ?_
  rintro _ w1 ⟨x, rfl, hx, hb⟩
  obtain ⟨b3, B1, m1, e1, B2, m2, e2, rfl, _, _, _⟩ := hx.get
  replace HB := Lib.hid (HB.out.trans (hb.mono HB.out.size))
  have K1 := K4.out.after hb
  have HX := Lib.hid hx
  have z4 : w.heap.size + 1 + 1 < w1.heap.size := K1.lt
  have d0 := K1.cell (i := 0) rfl
  have d1 := K1.cell (i := 1) rfl
  have d2 := K1.cell (i := 2) rfl
  have ff := K1.free
  have KK := Lib.hid K1
  clear hx hb C K1
  go_wp2_with fail
  have hb9 := ((HB.out.setCell (p := ⟨w.heap.size + 1 + 1, 0, none⟩) (by simp; omega) (.bool b3)).setCell (p := ⟨w.heap.size + 1 + 1, 1, none⟩) (by simp; omega) (.slice B1 m1 e1)).setCell (p := ⟨w.heap.size + 1 + 1, 2, none⟩) (by simp; omega) (.slice B2 m2 e2)
  refine bodyPost_ret (results_cell_row (p := 4) (ty := 25) rfl _ _ (w.heap.size + 1 + 1) 25 _ _ _ rfl (KK.out.set.set.set.alloc _) Tryz.underlying25 rfl (by kernel_rfl)) rfl ?_
  obtain ⟨g1, g2, g3⟩ := HX.out.inv
  exact ⟨_, rfl, Rq.mk g3 rfl rfl ((g1.put3 KK.out (hnoR _ _ _ _ _ _ _)).below (below1 _ _)) ((g2.put3 KK.out (hnoR _ _ _ _ _ _ _)).below (below1 _ _)), hb9.alloc hb9.size _⟩

theorem tmod_cases (x m : Int) (hm : 0 < m) : (x.tmod m < 0 → x.tmod m + m = x % m) ∧ (¬ x.tmod m < 0 → x.tmod m = x % m) ∧ -m < x.tmod m ∧ x.tmod m < m ∧ 0 ≤ x % m ∧ x % m < m := by
  have h1 := Int.emod_nonneg x (Int.ne_of_gt hm)
  have h2 := Int.emod_lt_of_pos x hm
  rw [Int.tmod_eq_emod]
  split
  · omega
  · have : (m.natAbs : Int) = m := by omega
    omega

set_option maxHeartbeats 800000 in
theorem modN (x m : Int) (hm : 0 < m) (hm2 : m ≤ 1000000) (w : World) :
    Calls Tryz.prog 49 #[.int .i64 x, .int .i64 m] w fun e w' => e = .returned (.int .i64 (x % m)) ∧ w = w' := by
  obtain ⟨t1, t2, t3, t4, t5, t6⟩ := tmod_cases x m hm
  have hmz : (m == 0) = false := by rw [beq_eq_false_iff_ne]; omega
  by_cases hx : x.tmod m < 0
  · have HE := Lib.hid (t1 hx)
    clear t1 t2 t5 t6
    go_enter Tryz.func49, Tryz.ntmps49
    go_wp2
    go_ret
    exact ⟨ret_int HE.out, rfl⟩
  · have HE := Lib.hid (t2 hx)
    clear t1 t2 t5 t6
    go_enter Tryz.func49, Tryz.ntmps49
    go_wp2
    go_ret
    exact ⟨ret_int HE.out, rfl⟩

theorem ratCheckQ {w : World} {q : Rat} {v : Value} (h : Rq w q v) (s : Sz 1024 q) :
    Calls Tryz.prog 26 #[v] w fun e w' => e = .returned (.int .i64 0) ∧ Below w.heap.size w w' := by
  obtain ⟨b, A1, n1, c1, f1, A2, n2, c2, f2, rfl, hr, h0⟩ := h.raw (lt_NL s.1 (by omega)) (lt_NL s.2 (by omega))
  have := ratCheck_any hr
  rw [h0] at this
  exact this

theorem limbs8 {A : Option Addr} {n c : Nat} {f : Nat → Nat} {w : World} (h : Rs w w.heap.size A n c f) (hn : n ≤ 8) :
    Calls Tryz.prog 105 #[.slice A n c] w fun e w' => ∃ x N, e = .returned x ∧ Nr w' N x ∧ N < LB ^ 8 ∧ Below w.heap.size w w' := by
  refine (limbs_any A n c f w h (by omega)).mono ?_
  rintro e w' ⟨A', m, c', g, he, hr, hv, hm, hb⟩
  exact ⟨_, nv g m, he, ⟨A', m, c', g, rfl, hr, ⟨hv, rfl⟩⟩, Nat.lt_of_lt_of_le hv.lt (pow_le_of (by omega)), hb⟩

theorem sz_mkq {neg : Bool} {N D k : Nat} (h1 : N < LB ^ k) (h2 : D < LB ^ k) (h3 : D ≠ 0) : Sz k (mkRat (sn neg N) D) := by
  obtain ⟨_, e2, e3⟩ := mkRat_red (sn neg N) D h3
  rw [sn_abs] at e2
  exact ⟨by rw [e2]; exact Nat.lt_of_le_of_lt (Nat.div_le_self _ _) h1, by rw [e3]; exact Nat.lt_of_le_of_lt (Nat.div_le_self _ _) h2⟩

set_option maxRecDepth 100000 in
set_option maxHeartbeats 8000000 in
theorem numberQ {w : World} {A A' : Option Addr} {n c m c' : Nat} {f g : Nat → Nat} (neg : Bool) (hA : Rs w w.heap.size A n c f) (hB : Rs w w.heap.size A' m c' g) (hn : n ≤ 8) (hm : m ≤ 8) :
    Calls Tryz.prog 48 #[.slice A n c, .slice A' m c', .bool neg] w fun e w' => ∃ t q, e = .returned (.tuple #[t, .bool true]) ∧ Rq w' q t ∧ Sz 8 q ∧ Below w.heap.size w w' := by
  have hb0 := below1 w (.cells #[.bool false, .slice none 0 0, .slice none 0 0] 25)
  have HA := Lib.hid ((hA.below hb0).more hb0.size)
  have C := Lib.hid (limbs8 ((hB.below hb0).more hb0.size) hm)
  have HB := Lib.hid hb0
  have K4 := Lib.hid (Blk.new w #[.bool false, .slice none 0 0, .slice none 0 0] 25)
  clear hA hB hb0
  go_enter Tryz.func48, Tryz.ntmps48
  go_wp2_with fail
  refine C.out.mono ?_
  rintro _ w1 ⟨x, D, rfl, hx, hD, hb⟩
  obtain ⟨B, d, bc, rfl, hz⟩ := hx.len
  replace HA := Lib.hid ((HA.out.below hb).more hb.size)
  replace HB := Lib.hid (HB.out.trans (hb.mono HB.out.size))
  replace K4 := Lib.hid (K4.out.after hb)
  have HX := Lib.hid hx
  clear hx hb C
  by_cases hd : d = 0
  · subst hd
    clear hz
    go_upto_region 4 with fail
    have HO := Lib.hid (nr_one w1)
    have hb := below1 w1 (.cells #[.int .u32 1] 48)
    replace HA := Lib.hid ((HA.out.below hb).more hb.size)
    replace HB := Lib.hid (HB.out.trans (hb.mono HB.out.size))
    replace K4 := Lib.hid (K4.out.after hb)
    clear hb HX hD
    generalize hP : w1.heap.size = P at *
    generalize w1.alloc (.cells #[.int .u32 1] 48) = w2 at *
    have hD : (1 : Nat) < LB ^ 8 := Nat.one_lt_pow (by omega) (by rw [LB_eq]; omega)
    have hD0 : (1 : Nat) ≠ 0 := by omega
    have HX := HO
    have HDD := Lib.hid (And.intro hD hD0)
    clear HO hP hD hD0
    have C2 := Lib.hid (limbs8 HA.out hn)
    go_wp2_with fail
    refine C2.out.mono ?_
    rintro _ w3 ⟨x, N, rfl, hx, hN, hb⟩
    have C3 := Lib.hid (ratMakeQ neg hx (HX.out.below hb) (lt_NL hN (by omega)) (lt_NL HDD.out.1 (by omega)) HDD.out.2)
    have SQ := Lib.hid (sz_mkq (neg := neg) hN HDD.out.1 HDD.out.2)
    replace HB := Lib.hid (HB.out.trans (hb.mono HB.out.size))
    replace K4 := Lib.hid (K4.out.after hb)
    clear hx hN hb C2 HA HX HDD
    go_wp2_with fail
    refine C3.out.mono ?_
    rintro _ w4 ⟨x, rfl, hx, hb⟩
    obtain ⟨b3, B1, m1, e1, B2, m2, e2, rfl, _, _, _⟩ := hx.get
    generalize mkRat (sn neg N) _ = q at *
    have hba := below1 w4 (.cells #[.bool b3, .slice B1 m1 e1, .slice B2 m2 e2] 25)
    have hbb := hb.trans (hba.mono hb.size)
    replace HB := Lib.hid (HB.out.trans (hbb.mono HB.out.size))
    have z0 := (K4.out.after hb).lt
    have KN := Lib.hid (Blk.new w4 #[.bool b3, .slice B1 m1 e1, .slice B2 m2 e2] 25)
    replace K4 := Lib.hid (K4.out.after hbb)
    have HQ := Lib.hid (hx.below hba)
    clear hx hb hba hbb C3
    go_upto_region 5 with fail
    generalize hP4 : w4.heap.size = P4 at *
    clear hP4
    generalize w4.alloc (.cells #[.bool b3, .slice B1 m1 e1, .slice B2 m2 e2] 25) = w5 at *
    have KEEP : Hid (∀ W, Below w5.heap.size w5 W → W.cell? ⟨P4, 0, none⟩ = some (.bool b3) ∧ W.cell? ⟨P4, 1, none⟩ = some (.slice B1 m1 e1) ∧ W.cell? ⟨P4, 2, none⟩ = some (.slice B2 m2 e2)) := Lib.hid fun W h1 => ⟨(KN.out.after h1).cell rfl, (KN.out.after h1).cell rfl, (KN.out.after h1).cell rfl⟩
    have hdrew : Below w5.heap.size w5 w5.drew := (Below.refl _ _).drew
    have CC : Hid (∀ W, Below w5.heap.size w5 W → _) := Lib.hid fun W (h1 : Below w5.heap.size w5 W) => ratCheckQ (HQ.out.below h1) (SQ.out.up (by omega))
    have hne : w.heap.size ≠ P4 := by omega
    have z4 : w.heap.size < w5.heap.size := K4.out.lt
    have f0 := (K4.out.after hdrew).cell (i := 0) rfl
    have f1 := (K4.out.after hdrew).cell (i := 1) rfl
    have f2 := (K4.out.after hdrew).cell (i := 2) rfl
    have ffd := (K4.out.after hdrew).free
    go_region_held3 (fun W => W.cell? ⟨P4, 0, none⟩ = some (.bool b3) ∧ W.cell? ⟨P4, 1, none⟩ = some (.slice B1 m1 e1) ∧ W.cell? ⟨P4, 2, none⟩ = some (.slice B2 m2 e2))
      (first | with_reducible exact KEEP.out w5.drew hdrew | with_reducible exact KEEP.out wa hka | go_keep)
      (first
        | (go_at_call 26; (with_reducible refine (CC.out w5.drew hdrew).mono ?_); rintro _ wa ⟨rfl, hb1⟩; have hka := hdrew.trans (hb1.mono hdrew.size); have z5 : w.heap.size < wa.heap.size := Nat.lt_of_lt_of_le z4 hka.size; have g0 := (K4.out.after hka).cell (i := 0) rfl; have g1 := (K4.out.after hka).cell (i := 1) rfl; have g2 := (K4.out.after hka).cell (i := 2) rfl; have ff := (K4.out.after hka).free))
    rename_i wa hka _ _ _ _ _
    have K4a := K4.out.after hka
    have HQa := HQ.out.below hka
    have HBa := HB.out.trans (hka.mono HB.out.size)
    clear f0 f1 f2 ffd CC KEEP HQ HB K4 KN
    go_wp2_with fail
    refine bodyPost_ret (results_row_tmp (p := 6) (ty := 25) rfl _ _ w.heap.size 25 _ _ _ rfl K4a.set.set.set Tryz.underlying25 rfl (by kernel_rfl)) rfl ?_
    obtain ⟨g1, g2, g3⟩ := HQa.inv
    exact ⟨_, q, rfl, Rq.mk g3 rfl rfl (g1.put3 K4a (hnoR _ _ _ _ _ _ _)) (g2.put3 K4a (hnoR _ _ _ _ _ _ _)), SQ.out, ((HBa.setCell (Nat.le_refl _) _).setCell (Nat.le_refl _) _).setCell (Nat.le_refl _) _⟩
  · have hd' : ((d : Int) == 0) = false := by rw [beq_eq_false_iff_ne]; omega
    have hD0 : D ≠ 0 := fun e => hd (hz.2 e)
    have HDD := Lib.hid (And.intro hD hD0)
    clear hz hd hD hD0
    go_upto_region 4 with fail
    generalize w1 = w2 at *
    have C2 := Lib.hid (limbs8 HA.out hn)
    go_wp2_with fail
    refine C2.out.mono ?_
    rintro _ w3 ⟨x, N, rfl, hx, hN, hb⟩
    have C3 := Lib.hid (ratMakeQ neg hx (HX.out.below hb) (lt_NL hN (by omega)) (lt_NL HDD.out.1 (by omega)) HDD.out.2)
    have SQ := Lib.hid (sz_mkq (neg := neg) hN HDD.out.1 HDD.out.2)
    replace HB := Lib.hid (HB.out.trans (hb.mono HB.out.size))
    replace K4 := Lib.hid (K4.out.after hb)
    clear hx hN hb C2 HA HX HDD
    go_wp2_with fail
    refine C3.out.mono ?_
    rintro _ w4 ⟨x, rfl, hx, hb⟩
    obtain ⟨b3, B1, m1, e1, B2, m2, e2, rfl, _, _, _⟩ := hx.get
    generalize mkRat (sn neg N) _ = q at *
    have hba := below1 w4 (.cells #[.bool b3, .slice B1 m1 e1, .slice B2 m2 e2] 25)
    have hbb := hb.trans (hba.mono hb.size)
    replace HB := Lib.hid (HB.out.trans (hbb.mono HB.out.size))
    have z0 := (K4.out.after hb).lt
    have KN := Lib.hid (Blk.new w4 #[.bool b3, .slice B1 m1 e1, .slice B2 m2 e2] 25)
    replace K4 := Lib.hid (K4.out.after hbb)
    have HQ := Lib.hid (hx.below hba)
    clear hx hb hba hbb C3
    go_upto_region 5 with fail
    generalize hP4 : w4.heap.size = P4 at *
    clear hP4
    generalize w4.alloc (.cells #[.bool b3, .slice B1 m1 e1, .slice B2 m2 e2] 25) = w5 at *
    have KEEP : Hid (∀ W, Below w5.heap.size w5 W → W.cell? ⟨P4, 0, none⟩ = some (.bool b3) ∧ W.cell? ⟨P4, 1, none⟩ = some (.slice B1 m1 e1) ∧ W.cell? ⟨P4, 2, none⟩ = some (.slice B2 m2 e2)) := Lib.hid fun W h1 => ⟨(KN.out.after h1).cell rfl, (KN.out.after h1).cell rfl, (KN.out.after h1).cell rfl⟩
    have hdrew : Below w5.heap.size w5 w5.drew := (Below.refl _ _).drew
    have CC : Hid (∀ W, Below w5.heap.size w5 W → _) := Lib.hid fun W (h1 : Below w5.heap.size w5 W) => ratCheckQ (HQ.out.below h1) (SQ.out.up (by omega))
    have hne : w.heap.size ≠ P4 := by omega
    have z4 : w.heap.size < w5.heap.size := K4.out.lt
    have f0 := (K4.out.after hdrew).cell (i := 0) rfl
    have f1 := (K4.out.after hdrew).cell (i := 1) rfl
    have f2 := (K4.out.after hdrew).cell (i := 2) rfl
    have ffd := (K4.out.after hdrew).free
    go_region_held3 (fun W => W.cell? ⟨P4, 0, none⟩ = some (.bool b3) ∧ W.cell? ⟨P4, 1, none⟩ = some (.slice B1 m1 e1) ∧ W.cell? ⟨P4, 2, none⟩ = some (.slice B2 m2 e2))
      (first | with_reducible exact KEEP.out w5.drew hdrew | with_reducible exact KEEP.out wa hka | go_keep)
      (first
        | (go_at_call 26; (with_reducible refine (CC.out w5.drew hdrew).mono ?_); rintro _ wa ⟨rfl, hb1⟩; have hka := hdrew.trans (hb1.mono hdrew.size); have z5 : w.heap.size < wa.heap.size := Nat.lt_of_lt_of_le z4 hka.size; have g0 := (K4.out.after hka).cell (i := 0) rfl; have g1 := (K4.out.after hka).cell (i := 1) rfl; have g2 := (K4.out.after hka).cell (i := 2) rfl; have ff := (K4.out.after hka).free))
    rename_i wa hka _ _ _ _ _
    have K4a := K4.out.after hka
    have HQa := HQ.out.below hka
    have HBa := HB.out.trans (hka.mono HB.out.size)
    clear f0 f1 f2 ffd CC KEEP HQ HB K4 KN
    go_wp2_with fail
    refine bodyPost_ret (results_row_tmp (p := 6) (ty := 25) rfl _ _ w.heap.size 25 _ _ _ rfl K4a.set.set.set Tryz.underlying25 rfl (by kernel_rfl)) rfl ?_
    obtain ⟨g1, g2, g3⟩ := HQa.inv
    exact ⟨_, q, rfl, Rq.mk g3 rfl rfl (g1.put3 K4a (hnoR _ _ _ _ _ _ _)) (g2.put3 K4a (hnoR _ _ _ _ _ _ _)), SQ.out, ((HBa.setCell (Nat.le_refl _) _).setCell (Nat.le_refl _) _).setCell (Nat.le_refl _) _⟩
end Go.Proofs.YtmgmocepidenlaaGreatDoor

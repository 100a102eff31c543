/- The contracts of the functions under the laws of package rat: Limbs, RatY, RatZ, joined into one file. -/
import Derived.Test.YtmcacofpnnaplaaGreatDoorTrim
import Derived.Test.YtmcacofpnnaplaaGreatDoorRatThree
import Derived.Deep.RegionHeld3
import Derived.Deep.DrawnRows
import Derived.Deep.DeepCutAuto
/- The contract of Limbs: it makes a valid list of at most as many limbs. Conditions as premises: the list reads, and has at most 1000 limbs. -/
namespace Go.Proofs.YtmcacofpnnaplaaGreatDoor
open Go.RowKit

theorem oneCell_u32 (x : Int) : ∀ u ∈ [Value.int .u32 x], u.oneCell' = true := by intro u hu; simp at hu; subst hu; rfl
theorem size_one {w : World} {B : Nat} (h : B ≤ w.heap.size) (o : Obj) : B ≤ (w.alloc o).heap.size := by simp; omega

set_option maxHeartbeats 1600000 in
set_option maxRecDepth 100000 in
theorem limbs_any (A : Option Addr) (n c : Nat) (f : Nat → Nat) (w : World) (h : Rs w w.heap.size A n c f) (hn : n ≤ 1000) :
    Calls Tryz.prog 105 #[.slice A n c] w fun e w' => ∃ A' m c' g, e = .returned (.slice A' m c') ∧ Rs w' w'.heap.size A' m c' g ∧ Val m g ∧ m ≤ n ∧ Below w.heap.size w w' := by
  go_enter Tryz.func105, Tryz.ntmps105
  go_wp2_with fail
  go_loopw [3, 4] (fun v i wr => ∃ k : Nat, k ≤ n ∧ i = .int .i64 k ∧ Own wr w.heap.size v k (fun j => f j % LB) ∧ Below w.heap.size w wr) (fun _ i _ => n - (intOf i).toNat)
  case atStart => exact ⟨0, Nat.zero_le _, rfl, Own.nil _ _ _, Below.refl _ _⟩
  case round =>
    obtain ⟨k, hk, rfl, hown, hbel⟩ := hrel
    by_cases hlt : k < n
    · have hr := h.below hbel
      obtain ⟨b, off, rfl, hb, hc⟩ := hr.cell (by omega)
      have hck := hc k hlt
      have hx0 := iv_nonneg (f k)
      have hmod : iv (f k) % 1000000000 = iv (f k % LB) := by rw [iv_eq, iv_eq, LB_eq]; rfl
      have HM := Lib.hid hmod
      have hsz := hbel.size
      clear hc hmod
      generalize hgx : iv (f k) = x at *
      have HGX := Lib.hid hgx
      clear hgx
      obtain ⟨i0, hi, hz0, hz1, hz2⟩ := info_parts info32
      go_wp2_with (at_builtin; refine wpList_append_own _ rfl (.tmp 11) (.tmp 17) 23 rfl w.heap.size 48 i0 (.int .u32 0) 1 4 Tryz.underlying23 hi hz0 hz1 hz2 rfl (by decide) _ _ _ rfl (World.ownsRow.alloc hown _) ⟨wr.heap.size, 0, none⟩ 1 1 [.int .u32 (x % 1000000000)] rfl rfl (cell_one_new _ _ _) (oneCell_u32 _) (by unfold maxLen; omega) (by omega) (size_one hsz _) ?_)
      intro v' w1 hown' hgrow _
      have hb1 := snoc_below hown hbel (Nat.le_refl _) hsz hgrow
      rw [HM.out] at hown'
      have hown1 := Own.snoc hown' rfl
      clear hown' hgrow hown hbel
      go_wp2_with fail
      go_roundw
      case rel => exact ⟨k + 1, by omega, by go_num, hown1, hb1⟩
      case measure => simp [intOf] <;> omega
    · obtain rfl : k = n := by omega
      obtain ⟨wo, rfl⟩ : ∃ wo : World, wo = wr := ⟨_, rfl⟩
      have hlb : ∀ j, f j % LB < LB := fun j => Nat.mod_lt _ LB_pos
      obtain ⟨V, cap, rfl, hr⟩ := hown.rs (fun j _ => by have := hlb j; rw [LB_eq] at this ⊢; omega)
      have HR := Lib.hid hr
      have hcap := hr.cap
      have hcm : (cap : Int) ≤ 9223372036854775807 := by have := hr.max; omega
      clear hown hr hlb
      go_wp2_with fail
      go_loop [3] (fun s => ∃ m : Nat, m ≤ k ∧ s = .slice V m cap) (fun s => lenV s)
      case atStart => exact ⟨_, Nat.le_refl _, rfl⟩
      case round =>
        obtain ⟨m, hm, rfl⟩ := hrel
        by_cases hm0 : m = 0
        · subst hm0
          go_wp2_with fail
          go_ret
          exact ⟨_, 0, _, rfl, _, HR.out.take (by omega), ⟨fun j hj => by omega, fun h => by omega⟩, by omega, hbel⟩
        · have hmp : 0 < m := by omega
          have hmp' : (0 : Int) < (m : Int) := by omega
          have hmc : m ≤ cap := by omega
          obtain ⟨g, off, rfl, hg, hcell⟩ := HR.out.cell (by omega)
          have hcm := hcell (m - 1) (by omega)
          clear hm0 hcell
          by_cases hl : f (m - 1) % LB = 0
          · rw [hl, iv_zero] at hcm
            clear hl
            go_wp2_with fail
            go_round
            case rel => exact ⟨m - 1, by omega, by go_num⟩
            case measure => simp [lenV] <;> omega
          · have hlb : (iv (f (m - 1) % LB) == 0) = false := by rw [beq_eq_false_iff_ne]; intro e; apply hl; rw [iv_eq] at e; omega
            have HL := Lib.hid hl
            generalize iv (f (m - 1) % LB) = x at *
            clear hl
            go_wp2_with fail
            go_ret
            exact ⟨_, m, _, rfl, _, HR.out.take hm, ⟨fun j _ => Nat.mod_lt _ LB_pos, fun _ => HL.out⟩, hm, hbel⟩

end Go.Proofs.YtmcacofpnnaplaaGreatDoor

/- The contracts of Make and of the laws' sum, product and number. Conditions as premises: the numbers read, and are short enough. -/
namespace Go.Proofs.YtmcacofpnnaplaaGreatDoor
open Go.RowKit Go.Shelf
attribute [local go_sem ↓] Go.wp_at_zero Go.wp_at_succ

theorem checkNr {w : World} {N : Nat} {v : Value} (h : Nr w N v) (hN : N < LB ^ NL) :
    Calls Tryz.prog 69 #[v] w fun e w' => e = .returned (.int .i64 0) ∧ w = w' := by
  obtain ⟨A, n, c, f, rfl, hr, hd⟩ := h
  have := check_any A n c f _ w hr
  rw [Nr.chk hd hN] at this
  exact this

set_option maxRecDepth 100000 in
set_option maxHeartbeats 4000000 in
theorem ratMakeQ {w : World} {N D : Nat} {v u : Value} (neg : Bool) (h : Nr w N v) (k : Nr w D u) (hN : N < LB ^ NL) (hDl : D < LB ^ NL) (hD : D ≠ 0) :
    Calls Tryz.prog 30 #[.bool neg, v, u] w fun e w' => ∃ x, e = .returned (.tuple #[x, .int .i64 0]) ∧ Rq w' (mkRat (sn neg N) D) x ∧ Below w.heap.size w w' := by
  obtain ⟨A1, n1, c1, rfl, _⟩ := h.len
  obtain ⟨A2, n2, c2, rfl, hz2⟩ := k.len
  have hb0 := below1 w (.cells #[.bool false, .slice none 0 0, .slice none 0 0] 25)
  have C1 := Lib.hid (checkNr (h.below hb0) hN)
  have C2 := Lib.hid (checkNr (k.below hb0) hDl)
  have C3 := Lib.hid (signedN neg (h.below hb0))
  have H := Lib.hid (h.below hb0)
  have K := Lib.hid (k.below hb0)
  have HB := Lib.hid hb0
  have X := Lib.hid (Blk.new w #[.bool false, .slice none 0 0, .slice none 0 0] 25)
  have hlen : ((n2 : Int) == 0) = false := by rw [beq_eq_false_iff_ne]; intro e; exact hD (hz2.1 (by omega))
  have L := Lib.hid (And.intro hN (And.intro hDl hD))
  clear h k hb0 hN hDl hD hz2
  go_enter Tryz.func30, Tryz.ntmps30
  go_wp2_with fail
  refine C1.out.mono ?_
  rintro _ _ ⟨rfl, rfl⟩
  go_wp2_with fail
  refine C2.out.mono ?_
  rintro _ _ ⟨rfl, rfl⟩
  go_wp2_with fail
  refine C3.out.mono ?_
  rintro _ w1 ⟨x, rfl, hall, hb⟩
  obtain ⟨s, B, m, d, rfl, _, es, hs⟩ := (hall _ H.out).get
  have hfs := field_side s B m d w1
  have C4 := reducedQ (z := sn neg N) (Fr.mk (H.out.below hb) (K.out.below hb)) (sn_abs _ _) L.out.2.2 L.out.1 L.out.2.1
  rw [← es.out] at C4
  have C5 := Lib.hid C4
  replace HB := Lib.hid (HB.out.trans (hb.mono HB.out.size))
  replace X := Lib.hid (X.out.after hb)
  clear hall hb C4
  go_wp2_with fail
  refine C5.out.mono ?_
  rintro _ w2 ⟨x, rfl, hx, hb⟩
  obtain ⟨b3, B1, m1, e1, B2, m2, e2, rfl, _, _, _⟩ := hx.get
  replace HB := Lib.hid (HB.out.trans (hb.mono HB.out.size))
  replace X := Lib.hid (X.out.after hb)
  have HX := Lib.hid hx
  have z4 : w.heap.size < w2.heap.size := X.out.lt
  have d0 := X.out.cell (i := 0) rfl
  have d1 := X.out.cell (i := 1) rfl
  have d2 := X.out.cell (i := 2) rfl
  have ff := X.out.free
  clear hx hb C5 hfs
  go_wp2_with fail
  refine bodyPost_ret (results_row_tmp (p := 6) (ty := 25) rfl _ _ w.heap.size 25 _ _ _ rfl X.out.set.set.set Tryz.underlying25 rfl (by kernel_rfl)) rfl ?_
  obtain ⟨g1, g2, g3⟩ := HX.out.inv
  exact ⟨_, rfl, Rq.mk g3 rfl rfl (g1.put3 X.out (hnoR _ _ _ _ _ _ _)) (g2.put3 X.out (hnoR _ _ _ _ _ _ _)), ((HB.out.setCell (Nat.le_refl _) _).setCell (Nat.le_refl _) _).setCell (Nat.le_refl _) _⟩

set_option maxRecDepth 100000 in
set_option maxHeartbeats 4000000 in
theorem lawsumQ {w : World} {i j : Nat} {a b : Rat} {v u : Value} (ha : Rq w a v) (hb : Rq w b u) (hT : Tabs w) (sa : Sz i a) (sb : Sz j b) (hij : i + j ≤ 1023) :
    Calls Tryz.prog 50 #[v, u] w fun e w' => ∃ t, e = .returned t ∧ Rq w' (a + b) t ∧ Below w.heap.size w w' := by
  obtain ⟨b1, A1, n1, c1, A2, n2, c2, rfl, _, _, _⟩ := ha.get
  obtain ⟨b2, A3, n3, c3, A4, n4, c4, rfl, _, _, _⟩ := hb.get
  have hbb : Below w.heap.size w (((w.alloc (.cells #[.bool b1, .slice A1 n1 c1, .slice A2 n2 c2] 25)).alloc (.cells #[.bool b2, .slice A3 n3 c3, .slice A4 n4 c4] 25)).alloc (.cells #[.bool false, .slice none 0 0, .slice none 0 0] 25)) := (below2 w _ _).alloc (by simp; omega) _
  have k4 := Blk.new ((w.alloc (.cells #[.bool b1, .slice A1 n1 c1, .slice A2 n2 c2] 25)).alloc (.cells #[.bool b2, .slice A3 n3 c3, .slice A4 n4 c4] 25)) #[.bool false, .slice none 0 0, .slice none 0 0] 25
  simp only [World.size_alloc] at k4
  have C := Lib.hid (ratAddQ (ha.below hbb) (hb.below hbb) (hT.below hbb) sa sb hij)
  have HB := Lib.hid hbb
  have K4 := Lib.hid k4
  clear ha hb hT hbb k4 sa sb
  go_enter Tryz.func50, Tryz.ntmps50
  go_wp2_with fail
  refine C.out.mono ?_
  rintro _ w1 ⟨x, rfl, hx, hb⟩
  obtain ⟨b3, B1, m1, e1, B2, m2, e2, rfl, _, _, _⟩ := hx.get
  replace HB := Lib.hid (HB.out.trans (hb.mono HB.out.size))
  have K1 := K4.out.after hb
  have HX := Lib.hid hx
  have z4 : w.heap.size + 1 + 1 < w1.heap.size := K1.lt
  have d0 := K1.cell (i := 0) rfl
  have d1 := K1.cell (i := 1) rfl
  have d2 := K1.cell (i := 2) rfl
  have ff := K1.free
  have KK := Lib.hid K1
  clear hx hb C K1
  go_wp2_with fail
  have hb9 := ((HB.out.setCell (p := ⟨w.heap.size + 1 + 1, 0, none⟩) (by simp; omega) (.bool b3)).setCell (p := ⟨w.heap.size + 1 + 1, 1, none⟩) (by simp; omega) (.slice B1 m1 e1)).setCell (p := ⟨w.heap.size + 1 + 1, 2, none⟩) (by simp; omega) (.slice B2 m2 e2)
  refine bodyPost_ret (results_cell_row (p := 4) (ty := 25) rfl _ _ (w.heap.size + 1 + 1) 25 _ _ _ rfl (KK.out.set.set.set.alloc _) Tryz.underlying25 rfl (by kernel_rfl)) rfl ?_
  obtain ⟨g1, g2, g3⟩ := HX.out.inv
  exact ⟨_, rfl, Rq.mk g3 rfl rfl ((g1.put3 KK.out (hnoR _ _ _ _ _ _ _)).below (below1 _ _)) ((g2.put3 KK.out (hnoR _ _ _ _ _ _ _)).below (below1 _ _)), hb9.alloc hb9.size _⟩

set_option maxRecDepth 100000 in
set_option maxHeartbeats 4000000 in
theorem lawproductQ {w : World} {i j : Nat} {a b : Rat} {v u : Value} (ha : Rq w a v) (hb : Rq w b u) (hT : Tabs w) (sa : Sz i a) (sb : Sz j b) (hij : i + j ≤ 1024) :
    Calls Tryz.prog 51 #[v, u] w fun e w' => ∃ t, e = .returned t ∧ Rq w' (a * b) t ∧ Below w.heap.size w w' := by
  obtain ⟨b1, A1, n1, c1, A2, n2, c2, rfl, _, _, _⟩ := ha.get
  obtain ⟨b2, A3, n3, c3, A4, n4, c4, rfl, _, _, _⟩ := hb.get
  have hbb : Below w.heap.size w (((w.alloc (.cells #[.bool b1, .slice A1 n1 c1, .slice A2 n2 c2] 25)).alloc (.cells #[.bool b2, .slice A3 n3 c3, .slice A4 n4 c4] 25)).alloc (.cells #[.bool false, .slice none 0 0, .slice none 0 0] 25)) := (below2 w _ _).alloc (by simp; omega) _
  have k4 := Blk.new ((w.alloc (.cells #[.bool b1, .slice A1 n1 c1, .slice A2 n2 c2] 25)).alloc (.cells #[.bool b2, .slice A3 n3 c3, .slice A4 n4 c4] 25)) #[.bool false, .slice none 0 0, .slice none 0 0] 25
  simp only [World.size_alloc] at k4
  have C := Lib.hid (ratMulQ (ha.below hbb) (hb.below hbb) (hT.below hbb) sa sb hij)
  have HB := Lib.hid hbb
  have K4 := Lib.hid k4
  clear ha hb hT hbb k4 sa sb
  go_enter Tryz.func51, Tryz.ntmps51
  go_wp2_with fail
  refine C.out.mono ?_
  rintro _ w1 ⟨x, rfl, hx, hb⟩
  obtain ⟨b3, B1, m1, e1, B2, m2, e2, rfl, _, _, _⟩ := hx.get
  replace HB := Lib.hid (HB.out.trans (hb.mono HB.out.size))
  have K1 := K4.out.after hb
  have HX := Lib.hid hx
  have z4 : w.heap.size + 1 + 1 < w1.heap.size := K1.lt
  have d0 := K1.cell (i := 0) rfl
  have d1 := K1.cell (i := 1) rfl
  have d2 := K1.cell (i := 2) rfl
  have ff := K1.free
  have KK := Lib.hid K1
  clear hx hb C K1
  go_wp2_with fail
  have hb9 := ((HB.out.setCell (p := ⟨w.heap.size + 1 + 1, 0, none⟩) (by simp; omega) (.bool b3)).setCell (p := ⟨w.heap.size + 1 + 1, 1, none⟩) (by simp; omega) (.slice B1 m1 e1)).setCell (p := ⟨w.heap.size + 1 + 1, 2, none⟩) (by simp; omega) (.slice B2 m2 e2)
  refine bodyPost_ret (results_cell_row (p := 4) (ty := 25) rfl _ _ (w.heap.size + 1 + 1) 25 _ _ _ rfl (KK.out.set.set.set.alloc _) Tryz.underlying25 rfl (by kernel_rfl)) rfl ?_
  obtain ⟨g1, g2, g3⟩ := HX.out.inv
  exact ⟨_, rfl, Rq.mk g3 rfl rfl ((g1.put3 KK.out (hnoR _ _ _ _ _ _ _)).below (below1 _ _)) ((g2.put3 KK.out (hnoR _ _ _ _ _ _ _)).below (below1 _ _)), hb9.alloc hb9.size _⟩

theorem tmod_cases (x m : Int) (hm : 0 < m) : (x.tmod m < 0 → x.tmod m + m = x % m) ∧ (¬ x.tmod m < 0 → x.tmod m = x % m) ∧ -m < x.tmod m ∧ x.tmod m < m ∧ 0 ≤ x % m ∧ x % m < m := by
  have h1 := Int.emod_nonneg x (Int.ne_of_gt hm)
  have h2 := Int.emod_lt_of_pos x hm
  rw [Int.tmod_eq_emod]
  split
  · omega
  · have : (m.natAbs : Int) = m := by omega
    omega

set_option maxHeartbeats 800000 in
theorem modN (x m : Int) (hm : 0 < m) (hm2 : m ≤ 1000000) (w : World) :
    Calls Tryz.prog 49 #[.int .i64 x, .int .i64 m] w fun e w' => e = .returned (.int .i64 (x % m)) ∧ w = w' := by
  obtain ⟨t1, t2, t3, t4, t5, t6⟩ := tmod_cases x m hm
  have hmz : (m == 0) = false := by rw [beq_eq_false_iff_ne]; omega
  by_cases hx : x.tmod m < 0
  · have HE := Lib.hid (t1 hx)
    clear t1 t2 t5 t6
    go_enter Tryz.func49, Tryz.ntmps49
    go_wp2
    go_ret
    exact ⟨ret_int HE.out, rfl⟩
  · have HE := Lib.hid (t2 hx)
    clear t1 t2 t5 t6
    go_enter Tryz.func49, Tryz.ntmps49
    go_wp2
    go_ret
    exact ⟨ret_int HE.out, rfl⟩

theorem ratCheckQ {w : World} {q : Rat} {v : Value} (h : Rq w q v) (s : Sz 1024 q) :
    Calls Tryz.prog 26 #[v] w fun e w' => e = .returned (.int .i64 0) ∧ Below w.heap.size w w' := by
  obtain ⟨b, A1, n1, c1, f1, A2, n2, c2, f2, rfl, hr, h0⟩ := h.raw (lt_NL s.1 (by omega)) (lt_NL s.2 (by omega))
  have := ratCheck_any hr
  rw [h0] at this
  exact this

theorem limbs8 {A : Option Addr} {n c : Nat} {f : Nat → Nat} {w : World} (h : Rs w w.heap.size A n c f) (hn : n ≤ 8) :
    Calls Tryz.prog 105 #[.slice A n c] w fun e w' => ∃ x N, e = .returned x ∧ Nr w' N x ∧ N < LB ^ 8 ∧ Below w.heap.size w w' := by
  refine (limbs_any A n c f w h (by omega)).mono ?_
  rintro e w' ⟨A', m, c', g, he, hr, hv, hm, hb⟩
  exact ⟨_, nv g m, he, ⟨A', m, c', g, rfl, hr, ⟨hv, rfl⟩⟩, Nat.lt_of_lt_of_le hv.lt (pow_le_of (by omega)), hb⟩

theorem sz_mkq {neg : Bool} {N D k : Nat} (h1 : N < LB ^ k) (h2 : D < LB ^ k) (h3 : D ≠ 0) : Sz k (mkRat (sn neg N) D) := by
  obtain ⟨_, e2, e3⟩ := mkRat_red (sn neg N) D h3
  rw [sn_abs] at e2
  exact ⟨by rw [e2]; exact Nat.lt_of_le_of_lt (Nat.div_le_self _ _) h1, by rw [e3]; exact Nat.lt_of_le_of_lt (Nat.div_le_self _ _) h2⟩

set_option maxRecDepth 100000 in
set_option maxHeartbeats 8000000 in
theorem numberQ {w : World} {A A' : Option Addr} {n c m c' : Nat} {f g : Nat → Nat} (neg : Bool) (hA : Rs w w.heap.size A n c f) (hB : Rs w w.heap.size A' m c' g) (hn : n ≤ 8) (hm : m ≤ 8) :
    Calls Tryz.prog 48 #[.slice A n c, .slice A' m c', .bool neg] w fun e w' => ∃ t q, e = .returned (.tuple #[t, .bool true]) ∧ Rq w' q t ∧ Sz 8 q ∧ Below w.heap.size w w' := by
  have hb0 := below1 w (.cells #[.bool false, .slice none 0 0, .slice none 0 0] 25)
  have HA := Lib.hid ((hA.below hb0).more hb0.size)
  have C := Lib.hid (limbs8 ((hB.below hb0).more hb0.size) hm)
  have HB := Lib.hid hb0
  have K4 := Lib.hid (Blk.new w #[.bool false, .slice none 0 0, .slice none 0 0] 25)
  clear hA hB hb0
  go_enter Tryz.func48, Tryz.ntmps48
  go_wp2_with fail
  refine C.out.mono ?_
  rintro _ w1 ⟨x, D, rfl, hx, hD, hb⟩
  obtain ⟨B, d, bc, rfl, hz⟩ := hx.len
  replace HA := Lib.hid ((HA.out.below hb).more hb.size)
  replace HB := Lib.hid (HB.out.trans (hb.mono HB.out.size))
  replace K4 := Lib.hid (K4.out.after hb)
  have HX := Lib.hid hx
  clear hx hb C
  by_cases hd : d = 0
  · subst hd
    clear hz
    go_upto_region 4 with fail
    have HO := Lib.hid (nr_one w1)
    have hb := below1 w1 (.cells #[.int .u32 1] 48)
    replace HA := Lib.hid ((HA.out.below hb).more hb.size)
    replace HB := Lib.hid (HB.out.trans (hb.mono HB.out.size))
    replace K4 := Lib.hid (K4.out.after hb)
    clear hb HX hD
    generalize hP : w1.heap.size = P at *
    generalize w1.alloc (.cells #[.int .u32 1] 48) = w2 at *
    have hD : (1 : Nat) < LB ^ 8 := Nat.one_lt_pow (by omega) (by rw [LB_eq]; omega)
    have hD0 : (1 : Nat) ≠ 0 := by omega
    have HX := HO
    have HDD := Lib.hid (And.intro hD hD0)
    clear HO hP hD hD0
    have C2 := Lib.hid (limbs8 HA.out hn)
    go_wp2_with fail
    refine C2.out.mono ?_
    rintro _ w3 ⟨x, N, rfl, hx, hN, hb⟩
    have C3 := Lib.hid (ratMakeQ neg hx (HX.out.below hb) (lt_NL hN (by omega)) (lt_NL HDD.out.1 (by omega)) HDD.out.2)
    have SQ := Lib.hid (sz_mkq (neg := neg) hN HDD.out.1 HDD.out.2)
    replace HB := Lib.hid (HB.out.trans (hb.mono HB.out.size))
    replace K4 := Lib.hid (K4.out.after hb)
    clear hx hN hb C2 HA HX HDD
    go_wp2_with fail
    refine C3.out.mono ?_
    rintro _ w4 ⟨x, rfl, hx, hb⟩
    obtain ⟨b3, B1, m1, e1, B2, m2, e2, rfl, _, _, _⟩ := hx.get
    generalize mkRat (sn neg N) _ = q at *
    have hba := below1 w4 (.cells #[.bool b3, .slice B1 m1 e1, .slice B2 m2 e2] 25)
    have hbb := hb.trans (hba.mono hb.size)
    replace HB := Lib.hid (HB.out.trans (hbb.mono HB.out.size))
    have z0 := (K4.out.after hb).lt
    have KN := Lib.hid (Blk.new w4 #[.bool b3, .slice B1 m1 e1, .slice B2 m2 e2] 25)
    replace K4 := Lib.hid (K4.out.after hbb)
    have HQ := Lib.hid (hx.below hba)
    clear hx hb hba hbb C3
    go_upto_region 5 with fail
    generalize hP4 : w4.heap.size = P4 at *
    clear hP4
    generalize w4.alloc (.cells #[.bool b3, .slice B1 m1 e1, .slice B2 m2 e2] 25) = w5 at *
    have KEEP : Hid (∀ W, Below w5.heap.size w5 W → W.cell? ⟨P4, 0, none⟩ = some (.bool b3) ∧ W.cell? ⟨P4, 1, none⟩ = some (.slice B1 m1 e1) ∧ W.cell? ⟨P4, 2, none⟩ = some (.slice B2 m2 e2)) := Lib.hid fun W h1 => ⟨(KN.out.after h1).cell rfl, (KN.out.after h1).cell rfl, (KN.out.after h1).cell rfl⟩
    have hdrew : Below w5.heap.size w5 w5.drew := (Below.refl _ _).drew
    have CC : Hid (∀ W, Below w5.heap.size w5 W → _) := Lib.hid fun W (h1 : Below w5.heap.size w5 W) => ratCheckQ (HQ.out.below h1) (SQ.out.up (by omega))
    have hne : w.heap.size ≠ P4 := by omega
    have z4 : w.heap.size < w5.heap.size := K4.out.lt
    have f0 := (K4.out.after hdrew).cell (i := 0) rfl
    have f1 := (K4.out.after hdrew).cell (i := 1) rfl
    have f2 := (K4.out.after hdrew).cell (i := 2) rfl
    have ffd := (K4.out.after hdrew).free
    go_region_held3 (fun W => W.cell? ⟨P4, 0, none⟩ = some (.bool b3) ∧ W.cell? ⟨P4, 1, none⟩ = some (.slice B1 m1 e1) ∧ W.cell? ⟨P4, 2, none⟩ = some (.slice B2 m2 e2))
      (first | with_reducible exact KEEP.out w5.drew hdrew | with_reducible exact KEEP.out wa hka | go_keep)
      (first
        | (go_at_call 26; (with_reducible refine (CC.out w5.drew hdrew).mono ?_); rintro _ wa ⟨rfl, hb1⟩; have hka := hdrew.trans (hb1.mono hdrew.size); have z5 : w.heap.size < wa.heap.size := Nat.lt_of_lt_of_le z4 hka.size; have g0 := (K4.out.after hka).cell (i := 0) rfl; have g1 := (K4.out.after hka).cell (i := 1) rfl; have g2 := (K4.out.after hka).cell (i := 2) rfl; have ff := (K4.out.after hka).free))
    rename_i wa hka _ _ _ _ _
    have K4a := K4.out.after hka
    have HQa := HQ.out.below hka
    have HBa := HB.out.trans (hka.mono HB.out.size)
    clear f0 f1 f2 ffd CC KEEP HQ HB K4 KN
    go_wp2_with fail
    refine bodyPost_ret (results_row_tmp (p := 6) (ty := 25) rfl _ _ w.heap.size 25 _ _ _ rfl K4a.set.set.set Tryz.underlying25 rfl (by kernel_rfl)) rfl ?_
    obtain ⟨g1, g2, g3⟩ := HQa.inv
    exact ⟨_, q, rfl, Rq.mk g3 rfl rfl (g1.put3 K4a (hnoR _ _ _ _ _ _ _)) (g2.put3 K4a (hnoR _ _ _ _ _ _ _)), SQ.out, ((HBa.setCell (Nat.le_refl _) _).setCell (Nat.le_refl _) _).setCell (Nat.le_refl _) _⟩
  · have hd' : ((d : Int) == 0) = false := by rw [beq_eq_false_iff_ne]; omega
    have hD0 : D ≠ 0 := fun e => hd (hz.2 e)
    have HDD := Lib.hid (And.intro hD hD0)
    clear hz hd hD hD0
    go_upto_region 4 with fail
    generalize w1 = w2 at *
    have C2 := Lib.hid (limbs8 HA.out hn)
    go_wp2_with fail
    refine C2.out.mono ?_
    rintro _ w3 ⟨x, N, rfl, hx, hN, hb⟩
    have C3 := Lib.hid (ratMakeQ neg hx (HX.out.below hb) (lt_NL hN (by omega)) (lt_NL HDD.out.1 (by omega)) HDD.out.2)
    have SQ := Lib.hid (sz_mkq (neg := neg) hN HDD.out.1 HDD.out.2)
    replace HB := Lib.hid (HB.out.trans (hb.mono HB.out.size))
    replace K4 := Lib.hid (K4.out.after hb)
    clear hx hN hb C2 HA HX HDD
    go_wp2_with fail
    refine C3.out.mono ?_
    rintro _ w4 ⟨x, rfl, hx, hb⟩
    obtain ⟨b3, B1, m1, e1, B2, m2, e2, rfl, _, _, _⟩ := hx.get
    generalize mkRat (sn neg N) _ = q at *
    have hba := below1 w4 (.cells #[.bool b3, .slice B1 m1 e1, .slice B2 m2 e2] 25)
    have hbb := hb.trans (hba.mono hb.size)
    replace HB := Lib.hid (HB.out.trans (hbb.mono HB.out.size))
    have z0 := (K4.out.after hb).lt
    have KN := Lib.hid (Blk.new w4 #[.bool b3, .slice B1 m1 e1, .slice B2 m2 e2] 25)
    replace K4 := Lib.hid (K4.out.after hbb)
    have HQ := Lib.hid (hx.below hba)
    clear hx hb hba hbb C3
    go_upto_region 5 with fail
    generalize hP4 : w4.heap.size = P4 at *
    clear hP4
    generalize w4.alloc (.cells #[.bool b3, .slice B1 m1 e1, .slice B2 m2 e2] 25) = w5 at *
    have KEEP : Hid (∀ W, Below w5.heap.size w5 W → W.cell? ⟨P4, 0, none⟩ = some (.bool b3) ∧ W.cell? ⟨P4, 1, none⟩ = some (.slice B1 m1 e1) ∧ W.cell? ⟨P4, 2, none⟩ = some (.slice B2 m2 e2)) := Lib.hid fun W h1 => ⟨(KN.out.after h1).cell rfl, (KN.out.after h1).cell rfl, (KN.out.after h1).cell rfl⟩
    have hdrew : Below w5.heap.size w5 w5.drew := (Below.refl _ _).drew
    have CC : Hid (∀ W, Below w5.heap.size w5 W → _) := Lib.hid fun W (h1 : Below w5.heap.size w5 W) => ratCheckQ (HQ.out.below h1) (SQ.out.up (by omega))
    have hne : w.heap.size ≠ P4 := by omega
    have z4 : w.heap.size < w5.heap.size := K4.out.lt
    have f0 := (K4.out.after hdrew).cell (i := 0) rfl
    have f1 := (K4.out.after hdrew).cell (i := 1) rfl
    have f2 := (K4.out.after hdrew).cell (i := 2) rfl
    have ffd := (K4.out.after hdrew).free
    go_region_held3 (fun W => W.cell? ⟨P4, 0, none⟩ = some (.bool b3) ∧ W.cell? ⟨P4, 1, none⟩ = some (.slice B1 m1 e1) ∧ W.cell? ⟨P4, 2, none⟩ = some (.slice B2 m2 e2))
      (first | with_reducible exact KEEP.out w5.drew hdrew | with_reducible exact KEEP.out wa hka | go_keep)
      (first
        | (go_at_call 26; (with_reducible refine (CC.out w5.drew hdrew).mono ?_); rintro _ wa ⟨rfl, hb1⟩; have hka := hdrew.trans (hb1.mono hdrew.size); have z5 : w.heap.size < wa.heap.size := Nat.lt_of_lt_of_le z4 hka.size; have g0 := (K4.out.after hka).cell (i := 0) rfl; have g1 := (K4.out.after hka).cell (i := 1) rfl; have g2 := (K4.out.after hka).cell (i := 2) rfl; have ff := (K4.out.after hka).free))
    rename_i wa hka _ _ _ _ _
    have K4a := K4.out.after hka
    have HQa := HQ.out.below hka
    have HBa := HB.out.trans (hka.mono HB.out.size)
    clear f0 f1 f2 ffd CC KEEP HQ HB K4 KN
    go_wp2_with fail
    refine bodyPost_ret (results_row_tmp (p := 6) (ty := 25) rfl _ _ w.heap.size 25 _ _ _ rfl K4a.set.set.set Tryz.underlying25 rfl (by kernel_rfl)) rfl ?_
    obtain ⟨g1, g2, g3⟩ := HQa.inv
    exact ⟨_, q, rfl, Rq.mk g3 rfl rfl (g1.put3 K4a (hnoR _ _ _ _ _ _ _)) (g2.put3 K4a (hnoR _ _ _ _ _ _ _)), SQ.out, ((HBa.setCell (Nat.le_refl _) _).setCell (Nat.le_refl _) _).setCell (Nat.le_refl _) _⟩
end Go.Proofs.YtmcacofpnnaplaaGreatDoor

/- The walk of RatField: it returns true, and writes nothing that was there. Conditions as premises: the lists read, and the table of signs holds its numbers. -/
namespace Go.Proofs.YtmcacofpnnaplaaGreatDoor
open Go.RowKit Go.Shelf
attribute [local go_sem ↓] Go.wp_at_zero Go.wp_at_succ

theorem Blk.row3 {w : World} {g : Nat} {t : TypeId} {a b c : Value} (h : Blk w g t #[a, b, c]) (u v x : Value) : Blk (((w.setCell ⟨g, 0, none⟩ u).setCell ⟨g, 1, none⟩ v).setCell ⟨g, 2, none⟩ x) g t #[u, v, x] := h.set.set.set
theorem quo_wrap {x m : Int} (h0 : -9223372036854775808 ≤ x) (h1 : x ≤ 9223372036854775807) (hm : 1 ≤ m) : IntKind.i64.wrap (x.tdiv m) = x.tdiv m := IntWalk.i64_quo' x m ⟨h0, h1, hm⟩
theorem ofN1 (z : Int) (h0 : -1000000000 ≤ z) (h1 : z ≤ 1000000000) (w : World) :
    Calls Tryz.prog 45 #[.int .i64 z, .int .i64 1] w fun e w' => ∃ t, e = .returned t ∧ Rq w' (mkRat z 1) t ∧ Below w.heap.size w w' := ofN z 1 h0 h1 (by omega) (by omega) w
theorem add_of0 (a : Rat) : a + mkRat 0 1 = a := by rw [show mkRat 0 1 = 0 by decide +kernel]; exact Rat.add_zero a
theorem mul_of1 (a : Rat) : a * mkRat 1 1 = a := by rw [show mkRat 1 1 = 1 by decide +kernel]; exact Rat.mul_one a
theorem rq_len {w : World} {b : Rat} {s : Bool} {A A' : Option Addr} {n c n' c' : Nat} (h : Rq w b (.agg #[.bool s, .slice A n c, .slice A' n' c'])) : n = 0 ↔ b = 0 := by
  obtain ⟨h1, _, _⟩ := h.inv
  obtain ⟨_, _, _, e, h2⟩ := h1.len
  cases e
  rw [h2, Int.natAbs_eq_zero, Rat.num_eq_zero]

set_option maxRecDepth 100000 in
set_option maxHeartbeats 4000000 in
theorem ratDiv_zero {w : World} {i j : Nat} {a b : Rat} {v u : Value} (ha : Rq w a v) (hb : Rq w b u) (sa : Sz i a) (sb : Sz j b) (hi : i ≤ 1024) (hj : j ≤ 1024) (hb0 : b = 0) :
    Calls Tryz.prog 22 #[v, u] w fun e w' => e = .returned (.tuple #[.agg #[.bool false, .slice none 0 0, .slice none 0 0], .int .i64 6]) ∧ Below w.heap.size w w' := by
  obtain ⟨b1, A1, n1, c1, f1, A2, n2, c2, f2, rfl, hr, h0⟩ := ha.raw (lt_NL sa.1 hi) (lt_NL sa.2 hi)
  obtain ⟨b2, A3, n3, c3, f3, A4, n4, c4, f4, rfl, kr, k0⟩ := hb.raw (lt_NL sb.1 hj) (lt_NL sb.2 hj)
  have hbb : Below w.heap.size w (((w.alloc (.cells #[.bool b1, .slice A1 n1 c1, .slice A2 n2 c2] 25)).alloc (.cells #[.bool b2, .slice A3 n3 c3, .slice A4 n4 c4] 25)).alloc (.cells #[.bool false, .slice none 0 0, .slice none 0 0] 25)) := (below2 w _ _).alloc (by simp; omega) _
  have k3 := (Blk.new (w.alloc (.cells #[.bool b1, .slice A1 n1 c1, .slice A2 n2 c2] 25)) #[.bool b2, .slice A3 n3 c3, .slice A4 n4 c4] 25).alloc (.cells #[.bool false, .slice none 0 0, .slice none 0 0] 25)
  have k4 := Blk.new ((w.alloc (.cells #[.bool b1, .slice A1 n1 c1, .slice A2 n2 c2] 25)).alloc (.cells #[.bool b2, .slice A3 n3 c3, .slice A4 n4 c4] 25)) #[.bool false, .slice none 0 0, .slice none 0 0] 25
  simp only [World.size_alloc] at k3 k4
  have K3 := Lib.hid k3
  have K4 := Lib.hid k4
  have c1' := checkBoth_any (hr.below hbb) (kr.below hbb)
  rw [chkRR_ok h0 k0] at c1'
  have C1 := Lib.hid c1'
  have HB := Lib.hid hbb
  have hlen : ((n3 : Int) == 0) = true := by rw [beq_iff_eq]; have := (rq_len hb).2 hb0; omega
  clear hb0 ha hb hr kr h0 k0 c1' k3 k4 hbb sa sb
  go_enter Tryz.func22, Tryz.ntmps22
  go_wp2_with fail
  refine C1.out.mono ?_
  rintro _ w1 ⟨rfl, hb⟩
  have k3 := K3.out.after hb
  have k4 := K4.out.after hb
  have y3 : w.heap.size + 1 < w1.heap.size := k3.lt
  have y4 : w.heap.size + 1 + 1 < w1.heap.size := k4.lt
  replace HB := Lib.hid (HB.out.trans (hb.mono HB.out.size))
  have d31 := k3.cell (i := 1) rfl
  have d40 := k4.cell (i := 0) rfl
  have d41 := k4.cell (i := 1) rfl
  have d42 := k4.cell (i := 2) rfl
  have ff := k4.free
  have K6 := Lib.hid k4
  clear hb k3 k4 K3 K4 C1
  go_wp2_with fail
  refine bodyPost_ret (results_row_tmp (p := 4) (ty := 25) rfl _ _ (w.heap.size + 1 + 1) 25 _ _ _ rfl K6.out.set.set.set Tryz.underlying25 rfl (by kernel_rfl)) rfl ?_
  exact ⟨rfl, ((HB.out.setCell (by simp; omega) _).setCell (by simp; omega) _).setCell (by simp; omega) _⟩

set_option maxHeartbeats 4000000 in
set_option maxRecDepth 100000 in
theorem ratField_awake (A B C : Option Addr) (n c m d l e : Nat) (s : Int) (w : World) (hT : Tabs w) (h : 8 < n ∨ 8 < m ∨ 8 < l) :
    Calls Tryz.prog 8 #[.slice A n c, .slice B m d, .slice C l e, .int .i64 s] w fun e w' => e = .returned (.bool true) ∧ Below w.heap.size w w' := by
  by_cases h1 : 8 < n
  · have h1' : (8 : Int) < (n : Int) := by omega
    clear h h1
    go_enter Tryz.func8, Tryz.ntmps8
    go_wp2_with fail
    refine (awakeN hT).mono ?_
    rintro _ w1 ⟨rfl, hb⟩
    go_wp2_with fail
    go_ret
    exact ⟨rfl, hb⟩
  · have h1' : ¬ (8 : Int) < (n : Int) := by omega
    by_cases h2 : 8 < m
    · have h2' : (8 : Int) < (m : Int) := by omega
      clear h h1 h2
      go_enter Tryz.func8, Tryz.ntmps8
      go_wp2_with fail
      refine (awakeN hT).mono ?_
      rintro _ w1 ⟨rfl, hb⟩
      go_wp2_with fail
      go_ret
      exact ⟨rfl, hb⟩
    · have h2' : ¬ (8 : Int) < (m : Int) := by omega
      have h3' : (8 : Int) < (l : Int) := by omega
      clear h h1 h2
      go_enter Tryz.func8, Tryz.ntmps8
      go_wp2_with fail
      refine (awakeN hT).mono ?_
      rintro _ w1 ⟨rfl, hb⟩
      go_wp2_with fail
      go_ret
      exact ⟨rfl, hb⟩

set_option maxRecDepth 100000 in
set_option maxHeartbeats 16000000 in
theorem ratField_main (A B C : Option Addr) (n cn m cm l cl : Nat) (f g h : Nat → Nat) (s : Int) (hs0 : -9223372036854775808 ≤ s) (hs1 : s ≤ 9223372036854775807) (w : World) (hA : Rs w w.heap.size A n cn f) (hB : Rs w w.heap.size B m cm g) (hC : Rs w w.heap.size C l cl h) (hT : Tabs w) (hn : n ≤ 8) (hm : m ≤ 8) (hl : l ≤ 8) :
    Calls Tryz.prog 8 #[.slice A n cn, .slice B m cm, .slice C l cl, .int .i64 s] w fun e w' => e = .returned (.bool true) ∧ Below w.heap.size w w' := by
  have BB := Lib.hid (Below.refl w.heap.size w)
  have HB := BB
  have HA := Lib.hid hA
  have HBB := Lib.hid hB
  have HC := Lib.hid hC
  have HT := Lib.hid hT
  clear hA hB hC hT BB
  have hn' : ¬ (8 : Int) < (n : Int) := by omega
  have hm' : ¬ (8 : Int) < (m : Int) := by omega
  have hl' : ¬ (8 : Int) < (l : Int) := by omega
  have q2 := quo_wrap hs0 hs1 (show (1 : Int) ≤ 2 by omega)
  have q4 := quo_wrap hs0 hs1 (show (1 : Int) ≤ 4 by omega)
  go_enter Tryz.func8, Tryz.ntmps8
  go_wp2_with fail
  refine (modN s 2 (by omega) (by omega) _).mono ?_
  rintro _ _ ⟨rfl, rfl⟩
  go_wp2_with fail
  refine (numberQ _ HA.out HBB.out hn hm).mono ?_
  rintro _ w1 ⟨x, a, rfl, hx, sx, hb⟩
  obtain ⟨b1, A1, n1, c1, A1', n1', c1', rfl, -, -, -⟩ := hx.get
  have hba := below1 w1 (.cells #[.bool b1, .slice A1 n1 c1, .slice A1' n1' c1'] 25)
  have hbb := hb.trans (hba.mono hb.size)
  replace HA := Lib.hid ((HA.out.below hbb).more hbb.size)
  replace HBB := Lib.hid ((HBB.out.below hbb).more hbb.size)
  replace HC := Lib.hid ((HC.out.below hbb).more hbb.size)
  replace HT := Lib.hid (HT.out.below hbb)
  replace HB := Lib.hid (HB.out.trans (hbb.mono HB.out.size))
  have Ra := Lib.hid (hx.below hba)
  have KP1 := Lib.hid (Blk.new w1 #[.bool b1, .slice A1 n1 c1, .slice A1' n1' c1'] 25)
  have SA := Lib.hid sx
  clear hx hb hba hbb sx
  go_upto_region 4 with fail
  generalize hP1 : w1.heap.size = P1 at *
  clear hP1
  generalize w1.alloc (.cells #[.bool b1, .slice A1 n1 c1, .slice A1' n1' c1'] 25) = v1 at *
  go_wp2_with fail
  refine (modN (s.tdiv 2) 2 (by omega) (by omega) _).mono ?_
  rintro _ _ ⟨rfl, rfl⟩
  go_wp2_with fail
  refine (numberQ _ HBB.out HC.out hm hl).mono ?_
  rintro _ w2 ⟨x, b, rfl, hx, sx, hb⟩
  obtain ⟨b2, A2, n2, c2, A2', n2', c2', rfl, -, -, -⟩ := hx.get
  have hba := below1 w2 (.cells #[.bool b2, .slice A2 n2 c2, .slice A2' n2' c2'] 25)
  have hbb := hb.trans (hba.mono hb.size)
  replace HA := Lib.hid ((HA.out.below hbb).more hbb.size)
  replace HBB := Lib.hid ((HBB.out.below hbb).more hbb.size)
  replace HC := Lib.hid ((HC.out.below hbb).more hbb.size)
  replace HT := Lib.hid (HT.out.below hbb)
  replace HB := Lib.hid (HB.out.trans (hbb.mono HB.out.size))
  replace Ra := Lib.hid (Ra.out.below hbb)
  replace KP1 := Lib.hid (KP1.out.after hbb)
  have Rb := Lib.hid (hx.below hba)
  have KP2 := Lib.hid (Blk.new w2 #[.bool b2, .slice A2 n2 c2, .slice A2' n2' c2'] 25)
  have SB := Lib.hid sx
  clear hx hb hba hbb sx
  go_upto_region 5 with fail
  generalize hP2 : w2.heap.size = P2 at *
  clear hP2
  generalize w2.alloc (.cells #[.bool b2, .slice A2 n2 c2, .slice A2' n2' c2'] 25) = v2 at *
  go_wp2_with fail
  refine (modN (s.tdiv 4) 2 (by omega) (by omega) _).mono ?_
  rintro _ _ ⟨rfl, rfl⟩
  go_wp2_with fail
  refine (numberQ _ HC.out HA.out hl hn).mono ?_
  rintro _ w3 ⟨x, c, rfl, hx, sx, hb⟩
  obtain ⟨b3, A3, n3, c3, A3', n3', c3', rfl, -, -, -⟩ := hx.get
  have hba := below1 w3 (.cells #[.bool b3, .slice A3 n3 c3, .slice A3' n3' c3'] 25)
  have hbb := hb.trans (hba.mono hb.size)
  replace HA := Lib.hid ((HA.out.below hbb).more hbb.size)
  replace HBB := Lib.hid ((HBB.out.below hbb).more hbb.size)
  replace HC := Lib.hid ((HC.out.below hbb).more hbb.size)
  replace HT := Lib.hid (HT.out.below hbb)
  replace HB := Lib.hid (HB.out.trans (hbb.mono HB.out.size))
  replace Ra := Lib.hid (Ra.out.below hbb)
  replace KP1 := Lib.hid (KP1.out.after hbb)
  replace Rb := Lib.hid (Rb.out.below hbb)
  replace KP2 := Lib.hid (KP2.out.after hbb)
  have Rc := Lib.hid (hx.below hba)
  have KP3 := Lib.hid (Blk.new w3 #[.bool b3, .slice A3 n3 c3, .slice A3' n3' c3'] 25)
  have SC := Lib.hid sx
  clear hx hb hba hbb sx
  go_upto_region 8 with fail
  generalize hP3 : w3.heap.size = P3 at *
  clear hP3
  generalize w3.alloc (.cells #[.bool b3, .slice A3 n3 c3, .slice A3' n3' c3'] 25) = v3 at *
  clear HA HBB HC
  have KEEP : Hid (∀ W, Below v3.heap.size v3 W → (W.cell? ⟨P1, 0, none⟩ = some (.bool b1) ∧ W.cell? ⟨P1, 1, none⟩ = some (.slice A1 n1 c1) ∧ W.cell? ⟨P1, 2, none⟩ = some (.slice A1' n1' c1') ∧ W.cell? ⟨P2, 0, none⟩ = some (.bool b2) ∧ W.cell? ⟨P2, 1, none⟩ = some (.slice A2 n2 c2) ∧ W.cell? ⟨P2, 2, none⟩ = some (.slice A2' n2' c2') ∧ W.cell? ⟨P3, 0, none⟩ = some (.bool b3) ∧ W.cell? ⟨P3, 1, none⟩ = some (.slice A3 n3 c3) ∧ W.cell? ⟨P3, 2, none⟩ = some (.slice A3' n3' c3'))) := Lib.hid fun W h1 => ⟨(KP1.out.after h1).cell rfl, (KP1.out.after h1).cell rfl, (KP1.out.after h1).cell rfl, (KP2.out.after h1).cell rfl, (KP2.out.after h1).cell rfl, (KP2.out.after h1).cell rfl, (KP3.out.after h1).cell rfl, (KP3.out.after h1).cell rfl, (KP3.out.after h1).cell rfl⟩
  have hdrew : Below v3.heap.size v3 v3.drew := (Below.refl _ _).drew
  go_region_held3 (fun W => W.cell? ⟨P1, 0, none⟩ = some (.bool b1) ∧ W.cell? ⟨P1, 1, none⟩ = some (.slice A1 n1 c1) ∧ W.cell? ⟨P1, 2, none⟩ = some (.slice A1' n1' c1') ∧ W.cell? ⟨P2, 0, none⟩ = some (.bool b2) ∧ W.cell? ⟨P2, 1, none⟩ = some (.slice A2 n2 c2) ∧ W.cell? ⟨P2, 2, none⟩ = some (.slice A2' n2' c2') ∧ W.cell? ⟨P3, 0, none⟩ = some (.bool b3) ∧ W.cell? ⟨P3, 1, none⟩ = some (.slice A3 n3 c3) ∧ W.cell? ⟨P3, 2, none⟩ = some (.slice A3' n3' c3'))
    (first | with_reducible exact KEEP.out wU22 hkwU22 | with_reducible exact KEEP.out wU21 hkwU21 | with_reducible exact KEEP.out wU20 hkwU20 | with_reducible exact KEEP.out wU19 hkwU19 | with_reducible exact KEEP.out wU18 hkwU18 | with_reducible exact KEEP.out wU17 hkwU17 | with_reducible exact KEEP.out wU16 hkwU16 | with_reducible exact KEEP.out wU15 hkwU15 | with_reducible exact KEEP.out wU14 hkwU14 | with_reducible exact KEEP.out wU13 hkwU13 | with_reducible exact KEEP.out wU12 hkwU12 | with_reducible exact KEEP.out wU11 hkwU11 | with_reducible exact KEEP.out wU10 hkwU10 | with_reducible exact KEEP.out wU9 hkwU9 | with_reducible exact KEEP.out wU8 hkwU8 | with_reducible exact KEEP.out wU7 hkwU7 | with_reducible exact KEEP.out wU6 hkwU6 | with_reducible exact KEEP.out wU5 hkwU5 | with_reducible exact KEEP.out wU4 hkwU4 | with_reducible exact KEEP.out wU3 hkwU3 | with_reducible exact KEEP.out wU2 hkwU2 | with_reducible exact KEEP.out wU1 hkwU1 | with_reducible exact KEEP.out v3.drew hdrew | go_keep)
    (first
      | (go_at_call 50; (with_reducible refine (lawsumQ (Ra.out.below hdrew) (Rb.out.below hdrew) (HT.out.below hdrew) SA.out SB.out (by omega)).mono ?_); rintro _ wU1 ⟨xwU1, rfl, hxwU1, hbwU1⟩; have hkwU1 := hdrew.trans (hbwU1.mono hdrew.size); have X1 := Lib.hid (hxwU1); clear hxwU1)
      | (go_at_call 50; (with_reducible refine (lawsumQ (Rb.out.below hkwU1) (Ra.out.below hkwU1) (HT.out.below hkwU1) SB.out SA.out (by omega)).mono ?_); rintro _ wU2 ⟨xwU2, rfl, hxwU2, hbwU2⟩; have hkwU2 := hkwU1.trans (hbwU2.mono hkwU1.size); have X2 := Lib.hid ((hxwU2.cast (Rat.add_comm b a))); clear hxwU2)
      | (go_at_call 17; (with_reducible refine (sameRatQ (X1.out.below hbwU2) X2.out).mono ?_); rintro _ wU3 ⟨rfl, hbwU3⟩; have hkwU3 := hkwU2.trans (hbwU3.mono hkwU2.size); clear X1 X2)
      | (go_at_call 51; (with_reducible refine (lawproductQ (Ra.out.below hkwU3) (Rb.out.below hkwU3) (HT.out.below hkwU3) SA.out SB.out (by omega)).mono ?_); rintro _ wU4 ⟨xwU4, rfl, hxwU4, hbwU4⟩; have hkwU4 := hkwU3.trans (hbwU4.mono hkwU3.size); have X3 := Lib.hid (hxwU4); clear hxwU4)
      | (go_at_call 51; (with_reducible refine (lawproductQ (Rb.out.below hkwU4) (Ra.out.below hkwU4) (HT.out.below hkwU4) SB.out SA.out (by omega)).mono ?_); rintro _ wU5 ⟨xwU5, rfl, hxwU5, hbwU5⟩; have hkwU5 := hkwU4.trans (hbwU5.mono hkwU4.size); have X4 := Lib.hid ((hxwU5.cast (Rat.mul_comm b a))); clear hxwU5)
      | (go_at_call 17; (with_reducible refine (sameRatQ (X3.out.below hbwU5) X4.out).mono ?_); rintro _ wU6 ⟨rfl, hbwU6⟩; have hkwU6 := hkwU5.trans (hbwU6.mono hkwU5.size); clear X3 X4)
      | (go_at_call 50; (with_reducible refine (lawsumQ (Ra.out.below hkwU6) (Rb.out.below hkwU6) (HT.out.below hkwU6) SA.out SB.out (by omega)).mono ?_); rintro _ wU7 ⟨xwU7, rfl, hxwU7, hbwU7⟩; have hkwU7 := hkwU6.trans (hbwU7.mono hkwU6.size); have X5 := Lib.hid (hxwU7); clear hxwU7)
      | (go_at_call 50; (with_reducible refine (lawsumQ X5.out (Rc.out.below hkwU7) (HT.out.below hkwU7) (SA.out.add SB.out) SC.out (by omega)).mono ?_); rintro _ wU8 ⟨xwU8, rfl, hxwU8, hbwU8⟩; have hkwU8 := hkwU7.trans (hbwU8.mono hkwU7.size); have X6 := Lib.hid ((hxwU8.cast (Rat.add_assoc a b c))); clear hxwU8; clear X5)
      | (go_at_call 50; (with_reducible refine (lawsumQ (Rb.out.below hkwU8) (Rc.out.below hkwU8) (HT.out.below hkwU8) SB.out SC.out (by omega)).mono ?_); rintro _ wU9 ⟨xwU9, rfl, hxwU9, hbwU9⟩; have hkwU9 := hkwU8.trans (hbwU9.mono hkwU8.size); have X7 := Lib.hid (hxwU9); clear hxwU9)
      | (go_at_call 50; (with_reducible refine (lawsumQ (Ra.out.below hkwU9) X7.out (HT.out.below hkwU9) SA.out (SB.out.add SC.out) (by omega)).mono ?_); rintro _ wU10 ⟨xwU10, rfl, hxwU10, hbwU10⟩; have hkwU10 := hkwU9.trans (hbwU10.mono hkwU9.size); have X8 := Lib.hid (hxwU10); clear hxwU10; clear X7)
      | (go_at_call 17; (with_reducible refine (sameRatQ ((X6.out.below hbwU9).below hbwU10) X8.out).mono ?_); rintro _ wU11 ⟨rfl, hbwU11⟩; have hkwU11 := hkwU10.trans (hbwU11.mono hkwU10.size); clear X6 X8)
      | (go_at_call 51; (with_reducible refine (lawproductQ (Ra.out.below hkwU11) (Rb.out.below hkwU11) (HT.out.below hkwU11) SA.out SB.out (by omega)).mono ?_); rintro _ wU12 ⟨xwU12, rfl, hxwU12, hbwU12⟩; have hkwU12 := hkwU11.trans (hbwU12.mono hkwU11.size); have Y5 := Lib.hid (hxwU12); clear hxwU12)
      | (go_at_call 51; (with_reducible refine (lawproductQ Y5.out (Rc.out.below hkwU12) (HT.out.below hkwU12) (SA.out.mul SB.out) SC.out (by omega)).mono ?_); rintro _ wU13 ⟨xwU13, rfl, hxwU13, hbwU13⟩; have hkwU13 := hkwU12.trans (hbwU13.mono hkwU12.size); have Y6 := Lib.hid ((hxwU13.cast (Rat.mul_assoc a b c))); clear hxwU13; clear Y5)
      | (go_at_call 51; (with_reducible refine (lawproductQ (Rb.out.below hkwU13) (Rc.out.below hkwU13) (HT.out.below hkwU13) SB.out SC.out (by omega)).mono ?_); rintro _ wU14 ⟨xwU14, rfl, hxwU14, hbwU14⟩; have hkwU14 := hkwU13.trans (hbwU14.mono hkwU13.size); have Y7 := Lib.hid (hxwU14); clear hxwU14)
      | (go_at_call 51; (with_reducible refine (lawproductQ (Ra.out.below hkwU14) Y7.out (HT.out.below hkwU14) SA.out (SB.out.mul SC.out) (by omega)).mono ?_); rintro _ wU15 ⟨xwU15, rfl, hxwU15, hbwU15⟩; have hkwU15 := hkwU14.trans (hbwU15.mono hkwU14.size); have Y8 := Lib.hid (hxwU15); clear hxwU15; clear Y7)
      | (go_at_call 17; (with_reducible refine (sameRatQ ((Y6.out.below hbwU14).below hbwU15) Y8.out).mono ?_); rintro _ wU16 ⟨rfl, hbwU16⟩; have hkwU16 := hkwU15.trans (hbwU16.mono hkwU15.size); clear Y6 Y8)
      | (go_at_call 50; (with_reducible refine (lawsumQ (Rb.out.below hkwU16) (Rc.out.below hkwU16) (HT.out.below hkwU16) SB.out SC.out (by omega)).mono ?_); rintro _ wU17 ⟨xwU17, rfl, hxwU17, hbwU17⟩; have hkwU17 := hkwU16.trans (hbwU17.mono hkwU16.size); have Z1 := Lib.hid (hxwU17); clear hxwU17)
      | (go_at_call 51; (with_reducible refine (lawproductQ (Ra.out.below hkwU17) Z1.out (HT.out.below hkwU17) SA.out (SB.out.add SC.out) (by omega)).mono ?_); rintro _ wU18 ⟨xwU18, rfl, hxwU18, hbwU18⟩; have hkwU18 := hkwU17.trans (hbwU18.mono hkwU17.size); have Z2 := Lib.hid ((hxwU18.cast (Rat.mul_add a b c))); clear hxwU18; clear Z1)
      | (go_at_call 51; (with_reducible refine (lawproductQ (Ra.out.below hkwU18) (Rb.out.below hkwU18) (HT.out.below hkwU18) SA.out SB.out (by omega)).mono ?_); rintro _ wU19 ⟨xwU19, rfl, hxwU19, hbwU19⟩; have hkwU19 := hkwU18.trans (hbwU19.mono hkwU18.size); have Z3 := Lib.hid (hxwU19); clear hxwU19)
      | (go_at_call 51; (with_reducible refine (lawproductQ (Ra.out.below hkwU19) (Rc.out.below hkwU19) (HT.out.below hkwU19) SA.out SC.out (by omega)).mono ?_); rintro _ wU20 ⟨xwU20, rfl, hxwU20, hbwU20⟩; have hkwU20 := hkwU19.trans (hbwU20.mono hkwU19.size); have Z4 := Lib.hid (hxwU20); clear hxwU20)
      | (go_at_call 50; (with_reducible refine (lawsumQ (Z3.out.below hbwU20) Z4.out (HT.out.below hkwU20) (SA.out.mul SB.out) (SA.out.mul SC.out) (by omega)).mono ?_); rintro _ wU21 ⟨xwU21, rfl, hxwU21, hbwU21⟩; have hkwU21 := hkwU20.trans (hbwU21.mono hkwU20.size); have Z5 := Lib.hid (hxwU21); clear hxwU21; clear Z3 Z4)
      | (go_at_call 17; (with_reducible refine (sameRatQ (((Z2.out.below hbwU19).below hbwU20).below hbwU21) Z5.out).mono ?_); rintro _ wU22 ⟨rfl, hbwU22⟩; have hkwU22 := hkwU21.trans (hbwU22.mono hkwU21.size); clear Z2 Z5))
  replace Ra := Lib.hid (Ra.out.below hkwU22)
  replace Rb := Lib.hid (Rb.out.below hkwU22)
  replace HT := Lib.hid (HT.out.below hkwU22)
  replace KP1 := Lib.hid (KP1.out.after hkwU22)
  replace KP2 := Lib.hid (KP2.out.after hkwU22)
  replace HB := Lib.hid (HB.out.trans (hkwU22.mono HB.out.size))
  clear KP3 Rc SC KEEP hdrew hbwU1 hkwU1 hbwU2 hkwU2 hbwU3 hkwU3 hbwU4 hkwU4 hbwU5 hkwU5 hbwU6 hkwU6 hbwU7 hkwU7 hbwU8 hkwU8 hbwU9 hkwU9 hbwU10 hkwU10 hbwU11 hkwU11 hbwU12 hkwU12 hbwU13 hkwU13 hbwU14 hkwU14 hbwU15 hkwU15 hbwU16 hkwU16 hbwU17 hkwU17 hbwU18 hkwU18 hbwU19 hkwU19 hbwU20 hkwU20 hbwU21 hkwU21 hbwU22 hkwU22
  clear wU1 wU2 wU3 wU4 wU5 wU6 wU7 wU8 wU9 wU10 wU11 wU12 wU13 wU14 wU15 wU16 wU17 wU18 wU19 wU20 wU21 v1 v2 v3 w1 w2 w3
  go_upto_region 10 with fail
  have C1 : Hid (∀ W, Below wU22.heap.size wU22 W → _) := Lib.hid fun W (h1 : Below wU22.heap.size wU22 W) => lawsumQ (Ra.out.below h1) (Rb.out.below h1) (HT.out.below h1) SA.out SB.out (by omega)
  have C2 : Hid (∀ W0 W x, Below wU22.heap.size wU22 W0 → Below W0.heap.size W0 W → Rq W0 (a + b) x → _) := Lib.hid fun W0 W x (h0 : Below wU22.heap.size wU22 W0) (h1 : Below W0.heap.size W0 W) (hx : Rq W0 (a + b) x) => ratSubQ (hx.below h1) (Rb.out.below (h0.trans (h1.mono h0.size))) (HT.out.below (h0.trans (h1.mono h0.size))) (SA.out.add SB.out) SB.out (by omega)
  have KEEP : Hid (∀ W, Below wU22.heap.size wU22 W → (W.cell? ⟨P1, 0, none⟩ = some (.bool b1) ∧ W.cell? ⟨P1, 1, none⟩ = some (.slice A1 n1 c1) ∧ W.cell? ⟨P1, 2, none⟩ = some (.slice A1' n1' c1') ∧ W.cell? ⟨P2, 0, none⟩ = some (.bool b2) ∧ W.cell? ⟨P2, 1, none⟩ = some (.slice A2 n2 c2) ∧ W.cell? ⟨P2, 2, none⟩ = some (.slice A2' n2' c2') ∧ Below wU22.heap.size wU22 W)) := Lib.hid fun W h1 => ⟨(KP1.out.after h1).cell rfl, (KP1.out.after h1).cell rfl, (KP1.out.after h1).cell rfl, (KP2.out.after h1).cell rfl, (KP2.out.after h1).cell rfl, (KP2.out.after h1).cell rfl, h1⟩
  have NEXT : Hid (∀ W W', (W.cell? ⟨P1, 0, none⟩ = some (.bool b1) ∧ W.cell? ⟨P1, 1, none⟩ = some (.slice A1 n1 c1) ∧ W.cell? ⟨P1, 2, none⟩ = some (.slice A1' n1' c1') ∧ W.cell? ⟨P2, 0, none⟩ = some (.bool b2) ∧ W.cell? ⟨P2, 1, none⟩ = some (.slice A2 n2 c2) ∧ W.cell? ⟨P2, 2, none⟩ = some (.slice A2' n2' c2') ∧ Below wU22.heap.size wU22 W) → Below W.heap.size W W' → (W'.cell? ⟨P1, 0, none⟩ = some (.bool b1) ∧ W'.cell? ⟨P1, 1, none⟩ = some (.slice A1 n1 c1) ∧ W'.cell? ⟨P1, 2, none⟩ = some (.slice A1' n1' c1') ∧ W'.cell? ⟨P2, 0, none⟩ = some (.bool b2) ∧ W'.cell? ⟨P2, 1, none⟩ = some (.slice A2 n2 c2) ∧ W'.cell? ⟨P2, 2, none⟩ = some (.slice A2' n2' c2') ∧ Below wU22.heap.size wU22 W')) := Lib.hid fun W W' h hb => KEEP.out W' (h.2.2.2.2.2.2.trans (hb.mono h.2.2.2.2.2.2.size))
  have ALL : Hid (∀ W o, (W.cell? ⟨P1, 0, none⟩ = some (.bool b1) ∧ W.cell? ⟨P1, 1, none⟩ = some (.slice A1 n1 c1) ∧ W.cell? ⟨P1, 2, none⟩ = some (.slice A1' n1' c1') ∧ W.cell? ⟨P2, 0, none⟩ = some (.bool b2) ∧ W.cell? ⟨P2, 1, none⟩ = some (.slice A2 n2 c2) ∧ W.cell? ⟨P2, 2, none⟩ = some (.slice A2' n2' c2') ∧ Below wU22.heap.size wU22 W) → ((W.alloc o).cell? ⟨P1, 0, none⟩ = some (.bool b1) ∧ (W.alloc o).cell? ⟨P1, 1, none⟩ = some (.slice A1 n1 c1) ∧ (W.alloc o).cell? ⟨P1, 2, none⟩ = some (.slice A1' n1' c1') ∧ (W.alloc o).cell? ⟨P2, 0, none⟩ = some (.bool b2) ∧ (W.alloc o).cell? ⟨P2, 1, none⟩ = some (.slice A2 n2 c2) ∧ (W.alloc o).cell? ⟨P2, 2, none⟩ = some (.slice A2' n2' c2') ∧ Below wU22.heap.size wU22 (W.alloc o))) := Lib.hid fun W o h => NEXT.out W _ h (below1 W o)
  have ALC : Hid (∀ W w', (W.cell? ⟨P1, 0, none⟩ = some (.bool b1) ∧ W.cell? ⟨P1, 1, none⟩ = some (.slice A1 n1 c1) ∧ W.cell? ⟨P1, 2, none⟩ = some (.slice A1' n1' c1') ∧ W.cell? ⟨P2, 0, none⟩ = some (.bool b2) ∧ W.cell? ⟨P2, 1, none⟩ = some (.slice A2 n2 c2) ∧ W.cell? ⟨P2, 2, none⟩ = some (.slice A2' n2' c2') ∧ Below wU22.heap.size wU22 W) → Below (W.alloc (.cells #[.bool false, .slice none 0 0, .slice none 0 0] 25)).heap.size (W.alloc (.cells #[.bool false, .slice none 0 0, .slice none 0 0] 25)) w' → Blk w' W.heap.size 25 #[.bool false, .slice none 0 0, .slice none 0 0] ∧ wU22.heap.size ≤ W.heap.size) := Lib.hid fun W w' h hb => ⟨(Blk.new W _ _).after hb, h.2.2.2.2.2.2.size⟩
  have STO : Hid (∀ W p x y z, (W.cell? ⟨P1, 0, none⟩ = some (.bool b1) ∧ W.cell? ⟨P1, 1, none⟩ = some (.slice A1 n1 c1) ∧ W.cell? ⟨P1, 2, none⟩ = some (.slice A1' n1' c1') ∧ W.cell? ⟨P2, 0, none⟩ = some (.bool b2) ∧ W.cell? ⟨P2, 1, none⟩ = some (.slice A2 n2 c2) ∧ W.cell? ⟨P2, 2, none⟩ = some (.slice A2' n2' c2') ∧ Below wU22.heap.size wU22 W) → wU22.heap.size ≤ p → ((((W.setCell ⟨p, 0, none⟩ x).setCell ⟨p, 1, none⟩ y).setCell ⟨p, 2, none⟩ z).cell? ⟨P1, 0, none⟩ = some (.bool b1) ∧ (((W.setCell ⟨p, 0, none⟩ x).setCell ⟨p, 1, none⟩ y).setCell ⟨p, 2, none⟩ z).cell? ⟨P1, 1, none⟩ = some (.slice A1 n1 c1) ∧ (((W.setCell ⟨p, 0, none⟩ x).setCell ⟨p, 1, none⟩ y).setCell ⟨p, 2, none⟩ z).cell? ⟨P1, 2, none⟩ = some (.slice A1' n1' c1') ∧ (((W.setCell ⟨p, 0, none⟩ x).setCell ⟨p, 1, none⟩ y).setCell ⟨p, 2, none⟩ z).cell? ⟨P2, 0, none⟩ = some (.bool b2) ∧ (((W.setCell ⟨p, 0, none⟩ x).setCell ⟨p, 1, none⟩ y).setCell ⟨p, 2, none⟩ z).cell? ⟨P2, 1, none⟩ = some (.slice A2 n2 c2) ∧ (((W.setCell ⟨p, 0, none⟩ x).setCell ⟨p, 1, none⟩ y).setCell ⟨p, 2, none⟩ z).cell? ⟨P2, 2, none⟩ = some (.slice A2' n2' c2') ∧ Below wU22.heap.size wU22 (((W.setCell ⟨p, 0, none⟩ x).setCell ⟨p, 1, none⟩ y).setCell ⟨p, 2, none⟩ z))) := Lib.hid fun W p x y z h hg => KEEP.out _ (((h.2.2.2.2.2.2.setCell hg _).setCell hg _).setCell hg _)
  have hdrew := KEEP.out wU22.drew (Below.refl _ _).drew
  have hdrewA := KEEP.out ((wU22.alloc (.cells #[.bool false, .slice none 0 0, .slice none 0 0] 25)).drew) (below1 wU22 _).drew
  have ALD : Hid (∀ w', Below ((wU22.alloc (.cells #[.bool false, .slice none 0 0, .slice none 0 0] 25)).drew).heap.size ((wU22.alloc (.cells #[.bool false, .slice none 0 0, .slice none 0 0] 25)).drew) w' → Blk w' wU22.heap.size 25 #[.bool false, .slice none 0 0, .slice none 0 0] ∧ wU22.heap.size ≤ wU22.heap.size) := Lib.hid fun w' hb => ⟨Blk.after (show Blk ((wU22.alloc (.cells #[.bool false, .slice none 0 0, .slice none 0 0] 25)).drew) wU22.heap.size 25 #[.bool false, .slice none 0 0, .slice none 0 0] from Blk.new wU22 _ _) hb, Nat.le_refl _⟩
  go_cut [15, 16] (fun p e wx => ∃ g s4 B4 m4 d4 B4' m4' d4', p = .pointer (some ⟨g, 0, none⟩) ∧ e = .int .i64 0 ∧ Hid (Blk wx g 25 #[.bool s4, .slice B4 m4 d4, .slice B4' m4' d4']) ∧ Hid (Rq wx (a) (.agg #[.bool s4, .slice B4 m4 d4, .slice B4' m4' d4'])) ∧ Hid (Below wU22.heap.size wU22 wx ∧ wU22.heap.size ≤ g))
  case first =>
    go_region_held3 (fun W => W.cell? ⟨P1, 0, none⟩ = some (.bool b1) ∧ W.cell? ⟨P1, 1, none⟩ = some (.slice A1 n1 c1) ∧ W.cell? ⟨P1, 2, none⟩ = some (.slice A1' n1' c1') ∧ W.cell? ⟨P2, 0, none⟩ = some (.bool b2) ∧ W.cell? ⟨P2, 1, none⟩ = some (.slice A2 n2 c2) ∧ W.cell? ⟨P2, 2, none⟩ = some (.slice A2' n2' c2') ∧ Below wU22.heap.size wU22 W)
      (first | with_reducible assumption | with_reducible exact ALL.out _ _ (by with_reducible assumption) | with_reducible exact STO.out _ _ _ _ _ (by with_reducible assumption) hge)
      (first
        | (go_at_call 50; (with_reducible refine (C1.out ((wU22.alloc (.cells #[.bool false, .slice none 0 0, .slice none 0 0] 25)).drew) ((show _ ∧ _ ∧ _ ∧ _ ∧ _ ∧ _ ∧ _ from by with_reducible assumption).2.2.2.2.2.2)).mono ?_); rintro _ y1 ⟨x1, rfl, hx1, hby1⟩; have HX1 := Lib.hid hx1; clear hx1; have hS := NEXT.out _ _ (by with_reducible assumption) hby1; obtain ⟨hA, hge⟩ := ALD.out _ hby1; have e0_ := hA.cell (i := 0) rfl; have e1_ := hA.cell (i := 1) rfl; have e2_ := hA.cell (i := 2) rfl; have hfA := hA.free; have hlA := hA.lt)
        | (go_at_call 50; (with_reducible refine (C1.out (World.alloc _ (.cells #[.bool false, .slice none 0 0, .slice none 0 0] 25)) ((show _ ∧ _ ∧ _ ∧ _ ∧ _ ∧ _ ∧ _ from by with_reducible assumption).2.2.2.2.2.2)).mono ?_); rintro _ y1 ⟨x1, rfl, hx1, hby1⟩; have HX1 := Lib.hid hx1; clear hx1; have hS := NEXT.out _ _ (by with_reducible assumption) hby1; obtain ⟨hA, hge⟩ := ALC.out _ _ (by with_reducible assumption) hby1; have e0_ := hA.cell (i := 0) rfl; have e1_ := hA.cell (i := 1) rfl; have e2_ := hA.cell (i := 2) rfl; have hfA := hA.free; have hlA := hA.lt)
        | (go_at_call 50; (with_reducible refine (C1.out _ ((show _ ∧ _ ∧ _ ∧ _ ∧ _ ∧ _ ∧ _ from by with_reducible assumption).2.2.2.2.2.2)).mono ?_); rintro _ y1 ⟨x1, rfl, hx1, hby1⟩; have HX1 := Lib.hid hx1; clear hx1; have hS := NEXT.out _ _ (by with_reducible assumption) hby1; replace hA := hA.after hby1; have e0_ := hA.cell (i := 0) rfl; have e1_ := hA.cell (i := 1) rfl; have e2_ := hA.cell (i := 2) rfl; have hfA := hA.free; have hlA := hA.lt)
        | (go_at_call 50; (with_reducible refine (C1.out _ ((show _ ∧ _ ∧ _ ∧ _ ∧ _ ∧ _ ∧ _ from by with_reducible assumption).2.2.2.2.2.2)).mono ?_); rintro _ y1 ⟨x1, rfl, hx1, hby1⟩; have HX1 := Lib.hid hx1; clear hx1; have hS := NEXT.out _ _ (by with_reducible assumption) hby1)
        | (go_at_call 18; (with_reducible refine (C2.out y1 (World.alloc _ (.cells #[.bool false, .slice none 0 0, .slice none 0 0] 25)) x1 hS.2.2.2.2.2.2 (by first | with_reducible exact Below.refl _ _ | with_reducible exact below1 _ _) HX1.out).mono ?_); rintro _ y2 ⟨x2, rfl, hx2, hby2⟩; obtain ⟨b4, B4, m4, e4, B4', m4', e4', rfl, _, _, _⟩ := hx2.get; have HX2 := Lib.hid (hx2.cast Rat.add_sub_cancel); clear hx2; have hS := NEXT.out _ _ (by with_reducible assumption) hby2; obtain ⟨hA, hge⟩ := ALC.out _ _ (by with_reducible assumption) hby2; have e0_ := hA.cell (i := 0) rfl; have e1_ := hA.cell (i := 1) rfl; have e2_ := hA.cell (i := 2) rfl; have hfA := hA.free; have hlA := hA.lt)
        | (go_at_call 18; (with_reducible refine (C2.out y1 _ x1 hS.2.2.2.2.2.2 (by first | with_reducible exact Below.refl _ _ | with_reducible exact below1 _ _) HX1.out).mono ?_); rintro _ y2 ⟨x2, rfl, hx2, hby2⟩; obtain ⟨b4, B4, m4, e4, B4', m4', e4', rfl, _, _, _⟩ := hx2.get; have HX2 := Lib.hid (hx2.cast Rat.add_sub_cancel); clear hx2; have hS := NEXT.out _ _ (by with_reducible assumption) hby2; replace hA := hA.after hby2; have e0_ := hA.cell (i := 0) rfl; have e1_ := hA.cell (i := 1) rfl; have e2_ := hA.cell (i := 2) rfl; have hfA := hA.free; have hlA := hA.lt)
        | (go_at_call 18; (with_reducible refine (C2.out y1 _ x1 hS.2.2.2.2.2.2 (by first | with_reducible exact Below.refl _ _ | with_reducible exact below1 _ _) HX1.out).mono ?_); rintro _ y2 ⟨x2, rfl, hx2, hby2⟩; obtain ⟨b4, B4, m4, e4, B4', m4', e4', rfl, _, _, _⟩ := hx2.get; have HX2 := Lib.hid (hx2.cast Rat.add_sub_cancel); clear hx2; have hS := NEXT.out _ _ (by with_reducible assumption) hby2))
    all_goals
      go_wp2_with fail
      go_meet
      first
        | (have k := hA.row3 (.bool b4) (.slice B4 m4 e4) (.slice B4' m4' e4'); have h := STO.out _ _ (.bool b4) (.slice B4 m4 e4) (.slice B4' m4' e4') hS hge; obtain ⟨g1, g2, g3⟩ := HX2.out.inv; have hq := Rq.mk g3 rfl rfl (g1.put3 (i := 0) (j := 1) (l := 2) (u := .bool b4) (x := .slice B4 m4 e4) (y := .slice B4' m4' e4') hA (hnoR _ _ _ _ _ _ _)) (g2.put3 (i := 0) (j := 1) (l := 2) (u := .bool b4) (x := .slice B4 m4 e4) (y := .slice B4' m4' e4') hA (hnoR _ _ _ _ _ _ _)); with_reducible exact ⟨_, _, _, _, _, _, _, _, rfl, rfl, Lib.hid k, Lib.hid hq, Lib.hid ⟨h.2.2.2.2.2.2, hge⟩⟩)
        | (have k := Blk.new y2 #[.bool b4, .slice B4 m4 e4, .slice B4' m4' e4'] 25; have h := ALL.out _ (.cells #[.bool b4, .slice B4 m4 e4, .slice B4' m4' e4'] 25) hS; have hq := HX2.out.below (below1 y2 (.cells #[.bool b4, .slice B4 m4 e4, .slice B4' m4' e4'] 25)); with_reducible exact ⟨_, _, _, _, _, _, _, _, rfl, rfl, Lib.hid k, Lib.hid hq, Lib.hid ⟨h.2.2.2.2.2.2, hS.2.2.2.2.2.2.size⟩⟩)
  case rest =>
    obtain ⟨P4, b4, A4, n4, c4, A4', n4', c4', rfl, rfl, KP4, R4, hk⟩ := hcut
    generalize wc = w10 at *
    have g41 : P4 ≠ P1 := by have := KP1.out.lt; have := hk.out.2; omega
    have g42 : P4 ≠ P2 := by have := KP2.out.lt; have := hk.out.2; omega
    have Ra0 := Ra
    have Rb0 := Rb
    have HT0 := HT
    have KP10 := KP1
    have KP20 := KP2
    have HB0 := HB
    have HQ := Lib.hid hk.out.1
    have HG := Lib.hid hk.out.2
    replace Ra := Lib.hid (Ra.out.below hk.out.1)
    replace Rb := Lib.hid (Rb.out.below hk.out.1)
    replace HT := Lib.hid (HT.out.below hk.out.1)
    replace KP1 := Lib.hid (KP1.out.after hk.out.1)
    replace KP2 := Lib.hid (KP2.out.after hk.out.1)
    replace HB := Lib.hid (HB.out.trans (hk.out.1.mono HB.out.size))
    clear KEEP NEXT ALL ALC STO hdrew hdrewA ALD C1 C2 hk
    go_upto_region 11 with fail
    have KEEP : Hid (∀ W, Below w10.heap.size w10 W → (W.cell? ⟨P1, 0, none⟩ = some (.bool b1) ∧ W.cell? ⟨P1, 1, none⟩ = some (.slice A1 n1 c1) ∧ W.cell? ⟨P1, 2, none⟩ = some (.slice A1' n1' c1') ∧ W.cell? ⟨P4, 0, none⟩ = some (.bool b4) ∧ W.cell? ⟨P4, 1, none⟩ = some (.slice A4 n4 c4) ∧ W.cell? ⟨P4, 2, none⟩ = some (.slice A4' n4' c4'))) := Lib.hid fun W h1 => ⟨(KP1.out.after h1).cell rfl, (KP1.out.after h1).cell rfl, (KP1.out.after h1).cell rfl, (KP4.out.after h1).cell rfl, (KP4.out.after h1).cell rfl, (KP4.out.after h1).cell rfl⟩
    have hdrew : Below w10.heap.size w10 w10.drew := (Below.refl _ _).drew
    go_region_held3 (fun W => W.cell? ⟨P1, 0, none⟩ = some (.bool b1) ∧ W.cell? ⟨P1, 1, none⟩ = some (.slice A1 n1 c1) ∧ W.cell? ⟨P1, 2, none⟩ = some (.slice A1' n1' c1') ∧ W.cell? ⟨P4, 0, none⟩ = some (.bool b4) ∧ W.cell? ⟨P4, 1, none⟩ = some (.slice A4 n4 c4) ∧ W.cell? ⟨P4, 2, none⟩ = some (.slice A4' n4' c4'))
      (first | with_reducible exact KEEP.out wP7 hkwP7 | with_reducible exact KEEP.out wP6 hkwP6 | with_reducible exact KEEP.out wP5 hkwP5 | with_reducible exact KEEP.out wP4 hkwP4 | with_reducible exact KEEP.out wP3 hkwP3 | with_reducible exact KEEP.out wP2 hkwP2 | with_reducible exact KEEP.out wP1 hkwP1 | with_reducible exact KEEP.out w10.drew hdrew | go_keep)
      (first
        | (go_at_call 17; (with_reducible refine (sameRatQ (R4.out.below hdrew) (Ra.out.below hdrew)).mono ?_); rintro _ wP1 ⟨rfl, hbwP1⟩; have hkwP1 := hdrew.trans (hbwP1.mono hdrew.size))
        | (go_at_call 45; (with_reducible refine (ofN1 0 (by omega) (by omega) _).mono ?_); rintro _ wP2 ⟨xwP2, rfl, hxwP2, hbwP2⟩; have hkwP2 := hkwP1.trans (hbwP2.mono hkwP1.size); have O1 := Lib.hid (hxwP2); clear hxwP2)
        | (go_at_call 50; (with_reducible refine (lawsumQ (Ra.out.below hkwP2) O1.out (HT.out.below hkwP2) SA.out (sz_mk (z := 0) (D := 1) (by decide) (by decide) (by decide)) (by omega)).mono ?_); rintro _ wP3 ⟨xwP3, rfl, hxwP3, hbwP3⟩; have hkwP3 := hkwP2.trans (hbwP3.mono hkwP2.size); have S1 := Lib.hid ((hxwP3.cast (add_of0 a))); clear hxwP3; clear O1)
        | (go_at_call 17; (with_reducible refine (sameRatQ S1.out (Ra.out.below hkwP3)).mono ?_); rintro _ wP4 ⟨rfl, hbwP4⟩; have hkwP4 := hkwP3.trans (hbwP4.mono hkwP3.size); clear S1)
        | (go_at_call 45; (with_reducible refine (ofN1 1 (by omega) (by omega) _).mono ?_); rintro _ wP5 ⟨xwP5, rfl, hxwP5, hbwP5⟩; have hkwP5 := hkwP4.trans (hbwP5.mono hkwP4.size); have O2 := Lib.hid (hxwP5); clear hxwP5)
        | (go_at_call 51; (with_reducible refine (lawproductQ (Ra.out.below hkwP5) O2.out (HT.out.below hkwP5) SA.out (sz_mk (z := 1) (D := 1) (by decide) (by decide) (by decide)) (by omega)).mono ?_); rintro _ wP6 ⟨xwP6, rfl, hxwP6, hbwP6⟩; have hkwP6 := hkwP5.trans (hbwP6.mono hkwP5.size); have S2 := Lib.hid ((hxwP6.cast (mul_of1 a))); clear hxwP6; clear O2)
        | (go_at_call 17; (with_reducible refine (sameRatQ S2.out (Ra.out.below hkwP6)).mono ?_); rintro _ wP7 ⟨rfl, hbwP7⟩; have hkwP7 := hkwP6.trans (hbwP7.mono hkwP6.size); clear S2))
    replace Ra := Lib.hid (Ra.out.below hkwP7)
    replace Rb := Lib.hid (Rb.out.below hkwP7)
    replace HT := Lib.hid (HT.out.below hkwP7)
    replace KP1 := Lib.hid (KP1.out.after hkwP7)
    replace KP2 := Lib.hid (KP2.out.after hkwP7)
    replace KP4 := Lib.hid (KP4.out.after hkwP7)
    replace HB := Lib.hid (HB.out.trans (hkwP7.mono HB.out.size))
    replace HQ := Lib.hid (HQ.out.trans (hkwP7.mono HQ.out.size))
    clear R4 KEEP hdrew hbwP1 hkwP1 hbwP2 hkwP2 hbwP3 hkwP3 hbwP4 hkwP4 hbwP5 hkwP5 hbwP6 hkwP6 hbwP7 hkwP7
    by_cases hb0 : b = 0
    · have hlen : ((n2 : Int) == 0) = true := by rw [beq_iff_eq]; have := (rq_len Rb.out).2 hb0; omega
      go_upto_region 13 with fail
      have KEEP : Hid (∀ W, Below wP7.heap.size wP7 W → (W.cell? ⟨P1, 0, none⟩ = some (.bool b1) ∧ W.cell? ⟨P1, 1, none⟩ = some (.slice A1 n1 c1) ∧ W.cell? ⟨P1, 2, none⟩ = some (.slice A1' n1' c1') ∧ W.cell? ⟨P2, 0, none⟩ = some (.bool b2) ∧ W.cell? ⟨P2, 1, none⟩ = some (.slice A2 n2 c2) ∧ W.cell? ⟨P2, 2, none⟩ = some (.slice A2' n2' c2'))) := Lib.hid fun W h1 => ⟨(KP1.out.after h1).cell rfl, (KP1.out.after h1).cell rfl, (KP1.out.after h1).cell rfl, (KP2.out.after h1).cell rfl, (KP2.out.after h1).cell rfl, (KP2.out.after h1).cell rfl⟩
      have hdrew : Below wP7.heap.size wP7 wP7.drew := (Below.refl _ _).drew
      go_region_held3 (fun W => W.cell? ⟨P1, 0, none⟩ = some (.bool b1) ∧ W.cell? ⟨P1, 1, none⟩ = some (.slice A1 n1 c1) ∧ W.cell? ⟨P1, 2, none⟩ = some (.slice A1' n1' c1') ∧ W.cell? ⟨P2, 0, none⟩ = some (.bool b2) ∧ W.cell? ⟨P2, 1, none⟩ = some (.slice A2 n2 c2) ∧ W.cell? ⟨P2, 2, none⟩ = some (.slice A2' n2' c2'))
        (first | with_reducible exact KEEP.out wQ2 hkwQ2 | with_reducible exact KEEP.out wQ1 hkwQ1 | with_reducible exact KEEP.out wP7.drew hdrew | go_keep)
        (first
          | (go_at_call 51; (with_reducible refine (lawproductQ (Ra.out.below hdrew) (Rb.out.below hdrew) (HT.out.below hdrew) SA.out SB.out (by omega)).mono ?_); rintro _ wQ1 ⟨xwQ1, rfl, hxwQ1, hbwQ1⟩; have hkwQ1 := hdrew.trans (hbwQ1.mono hdrew.size); have D1 := Lib.hid (hxwQ1); clear hxwQ1)
          | (go_at_call 22; (with_reducible refine (ratDiv_zero D1.out (Rb.out.below hkwQ1) (SA.out.mul SB.out) SB.out (by omega) (by omega) hb0).mono ?_); rintro _ wQ2 ⟨rfl, hbwQ2⟩; have hkwQ2 := hkwQ1.trans (hbwQ2.mono hkwQ1.size); clear D1; have k4 := KP4.out.after hkwQ2; have d40 := k4.cell (i := 0) rfl; have d41 := k4.cell (i := 1) rfl; have d42 := k4.cell (i := 2) rfl; have ff := k4.free; have z4 := k4.lt))
      have HX : Below wU22.heap.size wU22 (((wQ2.setCell ⟨P4, 0, none⟩ (.bool false)).setCell ⟨P4, 1, none⟩ (.slice none 0 0)).setCell ⟨P4, 2, none⟩ (.slice none 0 0)) := (((HQ.out.trans (hkwQ2.mono HQ.out.size)).setCell HG.out _).setCell HG.out _).setCell HG.out _
      clear k4 d40 d41 d42 ff z4 hkwQ1 hkwQ2 hbwQ1 hbwQ2 KEEP hdrew KP4 HQ HG Ra Rb HT KP1 KP2 HB
      go_upto_region 14 with fail
      generalize (((wQ2.setCell ⟨P4, 0, none⟩ (.bool false)).setCell ⟨P4, 1, none⟩ (.slice none 0 0)).setCell ⟨P4, 2, none⟩ (.slice none 0 0)) = w13 at *
      have HT := Lib.hid (HT0.out.below HX)
      have HB := Lib.hid (HB0.out.trans (HX.mono HB0.out.size))
      have KP1 := Lib.hid (KP10.out.after HX)
      have KP2 := Lib.hid (KP20.out.after HX)
      have Ra := Lib.hid (Ra0.out.below HX)
      clear HT0 HB0 KP10 KP20 Ra0 Rb0 HX
      have f1 := KP2.out.cell (i := 1) rfl
      go_wp2_with fail
      refine (awakeN HT.out).mono ?_
      rintro _ w15 ⟨rfl, hb⟩
      replace HB := Lib.hid (HB.out.trans (hb.mono HB.out.size))
      clear hb
      go_wp2_with fail
      go_ret
      exact ⟨rfl, HB.out⟩
    · have hlen : ((n2 : Int) == 0) = false := by rw [beq_eq_false_iff_ne]; intro e; exact hb0 ((rq_len Rb.out).1 (by omega))
      go_upto_region 13 with fail
      have KEEP : Hid (∀ W, Below wP7.heap.size wP7 W → (W.cell? ⟨P1, 0, none⟩ = some (.bool b1) ∧ W.cell? ⟨P1, 1, none⟩ = some (.slice A1 n1 c1) ∧ W.cell? ⟨P1, 2, none⟩ = some (.slice A1' n1' c1') ∧ W.cell? ⟨P2, 0, none⟩ = some (.bool b2) ∧ W.cell? ⟨P2, 1, none⟩ = some (.slice A2 n2 c2) ∧ W.cell? ⟨P2, 2, none⟩ = some (.slice A2' n2' c2'))) := Lib.hid fun W h1 => ⟨(KP1.out.after h1).cell rfl, (KP1.out.after h1).cell rfl, (KP1.out.after h1).cell rfl, (KP2.out.after h1).cell rfl, (KP2.out.after h1).cell rfl, (KP2.out.after h1).cell rfl⟩
      have hdrew : Below wP7.heap.size wP7 wP7.drew := (Below.refl _ _).drew
      go_region_held3 (fun W => W.cell? ⟨P1, 0, none⟩ = some (.bool b1) ∧ W.cell? ⟨P1, 1, none⟩ = some (.slice A1 n1 c1) ∧ W.cell? ⟨P1, 2, none⟩ = some (.slice A1' n1' c1') ∧ W.cell? ⟨P2, 0, none⟩ = some (.bool b2) ∧ W.cell? ⟨P2, 1, none⟩ = some (.slice A2 n2 c2) ∧ W.cell? ⟨P2, 2, none⟩ = some (.slice A2' n2' c2'))
        (first | with_reducible exact KEEP.out wQ2 hkwQ2 | with_reducible exact KEEP.out wQ1 hkwQ1 | with_reducible exact KEEP.out wP7.drew hdrew | go_keep)
        (first
          | (go_at_call 51; (with_reducible refine (lawproductQ (Ra.out.below hdrew) (Rb.out.below hdrew) (HT.out.below hdrew) SA.out SB.out (by omega)).mono ?_); rintro _ wQ1 ⟨xwQ1, rfl, hxwQ1, hbwQ1⟩; have hkwQ1 := hdrew.trans (hbwQ1.mono hdrew.size); have D1 := Lib.hid (hxwQ1); clear hxwQ1)
          | (go_at_call 22; (with_reducible refine (ratDivQ D1.out (Rb.out.below hkwQ1) (HT.out.below hkwQ1) (SA.out.mul SB.out) SB.out (by omega) hb0).mono ?_); rintro _ wQ2 ⟨xwQ2, rfl, hxwQ2, hbwQ2⟩; have hkwQ2 := hkwQ1.trans (hbwQ2.mono hkwQ1.size); have D2 := Lib.hid ((hxwQ2.cast (Rat.mul_div_cancel hb0))); clear hxwQ2; clear D1; obtain ⟨b5, A5, n5, c5, A5', n5', c5', rfl, -, -, -⟩ := D2.out.get; have k4 := KP4.out.after hkwQ2; have d40 := k4.cell (i := 0) rfl; have d41 := k4.cell (i := 1) rfl; have d42 := k4.cell (i := 2) rfl; have ff := k4.free; have z4 := k4.lt))
      have HX : Below wU22.heap.size wU22 (((wQ2.setCell ⟨P4, 0, none⟩ (.bool b5)).setCell ⟨P4, 1, none⟩ (.slice A5 n5 c5)).setCell ⟨P4, 2, none⟩ (.slice A5' n5' c5')) := (((HQ.out.trans (hkwQ2.mono HQ.out.size)).setCell HG.out _).setCell HG.out _).setCell HG.out _
      obtain ⟨g1, g2, g3⟩ := D2.out.inv
      have R5 : Hid (Rq (((wQ2.setCell ⟨P4, 0, none⟩ (.bool b5)).setCell ⟨P4, 1, none⟩ (.slice A5 n5 c5)).setCell ⟨P4, 2, none⟩ (.slice A5' n5' c5')) a (.agg #[.bool b5, .slice A5 n5 c5, .slice A5' n5' c5'])) := Lib.hid (Rq.mk g3 rfl rfl (g1.put3 k4 (hnoR _ _ _ _ _ _ _)) (g2.put3 k4 (hnoR _ _ _ _ _ _ _)))
      have K5 := Lib.hid (k4.row3 (.bool b5) (.slice A5 n5 c5) (.slice A5' n5' c5'))
      clear g1 g2 g3 D2
      clear k4 d40 d41 d42 ff z4 hkwQ1 hkwQ2 hbwQ1 hbwQ2 KEEP hdrew KP4 HQ HG Ra Rb HT KP1 KP2 HB
      go_upto_region 14 with fail
      generalize (((wQ2.setCell ⟨P4, 0, none⟩ (.bool b5)).setCell ⟨P4, 1, none⟩ (.slice A5 n5 c5)).setCell ⟨P4, 2, none⟩ (.slice A5' n5' c5')) = w13 at *
      have HT := Lib.hid (HT0.out.below HX)
      have HB := Lib.hid (HB0.out.trans (HX.mono HB0.out.size))
      have KP1 := Lib.hid (KP10.out.after HX)
      have KP2 := Lib.hid (KP20.out.after HX)
      have Ra := Lib.hid (Ra0.out.below HX)
      clear HT0 HB0 KP10 KP20 Ra0 Rb0 HX
      have f1 := KP2.out.cell (i := 1) rfl
      have f2 := KP1.out.cell (i := 0) rfl
      have f3 := KP1.out.cell (i := 1) rfl
      have f4 := KP1.out.cell (i := 2) rfl
      have f5 := K5.out.cell (i := 0) rfl
      have f6 := K5.out.cell (i := 1) rfl
      have f7 := K5.out.cell (i := 2) rfl
      go_wp2_with fail
      refine (sameRatQ R5.out Ra.out).mono ?_
      rintro _ w14 ⟨rfl, hb⟩
      replace HT := Lib.hid (HT.out.below hb)
      replace HB := Lib.hid (HB.out.trans (hb.mono HB.out.size))
      clear hb f1 f2 f3 f4 f5 f6 f7 KP1 KP2 K5 R5 Ra
      go_wp2_with fail
      refine (awakeN HT.out).mono ?_
      rintro _ w15 ⟨rfl, hb⟩
      replace HB := Lib.hid (HB.out.trans (hb.mono HB.out.size))
      clear hb
      go_wp2_with fail
      go_ret
      exact ⟨rfl, HB.out⟩
end Go.Proofs.YtmcacofpnnaplaaGreatDoor

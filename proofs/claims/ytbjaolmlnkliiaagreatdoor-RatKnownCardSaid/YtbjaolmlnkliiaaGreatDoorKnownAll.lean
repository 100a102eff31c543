/- The contracts of the functions under the laws of package rat: RatKnownA, RatKnownWalk, joined into one file. -/
import Derived.Test.YtbjaolmlnkliiaaGreatDoorTextThree
import Derived.Test.YtbjaolmlnkliiaaGreatDoorWholeFour
import Derived.Test.YtbjaolmlnkliiaaGreatDoorRatThree
import Derived.Test.YtbjaolmlnkliiaaGreatDoorRefTwo
import Derived.Deep.RegionHeld3
import Derived.Deep.DrawnRows
import Derived.Deep.DeepCutAuto
/- The contracts of the laws' reads and faults, and facts on the numbers of RatKnown. Conditions as premises: what Parse answers at the text. -/
namespace Go.Proofs.YtbjaolmlnkliiaaGreatDoor
open Go.RowKit Go.Shelf
attribute [local go_sem ↓] Go.wp_at_zero Go.wp_at_succ

theorem Rq.p3 {w : World} {g : Nat} {t : TypeId} {cs : Array Value} {q : Rat} {v x y z : Value} (h : Rq w q v) (k : Blk w g t cs) (hno : cs.all notU32 = true) : Rq (((w.setCell ⟨g, 0, none⟩ x).setCell ⟨g, 1, none⟩ y).setCell ⟨g, 2, none⟩ z) q v := by
  obtain ⟨A, n, c, A', n', c', e, h1, h2⟩ := h
  exact ⟨A, n, c, A', n', c', e, h1.put3 k hno, h2.put3 k hno⟩
theorem Blk.row {w : World} {g : Nat} {t : TypeId} {a b c : Value} (h : Blk w g t #[a, b, c]) (u v x : Value) : Blk (((w.setCell ⟨g, 0, none⟩ u).setCell ⟨g, 1, none⟩ v).setCell ⟨g, 2, none⟩ x) g t #[u, v, x] := h.set.set.set
theorem below_p3 {B g : Nat} {w w' : World} (h : Below B w w') (hg : B ≤ g) (u v x : Value) : Below B w (((w'.setCell ⟨g, 0, none⟩ u).setCell ⟨g, 1, none⟩ v).setCell ⟨g, 2, none⟩ x) := ((h.setCell (p := ⟨g, 0, none⟩) hg _).setCell (p := ⟨g, 1, none⟩) hg _).setCell (p := ⟨g, 2, none⟩) hg _

set_option maxRecDepth 100000 in
set_option maxHeartbeats 4000000 in
theorem readsN {w : World} (s : ByteArray) (z : Int) (D : Nat) (h0 : -1000000000 ≤ z) (h1 : z ≤ 1000000000) (h2 : 0 < D) (h3 : D ≤ 1000000000)
    (C : Calls Tryz.prog 15 #[.string s] w fun e w' => ∃ x, e = .returned (.tuple #[x, .agg #[.int .i64 0, .int .i64 0]]) ∧ Rq w' (mkRat z D) x ∧ Below w.heap.size w w') :
    Calls Tryz.prog 30 #[.string s, .int .i64 z, .int .i64 (D : Int)] w fun e w' => e = .returned (.bool true) ∧ Below w.heap.size w w' := by
  have CC := Lib.hid C
  have IS := Lib.hid fun (w : World) (v : Value) (h : Rq w (mkRat z D) v) => isN h z D h0 h1 h2 h3 rfl
  clear C h0 h1 h2 h3
  go_enter Tryz.func30, Tryz.ntmps30
  go_wp2_with fail
  refine CC.out.mono ?_
  rintro _ w1 ⟨x, rfl, hx, hb⟩
  obtain ⟨b, A1, n1, c1, A1', n1', c1', rfl, -, -, -⟩ := hx.get
  have hba := below2 w1 (.cells #[.bool b, .slice A1 n1 c1, .slice A1' n1' c1'] 25) (.cells #[.int .i64 0, .int .i64 0] 32)
  have HB := Lib.hid (hb.trans (hba.mono hb.size))
  have I1 := Lib.hid (IS.out _ _ (hx.below hba))
  have K1 := Lib.hid ((Blk.new w1 #[.bool b, .slice A1 n1 c1, .slice A1' n1' c1'] 25).alloc (.cells #[.int .i64 0, .int .i64 0] 32))
  have k2 := Blk.new (w1.alloc (.cells #[.bool b, .slice A1 n1 c1, .slice A1' n1' c1'] 25)) #[.int .i64 0, .int .i64 0] 32
  simp only [World.size_alloc] at k2
  have K2 := Lib.hid k2
  clear hx hb hba IS k2 CC
  go_upto_region 2 with fail
  generalize (w1.alloc (.cells #[.bool b, .slice A1 n1 c1, .slice A1' n1' c1'] 25)).alloc (.cells #[.int .i64 0, .int .i64 0] 32) = w2 at *
  generalize hP2 : w1.heap.size + 1 = P2 at *
  clear hP2
  generalize hP1 : w1.heap.size = P1 at *
  clear hP1
  have p0 := K1.out.cell (i := 0) rfl
  have p1 := K1.out.cell (i := 1) rfl
  have p2 := K1.out.cell (i := 2) rfl
  have q0 := K2.out.cell (i := 0) rfl
  go_wp2_with fail
  refine I1.out.mono ?_
  rintro _ w3 ⟨rfl, hb⟩
  replace HB := Lib.hid (HB.out.trans (hb.mono HB.out.size))
  replace K2 := Lib.hid (K2.out.after hb)
  clear hb p0 p1 p2 q0 I1 K1
  have q1 := K2.out.cell (i := 1) rfl
  go_wp2_with fail
  go_ret
  exact ⟨rfl, HB.out⟩
set_option maxRecDepth 100000 in
set_option maxHeartbeats 4000000 in
theorem faultsN {w : World} (s : ByteArray) (er at_ : Int)
    (C : Calls Tryz.prog 15 #[.string s] w fun e w' => e = .returned (.tuple #[.agg #[.bool false, .slice none 0 0, .slice none 0 0], .agg #[.int .i64 er, .int .i64 at_]]) ∧ Below w.heap.size w w') :
    Calls Tryz.prog 31 #[.string s, .int .i64 er, .int .i64 at_] w fun e w' => e = .returned (.bool true) ∧ Below w.heap.size w w' := by
  have CC := Lib.hid C
  clear C
  go_enter Tryz.func31, Tryz.ntmps31
  go_wp2_with fail
  refine CC.out.mono ?_
  rintro _ w1 ⟨rfl, hb⟩
  have hba := below2 w1 (.cells #[.bool false, .slice none 0 0, .slice none 0 0] 25) (.cells #[.int .i64 er, .int .i64 at_] 32)
  have HB := Lib.hid (hb.trans (hba.mono hb.size))
  clear hb hba CC
  go_wp2_with fail
  go_ret
  exact ⟨rfl, HB.out⟩
theorem chk_l1 {a : Nat} (h0 : a ≠ 0) (h1 : a < 1000000000) : chk 1 (l1 a) = 0 := chk_ok (by omega) (val_l1 h1 h0)
theorem chk24 : chkR false 1 (l1 2) 1 (l1 4) = 3 := by
  unfold chkR
  rw [if_pos (chk_l1 (by decide) (by decide +kernel)), if_pos (chk_l1 (by decide) (by decide +kernel)), if_neg (by decide), if_pos (.inr (by rw [nv_l1, nv_l1]; decide))]
theorem chk01 : chkR true 0 (l1 0) 1 (l1 1) = 3 := by
  unfold chkR
  rw [if_pos (chk_ok (by omega) ⟨fun j hj => by omega, fun h => by omega⟩), if_pos (chk_l1 (by decide) (by decide +kernel)), if_neg (by decide), if_pos (.inl ⟨rfl, rfl⟩)]
theorem k_of1 : ofq 6 (-4) = mkRat (-3) 2 := by decide +kernel
theorem k_of2 : ofq 0 5 = mkRat 0 1 := by decide +kernel
theorem k_mk : mkRat (sn true 0) 7 = mkRat 0 1 := by decide +kernel
theorem k_sub : mkRat 1 2 - mkRat 1 3 = mkRat 1 6 := by decide +kernel
theorem k_div : mkRat 1 2 / mkRat (-1) 4 = mkRat (-2) 1 := by decide +kernel
theorem k_cmp : cq (mkRat 1 2) (mkRat 2 3) = -1 := by decide +kernel
theorem k_fl : (((mkRat (-3) 2).floor : Int) : Rat) = mkRat (-2) 1 := by decide +kernel
theorem k_ce : (((mkRat (-3) 2).ceil : Int) : Rat) = mkRat (-1) 1 := by decide +kernel
theorem k_sc : intW (mkRat 2 3 * ((100 : Int) : Rat)).floor = .tuple #[.int .i64 66, .int .i64 0] := by
  have h : (mkRat 2 3 * ((100 : Int) : Rat)).floor = 66 := by decide +kernel
  rw [h]; unfold intW; rw [if_pos (by omega)]
theorem k_s1 : sQ (mkRat 3 10) (mkRat 2 5) = mkRat 1 3 := by decide +kernel
theorem k_s2 : sQ (mkRat (-1) 2) (mkRat 1 7) = mkRat 0 1 := by decide +kernel
theorem k_s3 : sQ (mkRat (-7) 5) (mkRat (-4) 3) = mkRat (-4) 3 := by decide +kernel
theorem k_s4 : sQ (mkRat 5 2) (mkRat 9 2) = mkRat 3 1 := by decide +kernel
theorem k_l1 : mkRat 3 10 ≤ mkRat 2 5 := by decide +kernel
theorem k_l2 : mkRat (-1) 2 ≤ mkRat 1 7 := by decide +kernel
theorem k_l3 : mkRat (-7) 5 ≤ mkRat (-4) 3 := by decide +kernel
theorem k_l4 : mkRat 5 2 ≤ mkRat 9 2 := by decide +kernel
theorem k_nz : mkRat (-1) 4 ≠ 0 := by decide +kernel
theorem i64_small {z : Int} (h : -1000 ≤ z) (k : z ≤ 1000) : Hid (I64 z) := Lib.hid ⟨by omega, by omega⟩
end Go.Proofs.YtbjaolmlnkliiaaGreatDoor

/- The walk of RatKnown: it returns true, and writes nothing that was there. Conditions as premises: the tables hold what their initialisers lay. -/
namespace Go.Proofs.YtbjaolmlnkliiaaGreatDoor
open Go.RowKit Go.Shelf
attribute [local go_sem ↓] Go.wp_at_zero Go.wp_at_succ

set_option maxRecDepth 100000 in
set_option maxHeartbeats 16000000 in
theorem ratKnown_main (w : World) (hT : Tabs w) (hP : Tab w) :
    Calls Tryz.prog 4 #[] w fun e w' => e = .returned (.bool true) ∧ Below w.heap.size w w' := by
  have HT := Lib.hid hT
  have HP := Lib.hid hP
  have HB := Lib.hid (Below.refl w.heap.size w)
  clear hT hP
  go_enter Tryz.func4, Tryz.ntmps4
  go_wp2_with fail
  refine (ratOfOk 6 (-4) (i64_small (by omega) (by omega)) (i64_small (by omega) (by omega)) (by omega) (HT.out.below HB.out)).mono ?_
  rintro _ w1 ⟨x, rfl, hx, hb⟩
  obtain ⟨bw1, Aw1, nw1, cw1, Aw1', nw1', cw1', rfl, -, -, -⟩ := hx.get
  have hba := below1 w1 (.cells #[.bool bw1, .slice Aw1 nw1 cw1, .slice Aw1' nw1' cw1'] 25)
  have hbb := hb.trans (hba.mono hb.size)
  have G1 : Hid (w.heap.size ≤ w1.heap.size) := Lib.hid (HB.out.trans (hb.mono HB.out.size)).size
  replace HB := Lib.hid (HB.out.trans (hbb.mono HB.out.size))
  have R1 := Lib.hid ((hx.below hba).cast k_of1)
  have K1 := Lib.hid (Blk.new w1 #[.bool bw1, .slice Aw1 nw1 cw1, .slice Aw1' nw1' cw1'] 25)
  clear hx hb hba hbb
  go_upto_region 2 with fail
  generalize hP1 : w1.heap.size = P1 at *
  clear hP1
  generalize w1.alloc (.cells #[.bool bw1, .slice Aw1 nw1 cw1, .slice Aw1' nw1' cw1'] 25) = w2 at *
  go_wp2_with fail
  refine (ratOfOk 0 5 (i64_small (by omega) (by omega)) (i64_small (by omega) (by omega)) (by omega) (HT.out.below HB.out)).mono ?_
  rintro _ w3 ⟨x, rfl, hx, hb⟩
  obtain ⟨bw3, Aw3, nw3, cw3, Aw3', nw3', cw3', rfl, -, -, -⟩ := hx.get
  have hba := below1 w3 (.cells #[.bool bw3, .slice Aw3 nw3 cw3, .slice Aw3' nw3' cw3'] 25)
  have hbb := hb.trans (hba.mono hb.size)
  have G3 : Hid (w.heap.size ≤ w3.heap.size) := Lib.hid (HB.out.trans (hb.mono HB.out.size)).size
  have N13 : Hid (P1 ≠ w3.heap.size) := Lib.hid (Nat.ne_of_lt (K1.out.after hb).lt)
  replace HB := Lib.hid (HB.out.trans (hbb.mono HB.out.size))
  replace R1 := Lib.hid (R1.out.below hbb)
  replace K1 := Lib.hid (K1.out.after hbb)
  have R3 := Lib.hid ((hx.below hba).cast k_of2)
  have K3 := Lib.hid (Blk.new w3 #[.bool bw3, .slice Aw3 nw3 cw3, .slice Aw3' nw3' cw3'] 25)
  clear hx hb hba hbb
  go_upto_region 3 with fail
  generalize hP3 : w3.heap.size = P3 at *
  clear hP3
  generalize w3.alloc (.cells #[.bool bw3, .slice Aw3 nw3 cw3, .slice Aw3' nw3' cw3'] 25) = w4 at *
  go_wp2_with fail
  have CZ := ratOf_zero 1 w4
  unfold zeroRat at CZ
  refine (CZ).mono ?_
  rintro _ w5 ⟨rfl, hb⟩
  clear CZ
  have hba := below1 w5 (.cells #[.bool false, .slice none 0 0, .slice none 0 0] 25)
  have hbb := hb.trans (hba.mono hb.size)
  replace HB := Lib.hid (HB.out.trans (hbb.mono HB.out.size))
  replace R1 := Lib.hid (R1.out.below hbb)
  replace K1 := Lib.hid (K1.out.after hbb)
  replace R3 := Lib.hid (R3.out.below hbb)
  replace K3 := Lib.hid (K3.out.after hbb)
  clear hb hba hbb
  go_upto_region 4 with fail
  generalize w5.alloc (.cells #[.bool false, .slice none 0 0, .slice none 0 0] 25) = w6 at *
  have hba := below1 w6 (.cells #[.int .u32 7] 40)
  replace HB := Lib.hid (HB.out.trans (hba.mono HB.out.size))
  replace R1 := Lib.hid (R1.out.below hba)
  replace K1 := Lib.hid (K1.out.after hba)
  replace R3 := Lib.hid (R3.out.below hba)
  replace K3 := Lib.hid (K3.out.after hba)
  have N7 : Hid (Nr (w6.alloc (.cells #[.int .u32 7] 40)) 7 (.slice (some ⟨w6.heap.size, 0, none⟩) 1 1)) := Lib.hid ⟨_, 1, 1, l1 7, rfl, (lit1 w6 7 7 rfl (by omega)).more (by simp), ⟨val_l1 (by decide +kernel) (by decide), nv_l1 7⟩⟩
  clear hba
  go_wp2_with fail
  refine (ratMakeQ true (Nr.zero _) N7.out (lt_NL (show 0 < LB ^ 1 by decide +kernel) (by omega)) (lt_NL (show 7 < LB ^ 1 by decide +kernel) (by omega)) (by decide)).mono ?_
  rintro _ w7 ⟨x, rfl, hx, hb⟩
  clear N7
  obtain ⟨bw7, Aw7, nw7, cw7, Aw7', nw7', cw7', rfl, -, -, -⟩ := hx.get
  have hba := below1 w7 (.cells #[.bool bw7, .slice Aw7 nw7 cw7, .slice Aw7' nw7' cw7'] 25)
  have hbb := hb.trans (hba.mono hb.size)
  have G7 : Hid (w.heap.size ≤ w7.heap.size) := Lib.hid (HB.out.trans (hb.mono HB.out.size)).size
  have N17 : Hid (P1 ≠ w7.heap.size) := Lib.hid (Nat.ne_of_lt (K1.out.after hb).lt)
  have N37 : Hid (P3 ≠ w7.heap.size) := Lib.hid (Nat.ne_of_lt (K3.out.after hb).lt)
  replace HB := Lib.hid (HB.out.trans (hbb.mono HB.out.size))
  replace R1 := Lib.hid (R1.out.below hbb)
  replace K1 := Lib.hid (K1.out.after hbb)
  replace R3 := Lib.hid (R3.out.below hbb)
  replace K3 := Lib.hid (K3.out.after hbb)
  have R7 := Lib.hid ((hx.below hba).cast k_mk)
  have K7 := Lib.hid (Blk.new w7 #[.bool bw7, .slice Aw7 nw7 cw7, .slice Aw7' nw7' cw7'] 25)
  clear hx hb hba hbb
  go_upto_region 5 with fail
  generalize hP7 : w7.heap.size = P7 at *
  clear hP7
  generalize w7.alloc (.cells #[.bool bw7, .slice Aw7 nw7 cw7, .slice Aw7' nw7' cw7'] 25) = w8 at *
  have p0 := K1.out.cell (i := 0) rfl
  have p1 := K1.out.cell (i := 1) rfl
  have p2 := K1.out.cell (i := 2) rfl
  go_wp2_with fail
  refine (isN R1.out (-3) 2 (by omega) (by omega) (by omega) (by omega) rfl).mono ?_
  rintro _ w9 ⟨rfl, hb⟩
  replace HB := Lib.hid (HB.out.trans (hb.mono HB.out.size))
  replace R1 := Lib.hid (R1.out.below hb)
  replace K1 := Lib.hid (K1.out.after hb)
  replace R3 := Lib.hid (R3.out.below hb)
  replace K3 := Lib.hid (K3.out.after hb)
  replace R7 := Lib.hid (R7.out.below hb)
  replace K7 := Lib.hid (K7.out.after hb)
  clear hb p0 p1 p2
  clear R1
  have p0 := K3.out.cell (i := 0) rfl
  have p1 := K3.out.cell (i := 1) rfl
  have p2 := K3.out.cell (i := 2) rfl
  go_wp2_with fail
  refine (isN R3.out (0) 1 (by omega) (by omega) (by omega) (by omega) rfl).mono ?_
  rintro _ w10 ⟨rfl, hb⟩
  replace HB := Lib.hid (HB.out.trans (hb.mono HB.out.size))
  replace K1 := Lib.hid (K1.out.after hb)
  replace R3 := Lib.hid (R3.out.below hb)
  replace K3 := Lib.hid (K3.out.after hb)
  replace R7 := Lib.hid (R7.out.below hb)
  replace K7 := Lib.hid (K7.out.after hb)
  clear hb p0 p1 p2
  clear R3
  have p0 := K7.out.cell (i := 0) rfl
  have p1 := K7.out.cell (i := 1) rfl
  have p2 := K7.out.cell (i := 2) rfl
  go_wp2_with fail
  refine (isN R7.out (0) 1 (by omega) (by omega) (by omega) (by omega) rfl).mono ?_
  rintro _ w11 ⟨rfl, hb⟩
  replace HB := Lib.hid (HB.out.trans (hb.mono HB.out.size))
  replace K1 := Lib.hid (K1.out.after hb)
  replace K3 := Lib.hid (K3.out.after hb)
  replace R7 := Lib.hid (R7.out.below hb)
  replace K7 := Lib.hid (K7.out.after hb)
  clear hb p0 p1 p2
  clear R7
  go_wp2_with fail
  refine (ofN (1) 2 (by omega) (by omega) (by omega) (by omega) w11).mono ?_
  rintro _ w12 ⟨vH1, rfl, hx, hb⟩
  replace HB := Lib.hid (HB.out.trans (hb.mono HB.out.size))
  replace K1 := Lib.hid (K1.out.after hb)
  replace K3 := Lib.hid (K3.out.after hb)
  replace K7 := Lib.hid (K7.out.after hb)
  have H1 := Lib.hid hx
  clear hx hb
  go_wp2_with fail
  refine (ofN (1) 3 (by omega) (by omega) (by omega) (by omega) w12).mono ?_
  rintro _ w13 ⟨vH2, rfl, hx, hb⟩
  replace HB := Lib.hid (HB.out.trans (hb.mono HB.out.size))
  replace K1 := Lib.hid (K1.out.after hb)
  replace K3 := Lib.hid (K3.out.after hb)
  replace K7 := Lib.hid (K7.out.after hb)
  replace H1 := Lib.hid (H1.out.below hb)
  have H2 := Lib.hid hx
  clear hx hb
  go_wp2_with fail
  refine (ratSubQ H1.out H2.out (HT.out.below HB.out) (sz_mk (z := 1) (D := 2) (by decide) (by decide) (by decide)) (sz_mk (z := 1) (D := 3) (by decide) (by decide) (by decide)) (by omega)).mono ?_
  rintro _ w14 ⟨x, rfl, hx, hb⟩
  clear H1 H2
  obtain ⟨bw14, Aw14, nw14, cw14, Aw14', nw14', cw14', rfl, -, -, -⟩ := hx.get
  replace HB := Lib.hid (HB.out.trans (hb.mono HB.out.size))
  replace K1 := Lib.hid (K1.out.after hb)
  replace K3 := Lib.hid (K3.out.after hb)
  replace K7 := Lib.hid (K7.out.after hb)
  have hx0 := hx.cast k_sub
  have p0 := K1.out.cell (i := 0) rfl
  have p1 := K1.out.cell (i := 1) rfl
  have p2 := K1.out.cell (i := 2) rfl
  have pf := K1.out.free
  have pl := K1.out.lt
  have HX := Lib.hid hx0
  clear hx hx0 hb
  go_upto_region 8 with fail
  have hbx := below_p3 HB.out G1.out (.bool bw14) (.slice Aw14 nw14 cw14) (.slice Aw14' nw14' cw14')
  have tK1 := K1.out.row (.bool bw14) (.slice Aw14 nw14 cw14) (.slice Aw14' nw14' cw14')
  have tK3 := K3.out.f3 (fun c => N13.out c.symm) (.bool bw14) (.slice Aw14 nw14 cw14) (.slice Aw14' nw14' cw14')
  have tK7 := K7.out.f3 (fun c => N17.out c.symm) (.bool bw14) (.slice Aw14 nw14 cw14) (.slice Aw14' nw14' cw14')
  have tX := HX.out.p3 (x := (.bool bw14)) (y := (.slice Aw14 nw14 cw14)) (z := (.slice Aw14' nw14' cw14')) K1.out (hnoR _ _ _ _ _ _ _)
  clear p0 p1 p2 pf pl HX HB K1 K3 K7
  have HB := Lib.hid hbx
  have K1 := Lib.hid tK1
  have K3 := Lib.hid tK3
  have K7 := Lib.hid tK7
  have R1 := Lib.hid tX
  clear hbx tX tK1 tK3 tK7
  generalize (((w14.setCell ⟨P1, 0, none⟩ (.bool bw14)).setCell ⟨P1, 1, none⟩ (.slice Aw14 nw14 cw14)).setCell ⟨P1, 2, none⟩ (.slice Aw14' nw14' cw14')) = w15 at *
  go_wp2_with fail
  refine (ofN (1) 2 (by omega) (by omega) (by omega) (by omega) w15).mono ?_
  rintro _ w16 ⟨vH1, rfl, hx, hb⟩
  replace HB := Lib.hid (HB.out.trans (hb.mono HB.out.size))
  replace K1 := Lib.hid (K1.out.after hb)
  replace K3 := Lib.hid (K3.out.after hb)
  replace K7 := Lib.hid (K7.out.after hb)
  replace R1 := Lib.hid (R1.out.below hb)
  have H1 := Lib.hid hx
  clear hx hb
  go_wp2_with fail
  refine (ofN (-1) 4 (by omega) (by omega) (by omega) (by omega) w16).mono ?_
  rintro _ w17 ⟨vH2, rfl, hx, hb⟩
  replace HB := Lib.hid (HB.out.trans (hb.mono HB.out.size))
  replace K1 := Lib.hid (K1.out.after hb)
  replace K3 := Lib.hid (K3.out.after hb)
  replace K7 := Lib.hid (K7.out.after hb)
  replace R1 := Lib.hid (R1.out.below hb)
  replace H1 := Lib.hid (H1.out.below hb)
  have H2 := Lib.hid hx
  clear hx hb
  go_wp2_with fail
  refine (ratDivQ H1.out H2.out (HT.out.below HB.out) (sz_mk (z := 1) (D := 2) (by decide) (by decide) (by decide)) (sz_mk (z := (-1)) (D := 4) (by decide) (by decide) (by decide)) (by omega) k_nz).mono ?_
  rintro _ w18 ⟨x, rfl, hx, hb⟩
  clear H1 H2
  obtain ⟨bw18, Aw18, nw18, cw18, Aw18', nw18', cw18', rfl, -, -, -⟩ := hx.get
  replace HB := Lib.hid (HB.out.trans (hb.mono HB.out.size))
  replace K1 := Lib.hid (K1.out.after hb)
  replace K3 := Lib.hid (K3.out.after hb)
  replace K7 := Lib.hid (K7.out.after hb)
  replace R1 := Lib.hid (R1.out.below hb)
  have hx0 := hx.cast k_div
  have p0 := K3.out.cell (i := 0) rfl
  have p1 := K3.out.cell (i := 1) rfl
  have p2 := K3.out.cell (i := 2) rfl
  have pf := K3.out.free
  have pl := K3.out.lt
  have HX := Lib.hid hx0
  clear hx hx0 hb
  go_upto_region 9 with fail
  have hbx := below_p3 HB.out G3.out (.bool bw18) (.slice Aw18 nw18 cw18) (.slice Aw18' nw18' cw18')
  have tK1 := K1.out.f3 N13.out (.bool bw18) (.slice Aw18 nw18 cw18) (.slice Aw18' nw18' cw18')
  have tK3 := K3.out.row (.bool bw18) (.slice Aw18 nw18 cw18) (.slice Aw18' nw18' cw18')
  have tK7 := K7.out.f3 (fun c => N37.out c.symm) (.bool bw18) (.slice Aw18 nw18 cw18) (.slice Aw18' nw18' cw18')
  have tR1 := R1.out.p3 (x := (.bool bw18)) (y := (.slice Aw18 nw18 cw18)) (z := (.slice Aw18' nw18' cw18')) K3.out (hnoR _ _ _ _ _ _ _)
  have tX := HX.out.p3 (x := (.bool bw18)) (y := (.slice Aw18 nw18 cw18)) (z := (.slice Aw18' nw18' cw18')) K3.out (hnoR _ _ _ _ _ _ _)
  clear p0 p1 p2 pf pl HX HB K1 K3 K7 R1
  have HB := Lib.hid hbx
  have K1 := Lib.hid tK1
  have K3 := Lib.hid tK3
  have K7 := Lib.hid tK7
  have R1 := Lib.hid tR1
  have R3 := Lib.hid tX
  clear hbx tX tK1 tK3 tK7 tR1
  generalize (((w18.setCell ⟨P3, 0, none⟩ (.bool bw18)).setCell ⟨P3, 1, none⟩ (.slice Aw18 nw18 cw18)).setCell ⟨P3, 2, none⟩ (.slice Aw18' nw18' cw18')) = w19 at *
  go_wp2_with fail
  refine (ofN (1) 2 (by omega) (by omega) (by omega) (by omega) w19).mono ?_
  rintro _ w20 ⟨vH1, rfl, hx, hb⟩
  replace HB := Lib.hid (HB.out.trans (hb.mono HB.out.size))
  replace K1 := Lib.hid (K1.out.after hb)
  replace K3 := Lib.hid (K3.out.after hb)
  replace K7 := Lib.hid (K7.out.after hb)
  replace R1 := Lib.hid (R1.out.below hb)
  replace R3 := Lib.hid (R3.out.below hb)
  have H1 := Lib.hid hx
  clear hx hb
  go_wp2_with fail
  refine (ofN (2) 3 (by omega) (by omega) (by omega) (by omega) w20).mono ?_
  rintro _ w21 ⟨vH2, rfl, hx, hb⟩
  replace HB := Lib.hid (HB.out.trans (hb.mono HB.out.size))
  replace K1 := Lib.hid (K1.out.after hb)
  replace K3 := Lib.hid (K3.out.after hb)
  replace K7 := Lib.hid (K7.out.after hb)
  replace R1 := Lib.hid (R1.out.below hb)
  replace R3 := Lib.hid (R3.out.below hb)
  replace H1 := Lib.hid (H1.out.below hb)
  have H2 := Lib.hid hx
  clear hx hb
  go_wp2_with fail
  have CM := ratCmpQ H1.out H2.out (HT.out.below HB.out) ((sz_mk (z := 1) (D := 2) (by decide) (by decide) (by decide)).up (by omega)) ((sz_mk (z := 2) (D := 3) (by decide) (by decide) (by decide)).up (by omega))
  rw [k_cmp] at CM
  refine (CM).mono ?_
  rintro _ w22 ⟨rfl, hb⟩
  clear CM
  replace HB := Lib.hid (HB.out.trans (hb.mono HB.out.size))
  replace K1 := Lib.hid (K1.out.after hb)
  replace K3 := Lib.hid (K3.out.after hb)
  replace K7 := Lib.hid (K7.out.after hb)
  replace R1 := Lib.hid (R1.out.below hb)
  replace R3 := Lib.hid (R3.out.below hb)
  replace H1 := Lib.hid (H1.out.below hb)
  replace H2 := Lib.hid (H2.out.below hb)
  clear hb
  clear H1 H2
  have p0 := K1.out.cell (i := 0) rfl
  have p1 := K1.out.cell (i := 1) rfl
  have p2 := K1.out.cell (i := 2) rfl
  go_wp2_with fail
  refine (isN R1.out (1) 6 (by omega) (by omega) (by omega) (by omega) rfl).mono ?_
  rintro _ w23 ⟨rfl, hb⟩
  replace HB := Lib.hid (HB.out.trans (hb.mono HB.out.size))
  replace K1 := Lib.hid (K1.out.after hb)
  replace K3 := Lib.hid (K3.out.after hb)
  replace K7 := Lib.hid (K7.out.after hb)
  replace R1 := Lib.hid (R1.out.below hb)
  replace R3 := Lib.hid (R3.out.below hb)
  clear hb p0 p1 p2
  clear R1
  have p0 := K3.out.cell (i := 0) rfl
  have p1 := K3.out.cell (i := 1) rfl
  have p2 := K3.out.cell (i := 2) rfl
  go_wp2_with fail
  refine (isN R3.out (-2) 1 (by omega) (by omega) (by omega) (by omega) rfl).mono ?_
  rintro _ w24 ⟨rfl, hb⟩
  replace HB := Lib.hid (HB.out.trans (hb.mono HB.out.size))
  replace K1 := Lib.hid (K1.out.after hb)
  replace K3 := Lib.hid (K3.out.after hb)
  replace K7 := Lib.hid (K7.out.after hb)
  replace R3 := Lib.hid (R3.out.below hb)
  clear hb p0 p1 p2
  clear R3
  go_wp2_with fail
  refine (ofN (-3) 2 (by omega) (by omega) (by omega) (by omega) w24).mono ?_
  rintro _ w25 ⟨vH1, rfl, hx, hb⟩
  replace HB := Lib.hid (HB.out.trans (hb.mono HB.out.size))
  replace K1 := Lib.hid (K1.out.after hb)
  replace K3 := Lib.hid (K3.out.after hb)
  replace K7 := Lib.hid (K7.out.after hb)
  have H1 := Lib.hid hx
  clear hx hb
  go_wp2_with fail
  refine (ratFloorQ H1.out ((sz_mk (z := (-3)) (D := 2) (by decide) (by decide) (by decide)).up (by omega))).mono ?_
  rintro _ w26 ⟨x, rfl, hx, hb⟩
  clear H1
  obtain ⟨bw26, Aw26, nw26, cw26, Aw26', nw26', cw26', rfl, -, -, -⟩ := hx.get
  replace HB := Lib.hid (HB.out.trans (hb.mono HB.out.size))
  replace K1 := Lib.hid (K1.out.after hb)
  replace K3 := Lib.hid (K3.out.after hb)
  replace K7 := Lib.hid (K7.out.after hb)
  have hx0 := hx.cast k_fl
  have p0 := K1.out.cell (i := 0) rfl
  have p1 := K1.out.cell (i := 1) rfl
  have p2 := K1.out.cell (i := 2) rfl
  have pf := K1.out.free
  have pl := K1.out.lt
  have HX := Lib.hid hx0
  clear hx hx0 hb
  go_upto_region 13 with fail
  have hbx := below_p3 HB.out G1.out (.bool bw26) (.slice Aw26 nw26 cw26) (.slice Aw26' nw26' cw26')
  have tK1 := K1.out.row (.bool bw26) (.slice Aw26 nw26 cw26) (.slice Aw26' nw26' cw26')
  have tK3 := K3.out.f3 (fun c => N13.out c.symm) (.bool bw26) (.slice Aw26 nw26 cw26) (.slice Aw26' nw26' cw26')
  have tK7 := K7.out.f3 (fun c => N17.out c.symm) (.bool bw26) (.slice Aw26 nw26 cw26) (.slice Aw26' nw26' cw26')
  have tX := HX.out.p3 (x := (.bool bw26)) (y := (.slice Aw26 nw26 cw26)) (z := (.slice Aw26' nw26' cw26')) K1.out (hnoR _ _ _ _ _ _ _)
  clear p0 p1 p2 pf pl HX HB K1 K3 K7
  have HB := Lib.hid hbx
  have K1 := Lib.hid tK1
  have K3 := Lib.hid tK3
  have K7 := Lib.hid tK7
  have R1 := Lib.hid tX
  clear hbx tX tK1 tK3 tK7
  generalize (((w26.setCell ⟨P1, 0, none⟩ (.bool bw26)).setCell ⟨P1, 1, none⟩ (.slice Aw26 nw26 cw26)).setCell ⟨P1, 2, none⟩ (.slice Aw26' nw26' cw26')) = w27 at *
  go_wp2_with fail
  refine (ofN (-3) 2 (by omega) (by omega) (by omega) (by omega) w27).mono ?_
  rintro _ w28 ⟨vH1, rfl, hx, hb⟩
  replace HB := Lib.hid (HB.out.trans (hb.mono HB.out.size))
  replace K1 := Lib.hid (K1.out.after hb)
  replace K3 := Lib.hid (K3.out.after hb)
  replace K7 := Lib.hid (K7.out.after hb)
  replace R1 := Lib.hid (R1.out.below hb)
  have H1 := Lib.hid hx
  clear hx hb
  go_wp2_with fail
  refine (ratCeilQ H1.out ((sz_mk (z := (-3)) (D := 2) (by decide) (by decide) (by decide)).up (by omega))).mono ?_
  rintro _ w29 ⟨x, rfl, hx, hb⟩
  clear H1
  obtain ⟨bw29, Aw29, nw29, cw29, Aw29', nw29', cw29', rfl, -, -, -⟩ := hx.get
  replace HB := Lib.hid (HB.out.trans (hb.mono HB.out.size))
  replace K1 := Lib.hid (K1.out.after hb)
  replace K3 := Lib.hid (K3.out.after hb)
  replace K7 := Lib.hid (K7.out.after hb)
  replace R1 := Lib.hid (R1.out.below hb)
  have hx0 := hx.cast k_ce
  have p0 := K3.out.cell (i := 0) rfl
  have p1 := K3.out.cell (i := 1) rfl
  have p2 := K3.out.cell (i := 2) rfl
  have pf := K3.out.free
  have pl := K3.out.lt
  have HX := Lib.hid hx0
  clear hx hx0 hb
  go_upto_region 14 with fail
  have hbx := below_p3 HB.out G3.out (.bool bw29) (.slice Aw29 nw29 cw29) (.slice Aw29' nw29' cw29')
  have tK1 := K1.out.f3 N13.out (.bool bw29) (.slice Aw29 nw29 cw29) (.slice Aw29' nw29' cw29')
  have tK3 := K3.out.row (.bool bw29) (.slice Aw29 nw29 cw29) (.slice Aw29' nw29' cw29')
  have tK7 := K7.out.f3 (fun c => N37.out c.symm) (.bool bw29) (.slice Aw29 nw29 cw29) (.slice Aw29' nw29' cw29')
  have tR1 := R1.out.p3 (x := (.bool bw29)) (y := (.slice Aw29 nw29 cw29)) (z := (.slice Aw29' nw29' cw29')) K3.out (hnoR _ _ _ _ _ _ _)
  have tX := HX.out.p3 (x := (.bool bw29)) (y := (.slice Aw29 nw29 cw29)) (z := (.slice Aw29' nw29' cw29')) K3.out (hnoR _ _ _ _ _ _ _)
  clear p0 p1 p2 pf pl HX HB K1 K3 K7 R1
  have HB := Lib.hid hbx
  have K1 := Lib.hid tK1
  have K3 := Lib.hid tK3
  have K7 := Lib.hid tK7
  have R1 := Lib.hid tR1
  have R3 := Lib.hid tX
  clear hbx tX tK1 tK3 tK7 tR1
  generalize (((w29.setCell ⟨P3, 0, none⟩ (.bool bw29)).setCell ⟨P3, 1, none⟩ (.slice Aw29 nw29 cw29)).setCell ⟨P3, 2, none⟩ (.slice Aw29' nw29' cw29')) = w30 at *
  go_wp2_with fail
  refine (ofN (2) 3 (by omega) (by omega) (by omega) (by omega) w30).mono ?_
  rintro _ w31 ⟨vH1, rfl, hx, hb⟩
  replace HB := Lib.hid (HB.out.trans (hb.mono HB.out.size))
  replace K1 := Lib.hid (K1.out.after hb)
  replace K3 := Lib.hid (K3.out.after hb)
  replace K7 := Lib.hid (K7.out.after hb)
  replace R1 := Lib.hid (R1.out.below hb)
  replace R3 := Lib.hid (R3.out.below hb)
  have H1 := Lib.hid hx
  clear hx hb
  go_wp2_with fail
  have CM := ratScaleQ 100 H1.out (HT.out.below HB.out) (by omega) (sz_mk (z := 2) (D := 3) (by decide) (by decide) (by decide)) (by omega) (by omega)
  rw [k_sc] at CM
  refine (CM).mono ?_
  rintro _ w32 ⟨rfl, hb⟩
  clear CM
  replace HB := Lib.hid (HB.out.trans (hb.mono HB.out.size))
  replace K1 := Lib.hid (K1.out.after hb)
  replace K3 := Lib.hid (K3.out.after hb)
  replace K7 := Lib.hid (K7.out.after hb)
  replace R1 := Lib.hid (R1.out.below hb)
  replace R3 := Lib.hid (R3.out.below hb)
  replace H1 := Lib.hid (H1.out.below hb)
  clear hb
  clear H1
  have p0 := K1.out.cell (i := 0) rfl
  have p1 := K1.out.cell (i := 1) rfl
  have p2 := K1.out.cell (i := 2) rfl
  go_wp2_with fail
  refine (isN R1.out (-2) 1 (by omega) (by omega) (by omega) (by omega) rfl).mono ?_
  rintro _ w33 ⟨rfl, hb⟩
  replace HB := Lib.hid (HB.out.trans (hb.mono HB.out.size))
  replace K1 := Lib.hid (K1.out.after hb)
  replace K3 := Lib.hid (K3.out.after hb)
  replace K7 := Lib.hid (K7.out.after hb)
  replace R1 := Lib.hid (R1.out.below hb)
  replace R3 := Lib.hid (R3.out.below hb)
  clear hb p0 p1 p2
  clear R1
  have p0 := K3.out.cell (i := 0) rfl
  have p1 := K3.out.cell (i := 1) rfl
  have p2 := K3.out.cell (i := 2) rfl
  go_wp2_with fail
  refine (isN R3.out (-1) 1 (by omega) (by omega) (by omega) (by omega) rfl).mono ?_
  rintro _ w34 ⟨rfl, hb⟩
  replace HB := Lib.hid (HB.out.trans (hb.mono HB.out.size))
  replace K1 := Lib.hid (K1.out.after hb)
  replace K3 := Lib.hid (K3.out.after hb)
  replace K7 := Lib.hid (K7.out.after hb)
  replace R3 := Lib.hid (R3.out.below hb)
  clear hb p0 p1 p2
  clear R3
  go_wp2_with fail
  refine (ofN (3) 10 (by omega) (by omega) (by omega) (by omega) w34).mono ?_
  rintro _ w35 ⟨vH1, rfl, hx, hb⟩
  replace HB := Lib.hid (HB.out.trans (hb.mono HB.out.size))
  replace K1 := Lib.hid (K1.out.after hb)
  replace K3 := Lib.hid (K3.out.after hb)
  replace K7 := Lib.hid (K7.out.after hb)
  have H1 := Lib.hid hx
  clear hx hb
  go_wp2_with fail
  refine (ofN (2) 5 (by omega) (by omega) (by omega) (by omega) w35).mono ?_
  rintro _ w36 ⟨vH2, rfl, hx, hb⟩
  replace HB := Lib.hid (HB.out.trans (hb.mono HB.out.size))
  replace K1 := Lib.hid (K1.out.after hb)
  replace K3 := Lib.hid (K3.out.after hb)
  replace K7 := Lib.hid (K7.out.after hb)
  replace H1 := Lib.hid (H1.out.below hb)
  have H2 := Lib.hid hx
  clear hx hb
  go_wp2_with fail
  refine (ratSimpleQ H1.out H2.out (HT.out.below HB.out) ((sz_mk (z := (3)) (D := 10) (by decide) (by decide) (by decide)).up (by omega)) ((sz_mk (z := (2)) (D := 5) (by decide) (by decide) (by decide)).up (by omega)) k_l1).mono ?_
  rintro _ w37 ⟨x, rfl, hx, hb⟩
  clear H1 H2
  obtain ⟨bw37, Aw37, nw37, cw37, Aw37', nw37', cw37', rfl, -, -, -⟩ := hx.get
  replace HB := Lib.hid (HB.out.trans (hb.mono HB.out.size))
  replace K1 := Lib.hid (K1.out.after hb)
  replace K3 := Lib.hid (K3.out.after hb)
  replace K7 := Lib.hid (K7.out.after hb)
  have hx0 := hx.cast k_s1
  have p0 := K1.out.cell (i := 0) rfl
  have p1 := K1.out.cell (i := 1) rfl
  have p2 := K1.out.cell (i := 2) rfl
  have pf := K1.out.free
  have pl := K1.out.lt
  have HX := Lib.hid hx0
  clear hx hx0 hb
  go_upto_region 18 with fail
  have hbx := below_p3 HB.out G1.out (.bool bw37) (.slice Aw37 nw37 cw37) (.slice Aw37' nw37' cw37')
  have tK1 := K1.out.row (.bool bw37) (.slice Aw37 nw37 cw37) (.slice Aw37' nw37' cw37')
  have tK3 := K3.out.f3 (fun c => N13.out c.symm) (.bool bw37) (.slice Aw37 nw37 cw37) (.slice Aw37' nw37' cw37')
  have tK7 := K7.out.f3 (fun c => N17.out c.symm) (.bool bw37) (.slice Aw37 nw37 cw37) (.slice Aw37' nw37' cw37')
  have tX := HX.out.p3 (x := (.bool bw37)) (y := (.slice Aw37 nw37 cw37)) (z := (.slice Aw37' nw37' cw37')) K1.out (hnoR _ _ _ _ _ _ _)
  clear p0 p1 p2 pf pl HX HB K1 K3 K7
  have HB := Lib.hid hbx
  have K1 := Lib.hid tK1
  have K3 := Lib.hid tK3
  have K7 := Lib.hid tK7
  have R1 := Lib.hid tX
  clear hbx tX tK1 tK3 tK7
  generalize (((w37.setCell ⟨P1, 0, none⟩ (.bool bw37)).setCell ⟨P1, 1, none⟩ (.slice Aw37 nw37 cw37)).setCell ⟨P1, 2, none⟩ (.slice Aw37' nw37' cw37')) = w38 at *
  go_wp2_with fail
  refine (ofN (-1) 2 (by omega) (by omega) (by omega) (by omega) w38).mono ?_
  rintro _ w39 ⟨vH1, rfl, hx, hb⟩
  replace HB := Lib.hid (HB.out.trans (hb.mono HB.out.size))
  replace K1 := Lib.hid (K1.out.after hb)
  replace K3 := Lib.hid (K3.out.after hb)
  replace K7 := Lib.hid (K7.out.after hb)
  replace R1 := Lib.hid (R1.out.below hb)
  have H1 := Lib.hid hx
  clear hx hb
  go_wp2_with fail
  refine (ofN (1) 7 (by omega) (by omega) (by omega) (by omega) w39).mono ?_
  rintro _ w40 ⟨vH2, rfl, hx, hb⟩
  replace HB := Lib.hid (HB.out.trans (hb.mono HB.out.size))
  replace K1 := Lib.hid (K1.out.after hb)
  replace K3 := Lib.hid (K3.out.after hb)
  replace K7 := Lib.hid (K7.out.after hb)
  replace R1 := Lib.hid (R1.out.below hb)
  replace H1 := Lib.hid (H1.out.below hb)
  have H2 := Lib.hid hx
  clear hx hb
  go_wp2_with fail
  refine (ratSimpleQ H1.out H2.out (HT.out.below HB.out) ((sz_mk (z := (-1)) (D := 2) (by decide) (by decide) (by decide)).up (by omega)) ((sz_mk (z := (1)) (D := 7) (by decide) (by decide) (by decide)).up (by omega)) k_l2).mono ?_
  rintro _ w41 ⟨x, rfl, hx, hb⟩
  clear H1 H2
  obtain ⟨bw41, Aw41, nw41, cw41, Aw41', nw41', cw41', rfl, -, -, -⟩ := hx.get
  replace HB := Lib.hid (HB.out.trans (hb.mono HB.out.size))
  replace K1 := Lib.hid (K1.out.after hb)
  replace K3 := Lib.hid (K3.out.after hb)
  replace K7 := Lib.hid (K7.out.after hb)
  replace R1 := Lib.hid (R1.out.below hb)
  have hx0 := hx.cast k_s2
  have p0 := K3.out.cell (i := 0) rfl
  have p1 := K3.out.cell (i := 1) rfl
  have p2 := K3.out.cell (i := 2) rfl
  have pf := K3.out.free
  have pl := K3.out.lt
  have HX := Lib.hid hx0
  clear hx hx0 hb
  go_upto_region 19 with fail
  have hbx := below_p3 HB.out G3.out (.bool bw41) (.slice Aw41 nw41 cw41) (.slice Aw41' nw41' cw41')
  have tK1 := K1.out.f3 N13.out (.bool bw41) (.slice Aw41 nw41 cw41) (.slice Aw41' nw41' cw41')
  have tK3 := K3.out.row (.bool bw41) (.slice Aw41 nw41 cw41) (.slice Aw41' nw41' cw41')
  have tK7 := K7.out.f3 (fun c => N37.out c.symm) (.bool bw41) (.slice Aw41 nw41 cw41) (.slice Aw41' nw41' cw41')
  have tR1 := R1.out.p3 (x := (.bool bw41)) (y := (.slice Aw41 nw41 cw41)) (z := (.slice Aw41' nw41' cw41')) K3.out (hnoR _ _ _ _ _ _ _)
  have tX := HX.out.p3 (x := (.bool bw41)) (y := (.slice Aw41 nw41 cw41)) (z := (.slice Aw41' nw41' cw41')) K3.out (hnoR _ _ _ _ _ _ _)
  clear p0 p1 p2 pf pl HX HB K1 K3 K7 R1
  have HB := Lib.hid hbx
  have K1 := Lib.hid tK1
  have K3 := Lib.hid tK3
  have K7 := Lib.hid tK7
  have R1 := Lib.hid tR1
  have R3 := Lib.hid tX
  clear hbx tX tK1 tK3 tK7 tR1
  generalize (((w41.setCell ⟨P3, 0, none⟩ (.bool bw41)).setCell ⟨P3, 1, none⟩ (.slice Aw41 nw41 cw41)).setCell ⟨P3, 2, none⟩ (.slice Aw41' nw41' cw41')) = w42 at *
  go_wp2_with fail
  refine (ofN (-7) 5 (by omega) (by omega) (by omega) (by omega) w42).mono ?_
  rintro _ w43 ⟨vH1, rfl, hx, hb⟩
  replace HB := Lib.hid (HB.out.trans (hb.mono HB.out.size))
  replace K1 := Lib.hid (K1.out.after hb)
  replace K3 := Lib.hid (K3.out.after hb)
  replace K7 := Lib.hid (K7.out.after hb)
  replace R1 := Lib.hid (R1.out.below hb)
  replace R3 := Lib.hid (R3.out.below hb)
  have H1 := Lib.hid hx
  clear hx hb
  go_wp2_with fail
  refine (ofN (-4) 3 (by omega) (by omega) (by omega) (by omega) w43).mono ?_
  rintro _ w44 ⟨vH2, rfl, hx, hb⟩
  replace HB := Lib.hid (HB.out.trans (hb.mono HB.out.size))
  replace K1 := Lib.hid (K1.out.after hb)
  replace K3 := Lib.hid (K3.out.after hb)
  replace K7 := Lib.hid (K7.out.after hb)
  replace R1 := Lib.hid (R1.out.below hb)
  replace R3 := Lib.hid (R3.out.below hb)
  replace H1 := Lib.hid (H1.out.below hb)
  have H2 := Lib.hid hx
  clear hx hb
  go_wp2_with fail
  refine (ratSimpleQ H1.out H2.out (HT.out.below HB.out) ((sz_mk (z := (-7)) (D := 5) (by decide) (by decide) (by decide)).up (by omega)) ((sz_mk (z := (-4)) (D := 3) (by decide) (by decide) (by decide)).up (by omega)) k_l3).mono ?_
  rintro _ w45 ⟨x, rfl, hx, hb⟩
  clear H1 H2
  obtain ⟨bw45, Aw45, nw45, cw45, Aw45', nw45', cw45', rfl, -, -, -⟩ := hx.get
  replace HB := Lib.hid (HB.out.trans (hb.mono HB.out.size))
  replace K1 := Lib.hid (K1.out.after hb)
  replace K3 := Lib.hid (K3.out.after hb)
  replace K7 := Lib.hid (K7.out.after hb)
  replace R1 := Lib.hid (R1.out.below hb)
  replace R3 := Lib.hid (R3.out.below hb)
  have hx0 := hx.cast k_s3
  have p0 := K7.out.cell (i := 0) rfl
  have p1 := K7.out.cell (i := 1) rfl
  have p2 := K7.out.cell (i := 2) rfl
  have pf := K7.out.free
  have pl := K7.out.lt
  have HX := Lib.hid hx0
  clear hx hx0 hb
  go_upto_region 20 with fail
  have hbx := below_p3 HB.out G7.out (.bool bw45) (.slice Aw45 nw45 cw45) (.slice Aw45' nw45' cw45')
  have tK1 := K1.out.f3 N17.out (.bool bw45) (.slice Aw45 nw45 cw45) (.slice Aw45' nw45' cw45')
  have tK3 := K3.out.f3 N37.out (.bool bw45) (.slice Aw45 nw45 cw45) (.slice Aw45' nw45' cw45')
  have tK7 := K7.out.row (.bool bw45) (.slice Aw45 nw45 cw45) (.slice Aw45' nw45' cw45')
  have tR1 := R1.out.p3 (x := (.bool bw45)) (y := (.slice Aw45 nw45 cw45)) (z := (.slice Aw45' nw45' cw45')) K7.out (hnoR _ _ _ _ _ _ _)
  have tR3 := R3.out.p3 (x := (.bool bw45)) (y := (.slice Aw45 nw45 cw45)) (z := (.slice Aw45' nw45' cw45')) K7.out (hnoR _ _ _ _ _ _ _)
  have tX := HX.out.p3 (x := (.bool bw45)) (y := (.slice Aw45 nw45 cw45)) (z := (.slice Aw45' nw45' cw45')) K7.out (hnoR _ _ _ _ _ _ _)
  clear p0 p1 p2 pf pl HX HB K1 K3 K7 R1 R3
  have HB := Lib.hid hbx
  have K1 := Lib.hid tK1
  have K3 := Lib.hid tK3
  have K7 := Lib.hid tK7
  have R1 := Lib.hid tR1
  have R3 := Lib.hid tR3
  have R7 := Lib.hid tX
  clear hbx tX tK1 tK3 tK7 tR1 tR3
  generalize (((w45.setCell ⟨P7, 0, none⟩ (.bool bw45)).setCell ⟨P7, 1, none⟩ (.slice Aw45 nw45 cw45)).setCell ⟨P7, 2, none⟩ (.slice Aw45' nw45' cw45')) = w46 at *
  go_wp2_with fail
  refine (ofN (5) 2 (by omega) (by omega) (by omega) (by omega) w46).mono ?_
  rintro _ w47 ⟨vH1, rfl, hx, hb⟩
  replace HB := Lib.hid (HB.out.trans (hb.mono HB.out.size))
  replace K1 := Lib.hid (K1.out.after hb)
  replace K3 := Lib.hid (K3.out.after hb)
  replace K7 := Lib.hid (K7.out.after hb)
  replace R1 := Lib.hid (R1.out.below hb)
  replace R3 := Lib.hid (R3.out.below hb)
  replace R7 := Lib.hid (R7.out.below hb)
  have H1 := Lib.hid hx
  clear hx hb
  go_wp2_with fail
  refine (ofN (9) 2 (by omega) (by omega) (by omega) (by omega) w47).mono ?_
  rintro _ w48 ⟨vH2, rfl, hx, hb⟩
  replace HB := Lib.hid (HB.out.trans (hb.mono HB.out.size))
  replace K1 := Lib.hid (K1.out.after hb)
  replace K3 := Lib.hid (K3.out.after hb)
  replace K7 := Lib.hid (K7.out.after hb)
  replace R1 := Lib.hid (R1.out.below hb)
  replace R3 := Lib.hid (R3.out.below hb)
  replace R7 := Lib.hid (R7.out.below hb)
  replace H1 := Lib.hid (H1.out.below hb)
  have H2 := Lib.hid hx
  clear hx hb
  go_wp2_with fail
  refine (ratSimpleQ H1.out H2.out (HT.out.below HB.out) ((sz_mk (z := (5)) (D := 2) (by decide) (by decide) (by decide)).up (by omega)) ((sz_mk (z := (9)) (D := 2) (by decide) (by decide) (by decide)).up (by omega)) k_l4).mono ?_
  rintro _ w49 ⟨x, rfl, hx, hb⟩
  clear H1 H2
  obtain ⟨bw49, Aw49, nw49, cw49, Aw49', nw49', cw49', rfl, -, -, -⟩ := hx.get
  have hba := below1 w49 (.cells #[.bool bw49, .slice Aw49 nw49 cw49, .slice Aw49' nw49' cw49'] 25)
  have hbb := hb.trans (hba.mono hb.size)
  have G10 : Hid (w.heap.size ≤ w49.heap.size) := Lib.hid (HB.out.trans (hb.mono HB.out.size)).size
  have N110 : Hid (P1 ≠ w49.heap.size) := Lib.hid (Nat.ne_of_lt (K1.out.after hb).lt)
  have N310 : Hid (P3 ≠ w49.heap.size) := Lib.hid (Nat.ne_of_lt (K3.out.after hb).lt)
  have N710 : Hid (P7 ≠ w49.heap.size) := Lib.hid (Nat.ne_of_lt (K7.out.after hb).lt)
  replace HB := Lib.hid (HB.out.trans (hbb.mono HB.out.size))
  replace K1 := Lib.hid (K1.out.after hbb)
  replace K3 := Lib.hid (K3.out.after hbb)
  replace K7 := Lib.hid (K7.out.after hbb)
  replace R1 := Lib.hid (R1.out.below hbb)
  replace R3 := Lib.hid (R3.out.below hbb)
  replace R7 := Lib.hid (R7.out.below hbb)
  have R10 := Lib.hid ((hx.below hba).cast k_s4)
  have K10 := Lib.hid (Blk.new w49 #[.bool bw49, .slice Aw49 nw49 cw49, .slice Aw49' nw49' cw49'] 25)
  clear hx hb hba hbb
  go_upto_region 21 with fail
  generalize hP10 : w49.heap.size = P10 at *
  clear hP10
  generalize w49.alloc (.cells #[.bool bw49, .slice Aw49 nw49 cw49, .slice Aw49' nw49' cw49'] 25) = w50 at *
  have p0 := K1.out.cell (i := 0) rfl
  have p1 := K1.out.cell (i := 1) rfl
  have p2 := K1.out.cell (i := 2) rfl
  go_wp2_with fail
  refine (isN R1.out (1) 3 (by omega) (by omega) (by omega) (by omega) rfl).mono ?_
  rintro _ w51 ⟨rfl, hb⟩
  replace HB := Lib.hid (HB.out.trans (hb.mono HB.out.size))
  replace K1 := Lib.hid (K1.out.after hb)
  replace K3 := Lib.hid (K3.out.after hb)
  replace K7 := Lib.hid (K7.out.after hb)
  replace R1 := Lib.hid (R1.out.below hb)
  replace R3 := Lib.hid (R3.out.below hb)
  replace R7 := Lib.hid (R7.out.below hb)
  replace R10 := Lib.hid (R10.out.below hb)
  replace K10 := Lib.hid (K10.out.after hb)
  clear hb p0 p1 p2
  clear R1
  have p0 := K3.out.cell (i := 0) rfl
  have p1 := K3.out.cell (i := 1) rfl
  have p2 := K3.out.cell (i := 2) rfl
  go_wp2_with fail
  refine (isN R3.out (0) 1 (by omega) (by omega) (by omega) (by omega) rfl).mono ?_
  rintro _ w52 ⟨rfl, hb⟩
  replace HB := Lib.hid (HB.out.trans (hb.mono HB.out.size))
  replace K1 := Lib.hid (K1.out.after hb)
  replace K3 := Lib.hid (K3.out.after hb)
  replace K7 := Lib.hid (K7.out.after hb)
  replace R3 := Lib.hid (R3.out.below hb)
  replace R7 := Lib.hid (R7.out.below hb)
  replace R10 := Lib.hid (R10.out.below hb)
  replace K10 := Lib.hid (K10.out.after hb)
  clear hb p0 p1 p2
  clear R3
  have p0 := K7.out.cell (i := 0) rfl
  have p1 := K7.out.cell (i := 1) rfl
  have p2 := K7.out.cell (i := 2) rfl
  go_wp2_with fail
  refine (isN R7.out (-4) 3 (by omega) (by omega) (by omega) (by omega) rfl).mono ?_
  rintro _ w53 ⟨rfl, hb⟩
  replace HB := Lib.hid (HB.out.trans (hb.mono HB.out.size))
  replace K1 := Lib.hid (K1.out.after hb)
  replace K3 := Lib.hid (K3.out.after hb)
  replace K7 := Lib.hid (K7.out.after hb)
  replace R7 := Lib.hid (R7.out.below hb)
  replace R10 := Lib.hid (R10.out.below hb)
  replace K10 := Lib.hid (K10.out.after hb)
  clear hb p0 p1 p2
  clear R7
  have p0 := K10.out.cell (i := 0) rfl
  have p1 := K10.out.cell (i := 1) rfl
  have p2 := K10.out.cell (i := 2) rfl
  go_wp2_with fail
  refine (isN R10.out (3) 1 (by omega) (by omega) (by omega) (by omega) rfl).mono ?_
  rintro _ w54 ⟨rfl, hb⟩
  replace HB := Lib.hid (HB.out.trans (hb.mono HB.out.size))
  replace K1 := Lib.hid (K1.out.after hb)
  replace K3 := Lib.hid (K3.out.after hb)
  replace K7 := Lib.hid (K7.out.after hb)
  replace R10 := Lib.hid (R10.out.below hb)
  replace K10 := Lib.hid (K10.out.after hb)
  clear hb p0 p1 p2
  clear R10
  clear K1 K3 K7 K10
  have hba := below2 w54 (.cells #[.int .u32 2] 40) (.cells #[.int .u32 4] 40)
  replace HB := Lib.hid (HB.out.trans (hba.mono HB.out.size))
  have r2 : Rs (w54.alloc (.cells #[.int .u32 2] 40)) (w54.heap.size + 1) (some ⟨w54.heap.size, 0, none⟩) 1 1 (l1 2) := lit1 w54 2 2 rfl (by omega)
  have r4 := lit1 (w54.alloc (.cells #[.int .u32 2] 40)) 4 4 rfl (by omega)
  simp only [World.size_alloc] at r4
  have CC := ratCheck_any (w := (w54.alloc (.cells #[.int .u32 2] 40)).alloc (.cells #[.int .u32 4] 40)) (neg := false) ⟨(r2.alloc (by simp) _).more (by simp), r4.more (by simp)⟩
  rw [chk24] at CC
  have CH := Lib.hid CC
  clear CC r2 r4 hba
  go_wp2_with fail
  refine (CH.out).mono ?_
  rintro _ w55 ⟨rfl, hb⟩
  replace HB := Lib.hid (HB.out.trans (hb.mono HB.out.size))
  clear hb CH
  have hba := below1 w55 (.cells #[.int .u32 1] 40)
  replace HB := Lib.hid (HB.out.trans (hba.mono HB.out.size))
  have CC := ratCheck_any (w := w55.alloc (.cells #[.int .u32 1] 40)) (neg := true) (f := l1 0) ⟨Rs.zero _ _ none _, (lit1 w55 1 1 rfl (by omega)).more (by simp)⟩
  rw [chk01] at CC
  have CH := Lib.hid CC
  clear CC hba
  go_wp2_with fail
  refine (CH.out).mono ?_
  rintro _ w56 ⟨rfl, hb⟩
  replace HB := Lib.hid (HB.out.trans (hb.mono HB.out.size))
  clear hb CH
  go_wp2_with fail
  refine (readsN _ (-3) 2 (by omega) (by omega) (by omega) (by omega) (ps_a (HP.out.after HB.out) (HT.out.below HB.out))).mono ?_
  rintro _ w57 ⟨rfl, hb⟩
  replace HB := Lib.hid (HB.out.trans (hb.mono HB.out.size))
  clear hb
  go_wp2_with fail
  refine (readsN _ (0) 1 (by omega) (by omega) (by omega) (by omega) (ps_b (HP.out.after HB.out) (HT.out.below HB.out))).mono ?_
  rintro _ w58 ⟨rfl, hb⟩
  replace HB := Lib.hid (HB.out.trans (hb.mono HB.out.size))
  clear hb
  go_wp2_with fail
  refine (faultsN _ _ _ (ps_c (HP.out.after HB.out) (HT.out.below HB.out))).mono ?_
  rintro _ w59 ⟨rfl, hb⟩
  replace HB := Lib.hid (HB.out.trans (hb.mono HB.out.size))
  clear hb
  go_wp2_with fail
  refine (faultsN _ _ _ (ps_d (HP.out.after HB.out) (HT.out.below HB.out))).mono ?_
  rintro _ w60 ⟨rfl, hb⟩
  replace HB := Lib.hid (HB.out.trans (hb.mono HB.out.size))
  clear hb
  go_wp2_with fail
  refine (faultsN _ _ _ (ps_e (HP.out.after HB.out) (HT.out.below HB.out))).mono ?_
  rintro _ w61 ⟨rfl, hb⟩
  replace HB := Lib.hid (HB.out.trans (hb.mono HB.out.size))
  clear hb
  go_wp2_with fail
  refine (faultsN _ _ _ (ps_f (HP.out.after HB.out) (HT.out.below HB.out))).mono ?_
  rintro _ w62 ⟨rfl, hb⟩
  replace HB := Lib.hid (HB.out.trans (hb.mono HB.out.size))
  clear hb
  go_wp2_with fail
  refine (faultsN _ _ _ (ps_g (HP.out.after HB.out) (HT.out.below HB.out))).mono ?_
  rintro _ w63 ⟨rfl, hb⟩
  replace HB := Lib.hid (HB.out.trans (hb.mono HB.out.size))
  clear hb
  go_wp2_with fail
  refine (awakeN (HT.out.below HB.out)).mono ?_
  rintro _ w64 ⟨rfl, hb⟩
  replace HB := Lib.hid (HB.out.trans (hb.mono HB.out.size))
  clear hb
  go_wp2_with fail
  go_ret
  exact ⟨rfl, HB.out⟩
end Go.Proofs.YtbjaolmlnkliiaaGreatDoor

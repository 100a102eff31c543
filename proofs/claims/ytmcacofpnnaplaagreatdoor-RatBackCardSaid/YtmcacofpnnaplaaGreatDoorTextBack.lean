/- The contracts of the functions under the laws of package rat: TextFrame, BackRWalk, joined into one file. -/
import Derived.Test.YtmcacofpnnaplaaGreatDoorRatGround
import Derived.Test.YtmcacofpnnaplaaGreatDoorTextTwo
import Derived.Test.YtmcacofpnnaplaaGreatDoorRatFour
import Derived.Deep.RegionHeld3
import Derived.Deep.DrawnRows
import Derived.Deep.DeepCutAuto
/- What the cards over texts of rational numbers share: both tables as the rows list them, a world for the witness, and a bool that came in. No conditions. -/
namespace Go.Proofs.YtmcacofpnnaplaaGreatDoor
open Go.ChangeShapes Go.WideShapes Go.ChangeAt Go.RowKit

theorem gTab : Tryz.prog.globalNamed "parlour/nat.powers" = some 1 := by kernel_rfl
theorem gTabType : (Tryz.prog.globals[1]?).map (·.type) = some 150 := by kernel_rfl
theorem cellsTab : Tryz.prog.cellsOf 150 = 9 := by kernel_rfl
theorem cellsU32 : Tryz.prog.cellsOf 48 = 1 := by kernel_rfl

/-- What the row's list gives: the table of powers holds its numbers. -/
theorem tab_of {W : World} {rest : List (String × DataW Unit)} (h : laidMet Tryz.prog (("parlour/nat.powers", Rows.laid_parlour_nat_powers) :: rest) W) : Tab W := by
  have h1 : Lib.TabIs Tryz.prog W "parlour/nat.powers" .u32 [1, 10, 100, 1000, 10000, 100000, 1000000, 10000000, 100000000] :=
    Lib.tabIs_of_head (rest := rest) gTab gTabType Tryz.underlying150 Tryz.underlying48 cellsU32 cellsTab h
  unfold Lib.TabIs World.var? at h1
  rw [gTab] at h1
  simp only [Option.bind_some] at h1
  split at h1
  · rename_i cs t fr he
    injection h1 with h1
    refine ⟨t, fr, ?_⟩
    rw [he, h1]
    rfl
  · cases h1

/-- The rest of a row's list is met too. -/
theorem rest_of {P : Program} {x : String × DataW Unit} {rest : List (String × DataW Unit)} {W : World} (h : laidMet P (x :: rest) W) : laidMet P rest W := by
  obtain ⟨ps, h1, h2, h3⟩ := h
  obtain ⟨n, d⟩ := x
  obtain ⟨g, t, cs, fuel, p, q, _, _, _, _, hr, rfl⟩ := h1
  refine ⟨q, hr, (List.nodup_append.1 h2).2.1, fun b off hb => h3 b off (List.mem_append_right _ hb)⟩

theorem tabs_of2 {W : World} {x : String × DataW Unit} {rest : List (String × DataW Unit)} (h : laidMet Tryz.prog (x :: ("parlour/rat.products", Rows.laid_parlour_rat_products) :: rest) W) : Tabs W := tabs_of (rest_of h)

/-- A world for the witness: the settled one, both tables holding what their initialisers lay. -/
noncomputable def laidWorld2 (os : Os) : World :=
  { laidWorld os with heap := (laidWorld os).heap.modify 1 fun
      | .cells _ t frozen => .cells tab9 t frozen
      | o => o }
end Go.Proofs.YtmcacofpnnaplaaGreatDoor

/- The walk of RatBack: it returns true, and writes nothing that was there. Conditions as premises: the lists read, and the tables hold what their initialisers lay. -/
namespace Go.Proofs.YtmcacofpnnaplaaGreatDoor
open Go.RowKit Go.Shelf
attribute [local go_sem ↓] Go.wp_at_zero Go.wp_at_succ

theorem sz_int {k : Nat} {z : Int} (h : z.natAbs < LB ^ k) (hk : 1 ≤ k) : Sz k (z : Rat) :=
  ⟨by rw [Rat.num_intCast]; exact h, by rw [Rat.den_intCast]; exact Nat.lt_of_lt_of_le (by decide +kernel : 1 < LB ^ 1) (pow_le_of hk)⟩
theorem fac_nat (z : Int) : ∃ K : Nat, 1 ≤ K ∧ K ≤ 1000 ∧ mkRat (1 + z % 1000) 1 = ((K : Int) : Rat) := by
  have h0 := Int.emod_nonneg z (show (1000 : Int) ≠ 0 by omega)
  have h1 := Int.emod_lt_of_pos z (show (0 : Int) < 1000 by omega)
  refine ⟨(1 + z % 1000).toNat, by omega, by omega, ?_⟩
  rw [Int.toNat_of_nonneg (by omega), Rat.mkRat_one]
theorem Sz.cast {k : Nat} {q r : Rat} (h : Sz k q) (e : q = r) : Sz k r := e ▸ h
theorem sz_fac {K : Nat} (h : K ≤ 1000) : Sz 1 ((K : Int) : Rat) := sz_int (by rw [Int.natAbs_natCast]; exact Nat.lt_of_le_of_lt h (by decide +kernel)) (Nat.le_refl 1)
theorem rq_num {w : World} {q : Rat} {b : Bool} {A A' : Option Addr} {n c n' c' : Nat} (h : Rq w q (.agg #[.bool b, .slice A n c, .slice A' n' c'])) :
    Rq (w.alloc (.cells #[.int .u32 1] 48)) (q.num : Rat) (.agg #[.bool b, .slice A n c, .slice (some ⟨w.heap.size, 0, none⟩) 1 1]) := by
  obtain ⟨i1, i2, i3⟩ := h.inv
  exact Rq.mk (by rw [Rat.num_intCast]; exact i3) (by rw [Rat.num_intCast]) (Rat.den_intCast _) (i1.below (below1 w _)) (nr_one w)
theorem rq_den {w : World} {q : Rat} {b : Bool} {A A' : Option Addr} {n c n' c' : Nat} (h : Rq w q (.agg #[.bool b, .slice A n c, .slice A' n' c'])) :
    Rq (w.alloc (.cells #[.int .u32 1] 48)) ((q.den : Int) : Rat) (.agg #[.bool false, .slice A' n' c', .slice (some ⟨w.heap.size, 0, none⟩) 1 1]) := by
  obtain ⟨i1, i2, i3⟩ := h.inv
  exact Rq.mk (by rw [Rat.num_intCast]; symm; rw [decide_eq_false_iff_not]; omega) (by rw [Rat.num_intCast, Int.natAbs_natCast]) (Rat.den_intCast _) (i2.below (below1 w _)) (nr_one w)
theorem back_num {q : Rat} {K : Nat} : (q.num : Rat) * ((K : Int) : Rat) = ((q.num * (K : Int) : Int) : Rat) := (Rat.intCast_mul _ _).symm
theorem back_den {q : Rat} {K : Nat} : ((q.den : Int) : Rat) * ((K : Int) : Rat) = (((q.den * K : Nat) : Int) : Rat) := by rw [Int.natCast_mul]; exact (Rat.intCast_mul _ _).symm
theorem back_lt {x K : Nat} (h : x < LB ^ 8) (hk : K ≤ 1000) : x * K < LB ^ NL := lt_NL (mul_lt h (b := 1) (Nat.lt_of_le_of_lt hk (by decide +kernel))) (by omega)
theorem back_lt2 {x : Int} {K : Nat} (h : x.natAbs < LB ^ 8) (hk : K ≤ 1000) : (x * (K : Int)).natAbs < LB ^ NL := by rw [Int.natAbs_mul, Int.natAbs_natCast]; exact back_lt h hk
theorem Blk.neq {w : World} {g h : Nat} {t t' : TypeId} {a b c x y : Value} (k : Blk w g t #[a, b, c]) (k' : Blk w h t' #[x, y]) : g ≠ h := by
  rintro rfl
  have e := Option.some.inj (Eq.trans (Eq.symm k) k')
  simp at e
theorem Blk.sput {w : World} {g : Nat} {t : TypeId} {a b : Value} (h : Blk w g t #[a, b]) (u v : Value) : Blk ((w.setCell ⟨g, 0, none⟩ u).setCell ⟨g, 1, none⟩ v) g t #[u, v] := h.set.set
theorem Blk.sfar {w : World} {g h : Nat} {t : TypeId} {cs : Array Value} (k : Blk w g t cs) (hne : g ≠ h) (u v : Value) : Blk ((w.setCell ⟨h, 0, none⟩ u).setCell ⟨h, 1, none⟩ v) g t cs := (k.other hne).other hne
theorem Rq.sput {w : World} {g : Nat} {t : TypeId} {cs : Array Value} {q : Rat} {z u v : Value} (h : Rq w q z) (k : Blk w g t cs) (hno : cs.all notU32 = true) : Rq ((w.setCell ⟨g, 0, none⟩ u).setCell ⟨g, 1, none⟩ v) q z := by
  obtain ⟨A, n, c, A', n', c', e, h1, h2⟩ := h
  exact ⟨A, n, c, A', n', c', e, h1.put2 k hno, h2.put2 k hno⟩
theorem TxQ.len {q : Rat} {t : ByteArray} (h : TxQ q t) (s : Sz 1024 q) : (t.size : Int) ≤ 18434 := by
  obtain ⟨L1, L2, h1, h2, rfl⟩ := h.p
  have k1 := isLen_le h1 (lt_NL s.1 (by omega))
  have k2 := isLen_le h2 (lt_NL s.2 (by omega))
  have e1 : (⟨#[45]⟩ : ByteArray).size = 1 := rfl
  have e2 : (⟨#[47]⟩ : ByteArray).size = 1 := rfl
  have e3 : (⟨#[]⟩ : ByteArray).size = 0 := rfl
  rw [ByteArray.size_append]
  split <;> split <;> simp only [ByteArray.size_append, txt_size', e1, e2, e3] <;> omega
theorem ratback_eq {q : Rat} {K : Nat} (h : 1 ≤ K) : mkRat (q.num * (K : Int)) (q.den * K) = q := by
  rw [Rat.mkRat_mul_right (by omega), Rat.mkRat_self]
set_option maxHeartbeats 4000000 in
set_option maxRecDepth 100000 in
theorem ratBack_awake (A B : Option Addr) (n c m d : Nat) (s : Bool) (z : Int) (w : World) (hT : Tabs w) (h : 8 < n ∨ 8 < m) :
    Calls Tryz.prog 11 #[.slice A n c, .slice B m d, .bool s, .int .i64 z] w fun e w' => e = .returned (.bool true) ∧ Below w.heap.size w w' := by
  by_cases h1 : 8 < n
  · have h1' : (8 : Int) < (n : Int) := by omega
    clear h h1
    go_enter Tryz.func11, Tryz.ntmps11
    go_wp2_with fail
    refine (awakeN hT).mono ?_
    rintro _ w1 ⟨rfl, hb⟩
    go_wp2_with fail
    go_ret
    exact ⟨rfl, hb⟩
  · have h1' : ¬ (8 : Int) < (n : Int) := by omega
    have h2' : (8 : Int) < (m : Int) := by omega
    clear h h1
    go_enter Tryz.func11, Tryz.ntmps11
    go_wp2_with fail
    refine (awakeN hT).mono ?_
    rintro _ w1 ⟨rfl, hb⟩
    go_wp2_with fail
    go_ret
    exact ⟨rfl, hb⟩

set_option maxRecDepth 100000 in
set_option maxHeartbeats 16000000 in
theorem ratBack_main (A B : Option Addr) (n c m d : Nat) (f g : Nat → Nat) (s : Bool) (z : Int) (w : World) (hA : Rs w w.heap.size A n c f) (hB : Rs w w.heap.size B m d g) (hT : Tabs w) (hP : Tab w) (hn : n ≤ 8) (hm : m ≤ 8) :
    Calls Tryz.prog 11 #[.slice A n c, .slice B m d, .bool s, .int .i64 z] w fun e w' => e = .returned (.bool true) ∧ Below w.heap.size w w' := by
  have HT := Lib.hid hT
  have HT0 := Lib.hid hT
  have HP := Lib.hid hP
  have C1 := Lib.hid (numberQ s hA hB hn hm)
  have hn' : ¬ (8 : Int) < (n : Int) := by omega
  have hm' : ¬ (8 : Int) < (m : Int) := by omega
  clear hT hP hA hB hn hm
  go_enter Tryz.func11, Tryz.ntmps11
  go_wp2_with fail
  refine C1.out.mono ?_
  rintro _ w1 ⟨x, q, rfl, hx, sx, hb⟩
  obtain ⟨b1, A1, n1, c1, A1', n1', c1', rfl, -, -, -⟩ := hx.get
  have hba := below1 w1 (.cells #[.bool b1, .slice A1 n1 c1, .slice A1' n1' c1'] 25)
  have hbb := hb.trans (hba.mono hb.size)
  replace HT := Lib.hid (HT.out.below hbb)
  replace HP := Lib.hid (HP.out.after hbb)
  have HB := Lib.hid hbb
  have RA := Lib.hid (hx.below hba)
  have KP1 := Lib.hid (Blk.new w1 #[.bool b1, .slice A1 n1 c1, .slice A1' n1' c1'] 25)
  have SX := Lib.hid sx
  have C2 := Lib.hid (ratTextQ (hx.below hba) (sx.up (by omega)) HP.out)
  clear hx sx hb hba hbb C1
  go_upto_region 6 with fail
  generalize hP1 : w1.heap.size = P1 at *
  clear hP1
  generalize w1.alloc (.cells #[.bool b1, .slice A1 n1 c1, .slice A1' n1' c1'] 25) = v1 at *
  have p0 := KP1.out.cell (i := 0) rfl
  have p1 := KP1.out.cell (i := 1) rfl
  have p2 := KP1.out.cell (i := 2) rfl
  go_wp2_with fail
  refine C2.out.mono ?_
  rintro _ w2 ⟨t, rfl, ht, hb⟩
  replace HT := Lib.hid (HT.out.below hb)
  replace HP := Lib.hid (HP.out.after hb)
  replace HB := Lib.hid (HB.out.trans (hb.mono HB.out.size))
  replace RA := Lib.hid (RA.out.below hb)
  replace KP1 := Lib.hid (KP1.out.after hb)
  have C3 := Lib.hid (parse_tx ht (SX.out.up (by omega)) HP.out HT.out)
  clear ht hb C2 p0 p1 p2
  go_wp2_with fail
  refine C3.out.mono ?_
  rintro _ w3 ⟨x, rfl, hx, hb⟩
  obtain ⟨b2, A2, n2, c2, A2', n2', c2', rfl, -, -, -⟩ := hx.get
  have hba := below2 w3 (.cells #[.bool b2, .slice A2 n2 c2, .slice A2' n2' c2'] 25) (.cells #[.int .i64 0, .int .i64 0] 44)
  have hbb := hb.trans (hba.mono hb.size)
  have G3 : Hid (w.heap.size ≤ w3.heap.size + 1) := Lib.hid (Nat.le_succ_of_le (HB.out.trans (hb.mono HB.out.size)).size)
  replace HT := Lib.hid (HT.out.below hbb)
  replace HP := Lib.hid (HP.out.after hbb)
  replace HB := Lib.hid (HB.out.trans (hbb.mono HB.out.size))
  replace RA := Lib.hid (RA.out.below hbb)
  replace KP1 := Lib.hid (KP1.out.after hbb)
  have RX := Lib.hid (hx.below hba)
  have KP2 := Lib.hid ((Blk.new w3 #[.bool b2, .slice A2 n2 c2, .slice A2' n2' c2'] 25).alloc (.cells #[.int .i64 0, .int .i64 0] 44))
  have kp3 := Blk.new (w3.alloc (.cells #[.bool b2, .slice A2 n2 c2, .slice A2' n2' c2'] 25)) #[.int .i64 0, .int .i64 0] 44
  simp only [World.size_alloc] at kp3
  have KP3 := Lib.hid kp3
  clear hx hb hba hbb C3 kp3
  go_upto_region 8 with fail
  generalize hP3 : w3.heap.size + 1 = P3 at *
  clear hP3
  generalize hP2 : w3.heap.size = P2 at *
  clear hP2
  generalize (w3.alloc (.cells #[.bool b2, .slice A2 n2 c2, .slice A2' n2' c2'] 25)).alloc (.cells #[.int .i64 0, .int .i64 0] 44) = v3 at *
  have C4 := Lib.hid (sameRatQ RX.out RA.out)
  have p0 := KP1.out.cell (i := 0) rfl
  have p1 := KP1.out.cell (i := 1) rfl
  have p2 := KP1.out.cell (i := 2) rfl
  have p3 := KP2.out.cell (i := 0) rfl
  have p4 := KP2.out.cell (i := 1) rfl
  have p5 := KP2.out.cell (i := 2) rfl
  have p6 := KP3.out.cell (i := 0) rfl
  clear RX
  go_wp2_with fail
  refine C4.out.mono ?_
  rintro _ w4 ⟨rfl, hb⟩
  replace HT := Lib.hid (HT.out.below hb)
  replace HP := Lib.hid (HP.out.after hb)
  replace HB := Lib.hid (HB.out.trans (hb.mono HB.out.size))
  replace RA := Lib.hid (RA.out.below hb)
  replace KP1 := Lib.hid (KP1.out.after hb)
  replace KP3 := Lib.hid (KP3.out.after hb)
  clear hb C4 p0 p1 p2 p3 p4 p5 p6 KP2
  go_upto_region 10 with fail
  have ez : 0 ≤ z % 1000 ∧ z % 1000 < 1000 := ⟨Int.emod_nonneg _ (by omega), Int.emod_lt_of_pos _ (by omega)⟩
  have EZ := Lib.hid ez
  have ew : IntKind.i64.wrap (1 + z % 1000) = 1 + z % 1000 := IntWalk.i64_in _ (by omega)
  have C5 := Lib.hid (ofN1 (1 + z % 1000) (by omega) (by omega) w4)
  clear ez
  go_wp2_with fail
  refine (modN z 1000 (by omega) (by omega) _).mono ?_
  rintro _ _ ⟨rfl, rfl⟩
  go_wp2_with fail
  refine C5.out.mono ?_
  rintro _ w5 ⟨x, rfl, hx, hb⟩
  obtain ⟨b4, A4, n4, c4, A4', n4', c4', rfl, -, -, -⟩ := hx.get
  have hba := below1 w5 (.cells #[.bool b4, .slice A4 n4 c4, .slice A4' n4' c4'] 25)
  have hbb := hb.trans (hba.mono hb.size)
  replace HT := Lib.hid (HT.out.below hbb)
  replace HP := Lib.hid (HP.out.after hbb)
  replace HB := Lib.hid (HB.out.trans (hbb.mono HB.out.size))
  replace RA := Lib.hid (RA.out.below hbb)
  replace KP1 := Lib.hid (KP1.out.after hbb)
  replace KP3 := Lib.hid (KP3.out.after hbb)
  have RF := Lib.hid (hx.below hba)
  have KP4 := Lib.hid (Blk.new w5 #[.bool b4, .slice A4 n4 c4, .slice A4' n4' c4'] 25)
  clear hx hb hba hbb C5 ew
  go_upto_region 11 with fail
  obtain ⟨K, hK1, hK2, hKe⟩ := fac_nat z
  replace RF := Lib.hid (RF.out.cast hKe)
  have HK1 := Lib.hid hK1
  have SK := Lib.hid (sz_fac hK2)
  have HK2 := Lib.hid hK2
  clear hK1 hK2 hKe EZ
  generalize hP4 : w5.heap.size = P4 at *
  clear hP4
  generalize w5.alloc (.cells #[.bool b4, .slice A4 n4 c4, .slice A4' n4' c4'] 25) = v5 at *
  have p0 := KP1.out.cell (i := 0) rfl
  have p1 := KP1.out.cell (i := 1) rfl
  have hb0 := below1 v5 (.cells #[.int .u32 1] 48)
  have C6 := Lib.hid (lawproductQ (rq_num RA.out) (RF.out.below hb0) (HT.out.below hb0) (sz_int SX.out.1 (by omega)) SK.out (by omega))
  replace HT := Lib.hid (HT.out.below hb0)
  replace HP := Lib.hid (HP.out.after hb0)
  replace HB := Lib.hid (HB.out.trans (hb0.mono HB.out.size))
  replace RA := Lib.hid (RA.out.below hb0)
  replace RF := Lib.hid (RF.out.below hb0)
  replace KP1 := Lib.hid (KP1.out.after hb0)
  replace KP3 := Lib.hid (KP3.out.after hb0)
  replace KP4 := Lib.hid (KP4.out.after hb0)
  clear hb0
  have q0 := KP4.out.cell (i := 0) rfl
  have q1 := KP4.out.cell (i := 1) rfl
  have q2 := KP4.out.cell (i := 2) rfl
  go_wp2_with fail
  refine C6.out.mono ?_
  rintro _ w6 ⟨x, rfl, hx, hb⟩
  replace HT := Lib.hid (HT.out.below hb)
  replace HP := Lib.hid (HP.out.after hb)
  replace HB := Lib.hid (HB.out.trans (hb.mono HB.out.size))
  replace RA := Lib.hid (RA.out.below hb)
  replace RF := Lib.hid (RF.out.below hb)
  replace KP1 := Lib.hid (KP1.out.after hb)
  replace KP3 := Lib.hid (KP3.out.after hb)
  replace KP4 := Lib.hid (KP4.out.after hb)
  obtain ⟨b6, A6, n6, c6, A6', n6', c6', rfl, -, -, -⟩ := hx.get
  have C7 := Lib.hid (ratTextQ (hx.cast back_num) ((((sz_int SX.out.1 (by omega) : Sz 8 (q.num : Rat)).mul SK.out).up (by omega) : Sz 1024 _).cast back_num) HP.out)
  clear hx hb C6 p0 p1 q0 q1 q2
  go_wp2_with fail
  refine C7.out.mono ?_
  rintro _ w7 ⟨t1, rfl, ht, hb⟩
  have T1 := Lib.hid ht
  replace HT := Lib.hid (HT.out.below hb)
  replace HP := Lib.hid (HP.out.after hb)
  replace HB := Lib.hid (HB.out.trans (hb.mono HB.out.size))
  replace RA := Lib.hid (RA.out.below hb)
  replace RF := Lib.hid (RF.out.below hb)
  replace KP1 := Lib.hid (KP1.out.after hb)
  replace KP3 := Lib.hid (KP3.out.after hb)
  replace KP4 := Lib.hid (KP4.out.after hb)
  clear ht hb C7
  go_upto_region 12 with fail
  have p2 := KP1.out.cell (i := 2) rfl
  have hb0 := below1 w7 (.cells #[.int .u32 1] 48)
  have C8 := Lib.hid (lawproductQ (rq_den RA.out) (RF.out.below hb0) (HT.out.below hb0) (sz_int (by rw [Int.natAbs_natCast]; exact SX.out.2) (by omega) : Sz 8 _) SK.out (by omega))
  replace HT := Lib.hid (HT.out.below hb0)
  replace HP := Lib.hid (HP.out.after hb0)
  replace HB := Lib.hid (HB.out.trans (hb0.mono HB.out.size))
  replace RA := Lib.hid (RA.out.below hb0)
  replace KP1 := Lib.hid (KP1.out.after hb0)
  replace KP3 := Lib.hid (KP3.out.after hb0)
  replace KP4 := Lib.hid (KP4.out.after hb0)
  have q0 := KP4.out.cell (i := 0) rfl
  have q1 := KP4.out.cell (i := 1) rfl
  have q2 := KP4.out.cell (i := 2) rfl
  clear hb0 RF
  go_wp2_with fail
  refine C8.out.mono ?_
  rintro _ w8 ⟨x, rfl, hx, hb⟩
  replace HT := Lib.hid (HT.out.below hb)
  replace HP := Lib.hid (HP.out.after hb)
  replace HB := Lib.hid (HB.out.trans (hb.mono HB.out.size))
  replace RA := Lib.hid (RA.out.below hb)
  replace KP1 := Lib.hid (KP1.out.after hb)
  replace KP3 := Lib.hid (KP3.out.after hb)
  obtain ⟨b8, A8, n8, c8, A8', n8', c8', rfl, -, -, -⟩ := hx.get
  have C9 := Lib.hid (ratTextQ (hx.cast back_den) ((((sz_int (by rw [Int.natAbs_natCast]; exact SX.out.2) (by omega) : Sz 8 ((q.den : Int) : Rat)).mul SK.out).up (by omega) : Sz 1024 _).cast back_den) HP.out)
  clear hx hb C8 p2 q0 q1 q2 KP4
  go_wp2_with fail
  refine C9.out.mono ?_
  rintro _ w9 ⟨t2, rfl, ht, hb⟩
  have T2 := Lib.hid ht
  replace HT := Lib.hid (HT.out.below hb)
  replace HP := Lib.hid (HP.out.after hb)
  replace HB := Lib.hid (HB.out.trans (hb.mono HB.out.size))
  replace RA := Lib.hid (RA.out.below hb)
  replace KP1 := Lib.hid (KP1.out.after hb)
  replace KP3 := Lib.hid (KP3.out.after hb)
  clear ht hb C9
  go_upto_region 13 with fail
  have l1 := T1.out.len ((((sz_int SX.out.1 (by omega) : Sz 8 (q.num : Rat)).mul SK.out).up (by omega) : Sz 1024 _).cast back_num)
  have l2 := T2.out.len ((((sz_int (by rw [Int.natAbs_natCast]; exact SX.out.2) (by omega) : Sz 8 ((q.den : Int) : Rat)).mul SK.out).up (by omega) : Sz 1024 _).cast back_den)
  have C10 := Lib.hid (parse_two T1.out T2.out (back_lt2 SX.out.1 HK2.out) (back_lt SX.out.2 HK2.out) (Nat.mul_ne_zero q.den_nz (by have := HK1.out; omega)) HP.out HT.out)
  clear HP HT
  go_wp2_with fail
  refine C10.out.mono ?_
  rintro _ w10 ⟨x, rfl, hx, hb⟩
  replace hx := hx.cast (ratback_eq HK1.out)
  obtain ⟨b5, A5, n5, c5, A5', n5', c5', rfl, -, -, -⟩ := hx.get
  have hba := below1 w10 (.cells #[.bool b5, .slice A5 n5 c5, .slice A5' n5' c5'] 25)
  have hbb := hb.trans (hba.mono hb.size)
  replace HB := Lib.hid (HB.out.trans (hbb.mono HB.out.size))
  replace RA := Lib.hid (RA.out.below hbb)
  replace KP1 := Lib.hid (KP1.out.after hbb)
  replace KP3 := Lib.hid (KP3.out.after hbb)
  have RY := Lib.hid (hx.below hba)
  have KP5 := Lib.hid (Blk.new w10 #[.bool b5, .slice A5 n5 c5, .slice A5' n5' c5'] 25)
  have e0 := KP3.out.cell (i := 0) rfl
  have e1 := KP3.out.cell (i := 1) rfl
  have ff := KP3.out.free
  clear hx hb hba hbb C10 T1 T2 l1 l2
  go_upto_region 14 with fail
  have hx3 : (#[.int .i64 0, .int .i64 0] : Array Value).all notU32 = true := by simp [notU32]
  have k3 := KP3.out.sput (.int .i64 0) (.int .i64 0)
  have k1 := KP1.out.sfar (KP1.out.neq KP3.out) (.int .i64 0) (.int .i64 0)
  have k5 := KP5.out.sfar (KP5.out.neq KP3.out) (.int .i64 0) (.int .i64 0)
  have ra := RA.out.sput (u := .int .i64 0) (v := .int .i64 0) KP3.out hx3
  have ry := RY.out.sput (u := .int .i64 0) (v := .int .i64 0) KP3.out hx3
  have hbs := (HB.out.setCell (p := ⟨P3, 0, none⟩) G3.out (.int .i64 0)).setCell (p := ⟨P3, 1, none⟩) G3.out (.int .i64 0)
  clear HB KP1 KP3 KP5 RA RY e0 e1 ff hx3 G3
  generalize hP5 : w10.heap.size = P5 at *
  clear hP5
  generalize (((w10.alloc (.cells #[.bool b5, .slice A5 n5 c5, .slice A5' n5' c5'] 25)).setCell ⟨P3, 0, none⟩ (.int .i64 0)).setCell ⟨P3, 1, none⟩ (.int .i64 0)) = v10 at *
  have HB := Lib.hid hbs
  have p0 := k1.cell (i := 0) rfl
  have p1 := k1.cell (i := 1) rfl
  have p2 := k1.cell (i := 2) rfl
  have q0 := k5.cell (i := 0) rfl
  have q1 := k5.cell (i := 1) rfl
  have q2 := k5.cell (i := 2) rfl
  have r0 := k3.cell (i := 0) rfl
  have C11 := Lib.hid (sameRatQ ry ra)
  clear k1 k3 k5 ra ry hbs
  go_wp2_with fail
  refine C11.out.mono ?_
  rintro _ w11 ⟨rfl, hb⟩
  replace HB := Lib.hid (HB.out.trans (hb.mono HB.out.size))
  have C12 := Lib.hid (awakeN (HT0.out.below HB.out))
  clear hb C11 p0 p1 p2 q0 q1 q2 r0
  go_wp2_with fail
  refine C12.out.mono ?_
  rintro _ w12 ⟨rfl, hb⟩
  replace HB := Lib.hid (HB.out.trans (hb.mono HB.out.size))
  clear hb C12
  go_wp2_with fail
  go_ret
  exact ⟨rfl, HB.out⟩
end Go.Proofs.YtmcacofpnnaplaaGreatDoor

/- The contracts of the functions under the laws of package rat: RatOrdMath, RatOrderWalk, joined into one file. -/
import Derived.Test.YtmgmocepidenlaaGreatDoorRatOne
import Derived.Test.YtmgmocepidenlaaGreatDoorRatFieldWalk
import Derived.Deep.RegionWith
import Derived.BigQuiet
import Derived.Deep.RegionHeld3
import Derived.Deep.DrawnRows
import Derived.Deep.DeepCutAuto
/- How adding, multiplying and rounding stand to the order of rational numbers. No conditions. -/
namespace Go.Proofs.YtmgmocepidenlaaGreatDoor

theorem cq_add (a b c : Rat) : cq (a + c) (b + c) = cq a b := by
  unfold cq; simp only [Rat.add_lt_add_right]
theorem cq_mul (a b c : Rat) : cq (a * c) (b * c) = cq a b * cq c 0 := by
  have pos : ∀ {x y z : Rat}, x < y → 0 < z → x * z < y * z := fun h k => Rat.mul_lt_mul_of_pos_right h k
  have neg : ∀ {x y z : Rat}, x < y → z < 0 → y * z < x * z := fun {x y z} h k => by
    have h1 := pos h (z := -z) (by grind)
    have h2 : x * -z = -(x * z) := by grind
    have h3 : y * -z = -(y * z) := by grind
    rw [h2, h3] at h1
    grind
  rcases cq_range a b with h | h | h <;> rcases cq_range c 0 with k | k | k <;> rw [h, k]
  · exact cq_gt (neg (cq_neg h) (cq_neg k))
  · rw [cq_zero k, Rat.mul_zero, Rat.mul_zero, cq_eq]; rfl
  · exact cq_lt (pos (cq_neg h) (cq_pos k))
  · rw [cq_zero h, cq_eq]; rfl
  · rw [cq_zero h, cq_eq]; rfl
  · rw [cq_zero h, cq_eq]; rfl
  · exact cq_lt (neg (cq_pos h) (cq_neg k))
  · rw [cq_zero k, Rat.mul_zero, Rat.mul_zero, cq_eq]; rfl
  · exact cq_gt (pos (cq_pos h) (cq_pos k))

/-- a number is its own roundings, or lies between two neighbours -/
theorem rounds (a : Rat) : (cq (a.floor : Rat) a = 0 ∧ cq a (a.ceil : Rat) = 0 ∧ (a.ceil : Rat) + mkRat (-1) 1 * (a.floor : Rat) = mkRat 0 1) ∨
    (cq (a.floor : Rat) a = -1 ∧ cq a (a.ceil : Rat) = -1 ∧ (a.ceil : Rat) + mkRat (-1) 1 * (a.floor : Rat) = mkRat 1 1) := by
  have m1 : mkRat (-1) 1 = -1 := by decide +kernel
  have m0 : mkRat 0 1 = 0 := by decide +kernel
  have mm : mkRat 1 1 = 1 := by decide +kernel
  have f1 := Rat.floor_le a
  have f2 := Rat.lt_floor (x := a)
  have c1 := Rat.le_ceil (x := a)
  have c2 := Rat.ceil_lt (x := a)
  rw [m1, m0, mm]
  rcases Classical.em ((a.floor : Rat) = a) with h | h
  · left
    have hc : (a.ceil : Rat) = a := by
      have h1 : a.ceil = a.floor := by
        have : (a.ceil : Rat) < ((a.floor + 1 : Int) : Rat) := by rw [Rat.intCast_add]; grind
        have h2 : a.ceil < a.floor + 1 := Rat.intCast_lt_intCast.1 this
        have h3 : (a.floor : Rat) ≤ (a.ceil : Rat) := by grind
        have h4 := Rat.intCast_le_intCast.1 h3
        omega
      rw [h1, h]
    refine ⟨by rw [h, cq_eq], by rw [hc, cq_eq], by rw [h, hc]; grind⟩
  · right
    have l : (a.floor : Rat) < a := by grind
    have hne : (a.ceil : Rat) ≠ a := by
      intro e
      have h2 : a.ceil ≤ a.floor := Rat.le_floor_iff.2 (by rw [e]; exact Rat.le_refl)
      have h3 : (a.ceil : Rat) ≤ (a.floor : Rat) := Rat.intCast_le_intCast.2 h2
      grind
    have u : a < (a.ceil : Rat) := by grind
    have e : a.ceil = a.floor + 1 := by
      have h1 : ((a.ceil - 1 : Int) : Rat) < ((a.floor + 1 : Int) : Rat) := by rw [Rat.intCast_add, Rat.intCast_sub]; grind
      have h2 := Rat.intCast_lt_intCast.1 h1
      have h3 : (a.floor : Rat) < (a.ceil : Rat) := by grind
      have h4 := Rat.intCast_lt_intCast.1 h3
      omega
    refine ⟨cq_lt l, cq_lt u, ?_⟩
    rw [e, Rat.intCast_add]
    grind
end Go.Proofs.YtmgmocepidenlaaGreatDoor

/- The walk of RatOrder: it returns true, and writes nothing that was there. Conditions as premises: the lists read, and the table of signs holds its numbers. -/
namespace Go.Proofs.YtmgmocepidenlaaGreatDoor
open Go.RowKit Go.Shelf
attribute [local go_sem ↓] Go.wp_at_zero Go.wp_at_succ

theorem ratCmpE {w : World} {a b : Rat} {i j : Nat} {v u : Value} (n : Int) (hn : cq a b = n) (ha : Rq w a v) (hb : Rq w b u) (hT : Tabs w) (sa : Sz i a) (sb : Sz j b) (hi : i ≤ 1024) (hj : j ≤ 1024) :
    Calls Tryz.prog 24 #[v, u] w fun e w' => e = .returned (.tuple #[.int .i64 n, .int .i64 0]) ∧ Below w.heap.size w w' := hn ▸ ratCmpQ ha hb hT (sa.up hi) (sb.up hj)
theorem wrap_signs {n s : Int} (h : n = -1 ∨ n = 0 ∨ n = 1) (k : s = -1 ∨ s = 0 ∨ s = 1) : IntKind.i64.wrap (n * s) = n * s := by
  rcases h with rfl | rfl | rfl <;> rcases k with rfl | rfl | rfl <;> rfl
@[irreducible] def StillW (P : Program) (ops : Array Oper) (w : World) (Q : Act → Prop) (l : List Oper) (a : Act) : Prop := wpStill P ops w Q l a
theorem still_in {P : Program} {ops : Array Oper} {w : World} {Q : Act → Prop} {l : List Oper} {a : Act} (h : StillW P ops w Q l a) : wpStill P ops w Q l a := by
  unfold StillW at h; exact h
theorem st_take {P : Program} {ops : Array Oper} {w : World} {Q : Act → Prop} {rest : List Oper} {o : Oper} {a : Act} (v : Value) (hw : Region.wanted o (yielded ops a.tmps) = true) (hr : (execOp a.eval o).run P w = .ok (.value v) w) (h : StillW P ops w Q rest (a.put o.dst v)) : StillW P ops w Q (o :: rest) a := by
  unfold StillW at h ⊢
  unfold wpStill; rw [if_pos hw]; unfold Oper.still; rw [hr, Oper.stillUpon_value]; exact h
theorem st_skip {P : Program} {ops : Array Oper} {w : World} {Q : Act → Prop} {rest : List Oper} {o : Oper} {a : Act} (hw : Region.wanted o (yielded ops a.tmps) = false) (h : StillW P ops w Q rest (a.put o.dst undef)) : StillW P ops w Q (o :: rest) a := by
  unfold StillW at h ⊢
  unfold wpStill; rw [if_neg (by rw [hw]; exact Bool.false_ne_true)]; exact h
theorem st_nil {P : Program} {ops : Array Oper} {w : World} {Q : Act → Prop} {a : Act} (h : Q a) : StillW P ops w Q [] a := by
  unfold StillW; exact h
theorem cq_of0 (c : Rat) : cq c (mkRat 0 1) = cq c 0 := by rw [show mkRat 0 1 = 0 by decide +kernel]
theorem sz_ceil {k : Nat} {q : Rat} (h : Sz k q) (hk : 1 ≤ k) : Sz k (q.ceil : Rat) := by
  rw [Rat.ceil_eq_neg_floor_neg, Rat.intCast_neg]; exact (h.neg.floor hk).neg
theorem rq_den {w : World} {z : Int} {s : Bool} {A A' : Option Addr} {n c n' c' : Nat} (h : Rq w (z : Rat) (.agg #[.bool s, .slice A n c, .slice A' n' c'])) : Nr w 1 (.slice A' n' c') := by
  obtain ⟨_, h2, _⟩ := h.inv
  rwa [Rat.den_intCast] at h2

set_option maxHeartbeats 4000000 in
set_option maxRecDepth 100000 in
theorem ratOrder_awake (A B C : Option Addr) (n c m d l e : Nat) (s : Int) (w : World) (hT : Tabs w) (h : 8 < n ∨ 8 < m ∨ 8 < l) :
    Calls Tryz.prog 9 #[.slice A n c, .slice B m d, .slice C l e, .int .i64 s] w fun e w' => e = .returned (.bool true) ∧ Below w.heap.size w w' := by
  by_cases h1 : 8 < n
  · have h1' : (8 : Int) < (n : Int) := by omega
    clear h h1
    go_enter Tryz.func9, Tryz.ntmps9
    go_wp2_with fail
    refine (awakeN hT).mono ?_
    rintro _ w1 ⟨rfl, hb⟩
    go_wp2_with fail
    go_ret
    exact ⟨rfl, hb⟩
  · have h1' : ¬ (8 : Int) < (n : Int) := by omega
    by_cases h2 : 8 < m
    · have h2' : (8 : Int) < (m : Int) := by omega
      clear h h1 h2
      go_enter Tryz.func9, Tryz.ntmps9
      go_wp2_with fail
      refine (awakeN hT).mono ?_
      rintro _ w1 ⟨rfl, hb⟩
      go_wp2_with fail
      go_ret
      exact ⟨rfl, hb⟩
    · have h2' : ¬ (8 : Int) < (m : Int) := by omega
      have h3' : (8 : Int) < (l : Int) := by omega
      clear h h1 h2
      go_enter Tryz.func9, Tryz.ntmps9
      go_wp2_with fail
      refine (awakeN hT).mono ?_
      rintro _ w1 ⟨rfl, hb⟩
      go_wp2_with fail
      go_ret
      exact ⟨rfl, hb⟩

set_option maxRecDepth 100000 in
set_option maxHeartbeats 16000000 in
theorem ratOrder_main (A B C : Option Addr) (n cn m cm l cl : Nat) (f g h : Nat → Nat) (s : Int) (hs0 : -9223372036854775808 ≤ s) (hs1 : s ≤ 9223372036854775807) (w : World) (hA : Rs w w.heap.size A n cn f) (hB : Rs w w.heap.size B m cm g) (hC : Rs w w.heap.size C l cl h) (hT : Tabs w) (hn : n ≤ 8) (hm : m ≤ 8) (hl : l ≤ 8) :
    Calls Tryz.prog 9 #[.slice A n cn, .slice B m cm, .slice C l cl, .int .i64 s] w fun e w' => e = .returned (.bool true) ∧ Below w.heap.size w w' := by
  have BB := Lib.hid (Below.refl w.heap.size w)
  have HB := BB
  have HA := Lib.hid hA
  have HBB := Lib.hid hB
  have HC := Lib.hid hC
  have HT := Lib.hid hT
  clear hA hB hC hT BB
  have hn' : ¬ (8 : Int) < (n : Int) := by omega
  have hm' : ¬ (8 : Int) < (m : Int) := by omega
  have hl' : ¬ (8 : Int) < (l : Int) := by omega
  have q2 := quo_wrap hs0 hs1 (show (1 : Int) ≤ 2 by omega)
  have q4 := quo_wrap hs0 hs1 (show (1 : Int) ≤ 4 by omega)
  go_enter Tryz.func9, Tryz.ntmps9
  go_wp2_with fail
  refine (modN s 2 (by omega) (by omega) _).mono ?_
  rintro _ _ ⟨rfl, rfl⟩
  go_wp2_with fail
  refine (numberQ _ HA.out HBB.out hn hm).mono ?_
  rintro _ w1 ⟨x, a, rfl, hx, sx, hb⟩
  obtain ⟨b1, A1, n1, c1, A1', n1', c1', rfl, -, -, -⟩ := hx.get
  have hba := below1 w1 (.cells #[.bool b1, .slice A1 n1 c1, .slice A1' n1' c1'] 25)
  have hbb := hb.trans (hba.mono hb.size)
  replace HA := Lib.hid ((HA.out.below hbb).more hbb.size)
  replace HBB := Lib.hid ((HBB.out.below hbb).more hbb.size)
  replace HC := Lib.hid ((HC.out.below hbb).more hbb.size)
  replace HT := Lib.hid (HT.out.below hbb)
  replace HB := Lib.hid (HB.out.trans (hbb.mono HB.out.size))
  have Ra := Lib.hid (hx.below hba)
  have KP1 := Lib.hid (Blk.new w1 #[.bool b1, .slice A1 n1 c1, .slice A1' n1' c1'] 25)
  have SA := Lib.hid sx
  clear hx hb hba hbb sx
  go_upto_region 4 with fail
  generalize hP1 : w1.heap.size = P1 at *
  clear hP1
  generalize w1.alloc (.cells #[.bool b1, .slice A1 n1 c1, .slice A1' n1' c1'] 25) = v1 at *
  go_wp2_with fail
  refine (modN (s.tdiv 2) 2 (by omega) (by omega) _).mono ?_
  rintro _ _ ⟨rfl, rfl⟩
  go_wp2_with fail
  refine (numberQ _ HC.out HBB.out hl hm).mono ?_
  rintro _ w2 ⟨x, b, rfl, hx, sx, hb⟩
  obtain ⟨b2, A2, n2, c2, A2', n2', c2', rfl, -, -, -⟩ := hx.get
  have hba := below1 w2 (.cells #[.bool b2, .slice A2 n2 c2, .slice A2' n2' c2'] 25)
  have hbb := hb.trans (hba.mono hb.size)
  replace HA := Lib.hid ((HA.out.below hbb).more hbb.size)
  replace HBB := Lib.hid ((HBB.out.below hbb).more hbb.size)
  replace HC := Lib.hid ((HC.out.below hbb).more hbb.size)
  replace HT := Lib.hid (HT.out.below hbb)
  replace HB := Lib.hid (HB.out.trans (hbb.mono HB.out.size))
  replace Ra := Lib.hid (Ra.out.below hbb)
  replace KP1 := Lib.hid (KP1.out.after hbb)
  have Rb := Lib.hid (hx.below hba)
  have KP2 := Lib.hid (Blk.new w2 #[.bool b2, .slice A2 n2 c2, .slice A2' n2' c2'] 25)
  have SB := Lib.hid sx
  clear hx hb hba hbb sx
  go_upto_region 5 with fail
  generalize hP2 : w2.heap.size = P2 at *
  clear hP2
  generalize w2.alloc (.cells #[.bool b2, .slice A2 n2 c2, .slice A2' n2' c2'] 25) = v2 at *
  go_wp2_with fail
  refine (modN (s.tdiv 4) 2 (by omega) (by omega) _).mono ?_
  rintro _ _ ⟨rfl, rfl⟩
  go_wp2_with fail
  refine (numberQ _ HC.out HA.out hl hn).mono ?_
  rintro _ w3 ⟨x, c, rfl, hx, sx, hb⟩
  obtain ⟨b3, A3, n3, c3, A3', n3', c3', rfl, -, -, -⟩ := hx.get
  have hba := below1 w3 (.cells #[.bool b3, .slice A3 n3 c3, .slice A3' n3' c3'] 25)
  have hbb := hb.trans (hba.mono hb.size)
  replace HA := Lib.hid ((HA.out.below hbb).more hbb.size)
  replace HBB := Lib.hid ((HBB.out.below hbb).more hbb.size)
  replace HC := Lib.hid ((HC.out.below hbb).more hbb.size)
  replace HT := Lib.hid (HT.out.below hbb)
  replace HB := Lib.hid (HB.out.trans (hbb.mono HB.out.size))
  replace Ra := Lib.hid (Ra.out.below hbb)
  replace KP1 := Lib.hid (KP1.out.after hbb)
  replace Rb := Lib.hid (Rb.out.below hbb)
  replace KP2 := Lib.hid (KP2.out.after hbb)
  have Rc := Lib.hid (hx.below hba)
  have KP3 := Lib.hid (Blk.new w3 #[.bool b3, .slice A3 n3 c3, .slice A3' n3' c3'] 25)
  have SC := Lib.hid sx
  clear hx hb hba hbb sx
  go_upto_region 8 with fail
  generalize hP3 : w3.heap.size = P3 at *
  clear hP3
  generalize w3.alloc (.cells #[.bool b3, .slice A3 n3 c3, .slice A3' n3' c3'] 25) = v3 at *
  clear HA HBB HC
  obtain ⟨o1, ho1⟩ : ∃ o1, cq a b = o1 := ⟨_, rfl⟩
  obtain ⟨o2, ho2⟩ : ∃ o2, cq c 0 = o2 := ⟨_, rfl⟩
  have hr1 := cq_range a b
  have hr2 := cq_range c 0
  rw [ho1] at hr1
  rw [ho2] at hr2
  have hwr := wrap_signs hr1 hr2
  have hn1 : ¬ o1 < -1 := by omega
  have hn2 : ¬ 1 < o1 := by omega
  have E1 := Lib.hid ho1
  have E2 := Lib.hid ((cq_add a b c).trans ho1)
  have E3 := Lib.hid ((cq_mul a b c).trans (by rw [ho1, ho2]))
  have E4 := Lib.hid ((cq_of0 c).trans ho2)
  clear ho1 ho2 hr1 hr2
  have d10 := KP1.out.cell (i := 0) rfl
  have d11 := KP1.out.cell (i := 1) rfl
  have d12 := KP1.out.cell (i := 2) rfl
  have d20 := KP2.out.cell (i := 0) rfl
  have d21 := KP2.out.cell (i := 1) rfl
  have d22 := KP2.out.cell (i := 2) rfl
  go_wp2_with fail
  refine (ratCmpE o1 E1.out Ra.out Rb.out HT.out SA.out SB.out (by omega) (by omega)).mono ?_
  rintro _ w8 ⟨rfl, hb⟩
  clear d10 d11 d12 d20 d21 d22
  replace Ra := Lib.hid (Ra.out.below hb)
  replace Rb := Lib.hid (Rb.out.below hb)
  replace Rc := Lib.hid (Rc.out.below hb)
  replace HT := Lib.hid (HT.out.below hb)
  replace KP1 := Lib.hid (KP1.out.after hb)
  replace KP2 := Lib.hid (KP2.out.after hb)
  replace KP3 := Lib.hid (KP3.out.after hb)
  replace HB := Lib.hid (HB.out.trans (hb.mono HB.out.size))
  clear hb
  go_upto_region 9 with fail
  have KEEP : Hid (∀ W, Below w8.heap.size w8 W → (W.cell? ⟨P1, 0, none⟩ = some (.bool b1) ∧ W.cell? ⟨P1, 1, none⟩ = some (.slice A1 n1 c1) ∧ W.cell? ⟨P1, 2, none⟩ = some (.slice A1' n1' c1') ∧ W.cell? ⟨P2, 0, none⟩ = some (.bool b2) ∧ W.cell? ⟨P2, 1, none⟩ = some (.slice A2 n2 c2) ∧ W.cell? ⟨P2, 2, none⟩ = some (.slice A2' n2' c2') ∧ W.cell? ⟨P3, 0, none⟩ = some (.bool b3) ∧ W.cell? ⟨P3, 1, none⟩ = some (.slice A3 n3 c3) ∧ W.cell? ⟨P3, 2, none⟩ = some (.slice A3' n3' c3'))) := Lib.hid fun W h1 => ⟨(KP1.out.after h1).cell rfl, (KP1.out.after h1).cell rfl, (KP1.out.after h1).cell rfl, (KP2.out.after h1).cell rfl, (KP2.out.after h1).cell rfl, (KP2.out.after h1).cell rfl, (KP3.out.after h1).cell rfl, (KP3.out.after h1).cell rfl, (KP3.out.after h1).cell rfl⟩
  have hdrew : Below w8.heap.size w8 w8.drew := (Below.refl _ _).drew
  go_region_held3 (fun W => W.cell? ⟨P1, 0, none⟩ = some (.bool b1) ∧ W.cell? ⟨P1, 1, none⟩ = some (.slice A1 n1 c1) ∧ W.cell? ⟨P1, 2, none⟩ = some (.slice A1' n1' c1') ∧ W.cell? ⟨P2, 0, none⟩ = some (.bool b2) ∧ W.cell? ⟨P2, 1, none⟩ = some (.slice A2 n2 c2) ∧ W.cell? ⟨P2, 2, none⟩ = some (.slice A2' n2' c2') ∧ W.cell? ⟨P3, 0, none⟩ = some (.bool b3) ∧ W.cell? ⟨P3, 1, none⟩ = some (.slice A3 n3 c3) ∧ W.cell? ⟨P3, 2, none⟩ = some (.slice A3' n3' c3'))
    (first | with_reducible exact KEEP.out wU3 hkwU3 | with_reducible exact KEEP.out wU2 hkwU2 | with_reducible exact KEEP.out wU1 hkwU1 | with_reducible exact KEEP.out w8.drew hdrew | go_keep)
    (first
      | (go_at_call 50; (with_reducible refine (lawsumQ (Ra.out.below hdrew) (Rc.out.below hdrew) (HT.out.below hdrew) SA.out SC.out (by omega)).mono ?_); rintro _ wU1 ⟨xwU1, rfl, hxwU1, hbwU1⟩; have hkwU1 := hdrew.trans (hbwU1.mono hdrew.size); have X1 := Lib.hid (hxwU1); clear hxwU1)
      | (go_at_call 50; (with_reducible refine (lawsumQ (Rb.out.below hkwU1) (Rc.out.below hkwU1) (HT.out.below hkwU1) SB.out SC.out (by omega)).mono ?_); rintro _ wU2 ⟨xwU2, rfl, hxwU2, hbwU2⟩; have hkwU2 := hkwU1.trans (hbwU2.mono hkwU1.size); have X2 := Lib.hid (hxwU2); clear hxwU2)
      | (go_at_call 24; (with_reducible refine (ratCmpE o1 E2.out (X1.out.below hbwU2) X2.out (HT.out.below hkwU2) (SA.out.add SC.out) (SB.out.add SC.out) (by omega) (by omega)).mono ?_); rintro _ wU3 ⟨rfl, hbwU3⟩; have hkwU3 := hkwU2.trans (hbwU3.mono hkwU2.size); clear X1 X2))
  replace Ra := Lib.hid (Ra.out.below hkwU3)
  replace Rb := Lib.hid (Rb.out.below hkwU3)
  replace Rc := Lib.hid (Rc.out.below hkwU3)
  replace HT := Lib.hid (HT.out.below hkwU3)
  replace KP1 := Lib.hid (KP1.out.after hkwU3)
  replace KP2 := Lib.hid (KP2.out.after hkwU3)
  replace KP3 := Lib.hid (KP3.out.after hkwU3)
  replace HB := Lib.hid (HB.out.trans (hkwU3.mono HB.out.size))
  clear KEEP hdrew hbwU1 hkwU1 hbwU2 hkwU2 hbwU3 hkwU3
  go_upto_region 10 with fail
  have KEEP : Hid (∀ W, Below wU3.heap.size wU3 W → (W.cell? ⟨P1, 0, none⟩ = some (.bool b1) ∧ W.cell? ⟨P1, 1, none⟩ = some (.slice A1 n1 c1) ∧ W.cell? ⟨P1, 2, none⟩ = some (.slice A1' n1' c1') ∧ W.cell? ⟨P2, 0, none⟩ = some (.bool b2) ∧ W.cell? ⟨P2, 1, none⟩ = some (.slice A2 n2 c2) ∧ W.cell? ⟨P2, 2, none⟩ = some (.slice A2' n2' c2') ∧ W.cell? ⟨P3, 0, none⟩ = some (.bool b3) ∧ W.cell? ⟨P3, 1, none⟩ = some (.slice A3 n3 c3) ∧ W.cell? ⟨P3, 2, none⟩ = some (.slice A3' n3' c3'))) := Lib.hid fun W h1 => ⟨(KP1.out.after h1).cell rfl, (KP1.out.after h1).cell rfl, (KP1.out.after h1).cell rfl, (KP2.out.after h1).cell rfl, (KP2.out.after h1).cell rfl, (KP2.out.after h1).cell rfl, (KP3.out.after h1).cell rfl, (KP3.out.after h1).cell rfl, (KP3.out.after h1).cell rfl⟩
  have hdrew : Below wU3.heap.size wU3 wU3.drew := (Below.refl _ _).drew
  go_region_held3 (fun W => W.cell? ⟨P1, 0, none⟩ = some (.bool b1) ∧ W.cell? ⟨P1, 1, none⟩ = some (.slice A1 n1 c1) ∧ W.cell? ⟨P1, 2, none⟩ = some (.slice A1' n1' c1') ∧ W.cell? ⟨P2, 0, none⟩ = some (.bool b2) ∧ W.cell? ⟨P2, 1, none⟩ = some (.slice A2 n2 c2) ∧ W.cell? ⟨P2, 2, none⟩ = some (.slice A2' n2' c2') ∧ W.cell? ⟨P3, 0, none⟩ = some (.bool b3) ∧ W.cell? ⟨P3, 1, none⟩ = some (.slice A3 n3 c3) ∧ W.cell? ⟨P3, 2, none⟩ = some (.slice A3' n3' c3'))
    (first | with_reducible exact KEEP.out wV3 hkwV3 | with_reducible exact KEEP.out wV2 hkwV2 | with_reducible exact KEEP.out wV1 hkwV1 | with_reducible exact KEEP.out wU3.drew hdrew | go_keep)
    (first
      | (go_at_call 51; (with_reducible refine (lawproductQ (Ra.out.below hdrew) (Rc.out.below hdrew) (HT.out.below hdrew) SA.out SC.out (by omega)).mono ?_); rintro _ wV1 ⟨xwV1, rfl, hxwV1, hbwV1⟩; have hkwV1 := hdrew.trans (hbwV1.mono hdrew.size); have X1 := Lib.hid (hxwV1); clear hxwV1)
      | (go_at_call 51; (with_reducible refine (lawproductQ (Rb.out.below hkwV1) (Rc.out.below hkwV1) (HT.out.below hkwV1) SB.out SC.out (by omega)).mono ?_); rintro _ wV2 ⟨xwV2, rfl, hxwV2, hbwV2⟩; have hkwV2 := hkwV1.trans (hbwV2.mono hkwV1.size); have X2 := Lib.hid (hxwV2); clear hxwV2)
      | (go_at_call 24; (with_reducible refine (ratCmpE (o1 * o2) E3.out (X1.out.below hbwV2) X2.out (HT.out.below hkwV2) (SA.out.mul SC.out) (SB.out.mul SC.out) (by omega) (by omega)).mono ?_); rintro _ wV3 ⟨rfl, hbwV3⟩; have hkwV3 := hkwV2.trans (hbwV3.mono hkwV2.size); clear X1 X2))
  replace Ra := Lib.hid (Ra.out.below hkwV3)
  replace Rb := Lib.hid (Rb.out.below hkwV3)
  replace Rc := Lib.hid (Rc.out.below hkwV3)
  replace HT := Lib.hid (HT.out.below hkwV3)
  replace KP1 := Lib.hid (KP1.out.after hkwV3)
  replace KP2 := Lib.hid (KP2.out.after hkwV3)
  replace KP3 := Lib.hid (KP3.out.after hkwV3)
  replace HB := Lib.hid (HB.out.trans (hkwV3.mono HB.out.size))
  clear KEEP hdrew hbwV1 hkwV1 hbwV2 hkwV2 hbwV3 hkwV3
  go_upto_region 11 with fail
  have KEEP : Hid (∀ W, Below wV3.heap.size wV3 W → (W.cell? ⟨P1, 0, none⟩ = some (.bool b1) ∧ W.cell? ⟨P1, 1, none⟩ = some (.slice A1 n1 c1) ∧ W.cell? ⟨P1, 2, none⟩ = some (.slice A1' n1' c1') ∧ W.cell? ⟨P2, 0, none⟩ = some (.bool b2) ∧ W.cell? ⟨P2, 1, none⟩ = some (.slice A2 n2 c2) ∧ W.cell? ⟨P2, 2, none⟩ = some (.slice A2' n2' c2') ∧ W.cell? ⟨P3, 0, none⟩ = some (.bool b3) ∧ W.cell? ⟨P3, 1, none⟩ = some (.slice A3 n3 c3) ∧ W.cell? ⟨P3, 2, none⟩ = some (.slice A3' n3' c3'))) := Lib.hid fun W h1 => ⟨(KP1.out.after h1).cell rfl, (KP1.out.after h1).cell rfl, (KP1.out.after h1).cell rfl, (KP2.out.after h1).cell rfl, (KP2.out.after h1).cell rfl, (KP2.out.after h1).cell rfl, (KP3.out.after h1).cell rfl, (KP3.out.after h1).cell rfl, (KP3.out.after h1).cell rfl⟩
  have hdrew : Below wV3.heap.size wV3 wV3.drew := (Below.refl _ _).drew
  go_region_held3 (fun W => W.cell? ⟨P1, 0, none⟩ = some (.bool b1) ∧ W.cell? ⟨P1, 1, none⟩ = some (.slice A1 n1 c1) ∧ W.cell? ⟨P1, 2, none⟩ = some (.slice A1' n1' c1') ∧ W.cell? ⟨P2, 0, none⟩ = some (.bool b2) ∧ W.cell? ⟨P2, 1, none⟩ = some (.slice A2 n2 c2) ∧ W.cell? ⟨P2, 2, none⟩ = some (.slice A2' n2' c2') ∧ W.cell? ⟨P3, 0, none⟩ = some (.bool b3) ∧ W.cell? ⟨P3, 1, none⟩ = some (.slice A3 n3 c3) ∧ W.cell? ⟨P3, 2, none⟩ = some (.slice A3' n3' c3'))
    (first | with_reducible exact KEEP.out wW2 hkwW2 | with_reducible exact KEEP.out wW1 hkwW1 | with_reducible exact KEEP.out wV3.drew hdrew | go_keep)
    (first
      | (go_at_call 45; (with_reducible refine (ofN1 0 (by omega) (by omega) _).mono ?_); rintro _ wW1 ⟨xwW1, rfl, hxwW1, hbwW1⟩; have hkwW1 := hdrew.trans (hbwW1.mono hdrew.size); have O1 := Lib.hid (hxwW1); clear hxwW1)
      | (go_at_call 24; (with_reducible refine (ratCmpE o2 E4.out (Rc.out.below hkwW1) O1.out (HT.out.below hkwW1) SC.out (sz_mk (z := 0) (D := 1) (by decide) (by decide) (by decide)) (by omega) (by omega)).mono ?_); rintro _ wW2 ⟨rfl, hbwW2⟩; have hkwW2 := hkwW1.trans (hbwW2.mono hkwW1.size); clear O1))
  replace Ra := Lib.hid (Ra.out.below hkwW2)
  replace Rb := Lib.hid (Rb.out.below hkwW2)
  replace Rc := Lib.hid (Rc.out.below hkwW2)
  replace HT := Lib.hid (HT.out.below hkwW2)
  replace KP1 := Lib.hid (KP1.out.after hkwW2)
  replace KP2 := Lib.hid (KP2.out.after hkwW2)
  replace KP3 := Lib.hid (KP3.out.after hkwW2)
  replace HB := Lib.hid (HB.out.trans (hkwW2.mono HB.out.size))
  clear KEEP hdrew hbwW1 hkwW1 hbwW2 hkwW2
  go_upto_region 14 with fail
  clear Rb Rc KP2 KP3 E1 E2 E3 E4 SB SC v1 v2 v3 w1 w2 w3 w8
  have d10 := KP1.out.cell (i := 0) rfl
  have d11 := KP1.out.cell (i := 1) rfl
  have d12 := KP1.out.cell (i := 2) rfl
  go_wp2_with fail
  refine (ratFloorQ Ra.out (SA.out.up (by omega))).mono ?_
  rintro _ w5 ⟨x, rfl, hx, hb⟩
  obtain ⟨b5, A5, n5, c5, A5', n5', c5', rfl, -, -, -⟩ := hx.get
  have hba := below1 w5 (.cells #[.bool b5, .slice A5 n5 c5, .slice A5' n5' c5'] 25)
  have hbb := hb.trans (hba.mono hb.size)
  clear d10 d11 d12
  replace Ra := Lib.hid (Ra.out.below hbb)
  replace HT := Lib.hid (HT.out.below hbb)
  replace KP1 := Lib.hid (KP1.out.after hbb)
  replace HB := Lib.hid (HB.out.trans (hbb.mono HB.out.size))
  have R5 := Lib.hid (hx.below hba)
  have KP5 := Lib.hid (Blk.new w5 #[.bool b5, .slice A5 n5 c5, .slice A5' n5' c5'] 25)
  clear hx hb hba hbb
  go_upto_region 15 with fail
  generalize hP5 : w5.heap.size = P5 at *
  clear hP5
  generalize w5.alloc (.cells #[.bool b5, .slice A5 n5 c5, .slice A5' n5' c5'] 25) = v5 at *
  have d10 := KP1.out.cell (i := 0) rfl
  have d11 := KP1.out.cell (i := 1) rfl
  have d12 := KP1.out.cell (i := 2) rfl
  go_wp2_with fail
  refine (ratCeilQ Ra.out (SA.out.up (by omega))).mono ?_
  rintro _ w6 ⟨x, rfl, hx, hb⟩
  obtain ⟨b6, A6, n6, c6, A6', n6', c6', rfl, -, -, -⟩ := hx.get
  have hba := below1 w6 (.cells #[.bool b6, .slice A6 n6 c6, .slice A6' n6' c6'] 25)
  have hbb := hb.trans (hba.mono hb.size)
  clear d10 d11 d12
  replace Ra := Lib.hid (Ra.out.below hbb)
  replace HT := Lib.hid (HT.out.below hbb)
  replace R5 := Lib.hid (R5.out.below hbb)
  replace KP1 := Lib.hid (KP1.out.after hbb)
  replace KP5 := Lib.hid (KP5.out.after hbb)
  replace HB := Lib.hid (HB.out.trans (hbb.mono HB.out.size))
  have R6 := Lib.hid (hx.below hba)
  have KP6 := Lib.hid (Blk.new w6 #[.bool b6, .slice A6 n6 c6, .slice A6' n6' c6'] 25)
  clear hx hb hba hbb
  go_upto_region 16 with fail
  generalize hP6 : w6.heap.size = P6 at *
  clear hP6
  generalize w6.alloc (.cells #[.bool b6, .slice A6 n6 c6, .slice A6' n6' c6'] 25) = v6 at *
  have d52 := KP5.out.cell (i := 2) rfl
  have d62 := KP6.out.cell (i := 2) rfl
  go_wp2_with fail
  refine (alikeN ((rq_den R5.out).below (below1 _ _)) (nr_one _)).mono ?_
  rintro _ w7 ⟨rfl, hq⟩
  have hb := (below1 v6 (.cells #[.int .u32 1] 48)).trans (hq.below.mono (below1 v6 (.cells #[.int .u32 1] 48)).size)
  replace Ra := Lib.hid (Ra.out.below hb)
  replace HT := Lib.hid (HT.out.below hb)
  replace R5 := Lib.hid (R5.out.below hb)
  replace R6 := Lib.hid (R6.out.below hb)
  replace KP1 := Lib.hid (KP1.out.after hb)
  replace KP5 := Lib.hid (KP5.out.after hb)
  replace KP6 := Lib.hid (KP6.out.after hb)
  replace HB := Lib.hid (HB.out.trans (hb.mono HB.out.size))
  clear hb hq d62 d52
  have d62 := KP6.out.cell (i := 2) rfl
  go_wp2_with fail
  refine (alikeN ((rq_den R6.out).below (below1 _ _)) (nr_one _)).mono ?_
  rintro _ w8 ⟨rfl, hq⟩
  have hb := (below1 w7 (.cells #[.int .u32 1] 48)).trans (hq.below.mono (below1 w7 (.cells #[.int .u32 1] 48)).size)
  replace Ra := Lib.hid (Ra.out.below hb)
  replace HT := Lib.hid (HT.out.below hb)
  replace R5 := Lib.hid (R5.out.below hb)
  replace R6 := Lib.hid (R6.out.below hb)
  replace KP1 := Lib.hid (KP1.out.after hb)
  replace KP5 := Lib.hid (KP5.out.after hb)
  replace KP6 := Lib.hid (KP6.out.after hb)
  replace HB := Lib.hid (HB.out.trans (hb.mono HB.out.size))
  clear hb hq d62
  go_upto_region 18 with fail
  have SF := Lib.hid (SA.out.floor (by omega))
  have SG := Lib.hid (sz_ceil SA.out (by omega))
  rcases rounds a with ⟨r1, r2, r3⟩ | ⟨r1, r2, r3⟩
  · as_aux_lemma =>
      have d10 := KP1.out.cell (i := 0) rfl
      have d11 := KP1.out.cell (i := 1) rfl
      have d12 := KP1.out.cell (i := 2) rfl
      have d50 := KP5.out.cell (i := 0) rfl
      have d51 := KP5.out.cell (i := 1) rfl
      have d52 := KP5.out.cell (i := 2) rfl
      go_wp2_with fail
      refine (ratCmpE 0 r1 R5.out Ra.out HT.out SF.out SA.out (by omega) (by omega)).mono ?_
      rintro _ w9 ⟨rfl, hb⟩
      replace Ra := Lib.hid (Ra.out.below hb)
      replace HT := Lib.hid (HT.out.below hb)
      replace R5 := Lib.hid (R5.out.below hb)
      replace R6 := Lib.hid (R6.out.below hb)
      replace KP1 := Lib.hid (KP1.out.after hb)
      replace KP5 := Lib.hid (KP5.out.after hb)
      replace KP6 := Lib.hid (KP6.out.after hb)
      replace HB := Lib.hid (HB.out.trans (hb.mono HB.out.size))
      clear hb d10 d11 d12 d50 d51 d52
      have d10 := KP1.out.cell (i := 0) rfl
      have d11 := KP1.out.cell (i := 1) rfl
      have d12 := KP1.out.cell (i := 2) rfl
      have d60 := KP6.out.cell (i := 0) rfl
      have d61 := KP6.out.cell (i := 1) rfl
      have d62 := KP6.out.cell (i := 2) rfl
      go_wp2_with fail
      refine (ratCmpE 0 r2 Ra.out R6.out HT.out SA.out SG.out (by omega) (by omega)).mono ?_
      rintro _ w10 ⟨rfl, hb⟩
      replace Ra := Lib.hid (Ra.out.below hb)
      replace HT := Lib.hid (HT.out.below hb)
      replace R5 := Lib.hid (R5.out.below hb)
      replace R6 := Lib.hid (R6.out.below hb)
      replace KP1 := Lib.hid (KP1.out.after hb)
      replace KP5 := Lib.hid (KP5.out.after hb)
      replace KP6 := Lib.hid (KP6.out.after hb)
      replace HB := Lib.hid (HB.out.trans (hb.mono HB.out.size))
      clear hb d10 d11 d12 d60 d61 d62 Ra KP1
      go_upto_region 20 with fail
      have C1 : Hid (∀ W, Below w10.heap.size w10 W → _) := Lib.hid fun W (h1 : Below w10.heap.size w10 W) => ofN1 (-1) (by omega) (by omega) W
      have C2 : Hid (∀ W0 W x, Below w10.heap.size w10 W0 → Below W0.heap.size W0 W → Rq W0 (mkRat (-1) 1) x → _) := Lib.hid fun W0 W x (h0 : Below w10.heap.size w10 W0) (h1 : Below W0.heap.size W0 W) (hx : Rq W0 (mkRat (-1) 1) x) => lawproductQ (hx.below h1) (R5.out.below (h0.trans (h1.mono h0.size))) (HT.out.below (h0.trans (h1.mono h0.size))) (sz_mk (z := -1) (D := 1) (by decide) (by decide) (by decide)) SF.out (by omega)
      have C3 : Hid (∀ W0 W x, Below w10.heap.size w10 W0 → Below W0.heap.size W0 W → Rq W0 (mkRat (-1) 1 * (a.floor : Rat)) x → _) := Lib.hid fun W0 W x (h0 : Below w10.heap.size w10 W0) (h1 : Below W0.heap.size W0 W) (hx : Rq W0 (mkRat (-1) 1 * (a.floor : Rat)) x) => lawsumQ (R6.out.below (h0.trans (h1.mono h0.size))) (hx.below h1) (HT.out.below (h0.trans (h1.mono h0.size))) SG.out ((sz_mk (z := -1) (D := 1) (by decide) (by decide) (by decide)).mul SF.out) (by omega)
      have KEEP : Hid (∀ W, Below w10.heap.size w10 W → (W.cell? ⟨P5, 0, none⟩ = some (.bool b5) ∧ W.cell? ⟨P5, 1, none⟩ = some (.slice A5 n5 c5) ∧ W.cell? ⟨P5, 2, none⟩ = some (.slice A5' n5' c5') ∧ W.cell? ⟨P6, 0, none⟩ = some (.bool b6) ∧ W.cell? ⟨P6, 1, none⟩ = some (.slice A6 n6 c6) ∧ W.cell? ⟨P6, 2, none⟩ = some (.slice A6' n6' c6') ∧ Below w10.heap.size w10 W)) := Lib.hid fun W h1 => ⟨(KP5.out.after h1).cell rfl, (KP5.out.after h1).cell rfl, (KP5.out.after h1).cell rfl, (KP6.out.after h1).cell rfl, (KP6.out.after h1).cell rfl, (KP6.out.after h1).cell rfl, h1⟩
      have NEXT : Hid (∀ W W', (W.cell? ⟨P5, 0, none⟩ = some (.bool b5) ∧ W.cell? ⟨P5, 1, none⟩ = some (.slice A5 n5 c5) ∧ W.cell? ⟨P5, 2, none⟩ = some (.slice A5' n5' c5') ∧ W.cell? ⟨P6, 0, none⟩ = some (.bool b6) ∧ W.cell? ⟨P6, 1, none⟩ = some (.slice A6 n6 c6) ∧ W.cell? ⟨P6, 2, none⟩ = some (.slice A6' n6' c6') ∧ Below w10.heap.size w10 W) → Below W.heap.size W W' → (W'.cell? ⟨P5, 0, none⟩ = some (.bool b5) ∧ W'.cell? ⟨P5, 1, none⟩ = some (.slice A5 n5 c5) ∧ W'.cell? ⟨P5, 2, none⟩ = some (.slice A5' n5' c5') ∧ W'.cell? ⟨P6, 0, none⟩ = some (.bool b6) ∧ W'.cell? ⟨P6, 1, none⟩ = some (.slice A6 n6 c6) ∧ W'.cell? ⟨P6, 2, none⟩ = some (.slice A6' n6' c6') ∧ Below w10.heap.size w10 W')) := Lib.hid fun W W' h hb => KEEP.out W' (h.2.2.2.2.2.2.trans (hb.mono h.2.2.2.2.2.2.size))
      have ALL : Hid (∀ W o, (W.cell? ⟨P5, 0, none⟩ = some (.bool b5) ∧ W.cell? ⟨P5, 1, none⟩ = some (.slice A5 n5 c5) ∧ W.cell? ⟨P5, 2, none⟩ = some (.slice A5' n5' c5') ∧ W.cell? ⟨P6, 0, none⟩ = some (.bool b6) ∧ W.cell? ⟨P6, 1, none⟩ = some (.slice A6 n6 c6) ∧ W.cell? ⟨P6, 2, none⟩ = some (.slice A6' n6' c6') ∧ Below w10.heap.size w10 W) → ((W.alloc o).cell? ⟨P5, 0, none⟩ = some (.bool b5) ∧ (W.alloc o).cell? ⟨P5, 1, none⟩ = some (.slice A5 n5 c5) ∧ (W.alloc o).cell? ⟨P5, 2, none⟩ = some (.slice A5' n5' c5') ∧ (W.alloc o).cell? ⟨P6, 0, none⟩ = some (.bool b6) ∧ (W.alloc o).cell? ⟨P6, 1, none⟩ = some (.slice A6 n6 c6) ∧ (W.alloc o).cell? ⟨P6, 2, none⟩ = some (.slice A6' n6' c6') ∧ Below w10.heap.size w10 (W.alloc o))) := Lib.hid fun W o h => NEXT.out W _ h (below1 W o)
      have ALC : Hid (∀ W w', (W.cell? ⟨P5, 0, none⟩ = some (.bool b5) ∧ W.cell? ⟨P5, 1, none⟩ = some (.slice A5 n5 c5) ∧ W.cell? ⟨P5, 2, none⟩ = some (.slice A5' n5' c5') ∧ W.cell? ⟨P6, 0, none⟩ = some (.bool b6) ∧ W.cell? ⟨P6, 1, none⟩ = some (.slice A6 n6 c6) ∧ W.cell? ⟨P6, 2, none⟩ = some (.slice A6' n6' c6') ∧ Below w10.heap.size w10 W) → Below (W.alloc (.cells #[.bool false, .slice none 0 0, .slice none 0 0] 25)).heap.size (W.alloc (.cells #[.bool false, .slice none 0 0, .slice none 0 0] 25)) w' → Blk w' W.heap.size 25 #[.bool false, .slice none 0 0, .slice none 0 0] ∧ w10.heap.size ≤ W.heap.size) := Lib.hid fun W w' h hb => ⟨(Blk.new W _ _).after hb, h.2.2.2.2.2.2.size⟩
      have STO : Hid (∀ W p x y z, (W.cell? ⟨P5, 0, none⟩ = some (.bool b5) ∧ W.cell? ⟨P5, 1, none⟩ = some (.slice A5 n5 c5) ∧ W.cell? ⟨P5, 2, none⟩ = some (.slice A5' n5' c5') ∧ W.cell? ⟨P6, 0, none⟩ = some (.bool b6) ∧ W.cell? ⟨P6, 1, none⟩ = some (.slice A6 n6 c6) ∧ W.cell? ⟨P6, 2, none⟩ = some (.slice A6' n6' c6') ∧ Below w10.heap.size w10 W) → w10.heap.size ≤ p → ((((W.setCell ⟨p, 0, none⟩ x).setCell ⟨p, 1, none⟩ y).setCell ⟨p, 2, none⟩ z).cell? ⟨P5, 0, none⟩ = some (.bool b5) ∧ (((W.setCell ⟨p, 0, none⟩ x).setCell ⟨p, 1, none⟩ y).setCell ⟨p, 2, none⟩ z).cell? ⟨P5, 1, none⟩ = some (.slice A5 n5 c5) ∧ (((W.setCell ⟨p, 0, none⟩ x).setCell ⟨p, 1, none⟩ y).setCell ⟨p, 2, none⟩ z).cell? ⟨P5, 2, none⟩ = some (.slice A5' n5' c5') ∧ (((W.setCell ⟨p, 0, none⟩ x).setCell ⟨p, 1, none⟩ y).setCell ⟨p, 2, none⟩ z).cell? ⟨P6, 0, none⟩ = some (.bool b6) ∧ (((W.setCell ⟨p, 0, none⟩ x).setCell ⟨p, 1, none⟩ y).setCell ⟨p, 2, none⟩ z).cell? ⟨P6, 1, none⟩ = some (.slice A6 n6 c6) ∧ (((W.setCell ⟨p, 0, none⟩ x).setCell ⟨p, 1, none⟩ y).setCell ⟨p, 2, none⟩ z).cell? ⟨P6, 2, none⟩ = some (.slice A6' n6' c6') ∧ Below w10.heap.size w10 (((W.setCell ⟨p, 0, none⟩ x).setCell ⟨p, 1, none⟩ y).setCell ⟨p, 2, none⟩ z))) := Lib.hid fun W p x y z h hg => KEEP.out _ (((h.2.2.2.2.2.2.setCell hg _).setCell hg _).setCell hg _)
      have hdrew := KEEP.out w10.drew (Below.refl _ _).drew
      have hdrewA := KEEP.out ((w10.alloc (.cells #[.bool false, .slice none 0 0, .slice none 0 0] 25)).drew) (below1 w10 _).drew
      have ALD : Hid (∀ w', Below ((w10.alloc (.cells #[.bool false, .slice none 0 0, .slice none 0 0] 25)).drew).heap.size ((w10.alloc (.cells #[.bool false, .slice none 0 0, .slice none 0 0] 25)).drew) w' → Blk w' w10.heap.size 25 #[.bool false, .slice none 0 0, .slice none 0 0] ∧ w10.heap.size ≤ w10.heap.size) := Lib.hid fun w' hb => ⟨Blk.after (show Blk ((w10.alloc (.cells #[.bool false, .slice none 0 0, .slice none 0 0] 25)).drew) w10.heap.size 25 #[.bool false, .slice none 0 0, .slice none 0 0] from Blk.new w10 _ _) hb, Nat.le_refl _⟩
      go_cut [27] (fun p wx => ∃ g s4 B4 m4 d4 B4' m4' d4', p = .pointer (some ⟨g, 0, none⟩) ∧ Hid (Blk wx g 25 #[.bool s4, .slice B4 m4 d4, .slice B4' m4' d4']) ∧ Hid (Rq wx (mkRat 0 1) (.agg #[.bool s4, .slice B4 m4 d4, .slice B4' m4' d4'])) ∧ Hid (Below w10.heap.size w10 wx ∧ w10.heap.size ≤ g))
      case first =>
        go_region_held3 (fun W => W.cell? ⟨P5, 0, none⟩ = some (.bool b5) ∧ W.cell? ⟨P5, 1, none⟩ = some (.slice A5 n5 c5) ∧ W.cell? ⟨P5, 2, none⟩ = some (.slice A5' n5' c5') ∧ W.cell? ⟨P6, 0, none⟩ = some (.bool b6) ∧ W.cell? ⟨P6, 1, none⟩ = some (.slice A6 n6 c6) ∧ W.cell? ⟨P6, 2, none⟩ = some (.slice A6' n6' c6') ∧ Below w10.heap.size w10 W)
          (first | with_reducible assumption | with_reducible exact ALL.out _ _ (by with_reducible assumption) | with_reducible exact STO.out _ _ _ _ _ (by with_reducible assumption) hge)
          (first
            | (go_at_call 45; (with_reducible refine (C1.out ((w10.alloc (.cells #[.bool false, .slice none 0 0, .slice none 0 0] 25)).drew) ((show _ ∧ _ ∧ _ ∧ _ ∧ _ ∧ _ ∧ _ from by with_reducible assumption).2.2.2.2.2.2)).mono ?_); rintro _ y1 ⟨x1, rfl, hx1, hby1⟩; have HX1 := Lib.hid hx1; clear hx1; have hS := NEXT.out _ _ (by with_reducible assumption) hby1; obtain ⟨hA, hge⟩ := ALD.out _ hby1; have e0_ := hA.cell (i := 0) rfl; have e1_ := hA.cell (i := 1) rfl; have e2_ := hA.cell (i := 2) rfl; have hfA := hA.free; have hlA := hA.lt)
            | (go_at_call 45; (with_reducible refine (C1.out (World.alloc _ (.cells #[.bool false, .slice none 0 0, .slice none 0 0] 25)) ((show _ ∧ _ ∧ _ ∧ _ ∧ _ ∧ _ ∧ _ from by with_reducible assumption).2.2.2.2.2.2)).mono ?_); rintro _ y1 ⟨x1, rfl, hx1, hby1⟩; have HX1 := Lib.hid hx1; clear hx1; have hS := NEXT.out _ _ (by with_reducible assumption) hby1; obtain ⟨hA, hge⟩ := ALC.out _ _ (by with_reducible assumption) hby1; have e0_ := hA.cell (i := 0) rfl; have e1_ := hA.cell (i := 1) rfl; have e2_ := hA.cell (i := 2) rfl; have hfA := hA.free; have hlA := hA.lt)
            | (go_at_call 45; (with_reducible refine (C1.out _ ((show _ ∧ _ ∧ _ ∧ _ ∧ _ ∧ _ ∧ _ from by with_reducible assumption).2.2.2.2.2.2)).mono ?_); rintro _ y1 ⟨x1, rfl, hx1, hby1⟩; have HX1 := Lib.hid hx1; clear hx1; have hS := NEXT.out _ _ (by with_reducible assumption) hby1; replace hA := hA.after hby1; have e0_ := hA.cell (i := 0) rfl; have e1_ := hA.cell (i := 1) rfl; have e2_ := hA.cell (i := 2) rfl; have hfA := hA.free; have hlA := hA.lt)
            | (go_at_call 45; (with_reducible refine (C1.out _ ((show _ ∧ _ ∧ _ ∧ _ ∧ _ ∧ _ ∧ _ from by with_reducible assumption).2.2.2.2.2.2)).mono ?_); rintro _ y1 ⟨x1, rfl, hx1, hby1⟩; have HX1 := Lib.hid hx1; clear hx1; have hS := NEXT.out _ _ (by with_reducible assumption) hby1)
            | (go_at_call 51; (with_reducible refine (C2.out y1 (World.alloc _ (.cells #[.bool false, .slice none 0 0, .slice none 0 0] 25)) x1 hS.2.2.2.2.2.2 (by first | with_reducible exact Below.refl _ _ | with_reducible exact below1 _ _) HX1.out).mono ?_); rintro _ y2 ⟨x2, rfl, hx2, hby2⟩; have HX2 := Lib.hid hx2; clear hx2; have hS := NEXT.out _ _ (by with_reducible assumption) hby2; obtain ⟨hA, hge⟩ := ALC.out _ _ (by with_reducible assumption) hby2; have e0_ := hA.cell (i := 0) rfl; have e1_ := hA.cell (i := 1) rfl; have e2_ := hA.cell (i := 2) rfl; have hfA := hA.free; have hlA := hA.lt)
            | (go_at_call 51; (with_reducible refine (C2.out y1 _ x1 hS.2.2.2.2.2.2 (by first | with_reducible exact Below.refl _ _ | with_reducible exact below1 _ _) HX1.out).mono ?_); rintro _ y2 ⟨x2, rfl, hx2, hby2⟩; have HX2 := Lib.hid hx2; clear hx2; have hS := NEXT.out _ _ (by with_reducible assumption) hby2; replace hA := hA.after hby2; have e0_ := hA.cell (i := 0) rfl; have e1_ := hA.cell (i := 1) rfl; have e2_ := hA.cell (i := 2) rfl; have hfA := hA.free; have hlA := hA.lt)
            | (go_at_call 51; (with_reducible refine (C2.out y1 _ x1 hS.2.2.2.2.2.2 (by first | with_reducible exact Below.refl _ _ | with_reducible exact below1 _ _) HX1.out).mono ?_); rintro _ y2 ⟨x2, rfl, hx2, hby2⟩; have HX2 := Lib.hid hx2; clear hx2; have hS := NEXT.out _ _ (by with_reducible assumption) hby2)
            | (go_at_call 50; (with_reducible refine (C3.out y2 (World.alloc _ (.cells #[.bool false, .slice none 0 0, .slice none 0 0] 25)) x2 hS.2.2.2.2.2.2 (by first | with_reducible exact Below.refl _ _ | with_reducible exact below1 _ _) HX2.out).mono ?_); rintro _ y3 ⟨x3, rfl, hx3, hby3⟩; obtain ⟨b4, B4, m4, e4, B4', m4', e4', rfl, _, _, _⟩ := hx3.get; have HX3 := Lib.hid (hx3.cast r3); clear hx3; have hS := NEXT.out _ _ (by with_reducible assumption) hby3; obtain ⟨hA, hge⟩ := ALC.out _ _ (by with_reducible assumption) hby3; have e0_ := hA.cell (i := 0) rfl; have e1_ := hA.cell (i := 1) rfl; have e2_ := hA.cell (i := 2) rfl; have hfA := hA.free; have hlA := hA.lt)
            | (go_at_call 50; (with_reducible refine (C3.out y2 _ x2 hS.2.2.2.2.2.2 (by first | with_reducible exact Below.refl _ _ | with_reducible exact below1 _ _) HX2.out).mono ?_); rintro _ y3 ⟨x3, rfl, hx3, hby3⟩; obtain ⟨b4, B4, m4, e4, B4', m4', e4', rfl, _, _, _⟩ := hx3.get; have HX3 := Lib.hid (hx3.cast r3); clear hx3; have hS := NEXT.out _ _ (by with_reducible assumption) hby3; replace hA := hA.after hby3; have e0_ := hA.cell (i := 0) rfl; have e1_ := hA.cell (i := 1) rfl; have e2_ := hA.cell (i := 2) rfl; have hfA := hA.free; have hlA := hA.lt)
            | (go_at_call 50; (with_reducible refine (C3.out y2 _ x2 hS.2.2.2.2.2.2 (by first | with_reducible exact Below.refl _ _ | with_reducible exact below1 _ _) HX2.out).mono ?_); rintro _ y3 ⟨x3, rfl, hx3, hby3⟩; obtain ⟨b4, B4, m4, e4, B4', m4', e4', rfl, _, _, _⟩ := hx3.get; have HX3 := Lib.hid (hx3.cast r3); clear hx3; have hS := NEXT.out _ _ (by with_reducible assumption) hby3))
        all_goals
          go_wp2_with fail
          go_meet
          first
            | (have k := hA.row3 (.bool b4) (.slice B4 m4 e4) (.slice B4' m4' e4'); have h := STO.out _ _ (.bool b4) (.slice B4 m4 e4) (.slice B4' m4' e4') hS hge; obtain ⟨g1, g2, g3⟩ := HX3.out.inv; have hq := Rq.mk g3 rfl rfl (g1.put3 (i := 0) (j := 1) (l := 2) (u := .bool b4) (x := .slice B4 m4 e4) (y := .slice B4' m4' e4') hA (hnoR _ _ _ _ _ _ _)) (g2.put3 (i := 0) (j := 1) (l := 2) (u := .bool b4) (x := .slice B4 m4 e4) (y := .slice B4' m4' e4') hA (hnoR _ _ _ _ _ _ _)); with_reducible exact ⟨_, _, _, _, _, _, _, _, rfl, Lib.hid k, Lib.hid hq, Lib.hid ⟨h.2.2.2.2.2.2, hge⟩⟩)
            | (have k := Blk.new y3 #[.bool b4, .slice B4 m4 e4, .slice B4' m4' e4'] 25; have h := ALL.out _ (.cells #[.bool b4, .slice B4 m4 e4, .slice B4' m4' e4'] 25) hS; have hq := HX3.out.below (below1 y3 (.cells #[.bool b4, .slice B4 m4 e4, .slice B4' m4' e4'] 25)); with_reducible exact ⟨_, _, _, _, _, _, _, _, rfl, Lib.hid k, Lib.hid hq, Lib.hid ⟨h.2.2.2.2.2.2, hS.2.2.2.2.2.2.size⟩⟩)
      case rest =>
        obtain ⟨P4, b4, A4, n4, c4, A4', n4', c4', rfl, KP4, R4, hk⟩ := hcut
        generalize wc = w11 at *
        replace HT := Lib.hid (HT.out.below hk.out.1)
        replace HB := Lib.hid (HB.out.trans (hk.out.1.mono HB.out.size))
        clear KEEP NEXT ALL ALC STO hdrew hdrewA ALD C1 C2 C3 hk R5 R6 KP5 KP6 r1 r2 r3
        go_upto_region 21 with fail
        have KEEP : Hid (∀ W, Below w11.heap.size w11 W → (W.cell? ⟨P4, 0, none⟩ = some (.bool b4) ∧ W.cell? ⟨P4, 1, none⟩ = some (.slice A4 n4 c4) ∧ W.cell? ⟨P4, 2, none⟩ = some (.slice A4' n4' c4'))) := Lib.hid fun W h1 => ⟨(KP4.out.after h1).cell rfl, (KP4.out.after h1).cell rfl, (KP4.out.after h1).cell rfl⟩
        have hdrew : Below w11.heap.size w11 w11.drew := (Below.refl _ _).drew
        go_region_held3 (fun W => W.cell? ⟨P4, 0, none⟩ = some (.bool b4) ∧ W.cell? ⟨P4, 1, none⟩ = some (.slice A4 n4 c4) ∧ W.cell? ⟨P4, 2, none⟩ = some (.slice A4' n4' c4'))
          (first | with_reducible exact KEEP.out wP2 hkwP2 | with_reducible exact KEEP.out wP1 hkwP1 | with_reducible exact KEEP.out w11.drew hdrew | go_keep)
          (first
            | (go_at_call 45; (with_reducible refine (ofN1 0 (by omega) (by omega) _).mono ?_); rintro _ wP1 ⟨xwP1, rfl, hxwP1, hbwP1⟩; have hkwP1 := hdrew.trans (hbwP1.mono hdrew.size); have O1 := Lib.hid (hxwP1); clear hxwP1)
            | (go_at_call 17; (with_reducible refine (sameRatQ (R4.out.below hkwP1) O1.out).mono ?_); rintro _ wP2 ⟨rfl, hbwP2⟩; have hkwP2 := hkwP1.trans (hbwP2.mono hkwP1.size); clear O1))
        replace HT := Lib.hid (HT.out.below hkwP2)
        replace HB := Lib.hid (HB.out.trans (hkwP2.mono HB.out.size))
        clear KEEP hdrew hbwP1 hkwP1 hbwP2 hkwP2
        go_upto_region 22 with fail
        have hdrew : Below wP2.heap.size wP2 wP2.drew := (Below.refl _ _).drew
        replace HT := Lib.hid (HT.out.below hdrew)
        replace HB := Lib.hid (HB.out.trans (hdrew.mono HB.out.size))
        clear hdrew KP4 R4
        refine wp_region_still_tail 23 (by kernel_rfl) (by kernel_rfl) ?_
        simp only [List.take_succ_cons, List.take_zero, List.drop_succ_cons, List.drop_zero]
        refine still_in ?_
        refine st_take (.int .i64 0) (by first | rfl | kernel_rfl) (by go_simp) ?_
        simp only [Act.put, List.setIfInBounds_toArray, List.set_cons_zero, List.set_cons_succ]
        refine st_take (.bool true) (by first | rfl | kernel_rfl) (by go_simp) ?_
        simp only [Act.put, List.setIfInBounds_toArray, List.set_cons_zero, List.set_cons_succ]
        refine st_take (.bool true) (by first | rfl | kernel_rfl) (by go_simp) ?_
        simp only [Act.put, List.setIfInBounds_toArray, List.set_cons_zero, List.set_cons_succ]
        refine st_take (.int .i64 0) (by first | rfl | kernel_rfl) (by go_simp) ?_
        simp only [Act.put, List.setIfInBounds_toArray, List.set_cons_zero, List.set_cons_succ]
        refine st_take (.bool true) (by first | rfl | kernel_rfl) (by go_simp) ?_
        simp only [Act.put, List.setIfInBounds_toArray, List.set_cons_zero, List.set_cons_succ]
        refine st_take (.bool true) (by first | rfl | kernel_rfl) (by go_simp) ?_
        simp only [Act.put, List.setIfInBounds_toArray, List.set_cons_zero, List.set_cons_succ]
        refine st_take (.bool true) (by first | rfl | kernel_rfl) (by go_simp) ?_
        simp only [Act.put, List.setIfInBounds_toArray, List.set_cons_zero, List.set_cons_succ]
        refine st_take (.bool true) (by first | rfl | kernel_rfl) (by go_simp) ?_
        simp only [Act.put, List.setIfInBounds_toArray, List.set_cons_zero, List.set_cons_succ]
        refine st_take (.bool true) (by first | rfl | kernel_rfl) (by go_simp) ?_
        simp only [Act.put, List.setIfInBounds_toArray, List.set_cons_zero, List.set_cons_succ]
        refine st_skip (by first | rfl | kernel_rfl) ?_
        simp only [Act.put, List.setIfInBounds_toArray, List.set_cons_zero, List.set_cons_succ]
        refine st_skip (by first | rfl | kernel_rfl) ?_
        simp only [Act.put, List.setIfInBounds_toArray, List.set_cons_zero, List.set_cons_succ]
        refine st_skip (by first | rfl | kernel_rfl) ?_
        simp only [Act.put, List.setIfInBounds_toArray, List.set_cons_zero, List.set_cons_succ]
        refine st_skip (by first | rfl | kernel_rfl) ?_
        simp only [Act.put, List.setIfInBounds_toArray, List.set_cons_zero, List.set_cons_succ]
        refine st_skip (by first | rfl | kernel_rfl) ?_
        simp only [Act.put, List.setIfInBounds_toArray, List.set_cons_zero, List.set_cons_succ]
        refine st_skip (by first | rfl | kernel_rfl) ?_
        simp only [Act.put, List.setIfInBounds_toArray, List.set_cons_zero, List.set_cons_succ]
        refine st_skip (by first | rfl | kernel_rfl) ?_
        simp only [Act.put, List.setIfInBounds_toArray, List.set_cons_zero, List.set_cons_succ]
        refine st_skip (by first | rfl | kernel_rfl) ?_
        simp only [Act.put, List.setIfInBounds_toArray, List.set_cons_zero, List.set_cons_succ]
        refine st_skip (by first | rfl | kernel_rfl) ?_
        simp only [Act.put, List.setIfInBounds_toArray, List.set_cons_zero, List.set_cons_succ]
        refine st_skip (by first | rfl | kernel_rfl) ?_
        simp only [Act.put, List.setIfInBounds_toArray, List.set_cons_zero, List.set_cons_succ]
        refine st_skip (by first | rfl | kernel_rfl) ?_
        simp only [Act.put, List.setIfInBounds_toArray, List.set_cons_zero, List.set_cons_succ]
        refine st_take (.bool true) (by first | rfl | kernel_rfl) (by go_simp) ?_
        simp only [Act.put, List.setIfInBounds_toArray, List.set_cons_zero, List.set_cons_succ]
        refine st_take (.bool true) (by first | rfl | kernel_rfl) (by go_simp) ?_
        simp only [Act.put, List.setIfInBounds_toArray, List.set_cons_zero, List.set_cons_succ]
        refine st_take (.bool true) (by first | rfl | kernel_rfl) (by go_simp) ?_
        simp only [Act.put, List.setIfInBounds_toArray, List.set_cons_zero, List.set_cons_succ]
        refine st_nil ?_
        change wpList _ _ _ _ _ wP2.drew
        generalize wP2.drew = w12 at *
        go_wp2_with fail
        refine (awakeN HT.out).mono ?_
        rintro _ w13 ⟨rfl, hb⟩
        replace HB := Lib.hid (HB.out.trans (hb.mono HB.out.size))
        clear hb
        go_wp2_with fail
        go_ret
        exact ⟨rfl, HB.out⟩
  · as_aux_lemma =>
      have d10 := KP1.out.cell (i := 0) rfl
      have d11 := KP1.out.cell (i := 1) rfl
      have d12 := KP1.out.cell (i := 2) rfl
      have d50 := KP5.out.cell (i := 0) rfl
      have d51 := KP5.out.cell (i := 1) rfl
      have d52 := KP5.out.cell (i := 2) rfl
      go_wp2_with fail
      refine (ratCmpE (-1) r1 R5.out Ra.out HT.out SF.out SA.out (by omega) (by omega)).mono ?_
      rintro _ w9 ⟨rfl, hb⟩
      replace Ra := Lib.hid (Ra.out.below hb)
      replace HT := Lib.hid (HT.out.below hb)
      replace R5 := Lib.hid (R5.out.below hb)
      replace R6 := Lib.hid (R6.out.below hb)
      replace KP1 := Lib.hid (KP1.out.after hb)
      replace KP5 := Lib.hid (KP5.out.after hb)
      replace KP6 := Lib.hid (KP6.out.after hb)
      replace HB := Lib.hid (HB.out.trans (hb.mono HB.out.size))
      clear hb d10 d11 d12 d50 d51 d52
      have d10 := KP1.out.cell (i := 0) rfl
      have d11 := KP1.out.cell (i := 1) rfl
      have d12 := KP1.out.cell (i := 2) rfl
      have d60 := KP6.out.cell (i := 0) rfl
      have d61 := KP6.out.cell (i := 1) rfl
      have d62 := KP6.out.cell (i := 2) rfl
      go_wp2_with fail
      refine (ratCmpE (-1) r2 Ra.out R6.out HT.out SA.out SG.out (by omega) (by omega)).mono ?_
      rintro _ w10 ⟨rfl, hb⟩
      replace Ra := Lib.hid (Ra.out.below hb)
      replace HT := Lib.hid (HT.out.below hb)
      replace R5 := Lib.hid (R5.out.below hb)
      replace R6 := Lib.hid (R6.out.below hb)
      replace KP1 := Lib.hid (KP1.out.after hb)
      replace KP5 := Lib.hid (KP5.out.after hb)
      replace KP6 := Lib.hid (KP6.out.after hb)
      replace HB := Lib.hid (HB.out.trans (hb.mono HB.out.size))
      clear hb d10 d11 d12 d60 d61 d62 Ra KP1
      go_upto_region 20 with fail
      have C1 : Hid (∀ W, Below w10.heap.size w10 W → _) := Lib.hid fun W (h1 : Below w10.heap.size w10 W) => ofN1 (-1) (by omega) (by omega) W
      have C2 : Hid (∀ W0 W x, Below w10.heap.size w10 W0 → Below W0.heap.size W0 W → Rq W0 (mkRat (-1) 1) x → _) := Lib.hid fun W0 W x (h0 : Below w10.heap.size w10 W0) (h1 : Below W0.heap.size W0 W) (hx : Rq W0 (mkRat (-1) 1) x) => lawproductQ (hx.below h1) (R5.out.below (h0.trans (h1.mono h0.size))) (HT.out.below (h0.trans (h1.mono h0.size))) (sz_mk (z := -1) (D := 1) (by decide) (by decide) (by decide)) SF.out (by omega)
      have C3 : Hid (∀ W0 W x, Below w10.heap.size w10 W0 → Below W0.heap.size W0 W → Rq W0 (mkRat (-1) 1 * (a.floor : Rat)) x → _) := Lib.hid fun W0 W x (h0 : Below w10.heap.size w10 W0) (h1 : Below W0.heap.size W0 W) (hx : Rq W0 (mkRat (-1) 1 * (a.floor : Rat)) x) => lawsumQ (R6.out.below (h0.trans (h1.mono h0.size))) (hx.below h1) (HT.out.below (h0.trans (h1.mono h0.size))) SG.out ((sz_mk (z := -1) (D := 1) (by decide) (by decide) (by decide)).mul SF.out) (by omega)
      have KEEP : Hid (∀ W, Below w10.heap.size w10 W → (W.cell? ⟨P5, 0, none⟩ = some (.bool b5) ∧ W.cell? ⟨P5, 1, none⟩ = some (.slice A5 n5 c5) ∧ W.cell? ⟨P5, 2, none⟩ = some (.slice A5' n5' c5') ∧ W.cell? ⟨P6, 0, none⟩ = some (.bool b6) ∧ W.cell? ⟨P6, 1, none⟩ = some (.slice A6 n6 c6) ∧ W.cell? ⟨P6, 2, none⟩ = some (.slice A6' n6' c6') ∧ Below w10.heap.size w10 W)) := Lib.hid fun W h1 => ⟨(KP5.out.after h1).cell rfl, (KP5.out.after h1).cell rfl, (KP5.out.after h1).cell rfl, (KP6.out.after h1).cell rfl, (KP6.out.after h1).cell rfl, (KP6.out.after h1).cell rfl, h1⟩
      have NEXT : Hid (∀ W W', (W.cell? ⟨P5, 0, none⟩ = some (.bool b5) ∧ W.cell? ⟨P5, 1, none⟩ = some (.slice A5 n5 c5) ∧ W.cell? ⟨P5, 2, none⟩ = some (.slice A5' n5' c5') ∧ W.cell? ⟨P6, 0, none⟩ = some (.bool b6) ∧ W.cell? ⟨P6, 1, none⟩ = some (.slice A6 n6 c6) ∧ W.cell? ⟨P6, 2, none⟩ = some (.slice A6' n6' c6') ∧ Below w10.heap.size w10 W) → Below W.heap.size W W' → (W'.cell? ⟨P5, 0, none⟩ = some (.bool b5) ∧ W'.cell? ⟨P5, 1, none⟩ = some (.slice A5 n5 c5) ∧ W'.cell? ⟨P5, 2, none⟩ = some (.slice A5' n5' c5') ∧ W'.cell? ⟨P6, 0, none⟩ = some (.bool b6) ∧ W'.cell? ⟨P6, 1, none⟩ = some (.slice A6 n6 c6) ∧ W'.cell? ⟨P6, 2, none⟩ = some (.slice A6' n6' c6') ∧ Below w10.heap.size w10 W')) := Lib.hid fun W W' h hb => KEEP.out W' (h.2.2.2.2.2.2.trans (hb.mono h.2.2.2.2.2.2.size))
      have ALL : Hid (∀ W o, (W.cell? ⟨P5, 0, none⟩ = some (.bool b5) ∧ W.cell? ⟨P5, 1, none⟩ = some (.slice A5 n5 c5) ∧ W.cell? ⟨P5, 2, none⟩ = some (.slice A5' n5' c5') ∧ W.cell? ⟨P6, 0, none⟩ = some (.bool b6) ∧ W.cell? ⟨P6, 1, none⟩ = some (.slice A6 n6 c6) ∧ W.cell? ⟨P6, 2, none⟩ = some (.slice A6' n6' c6') ∧ Below w10.heap.size w10 W) → ((W.alloc o).cell? ⟨P5, 0, none⟩ = some (.bool b5) ∧ (W.alloc o).cell? ⟨P5, 1, none⟩ = some (.slice A5 n5 c5) ∧ (W.alloc o).cell? ⟨P5, 2, none⟩ = some (.slice A5' n5' c5') ∧ (W.alloc o).cell? ⟨P6, 0, none⟩ = some (.bool b6) ∧ (W.alloc o).cell? ⟨P6, 1, none⟩ = some (.slice A6 n6 c6) ∧ (W.alloc o).cell? ⟨P6, 2, none⟩ = some (.slice A6' n6' c6') ∧ Below w10.heap.size w10 (W.alloc o))) := Lib.hid fun W o h => NEXT.out W _ h (below1 W o)
      have ALC : Hid (∀ W w', (W.cell? ⟨P5, 0, none⟩ = some (.bool b5) ∧ W.cell? ⟨P5, 1, none⟩ = some (.slice A5 n5 c5) ∧ W.cell? ⟨P5, 2, none⟩ = some (.slice A5' n5' c5') ∧ W.cell? ⟨P6, 0, none⟩ = some (.bool b6) ∧ W.cell? ⟨P6, 1, none⟩ = some (.slice A6 n6 c6) ∧ W.cell? ⟨P6, 2, none⟩ = some (.slice A6' n6' c6') ∧ Below w10.heap.size w10 W) → Below (W.alloc (.cells #[.bool false, .slice none 0 0, .slice none 0 0] 25)).heap.size (W.alloc (.cells #[.bool false, .slice none 0 0, .slice none 0 0] 25)) w' → Blk w' W.heap.size 25 #[.bool false, .slice none 0 0, .slice none 0 0] ∧ w10.heap.size ≤ W.heap.size) := Lib.hid fun W w' h hb => ⟨(Blk.new W _ _).after hb, h.2.2.2.2.2.2.size⟩
      have STO : Hid (∀ W p x y z, (W.cell? ⟨P5, 0, none⟩ = some (.bool b5) ∧ W.cell? ⟨P5, 1, none⟩ = some (.slice A5 n5 c5) ∧ W.cell? ⟨P5, 2, none⟩ = some (.slice A5' n5' c5') ∧ W.cell? ⟨P6, 0, none⟩ = some (.bool b6) ∧ W.cell? ⟨P6, 1, none⟩ = some (.slice A6 n6 c6) ∧ W.cell? ⟨P6, 2, none⟩ = some (.slice A6' n6' c6') ∧ Below w10.heap.size w10 W) → w10.heap.size ≤ p → ((((W.setCell ⟨p, 0, none⟩ x).setCell ⟨p, 1, none⟩ y).setCell ⟨p, 2, none⟩ z).cell? ⟨P5, 0, none⟩ = some (.bool b5) ∧ (((W.setCell ⟨p, 0, none⟩ x).setCell ⟨p, 1, none⟩ y).setCell ⟨p, 2, none⟩ z).cell? ⟨P5, 1, none⟩ = some (.slice A5 n5 c5) ∧ (((W.setCell ⟨p, 0, none⟩ x).setCell ⟨p, 1, none⟩ y).setCell ⟨p, 2, none⟩ z).cell? ⟨P5, 2, none⟩ = some (.slice A5' n5' c5') ∧ (((W.setCell ⟨p, 0, none⟩ x).setCell ⟨p, 1, none⟩ y).setCell ⟨p, 2, none⟩ z).cell? ⟨P6, 0, none⟩ = some (.bool b6) ∧ (((W.setCell ⟨p, 0, none⟩ x).setCell ⟨p, 1, none⟩ y).setCell ⟨p, 2, none⟩ z).cell? ⟨P6, 1, none⟩ = some (.slice A6 n6 c6) ∧ (((W.setCell ⟨p, 0, none⟩ x).setCell ⟨p, 1, none⟩ y).setCell ⟨p, 2, none⟩ z).cell? ⟨P6, 2, none⟩ = some (.slice A6' n6' c6') ∧ Below w10.heap.size w10 (((W.setCell ⟨p, 0, none⟩ x).setCell ⟨p, 1, none⟩ y).setCell ⟨p, 2, none⟩ z))) := Lib.hid fun W p x y z h hg => KEEP.out _ (((h.2.2.2.2.2.2.setCell hg _).setCell hg _).setCell hg _)
      have hdrew := KEEP.out w10.drew (Below.refl _ _).drew
      have hdrewA := KEEP.out ((w10.alloc (.cells #[.bool false, .slice none 0 0, .slice none 0 0] 25)).drew) (below1 w10 _).drew
      have ALD : Hid (∀ w', Below ((w10.alloc (.cells #[.bool false, .slice none 0 0, .slice none 0 0] 25)).drew).heap.size ((w10.alloc (.cells #[.bool false, .slice none 0 0, .slice none 0 0] 25)).drew) w' → Blk w' w10.heap.size 25 #[.bool false, .slice none 0 0, .slice none 0 0] ∧ w10.heap.size ≤ w10.heap.size) := Lib.hid fun w' hb => ⟨Blk.after (show Blk ((w10.alloc (.cells #[.bool false, .slice none 0 0, .slice none 0 0] 25)).drew) w10.heap.size 25 #[.bool false, .slice none 0 0, .slice none 0 0] from Blk.new w10 _ _) hb, Nat.le_refl _⟩
      go_cut [27] (fun p wx => ∃ g s4 B4 m4 d4 B4' m4' d4', p = .pointer (some ⟨g, 0, none⟩) ∧ Hid (Blk wx g 25 #[.bool s4, .slice B4 m4 d4, .slice B4' m4' d4']) ∧ Hid (Rq wx (mkRat 1 1) (.agg #[.bool s4, .slice B4 m4 d4, .slice B4' m4' d4'])) ∧ Hid (Below w10.heap.size w10 wx ∧ w10.heap.size ≤ g))
      case first =>
        go_region_held3 (fun W => W.cell? ⟨P5, 0, none⟩ = some (.bool b5) ∧ W.cell? ⟨P5, 1, none⟩ = some (.slice A5 n5 c5) ∧ W.cell? ⟨P5, 2, none⟩ = some (.slice A5' n5' c5') ∧ W.cell? ⟨P6, 0, none⟩ = some (.bool b6) ∧ W.cell? ⟨P6, 1, none⟩ = some (.slice A6 n6 c6) ∧ W.cell? ⟨P6, 2, none⟩ = some (.slice A6' n6' c6') ∧ Below w10.heap.size w10 W)
          (first | with_reducible assumption | with_reducible exact ALL.out _ _ (by with_reducible assumption) | with_reducible exact STO.out _ _ _ _ _ (by with_reducible assumption) hge)
          (first
            | (go_at_call 45; (with_reducible refine (C1.out ((w10.alloc (.cells #[.bool false, .slice none 0 0, .slice none 0 0] 25)).drew) ((show _ ∧ _ ∧ _ ∧ _ ∧ _ ∧ _ ∧ _ from by with_reducible assumption).2.2.2.2.2.2)).mono ?_); rintro _ y1 ⟨x1, rfl, hx1, hby1⟩; have HX1 := Lib.hid hx1; clear hx1; have hS := NEXT.out _ _ (by with_reducible assumption) hby1; obtain ⟨hA, hge⟩ := ALD.out _ hby1; have e0_ := hA.cell (i := 0) rfl; have e1_ := hA.cell (i := 1) rfl; have e2_ := hA.cell (i := 2) rfl; have hfA := hA.free; have hlA := hA.lt)
            | (go_at_call 45; (with_reducible refine (C1.out (World.alloc _ (.cells #[.bool false, .slice none 0 0, .slice none 0 0] 25)) ((show _ ∧ _ ∧ _ ∧ _ ∧ _ ∧ _ ∧ _ from by with_reducible assumption).2.2.2.2.2.2)).mono ?_); rintro _ y1 ⟨x1, rfl, hx1, hby1⟩; have HX1 := Lib.hid hx1; clear hx1; have hS := NEXT.out _ _ (by with_reducible assumption) hby1; obtain ⟨hA, hge⟩ := ALC.out _ _ (by with_reducible assumption) hby1; have e0_ := hA.cell (i := 0) rfl; have e1_ := hA.cell (i := 1) rfl; have e2_ := hA.cell (i := 2) rfl; have hfA := hA.free; have hlA := hA.lt)
            | (go_at_call 45; (with_reducible refine (C1.out _ ((show _ ∧ _ ∧ _ ∧ _ ∧ _ ∧ _ ∧ _ from by with_reducible assumption).2.2.2.2.2.2)).mono ?_); rintro _ y1 ⟨x1, rfl, hx1, hby1⟩; have HX1 := Lib.hid hx1; clear hx1; have hS := NEXT.out _ _ (by with_reducible assumption) hby1; replace hA := hA.after hby1; have e0_ := hA.cell (i := 0) rfl; have e1_ := hA.cell (i := 1) rfl; have e2_ := hA.cell (i := 2) rfl; have hfA := hA.free; have hlA := hA.lt)
            | (go_at_call 45; (with_reducible refine (C1.out _ ((show _ ∧ _ ∧ _ ∧ _ ∧ _ ∧ _ ∧ _ from by with_reducible assumption).2.2.2.2.2.2)).mono ?_); rintro _ y1 ⟨x1, rfl, hx1, hby1⟩; have HX1 := Lib.hid hx1; clear hx1; have hS := NEXT.out _ _ (by with_reducible assumption) hby1)
            | (go_at_call 51; (with_reducible refine (C2.out y1 (World.alloc _ (.cells #[.bool false, .slice none 0 0, .slice none 0 0] 25)) x1 hS.2.2.2.2.2.2 (by first | with_reducible exact Below.refl _ _ | with_reducible exact below1 _ _) HX1.out).mono ?_); rintro _ y2 ⟨x2, rfl, hx2, hby2⟩; have HX2 := Lib.hid hx2; clear hx2; have hS := NEXT.out _ _ (by with_reducible assumption) hby2; obtain ⟨hA, hge⟩ := ALC.out _ _ (by with_reducible assumption) hby2; have e0_ := hA.cell (i := 0) rfl; have e1_ := hA.cell (i := 1) rfl; have e2_ := hA.cell (i := 2) rfl; have hfA := hA.free; have hlA := hA.lt)
            | (go_at_call 51; (with_reducible refine (C2.out y1 _ x1 hS.2.2.2.2.2.2 (by first | with_reducible exact Below.refl _ _ | with_reducible exact below1 _ _) HX1.out).mono ?_); rintro _ y2 ⟨x2, rfl, hx2, hby2⟩; have HX2 := Lib.hid hx2; clear hx2; have hS := NEXT.out _ _ (by with_reducible assumption) hby2; replace hA := hA.after hby2; have e0_ := hA.cell (i := 0) rfl; have e1_ := hA.cell (i := 1) rfl; have e2_ := hA.cell (i := 2) rfl; have hfA := hA.free; have hlA := hA.lt)
            | (go_at_call 51; (with_reducible refine (C2.out y1 _ x1 hS.2.2.2.2.2.2 (by first | with_reducible exact Below.refl _ _ | with_reducible exact below1 _ _) HX1.out).mono ?_); rintro _ y2 ⟨x2, rfl, hx2, hby2⟩; have HX2 := Lib.hid hx2; clear hx2; have hS := NEXT.out _ _ (by with_reducible assumption) hby2)
            | (go_at_call 50; (with_reducible refine (C3.out y2 (World.alloc _ (.cells #[.bool false, .slice none 0 0, .slice none 0 0] 25)) x2 hS.2.2.2.2.2.2 (by first | with_reducible exact Below.refl _ _ | with_reducible exact below1 _ _) HX2.out).mono ?_); rintro _ y3 ⟨x3, rfl, hx3, hby3⟩; obtain ⟨b4, B4, m4, e4, B4', m4', e4', rfl, _, _, _⟩ := hx3.get; have HX3 := Lib.hid (hx3.cast r3); clear hx3; have hS := NEXT.out _ _ (by with_reducible assumption) hby3; obtain ⟨hA, hge⟩ := ALC.out _ _ (by with_reducible assumption) hby3; have e0_ := hA.cell (i := 0) rfl; have e1_ := hA.cell (i := 1) rfl; have e2_ := hA.cell (i := 2) rfl; have hfA := hA.free; have hlA := hA.lt)
            | (go_at_call 50; (with_reducible refine (C3.out y2 _ x2 hS.2.2.2.2.2.2 (by first | with_reducible exact Below.refl _ _ | with_reducible exact below1 _ _) HX2.out).mono ?_); rintro _ y3 ⟨x3, rfl, hx3, hby3⟩; obtain ⟨b4, B4, m4, e4, B4', m4', e4', rfl, _, _, _⟩ := hx3.get; have HX3 := Lib.hid (hx3.cast r3); clear hx3; have hS := NEXT.out _ _ (by with_reducible assumption) hby3; replace hA := hA.after hby3; have e0_ := hA.cell (i := 0) rfl; have e1_ := hA.cell (i := 1) rfl; have e2_ := hA.cell (i := 2) rfl; have hfA := hA.free; have hlA := hA.lt)
            | (go_at_call 50; (with_reducible refine (C3.out y2 _ x2 hS.2.2.2.2.2.2 (by first | with_reducible exact Below.refl _ _ | with_reducible exact below1 _ _) HX2.out).mono ?_); rintro _ y3 ⟨x3, rfl, hx3, hby3⟩; obtain ⟨b4, B4, m4, e4, B4', m4', e4', rfl, _, _, _⟩ := hx3.get; have HX3 := Lib.hid (hx3.cast r3); clear hx3; have hS := NEXT.out _ _ (by with_reducible assumption) hby3))
        all_goals
          go_wp2_with fail
          go_meet
          first
            | (have k := hA.row3 (.bool b4) (.slice B4 m4 e4) (.slice B4' m4' e4'); have h := STO.out _ _ (.bool b4) (.slice B4 m4 e4) (.slice B4' m4' e4') hS hge; obtain ⟨g1, g2, g3⟩ := HX3.out.inv; have hq := Rq.mk g3 rfl rfl (g1.put3 (i := 0) (j := 1) (l := 2) (u := .bool b4) (x := .slice B4 m4 e4) (y := .slice B4' m4' e4') hA (hnoR _ _ _ _ _ _ _)) (g2.put3 (i := 0) (j := 1) (l := 2) (u := .bool b4) (x := .slice B4 m4 e4) (y := .slice B4' m4' e4') hA (hnoR _ _ _ _ _ _ _)); with_reducible exact ⟨_, _, _, _, _, _, _, _, rfl, Lib.hid k, Lib.hid hq, Lib.hid ⟨h.2.2.2.2.2.2, hge⟩⟩)
            | (have k := Blk.new y3 #[.bool b4, .slice B4 m4 e4, .slice B4' m4' e4'] 25; have h := ALL.out _ (.cells #[.bool b4, .slice B4 m4 e4, .slice B4' m4' e4'] 25) hS; have hq := HX3.out.below (below1 y3 (.cells #[.bool b4, .slice B4 m4 e4, .slice B4' m4' e4'] 25)); with_reducible exact ⟨_, _, _, _, _, _, _, _, rfl, Lib.hid k, Lib.hid hq, Lib.hid ⟨h.2.2.2.2.2.2, hS.2.2.2.2.2.2.size⟩⟩)
      case rest =>
        obtain ⟨P4, b4, A4, n4, c4, A4', n4', c4', rfl, KP4, R4, hk⟩ := hcut
        generalize wc = w11 at *
        replace HT := Lib.hid (HT.out.below hk.out.1)
        replace HB := Lib.hid (HB.out.trans (hk.out.1.mono HB.out.size))
        clear KEEP NEXT ALL ALC STO hdrew hdrewA ALD C1 C2 C3 hk R5 R6 KP5 KP6 r1 r2 r3
        go_upto_region 21 with fail
        go_quiet (fail)
        have hdw : Below w11.heap.size w11 (w11.drewN nq) := Below.drewN _ _
        replace HT := Lib.hid (HT.out.below hdw)
        replace R4 := Lib.hid (R4.out.below hdw)
        replace KP4 := Lib.hid (KP4.out.after hdw)
        replace HB := Lib.hid (HB.out.trans (hdw.mono HB.out.size))
        clear hdw
        generalize w11.drewN nq = w12 at *
        go_upto_region 22 with fail
        have KEEP : Hid (∀ W, Below w12.heap.size w12 W → (W.cell? ⟨P4, 0, none⟩ = some (.bool b4) ∧ W.cell? ⟨P4, 1, none⟩ = some (.slice A4 n4 c4) ∧ W.cell? ⟨P4, 2, none⟩ = some (.slice A4' n4' c4'))) := Lib.hid fun W h1 => ⟨(KP4.out.after h1).cell rfl, (KP4.out.after h1).cell rfl, (KP4.out.after h1).cell rfl⟩
        have hdrew : Below w12.heap.size w12 w12.drew := (Below.refl _ _).drew
        go_region_held3 (fun W => W.cell? ⟨P4, 0, none⟩ = some (.bool b4) ∧ W.cell? ⟨P4, 1, none⟩ = some (.slice A4 n4 c4) ∧ W.cell? ⟨P4, 2, none⟩ = some (.slice A4' n4' c4'))
          (first | with_reducible exact KEEP.out wQ3 hkwQ3 | with_reducible exact KEEP.out wQ2 hkwQ2 | with_reducible exact KEEP.out wQ1 hkwQ1 | with_reducible exact KEEP.out w12.drew hdrew | go_keep)
          (first
            | (go_at_call 45; (with_reducible refine (ofN1 1 (by omega) (by omega) _).mono ?_); rintro _ wQ1 ⟨xwQ1, rfl, hxwQ1, hbwQ1⟩; have hkwQ1 := hdrew.trans (hbwQ1.mono hdrew.size); have O1 := Lib.hid (hxwQ1); clear hxwQ1)
            | (go_at_call 17; (with_reducible refine (sameRatQ (R4.out.below hkwQ1) O1.out).mono ?_); rintro _ wQ2 ⟨rfl, hbwQ2⟩; have hkwQ2 := hkwQ1.trans (hbwQ2.mono hkwQ1.size); clear O1)
            | (go_at_call 13; (with_reducible refine (awakeN (HT.out.below hkwQ2)).mono ?_); rintro _ wQ3 ⟨rfl, hbwQ3⟩; have hkwQ3 := hkwQ2.trans (hbwQ3.mono hkwQ2.size)))
        replace HB := Lib.hid (HB.out.trans (hkwQ3.mono HB.out.size))
        clear KEEP hdrew hbwQ1 hkwQ1 hbwQ2 hkwQ2 hbwQ3 hkwQ3
        go_wp2_with fail
        go_ret
        exact ⟨rfl, HB.out⟩
end Go.Proofs.YtmgmocepidenlaaGreatDoor

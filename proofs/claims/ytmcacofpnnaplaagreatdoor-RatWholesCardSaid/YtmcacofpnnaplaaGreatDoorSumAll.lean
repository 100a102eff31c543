/- The contracts of the functions under the laws of package rat: SumB, SumWalk, joined into one file. -/
import Derived.Test.YtmcacofpnnaplaaGreatDoorRefTwo
import Derived.Test.YtmcacofpnnaplaaGreatDoorRatFour
import Derived.Deep.RegionHeld3
import Derived.Deep.DrawnRows
import Derived.Deep.DeepCutAuto
/- What the program and the reference make of any two numbers, valid or not. Conditions as premises: the numbers read, and are short or too long to be valid. -/
namespace Go.Proofs.YtmcacofpnnaplaaGreatDoor
open Go.RowKit Go.Shelf
attribute [local go_sem ↓] Go.wp_at_zero Go.wp_at_succ


/-- the number that three parts say -/
def rawq (b : Bool) (n : Nat) (f : Nat → Nat) (m : Nat) (g : Nat → Nat) : Rat := mkRat (sn b (nv f n)) (nv g m)
theorem Raw.q30 {w : World} {neg : Bool} {A A' : Option Addr} {n c m c' : Nat} {f g : Nat → Nat} (h : Raw w neg A n c f A' m c' g) (e : chkR neg n f m g = 0) (hl : ¬ Lg n m) :
    Rq w (rawq neg n f m g) (.agg #[.bool neg, .slice A n c, .slice A' m c']) ∧ Sz 30 (rawq neg n f m g) := by
  obtain ⟨q, hq, e1, e2, hn, hm, d1, d2⟩ := h.rq e
  obtain ⟨_, _, e3⟩ := hq.inv
  have e4 : rawq neg n f m g = q := by
    unfold rawq; rw [← e1, ← e2, e3, sn_num]; exact Rat.mkRat_self q
  unfold Lg at hl
  rw [e4]
  refine ⟨hq, ?_, ?_⟩
  · rw [e1]; exact Nat.lt_of_lt_of_le d1.ok.lt (pow_le_of (by omega))
  · rw [e2]; exact Nat.lt_of_lt_of_le d2.ok.lt (pow_le_of (by omega))

/-- an answer: the number, or what comes with an error -/
def RqO (w : World) (er : Int) (q : Rat) (v : Value) : Prop := (er = 0 → Rq w q v) ∧ (er ≠ 0 → v = zeroRat)
theorem RqO.below {w w' : World} {er : Int} {q : Rat} {v : Value} (h : RqO w er q v) (hb : Below w.heap.size w w') : RqO w' er q v := ⟨fun e => (h.1 e).below hb, h.2⟩
theorem RqO.get {w : World} {er : Int} {q : Rat} {v : Value} (h : RqO w er q v) : ∃ b A n c A' n' c', v = .agg #[.bool b, .slice A n c, .slice A' n' c'] := by
  by_cases e : er = 0
  · obtain ⟨b, A, n, c, A', n', c', e2, _⟩ := (h.1 e).get
    exact ⟨b, A, n, c, A', n', c', e2⟩
  · exact ⟨_, _, _, _, _, _, _, h.2 e⟩
theorem RqO.put3 {w : World} {er : Int} {q : Rat} {b : Bool} {A A' : Option Addr} {n c n' c' g i j l : Nat} {t : TypeId} {cs : Array Value} {u x y : Value} (h : RqO w er q (.agg #[.bool b, .slice A n c, .slice A' n' c'])) (k : Blk w g t cs) (hno : cs.all notU32 = true) :
    RqO (((w.setCell ⟨g, i, none⟩ u).setCell ⟨g, j, none⟩ x).setCell ⟨g, l, none⟩ y) er q (.agg #[.bool b, .slice A n c, .slice A' n' c']) :=
  ⟨fun e => by
    obtain ⟨g1, g2, g3⟩ := (h.1 e).inv
    exact Rq.mk g3 rfl rfl (g1.put3 k hno) (g2.put3 k hno), h.2⟩

set_option maxRecDepth 100000 in
set_option maxHeartbeats 8000000 in
theorem sameRaw {w : World} {b : Bool} {A1 A2 A3 A4 : Option Addr} {n m c1 c2 c3 c4 : Nat} {f g f' g' : Nat → Nat} (h : Raw w b A1 n c1 f A2 m c2 g) (k : Raw w b A3 n c3 f' A4 m c4 g') (hf : ∀ j, j < n → f j = f' j) (hg : ∀ j, j < m → g j = g' j) :
    Calls Tryz.prog 17 #[.agg #[.bool b, .slice A1 n c1, .slice A2 m c2], .agg #[.bool b, .slice A3 n c3, .slice A4 m c4]] w fun e w' => e = .returned (.bool true) ∧ Below w.heap.size w w' := by
  have hb0 := below2 w (.cells #[.bool b, .slice A1 n c1, .slice A2 m c2] 25) (.cells #[.bool b, .slice A3 n c3, .slice A4 m c4] 25)
  have x2 := (Blk.new w #[.bool b, .slice A1 n c1, .slice A2 m c2] 25).alloc (.cells #[.bool b, .slice A3 n c3, .slice A4 m c4] 25)
  have x3 := Blk.new (w.alloc (.cells #[.bool b, .slice A1 n c1, .slice A2 m c2] 25)) #[.bool b, .slice A3 n c3, .slice A4 m c4] 25
  simp only [World.size_alloc] at x2 x3
  have H := Lib.hid (h.below hb0)
  have K := Lib.hid (k.below hb0)
  have HF := Lib.hid hf
  have HG := Lib.hid hg
  have X2 := Lib.hid x2
  have X3 := Lib.hid x3
  have HB := Lib.hid hb0
  clear h k x2 x3 hb0 hf hg
  cases b
  all_goals
    go_enter Tryz.func17, Tryz.ntmps17
    go_wp2_with fail
    refine (alike_true A1 A3 n c1 c3 f f' _ _ _ H.out.num K.out.num HF.out).mono ?_
    rintro _ w1 ⟨rfl, hq⟩
    have hb := hq.below
    replace HB := Lib.hid (HB.out.trans (hb.mono HB.out.size))
    replace H := Lib.hid (H.out.below hb)
    replace K := Lib.hid (K.out.below hb)
    replace X2 := Lib.hid (X2.out.after hb)
    replace X3 := Lib.hid (X3.out.after hb)
    have y2 : w.heap.size < w1.heap.size := X2.out.lt
    have y3 : w.heap.size + 1 < w1.heap.size := X3.out.lt
    have d2 := X2.out.cell (i := 2) rfl
    have d3 := X3.out.cell (i := 2) rfl
    clear hq hb
    go_wp2_with fail
    refine (alike_true A2 A4 m c2 c4 g g' _ _ _ H.out.den K.out.den HG.out).mono ?_
    rintro _ w2 ⟨rfl, hq⟩
    replace HB := Lib.hid (HB.out.trans (hq.below.mono HB.out.size))
    clear hq
    go_wp2_with fail
    go_ret
    exact ⟨rfl, HB.out⟩

theorem sameRatO {w : World} {er : Int} {q : Rat} {v u : Value} (h : RqO w er q v) (k : RqO w er q u) :
    Calls Tryz.prog 17 #[v, u] w fun e w' => e = .returned (.bool true) ∧ Below w.heap.size w w' := by
  by_cases e : er = 0
  · exact sameRatQ (h.1 e) (k.1 e)
  · rw [h.2 e, k.2 e]
    exact sameRaw (f := fun _ => 0) (g := fun _ => 0) (f' := fun _ => 0) (g' := fun _ => 0) ⟨Rs.nil _ _ _, Rs.nil _ _ _⟩ ⟨Rs.nil _ _ _, Rs.nil _ _ _⟩ (fun _ _ => rfl) (fun _ _ => rfl)

theorem ratAddO {w : World} {b1 b2 : Bool} {A1 A2 A3 A4 : Option Addr} {n1 c1 n2 c2 n3 c3 n4 c4 : Nat} {f1 f2 f3 f4 : Nat → Nat} (h : Raw w b1 A1 n1 c1 f1 A2 n2 c2 f2) (k : Raw w b2 A3 n3 c3 f3 A4 n4 c4 f4) (hT : Tabs w) (l1 : ¬ Lg n1 n2) (l2 : ¬ Lg n3 n4) :
    Calls Tryz.prog 15 #[.agg #[.bool b1, .slice A1 n1 c1, .slice A2 n2 c2], .agg #[.bool b2, .slice A3 n3 c3, .slice A4 n4 c4]] w fun e w' => ∃ x, e = .returned (.tuple #[x, .int .i64 (chkRR b1 n1 f1 n2 f2 b2 n3 f3 n4 f4)]) ∧ RqO w' (chkRR b1 n1 f1 n2 f2 b2 n3 f3 n4 f4) (rawq b1 n1 f1 n2 f2 + rawq b2 n3 f3 n4 f4) x ∧ Below w.heap.size w w' := by
  by_cases he : chkRR b1 n1 f1 n2 f2 b2 n3 f3 n4 f4 = 0
  · obtain ⟨e1, e2⟩ := chkRR_zero he
    obtain ⟨ra, sa⟩ := h.q30 e1 l1
    obtain ⟨rb, sb⟩ := k.q30 e2 l2
    refine (ratAddQ ra rb hT sa sb (by omega)).mono ?_
    rintro e w' ⟨x, he', hx, hb⟩
    exact ⟨x, by rw [he]; exact he', ⟨fun _ => hx, fun c => absurd he c⟩, hb⟩
  · refine (ratAdd_bad h k he).mono ?_
    rintro e w' ⟨he', hb⟩
    exact ⟨zeroRat, he', ⟨fun c => absurd c he, fun _ => rfl⟩, hb⟩

theorem ratSubO {w : World} {b1 b2 : Bool} {A1 A2 A3 A4 : Option Addr} {n1 c1 n2 c2 n3 c3 n4 c4 : Nat} {f1 f2 f3 f4 : Nat → Nat} (h : Raw w b1 A1 n1 c1 f1 A2 n2 c2 f2) (k : Raw w b2 A3 n3 c3 f3 A4 n4 c4 f4) (hT : Tabs w) (l1 : ¬ Lg n1 n2) (l2 : ¬ Lg n3 n4) :
    Calls Tryz.prog 18 #[.agg #[.bool b1, .slice A1 n1 c1, .slice A2 n2 c2], .agg #[.bool b2, .slice A3 n3 c3, .slice A4 n4 c4]] w fun e w' => ∃ x, e = .returned (.tuple #[x, .int .i64 (chkRR b1 n1 f1 n2 f2 b2 n3 f3 n4 f4)]) ∧ RqO w' (chkRR b1 n1 f1 n2 f2 b2 n3 f3 n4 f4) (rawq b1 n1 f1 n2 f2 - rawq b2 n3 f3 n4 f4) x ∧ Below w.heap.size w w' := by
  by_cases he : chkRR b1 n1 f1 n2 f2 b2 n3 f3 n4 f4 = 0
  · obtain ⟨e1, e2⟩ := chkRR_zero he
    obtain ⟨ra, sa⟩ := h.q30 e1 l1
    obtain ⟨rb, sb⟩ := k.q30 e2 l2
    refine (ratSubQ ra rb hT sa sb (by omega)).mono ?_
    rintro e w' ⟨x, he', hx, hb⟩
    exact ⟨x, by rw [he]; exact he', ⟨fun _ => hx, fun c => absurd he c⟩, hb⟩
  · refine (ratSub_bad h k he).mono ?_
    rintro e w' ⟨he', hb⟩
    exact ⟨zeroRat, he', ⟨fun c => absurd c he, fun _ => rfl⟩, hb⟩

theorem ratMulO {w : World} {b1 b2 : Bool} {A1 A2 A3 A4 : Option Addr} {n1 c1 n2 c2 n3 c3 n4 c4 : Nat} {f1 f2 f3 f4 : Nat → Nat} (h : Raw w b1 A1 n1 c1 f1 A2 n2 c2 f2) (k : Raw w b2 A3 n3 c3 f3 A4 n4 c4 f4) (hT : Tabs w) (l1 : ¬ Lg n1 n2) (l2 : ¬ Lg n3 n4) :
    Calls Tryz.prog 20 #[.agg #[.bool b1, .slice A1 n1 c1, .slice A2 n2 c2], .agg #[.bool b2, .slice A3 n3 c3, .slice A4 n4 c4]] w fun e w' => ∃ x, e = .returned (.tuple #[x, .int .i64 (chkRR b1 n1 f1 n2 f2 b2 n3 f3 n4 f4)]) ∧ RqO w' (chkRR b1 n1 f1 n2 f2 b2 n3 f3 n4 f4) (rawq b1 n1 f1 n2 f2 * rawq b2 n3 f3 n4 f4) x ∧ Below w.heap.size w w' := by
  by_cases he : chkRR b1 n1 f1 n2 f2 b2 n3 f3 n4 f4 = 0
  · obtain ⟨e1, e2⟩ := chkRR_zero he
    obtain ⟨ra, sa⟩ := h.q30 e1 l1
    obtain ⟨rb, sb⟩ := k.q30 e2 l2
    refine (ratMulQ ra rb hT sa sb (by omega)).mono ?_
    rintro e w' ⟨x, he', hx, hb⟩
    exact ⟨x, by rw [he]; exact he', ⟨fun _ => hx, fun c => absurd he c⟩, hb⟩
  · refine (ratMul_bad h k he).mono ?_
    rintro e w' ⟨he', hb⟩
    exact ⟨zeroRat, he', ⟨fun c => absurd c he, fun _ => rfl⟩, hb⟩

/-- the error of a quotient -/
noncomputable def divER (b1 : Bool) (n1 : Nat) (f1 : Nat → Nat) (n2 : Nat) (f2 : Nat → Nat) (b2 : Bool) (n3 : Nat) (f3 : Nat → Nat) (n4 : Nat) (f4 : Nat → Nat) : Int := if chkRR b1 n1 f1 n2 f2 b2 n3 f3 n4 f4 = 0 then (if nv f3 n3 = 0 then 6 else 0) else chkRR b1 n1 f1 n2 f2 b2 n3 f3 n4 f4
theorem rawq_zero {w : World} {b : Bool} {A1 A2 : Option Addr} {n c1 m c2 : Nat} {f g : Nat → Nat} (h : Raw w b A1 n c1 f A2 m c2 g) (e : chkR b n f m g = 0) : rawq b n f m g = 0 ↔ nv f n = 0 := by
  obtain ⟨q, hq, e1, e2, _⟩ := h.rq e
  have hm : nv g m ≠ 0 := by rw [← e2]; exact q.den_nz
  unfold rawq
  rw [Rat.mkRat_eq_zero hm]
  constructor
  · intro h0; have := sn_abs b (nv f n); rw [h0] at this; exact this.symm
  · intro h0; rw [h0]; exact sn_zero b

theorem ratDivO {w : World} {b1 b2 : Bool} {A1 A2 A3 A4 : Option Addr} {n1 c1 n2 c2 n3 c3 n4 c4 : Nat} {f1 f2 f3 f4 : Nat → Nat} (h : Raw w b1 A1 n1 c1 f1 A2 n2 c2 f2) (k : Raw w b2 A3 n3 c3 f3 A4 n4 c4 f4) (hT : Tabs w) (l1 : ¬ Lg n1 n2) (l2 : ¬ Lg n3 n4) :
    Calls Tryz.prog 22 #[.agg #[.bool b1, .slice A1 n1 c1, .slice A2 n2 c2], .agg #[.bool b2, .slice A3 n3 c3, .slice A4 n4 c4]] w fun e w' => ∃ x, e = .returned (.tuple #[x, .int .i64 (divER b1 n1 f1 n2 f2 b2 n3 f3 n4 f4)]) ∧ RqO w' (divER b1 n1 f1 n2 f2 b2 n3 f3 n4 f4) (rawq b1 n1 f1 n2 f2 / rawq b2 n3 f3 n4 f4) x ∧ Below w.heap.size w w' := by
  by_cases he : chkRR b1 n1 f1 n2 f2 b2 n3 f3 n4 f4 = 0
  · obtain ⟨e1, e2⟩ := chkRR_zero he
    obtain ⟨ra, sa⟩ := h.q30 e1 l1
    obtain ⟨rb, sb⟩ := k.q30 e2 l2
    by_cases hz : rawq b2 n3 f3 n4 f4 = 0
    · have hd : divER b1 n1 f1 n2 f2 b2 n3 f3 n4 f4 = 6 := by unfold divER; rw [if_pos he, if_pos ((rawq_zero k e2).1 hz)]
      refine (ratDiv_zero ra rb sa sb (by omega) (by omega) hz).mono ?_
      rintro e w' ⟨he', hb⟩
      exact ⟨zeroRat, by rw [hd]; exact he', ⟨fun c => absurd (hd.symm.trans c) (by decide), fun _ => rfl⟩, hb⟩
    · have hd : divER b1 n1 f1 n2 f2 b2 n3 f3 n4 f4 = 0 := by unfold divER; rw [if_pos he, if_neg (fun c => hz ((rawq_zero k e2).2 c))]
      refine (ratDivQ ra rb hT sa sb (by omega) hz).mono ?_
      rintro e w' ⟨x, he', hx, hb⟩
      exact ⟨x, by rw [hd]; exact he', ⟨fun _ => hx, fun c => absurd hd c⟩, hb⟩
  · have hd : divER b1 n1 f1 n2 f2 b2 n3 f3 n4 f4 = chkRR b1 n1 f1 n2 f2 b2 n3 f3 n4 f4 := by unfold divER; rw [if_neg he]
    refine (ratDiv_bad h k he).mono ?_
    rintro e w' ⟨he', hb⟩
    exact ⟨zeroRat, by rw [hd]; exact he', ⟨fun c => absurd (hd ▸ c) he, fun _ => rfl⟩, hb⟩

/-- what a comparison answers -/
noncomputable def ratCV (b1 : Bool) (n1 : Nat) (f1 : Nat → Nat) (n2 : Nat) (f2 : Nat → Nat) (b2 : Bool) (n3 : Nat) (f3 : Nat → Nat) (n4 : Nat) (f4 : Nat → Nat) : Int := if chkRR b1 n1 f1 n2 f2 b2 n3 f3 n4 f4 = 0 then cq (rawq b1 n1 f1 n2 f2) (rawq b2 n3 f3 n4 f4) else 0

theorem ratCmpO {w : World} {b1 b2 : Bool} {A1 A2 A3 A4 : Option Addr} {n1 c1 n2 c2 n3 c3 n4 c4 : Nat} {f1 f2 f3 f4 : Nat → Nat} (h : Raw w b1 A1 n1 c1 f1 A2 n2 c2 f2) (k : Raw w b2 A3 n3 c3 f3 A4 n4 c4 f4) (hT : Tabs w) (l1 : ¬ Lg n1 n2) (l2 : ¬ Lg n3 n4) :
    Calls Tryz.prog 24 #[.agg #[.bool b1, .slice A1 n1 c1, .slice A2 n2 c2], .agg #[.bool b2, .slice A3 n3 c3, .slice A4 n4 c4]] w fun e w' => e = .returned (.tuple #[.int .i64 (ratCV b1 n1 f1 n2 f2 b2 n3 f3 n4 f4), .int .i64 (chkRR b1 n1 f1 n2 f2 b2 n3 f3 n4 f4)]) ∧ Below w.heap.size w w' := by
  by_cases he : chkRR b1 n1 f1 n2 f2 b2 n3 f3 n4 f4 = 0
  · obtain ⟨e1, e2⟩ := chkRR_zero he
    obtain ⟨ra, sa⟩ := h.q30 e1 l1
    obtain ⟨rb, sb⟩ := k.q30 e2 l2
    refine (ratCmpQ ra rb hT (sa.up (by omega)) (sb.up (by omega))).mono ?_
    rintro e w' ⟨he', hb⟩
    exact ⟨by rw [show ratCV b1 n1 f1 n2 f2 b2 n3 f3 n4 f4 = cq (rawq b1 n1 f1 n2 f2) (rawq b2 n3 f3 n4 f4) by unfold ratCV; rw [if_pos he], he]; exact he', hb⟩
  · refine (ratCmp_bad h k he).mono ?_
    rintro e w' ⟨he', hb⟩
    exact ⟨by rw [show ratCV b1 n1 f1 n2 f2 b2 n3 f3 n4 f4 = 0 by unfold ratCV; rw [if_neg he]]; exact he', hb⟩

theorem refAddO {w : World} {b1 b2 : Bool} {A1 A2 A3 A4 : Option Addr} {n1 c1 n2 c2 n3 c3 n4 c4 : Nat} {f1 f2 f3 f4 : Nat → Nat} (h : Raw w b1 A1 n1 c1 f1 A2 n2 c2 f2) (k : Raw w b2 A3 n3 c3 f3 A4 n4 c4 f4) (l1 : ¬ Lg n1 n2) (l2 : ¬ Lg n3 n4) :
    Calls Tryz.prog 16 #[.agg #[.bool b1, .slice A1 n1 c1, .slice A2 n2 c2], .agg #[.bool b2, .slice A3 n3 c3, .slice A4 n4 c4]] w fun e w' => ∃ x, e = .returned (.tuple #[x, .int .i64 (chkRR b1 n1 f1 n2 f2 b2 n3 f3 n4 f4)]) ∧ RqO w' (chkRR b1 n1 f1 n2 f2 b2 n3 f3 n4 f4) (rawq b1 n1 f1 n2 f2 + rawq b2 n3 f3 n4 f4) x ∧ Below w.heap.size w w' := by
  by_cases he : chkRR b1 n1 f1 n2 f2 b2 n3 f3 n4 f4 = 0
  · obtain ⟨e1, e2⟩ := chkRR_zero he
    obtain ⟨ra, sa⟩ := h.q30 e1 l1
    obtain ⟨rb, sb⟩ := k.q30 e2 l2
    refine (refAddOk ra rb sa sb (by omega)).mono ?_
    rintro e w' ⟨x, he', hx, hb⟩
    exact ⟨x, by rw [he]; exact he', ⟨fun _ => hx, fun c => absurd he c⟩, hb⟩
  · refine (refAdd_bad h k he).mono ?_
    rintro e w' ⟨he', hb⟩
    exact ⟨zeroRat, he', ⟨fun c => absurd c he, fun _ => rfl⟩, hb⟩

theorem refSubO {w : World} {b1 b2 : Bool} {A1 A2 A3 A4 : Option Addr} {n1 c1 n2 c2 n3 c3 n4 c4 : Nat} {f1 f2 f3 f4 : Nat → Nat} (h : Raw w b1 A1 n1 c1 f1 A2 n2 c2 f2) (k : Raw w b2 A3 n3 c3 f3 A4 n4 c4 f4) (l1 : ¬ Lg n1 n2) (l2 : ¬ Lg n3 n4) :
    Calls Tryz.prog 19 #[.agg #[.bool b1, .slice A1 n1 c1, .slice A2 n2 c2], .agg #[.bool b2, .slice A3 n3 c3, .slice A4 n4 c4]] w fun e w' => ∃ x, e = .returned (.tuple #[x, .int .i64 (chkRR b1 n1 f1 n2 f2 b2 n3 f3 n4 f4)]) ∧ RqO w' (chkRR b1 n1 f1 n2 f2 b2 n3 f3 n4 f4) (rawq b1 n1 f1 n2 f2 - rawq b2 n3 f3 n4 f4) x ∧ Below w.heap.size w w' := by
  by_cases he : chkRR b1 n1 f1 n2 f2 b2 n3 f3 n4 f4 = 0
  · obtain ⟨e1, e2⟩ := chkRR_zero he
    obtain ⟨ra, sa⟩ := h.q30 e1 l1
    obtain ⟨rb, sb⟩ := k.q30 e2 l2
    refine (refSubOk ra rb sa sb (by omega)).mono ?_
    rintro e w' ⟨x, he', hx, hb⟩
    exact ⟨x, by rw [he]; exact he', ⟨fun _ => hx, fun c => absurd he c⟩, hb⟩
  · refine (refSub_bad h k he).mono ?_
    rintro e w' ⟨he', hb⟩
    exact ⟨zeroRat, he', ⟨fun c => absurd c he, fun _ => rfl⟩, hb⟩

theorem refMulO {w : World} {b1 b2 : Bool} {A1 A2 A3 A4 : Option Addr} {n1 c1 n2 c2 n3 c3 n4 c4 : Nat} {f1 f2 f3 f4 : Nat → Nat} (h : Raw w b1 A1 n1 c1 f1 A2 n2 c2 f2) (k : Raw w b2 A3 n3 c3 f3 A4 n4 c4 f4) (l1 : ¬ Lg n1 n2) (l2 : ¬ Lg n3 n4) :
    Calls Tryz.prog 21 #[.agg #[.bool b1, .slice A1 n1 c1, .slice A2 n2 c2], .agg #[.bool b2, .slice A3 n3 c3, .slice A4 n4 c4]] w fun e w' => ∃ x, e = .returned (.tuple #[x, .int .i64 (chkRR b1 n1 f1 n2 f2 b2 n3 f3 n4 f4)]) ∧ RqO w' (chkRR b1 n1 f1 n2 f2 b2 n3 f3 n4 f4) (rawq b1 n1 f1 n2 f2 * rawq b2 n3 f3 n4 f4) x ∧ Below w.heap.size w w' := by
  by_cases he : chkRR b1 n1 f1 n2 f2 b2 n3 f3 n4 f4 = 0
  · obtain ⟨e1, e2⟩ := chkRR_zero he
    obtain ⟨ra, sa⟩ := h.q30 e1 l1
    obtain ⟨rb, sb⟩ := k.q30 e2 l2
    refine (refMulOk ra rb sa sb (by omega)).mono ?_
    rintro e w' ⟨x, he', hx, hb⟩
    exact ⟨x, by rw [he]; exact he', ⟨fun _ => hx, fun c => absurd he c⟩, hb⟩
  · refine (refMul_bad h k he).mono ?_
    rintro e w' ⟨he', hb⟩
    exact ⟨zeroRat, he', ⟨fun c => absurd c he, fun _ => rfl⟩, hb⟩

theorem refDivO {w : World} {b1 b2 : Bool} {A1 A2 A3 A4 : Option Addr} {n1 c1 n2 c2 n3 c3 n4 c4 : Nat} {f1 f2 f3 f4 : Nat → Nat} (h : Raw w b1 A1 n1 c1 f1 A2 n2 c2 f2) (k : Raw w b2 A3 n3 c3 f3 A4 n4 c4 f4) (l1 : ¬ Lg n1 n2) (l2 : ¬ Lg n3 n4) :
    Calls Tryz.prog 23 #[.agg #[.bool b1, .slice A1 n1 c1, .slice A2 n2 c2], .agg #[.bool b2, .slice A3 n3 c3, .slice A4 n4 c4]] w fun e w' => ∃ x, e = .returned (.tuple #[x, .int .i64 (divER b1 n1 f1 n2 f2 b2 n3 f3 n4 f4)]) ∧ RqO w' (divER b1 n1 f1 n2 f2 b2 n3 f3 n4 f4) (rawq b1 n1 f1 n2 f2 / rawq b2 n3 f3 n4 f4) x ∧ Below w.heap.size w w' := by
  by_cases he : chkRR b1 n1 f1 n2 f2 b2 n3 f3 n4 f4 = 0
  · obtain ⟨e1, e2⟩ := chkRR_zero he
    obtain ⟨ra, sa⟩ := h.q30 e1 l1
    obtain ⟨rb, sb⟩ := k.q30 e2 l2
    by_cases hz : rawq b2 n3 f3 n4 f4 = 0
    · have hd : divER b1 n1 f1 n2 f2 b2 n3 f3 n4 f4 = 6 := by unfold divER; rw [if_pos he, if_pos ((rawq_zero k e2).1 hz)]
      refine (refDiv_zero ra rb sa sb (by omega) hz).mono ?_
      rintro e w' ⟨he', hb⟩
      exact ⟨zeroRat, by rw [hd]; exact he', ⟨fun c => absurd (hd.symm.trans c) (by decide), fun _ => rfl⟩, hb⟩
    · have hd : divER b1 n1 f1 n2 f2 b2 n3 f3 n4 f4 = 0 := by unfold divER; rw [if_pos he, if_neg (fun c => hz ((rawq_zero k e2).2 c))]
      refine (refDivOk ra rb sa sb (by omega) hz).mono ?_
      rintro e w' ⟨x, he', hx, hb⟩
      exact ⟨x, by rw [hd]; exact he', ⟨fun _ => hx, fun c => absurd hd c⟩, hb⟩
  · have hd : divER b1 n1 f1 n2 f2 b2 n3 f3 n4 f4 = chkRR b1 n1 f1 n2 f2 b2 n3 f3 n4 f4 := by unfold divER; rw [if_neg he]
    refine (refDiv_bad h k he).mono ?_
    rintro e w' ⟨he', hb⟩
    exact ⟨zeroRat, by rw [hd]; exact he', ⟨fun c => absurd (hd ▸ c) he, fun _ => rfl⟩, hb⟩

theorem refCmpO {w : World} {b1 b2 : Bool} {A1 A2 A3 A4 : Option Addr} {n1 c1 n2 c2 n3 c3 n4 c4 : Nat} {f1 f2 f3 f4 : Nat → Nat} (h : Raw w b1 A1 n1 c1 f1 A2 n2 c2 f2) (k : Raw w b2 A3 n3 c3 f3 A4 n4 c4 f4) (l1 : ¬ Lg n1 n2) (l2 : ¬ Lg n3 n4) :
    Calls Tryz.prog 25 #[.agg #[.bool b1, .slice A1 n1 c1, .slice A2 n2 c2], .agg #[.bool b2, .slice A3 n3 c3, .slice A4 n4 c4]] w fun e w' => e = .returned (.tuple #[.int .i64 (ratCV b1 n1 f1 n2 f2 b2 n3 f3 n4 f4), .int .i64 (chkRR b1 n1 f1 n2 f2 b2 n3 f3 n4 f4)]) ∧ Below w.heap.size w w' := by
  by_cases he : chkRR b1 n1 f1 n2 f2 b2 n3 f3 n4 f4 = 0
  · obtain ⟨e1, e2⟩ := chkRR_zero he
    obtain ⟨ra, sa⟩ := h.q30 e1 l1
    obtain ⟨rb, sb⟩ := k.q30 e2 l2
    refine (refCmpOk ra rb sa sb (by omega)).mono ?_
    rintro e w' ⟨he', hb⟩
    exact ⟨by rw [show ratCV b1 n1 f1 n2 f2 b2 n3 f3 n4 f4 = cq (rawq b1 n1 f1 n2 f2) (rawq b2 n3 f3 n4 f4) by unfold ratCV; rw [if_pos he], he]; exact he', hb⟩
  · refine (refCmp_bad h k he).mono ?_
    rintro e w' ⟨he', hb⟩
    exact ⟨by rw [show ratCV b1 n1 f1 n2 f2 b2 n3 f3 n4 f4 = 0 by unfold ratCV; rw [if_neg he]]; exact he', hb⟩

end Go.Proofs.YtmcacofpnnaplaaGreatDoor

/- The walk of RatSums: it returns true, and writes nothing that was there. Conditions as premises: the parts read, and the table of signs holds its numbers. -/
namespace Go.Proofs.YtmcacofpnnaplaaGreatDoor
open Go.RowKit Go.Shelf
attribute [local go_sem ↓] Go.wp_at_zero Go.wp_at_succ


theorem Blk.new2 (w : World) (o : Obj) (cs : Array Value) (t : TypeId) : Blk ((w.alloc o).alloc (.cells cs t)) (w.heap.size + 1) t cs := by
  have := Blk.new (w.alloc o) cs t
  rwa [World.size_alloc] at this
theorem Blk.far3 {w : World} {g h : Nat} {t : TypeId} {cs : Array Value} (k : Blk w g t cs) (hne : g ≠ h) (u v x : Value) : Blk (((w.setCell ⟨h, 0, none⟩ u).setCell ⟨h, 1, none⟩ v).setCell ⟨h, 2, none⟩ x) g t cs := ((k.other hne).other hne).other hne
theorem Raw.put3 {w : World} {neg : Bool} {A A' : Option Addr} {n c m c' g0 i j l : Nat} {f g : Nat → Nat} {t : TypeId} {cs : Array Value} {u x y : Value} (h : Raw w neg A n c f A' m c' g) (k : Blk w g0 t cs) (hno : cs.all notU32 = true) :
    Raw (((w.setCell ⟨g0, i, none⟩ u).setCell ⟨g0, j, none⟩ x).setCell ⟨g0, l, none⟩ y) neg A n c f A' m c' g := ⟨h.num.put3 k hno, h.den.put3 k hno⟩
theorem Raw.alloc {w : World} {neg : Bool} {A A' : Option Addr} {n c m c' : Nat} {f g : Nat → Nat} (h : Raw w neg A n c f A' m c' g) (o : Obj) : Raw (w.alloc o) neg A n c f A' m c' g := h.below (below1 w o)
theorem longR_no {w : World} (neg : Bool) (A A' : Option Addr) (n c m c' : Nat) (h : ¬ Lg n m) :
    Calls Tryz.prog 12 #[.agg #[.bool neg, .slice A n c, .slice A' m c']] w fun e w' => e = .returned (.bool false) ∧ Below w.heap.size w w' := by
  have := longR_any (w := w) neg A A' n c m c'
  rw [lgB_no h] at this
  exact this
theorem longR_yes {w : World} (neg : Bool) (A A' : Option Addr) (n c m c' : Nat) (h : Lg n m) :
    Calls Tryz.prog 12 #[.agg #[.bool neg, .slice A n c, .slice A' m c']] w fun e w' => e = .returned (.bool true) ∧ Below w.heap.size w w' := by
  have := longR_any (w := w) neg A A' n c m c'
  rw [(lgB_iff n m).2 h] at this
  exact this

/-- the two copies lie in their blocks -/
structure Fin2 (w0 wx : World) (Q5 Q6 : Nat) (b1 : Bool) (B1 : Option Addr) (n1 e1 : Nat) (f1 : Nat → Nat) (B1' : Option Addr) (n1' e1' : Nat) (g1 : Nat → Nat) (b2 : Bool) (B2 : Option Addr) (n2 e2 : Nat) (f2 : Nat → Nat) (B2' : Option Addr) (n2' e2' : Nat) (g2 : Nat → Nat) : Prop where
  k5 : Blk wx Q5 25 #[.bool b1, .slice B1 n1 e1, .slice B1' n1' e1']
  k6 : Blk wx Q6 25 #[.bool b2, .slice B2 n2 e2, .slice B2' n2' e2']
  r1 : Raw wx b1 B1 n1 e1 f1 B1' n1' e1' g1
  r2 : Raw wx b2 B2 n2 e2 f2 B2' n2' e2' g2
  hb : Below w0.heap.size w0 wx
theorem fin_a {w0 W : World} {b1 b2 : Bool} {B1 B1' B2 B2' : Option Addr} {n1 e1 n1' e1' n2 e2 n2' e2' : Nat} {f1 g1 f2 g2 : Nat → Nat} (h1 : Raw W b1 B1 n1 e1 f1 B1' n1' e1' g1) (h2 : Raw W b2 B2 n2 e2 f2 B2' n2' e2' g2) (hb : Below w0.heap.size w0 W) : Fin2 w0 ((W.alloc (.cells #[.bool b1, .slice B1 n1 e1, .slice B1' n1' e1'] 25)).alloc (.cells #[.bool b2, .slice B2 n2 e2, .slice B2' n2' e2'] 25)) W.heap.size (W.heap.size + 1) b1 B1 n1 e1 f1 B1' n1' e1' g1 b2 B2 n2 e2 f2 B2' n2' e2' g2 :=
  ⟨(Blk.new W _ _).alloc _, Blk.new2 _ _ _ _, (h1.alloc _).alloc _, (h2.alloc _).alloc _, hb.trans ((below2 W _ _).mono hb.size)⟩
theorem fin_b {w0 W : World} {b1 b2 : Bool} {B1 B1' B2 B2' : Option Addr} {n1 e1 n1' e1' n2 e2 n2' e2' : Nat} {f1 g1 f2 g2 : Nat → Nat} (h1 : Raw W b1 B1 n1 e1 f1 B1' n1' e1' g1) (h2 : Raw W b2 B2 n2 e2 f2 B2' n2' e2' g2) (hb : Below w0.heap.size w0 W) : Fin2 w0 ((W.alloc (.cells #[.bool b2, .slice B2 n2 e2, .slice B2' n2' e2'] 25)).alloc (.cells #[.bool b1, .slice B1 n1 e1, .slice B1' n1' e1'] 25)) (W.heap.size + 1) W.heap.size b1 B1 n1 e1 f1 B1' n1' e1' g1 b2 B2 n2 e2 f2 B2' n2' e2' g2 :=
  ⟨Blk.new2 _ _ _ _, (Blk.new W _ _).alloc _, (h1.alloc _).alloc _, (h2.alloc _).alloc _, hb.trans ((below2 W _ _).mono hb.size)⟩
theorem below_put3 {w0 W : World} {q : Nat} {u x y : Value} (hb : Below w0.heap.size w0 W) (hq : w0.heap.size ≤ q) : Below w0.heap.size w0 (((W.setCell ⟨q, 0, none⟩ u).setCell ⟨q, 1, none⟩ x).setCell ⟨q, 2, none⟩ y) := ((hb.setCell hq _).setCell hq _).setCell hq _
theorem size_put3 (W : World) (q : Nat) (u x y : Value) : (((W.setCell ⟨q, 0, none⟩ u).setCell ⟨q, 1, none⟩ x).setCell ⟨q, 2, none⟩ y).heap.size = W.heap.size := by simp
theorem fin_c {w0 W : World} {b1 b2 : Bool} {B1 B1' B2 B2' : Option Addr} {n1 e1 n1' e1' n2 e2 n2' e2' : Nat} {f1 g1 f2 g2 : Nat → Nat} {q : Nat} (h1 : Raw W b1 B1 n1 e1 f1 B1' n1' e1' g1) (h2 : Raw W b2 B2 n2 e2 f2 B2' n2' e2' g2) (hb : Below w0.heap.size w0 W) (k : Blk W q 25 #[.bool false, .slice none 0 0, .slice none 0 0]) (hq : w0.heap.size ≤ q) : Fin2 w0 ((((W.setCell ⟨q, 0, none⟩ (.bool b1)).setCell ⟨q, 1, none⟩ (.slice B1 n1 e1)).setCell ⟨q, 2, none⟩ (.slice B1' n1' e1')).alloc (.cells #[.bool b2, .slice B2 n2 e2, .slice B2' n2' e2'] 25)) q W.heap.size b1 B1 n1 e1 f1 B1' n1' e1' g1 b2 B2 n2 e2 f2 B2' n2' e2' g2 := by
  have hn := Blk.new (((W.setCell ⟨q, 0, none⟩ (.bool b1)).setCell ⟨q, 1, none⟩ (.slice B1 n1 e1)).setCell ⟨q, 2, none⟩ (.slice B1' n1' e1')) #[.bool b2, .slice B2 n2 e2, .slice B2' n2' e2'] 25
  rw [size_put3] at hn
  have hb2 := below_put3 (u := .bool b1) (x := .slice B1 n1 e1) (y := .slice B1' n1' e1') hb hq
  exact ⟨(k.row3 _ _ _).alloc _, hn, (h1.put3 k (hnoR _ _ _ _ _ _ _)).alloc _, (h2.put3 k (hnoR _ _ _ _ _ _ _)).alloc _, hb2.trans ((below1 _ _).mono hb2.size)⟩
theorem fin_d {w0 W : World} {b1 b2 : Bool} {B1 B1' B2 B2' : Option Addr} {n1 e1 n1' e1' n2 e2 n2' e2' : Nat} {f1 g1 f2 g2 : Nat → Nat} {q : Nat} (h1 : Raw W b1 B1 n1 e1 f1 B1' n1' e1' g1) (h2 : Raw W b2 B2 n2 e2 f2 B2' n2' e2' g2) (hb : Below w0.heap.size w0 W) (k : Blk W q 25 #[.bool false, .slice none 0 0, .slice none 0 0]) (hq : w0.heap.size ≤ q) : Fin2 w0 ((((W.setCell ⟨q, 0, none⟩ (.bool b2)).setCell ⟨q, 1, none⟩ (.slice B2 n2 e2)).setCell ⟨q, 2, none⟩ (.slice B2' n2' e2')).alloc (.cells #[.bool b1, .slice B1 n1 e1, .slice B1' n1' e1'] 25)) W.heap.size q b1 B1 n1 e1 f1 B1' n1' e1' g1 b2 B2 n2 e2 f2 B2' n2' e2' g2 := by
  have hn := Blk.new (((W.setCell ⟨q, 0, none⟩ (.bool b2)).setCell ⟨q, 1, none⟩ (.slice B2 n2 e2)).setCell ⟨q, 2, none⟩ (.slice B2' n2' e2')) #[.bool b1, .slice B1 n1 e1, .slice B1' n1' e1'] 25
  rw [size_put3] at hn
  have hb2 := below_put3 (u := .bool b2) (x := .slice B2 n2 e2) (y := .slice B2' n2' e2') hb hq
  exact ⟨hn, (k.row3 _ _ _).alloc _, (h1.put3 k (hnoR _ _ _ _ _ _ _)).alloc _, (h2.put3 k (hnoR _ _ _ _ _ _ _)).alloc _, hb2.trans ((below1 _ _).mono hb2.size)⟩
theorem fin_e {w0 W : World} {b1 b2 : Bool} {B1 B1' B2 B2' : Option Addr} {n1 e1 n1' e1' n2 e2 n2' e2' : Nat} {f1 g1 f2 g2 : Nat → Nat} {q p : Nat} (h1 : Raw W b1 B1 n1 e1 f1 B1' n1' e1' g1) (h2 : Raw W b2 B2 n2 e2 f2 B2' n2' e2' g2) (hb : Below w0.heap.size w0 W) (k : Blk W q 25 #[.bool false, .slice none 0 0, .slice none 0 0]) (k' : Blk W p 25 #[.bool false, .slice none 0 0, .slice none 0 0]) (hne : q ≠ p) (hq : w0.heap.size ≤ q) (hp : w0.heap.size ≤ p) : Fin2 w0 ((((((W.setCell ⟨q, 0, none⟩ (.bool b1)).setCell ⟨q, 1, none⟩ (.slice B1 n1 e1)).setCell ⟨q, 2, none⟩ (.slice B1' n1' e1')).setCell ⟨p, 0, none⟩ (.bool b2)).setCell ⟨p, 1, none⟩ (.slice B2 n2 e2)).setCell ⟨p, 2, none⟩ (.slice B2' n2' e2')) q p b1 B1 n1 e1 f1 B1' n1' e1' g1 b2 B2 n2 e2 f2 B2' n2' e2' g2 :=
  ⟨(k.row3 _ _ _).far3 hne _ _ _, (k'.far3 (fun e => hne e.symm) _ _ _).row3 _ _ _, (h1.put3 k (hnoR _ _ _ _ _ _ _)).put3 (k'.far3 (fun e => hne e.symm) _ _ _) (hnoR _ _ _ _ _ _ _), (h2.put3 k (hnoR _ _ _ _ _ _ _)).put3 (k'.far3 (fun e => hne e.symm) _ _ _) (hnoR _ _ _ _ _ _ _), below_put3 (below_put3 hb hq) hp⟩

set_option maxRecDepth 100000 in
set_option maxHeartbeats 16000000 in
theorem ratSums_awake1 (b1 : Bool) (A1 A1' : Option Addr) (n1 c1 n1' c1' : Nat) (f1 g1 : Nat → Nat) (b2 : Bool) (A2 A2' : Option Addr) (n2 c2 n2' c2' : Nat) (f2 g2 : Nat → Nat) (w : World) (h : Raw w b1 A1 n1 c1 f1 A1' n1' c1' g1) (k : Raw w b2 A2 n2 c2 f2 A2' n2' c2' g2) (hT : Tabs w) (l1 : Lg n1 n1') :
    Calls Tryz.prog 3 #[.agg #[.bool b1, .slice A1 n1 c1, .slice A1' n1' c1'], .agg #[.bool b2, .slice A2 n2 c2, .slice A2' n2' c2']] w fun e w' => e = .returned (.bool true) ∧ Below w.heap.size w w' := by
  have hbb := below2 w (.cells #[.bool b1, .slice A1 n1 c1, .slice A1' n1' c1'] 25) (.cells #[.bool b2, .slice A2 n2 c2, .slice A2' n2' c2'] 25)
  have k1 := (Blk.new w #[.bool b1, .slice A1 n1 c1, .slice A1' n1' c1'] 25).alloc (.cells #[.bool b2, .slice A2 n2 c2, .slice A2' n2' c2'] 25)
  have k2 := Blk.new (w.alloc (.cells #[.bool b1, .slice A1 n1 c1, .slice A1' n1' c1'] 25)) #[.bool b2, .slice A2 n2 c2, .slice A2' n2' c2'] 25
  simp only [World.size_alloc] at k2
  have HX := Lib.hid hbb
  have KP1 := Lib.hid k1
  have KP2 := Lib.hid k2
  have HA := Lib.hid h
  have HBR := Lib.hid k
  have HT := Lib.hid hT
  clear h k hT hbb k1 k2
  have d10 := KP1.out.cell (i := 0) rfl
  have d11 := KP1.out.cell (i := 1) rfl
  have d12 := KP1.out.cell (i := 2) rfl
  have d20 := KP2.out.cell (i := 0) rfl
  have d21 := KP2.out.cell (i := 1) rfl
  have d22 := KP2.out.cell (i := 2) rfl
  go_enter Tryz.func3, Tryz.ntmps3
  go_wp2_with fail
  refine (longR_yes b1 A1 A1' n1 c1 n1' c1' l1).mono ?_
  rintro _ w3 ⟨rfl, hb⟩
  replace KP1 := Lib.hid (KP1.out.after hb)
  replace KP2 := Lib.hid (KP2.out.after hb)
  replace HX := Lib.hid (HX.out.trans (hb.mono HX.out.size))
  clear hb
  clear d10 d11 d12 d20 d21 d22
  have d10 := KP1.out.cell (i := 0) rfl
  have d11 := KP1.out.cell (i := 1) rfl
  have d12 := KP1.out.cell (i := 2) rfl
  have d20 := KP2.out.cell (i := 0) rfl
  have d21 := KP2.out.cell (i := 1) rfl
  have d22 := KP2.out.cell (i := 2) rfl
  go_wp2_with fail
  refine (awakeN (HT.out.below HX.out)).mono ?_
  rintro _ w5 ⟨rfl, hb⟩
  replace HX := Lib.hid (HX.out.trans (hb.mono HX.out.size))
  clear hb
  go_wp2_with fail
  go_ret
  exact ⟨rfl, HX.out⟩

set_option maxRecDepth 100000 in
set_option maxHeartbeats 16000000 in
theorem ratSums_awake2 (b1 : Bool) (A1 A1' : Option Addr) (n1 c1 n1' c1' : Nat) (f1 g1 : Nat → Nat) (b2 : Bool) (A2 A2' : Option Addr) (n2 c2 n2' c2' : Nat) (f2 g2 : Nat → Nat) (w : World) (h : Raw w b1 A1 n1 c1 f1 A1' n1' c1' g1) (k : Raw w b2 A2 n2 c2 f2 A2' n2' c2' g2) (hT : Tabs w) (l1 : ¬ Lg n1 n1') (l2 : Lg n2 n2') :
    Calls Tryz.prog 3 #[.agg #[.bool b1, .slice A1 n1 c1, .slice A1' n1' c1'], .agg #[.bool b2, .slice A2 n2 c2, .slice A2' n2' c2']] w fun e w' => e = .returned (.bool true) ∧ Below w.heap.size w w' := by
  have hbb := below2 w (.cells #[.bool b1, .slice A1 n1 c1, .slice A1' n1' c1'] 25) (.cells #[.bool b2, .slice A2 n2 c2, .slice A2' n2' c2'] 25)
  have k1 := (Blk.new w #[.bool b1, .slice A1 n1 c1, .slice A1' n1' c1'] 25).alloc (.cells #[.bool b2, .slice A2 n2 c2, .slice A2' n2' c2'] 25)
  have k2 := Blk.new (w.alloc (.cells #[.bool b1, .slice A1 n1 c1, .slice A1' n1' c1'] 25)) #[.bool b2, .slice A2 n2 c2, .slice A2' n2' c2'] 25
  simp only [World.size_alloc] at k2
  have HX := Lib.hid hbb
  have KP1 := Lib.hid k1
  have KP2 := Lib.hid k2
  have HA := Lib.hid h
  have HBR := Lib.hid k
  have HT := Lib.hid hT
  clear h k hT hbb k1 k2
  have d10 := KP1.out.cell (i := 0) rfl
  have d11 := KP1.out.cell (i := 1) rfl
  have d12 := KP1.out.cell (i := 2) rfl
  have d20 := KP2.out.cell (i := 0) rfl
  have d21 := KP2.out.cell (i := 1) rfl
  have d22 := KP2.out.cell (i := 2) rfl
  go_enter Tryz.func3, Tryz.ntmps3
  go_wp2_with fail
  refine (longR_no b1 A1 A1' n1 c1 n1' c1' l1).mono ?_
  rintro _ w3 ⟨rfl, hb⟩
  replace KP1 := Lib.hid (KP1.out.after hb)
  replace KP2 := Lib.hid (KP2.out.after hb)
  replace HX := Lib.hid (HX.out.trans (hb.mono HX.out.size))
  clear hb
  clear d10 d11 d12 d20 d21 d22
  have d10 := KP1.out.cell (i := 0) rfl
  have d11 := KP1.out.cell (i := 1) rfl
  have d12 := KP1.out.cell (i := 2) rfl
  have d20 := KP2.out.cell (i := 0) rfl
  have d21 := KP2.out.cell (i := 1) rfl
  have d22 := KP2.out.cell (i := 2) rfl
  go_wp2_with fail
  refine (longR_yes b2 A2 A2' n2 c2 n2' c2' l2).mono ?_
  rintro _ w4 ⟨rfl, hb⟩
  replace KP1 := Lib.hid (KP1.out.after hb)
  replace KP2 := Lib.hid (KP2.out.after hb)
  replace HX := Lib.hid (HX.out.trans (hb.mono HX.out.size))
  clear hb
  clear d10 d11 d12 d20 d21 d22
  go_wp2_with fail
  refine (awakeN (HT.out.below HX.out)).mono ?_
  rintro _ w5 ⟨rfl, hb⟩
  replace HX := Lib.hid (HX.out.trans (hb.mono HX.out.size))
  clear hb
  go_wp2_with fail
  go_ret
  exact ⟨rfl, HX.out⟩

set_option maxRecDepth 100000 in
set_option maxHeartbeats 16000000 in
theorem ratSums_main (b1 : Bool) (A1 A1' : Option Addr) (n1 c1 n1' c1' : Nat) (f1 g1 : Nat → Nat) (b2 : Bool) (A2 A2' : Option Addr) (n2 c2 n2' c2' : Nat) (f2 g2 : Nat → Nat) (w : World) (h : Raw w b1 A1 n1 c1 f1 A1' n1' c1' g1) (k : Raw w b2 A2 n2 c2 f2 A2' n2' c2' g2) (hT : Tabs w) (l1 : ¬ Lg n1 n1') (l2 : ¬ Lg n2 n2') :
    Calls Tryz.prog 3 #[.agg #[.bool b1, .slice A1 n1 c1, .slice A1' n1' c1'], .agg #[.bool b2, .slice A2 n2 c2, .slice A2' n2' c2']] w fun e w' => e = .returned (.bool true) ∧ Below w.heap.size w w' := by
  have hbb := below2 w (.cells #[.bool b1, .slice A1 n1 c1, .slice A1' n1' c1'] 25) (.cells #[.bool b2, .slice A2 n2 c2, .slice A2' n2' c2'] 25)
  have k1 := (Blk.new w #[.bool b1, .slice A1 n1 c1, .slice A1' n1' c1'] 25).alloc (.cells #[.bool b2, .slice A2 n2 c2, .slice A2' n2' c2'] 25)
  have k2 := Blk.new (w.alloc (.cells #[.bool b1, .slice A1 n1 c1, .slice A1' n1' c1'] 25)) #[.bool b2, .slice A2 n2 c2, .slice A2' n2' c2'] 25
  simp only [World.size_alloc] at k2
  have HX := Lib.hid hbb
  have KP1 := Lib.hid k1
  have KP2 := Lib.hid k2
  have HA := Lib.hid h
  have HBR := Lib.hid k
  have HT := Lib.hid hT
  clear h k hT hbb k1 k2
  have d10 := KP1.out.cell (i := 0) rfl
  have d11 := KP1.out.cell (i := 1) rfl
  have d12 := KP1.out.cell (i := 2) rfl
  have d20 := KP2.out.cell (i := 0) rfl
  have d21 := KP2.out.cell (i := 1) rfl
  have d22 := KP2.out.cell (i := 2) rfl
  go_enter Tryz.func3, Tryz.ntmps3
  go_wp2_with fail
  refine (longR_no b1 A1 A1' n1 c1 n1' c1' l1).mono ?_
  rintro _ w3 ⟨rfl, hb⟩
  replace KP1 := Lib.hid (KP1.out.after hb)
  replace KP2 := Lib.hid (KP2.out.after hb)
  replace HX := Lib.hid (HX.out.trans (hb.mono HX.out.size))
  clear hb
  clear d10 d11 d12 d20 d21 d22
  have d10 := KP1.out.cell (i := 0) rfl
  have d11 := KP1.out.cell (i := 1) rfl
  have d12 := KP1.out.cell (i := 2) rfl
  have d20 := KP2.out.cell (i := 0) rfl
  have d21 := KP2.out.cell (i := 1) rfl
  have d22 := KP2.out.cell (i := 2) rfl
  go_wp2_with fail
  refine (longR_no b2 A2 A2' n2 c2 n2' c2' l2).mono ?_
  rintro _ w4 ⟨rfl, hb⟩
  replace KP1 := Lib.hid (KP1.out.after hb)
  replace KP2 := Lib.hid (KP2.out.after hb)
  replace HX := Lib.hid (HX.out.trans (hb.mono HX.out.size))
  clear hb
  clear d10 d11 d12 d20 d21 d22
  go_upto_region 3 with fail
  have LN1 : Hid (n1 ≤ 4096 ∧ n1' ≤ 4096) := Lib.hid (by unfold Lg at l1; omega)
  have LN2 : Hid (n2 ≤ 4096 ∧ n2' ≤ 4096) := Lib.hid (by unfold Lg at l2; omega)
  have C1 : Hid (∀ W, Below w4.heap.size w4 W → _) := Lib.hid fun W (h1 : Below w4.heap.size w4 W) => ownRat_any ((HA.out.below HX.out).below h1) LN1.out.1 LN1.out.2
  have C2 : Hid (∀ W, Below w4.heap.size w4 W → _) := Lib.hid fun W (h1 : Below w4.heap.size w4 W) => ownRat_any ((HBR.out.below HX.out).below h1) LN2.out.1 LN2.out.2
  have KEEP : Hid (∀ W, Below w4.heap.size w4 W → (W.cell? ⟨w.heap.size, 0, none⟩ = some (.bool b1) ∧ W.cell? ⟨w.heap.size, 1, none⟩ = some (.slice A1 n1 c1) ∧ W.cell? ⟨w.heap.size, 2, none⟩ = some (.slice A1' n1' c1') ∧ W.cell? ⟨w.heap.size + 1, 0, none⟩ = some (.bool b2) ∧ W.cell? ⟨w.heap.size + 1, 1, none⟩ = some (.slice A2 n2 c2) ∧ W.cell? ⟨w.heap.size + 1, 2, none⟩ = some (.slice A2' n2' c2') ∧ Below w4.heap.size w4 W)) := Lib.hid fun W h1 => ⟨(KP1.out.after h1).cell rfl, (KP1.out.after h1).cell rfl, (KP1.out.after h1).cell rfl, (KP2.out.after h1).cell rfl, (KP2.out.after h1).cell rfl, (KP2.out.after h1).cell rfl, h1⟩
  have NEXT : Hid (∀ W W', (W.cell? ⟨w.heap.size, 0, none⟩ = some (.bool b1) ∧ W.cell? ⟨w.heap.size, 1, none⟩ = some (.slice A1 n1 c1) ∧ W.cell? ⟨w.heap.size, 2, none⟩ = some (.slice A1' n1' c1') ∧ W.cell? ⟨w.heap.size + 1, 0, none⟩ = some (.bool b2) ∧ W.cell? ⟨w.heap.size + 1, 1, none⟩ = some (.slice A2 n2 c2) ∧ W.cell? ⟨w.heap.size + 1, 2, none⟩ = some (.slice A2' n2' c2') ∧ Below w4.heap.size w4 W) → Below W.heap.size W W' → (W'.cell? ⟨w.heap.size, 0, none⟩ = some (.bool b1) ∧ W'.cell? ⟨w.heap.size, 1, none⟩ = some (.slice A1 n1 c1) ∧ W'.cell? ⟨w.heap.size, 2, none⟩ = some (.slice A1' n1' c1') ∧ W'.cell? ⟨w.heap.size + 1, 0, none⟩ = some (.bool b2) ∧ W'.cell? ⟨w.heap.size + 1, 1, none⟩ = some (.slice A2 n2 c2) ∧ W'.cell? ⟨w.heap.size + 1, 2, none⟩ = some (.slice A2' n2' c2') ∧ Below w4.heap.size w4 W')) := Lib.hid fun W W' h hb => KEEP.out W' (h.2.2.2.2.2.2.trans (hb.mono h.2.2.2.2.2.2.size))
  have ALL : Hid (∀ W o, (W.cell? ⟨w.heap.size, 0, none⟩ = some (.bool b1) ∧ W.cell? ⟨w.heap.size, 1, none⟩ = some (.slice A1 n1 c1) ∧ W.cell? ⟨w.heap.size, 2, none⟩ = some (.slice A1' n1' c1') ∧ W.cell? ⟨w.heap.size + 1, 0, none⟩ = some (.bool b2) ∧ W.cell? ⟨w.heap.size + 1, 1, none⟩ = some (.slice A2 n2 c2) ∧ W.cell? ⟨w.heap.size + 1, 2, none⟩ = some (.slice A2' n2' c2') ∧ Below w4.heap.size w4 W) → ((W.alloc o).cell? ⟨w.heap.size, 0, none⟩ = some (.bool b1) ∧ (W.alloc o).cell? ⟨w.heap.size, 1, none⟩ = some (.slice A1 n1 c1) ∧ (W.alloc o).cell? ⟨w.heap.size, 2, none⟩ = some (.slice A1' n1' c1') ∧ (W.alloc o).cell? ⟨w.heap.size + 1, 0, none⟩ = some (.bool b2) ∧ (W.alloc o).cell? ⟨w.heap.size + 1, 1, none⟩ = some (.slice A2 n2 c2) ∧ (W.alloc o).cell? ⟨w.heap.size + 1, 2, none⟩ = some (.slice A2' n2' c2') ∧ Below w4.heap.size w4 (W.alloc o))) := Lib.hid fun W o h => NEXT.out W _ h (below1 W o)
  have STO : Hid (∀ W p x y z, (W.cell? ⟨w.heap.size, 0, none⟩ = some (.bool b1) ∧ W.cell? ⟨w.heap.size, 1, none⟩ = some (.slice A1 n1 c1) ∧ W.cell? ⟨w.heap.size, 2, none⟩ = some (.slice A1' n1' c1') ∧ W.cell? ⟨w.heap.size + 1, 0, none⟩ = some (.bool b2) ∧ W.cell? ⟨w.heap.size + 1, 1, none⟩ = some (.slice A2 n2 c2) ∧ W.cell? ⟨w.heap.size + 1, 2, none⟩ = some (.slice A2' n2' c2') ∧ Below w4.heap.size w4 W) → w4.heap.size ≤ p → ((((W.setCell ⟨p, 0, none⟩ x).setCell ⟨p, 1, none⟩ y).setCell ⟨p, 2, none⟩ z).cell? ⟨w.heap.size, 0, none⟩ = some (.bool b1) ∧ (((W.setCell ⟨p, 0, none⟩ x).setCell ⟨p, 1, none⟩ y).setCell ⟨p, 2, none⟩ z).cell? ⟨w.heap.size, 1, none⟩ = some (.slice A1 n1 c1) ∧ (((W.setCell ⟨p, 0, none⟩ x).setCell ⟨p, 1, none⟩ y).setCell ⟨p, 2, none⟩ z).cell? ⟨w.heap.size, 2, none⟩ = some (.slice A1' n1' c1') ∧ (((W.setCell ⟨p, 0, none⟩ x).setCell ⟨p, 1, none⟩ y).setCell ⟨p, 2, none⟩ z).cell? ⟨w.heap.size + 1, 0, none⟩ = some (.bool b2) ∧ (((W.setCell ⟨p, 0, none⟩ x).setCell ⟨p, 1, none⟩ y).setCell ⟨p, 2, none⟩ z).cell? ⟨w.heap.size + 1, 1, none⟩ = some (.slice A2 n2 c2) ∧ (((W.setCell ⟨p, 0, none⟩ x).setCell ⟨p, 1, none⟩ y).setCell ⟨p, 2, none⟩ z).cell? ⟨w.heap.size + 1, 2, none⟩ = some (.slice A2' n2' c2') ∧ Below w4.heap.size w4 (((W.setCell ⟨p, 0, none⟩ x).setCell ⟨p, 1, none⟩ y).setCell ⟨p, 2, none⟩ z))) := Lib.hid fun W p x y z h hg => KEEP.out _ (((h.2.2.2.2.2.2.setCell hg _).setCell hg _).setCell hg _)
  have hdrew := KEEP.out w4.drew (Below.refl _ _).drew
  have hdrewA := KEEP.out (w4.alloc (.cells #[.bool false, .slice none 0 0, .slice none 0 0] 25)).drew (below1 w4 _).drew
  have hdrewB := KEEP.out ((w4.alloc (.cells #[.bool false, .slice none 0 0, .slice none 0 0] 25)).alloc (.cells #[.bool false, .slice none 0 0, .slice none 0 0] 25)).drew (below2 w4 _ _).drew
  go_cut [5, 6] (fun p5 p6 wx => ∃ Q5 Q6 B1 e1 B1' e1' B2 e2 B2' e2', p5 = .pointer (some ⟨Q5, 0, none⟩) ∧ p6 = .pointer (some ⟨Q6, 0, none⟩) ∧ Hid (Fin2 w4 wx Q5 Q6 b1 B1 n1 e1 f1 B1' n1' e1' g1 b2 B2 n2 e2 f2 B2' n2' e2' g2))
  case first =>
    go_region_held3 (fun W => W.cell? ⟨w.heap.size, 0, none⟩ = some (.bool b1) ∧ W.cell? ⟨w.heap.size, 1, none⟩ = some (.slice A1 n1 c1) ∧ W.cell? ⟨w.heap.size, 2, none⟩ = some (.slice A1' n1' c1') ∧ W.cell? ⟨w.heap.size + 1, 0, none⟩ = some (.bool b2) ∧ W.cell? ⟨w.heap.size + 1, 1, none⟩ = some (.slice A2 n2 c2) ∧ W.cell? ⟨w.heap.size + 1, 2, none⟩ = some (.slice A2' n2' c2') ∧ Below w4.heap.size w4 W)
      (repeat' (first | with_reducible assumption | with_reducible refine ALL.out _ _ ?_ | with_reducible refine STO.out _ _ _ _ _ ?_ ?_ | (have s1 := hb1.size; have s2 := hb2.size; simp only [World.size_alloc, World.size_drew] at s1 s2 ⊢; omega)))
      (first
        | (go_at_call 14; (with_reducible refine (C1.out (((w4.alloc (.cells #[.bool false, .slice none 0 0, .slice none 0 0] 25)).alloc (.cells #[.bool false, .slice none 0 0, .slice none 0 0] 25)).drew) ((show _ ∧ _ ∧ _ ∧ _ ∧ _ ∧ _ ∧ _ from by with_reducible assumption).2.2.2.2.2.2)).mono ?_); rintro _ y1 ⟨B1, e1, B1', e1', rfl, ho1, hb1⟩; have HO1 := Lib.hid ho1; clear ho1; have hS1 := NEXT.out _ _ (by with_reducible assumption) hb1; have hZ1 := Blk.after (show Blk (((w4.alloc (.cells #[.bool false, .slice none 0 0, .slice none 0 0] 25)).alloc (.cells #[.bool false, .slice none 0 0, .slice none 0 0] 25)).drew) w4.heap.size 25 #[.bool false, .slice none 0 0, .slice none 0 0] from (Blk.new w4 #[.bool false, .slice none 0 0, .slice none 0 0] 25).alloc _) hb1; have hZ2 := Blk.after (show Blk (((w4.alloc (.cells #[.bool false, .slice none 0 0, .slice none 0 0] 25)).alloc (.cells #[.bool false, .slice none 0 0, .slice none 0 0] 25)).drew) (w4.alloc (.cells #[.bool false, .slice none 0 0, .slice none 0 0] 25)).heap.size 25 #[.bool false, .slice none 0 0, .slice none 0 0] from Blk.new _ #[.bool false, .slice none 0 0, .slice none 0 0] 25) hb1; simp only [World.size_alloc] at hZ2; have hlt := Nat.lt_succ_self w4.heap.size; have hg1 := Nat.le_refl w4.heap.size; have hg2 := Nat.le_succ w4.heap.size)
        | (go_at_call 14; (with_reducible refine (C1.out ((w4.alloc (.cells #[.bool false, .slice none 0 0, .slice none 0 0] 25)).drew) ((show _ ∧ _ ∧ _ ∧ _ ∧ _ ∧ _ ∧ _ from by with_reducible assumption).2.2.2.2.2.2)).mono ?_); rintro _ y1 ⟨B1, e1, B1', e1', rfl, ho1, hb1⟩; have HO1 := Lib.hid ho1; clear ho1; have hS1 := NEXT.out _ _ (by with_reducible assumption) hb1; have hZ1 := Blk.after (show Blk ((w4.alloc (.cells #[.bool false, .slice none 0 0, .slice none 0 0] 25)).drew) w4.heap.size 25 #[.bool false, .slice none 0 0, .slice none 0 0] from Blk.new w4 #[.bool false, .slice none 0 0, .slice none 0 0] 25) hb1; have hg1 := Nat.le_refl w4.heap.size)
        | (go_at_call 14; (with_reducible refine (C1.out _ ((show _ ∧ _ ∧ _ ∧ _ ∧ _ ∧ _ ∧ _ from by with_reducible assumption).2.2.2.2.2.2)).mono ?_); rintro _ y1 ⟨B1, e1, B1', e1', rfl, ho1, hb1⟩; have HO1 := Lib.hid ho1; clear ho1; have hS1 := NEXT.out _ _ (by with_reducible assumption) hb1)
        | (go_at_call 14; (with_reducible refine (C2.out (World.alloc (World.alloc _ (.cells #[.bool false, .slice none 0 0, .slice none 0 0] 25)) (.cells #[.bool false, .slice none 0 0, .slice none 0 0] 25)) ((show _ ∧ _ ∧ _ ∧ _ ∧ _ ∧ _ ∧ _ from by with_reducible assumption).2.2.2.2.2.2)).mono ?_); rintro _ y2 ⟨B2, e2, B2', e2', rfl, ho2, hb2⟩; have HO2 := Lib.hid ho2; clear ho2; have hS2 := NEXT.out _ _ (by with_reducible assumption) hb2; replace HO1 := Lib.hid (((HO1.out.alloc (.cells #[.bool false, .slice none 0 0, .slice none 0 0] 25)).alloc (.cells #[.bool false, .slice none 0 0, .slice none 0 0] 25)).below hb2); have hZ1 := ((Blk.new y1 #[.bool false, .slice none 0 0, .slice none 0 0] 25).alloc (.cells #[.bool false, .slice none 0 0, .slice none 0 0] 25)).after hb2; have hZ2 := (Blk.new (y1.alloc (.cells #[.bool false, .slice none 0 0, .slice none 0 0] 25)) #[.bool false, .slice none 0 0, .slice none 0 0] 25).after hb2; simp only [World.size_alloc] at hZ2; have hlt := Nat.lt_succ_self y1.heap.size; have hg1 := hS1.2.2.2.2.2.2.size; have hg2 := Nat.le_succ_of_le hS1.2.2.2.2.2.2.size; have z10 := hZ1.cell (i := 0) rfl; have z11 := hZ1.cell (i := 1) rfl; have z12 := hZ1.cell (i := 2) rfl; have zf1 := hZ1.free; have zl1 := hZ1.lt; have zn1 := Nat.ne_of_lt zl1; have zm1 := Nat.ne_of_gt zl1; have z20 := hZ2.cell (i := 0) rfl; have z21 := hZ2.cell (i := 1) rfl; have z22 := hZ2.cell (i := 2) rfl; have zf2 := hZ2.free; have zl2 := hZ2.lt; have zn2 := Nat.ne_of_lt zl2; have zm2 := Nat.ne_of_gt zl2; have hn1 := Nat.ne_of_lt hlt; have hn2 := Nat.ne_of_gt hlt)
        | (go_at_call 14; (with_reducible refine (C2.out (World.alloc _ (.cells #[.bool false, .slice none 0 0, .slice none 0 0] 25)) ((show _ ∧ _ ∧ _ ∧ _ ∧ _ ∧ _ ∧ _ from by with_reducible assumption).2.2.2.2.2.2)).mono ?_); rintro _ y2 ⟨B2, e2, B2', e2', rfl, ho2, hb2⟩; have HO2 := Lib.hid ho2; clear ho2; have hS2 := NEXT.out _ _ (by with_reducible assumption) hb2; replace HO1 := Lib.hid ((HO1.out.alloc (.cells #[.bool false, .slice none 0 0, .slice none 0 0] 25)).below hb2); have hZ2 := (Blk.new y1 #[.bool false, .slice none 0 0, .slice none 0 0] 25).after hb2; have hlt := hZ1.lt; have hg2 := hS1.2.2.2.2.2.2.size; replace hZ1 := (hZ1.alloc (.cells #[.bool false, .slice none 0 0, .slice none 0 0] 25)).after hb2; have z10 := hZ1.cell (i := 0) rfl; have z11 := hZ1.cell (i := 1) rfl; have z12 := hZ1.cell (i := 2) rfl; have zf1 := hZ1.free; have zl1 := hZ1.lt; have zn1 := Nat.ne_of_lt zl1; have zm1 := Nat.ne_of_gt zl1; have z20 := hZ2.cell (i := 0) rfl; have z21 := hZ2.cell (i := 1) rfl; have z22 := hZ2.cell (i := 2) rfl; have zf2 := hZ2.free; have zl2 := hZ2.lt; have zn2 := Nat.ne_of_lt zl2; have zm2 := Nat.ne_of_gt zl2; have hn1 := Nat.ne_of_lt hlt; have hn2 := Nat.ne_of_gt hlt)
        | (go_at_call 14; (with_reducible refine (C2.out (World.alloc _ (.cells #[.bool false, .slice none 0 0, .slice none 0 0] 25)) ((show _ ∧ _ ∧ _ ∧ _ ∧ _ ∧ _ ∧ _ from by with_reducible assumption).2.2.2.2.2.2)).mono ?_); rintro _ y2 ⟨B2, e2, B2', e2', rfl, ho2, hb2⟩; have HO2 := Lib.hid ho2; clear ho2; have hS2 := NEXT.out _ _ (by with_reducible assumption) hb2; replace HO1 := Lib.hid ((HO1.out.alloc (.cells #[.bool false, .slice none 0 0, .slice none 0 0] 25)).below hb2); have hZ1 := (Blk.new y1 #[.bool false, .slice none 0 0, .slice none 0 0] 25).after hb2; have hg1 := hS1.2.2.2.2.2.2.size; have z10 := hZ1.cell (i := 0) rfl; have z11 := hZ1.cell (i := 1) rfl; have z12 := hZ1.cell (i := 2) rfl; have zf1 := hZ1.free; have zl1 := hZ1.lt; have zn1 := Nat.ne_of_lt zl1; have zm1 := Nat.ne_of_gt zl1)
        | (go_at_call 14; (with_reducible refine (C2.out _ ((show _ ∧ _ ∧ _ ∧ _ ∧ _ ∧ _ ∧ _ from by with_reducible assumption).2.2.2.2.2.2)).mono ?_); rintro _ y2 ⟨B2, e2, B2', e2', rfl, ho2, hb2⟩; have HO2 := Lib.hid ho2; clear ho2; have hS2 := NEXT.out _ _ (by with_reducible assumption) hb2; replace HO1 := Lib.hid (HO1.out.below hb2); replace hZ1 := hZ1.after hb2; replace hZ2 := hZ2.after hb2; have z10 := hZ1.cell (i := 0) rfl; have z11 := hZ1.cell (i := 1) rfl; have z12 := hZ1.cell (i := 2) rfl; have zf1 := hZ1.free; have zl1 := hZ1.lt; have zn1 := Nat.ne_of_lt zl1; have zm1 := Nat.ne_of_gt zl1; have z20 := hZ2.cell (i := 0) rfl; have z21 := hZ2.cell (i := 1) rfl; have z22 := hZ2.cell (i := 2) rfl; have zf2 := hZ2.free; have zl2 := hZ2.lt; have zn2 := Nat.ne_of_lt zl2; have zm2 := Nat.ne_of_gt zl2; have hn1 := Nat.ne_of_lt hlt; have hn2 := Nat.ne_of_gt hlt)
        | (go_at_call 14; (with_reducible refine (C2.out _ ((show _ ∧ _ ∧ _ ∧ _ ∧ _ ∧ _ ∧ _ from by with_reducible assumption).2.2.2.2.2.2)).mono ?_); rintro _ y2 ⟨B2, e2, B2', e2', rfl, ho2, hb2⟩; have HO2 := Lib.hid ho2; clear ho2; have hS2 := NEXT.out _ _ (by with_reducible assumption) hb2; replace HO1 := Lib.hid (HO1.out.below hb2); replace hZ1 := hZ1.after hb2; have z10 := hZ1.cell (i := 0) rfl; have z11 := hZ1.cell (i := 1) rfl; have z12 := hZ1.cell (i := 2) rfl; have zf1 := hZ1.free; have zl1 := hZ1.lt; have zn1 := Nat.ne_of_lt zl1; have zm1 := Nat.ne_of_gt zl1)
        | (go_at_call 14; (with_reducible refine (C2.out _ ((show _ ∧ _ ∧ _ ∧ _ ∧ _ ∧ _ ∧ _ from by with_reducible assumption).2.2.2.2.2.2)).mono ?_); rintro _ y2 ⟨B2, e2, B2', e2', rfl, ho2, hb2⟩; have HO2 := Lib.hid ho2; clear ho2; have hS2 := NEXT.out _ _ (by with_reducible assumption) hb2; replace HO1 := Lib.hid (HO1.out.below hb2)))
    all_goals
      go_wp2_with fail
      go_meet
      have hO1 := HO1.out
      have hO2 := HO2.out
      have hB2 := hS2.2.2.2.2.2.2
      first
        | with_reducible exact ⟨_, _, _, _, _, _, _, _, _, _, rfl, rfl, Lib.hid (fin_a hO1 hO2 hB2)⟩
        | with_reducible exact ⟨_, _, _, _, _, _, _, _, _, _, rfl, rfl, Lib.hid (fin_b hO1 hO2 hB2)⟩
        | with_reducible exact ⟨_, _, _, _, _, _, _, _, _, _, rfl, rfl, Lib.hid (fin_c hO1 hO2 hB2 hZ1 hg1)⟩
        | with_reducible exact ⟨_, _, _, _, _, _, _, _, _, _, rfl, rfl, Lib.hid (fin_d hO1 hO2 hB2 hZ1 hg1)⟩
        | with_reducible exact ⟨_, _, _, _, _, _, _, _, _, _, rfl, rfl, Lib.hid (fin_e hO1 hO2 hB2 hZ1 hZ2 hn1 hg1 hg2)⟩
        | with_reducible exact ⟨_, _, _, _, _, _, _, _, _, _, rfl, rfl, Lib.hid (fin_e hO1 hO2 hB2 hZ2 hZ1 hn2 hg2 hg1)⟩
  case rest =>
    obtain ⟨P5, P6, B1, e1, B1', e1', B2, e2, B2', e2', rfl, rfl, hf⟩ := hcut
    generalize wc = w10 at *
    have hX := HX.out.trans (hf.out.hb.mono HX.out.size)
    have HW := Lib.hid hX
    have T10 := Lib.hid (HT.out.below hX)
    have RA := Lib.hid (HA.out.below hX)
    have RB := Lib.hid (HBR.out.below hX)
    have RO1 := Lib.hid hf.out.r1
    have RO2 := Lib.hid hf.out.r2
    have K5 := Lib.hid hf.out.k5
    have K6 := Lib.hid hf.out.k6
    replace KP1 := Lib.hid (KP1.out.after hf.out.hb)
    replace KP2 := Lib.hid (KP2.out.after hf.out.hb)
    have HY := Lib.hid (Below.refl w10.heap.size w10)
    obtain ⟨ER, hER⟩ : ∃ x, chkRR b1 n1 f1 n1' g1 b2 n2 f2 n2' g2 = x := ⟨_, rfl⟩
    obtain ⟨ED, hED⟩ : ∃ x, divER b1 n1 f1 n1' g1 b2 n2 f2 n2' g2 = x := ⟨_, rfl⟩
    obtain ⟨CV, hCV⟩ : ∃ x, ratCV b1 n1 f1 n1' g1 b2 n2 f2 n2' g2 = x := ⟨_, rfl⟩
    have HER := Lib.hid hER
    have HED := Lib.hid hED
    have HCV := Lib.hid hCV
    have hL1 := Lib.hid l1
    have hL2 := Lib.hid l2
    clear hX hf HX HT HA HBR LN1 LN2 C1 C2 KEEP NEXT ALL STO hdrew hdrewA hdrewB hER hED hCV l1 l2
    have d10 := (K5.out.after HY.out).cell (i := 0) rfl
    have d11 := (K5.out.after HY.out).cell (i := 1) rfl
    have d12 := (K5.out.after HY.out).cell (i := 2) rfl
    have d20 := (K6.out.after HY.out).cell (i := 0) rfl
    have d21 := (K6.out.after HY.out).cell (i := 1) rfl
    have d22 := (K6.out.after HY.out).cell (i := 2) rfl
    have C := ratAddO (RO1.out.below HY.out) (RO2.out.below HY.out) (T10.out.below HY.out) hL1.out hL2.out
    rw [HER.out] at C
    have CC := Lib.hid C
    clear C
    go_wp2_with fail
    refine CC.out.mono ?_
    rintro _ w11 ⟨x, rfl, hx, hb⟩
    obtain ⟨bw11, Aw11, nw11, cw11, Aw11', nw11', cw11', rfl⟩ := hx.get
    clear CC
    clear d10 d11 d12 d20 d21 d22
    replace HY := Lib.hid (HY.out.trans (hb.mono HY.out.size))
    clear hb
    have hba := below1 w11 (.cells #[.bool bw11, .slice Aw11 nw11 cw11, .slice Aw11' nw11' cw11'] 25)
    have R7 := Lib.hid (hx.below hba)
    have K7 := Lib.hid (Blk.new w11 #[.bool bw11, .slice Aw11 nw11 cw11, .slice Aw11' nw11' cw11'] 25)
    have hge7 := HY.out.size
    replace HY := Lib.hid (HY.out.trans (hba.mono HY.out.size))
    clear hx hba
    go_upto_region 5 with fail
    generalize hP : w11.heap.size = P7 at *
    clear hP
    generalize w11.alloc (.cells #[.bool bw11, .slice Aw11 nw11 cw11, .slice Aw11' nw11' cw11'] 25) = vw11 at *
    have d10 := (KP1.out.after HY.out).cell (i := 0) rfl
    have d11 := (KP1.out.after HY.out).cell (i := 1) rfl
    have d12 := (KP1.out.after HY.out).cell (i := 2) rfl
    have d20 := (KP2.out.after HY.out).cell (i := 0) rfl
    have d21 := (KP2.out.after HY.out).cell (i := 1) rfl
    have d22 := (KP2.out.after HY.out).cell (i := 2) rfl
    have C := refAddO (RA.out.below HY.out) (RB.out.below HY.out) hL1.out hL2.out
    rw [HER.out] at C
    have CC := Lib.hid C
    clear C
    go_wp2_with fail
    refine CC.out.mono ?_
    rintro _ w12 ⟨x, rfl, hx, hb⟩
    obtain ⟨bw12, Aw12, nw12, cw12, Aw12', nw12', cw12', rfl⟩ := hx.get
    clear CC
    clear d10 d11 d12 d20 d21 d22
    replace HY := Lib.hid (HY.out.trans (hb.mono HY.out.size))
    replace K7 := Lib.hid (K7.out.after hb)
    replace R7 := Lib.hid (R7.out.below hb)
    clear hb
    have hba := below1 w12 (.cells #[.bool bw12, .slice Aw12 nw12 cw12, .slice Aw12' nw12' cw12'] 25)
    have R9 := Lib.hid (hx.below hba)
    have K9 := Lib.hid (Blk.new w12 #[.bool bw12, .slice Aw12 nw12 cw12, .slice Aw12' nw12' cw12'] 25)
    have hge9 := HY.out.size
    have hne9 := Nat.ne_of_lt K7.out.lt
    replace K7 := Lib.hid (K7.out.after hba)
    replace R7 := Lib.hid (R7.out.below hba)
    replace HY := Lib.hid (HY.out.trans (hba.mono HY.out.size))
    clear hx hba
    go_upto_region 6 with fail
    generalize hP : w12.heap.size = P9 at *
    clear hP
    generalize w12.alloc (.cells #[.bool bw12, .slice Aw12 nw12 cw12, .slice Aw12' nw12' cw12'] 25) = vw12 at *
    have hnf9 := hne9.symm
    have d10 := K7.out.cell (i := 0) rfl
    have d20 := K9.out.cell (i := 0) rfl
    have d11 := K7.out.cell (i := 1) rfl
    have d21 := K9.out.cell (i := 1) rfl
    have d12 := K7.out.cell (i := 2) rfl
    have d22 := K9.out.cell (i := 2) rfl
    go_wp2_with fail
    refine (sameRatO R7.out R9.out).mono ?_
    rintro _ w13 ⟨rfl, hb⟩
    replace HY := Lib.hid (HY.out.trans (hb.mono HY.out.size))
    replace K7 := Lib.hid (K7.out.after hb)
    replace K9 := Lib.hid (K9.out.after hb)
    clear hb R7 R9
    clear d10 d11 d12 d20 d21 d22
    go_upto_region 8 with fail
    have d10 := (K5.out.after HY.out).cell (i := 0) rfl
    have d11 := (K5.out.after HY.out).cell (i := 1) rfl
    have d12 := (K5.out.after HY.out).cell (i := 2) rfl
    have d20 := (K6.out.after HY.out).cell (i := 0) rfl
    have d21 := (K6.out.after HY.out).cell (i := 1) rfl
    have d22 := (K6.out.after HY.out).cell (i := 2) rfl
    have C := ratSubO (RO1.out.below HY.out) (RO2.out.below HY.out) (T10.out.below HY.out) hL1.out hL2.out
    rw [HER.out] at C
    have CC := Lib.hid C
    clear C
    go_wp2_with fail
    refine CC.out.mono ?_
    rintro _ w14 ⟨x, rfl, hx, hb⟩
    obtain ⟨bw14, Aw14, nw14, cw14, Aw14', nw14', cw14', rfl⟩ := hx.get
    clear CC
    clear d10 d11 d12 d20 d21 d22
    replace HY := Lib.hid (HY.out.trans (hb.mono HY.out.size))
    replace K7 := Lib.hid (K7.out.after hb)
    replace K9 := Lib.hid (K9.out.after hb)
    clear hb
    have z0 := K7.out.cell (i := 0) rfl
    have z1 := K7.out.cell (i := 1) rfl
    have z2 := K7.out.cell (i := 2) rfl
    have zf := K7.out.free
    have zl := K7.out.lt
    have R7 : Hid (RqO (((w14.setCell ⟨P7, 0, none⟩ (.bool bw14)).setCell ⟨P7, 1, none⟩ (.slice Aw14 nw14 cw14)).setCell ⟨P7, 2, none⟩ (.slice Aw14' nw14' cw14')) _ _ _) := Lib.hid (hx.put3 (i := 0) (j := 1) (l := 2) (u := .bool bw14) (x := .slice Aw14 nw14 cw14) (y := .slice Aw14' nw14' cw14') K7.out (hnoR _ _ _ _ _ _ _))
    replace K9 := Lib.hid (K9.out.far3 hnf9 (.bool bw14) (.slice Aw14 nw14 cw14) (.slice Aw14' nw14' cw14'))
    replace K7 := Lib.hid (K7.out.row3 (.bool bw14) (.slice Aw14 nw14 cw14) (.slice Aw14' nw14' cw14'))
    replace HY := Lib.hid (below_put3 (u := .bool bw14) (x := .slice Aw14 nw14 cw14) (y := .slice Aw14' nw14' cw14') HY.out hge7)
    clear hx
    go_upto_region 9 with fail
    clear z0 z1 z2 zf zl
    generalize (((w14.setCell ⟨P7, 0, none⟩ (.bool bw14)).setCell ⟨P7, 1, none⟩ (.slice Aw14 nw14 cw14)).setCell ⟨P7, 2, none⟩ (.slice Aw14' nw14' cw14')) = vw14 at *
    have d10 := (KP1.out.after HY.out).cell (i := 0) rfl
    have d11 := (KP1.out.after HY.out).cell (i := 1) rfl
    have d12 := (KP1.out.after HY.out).cell (i := 2) rfl
    have d20 := (KP2.out.after HY.out).cell (i := 0) rfl
    have d21 := (KP2.out.after HY.out).cell (i := 1) rfl
    have d22 := (KP2.out.after HY.out).cell (i := 2) rfl
    have C := refSubO (RA.out.below HY.out) (RB.out.below HY.out) hL1.out hL2.out
    rw [HER.out] at C
    have CC := Lib.hid C
    clear C
    go_wp2_with fail
    refine CC.out.mono ?_
    rintro _ w15 ⟨x, rfl, hx, hb⟩
    obtain ⟨bw15, Aw15, nw15, cw15, Aw15', nw15', cw15', rfl⟩ := hx.get
    clear CC
    clear d10 d11 d12 d20 d21 d22
    replace HY := Lib.hid (HY.out.trans (hb.mono HY.out.size))
    replace K7 := Lib.hid (K7.out.after hb)
    replace K9 := Lib.hid (K9.out.after hb)
    replace R7 := Lib.hid (R7.out.below hb)
    clear hb
    have z0 := K9.out.cell (i := 0) rfl
    have z1 := K9.out.cell (i := 1) rfl
    have z2 := K9.out.cell (i := 2) rfl
    have zf := K9.out.free
    have zl := K9.out.lt
    have R9 : Hid (RqO (((w15.setCell ⟨P9, 0, none⟩ (.bool bw15)).setCell ⟨P9, 1, none⟩ (.slice Aw15 nw15 cw15)).setCell ⟨P9, 2, none⟩ (.slice Aw15' nw15' cw15')) _ _ _) := Lib.hid (hx.put3 (i := 0) (j := 1) (l := 2) (u := .bool bw15) (x := .slice Aw15 nw15 cw15) (y := .slice Aw15' nw15' cw15') K9.out (hnoR _ _ _ _ _ _ _))
    replace K7 := Lib.hid (K7.out.far3 hne9 (.bool bw15) (.slice Aw15 nw15 cw15) (.slice Aw15' nw15' cw15'))
    replace R7 := Lib.hid (R7.out.put3 (i := 0) (j := 1) (l := 2) (u := .bool bw15) (x := .slice Aw15 nw15 cw15) (y := .slice Aw15' nw15' cw15') K9.out (hnoR _ _ _ _ _ _ _))
    replace K9 := Lib.hid (K9.out.row3 (.bool bw15) (.slice Aw15 nw15 cw15) (.slice Aw15' nw15' cw15'))
    replace HY := Lib.hid (below_put3 (u := .bool bw15) (x := .slice Aw15 nw15 cw15) (y := .slice Aw15' nw15' cw15') HY.out hge9)
    clear hx
    go_upto_region 10 with fail
    clear z0 z1 z2 zf zl
    generalize (((w15.setCell ⟨P9, 0, none⟩ (.bool bw15)).setCell ⟨P9, 1, none⟩ (.slice Aw15 nw15 cw15)).setCell ⟨P9, 2, none⟩ (.slice Aw15' nw15' cw15')) = vw15 at *
    have d10 := K7.out.cell (i := 0) rfl
    have d20 := K9.out.cell (i := 0) rfl
    have d11 := K7.out.cell (i := 1) rfl
    have d21 := K9.out.cell (i := 1) rfl
    have d12 := K7.out.cell (i := 2) rfl
    have d22 := K9.out.cell (i := 2) rfl
    go_wp2_with fail
    refine (sameRatO R7.out R9.out).mono ?_
    rintro _ w16 ⟨rfl, hb⟩
    replace HY := Lib.hid (HY.out.trans (hb.mono HY.out.size))
    replace K7 := Lib.hid (K7.out.after hb)
    replace K9 := Lib.hid (K9.out.after hb)
    clear hb R7 R9
    clear d10 d11 d12 d20 d21 d22
    go_upto_region 12 with fail
    have d10 := (K5.out.after HY.out).cell (i := 0) rfl
    have d11 := (K5.out.after HY.out).cell (i := 1) rfl
    have d12 := (K5.out.after HY.out).cell (i := 2) rfl
    have d20 := (K6.out.after HY.out).cell (i := 0) rfl
    have d21 := (K6.out.after HY.out).cell (i := 1) rfl
    have d22 := (K6.out.after HY.out).cell (i := 2) rfl
    have C := ratMulO (RO1.out.below HY.out) (RO2.out.below HY.out) (T10.out.below HY.out) hL1.out hL2.out
    rw [HER.out] at C
    have CC := Lib.hid C
    clear C
    go_wp2_with fail
    refine CC.out.mono ?_
    rintro _ w17 ⟨x, rfl, hx, hb⟩
    obtain ⟨bw17, Aw17, nw17, cw17, Aw17', nw17', cw17', rfl⟩ := hx.get
    clear CC
    clear d10 d11 d12 d20 d21 d22
    replace HY := Lib.hid (HY.out.trans (hb.mono HY.out.size))
    replace K7 := Lib.hid (K7.out.after hb)
    replace K9 := Lib.hid (K9.out.after hb)
    clear hb
    have z0 := K7.out.cell (i := 0) rfl
    have z1 := K7.out.cell (i := 1) rfl
    have z2 := K7.out.cell (i := 2) rfl
    have zf := K7.out.free
    have zl := K7.out.lt
    have R7 : Hid (RqO (((w17.setCell ⟨P7, 0, none⟩ (.bool bw17)).setCell ⟨P7, 1, none⟩ (.slice Aw17 nw17 cw17)).setCell ⟨P7, 2, none⟩ (.slice Aw17' nw17' cw17')) _ _ _) := Lib.hid (hx.put3 (i := 0) (j := 1) (l := 2) (u := .bool bw17) (x := .slice Aw17 nw17 cw17) (y := .slice Aw17' nw17' cw17') K7.out (hnoR _ _ _ _ _ _ _))
    replace K9 := Lib.hid (K9.out.far3 hnf9 (.bool bw17) (.slice Aw17 nw17 cw17) (.slice Aw17' nw17' cw17'))
    replace K7 := Lib.hid (K7.out.row3 (.bool bw17) (.slice Aw17 nw17 cw17) (.slice Aw17' nw17' cw17'))
    replace HY := Lib.hid (below_put3 (u := .bool bw17) (x := .slice Aw17 nw17 cw17) (y := .slice Aw17' nw17' cw17') HY.out hge7)
    clear hx
    go_upto_region 13 with fail
    clear z0 z1 z2 zf zl
    generalize (((w17.setCell ⟨P7, 0, none⟩ (.bool bw17)).setCell ⟨P7, 1, none⟩ (.slice Aw17 nw17 cw17)).setCell ⟨P7, 2, none⟩ (.slice Aw17' nw17' cw17')) = vw17 at *
    have d10 := (KP1.out.after HY.out).cell (i := 0) rfl
    have d11 := (KP1.out.after HY.out).cell (i := 1) rfl
    have d12 := (KP1.out.after HY.out).cell (i := 2) rfl
    have d20 := (KP2.out.after HY.out).cell (i := 0) rfl
    have d21 := (KP2.out.after HY.out).cell (i := 1) rfl
    have d22 := (KP2.out.after HY.out).cell (i := 2) rfl
    have C := refMulO (RA.out.below HY.out) (RB.out.below HY.out) hL1.out hL2.out
    rw [HER.out] at C
    have CC := Lib.hid C
    clear C
    go_wp2_with fail
    refine CC.out.mono ?_
    rintro _ w18 ⟨x, rfl, hx, hb⟩
    obtain ⟨bw18, Aw18, nw18, cw18, Aw18', nw18', cw18', rfl⟩ := hx.get
    clear CC
    clear d10 d11 d12 d20 d21 d22
    replace HY := Lib.hid (HY.out.trans (hb.mono HY.out.size))
    replace K7 := Lib.hid (K7.out.after hb)
    replace K9 := Lib.hid (K9.out.after hb)
    replace R7 := Lib.hid (R7.out.below hb)
    clear hb
    have z0 := K9.out.cell (i := 0) rfl
    have z1 := K9.out.cell (i := 1) rfl
    have z2 := K9.out.cell (i := 2) rfl
    have zf := K9.out.free
    have zl := K9.out.lt
    have R9 : Hid (RqO (((w18.setCell ⟨P9, 0, none⟩ (.bool bw18)).setCell ⟨P9, 1, none⟩ (.slice Aw18 nw18 cw18)).setCell ⟨P9, 2, none⟩ (.slice Aw18' nw18' cw18')) _ _ _) := Lib.hid (hx.put3 (i := 0) (j := 1) (l := 2) (u := .bool bw18) (x := .slice Aw18 nw18 cw18) (y := .slice Aw18' nw18' cw18') K9.out (hnoR _ _ _ _ _ _ _))
    replace K7 := Lib.hid (K7.out.far3 hne9 (.bool bw18) (.slice Aw18 nw18 cw18) (.slice Aw18' nw18' cw18'))
    replace R7 := Lib.hid (R7.out.put3 (i := 0) (j := 1) (l := 2) (u := .bool bw18) (x := .slice Aw18 nw18 cw18) (y := .slice Aw18' nw18' cw18') K9.out (hnoR _ _ _ _ _ _ _))
    replace K9 := Lib.hid (K9.out.row3 (.bool bw18) (.slice Aw18 nw18 cw18) (.slice Aw18' nw18' cw18'))
    replace HY := Lib.hid (below_put3 (u := .bool bw18) (x := .slice Aw18 nw18 cw18) (y := .slice Aw18' nw18' cw18') HY.out hge9)
    clear hx
    go_upto_region 14 with fail
    clear z0 z1 z2 zf zl
    generalize (((w18.setCell ⟨P9, 0, none⟩ (.bool bw18)).setCell ⟨P9, 1, none⟩ (.slice Aw18 nw18 cw18)).setCell ⟨P9, 2, none⟩ (.slice Aw18' nw18' cw18')) = vw18 at *
    have d10 := K7.out.cell (i := 0) rfl
    have d20 := K9.out.cell (i := 0) rfl
    have d11 := K7.out.cell (i := 1) rfl
    have d21 := K9.out.cell (i := 1) rfl
    have d12 := K7.out.cell (i := 2) rfl
    have d22 := K9.out.cell (i := 2) rfl
    go_wp2_with fail
    refine (sameRatO R7.out R9.out).mono ?_
    rintro _ w19 ⟨rfl, hb⟩
    replace HY := Lib.hid (HY.out.trans (hb.mono HY.out.size))
    replace K7 := Lib.hid (K7.out.after hb)
    replace K9 := Lib.hid (K9.out.after hb)
    clear hb R7 R9
    clear d10 d11 d12 d20 d21 d22
    go_upto_region 16 with fail
    have d10 := (K5.out.after HY.out).cell (i := 0) rfl
    have d11 := (K5.out.after HY.out).cell (i := 1) rfl
    have d12 := (K5.out.after HY.out).cell (i := 2) rfl
    have d20 := (K6.out.after HY.out).cell (i := 0) rfl
    have d21 := (K6.out.after HY.out).cell (i := 1) rfl
    have d22 := (K6.out.after HY.out).cell (i := 2) rfl
    have C := ratDivO (RO1.out.below HY.out) (RO2.out.below HY.out) (T10.out.below HY.out) hL1.out hL2.out
    rw [HED.out] at C
    have CC := Lib.hid C
    clear C
    go_wp2_with fail
    refine CC.out.mono ?_
    rintro _ w20 ⟨x, rfl, hx, hb⟩
    obtain ⟨bw20, Aw20, nw20, cw20, Aw20', nw20', cw20', rfl⟩ := hx.get
    clear CC
    clear d10 d11 d12 d20 d21 d22
    replace HY := Lib.hid (HY.out.trans (hb.mono HY.out.size))
    replace K7 := Lib.hid (K7.out.after hb)
    replace K9 := Lib.hid (K9.out.after hb)
    clear hb
    have z0 := K7.out.cell (i := 0) rfl
    have z1 := K7.out.cell (i := 1) rfl
    have z2 := K7.out.cell (i := 2) rfl
    have zf := K7.out.free
    have zl := K7.out.lt
    have R7 : Hid (RqO (((w20.setCell ⟨P7, 0, none⟩ (.bool bw20)).setCell ⟨P7, 1, none⟩ (.slice Aw20 nw20 cw20)).setCell ⟨P7, 2, none⟩ (.slice Aw20' nw20' cw20')) _ _ _) := Lib.hid (hx.put3 (i := 0) (j := 1) (l := 2) (u := .bool bw20) (x := .slice Aw20 nw20 cw20) (y := .slice Aw20' nw20' cw20') K7.out (hnoR _ _ _ _ _ _ _))
    replace K9 := Lib.hid (K9.out.far3 hnf9 (.bool bw20) (.slice Aw20 nw20 cw20) (.slice Aw20' nw20' cw20'))
    replace K7 := Lib.hid (K7.out.row3 (.bool bw20) (.slice Aw20 nw20 cw20) (.slice Aw20' nw20' cw20'))
    replace HY := Lib.hid (below_put3 (u := .bool bw20) (x := .slice Aw20 nw20 cw20) (y := .slice Aw20' nw20' cw20') HY.out hge7)
    clear hx
    go_upto_region 17 with fail
    clear z0 z1 z2 zf zl
    generalize (((w20.setCell ⟨P7, 0, none⟩ (.bool bw20)).setCell ⟨P7, 1, none⟩ (.slice Aw20 nw20 cw20)).setCell ⟨P7, 2, none⟩ (.slice Aw20' nw20' cw20')) = vw20 at *
    have d10 := (KP1.out.after HY.out).cell (i := 0) rfl
    have d11 := (KP1.out.after HY.out).cell (i := 1) rfl
    have d12 := (KP1.out.after HY.out).cell (i := 2) rfl
    have d20 := (KP2.out.after HY.out).cell (i := 0) rfl
    have d21 := (KP2.out.after HY.out).cell (i := 1) rfl
    have d22 := (KP2.out.after HY.out).cell (i := 2) rfl
    have C := refDivO (RA.out.below HY.out) (RB.out.below HY.out) hL1.out hL2.out
    rw [HED.out] at C
    have CC := Lib.hid C
    clear C
    go_wp2_with fail
    refine CC.out.mono ?_
    rintro _ w21 ⟨x, rfl, hx, hb⟩
    obtain ⟨bw21, Aw21, nw21, cw21, Aw21', nw21', cw21', rfl⟩ := hx.get
    clear CC
    clear d10 d11 d12 d20 d21 d22
    replace HY := Lib.hid (HY.out.trans (hb.mono HY.out.size))
    replace K7 := Lib.hid (K7.out.after hb)
    replace K9 := Lib.hid (K9.out.after hb)
    replace R7 := Lib.hid (R7.out.below hb)
    clear hb
    have z0 := K9.out.cell (i := 0) rfl
    have z1 := K9.out.cell (i := 1) rfl
    have z2 := K9.out.cell (i := 2) rfl
    have zf := K9.out.free
    have zl := K9.out.lt
    have R9 : Hid (RqO (((w21.setCell ⟨P9, 0, none⟩ (.bool bw21)).setCell ⟨P9, 1, none⟩ (.slice Aw21 nw21 cw21)).setCell ⟨P9, 2, none⟩ (.slice Aw21' nw21' cw21')) _ _ _) := Lib.hid (hx.put3 (i := 0) (j := 1) (l := 2) (u := .bool bw21) (x := .slice Aw21 nw21 cw21) (y := .slice Aw21' nw21' cw21') K9.out (hnoR _ _ _ _ _ _ _))
    replace K7 := Lib.hid (K7.out.far3 hne9 (.bool bw21) (.slice Aw21 nw21 cw21) (.slice Aw21' nw21' cw21'))
    replace R7 := Lib.hid (R7.out.put3 (i := 0) (j := 1) (l := 2) (u := .bool bw21) (x := .slice Aw21 nw21 cw21) (y := .slice Aw21' nw21' cw21') K9.out (hnoR _ _ _ _ _ _ _))
    replace K9 := Lib.hid (K9.out.row3 (.bool bw21) (.slice Aw21 nw21 cw21) (.slice Aw21' nw21' cw21'))
    replace HY := Lib.hid (below_put3 (u := .bool bw21) (x := .slice Aw21 nw21 cw21) (y := .slice Aw21' nw21' cw21') HY.out hge9)
    clear hx
    go_upto_region 18 with fail
    clear z0 z1 z2 zf zl
    generalize (((w21.setCell ⟨P9, 0, none⟩ (.bool bw21)).setCell ⟨P9, 1, none⟩ (.slice Aw21 nw21 cw21)).setCell ⟨P9, 2, none⟩ (.slice Aw21' nw21' cw21')) = vw21 at *
    have d10 := (K5.out.after HY.out).cell (i := 0) rfl
    have d11 := (K5.out.after HY.out).cell (i := 1) rfl
    have d12 := (K5.out.after HY.out).cell (i := 2) rfl
    have d20 := (K6.out.after HY.out).cell (i := 0) rfl
    have d21 := (K6.out.after HY.out).cell (i := 1) rfl
    have d22 := (K6.out.after HY.out).cell (i := 2) rfl
    have C := ratCmpO (RO1.out.below HY.out) (RO2.out.below HY.out) (T10.out.below HY.out) hL1.out hL2.out
    rw [HER.out, HCV.out] at C
    have CC := Lib.hid C
    clear C
    go_wp2_with fail
    refine CC.out.mono ?_
    rintro _ w22 ⟨rfl, hb⟩
    clear CC
    clear d10 d11 d12 d20 d21 d22
    replace HY := Lib.hid (HY.out.trans (hb.mono HY.out.size))
    replace K7 := Lib.hid (K7.out.after hb)
    replace R7 := Lib.hid (R7.out.below hb)
    replace K9 := Lib.hid (K9.out.after hb)
    replace R9 := Lib.hid (R9.out.below hb)
    clear hb
    have d10 := (KP1.out.after HY.out).cell (i := 0) rfl
    have d11 := (KP1.out.after HY.out).cell (i := 1) rfl
    have d12 := (KP1.out.after HY.out).cell (i := 2) rfl
    have d20 := (KP2.out.after HY.out).cell (i := 0) rfl
    have d21 := (KP2.out.after HY.out).cell (i := 1) rfl
    have d22 := (KP2.out.after HY.out).cell (i := 2) rfl
    have C := refCmpO (RA.out.below HY.out) (RB.out.below HY.out) hL1.out hL2.out
    rw [HER.out, HCV.out] at C
    have CC := Lib.hid C
    clear C
    go_wp2_with fail
    refine CC.out.mono ?_
    rintro _ w23 ⟨rfl, hb⟩
    clear CC
    clear d10 d11 d12 d20 d21 d22
    replace HY := Lib.hid (HY.out.trans (hb.mono HY.out.size))
    replace K7 := Lib.hid (K7.out.after hb)
    replace R7 := Lib.hid (R7.out.below hb)
    replace K9 := Lib.hid (K9.out.after hb)
    replace R9 := Lib.hid (R9.out.below hb)
    clear hb
    go_upto_region 20 with fail
    replace HW := Lib.hid (HW.out.trans (HY.out.mono HW.out.size))
    obtain ⟨EC, hEC⟩ : ∃ x, chkR b1 n1 f1 n1' g1 = x := ⟨_, rfl⟩
    have HEC := Lib.hid hEC
    have O1 := Lib.hid (RO1.out.below HY.out)
    have O2 := Lib.hid (RO2.out.below HY.out)
    have A1_ := Lib.hid (RA.out.below HY.out)
    have A2_ := Lib.hid (RB.out.below HY.out)
    have TT := Lib.hid (T10.out.below HY.out)
    have KB5 := Lib.hid (K5.out.after HY.out)
    have KB6 := Lib.hid (K6.out.after HY.out)
    have KB1 := Lib.hid (KP1.out.after HY.out)
    have KB2 := Lib.hid (KP2.out.after HY.out)
    have G1 : Hid (∀ W, Below w23.heap.size w23 W → Calls Tryz.prog 26 #[.agg #[.bool b1, .slice B1 n1 e1, .slice B1' n1' e1']] W fun e w' => e = .returned (.int .i64 EC) ∧ Below W.heap.size W w') := Lib.hid fun W h1 => by rw [← HEC.out]; exact ratCheck_any (O1.out.below h1)
    have G2 : Hid (∀ W, Below w23.heap.size w23 W → Calls Tryz.prog 27 #[.agg #[.bool b1, .slice A1 n1 c1, .slice A1' n1' c1']] W fun e w' => e = .returned (.int .i64 EC) ∧ Below W.heap.size W w') := Lib.hid fun W h1 => by rw [← HEC.out]; exact refRatCheck_any (A1_.out.below h1)
    clear hEC HEC HER HED HCV RO1 RO2 RA RB T10 K5 K6 KP1 KP2 HY hL1 hL2
    have KEEP : Hid (∀ W, Below w23.heap.size w23 W → (W.cell? ⟨P7, 0, none⟩ = some (.bool bw20) ∧ W.cell? ⟨P7, 1, none⟩ = some (.slice Aw20 nw20 cw20) ∧ W.cell? ⟨P7, 2, none⟩ = some (.slice Aw20' nw20' cw20') ∧ W.cell? ⟨P9, 0, none⟩ = some (.bool bw21) ∧ W.cell? ⟨P9, 1, none⟩ = some (.slice Aw21 nw21 cw21) ∧ W.cell? ⟨P9, 2, none⟩ = some (.slice Aw21' nw21' cw21') ∧ W.cell? ⟨P5, 0, none⟩ = some (.bool b1) ∧ W.cell? ⟨P5, 1, none⟩ = some (.slice B1 n1 e1) ∧ W.cell? ⟨P5, 2, none⟩ = some (.slice B1' n1' e1') ∧ W.cell? ⟨P6, 0, none⟩ = some (.bool b2) ∧ W.cell? ⟨P6, 1, none⟩ = some (.slice B2 n2 e2) ∧ W.cell? ⟨P6, 2, none⟩ = some (.slice B2' n2' e2') ∧ W.cell? ⟨w.heap.size, 0, none⟩ = some (.bool b1) ∧ W.cell? ⟨w.heap.size, 1, none⟩ = some (.slice A1 n1 c1) ∧ W.cell? ⟨w.heap.size, 2, none⟩ = some (.slice A1' n1' c1') ∧ W.cell? ⟨w.heap.size + 1, 0, none⟩ = some (.bool b2) ∧ W.cell? ⟨w.heap.size + 1, 1, none⟩ = some (.slice A2 n2 c2) ∧ W.cell? ⟨w.heap.size + 1, 2, none⟩ = some (.slice A2' n2' c2'))) := Lib.hid fun W h1 => ⟨(K7.out.after h1).cell rfl, (K7.out.after h1).cell rfl, (K7.out.after h1).cell rfl, (K9.out.after h1).cell rfl, (K9.out.after h1).cell rfl, (K9.out.after h1).cell rfl, (KB5.out.after h1).cell rfl, (KB5.out.after h1).cell rfl, (KB5.out.after h1).cell rfl, (KB6.out.after h1).cell rfl, (KB6.out.after h1).cell rfl, (KB6.out.after h1).cell rfl, (KB1.out.after h1).cell rfl, (KB1.out.after h1).cell rfl, (KB1.out.after h1).cell rfl, (KB2.out.after h1).cell rfl, (KB2.out.after h1).cell rfl, (KB2.out.after h1).cell rfl⟩
    have hdrew : Below w23.heap.size w23 w23.drew := (Below.refl _ _).drew
    go_region_held3 (fun W => W.cell? ⟨P7, 0, none⟩ = some (.bool bw20) ∧ W.cell? ⟨P7, 1, none⟩ = some (.slice Aw20 nw20 cw20) ∧ W.cell? ⟨P7, 2, none⟩ = some (.slice Aw20' nw20' cw20') ∧ W.cell? ⟨P9, 0, none⟩ = some (.bool bw21) ∧ W.cell? ⟨P9, 1, none⟩ = some (.slice Aw21 nw21 cw21) ∧ W.cell? ⟨P9, 2, none⟩ = some (.slice Aw21' nw21' cw21') ∧ W.cell? ⟨P5, 0, none⟩ = some (.bool b1) ∧ W.cell? ⟨P5, 1, none⟩ = some (.slice B1 n1 e1) ∧ W.cell? ⟨P5, 2, none⟩ = some (.slice B1' n1' e1') ∧ W.cell? ⟨P6, 0, none⟩ = some (.bool b2) ∧ W.cell? ⟨P6, 1, none⟩ = some (.slice B2 n2 e2) ∧ W.cell? ⟨P6, 2, none⟩ = some (.slice B2' n2' e2') ∧ W.cell? ⟨w.heap.size, 0, none⟩ = some (.bool b1) ∧ W.cell? ⟨w.heap.size, 1, none⟩ = some (.slice A1 n1 c1) ∧ W.cell? ⟨w.heap.size, 2, none⟩ = some (.slice A1' n1' c1') ∧ W.cell? ⟨w.heap.size + 1, 0, none⟩ = some (.bool b2) ∧ W.cell? ⟨w.heap.size + 1, 1, none⟩ = some (.slice A2 n2 c2) ∧ W.cell? ⟨w.heap.size + 1, 2, none⟩ = some (.slice A2' n2' c2'))
      (first | with_reducible exact KEEP.out wq6 hk6 | with_reducible exact KEEP.out wq5 hk5 | with_reducible exact KEEP.out wq4 hk4 | with_reducible exact KEEP.out wq3 hk3 | with_reducible exact KEEP.out wq2 hk2 | with_reducible exact KEEP.out wq1 hk1 | with_reducible exact KEEP.out w23.drew hdrew | go_keep)
      (first
        | (go_at_call 17; (with_reducible refine (sameRatO (R7.out.below hdrew) (R9.out.below hdrew)).mono ?_); rintro _ wq1 ⟨rfl, hb1⟩; have hk1 := hdrew.trans (hb1.mono hdrew.size))
        | (go_at_call 26; (with_reducible refine (G1.out _ hk1).mono ?_); rintro _ wq2 ⟨rfl, hb2⟩; have hk2 := hk1.trans (hb2.mono hk1.size))
        | (go_at_call 27; (with_reducible refine (G2.out _ hk2).mono ?_); rintro _ wq3 ⟨rfl, hb3⟩; have hk3 := hk2.trans (hb3.mono hk2.size))
        | (go_at_call 17; (with_reducible refine (sameRaw (O1.out.below hk3) (A1_.out.below hk3) (fun _ _ => rfl) (fun _ _ => rfl)).mono ?_); rintro _ wq4 ⟨rfl, hb4⟩; have hk4 := hk3.trans (hb4.mono hk3.size))
        | (go_at_call 17; (with_reducible refine (sameRaw (O2.out.below hk4) (A2_.out.below hk4) (fun _ _ => rfl) (fun _ _ => rfl)).mono ?_); rintro _ wq5 ⟨rfl, hb5⟩; have hk5 := hk4.trans (hb5.mono hk4.size))
        | (go_at_call 13; (with_reducible refine (awakeN (TT.out.below hk5)).mono ?_); rintro _ wq6 ⟨rfl, hb6⟩; have hk6 := hk5.trans (hb6.mono hk5.size)))
    have hfin := HW.out.trans (hk6.mono HW.out.size)
    go_wp2_with fail
    go_ret
    exact ⟨rfl, hfin⟩
end Go.Proofs.YtmcacofpnnaplaaGreatDoor

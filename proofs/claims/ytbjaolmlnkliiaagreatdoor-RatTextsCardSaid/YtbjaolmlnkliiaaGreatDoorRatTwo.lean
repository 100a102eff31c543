/- The contracts of the functions under the laws of package rat: RatG, RatJ, RatK, RatL, RatM, RatO, joined into one file. -/
import Derived.Test.YtbjaolmlnkliiaaGreatDoorRatOne
import Derived.Deep.RegionHeld3
import Derived.Deep.DrawnRows
import Derived.Deep.DeepCutAuto
/- The contract of sum: the sum of two rational numbers. Conditions as premises: the numbers read, and what comes up on the way is short enough. -/
namespace Go.Proofs.YtbjaolmlnkliiaaGreatDoor
open Go.RowKit Go.Shelf
attribute [local go_sem ↓] Go.wp_at_zero Go.wp_at_succ

/-- what comes up in a sum is short enough -/
structure SumOk (a b : Rat) : Prop where
  an : a.num.natAbs < LB ^ NL
  ad : a.den < LB ^ NL
  bn : b.num.natAbs < LB ^ NL
  bd : b.den < LB ^ NL
  x : (a.num * ((b.den / Nat.gcd a.den b.den : Nat) : Int)).natAbs < LB ^ NL
  y : (b.num * ((a.den / Nat.gcd a.den b.den : Nat) : Int)).natAbs < LB ^ NL
  xy : (a.num * ((b.den / Nat.gcd a.den b.den : Nat) : Int)).natAbs + (b.num * ((a.den / Nat.gcd a.den b.den : Nat) : Int)).natAbs < LB ^ NL
  d : a.den * b.den < LB ^ NL

theorem Blk.set8 {w : World} {g : Nat} {t : TypeId} {a0 a1 a2 a3 a4 a5 a6 a7 : Value} (h : Blk w g t #[a0, a1, a2, a3, a4, a5, a6, a7]) (v0 v1 v2 v3 v4 v5 v6 v7 : Value) : Blk ((((((((w.setCell ⟨g, 0, none⟩ v0).setCell ⟨g, 1, none⟩ v1).setCell ⟨g, 2, none⟩ v2).setCell ⟨g, 3, none⟩ v3).setCell ⟨g, 4, none⟩ v4).setCell ⟨g, 5, none⟩ v5).setCell ⟨g, 6, none⟩ v6).setCell ⟨g, 7, none⟩ v7) g t #[v0, v1, v2, v3, v4, v5, v6, v7] := by
  have h0 : Blk (w.setCell ⟨g, 0, none⟩ v0) g t #[v0, a1, a2, a3, a4, a5, a6, a7] := h.set (i := 0) (v := v0)
  have h1 : Blk ((w.setCell ⟨g, 0, none⟩ v0).setCell ⟨g, 1, none⟩ v1) g t #[v0, v1, a2, a3, a4, a5, a6, a7] := h0.set (i := 1) (v := v1)
  have h2 : Blk (((w.setCell ⟨g, 0, none⟩ v0).setCell ⟨g, 1, none⟩ v1).setCell ⟨g, 2, none⟩ v2) g t #[v0, v1, v2, a3, a4, a5, a6, a7] := h1.set (i := 2) (v := v2)
  have h3 : Blk ((((w.setCell ⟨g, 0, none⟩ v0).setCell ⟨g, 1, none⟩ v1).setCell ⟨g, 2, none⟩ v2).setCell ⟨g, 3, none⟩ v3) g t #[v0, v1, v2, v3, a4, a5, a6, a7] := h2.set (i := 3) (v := v3)
  have h4 : Blk (((((w.setCell ⟨g, 0, none⟩ v0).setCell ⟨g, 1, none⟩ v1).setCell ⟨g, 2, none⟩ v2).setCell ⟨g, 3, none⟩ v3).setCell ⟨g, 4, none⟩ v4) g t #[v0, v1, v2, v3, v4, a5, a6, a7] := h3.set (i := 4) (v := v4)
  have h5 : Blk ((((((w.setCell ⟨g, 0, none⟩ v0).setCell ⟨g, 1, none⟩ v1).setCell ⟨g, 2, none⟩ v2).setCell ⟨g, 3, none⟩ v3).setCell ⟨g, 4, none⟩ v4).setCell ⟨g, 5, none⟩ v5) g t #[v0, v1, v2, v3, v4, v5, a6, a7] := h4.set (i := 5) (v := v5)
  have h6 : Blk (((((((w.setCell ⟨g, 0, none⟩ v0).setCell ⟨g, 1, none⟩ v1).setCell ⟨g, 2, none⟩ v2).setCell ⟨g, 3, none⟩ v3).setCell ⟨g, 4, none⟩ v4).setCell ⟨g, 5, none⟩ v5).setCell ⟨g, 6, none⟩ v6) g t #[v0, v1, v2, v3, v4, v5, v6, a7] := h5.set (i := 6) (v := v6)
  have h7 : Blk ((((((((w.setCell ⟨g, 0, none⟩ v0).setCell ⟨g, 1, none⟩ v1).setCell ⟨g, 2, none⟩ v2).setCell ⟨g, 3, none⟩ v3).setCell ⟨g, 4, none⟩ v4).setCell ⟨g, 5, none⟩ v5).setCell ⟨g, 6, none⟩ v6).setCell ⟨g, 7, none⟩ v7) g t #[v0, v1, v2, v3, v4, v5, v6, v7] := h6.set (i := 7) (v := v7)
  exact h7
theorem Blk.cells8 {w : World} {g : Nat} {t : TypeId} {v0 v1 v2 v3 v4 v5 v6 v7 : Value} (h : Blk w g t #[v0, v1, v2, v3, v4, v5, v6, v7]) :
    w.cell? ⟨g, 0, none⟩ = some v0 ∧ w.cell? ⟨g, 1, none⟩ = some v1 ∧ w.cell? ⟨g, 2, none⟩ = some v2 ∧ w.cell? ⟨g, 3, none⟩ = some v3 ∧ w.cell? ⟨g, 4, none⟩ = some v4 ∧ w.cell? ⟨g, 5, none⟩ = some v5 ∧ w.cell? ⟨g, 6, none⟩ = some v6 ∧ w.cell? ⟨g, 7, none⟩ = some v7 ∧ g < w.heap.size :=
  ⟨h.cell rfl, h.cell rfl, h.cell rfl, h.cell rfl, h.cell rfl, h.cell rfl, h.cell rfl, h.cell rfl, h.lt⟩

theorem Blk.set2 {w : World} {g : Nat} {t : TypeId} {a0 a1 : Value} (h : Blk w g t #[a0, a1]) (v0 v1 : Value) : Blk ((w.setCell ⟨g, 0, none⟩ v0).setCell ⟨g, 1, none⟩ v1) g t #[v0, v1] := h.set.set
theorem Blk.cells2 {w : World} {g : Nat} {t : TypeId} {v0 v1 : Value} (h : Blk w g t #[v0, v1]) : w.cell? ⟨g, 0, none⟩ = some v0 ∧ w.cell? ⟨g, 1, none⟩ = some v1 ∧ g < w.heap.size := ⟨h.cell rfl, h.cell rfl, h.lt⟩

/-- the cells of two numbers that came in as parameters, as they read in later worlds -/
def Two (w0 : World) (p q : Nat) (b b' : Bool) (A1 A2 A3 A4 : Option Addr) (n1 c1 n2 c2 n3 c3 n4 c4 : Nat) (W : World) : Prop :=
  (W.cell? ⟨p, 0, none⟩ = some (.bool b) ∧ W.cell? ⟨p, 1, none⟩ = some (.slice A1 n1 c1) ∧ W.cell? ⟨p, 2, none⟩ = some (.slice A2 n2 c2)) ∧
  (W.cell? ⟨q, 0, none⟩ = some (.bool b') ∧ W.cell? ⟨q, 1, none⟩ = some (.slice A3 n3 c3) ∧ W.cell? ⟨q, 2, none⟩ = some (.slice A4 n4 c4)) ∧ Below w0.heap.size w0 W

set_option maxHeartbeats 800000 in
theorem signedNil (w : World) :
    Calls Tryz.prog 86 #[.bool false, .slice none 0 0] w fun e w' => e = .returned (.agg #[.int .i64 1, .slice none 0 0]) ∧ Below w.heap.size w w' := by
  go_enter Tryz.func86, Tryz.ntmps86
  go_wp2_with fail
  refine bodyPost_ret (results_cell_row (p := 4) (ty := 102) rfl _ _ w.heap.size 102 _ _ _ rfl (heap_alloc_new _ _) Tryz.underlying102 rfl (by kernel_rfl)) rfl ?_
  exact ⟨rfl, below1 w _⟩

set_option maxRecDepth 100000 in
set_option maxHeartbeats 8000000 in
theorem sumQ {w : World} {a b : Rat} {v u : Value} (ha : Rq w a v) (hb : Rq w b u) (hT : Tabs w) (ok : SumOk a b) :
    Calls Tryz.prog 95 #[v, u] w fun e w' => ∃ t, e = .returned (.tuple #[t, .int .i64 0]) ∧ Rq w' (a + b) t ∧ Below w.heap.size w w' := by
  obtain ⟨b1, A1, n1, c1, A2, n2, c2, rfl, kan, kad, eb1⟩ := ha.get
  obtain ⟨b2, A3, n3, c3, A4, n4, c4, rfl, kbn, kbd, eb2⟩ := hb.get
  have hb0 : Below w.heap.size w (((w.alloc (.cells #[.bool b1, .slice A1 n1 c1, .slice A2 n2 c2] 25)).alloc (.cells #[.bool b2, .slice A3 n3 c3, .slice A4 n4 c4] 25)).alloc (.cells #[.bool false, .slice none 0 0, .slice none 0 0] 25)) := (below2 w _ _).alloc (by simp; omega) _
  have k2 := ((Blk.new w #[.bool b1, .slice A1 n1 c1, .slice A2 n2 c2] 25).alloc (.cells #[.bool b2, .slice A3 n3 c3, .slice A4 n4 c4] 25)).alloc (.cells #[.bool false, .slice none 0 0, .slice none 0 0] 25)
  have k3 := (Blk.new (w.alloc (.cells #[.bool b1, .slice A1 n1 c1, .slice A2 n2 c2] 25)) #[.bool b2, .slice A3 n3 c3, .slice A4 n4 c4] 25).alloc (.cells #[.bool false, .slice none 0 0, .slice none 0 0] 25)
  have k4 := Blk.new ((w.alloc (.cells #[.bool b1, .slice A1 n1 c1, .slice A2 n2 c2] 25)).alloc (.cells #[.bool b2, .slice A3 n3 c3, .slice A4 n4 c4] 25)) #[.bool false, .slice none 0 0, .slice none 0 0] 25
  simp only [World.size_alloc] at k2 k3 k4
  have C := Lib.hid (divisorN (kad.below hb0) (kbd.below hb0) ok.ad ok.bd)
  have OK := Lib.hid ok
  have KAN := Lib.hid (kan.below hb0)
  have KAD := Lib.hid (kad.below hb0)
  have KBN := Lib.hid (kbn.below hb0)
  have KBD := Lib.hid (kbd.below hb0)
  have HT := Lib.hid (hT.below hb0)
  have HB := Lib.hid hb0
  have K2 := Lib.hid k2
  have K3 := Lib.hid k3
  have K4 := Lib.hid k4
  clear ha hb hT ok kan kad kbn kbd hb0 k2 k3 k4
  go_enter Tryz.func95, Tryz.ntmps95
  go_wp2_with fail
  refine C.out.mono ?_
  rintro _ w1 ⟨g, rfl, hg, hb⟩
  obtain ⟨Ag, ng, cg, rfl⟩ := hg.shape
  have k2 := K2.out.after hb
  have k3 := K3.out.after hb
  have k4 := K4.out.after hb
  replace KAN := Lib.hid (KAN.out.below hb)
  replace KAD := Lib.hid (KAD.out.below hb)
  replace KBN := Lib.hid (KBN.out.below hb)
  replace KBD := Lib.hid (KBD.out.below hb)
  replace HT := Lib.hid (HT.out.below hb)
  replace HB := Lib.hid (HB.out.trans (hb.mono HB.out.size))
  have KG := Lib.hid hg
  have hz2 : w.heap.size < w1.heap.size := k2.lt
  have hz3 : w.heap.size + 1 < w1.heap.size := k3.lt
  have hz4 : w.heap.size + 1 + 1 < w1.heap.size := k4.lt
  replace K2 := Lib.hid k2
  replace K3 := Lib.hid k3
  replace K4 := Lib.hid k4
  clear hb hg C k2 k3 k4
  have hgd : 0 < Nat.gcd a.den b.den := gcd_pos_r b.den_nz
  have hgl : Nat.gcd a.den b.den < LB ^ NL := Nat.lt_of_le_of_lt (Nat.gcd_le_left _ a.den_pos) OK.out.ad
  have HQ1 := Lib.hid fun W (h1 : Below w1.heap.size w1 W) => quotientN (KAD.out.below h1) (KG.out.below h1) OK.out.ad hgl hgd
  have HQ2 := Lib.hid fun W (h1 : Below w1.heap.size w1 W) => quotientN (KBD.out.below h1) (KG.out.below h1) OK.out.bd hgl hgd
  clear hgd hgl
  have KEEP : Hid (∀ W, Below w1.heap.size w1 W → W.cell? ⟨w.heap.size, 2, none⟩ = some (.slice A2 n2 c2) ∧ W.cell? ⟨w.heap.size + 1, 2, none⟩ = some (.slice A4 n4 c4)) := Lib.hid fun W h1 =>
    ⟨(K2.out.after h1).cell rfl, (K3.out.after h1).cell rfl⟩
  have hdrew : Below w1.heap.size w1 w1.drew := (Below.refl _ _).drew
  go_upto_region 2 with fail
  go_cut [7, 8] (fun r1 r2 wx => ∃ A5 n5 c5 A6 n6 c6, r1 = .slice A5 n5 c5 ∧ r2 = .slice A6 n6 c6 ∧ Hid (Nr wx (a.den / Nat.gcd a.den b.den) (.slice A5 n5 c5)) ∧ Hid (Nr wx (b.den / Nat.gcd a.den b.den) (.slice A6 n6 c6)) ∧ Hid (Below w1.heap.size w1 wx))
  case first =>
    go_region_held3 (fun W => W.cell? ⟨w.heap.size, 2, none⟩ = some (.slice A2 n2 c2) ∧ W.cell? ⟨w.heap.size + 1, 2, none⟩ = some (.slice A4 n4 c4))
      (first | with_reducible exact KEEP.out w1.drew hdrew | with_reducible exact KEEP.out wa hka | with_reducible exact KEEP.out wb hkb)
      (first
        | (go_at_call_of 161 n2; (with_reducible refine (HQ1.out w1.drew hdrew).mono ?_); rintro _ wa ⟨v1, rfl, hv1, hba⟩; obtain ⟨A5, n5, c5, rfl⟩ := hv1.shape; have HV1 := Lib.hid hv1; clear hv1; have hka := hdrew.trans (hba.mono hdrew.size))
        | (go_at_call_of 161 n4; (with_reducible refine (HQ2.out wa hka).mono ?_); rintro _ wb ⟨v2, rfl, hv2, hbb⟩; obtain ⟨A6, n6, c6, rfl⟩ := hv2.shape; have HV2 := Lib.hid hv2; clear hv2; have hkb := hka.trans (hbb.mono hka.size)))
    all_goals (go_wp2_with fail; go_meet; exact ⟨_, _, _, _, _, _, rfl, rfl, Lib.hid (HV1.out.below hbb), HV2, Lib.hid hkb⟩)
  case rest =>
    obtain ⟨A5, n5, c5, A6, n6, c6, rfl, rfl, HR1, HR2, HBX⟩ := hcut
    have k2 := K2.out.after HBX.out
    have k3 := K3.out.after HBX.out
    have k4 := K4.out.after HBX.out
    replace KAN := Lib.hid (KAN.out.below HBX.out)
    replace KBN := Lib.hid (KBN.out.below HBX.out)
    replace KBD := Lib.hid (KBD.out.below HBX.out)
    replace KG := Lib.hid (KG.out.below HBX.out)
    replace HT := Lib.hid (HT.out.below HBX.out)
    replace HB := Lib.hid (HB.out.trans (HBX.out.mono HB.out.size))
    have hy2 : w.heap.size < wc.heap.size := k2.lt
    have hy3 : w.heap.size + 1 < wc.heap.size := k3.lt
    have hy4 : w.heap.size + 1 + 1 < wc.heap.size := k4.lt
    replace K2 := Lib.hid k2
    replace K3 := Lib.hid k3
    replace K4 := Lib.hid k4
    have KK11 := KAN
    have KK12 := HR2
    have KK13 := KBN
    have KK14 := HR1
    clear k2 k3 k4 HBX HQ1 HQ2 KEEP hdrew hz2 hz3 hz4 KAD
    have HC1 : Hid (∀ W, (W.cell? ⟨w.heap.size, 0, none⟩ = some (.bool b1) ∧ W.cell? ⟨w.heap.size, 1, none⟩ = some (.slice A1 n1 c1) ∧ W.cell? ⟨w.heap.size, 2, none⟩ = some (.slice A2 n2 c2) ∧ W.cell? ⟨w.heap.size + 1, 0, none⟩ = some (.bool b2) ∧ W.cell? ⟨w.heap.size + 1, 1, none⟩ = some (.slice A3 n3 c3) ∧ W.cell? ⟨w.heap.size + 1, 2, none⟩ = some (.slice A4 n4 c4) ∧ Below wc.heap.size wc W) → Calls Tryz.prog 105 #[.agg #[.bool b1, .slice A1 n1 c1, .slice A2 n2 c2]] W fun e w' => ∃ x, e = .returned x ∧ (∀ V, Nr V a.num.natAbs (.slice A1 n1 c1) → Wh V (sn b1 a.num.natAbs) x) ∧ Below W.heap.size W w') := Lib.hid fun W h => numeratorN (KAN.out.below h.2.2.2.2.2.2)
    have HC2 : Hid (∀ W, (W.cell? ⟨w.heap.size, 0, none⟩ = some (.bool b1) ∧ W.cell? ⟨w.heap.size, 1, none⟩ = some (.slice A1 n1 c1) ∧ W.cell? ⟨w.heap.size, 2, none⟩ = some (.slice A2 n2 c2) ∧ W.cell? ⟨w.heap.size + 1, 0, none⟩ = some (.bool b2) ∧ W.cell? ⟨w.heap.size + 1, 1, none⟩ = some (.slice A3 n3 c3) ∧ W.cell? ⟨w.heap.size + 1, 2, none⟩ = some (.slice A4 n4 c4) ∧ Below wc.heap.size wc W) → Calls Tryz.prog 86 #[.bool false, .slice A6 n6 c6] W fun e w' => ∃ x, e = .returned x ∧ (∀ V, Nr V (b.den / Nat.gcd a.den b.den) (.slice A6 n6 c6) → Wh V (sn false (b.den / Nat.gcd a.den b.den)) x) ∧ Below W.heap.size W w') := Lib.hid fun W h => signedN false (HR2.out.below h.2.2.2.2.2.2)
    have HC3 : Hid (∀ W, (W.cell? ⟨w.heap.size, 0, none⟩ = some (.bool b1) ∧ W.cell? ⟨w.heap.size, 1, none⟩ = some (.slice A1 n1 c1) ∧ W.cell? ⟨w.heap.size, 2, none⟩ = some (.slice A2 n2 c2) ∧ W.cell? ⟨w.heap.size + 1, 0, none⟩ = some (.bool b2) ∧ W.cell? ⟨w.heap.size + 1, 1, none⟩ = some (.slice A3 n3 c3) ∧ W.cell? ⟨w.heap.size + 1, 2, none⟩ = some (.slice A4 n4 c4) ∧ Below wc.heap.size wc W) → Calls Tryz.prog 105 #[.agg #[.bool b2, .slice A3 n3 c3, .slice A4 n4 c4]] W fun e w' => ∃ x, e = .returned x ∧ (∀ V, Nr V b.num.natAbs (.slice A3 n3 c3) → Wh V (sn b2 b.num.natAbs) x) ∧ Below W.heap.size W w') := Lib.hid fun W h => numeratorN (KBN.out.below h.2.2.2.2.2.2)
    have HC4 : Hid (∀ W, (W.cell? ⟨w.heap.size, 0, none⟩ = some (.bool b1) ∧ W.cell? ⟨w.heap.size, 1, none⟩ = some (.slice A1 n1 c1) ∧ W.cell? ⟨w.heap.size, 2, none⟩ = some (.slice A2 n2 c2) ∧ W.cell? ⟨w.heap.size + 1, 0, none⟩ = some (.bool b2) ∧ W.cell? ⟨w.heap.size + 1, 1, none⟩ = some (.slice A3 n3 c3) ∧ W.cell? ⟨w.heap.size + 1, 2, none⟩ = some (.slice A4 n4 c4) ∧ Below wc.heap.size wc W) → Calls Tryz.prog 86 #[.bool false, .slice A5 n5 c5] W fun e w' => ∃ x, e = .returned x ∧ (∀ V, Nr V (a.den / Nat.gcd a.den b.den) (.slice A5 n5 c5) → Wh V (sn false (a.den / Nat.gcd a.den b.den)) x) ∧ Below W.heap.size W w') := Lib.hid fun W h => signedN false (HR1.out.below h.2.2.2.2.2.2)
    have KEEP : Hid (∀ W, Below wc.heap.size wc W → (W.cell? ⟨w.heap.size, 0, none⟩ = some (.bool b1) ∧ W.cell? ⟨w.heap.size, 1, none⟩ = some (.slice A1 n1 c1) ∧ W.cell? ⟨w.heap.size, 2, none⟩ = some (.slice A2 n2 c2) ∧ W.cell? ⟨w.heap.size + 1, 0, none⟩ = some (.bool b2) ∧ W.cell? ⟨w.heap.size + 1, 1, none⟩ = some (.slice A3 n3 c3) ∧ W.cell? ⟨w.heap.size + 1, 2, none⟩ = some (.slice A4 n4 c4) ∧ Below wc.heap.size wc W)) := Lib.hid fun W h1 =>
      ⟨(K2.out.after h1).cell rfl, (K2.out.after h1).cell rfl, (K2.out.after h1).cell rfl, (K3.out.after h1).cell rfl, (K3.out.after h1).cell rfl, (K3.out.after h1).cell rfl, h1⟩
    have NEXT : Hid (∀ W W', (W.cell? ⟨w.heap.size, 0, none⟩ = some (.bool b1) ∧ W.cell? ⟨w.heap.size, 1, none⟩ = some (.slice A1 n1 c1) ∧ W.cell? ⟨w.heap.size, 2, none⟩ = some (.slice A2 n2 c2) ∧ W.cell? ⟨w.heap.size + 1, 0, none⟩ = some (.bool b2) ∧ W.cell? ⟨w.heap.size + 1, 1, none⟩ = some (.slice A3 n3 c3) ∧ W.cell? ⟨w.heap.size + 1, 2, none⟩ = some (.slice A4 n4 c4) ∧ Below wc.heap.size wc W) → Below W.heap.size W W' → (W'.cell? ⟨w.heap.size, 0, none⟩ = some (.bool b1) ∧ W'.cell? ⟨w.heap.size, 1, none⟩ = some (.slice A1 n1 c1) ∧ W'.cell? ⟨w.heap.size, 2, none⟩ = some (.slice A2 n2 c2) ∧ W'.cell? ⟨w.heap.size + 1, 0, none⟩ = some (.bool b2) ∧ W'.cell? ⟨w.heap.size + 1, 1, none⟩ = some (.slice A3 n3 c3) ∧ W'.cell? ⟨w.heap.size + 1, 2, none⟩ = some (.slice A4 n4 c4) ∧ Below wc.heap.size wc W')) := Lib.hid fun W W' h hb => KEEP.out W' (h.2.2.2.2.2.2.trans (hb.mono h.2.2.2.2.2.2.size))
    have ALL : Hid (∀ W o, (W.cell? ⟨w.heap.size, 0, none⟩ = some (.bool b1) ∧ W.cell? ⟨w.heap.size, 1, none⟩ = some (.slice A1 n1 c1) ∧ W.cell? ⟨w.heap.size, 2, none⟩ = some (.slice A2 n2 c2) ∧ W.cell? ⟨w.heap.size + 1, 0, none⟩ = some (.bool b2) ∧ W.cell? ⟨w.heap.size + 1, 1, none⟩ = some (.slice A3 n3 c3) ∧ W.cell? ⟨w.heap.size + 1, 2, none⟩ = some (.slice A4 n4 c4) ∧ Below wc.heap.size wc W) → ((W.alloc o).cell? ⟨w.heap.size, 0, none⟩ = some (.bool b1) ∧ (W.alloc o).cell? ⟨w.heap.size, 1, none⟩ = some (.slice A1 n1 c1) ∧ (W.alloc o).cell? ⟨w.heap.size, 2, none⟩ = some (.slice A2 n2 c2) ∧ (W.alloc o).cell? ⟨w.heap.size + 1, 0, none⟩ = some (.bool b2) ∧ (W.alloc o).cell? ⟨w.heap.size + 1, 1, none⟩ = some (.slice A3 n3 c3) ∧ (W.alloc o).cell? ⟨w.heap.size + 1, 2, none⟩ = some (.slice A4 n4 c4) ∧ Below wc.heap.size wc (W.alloc o))) := Lib.hid fun W o h => NEXT.out W _ h (below1 W o)
    have ALC : Hid (∀ W w', (W.cell? ⟨w.heap.size, 0, none⟩ = some (.bool b1) ∧ W.cell? ⟨w.heap.size, 1, none⟩ = some (.slice A1 n1 c1) ∧ W.cell? ⟨w.heap.size, 2, none⟩ = some (.slice A2 n2 c2) ∧ W.cell? ⟨w.heap.size + 1, 0, none⟩ = some (.bool b2) ∧ W.cell? ⟨w.heap.size + 1, 1, none⟩ = some (.slice A3 n3 c3) ∧ W.cell? ⟨w.heap.size + 1, 2, none⟩ = some (.slice A4 n4 c4) ∧ Below wc.heap.size wc W) → Below (W.alloc (.cells #[.int .i64 0, .slice none 0 0, .int .i64 0, .slice none 0 0, .int .i64 0, .slice none 0 0, .int .i64 0, .slice none 0 0] 173)).heap.size (W.alloc (.cells #[.int .i64 0, .slice none 0 0, .int .i64 0, .slice none 0 0, .int .i64 0, .slice none 0 0, .int .i64 0, .slice none 0 0] 173)) w' → Blk w' W.heap.size 173 #[.int .i64 0, .slice none 0 0, .int .i64 0, .slice none 0 0, .int .i64 0, .slice none 0 0, .int .i64 0, .slice none 0 0] ∧ wc.heap.size ≤ W.heap.size) := Lib.hid fun W w' h hb => ⟨(Blk.new W _ _).after hb, h.2.2.2.2.2.2.size⟩
    have STO : Hid (∀ W g v0 v1 v2 v3 v4 v5 v6 v7, (W.cell? ⟨w.heap.size, 0, none⟩ = some (.bool b1) ∧ W.cell? ⟨w.heap.size, 1, none⟩ = some (.slice A1 n1 c1) ∧ W.cell? ⟨w.heap.size, 2, none⟩ = some (.slice A2 n2 c2) ∧ W.cell? ⟨w.heap.size + 1, 0, none⟩ = some (.bool b2) ∧ W.cell? ⟨w.heap.size + 1, 1, none⟩ = some (.slice A3 n3 c3) ∧ W.cell? ⟨w.heap.size + 1, 2, none⟩ = some (.slice A4 n4 c4) ∧ Below wc.heap.size wc W) → wc.heap.size ≤ g → (((((((((W.setCell ⟨g, 0, none⟩ v0).setCell ⟨g, 1, none⟩ v1).setCell ⟨g, 2, none⟩ v2).setCell ⟨g, 3, none⟩ v3).setCell ⟨g, 4, none⟩ v4).setCell ⟨g, 5, none⟩ v5).setCell ⟨g, 6, none⟩ v6).setCell ⟨g, 7, none⟩ v7).cell? ⟨w.heap.size, 0, none⟩ = some (.bool b1) ∧ ((((((((W.setCell ⟨g, 0, none⟩ v0).setCell ⟨g, 1, none⟩ v1).setCell ⟨g, 2, none⟩ v2).setCell ⟨g, 3, none⟩ v3).setCell ⟨g, 4, none⟩ v4).setCell ⟨g, 5, none⟩ v5).setCell ⟨g, 6, none⟩ v6).setCell ⟨g, 7, none⟩ v7).cell? ⟨w.heap.size, 1, none⟩ = some (.slice A1 n1 c1) ∧ ((((((((W.setCell ⟨g, 0, none⟩ v0).setCell ⟨g, 1, none⟩ v1).setCell ⟨g, 2, none⟩ v2).setCell ⟨g, 3, none⟩ v3).setCell ⟨g, 4, none⟩ v4).setCell ⟨g, 5, none⟩ v5).setCell ⟨g, 6, none⟩ v6).setCell ⟨g, 7, none⟩ v7).cell? ⟨w.heap.size, 2, none⟩ = some (.slice A2 n2 c2) ∧ ((((((((W.setCell ⟨g, 0, none⟩ v0).setCell ⟨g, 1, none⟩ v1).setCell ⟨g, 2, none⟩ v2).setCell ⟨g, 3, none⟩ v3).setCell ⟨g, 4, none⟩ v4).setCell ⟨g, 5, none⟩ v5).setCell ⟨g, 6, none⟩ v6).setCell ⟨g, 7, none⟩ v7).cell? ⟨w.heap.size + 1, 0, none⟩ = some (.bool b2) ∧ ((((((((W.setCell ⟨g, 0, none⟩ v0).setCell ⟨g, 1, none⟩ v1).setCell ⟨g, 2, none⟩ v2).setCell ⟨g, 3, none⟩ v3).setCell ⟨g, 4, none⟩ v4).setCell ⟨g, 5, none⟩ v5).setCell ⟨g, 6, none⟩ v6).setCell ⟨g, 7, none⟩ v7).cell? ⟨w.heap.size + 1, 1, none⟩ = some (.slice A3 n3 c3) ∧ ((((((((W.setCell ⟨g, 0, none⟩ v0).setCell ⟨g, 1, none⟩ v1).setCell ⟨g, 2, none⟩ v2).setCell ⟨g, 3, none⟩ v3).setCell ⟨g, 4, none⟩ v4).setCell ⟨g, 5, none⟩ v5).setCell ⟨g, 6, none⟩ v6).setCell ⟨g, 7, none⟩ v7).cell? ⟨w.heap.size + 1, 2, none⟩ = some (.slice A4 n4 c4) ∧ Below wc.heap.size wc ((((((((W.setCell ⟨g, 0, none⟩ v0).setCell ⟨g, 1, none⟩ v1).setCell ⟨g, 2, none⟩ v2).setCell ⟨g, 3, none⟩ v3).setCell ⟨g, 4, none⟩ v4).setCell ⟨g, 5, none⟩ v5).setCell ⟨g, 6, none⟩ v6).setCell ⟨g, 7, none⟩ v7))) := Lib.hid fun W g v0 v1 v2 v3 v4 v5 v6 v7 h hg =>
      KEEP.out _ ((((((((h.2.2.2.2.2.2.setCell hg _).setCell hg _).setCell hg _).setCell hg _).setCell hg _).setCell hg _).setCell hg _).setCell hg _)
    have hdrew := KEEP.out wc.drew (Below.refl _ _).drew
    have hdrewA := KEEP.out (wc.alloc (.cells #[.int .i64 0, .slice none 0 0, .int .i64 0, .slice none 0 0, .int .i64 0, .slice none 0 0, .int .i64 0, .slice none 0 0] 173)).drew (below1 wc _).drew
    have ALD : Hid (∀ w', Below ((wc.alloc (.cells #[.int .i64 0, .slice none 0 0, .int .i64 0, .slice none 0 0, .int .i64 0, .slice none 0 0, .int .i64 0, .slice none 0 0] 173)).drew).heap.size ((wc.alloc (.cells #[.int .i64 0, .slice none 0 0, .int .i64 0, .slice none 0 0, .int .i64 0, .slice none 0 0, .int .i64 0, .slice none 0 0] 173)).drew) w' → Blk w' wc.heap.size 173 #[.int .i64 0, .slice none 0 0, .int .i64 0, .slice none 0 0, .int .i64 0, .slice none 0 0, .int .i64 0, .slice none 0 0] ∧ wc.heap.size ≤ wc.heap.size) := Lib.hid fun w' hb => ⟨Blk.after (show Blk ((wc.alloc (.cells #[.int .i64 0, .slice none 0 0, .int .i64 0, .slice none 0 0, .int .i64 0, .slice none 0 0, .int .i64 0, .slice none 0 0] 173)).drew) wc.heap.size 173 #[.int .i64 0, .slice none 0 0, .int .i64 0, .slice none 0 0, .int .i64 0, .slice none 0 0, .int .i64 0, .slice none 0 0] from Blk.new wc _ _) hb, Nat.le_refl _⟩
    go_upto_region 3 with fail
    go_cut [9] (fun p wx => ∃ g s1 B1 m1 d1 s2 B2 m2 d2 s3 B3 m3 d3 s4 B4 m4 d4, p = .pointer (some ⟨g, 0, none⟩) ∧ wx.cell? ⟨g, 0, none⟩ = some (.int .i64 s1) ∧ wx.cell? ⟨g, 1, none⟩ = some (.slice B1 m1 d1) ∧ wx.cell? ⟨g, 2, none⟩ = some (.int .i64 s2) ∧ wx.cell? ⟨g, 3, none⟩ = some (.slice B2 m2 d2) ∧ wx.cell? ⟨g, 4, none⟩ = some (.int .i64 s3) ∧ wx.cell? ⟨g, 5, none⟩ = some (.slice B3 m3 d3) ∧ wx.cell? ⟨g, 6, none⟩ = some (.int .i64 s4) ∧ wx.cell? ⟨g, 7, none⟩ = some (.slice B4 m4 d4) ∧ g < wx.heap.size ∧
      Hid (Wh wx (sn b1 a.num.natAbs) (.agg #[.int .i64 s1, .slice B1 m1 d1])) ∧ Hid (Wh wx (sn false (b.den / Nat.gcd a.den b.den)) (.agg #[.int .i64 s2, .slice B2 m2 d2])) ∧ Hid (Wh wx (sn b2 b.num.natAbs) (.agg #[.int .i64 s3, .slice B3 m3 d3])) ∧ Hid (Wh wx (sn false (a.den / Nat.gcd a.den b.den)) (.agg #[.int .i64 s4, .slice B4 m4 d4])) ∧ Hid (Below wc.heap.size wc wx))
    case first =>
      go_region_held3 (fun W => W.cell? ⟨w.heap.size, 0, none⟩ = some (.bool b1) ∧ W.cell? ⟨w.heap.size, 1, none⟩ = some (.slice A1 n1 c1) ∧ W.cell? ⟨w.heap.size, 2, none⟩ = some (.slice A2 n2 c2) ∧ W.cell? ⟨w.heap.size + 1, 0, none⟩ = some (.bool b2) ∧ W.cell? ⟨w.heap.size + 1, 1, none⟩ = some (.slice A3 n3 c3) ∧ W.cell? ⟨w.heap.size + 1, 2, none⟩ = some (.slice A4 n4 c4) ∧ Below wc.heap.size wc W)
        (first | with_reducible assumption | with_reducible exact ALL.out _ _ (by with_reducible assumption) | with_reducible exact STO.out _ _ _ _ _ _ _ _ _ _ (by with_reducible assumption) hge)
        (first
          | (go_at_call_of 105 n1; (with_reducible refine (HC1.out ((wc.alloc (.cells #[.int .i64 0, .slice none 0 0, .int .i64 0, .slice none 0 0, .int .i64 0, .slice none 0 0, .int .i64 0, .slice none 0 0] 173)).drew) (by with_reducible assumption)).mono ?_); rintro _ w11 ⟨x11, rfl, hv11, hb11⟩; obtain ⟨s11, A11, n11, c11, rfl, _, _, _⟩ := (hv11 wc (KK11.out)).get; have HV11 := Lib.hid hv11; clear hv11; have hS := NEXT.out _ _ (by with_reducible assumption) hb11; obtain ⟨hA, hge⟩ := ALD.out _ hb11; have d0 := hA.cell (i := 0) rfl; have d1 := hA.cell (i := 1) rfl; have d2 := hA.cell (i := 2) rfl; have d3 := hA.cell (i := 3) rfl; have d4 := hA.cell (i := 4) rfl; have d5 := hA.cell (i := 5) rfl; have d6 := hA.cell (i := 6) rfl; have d7 := hA.cell (i := 7) rfl; have hfA := hA.free; have hlA := hA.lt)
          | (go_at_call_of 105 n1; (with_reducible refine (HC1.out (World.alloc _ (.cells #[.int .i64 0, .slice none 0 0, .int .i64 0, .slice none 0 0, .int .i64 0, .slice none 0 0, .int .i64 0, .slice none 0 0] 173)) (by with_reducible assumption)).mono ?_); rintro _ w11 ⟨x11, rfl, hv11, hb11⟩; obtain ⟨s11, A11, n11, c11, rfl, _, _, _⟩ := (hv11 wc (KK11.out)).get; have HV11 := Lib.hid hv11; clear hv11; have hS := NEXT.out _ _ (by with_reducible assumption) hb11; obtain ⟨hA, hge⟩ := ALC.out _ _ (by with_reducible assumption) hb11; have d0 := hA.cell (i := 0) rfl; have d1 := hA.cell (i := 1) rfl; have d2 := hA.cell (i := 2) rfl; have d3 := hA.cell (i := 3) rfl; have d4 := hA.cell (i := 4) rfl; have d5 := hA.cell (i := 5) rfl; have d6 := hA.cell (i := 6) rfl; have d7 := hA.cell (i := 7) rfl; have hfA := hA.free; have hlA := hA.lt)
          | (go_at_call_of 105 n1; (with_reducible refine (HC1.out _ (by with_reducible assumption)).mono ?_); rintro _ w11 ⟨x11, rfl, hv11, hb11⟩; obtain ⟨s11, A11, n11, c11, rfl, _, _, _⟩ := (hv11 wc (KK11.out)).get; have HV11 := Lib.hid hv11; clear hv11; have hS := NEXT.out _ _ (by with_reducible assumption) hb11; replace hA := hA.after hb11; have d0 := hA.cell (i := 0) rfl; have d1 := hA.cell (i := 1) rfl; have d2 := hA.cell (i := 2) rfl; have d3 := hA.cell (i := 3) rfl; have d4 := hA.cell (i := 4) rfl; have d5 := hA.cell (i := 5) rfl; have d6 := hA.cell (i := 6) rfl; have d7 := hA.cell (i := 7) rfl; have hfA := hA.free; have hlA := hA.lt)
          | (go_at_call_of 105 n1; (with_reducible refine (HC1.out _ (by with_reducible assumption)).mono ?_); rintro _ w11 ⟨x11, rfl, hv11, hb11⟩; obtain ⟨s11, A11, n11, c11, rfl, _, _, _⟩ := (hv11 wc (KK11.out)).get; have HV11 := Lib.hid hv11; clear hv11; have hS := NEXT.out _ _ (by with_reducible assumption) hb11)
          | (go_at_call_of 86 n6; (with_reducible refine (HC2.out (World.alloc _ (.cells #[.int .i64 0, .slice none 0 0, .int .i64 0, .slice none 0 0, .int .i64 0, .slice none 0 0, .int .i64 0, .slice none 0 0] 173)) (by with_reducible assumption)).mono ?_); rintro _ w12 ⟨x12, rfl, hv12, hb12⟩; obtain ⟨s12, A12, n12, c12, rfl, _, _, _⟩ := (hv12 wc (KK12.out)).get; have HV12 := Lib.hid hv12; clear hv12; have hS := NEXT.out _ _ (by with_reducible assumption) hb12; obtain ⟨hA, hge⟩ := ALC.out _ _ (by with_reducible assumption) hb12; have d0 := hA.cell (i := 0) rfl; have d1 := hA.cell (i := 1) rfl; have d2 := hA.cell (i := 2) rfl; have d3 := hA.cell (i := 3) rfl; have d4 := hA.cell (i := 4) rfl; have d5 := hA.cell (i := 5) rfl; have d6 := hA.cell (i := 6) rfl; have d7 := hA.cell (i := 7) rfl; have hfA := hA.free; have hlA := hA.lt)
          | (go_at_call_of 86 n6; (with_reducible refine (HC2.out _ (by with_reducible assumption)).mono ?_); rintro _ w12 ⟨x12, rfl, hv12, hb12⟩; obtain ⟨s12, A12, n12, c12, rfl, _, _, _⟩ := (hv12 wc (KK12.out)).get; have HV12 := Lib.hid hv12; clear hv12; have hS := NEXT.out _ _ (by with_reducible assumption) hb12; replace hA := hA.after hb12; have d0 := hA.cell (i := 0) rfl; have d1 := hA.cell (i := 1) rfl; have d2 := hA.cell (i := 2) rfl; have d3 := hA.cell (i := 3) rfl; have d4 := hA.cell (i := 4) rfl; have d5 := hA.cell (i := 5) rfl; have d6 := hA.cell (i := 6) rfl; have d7 := hA.cell (i := 7) rfl; have hfA := hA.free; have hlA := hA.lt)
          | (go_at_call_of 86 n6; (with_reducible refine (HC2.out _ (by with_reducible assumption)).mono ?_); rintro _ w12 ⟨x12, rfl, hv12, hb12⟩; obtain ⟨s12, A12, n12, c12, rfl, _, _, _⟩ := (hv12 wc (KK12.out)).get; have HV12 := Lib.hid hv12; clear hv12; have hS := NEXT.out _ _ (by with_reducible assumption) hb12)
          | (go_at_call_of 105 n3; (with_reducible refine (HC3.out (World.alloc _ (.cells #[.int .i64 0, .slice none 0 0, .int .i64 0, .slice none 0 0, .int .i64 0, .slice none 0 0, .int .i64 0, .slice none 0 0] 173)) (by with_reducible assumption)).mono ?_); rintro _ w13 ⟨x13, rfl, hv13, hb13⟩; obtain ⟨s13, A13, n13, c13, rfl, _, _, _⟩ := (hv13 wc (KK13.out)).get; have HV13 := Lib.hid hv13; clear hv13; have hS := NEXT.out _ _ (by with_reducible assumption) hb13; obtain ⟨hA, hge⟩ := ALC.out _ _ (by with_reducible assumption) hb13; have d0 := hA.cell (i := 0) rfl; have d1 := hA.cell (i := 1) rfl; have d2 := hA.cell (i := 2) rfl; have d3 := hA.cell (i := 3) rfl; have d4 := hA.cell (i := 4) rfl; have d5 := hA.cell (i := 5) rfl; have d6 := hA.cell (i := 6) rfl; have d7 := hA.cell (i := 7) rfl; have hfA := hA.free; have hlA := hA.lt)
          | (go_at_call_of 105 n3; (with_reducible refine (HC3.out _ (by with_reducible assumption)).mono ?_); rintro _ w13 ⟨x13, rfl, hv13, hb13⟩; obtain ⟨s13, A13, n13, c13, rfl, _, _, _⟩ := (hv13 wc (KK13.out)).get; have HV13 := Lib.hid hv13; clear hv13; have hS := NEXT.out _ _ (by with_reducible assumption) hb13; replace hA := hA.after hb13; have d0 := hA.cell (i := 0) rfl; have d1 := hA.cell (i := 1) rfl; have d2 := hA.cell (i := 2) rfl; have d3 := hA.cell (i := 3) rfl; have d4 := hA.cell (i := 4) rfl; have d5 := hA.cell (i := 5) rfl; have d6 := hA.cell (i := 6) rfl; have d7 := hA.cell (i := 7) rfl; have hfA := hA.free; have hlA := hA.lt)
          | (go_at_call_of 105 n3; (with_reducible refine (HC3.out _ (by with_reducible assumption)).mono ?_); rintro _ w13 ⟨x13, rfl, hv13, hb13⟩; obtain ⟨s13, A13, n13, c13, rfl, _, _, _⟩ := (hv13 wc (KK13.out)).get; have HV13 := Lib.hid hv13; clear hv13; have hS := NEXT.out _ _ (by with_reducible assumption) hb13)
          | (go_at_call_of 86 n5; (with_reducible refine (HC4.out (World.alloc _ (.cells #[.int .i64 0, .slice none 0 0, .int .i64 0, .slice none 0 0, .int .i64 0, .slice none 0 0, .int .i64 0, .slice none 0 0] 173)) (by with_reducible assumption)).mono ?_); rintro _ w14 ⟨x14, rfl, hv14, hb14⟩; obtain ⟨s14, A14, n14, c14, rfl, _, _, _⟩ := (hv14 wc (KK14.out)).get; have HV14 := Lib.hid hv14; clear hv14; have hS := NEXT.out _ _ (by with_reducible assumption) hb14; obtain ⟨hA, hge⟩ := ALC.out _ _ (by with_reducible assumption) hb14; have d0 := hA.cell (i := 0) rfl; have d1 := hA.cell (i := 1) rfl; have d2 := hA.cell (i := 2) rfl; have d3 := hA.cell (i := 3) rfl; have d4 := hA.cell (i := 4) rfl; have d5 := hA.cell (i := 5) rfl; have d6 := hA.cell (i := 6) rfl; have d7 := hA.cell (i := 7) rfl; have hfA := hA.free; have hlA := hA.lt)
          | (go_at_call_of 86 n5; (with_reducible refine (HC4.out _ (by with_reducible assumption)).mono ?_); rintro _ w14 ⟨x14, rfl, hv14, hb14⟩; obtain ⟨s14, A14, n14, c14, rfl, _, _, _⟩ := (hv14 wc (KK14.out)).get; have HV14 := Lib.hid hv14; clear hv14; have hS := NEXT.out _ _ (by with_reducible assumption) hb14; replace hA := hA.after hb14; have d0 := hA.cell (i := 0) rfl; have d1 := hA.cell (i := 1) rfl; have d2 := hA.cell (i := 2) rfl; have d3 := hA.cell (i := 3) rfl; have d4 := hA.cell (i := 4) rfl; have d5 := hA.cell (i := 5) rfl; have d6 := hA.cell (i := 6) rfl; have d7 := hA.cell (i := 7) rfl; have hfA := hA.free; have hlA := hA.lt)
          | (go_at_call_of 86 n5; (with_reducible refine (HC4.out _ (by with_reducible assumption)).mono ?_); rintro _ w14 ⟨x14, rfl, hv14, hb14⟩; obtain ⟨s14, A14, n14, c14, rfl, _, _, _⟩ := (hv14 wc (KK14.out)).get; have HV14 := Lib.hid hv14; clear hv14; have hS := NEXT.out _ _ (by with_reducible assumption) hb14))
      all_goals
        go_wp2_with fail
        go_meet
        first
          | (obtain ⟨q0, q1, q2, q3, q4, q5, q6, q7, q8⟩ := (hA.set8 (.int .i64 s11) (.slice A11 n11 c11) (.int .i64 s12) (.slice A12 n12 c12) (.int .i64 s13) (.slice A13 n13 c13) (.int .i64 s14) (.slice A14 n14 c14)).cells8; have h := STO.out _ _ (.int .i64 s11) (.slice A11 n11 c11) (.int .i64 s12) (.slice A12 n12 c12) (.int .i64 s13) (.slice A13 n13 c13) (.int .i64 s14) (.slice A14 n14 c14) hS hge; with_reducible exact ⟨_, s11, A11, n11, c11, s12, A12, n12, c12, s13, A13, n13, c13, s14, A14, n14, c14, rfl, q0, q1, q2, q3, q4, q5, q6, q7, q8, Lib.hid (HV11.out _ (KAN.out.below h.2.2.2.2.2.2)), Lib.hid (HV12.out _ (HR2.out.below h.2.2.2.2.2.2)), Lib.hid (HV13.out _ (KBN.out.below h.2.2.2.2.2.2)), Lib.hid (HV14.out _ (HR1.out.below h.2.2.2.2.2.2)), Lib.hid h.2.2.2.2.2.2⟩)
          | (obtain ⟨q0, q1, q2, q3, q4, q5, q6, q7, q8⟩ := (Blk.new w14 #[.int .i64 s11, .slice A11 n11 c11, .int .i64 s12, .slice A12 n12 c12, .int .i64 s13, .slice A13 n13 c13, .int .i64 s14, .slice A14 n14 c14] 173).cells8; have h := ALL.out _ (.cells #[.int .i64 s11, .slice A11 n11 c11, .int .i64 s12, .slice A12 n12 c12, .int .i64 s13, .slice A13 n13 c13, .int .i64 s14, .slice A14 n14 c14] 173) hS; with_reducible exact ⟨_, s11, A11, n11, c11, s12, A12, n12, c12, s13, A13, n13, c13, s14, A14, n14, c14, rfl, q0, q1, q2, q3, q4, q5, q6, q7, q8, Lib.hid (HV11.out _ (KAN.out.below h.2.2.2.2.2.2)), Lib.hid (HV12.out _ (HR2.out.below h.2.2.2.2.2.2)), Lib.hid (HV13.out _ (KBN.out.below h.2.2.2.2.2.2)), Lib.hid (HV14.out _ (HR1.out.below h.2.2.2.2.2.2)), Lib.hid h.2.2.2.2.2.2⟩)
    case rest =>
      obtain ⟨g, s1, B1, m1, d1, s2, B2, m2, d2, s3, B3, m3, d3, s4, B4, m4, d4, rfl, q0, q1, q2, q3, q4, q5, q6, q7, hg, HW1, HW2, HW3, HW4, HBY⟩ := hcut
      have k2 := K2.out.after HBY.out
      have k3 := K3.out.after HBY.out
      have k4 := K4.out.after HBY.out
      replace KBD := Lib.hid (KBD.out.below HBY.out)
      replace KG := Lib.hid (KG.out.below HBY.out)
      replace HT := Lib.hid (HT.out.below HBY.out)
      replace HR1 := Lib.hid (HR1.out.below HBY.out)
      replace HB := Lib.hid (HB.out.trans (HBY.out.mono HB.out.size))
      replace HW1 := Lib.hid (HW1.out.cast (show sn b1 a.num.natAbs = a.num by rw [eb1.out, sn_num]))
      replace HW2 := Lib.hid (HW2.out.cast (show sn false (b.den / Nat.gcd a.den b.den) = ((b.den / Nat.gcd a.den b.den : Nat) : Int) from rfl))
      replace HW3 := Lib.hid (HW3.out.cast (show sn b2 b.num.natAbs = b.num by rw [eb2.out, sn_num]))
      replace HW4 := Lib.hid (HW4.out.cast (show sn false (a.den / Nat.gcd a.den b.den) = ((a.den / Nat.gcd a.den b.den : Nat) : Int) from rfl))
      replace K2 := Lib.hid k2
      replace K3 := Lib.hid k3
      replace K4 := Lib.hid k4
      clear k2 k3 k4 HBY KEEP NEXT ALL ALC STO ALD hdrew hdrewA HC1 HC2 HC3 HC4 KK11 KK12 KK13 KK14 KAN KBN HR2 hy2 hy3 hy4
      have hal : a.den / Nat.gcd a.den b.den < LB ^ NL := Nat.lt_of_le_of_lt (Nat.div_le_self _ _) OK.out.ad
      have hbl : b.den / Nat.gcd a.den b.den < LB ^ NL := Nat.lt_of_le_of_lt (Nat.div_le_self _ _) OK.out.bd
      have HC1 : Hid (∀ W, (W.cell? ⟨g, 0, none⟩ = some (.int .i64 s1) ∧ W.cell? ⟨g, 1, none⟩ = some (.slice B1 m1 d1) ∧ W.cell? ⟨g, 2, none⟩ = some (.int .i64 s2) ∧ W.cell? ⟨g, 3, none⟩ = some (.slice B2 m2 d2) ∧ W.cell? ⟨g, 4, none⟩ = some (.int .i64 s3) ∧ W.cell? ⟨g, 5, none⟩ = some (.slice B3 m3 d3) ∧ W.cell? ⟨g, 6, none⟩ = some (.int .i64 s4) ∧ W.cell? ⟨g, 7, none⟩ = some (.slice B4 m4 d4) ∧ Below wc.heap.size wc W) → Calls Tryz.prog 86 #[.bool false, .slice none 0 0] W fun e w' => e = .returned (.agg #[.int .i64 1, .slice none 0 0]) ∧ Below W.heap.size W w') := Lib.hid fun W _ => signedNil W
      have HC2 : Hid (∀ W, (W.cell? ⟨g, 0, none⟩ = some (.int .i64 s1) ∧ W.cell? ⟨g, 1, none⟩ = some (.slice B1 m1 d1) ∧ W.cell? ⟨g, 2, none⟩ = some (.int .i64 s2) ∧ W.cell? ⟨g, 3, none⟩ = some (.slice B2 m2 d2) ∧ W.cell? ⟨g, 4, none⟩ = some (.int .i64 s3) ∧ W.cell? ⟨g, 5, none⟩ = some (.slice B3 m3 d3) ∧ W.cell? ⟨g, 6, none⟩ = some (.int .i64 s4) ∧ W.cell? ⟨g, 7, none⟩ = some (.slice B4 m4 d4) ∧ Below wc.heap.size wc W) → Calls Tryz.prog 167 #[.agg #[.int .i64 s1, .slice B1 m1 d1, .int .i64 s2, .slice B2 m2 d2, .int .i64 s3, .slice B3 m3 d3, .int .i64 s4, .slice B4 m4 d4], .agg #[.int .i64 1, .slice none 0 0], .func (.func 168) #[] #[]] W fun e w' => ∃ t, e = .returned (.tuple #[t, .int .i64 0]) ∧ Wh w' (a.num * ((b.den / Nat.gcd a.den b.den : Nat) : Int) + b.num * ((a.den / Nat.gcd a.den b.den : Nat) : Int)) t ∧ Below W.heap.size W w') := Lib.hid fun W h =>
        foldSum (HW1.out.below h.2.2.2.2.2.2.2.2) (HW2.out.below h.2.2.2.2.2.2.2.2) (HW3.out.below h.2.2.2.2.2.2.2.2) (HW4.out.below h.2.2.2.2.2.2.2.2) (HT.out.below h.2.2.2.2.2.2.2.2) OK.out.an (by rw [Int.natAbs_natCast]; exact hbl) OK.out.bn (by rw [Int.natAbs_natCast]; exact hal) OK.out.x OK.out.y OK.out.xy
      have KEEP : Hid (∀ W, Below wc.heap.size wc W → (W.cell? ⟨g, 0, none⟩ = some (.int .i64 s1) ∧ W.cell? ⟨g, 1, none⟩ = some (.slice B1 m1 d1) ∧ W.cell? ⟨g, 2, none⟩ = some (.int .i64 s2) ∧ W.cell? ⟨g, 3, none⟩ = some (.slice B2 m2 d2) ∧ W.cell? ⟨g, 4, none⟩ = some (.int .i64 s3) ∧ W.cell? ⟨g, 5, none⟩ = some (.slice B3 m3 d3) ∧ W.cell? ⟨g, 6, none⟩ = some (.int .i64 s4) ∧ W.cell? ⟨g, 7, none⟩ = some (.slice B4 m4 d4) ∧ Below wc.heap.size wc W)) := Lib.hid fun W h1 => ⟨(h1.cell (p := ⟨g, 0, none⟩) hg).trans q0, (h1.cell (p := ⟨g, 1, none⟩) hg).trans q1, (h1.cell (p := ⟨g, 2, none⟩) hg).trans q2, (h1.cell (p := ⟨g, 3, none⟩) hg).trans q3, (h1.cell (p := ⟨g, 4, none⟩) hg).trans q4, (h1.cell (p := ⟨g, 5, none⟩) hg).trans q5, (h1.cell (p := ⟨g, 6, none⟩) hg).trans q6, (h1.cell (p := ⟨g, 7, none⟩) hg).trans q7, h1⟩
      have NEXT : Hid (∀ W W', (W.cell? ⟨g, 0, none⟩ = some (.int .i64 s1) ∧ W.cell? ⟨g, 1, none⟩ = some (.slice B1 m1 d1) ∧ W.cell? ⟨g, 2, none⟩ = some (.int .i64 s2) ∧ W.cell? ⟨g, 3, none⟩ = some (.slice B2 m2 d2) ∧ W.cell? ⟨g, 4, none⟩ = some (.int .i64 s3) ∧ W.cell? ⟨g, 5, none⟩ = some (.slice B3 m3 d3) ∧ W.cell? ⟨g, 6, none⟩ = some (.int .i64 s4) ∧ W.cell? ⟨g, 7, none⟩ = some (.slice B4 m4 d4) ∧ Below wc.heap.size wc W) → Below W.heap.size W W' → (W'.cell? ⟨g, 0, none⟩ = some (.int .i64 s1) ∧ W'.cell? ⟨g, 1, none⟩ = some (.slice B1 m1 d1) ∧ W'.cell? ⟨g, 2, none⟩ = some (.int .i64 s2) ∧ W'.cell? ⟨g, 3, none⟩ = some (.slice B2 m2 d2) ∧ W'.cell? ⟨g, 4, none⟩ = some (.int .i64 s3) ∧ W'.cell? ⟨g, 5, none⟩ = some (.slice B3 m3 d3) ∧ W'.cell? ⟨g, 6, none⟩ = some (.int .i64 s4) ∧ W'.cell? ⟨g, 7, none⟩ = some (.slice B4 m4 d4) ∧ Below wc.heap.size wc W')) := Lib.hid fun W W' h hb => KEEP.out W' (h.2.2.2.2.2.2.2.2.trans (hb.mono h.2.2.2.2.2.2.2.2.size))
      have ALL : Hid (∀ W o, (W.cell? ⟨g, 0, none⟩ = some (.int .i64 s1) ∧ W.cell? ⟨g, 1, none⟩ = some (.slice B1 m1 d1) ∧ W.cell? ⟨g, 2, none⟩ = some (.int .i64 s2) ∧ W.cell? ⟨g, 3, none⟩ = some (.slice B2 m2 d2) ∧ W.cell? ⟨g, 4, none⟩ = some (.int .i64 s3) ∧ W.cell? ⟨g, 5, none⟩ = some (.slice B3 m3 d3) ∧ W.cell? ⟨g, 6, none⟩ = some (.int .i64 s4) ∧ W.cell? ⟨g, 7, none⟩ = some (.slice B4 m4 d4) ∧ Below wc.heap.size wc W) → ((W.alloc o).cell? ⟨g, 0, none⟩ = some (.int .i64 s1) ∧ (W.alloc o).cell? ⟨g, 1, none⟩ = some (.slice B1 m1 d1) ∧ (W.alloc o).cell? ⟨g, 2, none⟩ = some (.int .i64 s2) ∧ (W.alloc o).cell? ⟨g, 3, none⟩ = some (.slice B2 m2 d2) ∧ (W.alloc o).cell? ⟨g, 4, none⟩ = some (.int .i64 s3) ∧ (W.alloc o).cell? ⟨g, 5, none⟩ = some (.slice B3 m3 d3) ∧ (W.alloc o).cell? ⟨g, 6, none⟩ = some (.int .i64 s4) ∧ (W.alloc o).cell? ⟨g, 7, none⟩ = some (.slice B4 m4 d4) ∧ Below wc.heap.size wc (W.alloc o))) := Lib.hid fun W o h => NEXT.out W _ h (below1 W o)
      have ALC : Hid (∀ W w', (W.cell? ⟨g, 0, none⟩ = some (.int .i64 s1) ∧ W.cell? ⟨g, 1, none⟩ = some (.slice B1 m1 d1) ∧ W.cell? ⟨g, 2, none⟩ = some (.int .i64 s2) ∧ W.cell? ⟨g, 3, none⟩ = some (.slice B2 m2 d2) ∧ W.cell? ⟨g, 4, none⟩ = some (.int .i64 s3) ∧ W.cell? ⟨g, 5, none⟩ = some (.slice B3 m3 d3) ∧ W.cell? ⟨g, 6, none⟩ = some (.int .i64 s4) ∧ W.cell? ⟨g, 7, none⟩ = some (.slice B4 m4 d4) ∧ Below wc.heap.size wc W) → Below (W.alloc (.cells #[.int .i64 0, .slice none 0 0] 102)).heap.size (W.alloc (.cells #[.int .i64 0, .slice none 0 0] 102)) w' → Blk w' W.heap.size 102 #[.int .i64 0, .slice none 0 0] ∧ wc.heap.size ≤ W.heap.size) := Lib.hid fun W w' h hb => ⟨(Blk.new W _ _).after hb, h.2.2.2.2.2.2.2.2.size⟩
      have STO : Hid (∀ W p u v, (W.cell? ⟨g, 0, none⟩ = some (.int .i64 s1) ∧ W.cell? ⟨g, 1, none⟩ = some (.slice B1 m1 d1) ∧ W.cell? ⟨g, 2, none⟩ = some (.int .i64 s2) ∧ W.cell? ⟨g, 3, none⟩ = some (.slice B2 m2 d2) ∧ W.cell? ⟨g, 4, none⟩ = some (.int .i64 s3) ∧ W.cell? ⟨g, 5, none⟩ = some (.slice B3 m3 d3) ∧ W.cell? ⟨g, 6, none⟩ = some (.int .i64 s4) ∧ W.cell? ⟨g, 7, none⟩ = some (.slice B4 m4 d4) ∧ Below wc.heap.size wc W) → wc.heap.size ≤ p → (((W.setCell ⟨p, 0, none⟩ u).setCell ⟨p, 1, none⟩ v).cell? ⟨g, 0, none⟩ = some (.int .i64 s1) ∧ ((W.setCell ⟨p, 0, none⟩ u).setCell ⟨p, 1, none⟩ v).cell? ⟨g, 1, none⟩ = some (.slice B1 m1 d1) ∧ ((W.setCell ⟨p, 0, none⟩ u).setCell ⟨p, 1, none⟩ v).cell? ⟨g, 2, none⟩ = some (.int .i64 s2) ∧ ((W.setCell ⟨p, 0, none⟩ u).setCell ⟨p, 1, none⟩ v).cell? ⟨g, 3, none⟩ = some (.slice B2 m2 d2) ∧ ((W.setCell ⟨p, 0, none⟩ u).setCell ⟨p, 1, none⟩ v).cell? ⟨g, 4, none⟩ = some (.int .i64 s3) ∧ ((W.setCell ⟨p, 0, none⟩ u).setCell ⟨p, 1, none⟩ v).cell? ⟨g, 5, none⟩ = some (.slice B3 m3 d3) ∧ ((W.setCell ⟨p, 0, none⟩ u).setCell ⟨p, 1, none⟩ v).cell? ⟨g, 6, none⟩ = some (.int .i64 s4) ∧ ((W.setCell ⟨p, 0, none⟩ u).setCell ⟨p, 1, none⟩ v).cell? ⟨g, 7, none⟩ = some (.slice B4 m4 d4) ∧ Below wc.heap.size wc ((W.setCell ⟨p, 0, none⟩ u).setCell ⟨p, 1, none⟩ v))) := Lib.hid fun W p u v h hg => KEEP.out _ ((h.2.2.2.2.2.2.2.2.setCell hg _).setCell hg _)
      have hdrew := KEEP.out wc.drew (Below.refl _ _).drew
      have hdrewA := KEEP.out ((wc.alloc (.cells #[.int .i64 0, .slice none 0 0] 102)).drew) (below1 wc _).drew
      have ALD : Hid (∀ w', Below ((wc.alloc (.cells #[.int .i64 0, .slice none 0 0] 102)).drew).heap.size ((wc.alloc (.cells #[.int .i64 0, .slice none 0 0] 102)).drew) w' → Blk w' wc.heap.size 102 #[.int .i64 0, .slice none 0 0] ∧ wc.heap.size ≤ wc.heap.size) := Lib.hid fun w' hb => ⟨Blk.after (show Blk ((wc.alloc (.cells #[.int .i64 0, .slice none 0 0] 102)).drew) wc.heap.size 102 #[.int .i64 0, .slice none 0 0] from Blk.new wc _ _) hb, Nat.le_refl _⟩
      clear hal hbl q0 q1 q2 q3 q4 q5 q6 q7
      go_upto_region 4 with fail
      go_cut [10, 11] (fun p e wx => ∃ g s B m d, p = .pointer (some ⟨g, 0, none⟩) ∧ e = .int .i64 0 ∧ wx.cell? ⟨g, 0, none⟩ = some (.int .i64 s) ∧ wx.cell? ⟨g, 1, none⟩ = some (.slice B m d) ∧ g < wx.heap.size ∧
        Hid (Wh wx (a.num * ((b.den / Nat.gcd a.den b.den : Nat) : Int) + b.num * ((a.den / Nat.gcd a.den b.den : Nat) : Int)) (.agg #[.int .i64 s, .slice B m d])) ∧ Hid (Below wc.heap.size wc wx))
      case first =>
        go_region_held3 (fun W => W.cell? ⟨g, 0, none⟩ = some (.int .i64 s1) ∧ W.cell? ⟨g, 1, none⟩ = some (.slice B1 m1 d1) ∧ W.cell? ⟨g, 2, none⟩ = some (.int .i64 s2) ∧ W.cell? ⟨g, 3, none⟩ = some (.slice B2 m2 d2) ∧ W.cell? ⟨g, 4, none⟩ = some (.int .i64 s3) ∧ W.cell? ⟨g, 5, none⟩ = some (.slice B3 m3 d3) ∧ W.cell? ⟨g, 6, none⟩ = some (.int .i64 s4) ∧ W.cell? ⟨g, 7, none⟩ = some (.slice B4 m4 d4) ∧ Below wc.heap.size wc W)
          (first | with_reducible assumption | with_reducible exact ALL.out _ _ (by with_reducible assumption) | with_reducible exact STO.out _ _ _ _ (by with_reducible assumption) hge)
          (first
            | (go_at_call 86; (with_reducible refine (HC1.out ((wc.alloc (.cells #[.int .i64 0, .slice none 0 0] 102)).drew) (by with_reducible assumption)).mono ?_); rintro _ w21 ⟨rfl, hb21⟩;  have hS := NEXT.out _ _ (by with_reducible assumption) hb21; obtain ⟨hA, hge⟩ := ALD.out _ hb21; have d0 := hA.cell (i := 0) rfl; have d1 := hA.cell (i := 1) rfl; have hfA := hA.free; have hlA := hA.lt)
            | (go_at_call 86; (with_reducible refine (HC1.out (World.alloc _ (.cells #[.int .i64 0, .slice none 0 0] 102)) (by with_reducible assumption)).mono ?_); rintro _ w21 ⟨rfl, hb21⟩;  have hS := NEXT.out _ _ (by with_reducible assumption) hb21; obtain ⟨hA, hge⟩ := ALC.out _ _ (by with_reducible assumption) hb21; have d0 := hA.cell (i := 0) rfl; have d1 := hA.cell (i := 1) rfl; have hfA := hA.free; have hlA := hA.lt)
            | (go_at_call 86; (with_reducible refine (HC1.out _ (by with_reducible assumption)).mono ?_); rintro _ w21 ⟨rfl, hb21⟩;  have hS := NEXT.out _ _ (by with_reducible assumption) hb21; replace hA := hA.after hb21; have d0 := hA.cell (i := 0) rfl; have d1 := hA.cell (i := 1) rfl; have hfA := hA.free; have hlA := hA.lt)
            | (go_at_call 86; (with_reducible refine (HC1.out _ (by with_reducible assumption)).mono ?_); rintro _ w21 ⟨rfl, hb21⟩;  have hS := NEXT.out _ _ (by with_reducible assumption) hb21)
            | (go_at_call 167; (with_reducible refine (HC2.out ((wc.alloc (.cells #[.int .i64 0, .slice none 0 0] 102)).drew) (by with_reducible assumption)).mono ?_); rintro _ w22 ⟨x22, rfl, hv22, hb22⟩; obtain ⟨s22, A22, n22, c22, rfl, _, _, _⟩ := hv22.get; have HV22 := Lib.hid hv22; clear hv22; have hS := NEXT.out _ _ (by with_reducible assumption) hb22; obtain ⟨hA, hge⟩ := ALD.out _ hb22; have d0 := hA.cell (i := 0) rfl; have d1 := hA.cell (i := 1) rfl; have hfA := hA.free; have hlA := hA.lt)
            | (go_at_call 167; (with_reducible refine (HC2.out (World.alloc _ (.cells #[.int .i64 0, .slice none 0 0] 102)) (by with_reducible assumption)).mono ?_); rintro _ w22 ⟨x22, rfl, hv22, hb22⟩; obtain ⟨s22, A22, n22, c22, rfl, _, _, _⟩ := hv22.get; have HV22 := Lib.hid hv22; clear hv22; have hS := NEXT.out _ _ (by with_reducible assumption) hb22; obtain ⟨hA, hge⟩ := ALC.out _ _ (by with_reducible assumption) hb22; have d0 := hA.cell (i := 0) rfl; have d1 := hA.cell (i := 1) rfl; have hfA := hA.free; have hlA := hA.lt)
            | (go_at_call 167; (with_reducible refine (HC2.out _ (by with_reducible assumption)).mono ?_); rintro _ w22 ⟨x22, rfl, hv22, hb22⟩; obtain ⟨s22, A22, n22, c22, rfl, _, _, _⟩ := hv22.get; have HV22 := Lib.hid hv22; clear hv22; have hS := NEXT.out _ _ (by with_reducible assumption) hb22; replace hA := hA.after hb22; have d0 := hA.cell (i := 0) rfl; have d1 := hA.cell (i := 1) rfl; have hfA := hA.free; have hlA := hA.lt)
            | (go_at_call 167; (with_reducible refine (HC2.out _ (by with_reducible assumption)).mono ?_); rintro _ w22 ⟨x22, rfl, hv22, hb22⟩; obtain ⟨s22, A22, n22, c22, rfl, _, _, _⟩ := hv22.get; have HV22 := Lib.hid hv22; clear hv22; have hS := NEXT.out _ _ (by with_reducible assumption) hb22))
        all_goals
          go_wp2_with fail
          go_meet
          first
            | (obtain ⟨q0, q1, q2⟩ := (hA.set2 (.int .i64 s22) (.slice A22 n22 c22)).cells2; have h := STO.out _ _ (.int .i64 s22) (.slice A22 n22 c22) hS hge; have hq := HV22.out.put2 (i := 0) (j := 1) (u := .int .i64 s22) (x := .slice A22 n22 c22) hA (hnoW _ _ _ _); with_reducible exact ⟨_, s22, A22, n22, c22, rfl, rfl, q0, q1, q2, Lib.hid hq, Lib.hid h.2.2.2.2.2.2.2.2⟩)
            | (obtain ⟨q0, q1, q2⟩ := (Blk.new w22 #[.int .i64 s22, .slice A22 n22 c22] 102).cells2; have h := ALL.out _ (.cells #[.int .i64 s22, .slice A22 n22 c22] 102) hS; have hq := HV22.out.below (below1 w22 (.cells #[.int .i64 s22, .slice A22 n22 c22] 102)); with_reducible exact ⟨_, s22, A22, n22, c22, rfl, rfl, q0, q1, q2, Lib.hid hq, Lib.hid h.2.2.2.2.2.2.2.2⟩)
      case rest =>
        obtain ⟨p, s5, B5, m5, d5, rfl, rfl, q0, q1, hp, HW5, HBZ⟩ := hcut
        have k3 := K3.out.after HBZ.out
        have k4 := K4.out.after HBZ.out
        replace KBD := Lib.hid (KBD.out.below HBZ.out)
        replace KG := Lib.hid (KG.out.below HBZ.out)
        replace HR1 := Lib.hid (HR1.out.below HBZ.out)
        replace HB := Lib.hid (HB.out.trans (HBZ.out.mono HB.out.size))
        clear HBZ KEEP NEXT ALL ALC STO ALD hdrew hdrewA HC1 HC2 HW1 HW2 HW3 HW4 HT K2 K3 K4
        obtain ⟨s5', B5', m5', d5', e5, hn5, es5, hs5⟩ := HW5.out.get
        simp only [Value.agg.injEq, Array.mk.injEq, List.cons.injEq, Value.int.injEq, Value.slice.injEq, and_true, true_and] at e5
        obtain ⟨rfl, rfl, rfl, rfl⟩ := e5
        have hgd : 0 < (Nat.gcd a.den b.den) := gcd_pos_r b.den_nz
        have hgl : (Nat.gcd a.den b.den) < LB ^ NL := Nat.lt_of_le_of_lt (Nat.gcd_le_left _ a.den_pos) OK.out.ad
        have htl : (a.num * ((b.den / Nat.gcd a.den b.den : Nat) : Int) + b.num * ((a.den / Nat.gcd a.den b.den : Nat) : Int)).natAbs < LB ^ NL := Nat.lt_of_le_of_lt (Int.natAbs_add_le _ _) OK.out.xy
        have hsd : 0 < (Nat.gcd (a.num * ((b.den / Nat.gcd a.den b.den : Nat) : Int) + b.num * ((a.den / Nat.gcd a.den b.den : Nat) : Int)).natAbs (Nat.gcd a.den b.den)) := gcd_pos_r (Nat.pos_iff_ne_zero.1 hgd)
        have hsl : (Nat.gcd (a.num * ((b.den / Nat.gcd a.den b.den : Nat) : Int) + b.num * ((a.den / Nat.gcd a.den b.den : Nat) : Int)).natAbs (Nat.gcd a.den b.den)) < LB ^ NL := Nat.lt_of_le_of_lt (Nat.gcd_le_right _ hgd) hgl
        have hal : a.den / (Nat.gcd a.den b.den) < LB ^ NL := Nat.lt_of_le_of_lt (Nat.div_le_self _ _) OK.out.ad
        have hbl : b.den / (Nat.gcd (a.num * ((b.den / Nat.gcd a.den b.den : Nat) : Int) + b.num * ((a.den / Nat.gcd a.den b.den : Nat) : Int)).natAbs (Nat.gcd a.den b.den)) < LB ^ NL := Nat.lt_of_le_of_lt (Nat.div_le_self _ _) OK.out.bd
        have hdl : a.den / (Nat.gcd a.den b.den) * (b.den / (Nat.gcd (a.num * ((b.den / Nat.gcd a.den b.den : Nat) : Int) + b.num * ((a.den / Nat.gcd a.den b.den : Nat) : Int)).natAbs (Nat.gcd a.den b.den))) < LB ^ NL := Nat.lt_of_le_of_lt (Nat.mul_le_mul (Nat.div_le_self _ _) (Nat.div_le_self _ _)) OK.out.d
        obtain ⟨e1, e2, e3, _⟩ := sum_steps a b
        have E1 := Lib.hid e1
        have E2 := Lib.hid e2
        have E3 := Lib.hid e3
        clear e1 e2 e3
        have N5 := Lib.hid hn5
        have BL := Lib.hid (And.intro hgl (And.intro htl (And.intro hsd (And.intro hsl (And.intro hal (And.intro hbl hdl))))))
        have C := Lib.hid (divisorN hn5 KG.out htl hgl)
        have z3 : w.heap.size + 1 < wc.heap.size := k3.lt
        have z4 : w.heap.size + 1 + 1 < wc.heap.size := k4.lt
        have K3 := Lib.hid k3
        have K4 := Lib.hid k4
        clear hn5 hgl htl hsd hsl hal hbl hdl hgd k3 k4 KG HW5
        go_wp2_with fail
        refine C.out.mono ?_
        rintro _ w2 ⟨x, rfl, hx, hb⟩
        obtain ⟨A7, n7, c7, rfl⟩ := hx.shape
        have k3 := K3.out.after hb
        have c3 := k3.cell (i := 2) rfl
        have z3' : w.heap.size + 1 < w2.heap.size := k3.lt
        have KS := Lib.hid hx
        replace KBD := Lib.hid (KBD.out.below hb)
        replace HR1 := Lib.hid (HR1.out.below hb)
        replace N5 := Lib.hid (N5.out.below hb)
        replace K4 := Lib.hid (K4.out.after hb)
        replace HB := Lib.hid (HB.out.trans (hb.mono HB.out.size))
        have q0' := (hb.cell (p := ⟨p, 0, none⟩) hp).trans q0
        have q1' := (hb.cell (p := ⟨p, 1, none⟩) hp).trans q1
        have hp' : p < w2.heap.size := Nat.lt_of_lt_of_le hp hb.size
        have C2 := Lib.hid (quotientN KBD.out hx OK.out.bd BL.out.2.2.2.1 BL.out.2.2.1)
        clear hb hx C k3 q0 q1 hp z3 z4 K3
        go_wp2_with fail
        refine C2.out.mono ?_
        rintro _ w3 ⟨x, rfl, hx, hb⟩
        obtain ⟨A8, n8, c8, rfl⟩ := hx.shape
        replace KS := Lib.hid (KS.out.below hb)
        replace HR1 := Lib.hid (HR1.out.below hb)
        replace N5 := Lib.hid (N5.out.below hb)
        replace K4 := Lib.hid (K4.out.after hb)
        replace HB := Lib.hid (HB.out.trans (hb.mono HB.out.size))
        have q0 := (hb.cell (p := ⟨p, 0, none⟩) hp').trans q0'
        have q1 := (hb.cell (p := ⟨p, 1, none⟩) hp').trans q1'
        have hp : p < w3.heap.size := Nat.lt_of_lt_of_le hp' hb.size
        have C3 := Lib.hid (mulN HR1.out hx BL.out.2.2.2.2.1 BL.out.2.2.2.2.2.1 BL.out.2.2.2.2.2.2)
        clear hb hx C2 q0' q1' hp' c3 z3' HR1 KBD
        go_wp2_with fail
        refine C3.out.mono ?_
        rintro _ w4 ⟨x, rfl, hx, hb⟩
        obtain ⟨A9, n9, c9, rfl⟩ := hx.shape
        replace KS := Lib.hid (KS.out.below hb)
        replace N5 := Lib.hid (N5.out.below hb)
        replace K4 := Lib.hid (K4.out.after hb)
        replace HB := Lib.hid (HB.out.trans (hb.mono HB.out.size))
        have KD := Lib.hid hx
        have q0' := (hb.cell (p := ⟨p, 0, none⟩) hp).trans q0
        have q1' := (hb.cell (p := ⟨p, 1, none⟩) hp).trans q1
        have hp' : p < w4.heap.size := Nat.lt_of_lt_of_le hp hb.size
        have z4 : w.heap.size + 1 + 1 < w4.heap.size := K4.out.lt
        have KEEP : Hid (∀ W, Below w4.heap.size w4 W → (W.cell? ⟨p, 0, none⟩ = some (.int .i64 s5) ∧ W.cell? ⟨p, 1, none⟩ = some (.slice B5 m5 d5))) := Lib.hid fun W h1 => ⟨(h1.cell (p := ⟨p, 0, none⟩) hp').trans q0', (h1.cell (p := ⟨p, 1, none⟩) hp').trans q1'⟩
        have hdrew : Below w4.heap.size w4 w4.drew := (Below.refl _ _).drew
        have HQ : Hid (∀ W, Below w4.heap.size w4 W → _) := Lib.hid fun W (h1 : Below w4.heap.size w4 W) => quotientN (N5.out.below h1) (KS.out.below h1) BL.out.2.1 BL.out.2.2.2.1 BL.out.2.2.1
        have hne : w.heap.size + 1 + 1 ≠ p := by
          intro e
          have h0 := K4.out.cell (i := 0) rfl
          rw [e, q0'] at h0
          cases h0
        clear hb hx C3 q0 q1 hp
        go_wp2_with fail
        go_region_held3 (fun W => W.cell? ⟨p, 0, none⟩ = some (.int .i64 s5) ∧ W.cell? ⟨p, 1, none⟩ = some (.slice B5 m5 d5))
          (first | with_reducible exact KEEP.out w4.drew hdrew | with_reducible exact KEEP.out wa hka | with_reducible exact KEEP.out wb hkb | go_keep)
          (first
            | (go_at_call 161; (with_reducible refine (HQ.out w4.drew hdrew).mono ?_); rintro _ wa ⟨v1, rfl, hv1, hba⟩; obtain ⟨B6, m6, d6, rfl⟩ := hv1.shape; have HV1 := Lib.hid hv1; clear hv1; have hka := hdrew.trans (hba.mono hdrew.size))
            | (go_at_call 106; (with_reducible refine (numberX s5 B6 A9 m6 d6 n9 c9 wa).mono ?_); rintro _ wb ⟨rfl, hbb⟩; have hkb := hka.trans (hbb.mono hka.size); have hzc : w.heap.size + 1 + 1 < wb.heap.size := Nat.lt_of_lt_of_le z4 hkb.size; have f0 := (K4.out.after hkb).cell (i := 0) rfl; have f1 := (K4.out.after hkb).cell (i := 1) rfl; have f2 := (K4.out.after hkb).cell (i := 2) rfl; have ff := (K4.out.after hkb).free))
        have K4c := K4.out.after hkb
        have hv1 := HV1.out.below hbb
        have hv2 := KD.out.below hkb
        have hbf := HB.out.trans (hkb.mono HB.out.size)
        go_wp2_with fail
        refine bodyPost_ret (results_row_tmp (p := 4) (ty := 25) rfl _ _ (w.heap.size + 1 + 1) 25 _ _ _ rfl K4c.set.set.set Tryz.underlying25 rfl (by kernel_rfl)) rfl ?_
        refine ⟨_, rfl, Rq.mk ?_ E2.out E3.out (hv1.put3 K4c (hnoR _ _ _ _ _ _ _)) (hv2.put3 K4c (hnoR _ _ _ _ _ _ _)), ((hbf.setCell (by simp; omega) _).setCell (by simp; omega) _).setCell (by simp; omega) _⟩
        rw [es5.out, sg_0]
        exact decide_eq_decide.2 E1.out.symm
end Go.Proofs.YtbjaolmlnkliiaaGreatDoor

/- The contract of product: the product of two rational numbers. Conditions as premises: the numbers read, and what comes up on the way is short enough. -/
namespace Go.Proofs.YtbjaolmlnkliiaaGreatDoor
open Go.RowKit Go.Shelf
attribute [local go_sem ↓] Go.wp_at_zero Go.wp_at_succ

theorem mul_sign (a b : Rat) : (a * b).num < 0 ↔ a.num * b.num < 0 := by
  rw [Rat.mul_def']; exact mkRat_neg_iff _ _ (Nat.mul_ne_zero a.den_nz b.den_nz)

set_option maxRecDepth 100000 in
set_option maxHeartbeats 8000000 in
theorem productQ {w : World} {a b : Rat} {v u : Value} (ha : Rq w a v) (hb : Rq w b u) (hT : Tabs w) (ok : ProdOk a.num.natAbs b.den b.num.natAbs a.den) :
    Calls Tryz.prog 97 #[v, u] w fun e w' => ∃ t, e = .returned (.tuple #[t, .int .i64 0]) ∧ Rq w' (a * b) t ∧ Below w.heap.size w w' := by
  obtain ⟨b1, A1, n1, c1, A2, n2, c2, rfl, kan, kad, eb1⟩ := ha.get
  obtain ⟨b2, A3, n3, c3, A4, n4, c4, rfl, kbn, kbd, eb2⟩ := hb.get
  have hb0 : Below w.heap.size w ((((w.alloc (.cells #[.bool b1, .slice A1 n1 c1, .slice A2 n2 c2] 25)).alloc (.cells #[.bool b2, .slice A3 n3 c3, .slice A4 n4 c4] 25)).alloc (.cells #[.bool false, .slice none 0 0, .slice none 0 0] 25)).alloc (.cells #[.slice A1 n1 c1, .slice A4 n4 c4, .slice A3 n3 c3, .slice A2 n2 c2] 178)) := ((below2 w _ _).alloc (by simp; omega) _).alloc (by simp; omega) _
  have k2 := (((Blk.new w #[.bool b1, .slice A1 n1 c1, .slice A2 n2 c2] 25).alloc (.cells #[.bool b2, .slice A3 n3 c3, .slice A4 n4 c4] 25)).alloc (.cells #[.bool false, .slice none 0 0, .slice none 0 0] 25)).alloc (.cells #[.slice A1 n1 c1, .slice A4 n4 c4, .slice A3 n3 c3, .slice A2 n2 c2] 178)
  have k3 := ((Blk.new (w.alloc (.cells #[.bool b1, .slice A1 n1 c1, .slice A2 n2 c2] 25)) #[.bool b2, .slice A3 n3 c3, .slice A4 n4 c4] 25).alloc (.cells #[.bool false, .slice none 0 0, .slice none 0 0] 25)).alloc (.cells #[.slice A1 n1 c1, .slice A4 n4 c4, .slice A3 n3 c3, .slice A2 n2 c2] 178)
  have k4 := (Blk.new ((w.alloc (.cells #[.bool b1, .slice A1 n1 c1, .slice A2 n2 c2] 25)).alloc (.cells #[.bool b2, .slice A3 n3 c3, .slice A4 n4 c4] 25)) #[.bool false, .slice none 0 0, .slice none 0 0] 25).alloc (.cells #[.slice A1 n1 c1, .slice A4 n4 c4, .slice A3 n3 c3, .slice A2 n2 c2] 178)
  have k5 := Blk.new (((w.alloc (.cells #[.bool b1, .slice A1 n1 c1, .slice A2 n2 c2] 25)).alloc (.cells #[.bool b2, .slice A3 n3 c3, .slice A4 n4 c4] 25)).alloc (.cells #[.bool false, .slice none 0 0, .slice none 0 0] 25)) #[.slice A1 n1 c1, .slice A4 n4 c4, .slice A3 n3 c3, .slice A2 n2 c2] 178
  simp only [World.size_alloc] at k2 k3 k4 k5
  have OK := Lib.hid ok
  have KAN := Lib.hid (kan.below hb0)
  have KAD := Lib.hid (kad.below hb0)
  have KBN := Lib.hid (kbn.below hb0)
  have KBD := Lib.hid (kbd.below hb0)
  have HT := Lib.hid (hT.below hb0)
  have HB := Lib.hid hb0
  have K2 := Lib.hid k2
  have K3 := Lib.hid k3
  have K4 := Lib.hid k4
  have K5 := Lib.hid k5
  clear ha hb hT ok kan kad kbn kbd hb0 k2 k3 k4 k5
  go_enter Tryz.func97, Tryz.ntmps97
  go_upto_region 2 with fail
  generalize ((((w.alloc (.cells #[.bool b1, .slice A1 n1 c1, .slice A2 n2 c2] 25)).alloc (.cells #[.bool b2, .slice A3 n3 c3, .slice A4 n4 c4] 25)).alloc (.cells #[.bool false, .slice none 0 0, .slice none 0 0] 25)).alloc (.cells #[.slice A1 n1 c1, .slice A4 n4 c4, .slice A3 n3 c3, .slice A2 n2 c2] 178)) = w0 at *
  have z5 : w.heap.size + 1 + 1 + 1 < w0.heap.size := K5.out.lt
  have HC1 : Hid (∀ W, (W.cell? ⟨w.heap.size + 1 + 1 + 1, 0, none⟩ = some (.slice A1 n1 c1) ∧ W.cell? ⟨w.heap.size + 1 + 1 + 1, 1, none⟩ = some (.slice A4 n4 c4) ∧ W.cell? ⟨w.heap.size + 1 + 1 + 1, 2, none⟩ = some (.slice A3 n3 c3) ∧ W.cell? ⟨w.heap.size + 1 + 1 + 1, 3, none⟩ = some (.slice A2 n2 c2) ∧ Below w0.heap.size w0 W) → Calls Tryz.prog 77 #[] W fun e w' => ∃ x, e = .returned x ∧ Nr w' 1 x ∧ Below W.heap.size W w') := Lib.hid fun W _ => oneN W
  have HC2 : Hid (∀ W A5 A6 n5 c5 n6 c6, (W.cell? ⟨w.heap.size + 1 + 1 + 1, 0, none⟩ = some (.slice A1 n1 c1) ∧ W.cell? ⟨w.heap.size + 1 + 1 + 1, 1, none⟩ = some (.slice A4 n4 c4) ∧ W.cell? ⟨w.heap.size + 1 + 1 + 1, 2, none⟩ = some (.slice A3 n3 c3) ∧ W.cell? ⟨w.heap.size + 1 + 1 + 1, 3, none⟩ = some (.slice A2 n2 c2) ∧ Below w0.heap.size w0 W) → Nr W 1 (.slice A5 n5 c5) → Nr W 1 (.slice A6 n6 c6) → Calls Tryz.prog 170 #[.agg #[.slice A1 n1 c1, .slice A4 n4 c4, .slice A3 n3 c3, .slice A2 n2 c2], .agg #[.slice A5 n5 c5, .slice A6 n6 c6], .func (.func 171) #[] #[]] W fun e w' => ∃ A n c A' n' c', e = .returned (.tuple #[.agg #[.slice A n c, .slice A' n' c'], .int .i64 0]) ∧ Nr w' (1 * (a.num.natAbs / Nat.gcd a.num.natAbs b.den) * (b.num.natAbs / Nat.gcd b.num.natAbs a.den)) (.slice A n c) ∧ Nr w' (1 * (b.den / Nat.gcd a.num.natAbs b.den) * (a.den / Nat.gcd b.num.natAbs a.den)) (.slice A' n' c') ∧ Below W.heap.size W w') := Lib.hid fun W A5 A6 n5 c5 n6 c6 h h1 h2 =>
    foldProd (KAN.out.below h.2.2.2.2) (KBD.out.below h.2.2.2.2) (KBN.out.below h.2.2.2.2) (KAD.out.below h.2.2.2.2) h1 h2 OK.out
  have KEEP : Hid (∀ W, Below w0.heap.size w0 W → (W.cell? ⟨w.heap.size + 1 + 1 + 1, 0, none⟩ = some (.slice A1 n1 c1) ∧ W.cell? ⟨w.heap.size + 1 + 1 + 1, 1, none⟩ = some (.slice A4 n4 c4) ∧ W.cell? ⟨w.heap.size + 1 + 1 + 1, 2, none⟩ = some (.slice A3 n3 c3) ∧ W.cell? ⟨w.heap.size + 1 + 1 + 1, 3, none⟩ = some (.slice A2 n2 c2) ∧ Below w0.heap.size w0 W)) := Lib.hid fun W h1 => ⟨(K5.out.after h1).cell rfl, (K5.out.after h1).cell rfl, (K5.out.after h1).cell rfl, (K5.out.after h1).cell rfl, h1⟩
  have NEXT : Hid (∀ W W', (W.cell? ⟨w.heap.size + 1 + 1 + 1, 0, none⟩ = some (.slice A1 n1 c1) ∧ W.cell? ⟨w.heap.size + 1 + 1 + 1, 1, none⟩ = some (.slice A4 n4 c4) ∧ W.cell? ⟨w.heap.size + 1 + 1 + 1, 2, none⟩ = some (.slice A3 n3 c3) ∧ W.cell? ⟨w.heap.size + 1 + 1 + 1, 3, none⟩ = some (.slice A2 n2 c2) ∧ Below w0.heap.size w0 W) → Below W.heap.size W W' → (W'.cell? ⟨w.heap.size + 1 + 1 + 1, 0, none⟩ = some (.slice A1 n1 c1) ∧ W'.cell? ⟨w.heap.size + 1 + 1 + 1, 1, none⟩ = some (.slice A4 n4 c4) ∧ W'.cell? ⟨w.heap.size + 1 + 1 + 1, 2, none⟩ = some (.slice A3 n3 c3) ∧ W'.cell? ⟨w.heap.size + 1 + 1 + 1, 3, none⟩ = some (.slice A2 n2 c2) ∧ Below w0.heap.size w0 W')) := Lib.hid fun W W' h hb => KEEP.out W' (h.2.2.2.2.trans (hb.mono h.2.2.2.2.size))
  have ALL : Hid (∀ W o, (W.cell? ⟨w.heap.size + 1 + 1 + 1, 0, none⟩ = some (.slice A1 n1 c1) ∧ W.cell? ⟨w.heap.size + 1 + 1 + 1, 1, none⟩ = some (.slice A4 n4 c4) ∧ W.cell? ⟨w.heap.size + 1 + 1 + 1, 2, none⟩ = some (.slice A3 n3 c3) ∧ W.cell? ⟨w.heap.size + 1 + 1 + 1, 3, none⟩ = some (.slice A2 n2 c2) ∧ Below w0.heap.size w0 W) → ((W.alloc o).cell? ⟨w.heap.size + 1 + 1 + 1, 0, none⟩ = some (.slice A1 n1 c1) ∧ (W.alloc o).cell? ⟨w.heap.size + 1 + 1 + 1, 1, none⟩ = some (.slice A4 n4 c4) ∧ (W.alloc o).cell? ⟨w.heap.size + 1 + 1 + 1, 2, none⟩ = some (.slice A3 n3 c3) ∧ (W.alloc o).cell? ⟨w.heap.size + 1 + 1 + 1, 3, none⟩ = some (.slice A2 n2 c2) ∧ Below w0.heap.size w0 (W.alloc o))) := Lib.hid fun W o h => NEXT.out W _ h (below1 W o)
  have ALC : Hid (∀ W w', (W.cell? ⟨w.heap.size + 1 + 1 + 1, 0, none⟩ = some (.slice A1 n1 c1) ∧ W.cell? ⟨w.heap.size + 1 + 1 + 1, 1, none⟩ = some (.slice A4 n4 c4) ∧ W.cell? ⟨w.heap.size + 1 + 1 + 1, 2, none⟩ = some (.slice A3 n3 c3) ∧ W.cell? ⟨w.heap.size + 1 + 1 + 1, 3, none⟩ = some (.slice A2 n2 c2) ∧ Below w0.heap.size w0 W) → Below (W.alloc (.cells #[.slice none 0 0, .slice none 0 0] 105)).heap.size (W.alloc (.cells #[.slice none 0 0, .slice none 0 0] 105)) w' → Blk w' W.heap.size 105 #[.slice none 0 0, .slice none 0 0] ∧ w0.heap.size ≤ W.heap.size) := Lib.hid fun W w' h hb => ⟨(Blk.new W _ _).after hb, h.2.2.2.2.size⟩
  have STO : Hid (∀ W p u v, (W.cell? ⟨w.heap.size + 1 + 1 + 1, 0, none⟩ = some (.slice A1 n1 c1) ∧ W.cell? ⟨w.heap.size + 1 + 1 + 1, 1, none⟩ = some (.slice A4 n4 c4) ∧ W.cell? ⟨w.heap.size + 1 + 1 + 1, 2, none⟩ = some (.slice A3 n3 c3) ∧ W.cell? ⟨w.heap.size + 1 + 1 + 1, 3, none⟩ = some (.slice A2 n2 c2) ∧ Below w0.heap.size w0 W) → w0.heap.size ≤ p → (((W.setCell ⟨p, 0, none⟩ u).setCell ⟨p, 1, none⟩ v).cell? ⟨w.heap.size + 1 + 1 + 1, 0, none⟩ = some (.slice A1 n1 c1) ∧ ((W.setCell ⟨p, 0, none⟩ u).setCell ⟨p, 1, none⟩ v).cell? ⟨w.heap.size + 1 + 1 + 1, 1, none⟩ = some (.slice A4 n4 c4) ∧ ((W.setCell ⟨p, 0, none⟩ u).setCell ⟨p, 1, none⟩ v).cell? ⟨w.heap.size + 1 + 1 + 1, 2, none⟩ = some (.slice A3 n3 c3) ∧ ((W.setCell ⟨p, 0, none⟩ u).setCell ⟨p, 1, none⟩ v).cell? ⟨w.heap.size + 1 + 1 + 1, 3, none⟩ = some (.slice A2 n2 c2) ∧ Below w0.heap.size w0 ((W.setCell ⟨p, 0, none⟩ u).setCell ⟨p, 1, none⟩ v))) := Lib.hid fun W p u v h hg => KEEP.out _ ((h.2.2.2.2.setCell hg _).setCell hg _)
  have hdrew := KEEP.out w0.drew (Below.refl _ _).drew
  have hdrewA := KEEP.out ((w0.alloc (.cells #[.slice none 0 0, .slice none 0 0] 105)).drew) (below1 w0 _).drew
  have ALD : Hid (∀ w', Below ((w0.alloc (.cells #[.slice none 0 0, .slice none 0 0] 105)).drew).heap.size ((w0.alloc (.cells #[.slice none 0 0, .slice none 0 0] 105)).drew) w' → Blk w' w0.heap.size 105 #[.slice none 0 0, .slice none 0 0] ∧ w0.heap.size ≤ w0.heap.size) := Lib.hid fun w' hb => ⟨Blk.after (show Blk ((w0.alloc (.cells #[.slice none 0 0, .slice none 0 0] 105)).drew) w0.heap.size 105 #[.slice none 0 0, .slice none 0 0] from Blk.new w0 _ _) hb, Nat.le_refl _⟩
  go_cut [7, 8] (fun p e wx => ∃ g B1 m1 d1 B2 m2 d2, p = .pointer (some ⟨g, 0, none⟩) ∧ e = .int .i64 0 ∧ wx.cell? ⟨g, 0, none⟩ = some (.slice B1 m1 d1) ∧ wx.cell? ⟨g, 1, none⟩ = some (.slice B2 m2 d2) ∧ g < wx.heap.size ∧
    Hid (Nr wx (1 * (a.num.natAbs / Nat.gcd a.num.natAbs b.den) * (b.num.natAbs / Nat.gcd b.num.natAbs a.den)) (.slice B1 m1 d1)) ∧ Hid (Nr wx (1 * (b.den / Nat.gcd a.num.natAbs b.den) * (a.den / Nat.gcd b.num.natAbs a.den)) (.slice B2 m2 d2)) ∧ Hid (Below w0.heap.size w0 wx))
  case first =>
    go_region_held3 (fun W => W.cell? ⟨w.heap.size + 1 + 1 + 1, 0, none⟩ = some (.slice A1 n1 c1) ∧ W.cell? ⟨w.heap.size + 1 + 1 + 1, 1, none⟩ = some (.slice A4 n4 c4) ∧ W.cell? ⟨w.heap.size + 1 + 1 + 1, 2, none⟩ = some (.slice A3 n3 c3) ∧ W.cell? ⟨w.heap.size + 1 + 1 + 1, 3, none⟩ = some (.slice A2 n2 c2) ∧ Below w0.heap.size w0 W)
      (first | with_reducible assumption | with_reducible exact ALL.out _ _ (by with_reducible assumption) | with_reducible exact STO.out _ _ _ _ (by with_reducible assumption) hge)
      (first
        | ((fail_if_success (have := hOne2)); (fail_if_success (have := hOne1)); go_at_call 77; (with_reducible refine (HC1.out (w0.alloc (.cells #[.slice none 0 0, .slice none 0 0] 105)).drew (by with_reducible assumption)).mono ?_); rintro _ w21 ⟨x21, rfl, hv21, hb21⟩; obtain ⟨A5, n5, c5, rfl⟩ := hv21.shape; have hOne1 : True := trivial; have HV21 := Lib.hid hv21; clear hv21; have hS := NEXT.out _ _ (by with_reducible assumption) hb21; obtain ⟨hA, hge⟩ := ALD.out _ hb21; have e0 := hA.cell (i := 0) rfl; have e1 := hA.cell (i := 1) rfl; have hfA := hA.free; have hlA := hA.lt)
        | ((fail_if_success (have := hOne2)); (fail_if_success (have := hOne1)); go_at_call 77; (with_reducible refine (HC1.out (World.alloc _ (.cells #[.slice none 0 0, .slice none 0 0] 105)) (by with_reducible assumption)).mono ?_); rintro _ w21 ⟨x21, rfl, hv21, hb21⟩; obtain ⟨A5, n5, c5, rfl⟩ := hv21.shape; have hOne1 : True := trivial; have HV21 := Lib.hid hv21; clear hv21; have hS := NEXT.out _ _ (by with_reducible assumption) hb21; obtain ⟨hA, hge⟩ := ALC.out _ _ (by with_reducible assumption) hb21; have e0 := hA.cell (i := 0) rfl; have e1 := hA.cell (i := 1) rfl; have hfA := hA.free; have hlA := hA.lt)
        | ((fail_if_success (have := hOne2)); (fail_if_success (have := hOne1)); go_at_call 77; (with_reducible refine (HC1.out _ (by with_reducible assumption)).mono ?_); rintro _ w21 ⟨x21, rfl, hv21, hb21⟩; obtain ⟨A5, n5, c5, rfl⟩ := hv21.shape; have hOne1 : True := trivial; have HV21 := Lib.hid hv21; clear hv21; have hS := NEXT.out _ _ (by with_reducible assumption) hb21; replace hA := hA.after hb21; have e0 := hA.cell (i := 0) rfl; have e1 := hA.cell (i := 1) rfl; have hfA := hA.free; have hlA := hA.lt)
        | ((fail_if_success (have := hOne2)); (fail_if_success (have := hOne1)); go_at_call 77; (with_reducible refine (HC1.out _ (by with_reducible assumption)).mono ?_); rintro _ w21 ⟨x21, rfl, hv21, hb21⟩; obtain ⟨A5, n5, c5, rfl⟩ := hv21.shape; have hOne1 : True := trivial; have HV21 := Lib.hid hv21; clear hv21; have hS := NEXT.out _ _ (by with_reducible assumption) hb21)
        | ((fail_if_success (have := hOne2)); have := hOne1; go_at_call 77; (with_reducible refine (HC1.out (World.alloc _ (.cells #[.slice none 0 0, .slice none 0 0] 105)) (by with_reducible assumption)).mono ?_); rintro _ w22 ⟨x22, rfl, hv22, hb22⟩; obtain ⟨A6, n6, c6, rfl⟩ := hv22.shape; have hOne2 : True := trivial; have HV22 := Lib.hid hv22; clear hv22; have hS := NEXT.out _ _ (by with_reducible assumption) hb22; obtain ⟨hA, hge⟩ := ALC.out _ _ (by with_reducible assumption) hb22; have e0 := hA.cell (i := 0) rfl; have e1 := hA.cell (i := 1) rfl; have hfA := hA.free; have hlA := hA.lt)
        | ((fail_if_success (have := hOne2)); have := hOne1; go_at_call 77; (with_reducible refine (HC1.out _ (by with_reducible assumption)).mono ?_); rintro _ w22 ⟨x22, rfl, hv22, hb22⟩; obtain ⟨A6, n6, c6, rfl⟩ := hv22.shape; have hOne2 : True := trivial; have HV22 := Lib.hid hv22; clear hv22; have hS := NEXT.out _ _ (by with_reducible assumption) hb22; replace hA := hA.after hb22; have e0 := hA.cell (i := 0) rfl; have e1 := hA.cell (i := 1) rfl; have hfA := hA.free; have hlA := hA.lt)
        | ((fail_if_success (have := hOne2)); have := hOne1; go_at_call 77; (with_reducible refine (HC1.out _ (by with_reducible assumption)).mono ?_); rintro _ w22 ⟨x22, rfl, hv22, hb22⟩; obtain ⟨A6, n6, c6, rfl⟩ := hv22.shape; have hOne2 : True := trivial; have HV22 := Lib.hid hv22; clear hv22; have hS := NEXT.out _ _ (by with_reducible assumption) hb22)
        | (go_at_call 170; (with_reducible refine (HC2.out (World.alloc _ (.cells #[.slice none 0 0, .slice none 0 0] 105)) A5 A6 n5 c5 n6 c6 (by with_reducible assumption) ((HV21.out.below hb22).below (below1 w22 (.cells #[.slice none 0 0, .slice none 0 0] 105))) (HV22.out.below (below1 w22 (.cells #[.slice none 0 0, .slice none 0 0] 105)))).mono ?_); rintro _ w23 ⟨B1, m1, d1, B2, m2, d2, rfl, hv23, hu23, hb23⟩; have HV23 := Lib.hid hv23; have HU23 := Lib.hid hu23; clear hv23 hu23; have hS := NEXT.out _ _ (by with_reducible assumption) hb23; obtain ⟨hA, hge⟩ := ALC.out _ _ (by with_reducible assumption) hb23; have e0 := hA.cell (i := 0) rfl; have e1 := hA.cell (i := 1) rfl; have hfA := hA.free; have hlA := hA.lt)
        | (go_at_call 170; (with_reducible refine (HC2.out _ A5 A6 n5 c5 n6 c6 (by with_reducible assumption) (HV21.out.below hb22) HV22.out).mono ?_); rintro _ w23 ⟨B1, m1, d1, B2, m2, d2, rfl, hv23, hu23, hb23⟩; have HV23 := Lib.hid hv23; have HU23 := Lib.hid hu23; clear hv23 hu23; have hS := NEXT.out _ _ (by with_reducible assumption) hb23; replace hA := hA.after hb23; have e0 := hA.cell (i := 0) rfl; have e1 := hA.cell (i := 1) rfl; have hfA := hA.free; have hlA := hA.lt)
        | (go_at_call 170; (with_reducible refine (HC2.out _ A5 A6 n5 c5 n6 c6 (by with_reducible assumption) (HV21.out.below hb22) HV22.out).mono ?_); rintro _ w23 ⟨B1, m1, d1, B2, m2, d2, rfl, hv23, hu23, hb23⟩; have HV23 := Lib.hid hv23; have HU23 := Lib.hid hu23; clear hv23 hu23; have hS := NEXT.out _ _ (by with_reducible assumption) hb23)
        | (go_at_call 170; (with_reducible refine (HC2.out _ A5 A6 n5 c5 n6 c6 (by with_reducible assumption) ((HV21.out.below (below1 w21 (.cells #[.slice none 0 0, .slice none 0 0] 105))).below hb22) HV22.out).mono ?_); rintro _ w23 ⟨B1, m1, d1, B2, m2, d2, rfl, hv23, hu23, hb23⟩; have HV23 := Lib.hid hv23; have HU23 := Lib.hid hu23; clear hv23 hu23; have hS := NEXT.out _ _ (by with_reducible assumption) hb23; replace hA := hA.after hb23; have e0 := hA.cell (i := 0) rfl; have e1 := hA.cell (i := 1) rfl; have hfA := hA.free; have hlA := hA.lt))
    all_goals
      go_wp2_with fail
      go_meet
      first
        | (obtain ⟨q0, q1, q2⟩ := (hA.set2 (.slice B1 m1 d1) (.slice B2 m2 d2)).cells2; have h := STO.out _ _ (.slice B1 m1 d1) (.slice B2 m2 d2) hS hge; have hq := HV23.out.putF (i := 0) (j := 1) (u := .slice B1 m1 d1) (x := .slice B2 m2 d2) hA; have hr := HU23.out.putF (i := 0) (j := 1) (u := .slice B1 m1 d1) (x := .slice B2 m2 d2) hA; with_reducible exact ⟨_, B1, m1, d1, B2, m2, d2, rfl, rfl, q0, q1, q2, Lib.hid hq, Lib.hid hr, Lib.hid h.2.2.2.2⟩)
        | (obtain ⟨q0, q1, q2⟩ := (Blk.new w23 #[.slice B1 m1 d1, .slice B2 m2 d2] 105).cells2; have h := ALL.out _ (.cells #[.slice B1 m1 d1, .slice B2 m2 d2] 105) hS; have hq := HV23.out.below (below1 w23 (.cells #[.slice B1 m1 d1, .slice B2 m2 d2] 105)); have hr := HU23.out.below (below1 w23 (.cells #[.slice B1 m1 d1, .slice B2 m2 d2] 105)); with_reducible exact ⟨_, B1, m1, d1, B2, m2, d2, rfl, rfl, q0, q1, q2, Lib.hid hq, Lib.hid hr, Lib.hid h.2.2.2.2⟩)
  case rest =>
    obtain ⟨p, B1, m1, d1, B2, m2, d2, rfl, rfl, q0, q1, hp, HV, HU, HBX⟩ := hcut
    have k2 := K2.out.after HBX.out
    have k3 := K3.out.after HBX.out
    have k4 := K4.out.after HBX.out
    replace KAN := Lib.hid (KAN.out.below HBX.out)
    replace KBN := Lib.hid (KBN.out.below HBX.out)
    replace HT := Lib.hid (HT.out.below HBX.out)
    replace HB := Lib.hid (HB.out.trans (HBX.out.mono HB.out.size))
    replace K2 := Lib.hid k2
    replace K3 := Lib.hid k3
    replace K4 := Lib.hid k4
    obtain ⟨e1, e2, _, e4⟩ := mul_steps a b
    have E1 := Lib.hid e1
    have E2 := Lib.hid e2
    clear e1 e2 e4 k2 k3 k4 HBX HC1 HC2 KEEP NEXT ALL ALC STO hdrew hdrewA ALD z5 K5 KAD KBD
    have KEEP : Hid (∀ W, Below wc.heap.size wc W → (W.cell? ⟨w.heap.size, 0, none⟩ = some (.bool b1) ∧ W.cell? ⟨w.heap.size, 1, none⟩ = some (.slice A1 n1 c1) ∧ W.cell? ⟨w.heap.size, 2, none⟩ = some (.slice A2 n2 c2) ∧ W.cell? ⟨w.heap.size + 1, 0, none⟩ = some (.bool b2) ∧ W.cell? ⟨w.heap.size + 1, 1, none⟩ = some (.slice A3 n3 c3) ∧ W.cell? ⟨w.heap.size + 1, 2, none⟩ = some (.slice A4 n4 c4) ∧ W.cell? ⟨p, 0, none⟩ = some (.slice B1 m1 d1) ∧ W.cell? ⟨p, 1, none⟩ = some (.slice B2 m2 d2))) := Lib.hid fun W h1 =>
      ⟨(K2.out.after h1).cell rfl, (K2.out.after h1).cell rfl, (K2.out.after h1).cell rfl, (K3.out.after h1).cell rfl, (K3.out.after h1).cell rfl, (K3.out.after h1).cell rfl, (h1.cell (p := ⟨p, 0, none⟩) hp).trans q0, (h1.cell (p := ⟨p, 1, none⟩) hp).trans q1⟩
    have hdrew : Below wc.heap.size wc wc.drew := (Below.refl _ _).drew
    have C1 : Hid (∀ W, Below wc.heap.size wc W → _) := Lib.hid fun W (h1 : Below wc.heap.size wc W) => numeratorN (neg := b1) (A' := A2) (n' := n2) (c' := c2) (KAN.out.below h1)
    have C2 : Hid (∀ W, Below wc.heap.size wc W → _) := Lib.hid fun W (h1 : Below wc.heap.size wc W) => numeratorN (neg := b2) (A' := A4) (n' := n4) (c' := c4) (KBN.out.below h1)
    have hne : w.heap.size + 1 + 1 ≠ p := by
      intro e
      have h0 := K4.out.cell (i := 0) rfl
      rw [e, q0] at h0
      cases h0
    have z4 : w.heap.size + 1 + 1 < wc.heap.size := K4.out.lt
    have hn2 : w.heap.size + 1 + 1 ≠ w.heap.size := by omega
    have hn3 : w.heap.size + 1 + 1 ≠ w.heap.size + 1 := by omega
    have HQ := Lib.hid (And.intro q0 (And.intro q1 hp))
    clear q0 q1 hp
    go_wp2_with fail
    go_region_held3 (fun W => W.cell? ⟨w.heap.size, 0, none⟩ = some (.bool b1) ∧ W.cell? ⟨w.heap.size, 1, none⟩ = some (.slice A1 n1 c1) ∧ W.cell? ⟨w.heap.size, 2, none⟩ = some (.slice A2 n2 c2) ∧ W.cell? ⟨w.heap.size + 1, 0, none⟩ = some (.bool b2) ∧ W.cell? ⟨w.heap.size + 1, 1, none⟩ = some (.slice A3 n3 c3) ∧ W.cell? ⟨w.heap.size + 1, 2, none⟩ = some (.slice A4 n4 c4) ∧ W.cell? ⟨p, 0, none⟩ = some (.slice B1 m1 d1) ∧ W.cell? ⟨p, 1, none⟩ = some (.slice B2 m2 d2))
      (first | with_reducible exact KEEP.out wc.drew hdrew | with_reducible exact KEEP.out wd hkd | with_reducible exact KEEP.out we hke | with_reducible exact KEEP.out wf hkf | go_keep)
      (first
        | (go_at_call_of 105 n1; (with_reducible refine (C1.out wc.drew hdrew).mono ?_); rintro _ wd ⟨x1, rfl, hv1, hb1⟩; obtain ⟨s1, A7, n7, c7, rfl, _, es1, hs1⟩ := (hv1 wc KAN.out).get; clear hv1; have hkd := hdrew.trans (hb1.mono hdrew.size); have hf1 := field_side s1 A7 n7 c7)
        | (go_at_call_of 105 n3; (with_reducible refine (C2.out wd hkd).mono ?_); rintro _ we ⟨x2, rfl, hv2, hb2⟩; obtain ⟨s2, A8, n8, c8, rfl, _, es2, hs2⟩ := (hv2 wc KBN.out).get; clear hv2; have hke := hkd.trans (hb2.mono hkd.size); have hf2 := field_side s2 A8 n8 c8; have HST := Lib.hid (signTimes s1 s2 hs1 hs2 (HT.out.below hke)))
        | (go_at_call 91; (with_reducible refine HST.out.mono ?_); rintro _ _ ⟨rfl, rfl⟩)
        | (go_at_call 106; (with_reducible refine (numberX ((s1 - 1) * (s2 - 1) + 1) B1 B2 m1 d1 m2 d2 we).mono ?_); rintro _ wf ⟨rfl, hb3⟩; have hkf := hke.trans (hb3.mono hke.size); have hzc : w.heap.size + 1 + 1 < wf.heap.size := Nat.lt_of_lt_of_le z4 hkf.size; have f0 := (K4.out.after hkf).cell (i := 0) rfl; have f1 := (K4.out.after hkf).cell (i := 1) rfl; have f2 := (K4.out.after hkf).cell (i := 2) rfl; have ff := (K4.out.after hkf).free))
    have K4f := K4.out.after hkf
    have hv := HV.out.below hkf
    have hu := HU.out.below hkf
    have hbf := HB.out.trans (hkf.mono HB.out.size)
    go_wp2_with fail
    refine bodyPost_ret (results_row_tmp (p := 4) (ty := 25) rfl _ _ (w.heap.size + 1 + 1) 25 _ _ _ rfl K4f.set.set.set Tryz.underlying25 rfl (by kernel_rfl)) rfl ?_
    refine ⟨_, rfl, Rq.mk ?_ (by rw [E1.out, Nat.one_mul]) (by rw [E2.out, Nat.one_mul]) (hv.put3 K4f (hnoR _ _ _ _ _ _ _)) (hu.put3 K4f (hnoR _ _ _ _ _ _ _)), ((hbf.setCell (by simp; omega) _).setCell (by simp; omega) _).setCell (by simp; omega) _⟩
    rw [es1.out, es2.out, eb1.out, eb2.out, sn_num, sn_num, ← sg_mul, sg_0]
    exact decide_eq_decide.2 (mul_sign a b).symm
end Go.Proofs.YtbjaolmlnkliiaaGreatDoor

/- The contracts of Check and checkBoth, for whatever three parts. Conditions as premises: the lists read. -/
namespace Go.Proofs.YtbjaolmlnkliiaaGreatDoor
open Go.RowKit Go.Shelf

/-- the error of a number -/
noncomputable def chkR (neg : Bool) (n : Nat) (f : Nat → Nat) (m : Nat) (g : Nat → Nat) : Int :=
  if chk n f = 0 then (if chk m g = 0 then (if m = 0 then 6 else (if (neg = true ∧ n = 0) ∨ Nat.gcd (nv f n) (nv g m) ≠ 1 then 3 else 0)) else chk m g) else chk n f

def gE (G : Nat) : Int := if G = 1 then 0 else 3
/-- a number as it came in, valid or not -/
structure Raw (w : World) (neg : Bool) (A : Option Addr) (n c : Nat) (f : Nat → Nat) (A' : Option Addr) (m c' : Nat) (g : Nat → Nat) : Prop where
  num : Rs w w.heap.size A n c f
  den : Rs w w.heap.size A' m c' g
theorem Raw.below {w w' : World} {neg : Bool} {A A' : Option Addr} {n c m c' : Nat} {f g : Nat → Nat} (h : Raw w neg A n c f A' m c' g) (hb : Below w.heap.size w w') : Raw w' neg A n c f A' m c' g :=
  ⟨(h.num.below hb).more hb.size, (h.den.below hb).more hb.size⟩

set_option maxRecDepth 100000 in
set_option maxHeartbeats 4000000 in
theorem ratCheck_any {w : World} {neg : Bool} {A A' : Option Addr} {n c m c' : Nat} {f g : Nat → Nat} (h : Raw w neg A n c f A' m c' g) :
    Calls Tryz.prog 29 #[.agg #[.bool neg, .slice A n c, .slice A' m c']] w fun e w' => e = .returned (.int .i64 (chkR neg n f m g)) ∧ Below w.heap.size w w' := by
  have hb0 := below1 w (.cells #[.bool neg, .slice A n c, .slice A' m c'] 25)
  have h1 := h.below hb0
  have c1 := check_any A n c f _ _ h1.num
  have c2 := check_any A' m c' g _ _ h1.den
  by_cases e1 : chk n f = 0
  · by_cases e2 : chk m g = 0
    · obtain ⟨hn, vf⟩ := chk_zero e1
      obtain ⟨hm, vg⟩ := chk_zero e2
      by_cases e3 : m = 0
      · rw [show chkR neg n f m g = 6 by unfold chkR; rw [if_pos e1, if_pos e2, if_pos e3]]
        rw [e1] at c1
        rw [e2] at c2
        subst e3
        have C1 := Lib.hid c1
        have C2 := Lib.hid c2
        have HB := Lib.hid hb0
        clear c1 c2 h h1 e1 e2 hb0 hn hm vf vg
        go_enter Tryz.func29, Tryz.ntmps29
        go_wp2_with fail
        refine C1.out.mono ?_
        rintro _ _ ⟨rfl, rfl⟩
        go_wp2_with fail
        refine C2.out.mono ?_
        rintro _ _ ⟨rfl, rfl⟩
        go_wp2_with fail
        go_ret
        exact ⟨rfl, HB.out⟩
      · have hmz : ((m : Int) == 0) = false := by rw [beq_eq_false_iff_ne]; omega
        rw [e1] at c1
        rw [e2] at c2
        have C1 := Lib.hid c1
        have C2 := Lib.hid c2
        have HB := Lib.hid hb0
        by_cases e4 : neg = true ∧ n = 0
        · rw [show chkR neg n f m g = 3 by unfold chkR; rw [if_pos e1, if_pos e2, if_neg e3, if_pos (.inl e4)]]
          obtain ⟨rfl, rfl⟩ := e4
          clear c1 c2 h h1 e1 e2 e3 hb0 hn hm vf vg
          go_enter Tryz.func29, Tryz.ntmps29
          go_wp2_with fail
          refine C1.out.mono ?_
          rintro _ _ ⟨rfl, rfl⟩
          go_wp2_with fail
          refine C2.out.mono ?_
          rintro _ _ ⟨rfl, rfl⟩
          go_wp2_with fail
          go_ret
          exact ⟨rfl, HB.out⟩
        · have hN : Nr (w.alloc (.cells #[.bool neg, .slice A n c, .slice A' m c'] 25)) (nv f n) (.slice A n c) := ⟨_, _, _, _, rfl, h1.num, ⟨vf, rfl⟩⟩
          have hD : Nr (w.alloc (.cells #[.bool neg, .slice A n c, .slice A' m c'] 25)) (nv g m) (.slice A' m c') := ⟨_, _, _, _, rfl, h1.den, ⟨vg, rfl⟩⟩
          have lN : nv f n < LB ^ NL := Nat.lt_of_lt_of_le vf.lt (pow_le_of (by rw [NL_eq]; exact hn))
          have lD : nv g m < LB ^ NL := Nat.lt_of_lt_of_le vg.lt (pow_le_of (by rw [NL_eq]; exact hm))
          have hDp : 0 < nv g m := vg.pos (by omega)
          have hG : Nat.gcd (nv f n) (nv g m) < LB ^ NL := Nat.lt_of_le_of_lt (Nat.gcd_le_right _ hDp) lD
          have c3 := divisorN hN hD lN lD
          have hchk : chkR neg n f m g = gE (Nat.gcd (nv f n) (nv g m)) := by
            unfold chkR gE
            rw [if_pos e1, if_pos e2, if_neg e3]
            by_cases hh : Nat.gcd (nv f n) (nv g m) = 1
            · rw [if_neg (by rintro (h | h); exact e4 h; exact h hh), if_pos hh]
            · rw [if_pos (.inr hh), if_neg hh]
          rw [hchk]
          clear hchk
          obtain ⟨G, hGe⟩ : ∃ G, Nat.gcd (nv f n) (nv g m) = G := ⟨_, rfl⟩
          rw [hGe] at c3 hG ⊢
          have C3 := Lib.hid c3
          have HGL := Lib.hid hG
          clear c3
          have hneg : neg = false ∨ (neg = true ∧ ((n : Int) == 0) = false) := by
            cases neg
            · exact .inl rfl
            · refine .inr ⟨rfl, ?_⟩
              rw [beq_eq_false_iff_ne]
              intro h0
              exact e4 ⟨rfl, by omega⟩
          clear c1 c2 h h1 e1 e2 e3 e4 hb0 hn hm vf vg hN hD lN lD hDp hG hGe
          have hcn : ∃ cc : Int, cn G 1 = cc ∧ ((G ≠ 1 ∧ (cc != 0) = true) ∨ (G = 1 ∧ (cc != 0) = false)) := by
            refine ⟨_, rfl, ?_⟩
            rcases Nat.lt_trichotomy G 1 with h | h | h
            · exact .inl ⟨by omega, by rw [cn_lt h]; rfl⟩
            · exact .inr ⟨h, by rw [cn_eq h]; rfl⟩
            · exact .inl ⟨by omega, by rw [cn_gt h]; rfl⟩
          obtain ⟨cc, hcc, hcase⟩ := hcn
          have HCC := Lib.hid hcc
          clear hcc
          rcases hneg with rfl | ⟨rfl, hnz⟩
          all_goals
            rcases hcase with ⟨hG1, hb1⟩ | ⟨hG1, hb1⟩
            all_goals
              have HG1 := Lib.hid hG1
              clear hG1
              go_enter Tryz.func29, Tryz.ntmps29
              go_wp2_with fail
              refine C1.out.mono ?_
              rintro _ _ ⟨rfl, rfl⟩
              go_wp2_with fail
              refine C2.out.mono ?_
              rintro _ _ ⟨rfl, rfl⟩
              go_wp2_with fail
              refine C3.out.mono ?_
              rintro _ w1 ⟨x, rfl, hx, hb⟩
              have HX := Lib.hid hx
              replace HB := Lib.hid (HB.out.trans (hb.mono HB.out.size))
              clear hx hb
              go_wp2_with fail
              refine (oneN w1).mono ?_
              rintro _ w2 ⟨y, rfl, hy, hb⟩
              have C4 := compareN (HX.out.below hb) hy HGL.out one_lt.out
              rw [HCC.out] at C4
              have C5 := Lib.hid C4
              replace HB := Lib.hid (HB.out.trans (hb.mono HB.out.size))
              clear hy hb C4 HX
              go_wp2_with fail
              refine C5.out.mono ?_
              rintro _ w3 ⟨rfl, hb⟩
              replace HB := Lib.hid (HB.out.trans (hb.mono HB.out.size))
              clear hb
              go_wp2_with fail
              go_ret
              first
                | exact ⟨ret_int (by unfold gE; rw [if_neg HG1.out]), HB.out⟩
                | exact ⟨ret_int (by unfold gE; rw [if_pos HG1.out]), HB.out⟩
    · rw [show chkR neg n f m g = chk m g by unfold chkR; rw [if_pos e1, if_neg e2]]
      rw [e1] at c1
      have x1 : (chk m g != 0) = true := by rw [bne_iff_ne]; exact e2
      have x2 : (chk m g == 0) = false := by rw [beq_eq_false_iff_ne]; exact e2
      have C1 := Lib.hid c1
      have C2 := Lib.hid c2
      have HB := Lib.hid hb0
      clear c1 c2 h h1 e1 e2 hb0
      generalize chk m g = er at *
      go_enter Tryz.func29, Tryz.ntmps29
      go_wp2_with fail
      refine C1.out.mono ?_
      rintro _ _ ⟨rfl, rfl⟩
      go_wp2_with fail
      refine C2.out.mono ?_
      rintro _ _ ⟨rfl, rfl⟩
      go_wp2_with fail
      go_ret
      exact ⟨rfl, HB.out⟩
  · rw [show chkR neg n f m g = chk n f by unfold chkR; rw [if_neg e1]]
    have x1 : (chk n f != 0) = true := by rw [bne_iff_ne]; exact e1
    have x2 : (chk n f == 0) = false := by rw [beq_eq_false_iff_ne]; exact e1
    have C1 := Lib.hid c1
    have HB := Lib.hid hb0
    clear c1 c2 h h1 e1 hb0
    generalize chk n f = er at *
    go_enter Tryz.func29, Tryz.ntmps29
    go_wp2_with fail
    refine C1.out.mono ?_
    rintro _ _ ⟨rfl, rfl⟩
    go_wp2_with fail
    go_ret
    exact ⟨rfl, HB.out⟩
end Go.Proofs.YtbjaolmlnkliiaaGreatDoor

/- The contracts of checkBoth, Add, Sub, Mul and Div. Conditions as premises: the numbers read, and are short enough, or one is not valid. -/
namespace Go.Proofs.YtbjaolmlnkliiaaGreatDoor
open Go.RowKit Go.Shelf

/-- a valid number is a rational number -/
theorem Raw.rq {w : World} {neg : Bool} {A A' : Option Addr} {n c m c' : Nat} {f g : Nat → Nat} (h : Raw w neg A n c f A' m c' g) (e : chkR neg n f m g = 0) :
    ∃ q : Rat, Rq w q (.agg #[.bool neg, .slice A n c, .slice A' m c']) ∧ q.num.natAbs = nv f n ∧ q.den = nv g m ∧ n ≤ 1024 ∧ m ≤ 1024 ∧ Dig n f (nv f n) ∧ Dig m g (nv g m) := by
  unfold chkR at e
  split at e
  · rename_i e1
    split at e
    · rename_i e2
      obtain ⟨hn, vf⟩ := chk_zero e1
      obtain ⟨hm, vg⟩ := chk_zero e2
      split at e
      · cases e
      · rename_i e3
        split at e
        · cases e
        · rename_i e4
          have hg : Nat.gcd (nv f n) (nv g m) = 1 := by
            rcases Classical.em (Nat.gcd (nv f n) (nv g m) = 1) with k | k
            · exact k
            · exact absurd (.inr k) e4
          have hd : nv g m ≠ 0 := fun k => e3 (vg.zero_iff.1 k)
          refine ⟨⟨sn neg (nv f n), nv g m, hd, by rw [sn_abs]; exact hg⟩, Rq.mk ?_ (sn_abs _ _) rfl ⟨_, _, _, _, rfl, h.num, ⟨vf, rfl⟩⟩ ⟨_, _, _, _, rfl, h.den, ⟨vg, rfl⟩⟩, sn_abs _ _, rfl, hn, hm, ⟨vf, rfl⟩, ⟨vg, rfl⟩⟩
          by_cases h0 : nv f n = 0
          · show neg = decide (sn neg (nv f n) < 0)
            rw [h0, sn_zero]
            cases neg
            · rfl
            · exact absurd (.inl ⟨rfl, vf.zero_iff.1 h0⟩) e4
          · exact (sn_lt neg _ h0).symm
    · rename_i e2; exact absurd e e2
  · rename_i e1; exact absurd e e1

/-- a rational number is valid -/
theorem Rq.raw {w : World} {q : Rat} {v : Value} (h : Rq w q v) (hn : q.num.natAbs < LB ^ NL) (hd : q.den < LB ^ NL) :
    ∃ b A n c f A' m c' g, v = .agg #[.bool b, .slice A n c, .slice A' m c'] ∧ Raw w b A n c f A' m c' g ∧ chkR b n f m g = 0 := by
  obtain ⟨b, A, n, c, A', m, c', rfl, ⟨_, _, _, f, e1, hr1, hd1⟩, ⟨_, _, _, g, e2, hr2, hd2⟩, eb⟩ := h.get
  cases e1
  cases e2
  refine ⟨b, A, n, c, f, A', m, c', g, rfl, ⟨hr1, hr2⟩, ?_⟩
  unfold chkR
  rw [if_pos (Nr.chk hd1 hn), if_pos (Nr.chk hd2 hd)]
  have hm : m ≠ 0 := by
    rintro rfl
    have := hd2.eq
    exact q.den_nz this.symm
  rw [if_neg hm, if_neg]
  rintro (⟨hb, h0⟩ | h1)
  · subst h0
    have h2 := hd1.eq
    have h3 : q.num = 0 := Int.natAbs_eq_zero.1 h2.symm
    rw [eb.out, h3] at hb
    cases hb
  · rw [hd1.eq, hd2.eq] at h1
    exact h1 q.reduced

/-- the error of the first of two numbers that has one -/
noncomputable def chkRR (b1 : Bool) (n1 : Nat) (f1 : Nat → Nat) (n2 : Nat) (f2 : Nat → Nat) (b2 : Bool) (n3 : Nat) (f3 : Nat → Nat) (n4 : Nat) (f4 : Nat → Nat) : Int := if chkR b1 n1 f1 n2 f2 = 0 then chkR b2 n3 f3 n4 f4 else chkR b1 n1 f1 n2 f2

set_option maxRecDepth 100000 in
set_option maxHeartbeats 4000000 in
theorem checkBoth_any {w : World} {b1 b2 : Bool} {A1 A2 A3 A4 : Option Addr} {n1 c1 n2 c2 n3 c3 n4 c4 : Nat} {f1 f2 f3 f4 : Nat → Nat} (h : Raw w b1 A1 n1 c1 f1 A2 n2 c2 f2) (k : Raw w b2 A3 n3 c3 f3 A4 n4 c4 f4) :
    Calls Tryz.prog 94 #[.agg #[.bool b1, .slice A1 n1 c1, .slice A2 n2 c2], .agg #[.bool b2, .slice A3 n3 c3, .slice A4 n4 c4]] w fun e w' => e = .returned (.int .i64 (chkRR b1 n1 f1 n2 f2 b2 n3 f3 n4 f4)) ∧ Below w.heap.size w w' := by
  have hb0 := below2 w (.cells #[.bool b1, .slice A1 n1 c1, .slice A2 n2 c2] 25) (.cells #[.bool b2, .slice A3 n3 c3, .slice A4 n4 c4] 25)
  have k3 := (Blk.new (w.alloc (.cells #[.bool b1, .slice A1 n1 c1, .slice A2 n2 c2] 25)) #[.bool b2, .slice A3 n3 c3, .slice A4 n4 c4] 25)
  simp only [World.size_alloc] at k3
  have K3 := Lib.hid k3
  have C1 := Lib.hid (ratCheck_any (h.below hb0))
  have HK := Lib.hid (k.below hb0)
  have HB := Lib.hid hb0
  clear h k hb0 k3
  by_cases e1 : chkR b1 n1 f1 n2 f2 = 0
  · rw [show chkRR b1 n1 f1 n2 f2 b2 n3 f3 n4 f4 = chkR b2 n3 f3 n4 f4 by unfold chkRR; rw [if_pos e1]]
    rw [e1] at C1
    generalize hge : chkR b2 n3 f3 n4 f4 = er at *
    have HGE := Lib.hid hge
    clear e1 hge
    go_enter Tryz.func94, Tryz.ntmps94
    go_wp2_with fail
    refine C1.out.mono ?_
    rintro _ w1 ⟨rfl, hb⟩
    have k3 := K3.out.after hb
    have d0 := k3.cell (i := 0) rfl
    have d1 := k3.cell (i := 1) rfl
    have d2 := k3.cell (i := 2) rfl
    have hz : w.heap.size + 1 < w1.heap.size := k3.lt
    have C2 := Lib.hid (ratCheck_any (HK.out.below hb))
    replace HB := Lib.hid (HB.out.trans (hb.mono HB.out.size))
    clear hb k3
    rw [HGE.out] at C2
    go_wp2_with fail
    refine C2.out.mono ?_
    rintro _ w2 ⟨rfl, hb⟩
    replace HB := Lib.hid (HB.out.trans (hb.mono HB.out.size))
    clear hb
    go_wp2_with fail
    go_ret
    exact ⟨rfl, HB.out⟩
  · rw [show chkRR b1 n1 f1 n2 f2 b2 n3 f3 n4 f4 = chkR b1 n1 f1 n2 f2 by unfold chkRR; rw [if_neg e1]]
    have x1 : (chkR b1 n1 f1 n2 f2 != 0) = true := by rw [bne_iff_ne]; exact e1
    have x2 : (chkR b1 n1 f1 n2 f2 == 0) = false := by rw [beq_eq_false_iff_ne]; exact e1
    generalize chkR b1 n1 f1 n2 f2 = er at *
    clear e1
    go_enter Tryz.func94, Tryz.ntmps94
    go_wp2_with fail
    refine C1.out.mono ?_
    rintro _ w1 ⟨rfl, hb⟩
    replace HB := Lib.hid (HB.out.trans (hb.mono HB.out.size))
    clear hb
    go_wp2_with fail
    go_ret
    exact ⟨rfl, HB.out⟩

theorem chkRR_zero {b1 b2 : Bool} {n1 n2 n3 n4 : Nat} {f1 f2 f3 f4 : Nat → Nat} (h : chkRR b1 n1 f1 n2 f2 b2 n3 f3 n4 f4 = 0) : chkR b1 n1 f1 n2 f2 = 0 ∧ chkR b2 n3 f3 n4 f4 = 0 := by
  unfold chkRR at h
  split at h
  · exact ⟨by assumption, h⟩
  · exact absurd h (by assumption)
theorem chkRR_ok {b1 b2 : Bool} {n1 n2 n3 n4 : Nat} {f1 f2 f3 f4 : Nat → Nat} (h : chkR b1 n1 f1 n2 f2 = 0) (k : chkR b2 n3 f3 n4 f4 = 0) : chkRR b1 n1 f1 n2 f2 b2 n3 f3 n4 f4 = 0 := by
  unfold chkRR; rw [if_pos h]; exact k

/-- the value that comes with an error -/
def zeroRat : Value := .agg #[.bool false, .slice none 0 0, .slice none 0 0]

set_option maxRecDepth 100000 in
set_option maxHeartbeats 4000000 in
theorem ratAdd_bad {w : World} {b1 b2 : Bool} {A1 A2 A3 A4 : Option Addr} {n1 c1 n2 c2 n3 c3 n4 c4 : Nat} {f1 f2 f3 f4 : Nat → Nat} (h : Raw w b1 A1 n1 c1 f1 A2 n2 c2 f2) (k : Raw w b2 A3 n3 c3 f3 A4 n4 c4 f4) (he : chkRR b1 n1 f1 n2 f2 b2 n3 f3 n4 f4 ≠ 0) :
    Calls Tryz.prog 73 #[.agg #[.bool b1, .slice A1 n1 c1, .slice A2 n2 c2], .agg #[.bool b2, .slice A3 n3 c3, .slice A4 n4 c4]] w fun e w' => e = .returned (.tuple #[zeroRat, .int .i64 (chkRR b1 n1 f1 n2 f2 b2 n3 f3 n4 f4)]) ∧ Below w.heap.size w w' := by
  have hb0 : Below w.heap.size w (((w.alloc (.cells #[.bool b1, .slice A1 n1 c1, .slice A2 n2 c2] 25)).alloc (.cells #[.bool b2, .slice A3 n3 c3, .slice A4 n4 c4] 25)).alloc (.cells #[.bool false, .slice none 0 0, .slice none 0 0] 25)) := (below2 w _ _).alloc (by simp; omega) _
  have k4 := Blk.new ((w.alloc (.cells #[.bool b1, .slice A1 n1 c1, .slice A2 n2 c2] 25)).alloc (.cells #[.bool b2, .slice A3 n3 c3, .slice A4 n4 c4] 25)) #[.bool false, .slice none 0 0, .slice none 0 0] 25
  simp only [World.size_alloc] at k4
  have K4 := Lib.hid k4
  have C1 := Lib.hid (checkBoth_any (h.below hb0) (k.below hb0))
  have x1 : (chkRR b1 n1 f1 n2 f2 b2 n3 f3 n4 f4 != 0) = true := by rw [bne_iff_ne]; exact he
  have x2 : (chkRR b1 n1 f1 n2 f2 b2 n3 f3 n4 f4 == 0) = false := by rw [beq_eq_false_iff_ne]; exact he
  have HB := Lib.hid hb0
  generalize chkRR b1 n1 f1 n2 f2 b2 n3 f3 n4 f4 = er at *
  clear h k hb0 k4 he
  go_enter Tryz.func73, Tryz.ntmps73
  go_wp2_with fail
  refine C1.out.mono ?_
  rintro _ w1 ⟨rfl, hb⟩
  have k4 := K4.out.after hb
  have d0 := k4.cell (i := 0) rfl
  have d1 := k4.cell (i := 1) rfl
  have d2 := k4.cell (i := 2) rfl
  have ff := k4.free
  have hz : w.heap.size + 1 + 1 < w1.heap.size := k4.lt
  have K5 := Lib.hid k4
  replace HB := Lib.hid (HB.out.trans (hb.mono HB.out.size))
  clear hb k4 K4 C1
  go_wp2_with fail
  refine bodyPost_ret (results_row_tmp (p := 4) (ty := 25) rfl _ _ (w.heap.size + 1 + 1) 25 _ _ _ rfl K5.out.set.set.set Tryz.underlying25 rfl (by kernel_rfl)) rfl ?_
  exact ⟨rfl, ((HB.out.setCell (by simp; omega) _).setCell (by simp; omega) _).setCell (by simp; omega) _⟩

set_option maxRecDepth 100000 in
set_option maxHeartbeats 4000000 in
theorem ratSub_bad {w : World} {b1 b2 : Bool} {A1 A2 A3 A4 : Option Addr} {n1 c1 n2 c2 n3 c3 n4 c4 : Nat} {f1 f2 f3 f4 : Nat → Nat} (h : Raw w b1 A1 n1 c1 f1 A2 n2 c2 f2) (k : Raw w b2 A3 n3 c3 f3 A4 n4 c4 f4) (he : chkRR b1 n1 f1 n2 f2 b2 n3 f3 n4 f4 ≠ 0) :
    Calls Tryz.prog 21 #[.agg #[.bool b1, .slice A1 n1 c1, .slice A2 n2 c2], .agg #[.bool b2, .slice A3 n3 c3, .slice A4 n4 c4]] w fun e w' => e = .returned (.tuple #[zeroRat, .int .i64 (chkRR b1 n1 f1 n2 f2 b2 n3 f3 n4 f4)]) ∧ Below w.heap.size w w' := by
  have hb0 : Below w.heap.size w (((w.alloc (.cells #[.bool b1, .slice A1 n1 c1, .slice A2 n2 c2] 25)).alloc (.cells #[.bool b2, .slice A3 n3 c3, .slice A4 n4 c4] 25)).alloc (.cells #[.bool false, .slice none 0 0, .slice none 0 0] 25)) := (below2 w _ _).alloc (by simp; omega) _
  have k4 := Blk.new ((w.alloc (.cells #[.bool b1, .slice A1 n1 c1, .slice A2 n2 c2] 25)).alloc (.cells #[.bool b2, .slice A3 n3 c3, .slice A4 n4 c4] 25)) #[.bool false, .slice none 0 0, .slice none 0 0] 25
  simp only [World.size_alloc] at k4
  have K4 := Lib.hid k4
  have C1 := Lib.hid (checkBoth_any (h.below hb0) (k.below hb0))
  have x1 : (chkRR b1 n1 f1 n2 f2 b2 n3 f3 n4 f4 != 0) = true := by rw [bne_iff_ne]; exact he
  have x2 : (chkRR b1 n1 f1 n2 f2 b2 n3 f3 n4 f4 == 0) = false := by rw [beq_eq_false_iff_ne]; exact he
  have HB := Lib.hid hb0
  generalize chkRR b1 n1 f1 n2 f2 b2 n3 f3 n4 f4 = er at *
  clear h k hb0 k4 he
  go_enter Tryz.func21, Tryz.ntmps21
  go_wp2_with fail
  refine C1.out.mono ?_
  rintro _ w1 ⟨rfl, hb⟩
  have k4 := K4.out.after hb
  have d0 := k4.cell (i := 0) rfl
  have d1 := k4.cell (i := 1) rfl
  have d2 := k4.cell (i := 2) rfl
  have ff := k4.free
  have hz : w.heap.size + 1 + 1 < w1.heap.size := k4.lt
  have K5 := Lib.hid k4
  replace HB := Lib.hid (HB.out.trans (hb.mono HB.out.size))
  clear hb k4 K4 C1
  go_wp2_with fail
  refine bodyPost_ret (results_row_tmp (p := 4) (ty := 25) rfl _ _ (w.heap.size + 1 + 1) 25 _ _ _ rfl K5.out.set.set.set Tryz.underlying25 rfl (by kernel_rfl)) rfl ?_
  exact ⟨rfl, ((HB.out.setCell (by simp; omega) _).setCell (by simp; omega) _).setCell (by simp; omega) _⟩

set_option maxRecDepth 100000 in
set_option maxHeartbeats 4000000 in
theorem ratMul_bad {w : World} {b1 b2 : Bool} {A1 A2 A3 A4 : Option Addr} {n1 c1 n2 c2 n3 c3 n4 c4 : Nat} {f1 f2 f3 f4 : Nat → Nat} (h : Raw w b1 A1 n1 c1 f1 A2 n2 c2 f2) (k : Raw w b2 A3 n3 c3 f3 A4 n4 c4 f4) (he : chkRR b1 n1 f1 n2 f2 b2 n3 f3 n4 f4 ≠ 0) :
    Calls Tryz.prog 74 #[.agg #[.bool b1, .slice A1 n1 c1, .slice A2 n2 c2], .agg #[.bool b2, .slice A3 n3 c3, .slice A4 n4 c4]] w fun e w' => e = .returned (.tuple #[zeroRat, .int .i64 (chkRR b1 n1 f1 n2 f2 b2 n3 f3 n4 f4)]) ∧ Below w.heap.size w w' := by
  have hb0 : Below w.heap.size w (((w.alloc (.cells #[.bool b1, .slice A1 n1 c1, .slice A2 n2 c2] 25)).alloc (.cells #[.bool b2, .slice A3 n3 c3, .slice A4 n4 c4] 25)).alloc (.cells #[.bool false, .slice none 0 0, .slice none 0 0] 25)) := (below2 w _ _).alloc (by simp; omega) _
  have k4 := Blk.new ((w.alloc (.cells #[.bool b1, .slice A1 n1 c1, .slice A2 n2 c2] 25)).alloc (.cells #[.bool b2, .slice A3 n3 c3, .slice A4 n4 c4] 25)) #[.bool false, .slice none 0 0, .slice none 0 0] 25
  simp only [World.size_alloc] at k4
  have K4 := Lib.hid k4
  have C1 := Lib.hid (checkBoth_any (h.below hb0) (k.below hb0))
  have x1 : (chkRR b1 n1 f1 n2 f2 b2 n3 f3 n4 f4 != 0) = true := by rw [bne_iff_ne]; exact he
  have x2 : (chkRR b1 n1 f1 n2 f2 b2 n3 f3 n4 f4 == 0) = false := by rw [beq_eq_false_iff_ne]; exact he
  have HB := Lib.hid hb0
  generalize chkRR b1 n1 f1 n2 f2 b2 n3 f3 n4 f4 = er at *
  clear h k hb0 k4 he
  go_enter Tryz.func74, Tryz.ntmps74
  go_wp2_with fail
  refine C1.out.mono ?_
  rintro _ w1 ⟨rfl, hb⟩
  have k4 := K4.out.after hb
  have d0 := k4.cell (i := 0) rfl
  have d1 := k4.cell (i := 1) rfl
  have d2 := k4.cell (i := 2) rfl
  have ff := k4.free
  have hz : w.heap.size + 1 + 1 < w1.heap.size := k4.lt
  have K5 := Lib.hid k4
  replace HB := Lib.hid (HB.out.trans (hb.mono HB.out.size))
  clear hb k4 K4 C1
  go_wp2_with fail
  refine bodyPost_ret (results_row_tmp (p := 4) (ty := 25) rfl _ _ (w.heap.size + 1 + 1) 25 _ _ _ rfl K5.out.set.set.set Tryz.underlying25 rfl (by kernel_rfl)) rfl ?_
  exact ⟨rfl, ((HB.out.setCell (by simp; omega) _).setCell (by simp; omega) _).setCell (by simp; omega) _⟩

set_option maxRecDepth 100000 in
set_option maxHeartbeats 4000000 in
theorem ratDiv_bad {w : World} {b1 b2 : Bool} {A1 A2 A3 A4 : Option Addr} {n1 c1 n2 c2 n3 c3 n4 c4 : Nat} {f1 f2 f3 f4 : Nat → Nat} (h : Raw w b1 A1 n1 c1 f1 A2 n2 c2 f2) (k : Raw w b2 A3 n3 c3 f3 A4 n4 c4 f4) (he : chkRR b1 n1 f1 n2 f2 b2 n3 f3 n4 f4 ≠ 0) :
    Calls Tryz.prog 23 #[.agg #[.bool b1, .slice A1 n1 c1, .slice A2 n2 c2], .agg #[.bool b2, .slice A3 n3 c3, .slice A4 n4 c4]] w fun e w' => e = .returned (.tuple #[zeroRat, .int .i64 (chkRR b1 n1 f1 n2 f2 b2 n3 f3 n4 f4)]) ∧ Below w.heap.size w w' := by
  have hb0 : Below w.heap.size w (((w.alloc (.cells #[.bool b1, .slice A1 n1 c1, .slice A2 n2 c2] 25)).alloc (.cells #[.bool b2, .slice A3 n3 c3, .slice A4 n4 c4] 25)).alloc (.cells #[.bool false, .slice none 0 0, .slice none 0 0] 25)) := (below2 w _ _).alloc (by simp; omega) _
  have k4 := Blk.new ((w.alloc (.cells #[.bool b1, .slice A1 n1 c1, .slice A2 n2 c2] 25)).alloc (.cells #[.bool b2, .slice A3 n3 c3, .slice A4 n4 c4] 25)) #[.bool false, .slice none 0 0, .slice none 0 0] 25
  simp only [World.size_alloc] at k4
  have K4 := Lib.hid k4
  have C1 := Lib.hid (checkBoth_any (h.below hb0) (k.below hb0))
  have x1 : (chkRR b1 n1 f1 n2 f2 b2 n3 f3 n4 f4 != 0) = true := by rw [bne_iff_ne]; exact he
  have x2 : (chkRR b1 n1 f1 n2 f2 b2 n3 f3 n4 f4 == 0) = false := by rw [beq_eq_false_iff_ne]; exact he
  have HB := Lib.hid hb0
  generalize chkRR b1 n1 f1 n2 f2 b2 n3 f3 n4 f4 = er at *
  clear h k hb0 k4 he
  go_enter Tryz.func23, Tryz.ntmps23
  go_wp2_with fail
  refine C1.out.mono ?_
  rintro _ w1 ⟨rfl, hb⟩
  have k4 := K4.out.after hb
  have d0 := k4.cell (i := 0) rfl
  have d1 := k4.cell (i := 1) rfl
  have d2 := k4.cell (i := 2) rfl
  have ff := k4.free
  have hz : w.heap.size + 1 + 1 < w1.heap.size := k4.lt
  have K5 := Lib.hid k4
  replace HB := Lib.hid (HB.out.trans (hb.mono HB.out.size))
  clear hb k4 K4 C1
  go_wp2_with fail
  refine bodyPost_ret (results_row_tmp (p := 4) (ty := 25) rfl _ _ (w.heap.size + 1 + 1) 25 _ _ _ rfl K5.out.set.set.set Tryz.underlying25 rfl (by kernel_rfl)) rfl ?_
  exact ⟨rfl, ((HB.out.setCell (by simp; omega) _).setCell (by simp; omega) _).setCell (by simp; omega) _⟩
end Go.Proofs.YtbjaolmlnkliiaaGreatDoor

/- The contracts of Add, Sub, Mul and Div at valid numbers. Conditions as premises: the numbers are short enough. -/
namespace Go.Proofs.YtbjaolmlnkliiaaGreatDoor
open Go.RowKit Go.Shelf
attribute [local go_sem ↓] Go.wp_at_zero Go.wp_at_succ

/-- both parts have at most k limbs -/
def Sz (k : Nat) (q : Rat) : Prop := q.num.natAbs < LB ^ k ∧ q.den < LB ^ k
theorem lt_up {x a b : Nat} (h : x < LB ^ a) (k : a ≤ b) : x < LB ^ b := Nat.lt_of_lt_of_le h (pow_le_of k)
theorem lt_NL {x a : Nat} (h : x < LB ^ a) (k : a ≤ 1024) : x < LB ^ NL := lt_up h (by rw [NL_eq]; exact k)
theorem Sz.up {k j : Nat} {q : Rat} (h : Sz k q) (hk : k ≤ j) : Sz j q := ⟨lt_up h.1 hk, lt_up h.2 hk⟩
theorem mul_lt {x y a b : Nat} (h : x < LB ^ a) (k : y < LB ^ b) : x * y < LB ^ (a + b) := by rw [Nat.pow_add]; exact Nat.mul_lt_mul'' h k
theorem add_lt {x y e : Nat} (h : x < LB ^ e) (k : y < LB ^ e) : x + y < LB ^ (e + 1) := by
  have : LB ^ e * 2 ≤ LB ^ e * LB := Nat.mul_le_mul_left _ (by rw [LB_eq]; omega)
  rw [Nat.pow_succ]; omega
theorem absmul_le (x : Int) (y z : Nat) (h : z ≤ y) : (x * (z : Int)).natAbs ≤ x.natAbs * y := by
  rw [Int.natAbs_mul, Int.natAbs_natCast]; exact Nat.mul_le_mul_left _ h
theorem Sz.sum {i j : Nat} {a b : Rat} (h : Sz i a) (k : Sz j b) (hij : i + j ≤ 1023) : SumOk a b := by
  have x1 := absmul_le a.num b.den (b.den / Nat.gcd a.den b.den) (Nat.div_le_self _ _)
  have y1 := absmul_le b.num a.den (a.den / Nat.gcd a.den b.den) (Nat.div_le_self _ _)
  have x2 := mul_lt h.1 k.2
  have y2 := mul_lt k.1 h.2
  rw [Nat.add_comm j i] at y2
  have s1 := add_lt (Nat.lt_of_le_of_lt x1 x2) (Nat.lt_of_le_of_lt y1 y2)
  exact ⟨lt_NL h.1 (by omega), lt_NL h.2 (by omega), lt_NL k.1 (by omega), lt_NL k.2 (by omega), lt_NL (Nat.lt_of_le_of_lt x1 x2) (by omega), lt_NL (Nat.lt_of_le_of_lt y1 y2) (by omega), lt_NL s1 (by omega), lt_NL (mul_lt h.2 k.2) (by omega)⟩
theorem Sz.prod {i j : Nat} {a b : Rat} (h : Sz i a) (k : Sz j b) (hij : i + j ≤ 1024) : ProdOk a.num.natAbs b.den b.num.natAbs a.den := by
  have d1 := Nat.div_le_self a.num.natAbs (Nat.gcd a.num.natAbs b.den)
  have d2 := Nat.div_le_self b.den (Nat.gcd a.num.natAbs b.den)
  have d3 := Nat.div_le_self b.num.natAbs (Nat.gcd b.num.natAbs a.den)
  have d4 := Nat.div_le_self a.den (Nat.gcd b.num.natAbs a.den)
  have q1 := mul_lt h.1 k.1
  have q2 := mul_lt k.2 h.2
  refine ⟨b.den_nz, a.den_nz, lt_NL h.1 (by omega), lt_NL k.2 (by omega), lt_NL k.1 (by omega), lt_NL h.2 (by omega), ?_, ?_, ?_, ?_⟩
  · rw [Nat.one_mul]; exact lt_NL (Nat.lt_of_le_of_lt d1 h.1) (by omega)
  · rw [Nat.one_mul]; exact lt_NL (Nat.lt_of_le_of_lt d2 k.2) (by omega)
  · rw [Nat.one_mul]; exact lt_NL (Nat.lt_of_le_of_lt (Nat.mul_le_mul d1 d3) q1) (by omega)
  · rw [Nat.one_mul]; exact lt_NL (Nat.lt_of_le_of_lt (Nat.mul_le_mul d2 d4) q2) (by omega)
theorem Sz.add {i j : Nat} {a b : Rat} (h : Sz i a) (k : Sz j b) : Sz (i + j + 1) (a + b) := by
  obtain ⟨_, e2, e3, _⟩ := sum_steps a b
  have x1 := absmul_le a.num b.den (b.den / Nat.gcd a.den b.den) (Nat.div_le_self _ _)
  have y1 := absmul_le b.num a.den (a.den / Nat.gcd a.den b.den) (Nat.div_le_self _ _)
  have x2 := mul_lt h.1 k.2
  have y2 := mul_lt k.1 h.2
  rw [Nat.add_comm j i] at y2
  have s1 := add_lt (Nat.lt_of_le_of_lt x1 x2) (Nat.lt_of_le_of_lt y1 y2)
  refine ⟨?_, ?_⟩
  · rw [e2]; exact Nat.lt_of_le_of_lt (Nat.div_le_self _ _) (Nat.lt_of_le_of_lt (Int.natAbs_add_le _ _) s1)
  · rw [e3]; exact lt_up (Nat.lt_of_le_of_lt (Nat.mul_le_mul (Nat.div_le_self _ _) (Nat.div_le_self _ _)) (mul_lt h.2 k.2)) (by omega)
theorem Sz.mul {i j : Nat} {a b : Rat} (h : Sz i a) (k : Sz j b) : Sz (i + j) (a * b) := by
  obtain ⟨e1, e2, _, _⟩ := mul_steps a b
  refine ⟨?_, ?_⟩
  · rw [e1]; exact Nat.lt_of_le_of_lt (Nat.mul_le_mul (Nat.div_le_self _ _) (Nat.div_le_self _ _)) (mul_lt h.1 k.1)
  · rw [e2]; exact Nat.lt_of_le_of_lt (Nat.mul_le_mul (Nat.div_le_self _ _) (Nat.div_le_self _ _)) (by rw [Nat.mul_comm b.den]; exact Nat.lt_of_le_of_lt (Nat.le_of_eq (Nat.mul_comm _ _)) (by rw [Nat.mul_comm, ]; exact mul_lt h.2 k.2))
theorem Sz.neg {i : Nat} {a : Rat} (h : Sz i a) : Sz i (-a) := ⟨by rw [Rat.neg_num, Int.natAbs_neg]; exact h.1, h.2⟩
theorem Sz.sub {i j : Nat} {a b : Rat} (h : Sz i a) (k : Sz j b) : Sz (i + j + 1) (a - b) := by rw [Rat.sub_eq_add_neg]; exact h.add k.neg
theorem inv_parts {b : Rat} (h : b ≠ 0) : (b⁻¹).num.natAbs = b.den ∧ (b⁻¹).den = b.num.natAbs ∧ ((b⁻¹).num < 0 ↔ b.num < 0) := by
  have hn : b.num ≠ 0 := fun e => h (Rat.num_eq_zero.1 e)
  have hd : (0 : Int) < b.den := by have := b.den_pos; omega
  rw [Rat.num_inv, Rat.den_inv, if_neg hn]
  rcases Int.lt_or_gt_of_ne hn with k | k
  · rw [Int.sign_eq_neg_one_of_neg k]; refine ⟨by omega, rfl, by omega⟩
  · rw [Int.sign_eq_one_of_pos k]; refine ⟨by omega, rfl, by omega⟩
theorem Sz.inv {i : Nat} {b : Rat} (h : Sz i b) (hb : b ≠ 0) : Sz i b⁻¹ := by
  obtain ⟨e1, e2, _⟩ := inv_parts hb
  exact ⟨by rw [e1]; exact h.2, by rw [e2]; exact h.1⟩
theorem Sz.div {i j : Nat} {a b : Rat} (h : Sz i a) (k : Sz j b) (hb : b ≠ 0) : Sz (i + j) (a / b) := by rw [Rat.div_def]; exact h.mul (k.inv hb)

set_option maxRecDepth 100000 in
set_option maxHeartbeats 4000000 in
theorem ratAddQ {w : World} {i j : Nat} {a b : Rat} {v u : Value} (ha : Rq w a v) (hb : Rq w b u) (hT : Tabs w) (sa : Sz i a) (sb : Sz j b) (hij : i + j ≤ 1023) :
    Calls Tryz.prog 73 #[v, u] w fun e w' => ∃ t, e = .returned (.tuple #[t, .int .i64 0]) ∧ Rq w' (a + b) t ∧ Below w.heap.size w w' := by
  obtain ⟨b1, A1, n1, c1, f1, A2, n2, c2, f2, rfl, hr, h0⟩ := ha.raw (lt_NL sa.1 (by omega)) (lt_NL sa.2 (by omega))
  obtain ⟨b2, A3, n3, c3, f3, A4, n4, c4, f4, rfl, kr, k0⟩ := hb.raw (lt_NL sb.1 (by omega)) (lt_NL sb.2 (by omega))
  have hbb : Below w.heap.size w (((w.alloc (.cells #[.bool b1, .slice A1 n1 c1, .slice A2 n2 c2] 25)).alloc (.cells #[.bool b2, .slice A3 n3 c3, .slice A4 n4 c4] 25)).alloc (.cells #[.bool false, .slice none 0 0, .slice none 0 0] 25)) := (below2 w _ _).alloc (by simp; omega) _
  have k2 := ((Blk.new w #[.bool b1, .slice A1 n1 c1, .slice A2 n2 c2] 25).alloc (.cells #[.bool b2, .slice A3 n3 c3, .slice A4 n4 c4] 25)).alloc (.cells #[.bool false, .slice none 0 0, .slice none 0 0] 25)
  have k3 := (Blk.new (w.alloc (.cells #[.bool b1, .slice A1 n1 c1, .slice A2 n2 c2] 25)) #[.bool b2, .slice A3 n3 c3, .slice A4 n4 c4] 25).alloc (.cells #[.bool false, .slice none 0 0, .slice none 0 0] 25)
  have k4 := Blk.new ((w.alloc (.cells #[.bool b1, .slice A1 n1 c1, .slice A2 n2 c2] 25)).alloc (.cells #[.bool b2, .slice A3 n3 c3, .slice A4 n4 c4] 25)) #[.bool false, .slice none 0 0, .slice none 0 0] 25
  simp only [World.size_alloc] at k2 k3 k4
  have K2 := Lib.hid k2
  have K3 := Lib.hid k3
  have K4 := Lib.hid k4
  have c1' := checkBoth_any (hr.below hbb) (kr.below hbb)
  rw [chkRR_ok h0 k0] at c1'
  have C1 := Lib.hid c1'
  have HA := Lib.hid (ha.below hbb)
  have HBB := Lib.hid (hb.below hbb)
  have HT := Lib.hid (hT.below hbb)
  have HB := Lib.hid hbb
  have SA := Lib.hid sa
  have SB := Lib.hid sb
  clear ha hb hT hr kr h0 k0 c1' k2 k3 k4 hbb sa sb
  go_enter Tryz.func73, Tryz.ntmps73
  go_wp2_with fail
  refine C1.out.mono ?_
  rintro _ w1 ⟨rfl, hb⟩
  have k2 := K2.out.after hb
  have k3 := K3.out.after hb
  have k4 := K4.out.after hb
  have y2 : w.heap.size < w1.heap.size := k2.lt
  have y3 : w.heap.size + 1 < w1.heap.size := k3.lt
  have y4 : w.heap.size + 1 + 1 < w1.heap.size := k4.lt
  replace HA := Lib.hid (HA.out.below hb)
  replace HBB := Lib.hid (HBB.out.below hb)
  replace HT := Lib.hid (HT.out.below hb)
  replace HB := Lib.hid (HB.out.trans (hb.mono HB.out.size))
  have C2 := Lib.hid (sumQ HA.out HBB.out HT.out (SA.out.sum SB.out hij))
  have d20 := k2.cell (i := 0) rfl
  have d21 := k2.cell (i := 1) rfl
  have d22 := k2.cell (i := 2) rfl
  have d30 := k3.cell (i := 0) rfl
  have d31 := k3.cell (i := 1) rfl
  have d32 := k3.cell (i := 2) rfl
  have K5 := Lib.hid k4
  clear hb k2 k3 k4 K2 K3 K4 C1
  go_wp2_with fail
  refine C2.out.mono ?_
  rintro _ w2 ⟨t, rfl, ht, hb⟩
  obtain ⟨b3, B1, m1, e1, B2, m2, e2, rfl, _, _, _⟩ := ht.get
  have k4 := K5.out.after hb
  have d40 := k4.cell (i := 0) rfl
  have d41 := k4.cell (i := 1) rfl
  have d42 := k4.cell (i := 2) rfl
  have ff := k4.free
  have z4 : w.heap.size + 1 + 1 < w2.heap.size := k4.lt
  have HR := Lib.hid ht
  have K6 := Lib.hid k4
  replace HB := Lib.hid (HB.out.trans (hb.mono HB.out.size))
  clear hb ht k4 K5 C2 d20 d21 d22 d30 d31 d32
  go_wp2_with fail
  refine bodyPost_ret (results_row_tmp (p := 4) (ty := 25) rfl _ _ (w.heap.size + 1 + 1) 25 _ _ _ rfl K6.out.set.set.set Tryz.underlying25 rfl (by kernel_rfl)) rfl ?_
  obtain ⟨g1, g2, g3⟩ := HR.out.inv
  exact ⟨_, rfl, Rq.mk g3 rfl rfl (g1.put3 K6.out (hnoR _ _ _ _ _ _ _)) (g2.put3 K6.out (hnoR _ _ _ _ _ _ _)), ((HB.out.setCell (by simp; omega) _).setCell (by simp; omega) _).setCell (by simp; omega) _⟩

set_option maxRecDepth 100000 in
set_option maxHeartbeats 4000000 in
theorem ratMulQ {w : World} {i j : Nat} {a b : Rat} {v u : Value} (ha : Rq w a v) (hb : Rq w b u) (hT : Tabs w) (sa : Sz i a) (sb : Sz j b) (hij : i + j ≤ 1024) :
    Calls Tryz.prog 74 #[v, u] w fun e w' => ∃ t, e = .returned (.tuple #[t, .int .i64 0]) ∧ Rq w' (a * b) t ∧ Below w.heap.size w w' := by
  obtain ⟨b1, A1, n1, c1, f1, A2, n2, c2, f2, rfl, hr, h0⟩ := ha.raw (lt_NL sa.1 (by omega)) (lt_NL sa.2 (by omega))
  obtain ⟨b2, A3, n3, c3, f3, A4, n4, c4, f4, rfl, kr, k0⟩ := hb.raw (lt_NL sb.1 (by omega)) (lt_NL sb.2 (by omega))
  have hbb : Below w.heap.size w (((w.alloc (.cells #[.bool b1, .slice A1 n1 c1, .slice A2 n2 c2] 25)).alloc (.cells #[.bool b2, .slice A3 n3 c3, .slice A4 n4 c4] 25)).alloc (.cells #[.bool false, .slice none 0 0, .slice none 0 0] 25)) := (below2 w _ _).alloc (by simp; omega) _
  have k2 := ((Blk.new w #[.bool b1, .slice A1 n1 c1, .slice A2 n2 c2] 25).alloc (.cells #[.bool b2, .slice A3 n3 c3, .slice A4 n4 c4] 25)).alloc (.cells #[.bool false, .slice none 0 0, .slice none 0 0] 25)
  have k3 := (Blk.new (w.alloc (.cells #[.bool b1, .slice A1 n1 c1, .slice A2 n2 c2] 25)) #[.bool b2, .slice A3 n3 c3, .slice A4 n4 c4] 25).alloc (.cells #[.bool false, .slice none 0 0, .slice none 0 0] 25)
  have k4 := Blk.new ((w.alloc (.cells #[.bool b1, .slice A1 n1 c1, .slice A2 n2 c2] 25)).alloc (.cells #[.bool b2, .slice A3 n3 c3, .slice A4 n4 c4] 25)) #[.bool false, .slice none 0 0, .slice none 0 0] 25
  simp only [World.size_alloc] at k2 k3 k4
  have K2 := Lib.hid k2
  have K3 := Lib.hid k3
  have K4 := Lib.hid k4
  have c1' := checkBoth_any (hr.below hbb) (kr.below hbb)
  rw [chkRR_ok h0 k0] at c1'
  have C1 := Lib.hid c1'
  have HA := Lib.hid (ha.below hbb)
  have HBB := Lib.hid (hb.below hbb)
  have HT := Lib.hid (hT.below hbb)
  have HB := Lib.hid hbb
  have SA := Lib.hid sa
  have SB := Lib.hid sb
  clear ha hb hT hr kr h0 k0 c1' k2 k3 k4 hbb sa sb
  go_enter Tryz.func74, Tryz.ntmps74
  go_wp2_with fail
  refine C1.out.mono ?_
  rintro _ w1 ⟨rfl, hb⟩
  have k2 := K2.out.after hb
  have k3 := K3.out.after hb
  have k4 := K4.out.after hb
  have y2 : w.heap.size < w1.heap.size := k2.lt
  have y3 : w.heap.size + 1 < w1.heap.size := k3.lt
  have y4 : w.heap.size + 1 + 1 < w1.heap.size := k4.lt
  replace HA := Lib.hid (HA.out.below hb)
  replace HBB := Lib.hid (HBB.out.below hb)
  replace HT := Lib.hid (HT.out.below hb)
  replace HB := Lib.hid (HB.out.trans (hb.mono HB.out.size))
  have C2 := Lib.hid (productQ HA.out HBB.out HT.out (SA.out.prod SB.out hij))
  have d20 := k2.cell (i := 0) rfl
  have d21 := k2.cell (i := 1) rfl
  have d22 := k2.cell (i := 2) rfl
  have d30 := k3.cell (i := 0) rfl
  have d31 := k3.cell (i := 1) rfl
  have d32 := k3.cell (i := 2) rfl
  have K5 := Lib.hid k4
  clear hb k2 k3 k4 K2 K3 K4 C1
  go_wp2_with fail
  refine C2.out.mono ?_
  rintro _ w2 ⟨t, rfl, ht, hb⟩
  obtain ⟨b3, B1, m1, e1, B2, m2, e2, rfl, _, _, _⟩ := ht.get
  have k4 := K5.out.after hb
  have d40 := k4.cell (i := 0) rfl
  have d41 := k4.cell (i := 1) rfl
  have d42 := k4.cell (i := 2) rfl
  have ff := k4.free
  have z4 : w.heap.size + 1 + 1 < w2.heap.size := k4.lt
  have HR := Lib.hid ht
  have K6 := Lib.hid k4
  replace HB := Lib.hid (HB.out.trans (hb.mono HB.out.size))
  clear hb ht k4 K5 C2 d20 d21 d22 d30 d31 d32
  go_wp2_with fail
  refine bodyPost_ret (results_row_tmp (p := 4) (ty := 25) rfl _ _ (w.heap.size + 1 + 1) 25 _ _ _ rfl K6.out.set.set.set Tryz.underlying25 rfl (by kernel_rfl)) rfl ?_
  obtain ⟨g1, g2, g3⟩ := HR.out.inv
  exact ⟨_, rfl, Rq.mk g3 rfl rfl (g1.put3 K6.out (hnoR _ _ _ _ _ _ _)) (g2.put3 K6.out (hnoR _ _ _ _ _ _ _)), ((HB.out.setCell (by simp; omega) _).setCell (by simp; omega) _).setCell (by simp; omega) _⟩

set_option maxRecDepth 100000 in
set_option maxHeartbeats 4000000 in
theorem ratSubQ {w : World} {i j : Nat} {a b : Rat} {v u : Value} (ha : Rq w a v) (hb : Rq w b u) (hT : Tabs w) (sa : Sz i a) (sb : Sz j b) (hij : i + j ≤ 1023) :
    Calls Tryz.prog 21 #[v, u] w fun e w' => ∃ t, e = .returned (.tuple #[t, .int .i64 0]) ∧ Rq w' (a - b) t ∧ Below w.heap.size w w' := by
  obtain ⟨b1, A1, n1, c1, f1, A2, n2, c2, f2, rfl, hr, h0⟩ := ha.raw (lt_NL sa.1 (by omega)) (lt_NL sa.2 (by omega))
  obtain ⟨b2, A3, n3, c3, f3, A4, n4, c4, f4, rfl, kr, k0⟩ := hb.raw (lt_NL sb.1 (by omega)) (lt_NL sb.2 (by omega))
  have hbb : Below w.heap.size w (((w.alloc (.cells #[.bool b1, .slice A1 n1 c1, .slice A2 n2 c2] 25)).alloc (.cells #[.bool b2, .slice A3 n3 c3, .slice A4 n4 c4] 25)).alloc (.cells #[.bool false, .slice none 0 0, .slice none 0 0] 25)) := (below2 w _ _).alloc (by simp; omega) _
  have k2 := ((Blk.new w #[.bool b1, .slice A1 n1 c1, .slice A2 n2 c2] 25).alloc (.cells #[.bool b2, .slice A3 n3 c3, .slice A4 n4 c4] 25)).alloc (.cells #[.bool false, .slice none 0 0, .slice none 0 0] 25)
  have k3 := (Blk.new (w.alloc (.cells #[.bool b1, .slice A1 n1 c1, .slice A2 n2 c2] 25)) #[.bool b2, .slice A3 n3 c3, .slice A4 n4 c4] 25).alloc (.cells #[.bool false, .slice none 0 0, .slice none 0 0] 25)
  have k4 := Blk.new ((w.alloc (.cells #[.bool b1, .slice A1 n1 c1, .slice A2 n2 c2] 25)).alloc (.cells #[.bool b2, .slice A3 n3 c3, .slice A4 n4 c4] 25)) #[.bool false, .slice none 0 0, .slice none 0 0] 25
  simp only [World.size_alloc] at k2 k3 k4
  have K2 := Lib.hid k2
  have K3 := Lib.hid k3
  have K4 := Lib.hid k4
  have c1' := checkBoth_any (hr.below hbb) (kr.below hbb)
  rw [chkRR_ok h0 k0] at c1'
  have C1 := Lib.hid c1'
  have HA := Lib.hid (ha.below hbb)
  have HBB := Lib.hid (hb.below hbb)
  have HT := Lib.hid (hT.below hbb)
  have HB := Lib.hid hbb
  have SA := Lib.hid sa
  have SB := Lib.hid sb
  clear ha hb hT hr kr h0 k0 c1' k2 k3 k4 hbb sa sb
  go_enter Tryz.func21, Tryz.ntmps21
  go_wp2_with fail
  refine C1.out.mono ?_
  rintro _ w1 ⟨rfl, hb⟩
  have k2 := K2.out.after hb
  have k3 := K3.out.after hb
  have k4 := K4.out.after hb
  have y2 : w.heap.size < w1.heap.size := k2.lt
  have y3 : w.heap.size + 1 < w1.heap.size := k3.lt
  have y4 : w.heap.size + 1 + 1 < w1.heap.size := k4.lt
  replace HA := Lib.hid (HA.out.below hb)
  replace HBB := Lib.hid (HBB.out.below hb)
  replace HT := Lib.hid (HT.out.below hb)
  replace HB := Lib.hid (HB.out.trans (hb.mono HB.out.size))
  have C2 := Lib.hid fun W (h1 : Below w1.heap.size w1 W) => negatedQ (HBB.out.below h1)
  have KEEP : Hid (∀ W, Below w1.heap.size w1 W → (W.cell? ⟨w.heap.size, 0, none⟩ = some (.bool b1) ∧ W.cell? ⟨w.heap.size, 1, none⟩ = some (.slice A1 n1 c1) ∧ W.cell? ⟨w.heap.size, 2, none⟩ = some (.slice A2 n2 c2) ∧ W.cell? ⟨w.heap.size + 1, 0, none⟩ = some (.bool b2) ∧ W.cell? ⟨w.heap.size + 1, 1, none⟩ = some (.slice A3 n3 c3) ∧ W.cell? ⟨w.heap.size + 1, 2, none⟩ = some (.slice A4 n4 c4))) := Lib.hid fun W h1 => ⟨(k2.after h1).cell rfl, (k2.after h1).cell rfl, (k2.after h1).cell rfl, (k3.after h1).cell rfl, (k3.after h1).cell rfl, (k3.after h1).cell rfl⟩
  have K5 := Lib.hid k4
  have hdrew : Below w1.heap.size w1 w1.drew := (Below.refl _ _).drew
  have hn2 : w.heap.size + 1 + 1 ≠ w.heap.size := by omega
  have hn3 : w.heap.size + 1 + 1 ≠ w.heap.size + 1 := by omega
  clear hb k2 k3 k4 K2 K3 K4 C1
  go_wp2_with fail
  go_region_held3 (fun W => W.cell? ⟨w.heap.size, 0, none⟩ = some (.bool b1) ∧ W.cell? ⟨w.heap.size, 1, none⟩ = some (.slice A1 n1 c1) ∧ W.cell? ⟨w.heap.size, 2, none⟩ = some (.slice A2 n2 c2) ∧ W.cell? ⟨w.heap.size + 1, 0, none⟩ = some (.bool b2) ∧ W.cell? ⟨w.heap.size + 1, 1, none⟩ = some (.slice A3 n3 c3) ∧ W.cell? ⟨w.heap.size + 1, 2, none⟩ = some (.slice A4 n4 c4))
    (first | with_reducible exact KEEP.out w1.drew hdrew | with_reducible exact KEEP.out wa hka | with_reducible exact KEEP.out w2 hkb | go_keep)
    (first
      | (go_at_call 96; (with_reducible refine (C2.out w1.drew hdrew).mono ?_); rintro _ wa ⟨x1, rfl, hv1, hb1⟩; have hka := hdrew.trans (hb1.mono hdrew.size); have hng := hv1 wa (HBB.out.below hka); obtain ⟨b5, B5, m5, e5, B6, m6, e6, rfl, _, _, _⟩ := hng.get; clear hv1; have C3 := Lib.hid (sumQ (HA.out.below hka) hng (HT.out.below hka) (SA.out.sum SB.out.neg hij)); clear hng)
      | (go_at_call 95; (with_reducible refine C3.out.mono ?_); rintro _ w2 ⟨t, rfl, ht, hb2⟩; obtain ⟨b3, B1, m1, e1, B2, m2, e2, rfl, _, _, _⟩ := ht.get; have hkb := hka.trans (hb2.mono hka.size); have k4 := K5.out.after hkb; have d40 := k4.cell (i := 0) rfl; have d41 := k4.cell (i := 1) rfl; have d42 := k4.cell (i := 2) rfl; have ff := k4.free; have z4 : w.heap.size + 1 + 1 < w2.heap.size := k4.lt; have HR := Lib.hid (ht.cast (Rat.sub_eq_add_neg a b).symm); clear ht))
  have K6 := Lib.hid k4
  replace HB := Lib.hid (HB.out.trans (hkb.mono HB.out.size))
  clear hkb hka hb1 hb2 k4 K5 C2 C3 KEEP
  go_wp2_with fail
  refine bodyPost_ret (results_row_tmp (p := 4) (ty := 25) rfl _ _ (w.heap.size + 1 + 1) 25 _ _ _ rfl K6.out.set.set.set Tryz.underlying25 rfl (by kernel_rfl)) rfl ?_
  obtain ⟨g1, g2, g3⟩ := HR.out.inv
  exact ⟨_, rfl, Rq.mk g3 rfl rfl (g1.put3 K6.out (hnoR _ _ _ _ _ _ _)) (g2.put3 K6.out (hnoR _ _ _ _ _ _ _)), ((HB.out.setCell (by simp; omega) _).setCell (by simp; omega) _).setCell (by simp; omega) _⟩

set_option maxRecDepth 100000 in
set_option maxHeartbeats 4000000 in
theorem ratDivQ {w : World} {i j : Nat} {a b : Rat} {v u : Value} (ha : Rq w a v) (hb : Rq w b u) (hT : Tabs w) (sa : Sz i a) (sb : Sz j b) (hij : i + j ≤ 1024) (hb0 : b ≠ 0) :
    Calls Tryz.prog 23 #[v, u] w fun e w' => ∃ t, e = .returned (.tuple #[t, .int .i64 0]) ∧ Rq w' (a / b) t ∧ Below w.heap.size w w' := by
  obtain ⟨b1, A1, n1, c1, f1, A2, n2, c2, f2, rfl, hr, h0⟩ := ha.raw (lt_NL sa.1 (by omega)) (lt_NL sa.2 (by omega))
  obtain ⟨b2, A3, n3, c3, f3, A4, n4, c4, f4, rfl, kr, k0⟩ := hb.raw (lt_NL sb.1 (by omega)) (lt_NL sb.2 (by omega))
  have hbb : Below w.heap.size w (((w.alloc (.cells #[.bool b1, .slice A1 n1 c1, .slice A2 n2 c2] 25)).alloc (.cells #[.bool b2, .slice A3 n3 c3, .slice A4 n4 c4] 25)).alloc (.cells #[.bool false, .slice none 0 0, .slice none 0 0] 25)) := (below2 w _ _).alloc (by simp; omega) _
  have k2 := ((Blk.new w #[.bool b1, .slice A1 n1 c1, .slice A2 n2 c2] 25).alloc (.cells #[.bool b2, .slice A3 n3 c3, .slice A4 n4 c4] 25)).alloc (.cells #[.bool false, .slice none 0 0, .slice none 0 0] 25)
  have k3 := (Blk.new (w.alloc (.cells #[.bool b1, .slice A1 n1 c1, .slice A2 n2 c2] 25)) #[.bool b2, .slice A3 n3 c3, .slice A4 n4 c4] 25).alloc (.cells #[.bool false, .slice none 0 0, .slice none 0 0] 25)
  have k4 := Blk.new ((w.alloc (.cells #[.bool b1, .slice A1 n1 c1, .slice A2 n2 c2] 25)).alloc (.cells #[.bool b2, .slice A3 n3 c3, .slice A4 n4 c4] 25)) #[.bool false, .slice none 0 0, .slice none 0 0] 25
  simp only [World.size_alloc] at k2 k3 k4
  have K2 := Lib.hid k2
  have K3 := Lib.hid k3
  have K4 := Lib.hid k4
  have c1' := checkBoth_any (hr.below hbb) (kr.below hbb)
  rw [chkRR_ok h0 k0] at c1'
  have C1 := Lib.hid c1'
  have HA := Lib.hid (ha.below hbb)
  have HBB := Lib.hid (hb.below hbb)
  have HT := Lib.hid (hT.below hbb)
  have HB := Lib.hid hbb
  have SA := Lib.hid sa
  have SB := Lib.hid sb
  have hlen : ((n3 : Int) == 0) = false := by
    rw [beq_eq_false_iff_ne]
    obtain ⟨h1, _, _⟩ := hb.inv
    obtain ⟨_, _, _, e, h2⟩ := h1.len
    cases e
    intro h3
    have h4 := h2.1 (by omega)
    exact hb0 (Rat.num_eq_zero.1 (Int.natAbs_eq_zero.1 h4))
  have HNZ := Lib.hid hb0
  clear hb0
  clear ha hb hT hr kr h0 k0 c1' k2 k3 k4 hbb sa sb
  go_enter Tryz.func23, Tryz.ntmps23
  go_wp2_with fail
  refine C1.out.mono ?_
  rintro _ w1 ⟨rfl, hb⟩
  have k2 := K2.out.after hb
  have k3 := K3.out.after hb
  have k4 := K4.out.after hb
  have y2 : w.heap.size < w1.heap.size := k2.lt
  have y3 : w.heap.size + 1 < w1.heap.size := k3.lt
  have y4 : w.heap.size + 1 + 1 < w1.heap.size := k4.lt
  replace HA := Lib.hid (HA.out.below hb)
  replace HBB := Lib.hid (HBB.out.below hb)
  replace HT := Lib.hid (HT.out.below hb)
  replace HB := Lib.hid (HB.out.trans (hb.mono HB.out.size))
  have hinv : Rq w1 b⁻¹ (.agg #[.bool b2, .slice A4 n4 c4, .slice A3 n3 c3]) := by
    obtain ⟨g1, g2, g3⟩ := HBB.out.inv
    obtain ⟨i1, i2, i3⟩ := inv_parts HNZ.out
    exact Rq.mk (by rw [g3]; exact decide_eq_decide.2 i3.symm) i1 i2 g2 g1
  have C2 := Lib.hid (productQ HA.out hinv HT.out (SA.out.prod (SB.out.inv HNZ.out) hij))
  have d20 := k2.cell (i := 0) rfl
  have d21 := k2.cell (i := 1) rfl
  have d22 := k2.cell (i := 2) rfl
  have d30 := k3.cell (i := 0) rfl
  have d31 := k3.cell (i := 1) rfl
  have d32 := k3.cell (i := 2) rfl
  have K5 := Lib.hid k4
  clear hb k2 k3 k4 K2 K3 K4 C1 hinv
  go_wp2_with fail
  refine C2.out.mono ?_
  rintro _ w2 ⟨t, rfl, ht, hb⟩
  obtain ⟨b3, B1, m1, e1, B2, m2, e2, rfl, _, _, _⟩ := ht.get
  have k4 := K5.out.after hb
  have d40 := k4.cell (i := 0) rfl
  have d41 := k4.cell (i := 1) rfl
  have d42 := k4.cell (i := 2) rfl
  have ff := k4.free
  have z4 : w.heap.size + 1 + 1 < w2.heap.size := k4.lt
  have HR := Lib.hid ht
  have K6 := Lib.hid k4
  replace HB := Lib.hid (HB.out.trans (hb.mono HB.out.size))
  clear hb ht k4 K5 C2 d20 d21 d22 d30 d31 d32
  go_wp2_with fail
  refine bodyPost_ret (results_row_tmp (p := 4) (ty := 25) rfl _ _ (w.heap.size + 1 + 1) 25 _ _ _ rfl K6.out.set.set.set Tryz.underlying25 rfl (by kernel_rfl)) rfl ?_
  obtain ⟨g1, g2, g3⟩ := HR.out.inv
  exact ⟨_, rfl, Rq.mk g3 rfl rfl (g1.put3 K6.out (hnoR _ _ _ _ _ _ _)) (g2.put3 K6.out (hnoR _ _ _ _ _ _ _)), ((HB.out.setCell (by simp; omega) _).setCell (by simp; omega) _).setCell (by simp; omega) _⟩
end Go.Proofs.YtbjaolmlnkliiaaGreatDoor

/- The contracts of order and Cmp. Conditions as premises: the numbers read, and are short enough. -/
namespace Go.Proofs.YtbjaolmlnkliiaaGreatDoor
open Go.RowKit Go.Shelf
attribute [local go_sem ↓] Go.wp_at_zero Go.wp_at_succ

set_option maxHeartbeats 400000 in
theorem cmpSign_any (a b : Int) (w : World) :
    Calls Tryz.prog 172 #[.int .i64 a, .int .i64 b] w fun e w' => e = .returned (.int .i64 (c3 a b)) ∧ w = w' := by
  rcases Int.lt_trichotomy a b with h | h | h
  · have hf : c3 a b = -1 := by unfold c3; rw [if_pos h]
    rw [hf]
    go_enter Tryz.func172, Tryz.ntmps172
    go_wp2
    go_ret
    exact ⟨rfl, rfl⟩
  · subst h
    have hf : c3 a a = 0 := by unfold c3; rw [if_neg (by omega), if_neg (by omega)]
    rw [hf]
    go_enter Tryz.func172, Tryz.ntmps172
    go_wp2
    go_ret
    exact ⟨rfl, rfl⟩
  · have hf : c3 a b = 1 := by unfold c3; rw [if_neg (by omega), if_pos h]
    rw [hf]
    go_enter Tryz.func172, Tryz.ntmps172
    go_wp2
    go_ret
    exact ⟨rfl, rfl⟩

/-- the side of a number that is -1, 0 or 1 -/
theorem signOf_any (c : Int) (hc : c = -1 ∨ c = 0 ∨ c = 1) (w : World) :
    Calls Tryz.prog 90 #[.int .i64 c] w fun e w' => e = .returned (.int .i64 (c + 1)) ∧ w = w' := by
  rcases hc with rfl | rfl | rfl
  all_goals
    go_enter Tryz.func90, Tryz.ntmps90
    go_wp2_with fail
    refine (cmpInt_any _ _ w).mono ?_
    rintro _ _ ⟨rfl, rfl⟩
    simp only [show c3 (-1) 0 = -1 from rfl, show c3 0 0 = 0 from rfl, show c3 1 0 = 1 from rfl]
    go_wp2_with fail
    go_ret
    exact ⟨rfl, rfl⟩

theorem signOrder_any (s : Int) (hs : s = 0 ∨ s = 1 ∨ s = 2) (w : World) :
    Calls Tryz.prog 174 #[.int .i64 s] w fun e w' => e = .returned (.int .i64 (s - 1)) ∧ w = w' := by
  rcases hs with rfl | rfl | rfl
  all_goals
    go_enter Tryz.func174, Tryz.ntmps174
    go_wp2_with fail
    go_ret
    exact ⟨rfl, rfl⟩

theorem cn_range (N M : Nat) : cn N M = -1 ∨ cn N M = 0 ∨ cn N M = 1 := by
  rcases Nat.lt_trichotomy N M with h | h | h
  · exact .inl (cn_lt h)
  · exact .inr (.inl (cn_eq h))
  · exact .inr (.inr (cn_gt h))

set_option maxRecDepth 100000 in
set_option maxHeartbeats 8000000 in
theorem orderQ {w : World} {a b : Rat} {v u : Value} (ha : Rq w a v) (hb : Rq w b u) (hT : Tabs w) (sa : Sz 1024 a) (sb : Sz 1024 b) :
    Calls Tryz.prog 98 #[v, u] w fun e w' => e = .returned (.int .i64 (cq a b)) ∧ Below w.heap.size w w' := by
  obtain ⟨b1, A1, n1, c1, A2, n2, c2, rfl, kan, kad, eb1⟩ := ha.get
  obtain ⟨b2, A3, n3, c3, A4, n4, c4, rfl, kbn, kbd, eb2⟩ := hb.get
  have hb0 := below2 w (.cells #[.bool b1, .slice A1 n1 c1, .slice A2 n2 c2] 25) (.cells #[.bool b2, .slice A3 n3 c3, .slice A4 n4 c4] 25)
  have k2 := (Blk.new w #[.bool b1, .slice A1 n1 c1, .slice A2 n2 c2] 25).alloc (.cells #[.bool b2, .slice A3 n3 c3, .slice A4 n4 c4] 25)
  have k3 := Blk.new (w.alloc (.cells #[.bool b1, .slice A1 n1 c1, .slice A2 n2 c2] 25)) #[.bool b2, .slice A3 n3 c3, .slice A4 n4 c4] 25
  simp only [World.size_alloc] at k2 k3
  have KAN := Lib.hid (kan.below hb0)
  have KAD := Lib.hid (kad.below hb0)
  have KBN := Lib.hid (kbn.below hb0)
  have KBD := Lib.hid (kbd.below hb0)
  have HT := Lib.hid (hT.below hb0)
  have HB := Lib.hid hb0
  have K2 := Lib.hid k2
  have K3 := Lib.hid k3
  have SA := Lib.hid sa
  have SB := Lib.hid sb
  clear ha hb hT kan kad kbn kbd hb0 k2 k3 sa sb
  go_enter Tryz.func98, Tryz.ntmps98
  go_upto_region 1 with fail
  generalize ((w.alloc (.cells #[.bool b1, .slice A1 n1 c1, .slice A2 n2 c2] 25)).alloc (.cells #[.bool b2, .slice A3 n3 c3, .slice A4 n4 c4] 25)) = w0 at *
  have C1 : Hid (∀ W, Below w0.heap.size w0 W → _) := Lib.hid fun W (h1 : Below w0.heap.size w0 W) => numeratorN (neg := b1) (A' := A2) (n' := n2) (c' := c2) (KAN.out.below h1)
  have C2 : Hid (∀ W, Below w0.heap.size w0 W → _) := Lib.hid fun W (h1 : Below w0.heap.size w0 W) => numeratorN (neg := b2) (A' := A4) (n' := n4) (c' := c4) (KBN.out.below h1)
  have KEEP : Hid (∀ W, Below w0.heap.size w0 W → (W.cell? ⟨w.heap.size, 0, none⟩ = some (.bool b1) ∧ W.cell? ⟨w.heap.size, 1, none⟩ = some (.slice A1 n1 c1) ∧ W.cell? ⟨w.heap.size, 2, none⟩ = some (.slice A2 n2 c2) ∧ W.cell? ⟨w.heap.size + 1, 0, none⟩ = some (.bool b2) ∧ W.cell? ⟨w.heap.size + 1, 1, none⟩ = some (.slice A3 n3 c3) ∧ W.cell? ⟨w.heap.size + 1, 2, none⟩ = some (.slice A4 n4 c4))) := Lib.hid fun W h1 =>
    ⟨(K2.out.after h1).cell rfl, (K2.out.after h1).cell rfl, (K2.out.after h1).cell rfl, (K3.out.after h1).cell rfl, (K3.out.after h1).cell rfl, (K3.out.after h1).cell rfl⟩
  have hdrew : Below w0.heap.size w0 w0.drew := (Below.refl _ _).drew
  go_cut [5, 6] (fun x y wx => x = .int .i64 (sg a.num) ∧ y = .int .i64 (sg b.num) ∧ Hid (Below w0.heap.size w0 wx))
  case first =>
    go_region_held3 (fun W => W.cell? ⟨w.heap.size, 0, none⟩ = some (.bool b1) ∧ W.cell? ⟨w.heap.size, 1, none⟩ = some (.slice A1 n1 c1) ∧ W.cell? ⟨w.heap.size, 2, none⟩ = some (.slice A2 n2 c2) ∧ W.cell? ⟨w.heap.size + 1, 0, none⟩ = some (.bool b2) ∧ W.cell? ⟨w.heap.size + 1, 1, none⟩ = some (.slice A3 n3 c3) ∧ W.cell? ⟨w.heap.size + 1, 2, none⟩ = some (.slice A4 n4 c4))
      (first | with_reducible exact KEEP.out w0.drew hdrew | with_reducible exact KEEP.out wd hkd | with_reducible exact KEEP.out we hke)
      (first
        | (go_at_call_of 105 n1; (with_reducible refine (C1.out w0.drew hdrew).mono ?_); rintro _ wd ⟨x1, rfl, hv1, hb1⟩; obtain ⟨s1, A7, n7, c7, rfl, _, es1, hs1⟩ := (hv1 w0 KAN.out).get; clear hv1; have hkd := hdrew.trans (hb1.mono hdrew.size); have hf1 := field_side s1 A7 n7 c7)
        | (go_at_call_of 105 n3; (with_reducible refine (C2.out wd hkd).mono ?_); rintro _ we ⟨x2, rfl, hv2, hb2⟩; obtain ⟨s2, A8, n8, c8, rfl, _, es2, hs2⟩ := (hv2 w0 KBN.out).get; clear hv2; have hke := hkd.trans (hb2.mono hkd.size); have hf2 := field_side s2 A8 n8 c8))
    all_goals
      have e1 : s1 = sg a.num := by rw [es1.out, eb1.out, sn_num]
      have e2 : s2 = sg b.num := by rw [es2.out, eb2.out, sn_num]
      have E1 := Lib.hid e1
      have E2 := Lib.hid e2
      clear e1 e2
      go_wp2_with fail
      go_meet
      exact ⟨by rw [E1.out], by rw [E2.out], Lib.hid hke⟩
  case rest =>
    obtain ⟨rfl, rfl, HBX⟩ := hcut
    clear C1 C2 KEEP hdrew
    have k2 := K2.out.after HBX.out
    have k3 := K3.out.after HBX.out
    replace KAN := Lib.hid (KAN.out.below HBX.out)
    replace KAD := Lib.hid (KAD.out.below HBX.out)
    replace KBN := Lib.hid (KBN.out.below HBX.out)
    replace KBD := Lib.hid (KBD.out.below HBX.out)
    replace HT := Lib.hid (HT.out.below HBX.out)
    replace HB := Lib.hid (HB.out.trans (HBX.out.mono HB.out.size))
    have y2 : w.heap.size < wc.heap.size := k2.lt
    have y3 : w.heap.size + 1 < wc.heap.size := k3.lt
    replace K2 := Lib.hid k2
    replace K3 := Lib.hid k3
    clear k2 k3 HBX
    have hs1 := sg_range a.num
    have hs2 := sg_range b.num
    by_cases hst : sg a.num = sg b.num
    · have hbe : (sg a.num == sg b.num) = true := beq_iff_eq.2 hst
      have hbn : (sg a.num != sg b.num) = false := by simp [hst]
      have HR := Lib.hid (cq_side hst)
      have HC : Hid (∃ c, c = cn (a.num.natAbs * b.den) (b.num.natAbs * a.den)) := Lib.hid ⟨_, rfl⟩
      have C3 : Hid (∀ W, Below wc.heap.size wc W → _) := Lib.hid fun W (h1 : Below wc.heap.size wc W) => orderFractionsN (Fr.mk (KAN.out.below h1) (KAD.out.below h1)) (Fr.mk (KBN.out.below h1) (KBD.out.below h1)) ⟨a.den_pos, b.den_pos, lt_NL SA.out.1 (Nat.le_refl _), lt_NL SA.out.2 (Nat.le_refl _), lt_NL SB.out.1 (Nat.le_refl _), lt_NL SB.out.2 (Nat.le_refl _), rfl, rfl⟩
      have hcr := cn_range (a.num.natAbs * b.den) (b.num.natAbs * a.den)
      rw [← cn_ci] at HR
      generalize cn (a.num.natAbs * b.den) (b.num.natAbs * a.den) = cc at *
      generalize sg a.num = s at *
      clear HC hst hs2
      generalize sg b.num = t at *
      have hc0 : cc + 1 = 0 ∨ cc + 1 = 1 ∨ cc + 1 = 2 := by omega
      have hs3 : (s - 1) * cc + 1 = 0 ∨ (s - 1) * cc + 1 = 1 ∨ (s - 1) * cc + 1 = 2 := by
        rcases hs1 with rfl | rfl | rfl <;> rcases hcr with rfl | rfl | rfl <;> decide
      have HSO := Lib.hid (signOf_any cc hcr)
      have HSR := Lib.hid (signOrder_any _ hs3)
      have hfin : (s - 1) * cc = cq a b := HR.out.symm
      have HFIN := Lib.hid hfin
      have HS1 := Lib.hid hs1
      have HC0 := Lib.hid hc0
      clear hfin hs3 hc0 hs1 hcr HR
      have KEEP : Hid (∀ W, Below wc.heap.size wc W → (W.cell? ⟨w.heap.size, 0, none⟩ = some (.bool b1) ∧ W.cell? ⟨w.heap.size, 1, none⟩ = some (.slice A1 n1 c1) ∧ W.cell? ⟨w.heap.size, 2, none⟩ = some (.slice A2 n2 c2) ∧ W.cell? ⟨w.heap.size + 1, 0, none⟩ = some (.bool b2) ∧ W.cell? ⟨w.heap.size + 1, 1, none⟩ = some (.slice A3 n3 c3) ∧ W.cell? ⟨w.heap.size + 1, 2, none⟩ = some (.slice A4 n4 c4))) := Lib.hid fun W h1 =>
        ⟨(K2.out.after h1).cell rfl, (K2.out.after h1).cell rfl, (K2.out.after h1).cell rfl, (K3.out.after h1).cell rfl, (K3.out.after h1).cell rfl, (K3.out.after h1).cell rfl⟩
      have hdrew : Below wc.heap.size wc wc.drew := (Below.refl _ _).drew
      go_wp2_with fail
      go_region_held3 (fun W => W.cell? ⟨w.heap.size, 0, none⟩ = some (.bool b1) ∧ W.cell? ⟨w.heap.size, 1, none⟩ = some (.slice A1 n1 c1) ∧ W.cell? ⟨w.heap.size, 2, none⟩ = some (.slice A2 n2 c2) ∧ W.cell? ⟨w.heap.size + 1, 0, none⟩ = some (.bool b2) ∧ W.cell? ⟨w.heap.size + 1, 1, none⟩ = some (.slice A3 n3 c3) ∧ W.cell? ⟨w.heap.size + 1, 2, none⟩ = some (.slice A4 n4 c4))
        (first | with_reducible exact KEEP.out wc.drew hdrew | with_reducible exact KEEP.out wd hkd | with_reducible exact KEEP.out we hke | with_reducible exact KEEP.out wf hkf)
        (first
          | (go_at_call_of 108 n1; (with_reducible refine (partsX b1 A1 A2 n1 c1 n2 c2 wc.drew).mono ?_); rintro _ wd ⟨rfl, hb1⟩; have hkd := hdrew.trans (hb1.mono hdrew.size))
          | (go_at_call_of 108 n3; (with_reducible refine (partsX b2 A3 A4 n3 c3 n4 c4 wd).mono ?_); rintro _ we ⟨rfl, hb2⟩; have hke := hkd.trans (hb2.mono hkd.size))
          | (go_at_call 173; (with_reducible refine (C3.out we hke).mono ?_); rintro _ wf ⟨rfl, hb3⟩; have hkf := hke.trans (hb3.mono hke.size); have HST := Lib.hid (signTimes s (cc + 1) HS1.out HC0.out (HT.out.below hkf)))
          | (go_at_call 90; (with_reducible refine (HSO.out wf).mono ?_); rintro _ _ ⟨rfl, rfl⟩)
          | (go_at_call 91; (with_reducible refine HST.out.mono ?_); rintro _ _ ⟨rfl, rfl⟩)
          | (go_at_call 174; (with_reducible refine (HSR.out wf).mono ?_); rintro _ _ ⟨rfl, rfl⟩))
      all_goals
        have HB2 := Lib.hid (HB.out.trans (hkf.mono HB.out.size))
        clear hkf hkd hke hb1 hb2 hb3
        go_wp2_with fail
        go_ret
        exact ⟨ret_int HFIN.out, HB2.out⟩
    · have hbe : (sg a.num == sg b.num) = false := beq_eq_false_iff_ne.2 hst
      have hbn : (sg a.num != sg b.num) = true := by simp [hst]
      have HR := Lib.hid (cq_sides hst)
      clear hst
      generalize sg a.num = s at *
      generalize sg b.num = t at *
      go_wp2_with fail
      refine (cmpSign_any s t wc).mono ?_
      rintro _ _ ⟨rfl, rfl⟩
      go_wp2_with fail
      go_ret
      exact ⟨ret_int HR.out.symm, HB.out⟩

set_option maxRecDepth 100000 in
set_option maxHeartbeats 4000000 in
theorem ratCmpQ {w : World} {a b : Rat} {v u : Value} (ha : Rq w a v) (hb : Rq w b u) (hT : Tabs w) (sa : Sz 1024 a) (sb : Sz 1024 b) :
    Calls Tryz.prog 24 #[v, u] w fun e w' => e = .returned (.tuple #[.int .i64 (cq a b), .int .i64 0]) ∧ Below w.heap.size w w' := by
  obtain ⟨b1, A1, n1, c1, f1, A2, n2, c2, f2, rfl, hr, h0⟩ := ha.raw (lt_NL sa.1 (by omega)) (lt_NL sa.2 (by omega))
  obtain ⟨b2, A3, n3, c3, f3, A4, n4, c4, f4, rfl, kr, k0⟩ := hb.raw (lt_NL sb.1 (by omega)) (lt_NL sb.2 (by omega))
  have hbb := below2 w (.cells #[.bool b1, .slice A1 n1 c1, .slice A2 n2 c2] 25) (.cells #[.bool b2, .slice A3 n3 c3, .slice A4 n4 c4] 25)
  have k2 := (Blk.new w #[.bool b1, .slice A1 n1 c1, .slice A2 n2 c2] 25).alloc (.cells #[.bool b2, .slice A3 n3 c3, .slice A4 n4 c4] 25)
  have k3 := Blk.new (w.alloc (.cells #[.bool b1, .slice A1 n1 c1, .slice A2 n2 c2] 25)) #[.bool b2, .slice A3 n3 c3, .slice A4 n4 c4] 25
  simp only [World.size_alloc] at k2 k3
  have K2 := Lib.hid k2
  have K3 := Lib.hid k3
  have c1' := checkBoth_any (hr.below hbb) (kr.below hbb)
  rw [chkRR_ok h0 k0] at c1'
  have C1 := Lib.hid c1'
  have HA := Lib.hid (ha.below hbb)
  have HBB := Lib.hid (hb.below hbb)
  have HT := Lib.hid (hT.below hbb)
  have HB := Lib.hid hbb
  have SA := Lib.hid sa
  have SB := Lib.hid sb
  clear ha hb hT hr kr h0 k0 c1' k2 k3 hbb sa sb
  go_enter Tryz.func24, Tryz.ntmps24
  go_wp2_with fail
  refine C1.out.mono ?_
  rintro _ w1 ⟨rfl, hb⟩
  have k2 := K2.out.after hb
  have k3 := K3.out.after hb
  have y2 : w.heap.size < w1.heap.size := k2.lt
  have y3 : w.heap.size + 1 < w1.heap.size := k3.lt
  have d20 := k2.cell (i := 0) rfl
  have d21 := k2.cell (i := 1) rfl
  have d22 := k2.cell (i := 2) rfl
  have d30 := k3.cell (i := 0) rfl
  have d31 := k3.cell (i := 1) rfl
  have d32 := k3.cell (i := 2) rfl
  have C2 := Lib.hid (orderQ (HA.out.below hb) (HBB.out.below hb) (HT.out.below hb) SA.out SB.out)
  replace HB := Lib.hid (HB.out.trans (hb.mono HB.out.size))
  clear hb k2 k3 K2 K3 C1

  go_wp2_with fail
  refine C2.out.mono ?_
  rintro _ w2 ⟨rfl, hb⟩
  replace HB := Lib.hid (HB.out.trans (hb.mono HB.out.size))
  clear hb
  go_wp2_with fail
  go_ret2
  exact ⟨rfl, HB.out⟩

set_option maxRecDepth 100000 in
set_option maxHeartbeats 4000000 in
theorem ratCmp_bad {w : World} {b1 b2 : Bool} {A1 A2 A3 A4 : Option Addr} {n1 c1 n2 c2 n3 c3 n4 c4 : Nat} {f1 f2 f3 f4 : Nat → Nat} (h : Raw w b1 A1 n1 c1 f1 A2 n2 c2 f2) (k : Raw w b2 A3 n3 c3 f3 A4 n4 c4 f4) (he : chkRR b1 n1 f1 n2 f2 b2 n3 f3 n4 f4 ≠ 0) :
    Calls Tryz.prog 24 #[.agg #[.bool b1, .slice A1 n1 c1, .slice A2 n2 c2], .agg #[.bool b2, .slice A3 n3 c3, .slice A4 n4 c4]] w fun e w' => e = .returned (.tuple #[.int .i64 0, .int .i64 (chkRR b1 n1 f1 n2 f2 b2 n3 f3 n4 f4)]) ∧ Below w.heap.size w w' := by
  have hb0 := below2 w (.cells #[.bool b1, .slice A1 n1 c1, .slice A2 n2 c2] 25) (.cells #[.bool b2, .slice A3 n3 c3, .slice A4 n4 c4] 25)
  have C1 := Lib.hid (checkBoth_any (h.below hb0) (k.below hb0))
  have x1 : (chkRR b1 n1 f1 n2 f2 b2 n3 f3 n4 f4 != 0) = true := by rw [bne_iff_ne]; exact he
  have x2 : (chkRR b1 n1 f1 n2 f2 b2 n3 f3 n4 f4 == 0) = false := by rw [beq_eq_false_iff_ne]; exact he
  have HB := Lib.hid hb0
  generalize chkRR b1 n1 f1 n2 f2 b2 n3 f3 n4 f4 = er at *
  clear h k hb0 he
  go_enter Tryz.func24, Tryz.ntmps24
  go_wp2_with fail
  refine C1.out.mono ?_
  rintro _ w1 ⟨rfl, hb⟩
  replace HB := Lib.hid (HB.out.trans (hb.mono HB.out.size))
  clear hb C1
  go_wp2_with fail
  go_ret2
  exact ⟨rfl, HB.out⟩
end Go.Proofs.YtbjaolmlnkliiaaGreatDoor

/- The contracts of the functions under the laws of package rat: RefF, RefG, RefH, RefI, OwnA, SumA, joined into one file. -/
import Derived.Test.YtmcacofpnnaplaaGreatDoorRefOne
import Derived.Deep.RegionHeld3
import Derived.Deep.DrawnRows
import Derived.Deep.DeepCutAuto
/- The contracts of the reference's functions on rational numbers. Conditions as premises: the numbers read, and are short enough. -/
namespace Go.Proofs.YtmcacofpnnaplaaGreatDoor
open Go.RowKit Go.Shelf
attribute [local go_sem ↓] Go.wp_at_zero Go.wp_at_succ


theorem refMinusW {w : World} {a : Rat} {v : Value} (ha : Rq w a v) :
    Calls Tryz.prog 62 #[v] w fun e w' => ∃ x, e = .returned x ∧ Rq w' (-a) x ∧ Below w.heap.size w w' := by
  refine (refMinusQ ha).mono ?_
  rintro _ w' ⟨x, rfl, h, hb⟩
  exact ⟨x, rfl, h w' (ha.below hb), hb⟩
theorem Blk.rowF {w : World} {g : Nat} {t : TypeId} {a b c : Value} (h : Blk w g t #[a, b, c]) (u v x : Value) : Blk (((w.setCell ⟨g, 0, none⟩ u).setCell ⟨g, 1, none⟩ v).setCell ⟨g, 2, none⟩ x) g t #[u, v, x] := h.set.set.set
theorem Rq.len0 {w : World} {b : Rat} {s : Bool} {A A' : Option Addr} {n c n' c' : Nat} (h : Rq w b (.agg #[.bool s, .slice A n c, .slice A' n' c'])) : (n = 0 ↔ b.num = 0) ∧ Hid (s = decide (b.num < 0)) := by
  obtain ⟨h1, _, h3⟩ := h.inv
  obtain ⟨_, _, _, e, h2⟩ := h1.len
  cases e
  exact ⟨by rw [h2, Int.natAbs_eq_zero], h3⟩

set_option maxRecDepth 100000 in
set_option maxHeartbeats 8000000 in
theorem refOrderQ {w : World} {i j : Nat} {a b : Rat} {v u : Value} (ha : Rq w a v) (hb : Rq w b u) (sa : Sz i a) (sb : Sz j b) (hij : i + j ≤ 1023) :
    Calls Tryz.prog 68 #[v, u] w fun e w' => e = .returned (.int .i64 (cq a b)) ∧ Below w.heap.size w w' := by
  obtain ⟨b1, A1, n1, c1, A1', n1', c1', rfl, _, _, _⟩ := ha.get
  obtain ⟨b2, A2, n2, c2, A2', n2', c2', rfl, _, _, _⟩ := hb.get
  have hbb := below2 w (.cells #[.bool b1, .slice A1 n1 c1, .slice A1' n1' c1'] 25) (.cells #[.bool b2, .slice A2 n2 c2, .slice A2' n2' c2'] 25)
  have k1 := (Blk.new w #[.bool b1, .slice A1 n1 c1, .slice A1' n1' c1'] 25).alloc (.cells #[.bool b2, .slice A2 n2 c2, .slice A2' n2' c2'] 25)
  have k2 := Blk.new (w.alloc (.cells #[.bool b1, .slice A1 n1 c1, .slice A1' n1' c1'] 25)) #[.bool b2, .slice A2 n2 c2, .slice A2' n2' c2'] 25
  simp only [World.size_alloc] at k2
  have HB := Lib.hid hbb
  have KP1 := Lib.hid k1
  have KP2 := Lib.hid k2
  have Ra := Lib.hid (ha.below hbb)
  have Rb := Lib.hid (hb.below hbb)
  have SA := Lib.hid sa
  have SB := Lib.hid sb
  have HQ := Lib.hid (order_eq a b)
  clear ha hb hbb k1 k2 sa sb
  go_enter Tryz.func68, Tryz.ntmps68
  go_upto_region 1 with fail
  generalize ((w.alloc (.cells #[.bool b1, .slice A1 n1 c1, .slice A1' n1' c1'] 25)).alloc (.cells #[.bool b2, .slice A2 n2 c2, .slice A2' n2' c2'] 25)) = wb at *
  generalize hP2 : w.heap.size + 1 = P2 at *
  generalize hP1 : w.heap.size = P1 at *
  clear hP2
  have HS0 : Hid (P1 ≤ wb.heap.size) := Lib.hid (hP1 ▸ HB.out.size)
  have HP := Lib.hid hP1
  clear hP1
  have C1 : Hid (∀ W, Below wb.heap.size wb W → _) := Lib.hid fun W (h1 : Below wb.heap.size wb W) => refMinusW (Rb.out.below h1)
  have C2 : Hid (∀ W0 W x, Below wb.heap.size wb W0 → Below W0.heap.size W0 W → Rq W0 (-b) x → _) := Lib.hid fun W0 W x (h0 : Below wb.heap.size wb W0) (h1 : Below W0.heap.size W0 W) (hx : Rq W0 (-b) x) => refPlusQ (Ra.out.below (h0.trans (h1.mono h0.size))) (hx.below h1) SA.out SB.out.neg hij
  have KEEP : Hid (∀ W, Below wb.heap.size wb W → (W.cell? ⟨P1, 0, none⟩ = some (.bool b1) ∧ W.cell? ⟨P1, 1, none⟩ = some (.slice A1 n1 c1) ∧ W.cell? ⟨P1, 2, none⟩ = some (.slice A1' n1' c1') ∧ W.cell? ⟨P2, 0, none⟩ = some (.bool b2) ∧ W.cell? ⟨P2, 1, none⟩ = some (.slice A2 n2 c2) ∧ W.cell? ⟨P2, 2, none⟩ = some (.slice A2' n2' c2') ∧ Below wb.heap.size wb W)) := Lib.hid fun W h1 => ⟨(KP1.out.after h1).cell rfl, (KP1.out.after h1).cell rfl, (KP1.out.after h1).cell rfl, (KP2.out.after h1).cell rfl, (KP2.out.after h1).cell rfl, (KP2.out.after h1).cell rfl, h1⟩
  have NEXT : Hid (∀ W W', (W.cell? ⟨P1, 0, none⟩ = some (.bool b1) ∧ W.cell? ⟨P1, 1, none⟩ = some (.slice A1 n1 c1) ∧ W.cell? ⟨P1, 2, none⟩ = some (.slice A1' n1' c1') ∧ W.cell? ⟨P2, 0, none⟩ = some (.bool b2) ∧ W.cell? ⟨P2, 1, none⟩ = some (.slice A2 n2 c2) ∧ W.cell? ⟨P2, 2, none⟩ = some (.slice A2' n2' c2') ∧ Below wb.heap.size wb W) → Below W.heap.size W W' → (W'.cell? ⟨P1, 0, none⟩ = some (.bool b1) ∧ W'.cell? ⟨P1, 1, none⟩ = some (.slice A1 n1 c1) ∧ W'.cell? ⟨P1, 2, none⟩ = some (.slice A1' n1' c1') ∧ W'.cell? ⟨P2, 0, none⟩ = some (.bool b2) ∧ W'.cell? ⟨P2, 1, none⟩ = some (.slice A2 n2 c2) ∧ W'.cell? ⟨P2, 2, none⟩ = some (.slice A2' n2' c2') ∧ Below wb.heap.size wb W')) := Lib.hid fun W W' h hb => KEEP.out W' (h.2.2.2.2.2.2.trans (hb.mono h.2.2.2.2.2.2.size))
  have ALL : Hid (∀ W o, (W.cell? ⟨P1, 0, none⟩ = some (.bool b1) ∧ W.cell? ⟨P1, 1, none⟩ = some (.slice A1 n1 c1) ∧ W.cell? ⟨P1, 2, none⟩ = some (.slice A1' n1' c1') ∧ W.cell? ⟨P2, 0, none⟩ = some (.bool b2) ∧ W.cell? ⟨P2, 1, none⟩ = some (.slice A2 n2 c2) ∧ W.cell? ⟨P2, 2, none⟩ = some (.slice A2' n2' c2') ∧ Below wb.heap.size wb W) → ((W.alloc o).cell? ⟨P1, 0, none⟩ = some (.bool b1) ∧ (W.alloc o).cell? ⟨P1, 1, none⟩ = some (.slice A1 n1 c1) ∧ (W.alloc o).cell? ⟨P1, 2, none⟩ = some (.slice A1' n1' c1') ∧ (W.alloc o).cell? ⟨P2, 0, none⟩ = some (.bool b2) ∧ (W.alloc o).cell? ⟨P2, 1, none⟩ = some (.slice A2 n2 c2) ∧ (W.alloc o).cell? ⟨P2, 2, none⟩ = some (.slice A2' n2' c2') ∧ Below wb.heap.size wb (W.alloc o))) := Lib.hid fun W o h => NEXT.out W _ h (below1 W o)
  have ALC : Hid (∀ W w', (W.cell? ⟨P1, 0, none⟩ = some (.bool b1) ∧ W.cell? ⟨P1, 1, none⟩ = some (.slice A1 n1 c1) ∧ W.cell? ⟨P1, 2, none⟩ = some (.slice A1' n1' c1') ∧ W.cell? ⟨P2, 0, none⟩ = some (.bool b2) ∧ W.cell? ⟨P2, 1, none⟩ = some (.slice A2 n2 c2) ∧ W.cell? ⟨P2, 2, none⟩ = some (.slice A2' n2' c2') ∧ Below wb.heap.size wb W) → Below (W.alloc (.cells #[.bool false, .slice none 0 0, .slice none 0 0] 25)).heap.size (W.alloc (.cells #[.bool false, .slice none 0 0, .slice none 0 0] 25)) w' → Blk w' W.heap.size 25 #[.bool false, .slice none 0 0, .slice none 0 0] ∧ wb.heap.size ≤ W.heap.size) := Lib.hid fun W w' h hb => ⟨(Blk.new W _ _).after hb, h.2.2.2.2.2.2.size⟩
  have STO : Hid (∀ W p x y z, (W.cell? ⟨P1, 0, none⟩ = some (.bool b1) ∧ W.cell? ⟨P1, 1, none⟩ = some (.slice A1 n1 c1) ∧ W.cell? ⟨P1, 2, none⟩ = some (.slice A1' n1' c1') ∧ W.cell? ⟨P2, 0, none⟩ = some (.bool b2) ∧ W.cell? ⟨P2, 1, none⟩ = some (.slice A2 n2 c2) ∧ W.cell? ⟨P2, 2, none⟩ = some (.slice A2' n2' c2') ∧ Below wb.heap.size wb W) → wb.heap.size ≤ p → ((((W.setCell ⟨p, 0, none⟩ x).setCell ⟨p, 1, none⟩ y).setCell ⟨p, 2, none⟩ z).cell? ⟨P1, 0, none⟩ = some (.bool b1) ∧ (((W.setCell ⟨p, 0, none⟩ x).setCell ⟨p, 1, none⟩ y).setCell ⟨p, 2, none⟩ z).cell? ⟨P1, 1, none⟩ = some (.slice A1 n1 c1) ∧ (((W.setCell ⟨p, 0, none⟩ x).setCell ⟨p, 1, none⟩ y).setCell ⟨p, 2, none⟩ z).cell? ⟨P1, 2, none⟩ = some (.slice A1' n1' c1') ∧ (((W.setCell ⟨p, 0, none⟩ x).setCell ⟨p, 1, none⟩ y).setCell ⟨p, 2, none⟩ z).cell? ⟨P2, 0, none⟩ = some (.bool b2) ∧ (((W.setCell ⟨p, 0, none⟩ x).setCell ⟨p, 1, none⟩ y).setCell ⟨p, 2, none⟩ z).cell? ⟨P2, 1, none⟩ = some (.slice A2 n2 c2) ∧ (((W.setCell ⟨p, 0, none⟩ x).setCell ⟨p, 1, none⟩ y).setCell ⟨p, 2, none⟩ z).cell? ⟨P2, 2, none⟩ = some (.slice A2' n2' c2') ∧ Below wb.heap.size wb (((W.setCell ⟨p, 0, none⟩ x).setCell ⟨p, 1, none⟩ y).setCell ⟨p, 2, none⟩ z))) := Lib.hid fun W p x y z h hg => KEEP.out _ (((h.2.2.2.2.2.2.setCell hg _).setCell hg _).setCell hg _)
  have hdrew := KEEP.out wb.drew (Below.refl _ _).drew
  have hdrewA := KEEP.out ((wb.alloc (.cells #[.bool false, .slice none 0 0, .slice none 0 0] 25)).drew) (below1 wb _).drew
  have ALD : Hid (∀ w', Below ((wb.alloc (.cells #[.bool false, .slice none 0 0, .slice none 0 0] 25)).drew).heap.size ((wb.alloc (.cells #[.bool false, .slice none 0 0, .slice none 0 0] 25)).drew) w' → Blk w' wb.heap.size 25 #[.bool false, .slice none 0 0, .slice none 0 0] ∧ wb.heap.size ≤ wb.heap.size) := Lib.hid fun w' hb => ⟨Blk.after (show Blk ((wb.alloc (.cells #[.bool false, .slice none 0 0, .slice none 0 0] 25)).drew) wb.heap.size 25 #[.bool false, .slice none 0 0, .slice none 0 0] from Blk.new wb _ _) hb, Nat.le_refl _⟩
  go_cut [5] (fun p wx => ∃ g s4 B4 m4 d4 B4' m4' d4', p = .pointer (some ⟨g, 0, none⟩) ∧ Hid (Blk wx g 25 #[.bool s4, .slice B4 m4 d4, .slice B4' m4' d4']) ∧ Hid (Rq wx (a + -b) (.agg #[.bool s4, .slice B4 m4 d4, .slice B4' m4' d4'])) ∧ Hid (Below wb.heap.size wb wx ∧ wb.heap.size ≤ g))
  case first =>
    go_region_held3 (fun W => W.cell? ⟨P1, 0, none⟩ = some (.bool b1) ∧ W.cell? ⟨P1, 1, none⟩ = some (.slice A1 n1 c1) ∧ W.cell? ⟨P1, 2, none⟩ = some (.slice A1' n1' c1') ∧ W.cell? ⟨P2, 0, none⟩ = some (.bool b2) ∧ W.cell? ⟨P2, 1, none⟩ = some (.slice A2 n2 c2) ∧ W.cell? ⟨P2, 2, none⟩ = some (.slice A2' n2' c2') ∧ Below wb.heap.size wb W)
      (first | with_reducible assumption | with_reducible exact ALL.out _ _ (by with_reducible assumption) | with_reducible exact STO.out _ _ _ _ _ (by with_reducible assumption) hge)
      (first
        | (go_at_call 62; (with_reducible refine (C1.out ((wb.alloc (.cells #[.bool false, .slice none 0 0, .slice none 0 0] 25)).drew) ((show _ ∧ _ ∧ _ ∧ _ ∧ _ ∧ _ ∧ _ from by with_reducible assumption).2.2.2.2.2.2)).mono ?_); rintro _ y1 ⟨x1, rfl, hx1, hby1⟩; have HX1 := Lib.hid hx1; clear hx1; have hS := NEXT.out _ _ (by with_reducible assumption) hby1; obtain ⟨hA, hge⟩ := ALD.out _ hby1; have e0_ := hA.cell (i := 0) rfl; have e1_ := hA.cell (i := 1) rfl; have e2_ := hA.cell (i := 2) rfl; have hfA := hA.free; have hlA := hA.lt)
        | (go_at_call 62; (with_reducible refine (C1.out (World.alloc _ (.cells #[.bool false, .slice none 0 0, .slice none 0 0] 25)) ((show _ ∧ _ ∧ _ ∧ _ ∧ _ ∧ _ ∧ _ from by with_reducible assumption).2.2.2.2.2.2)).mono ?_); rintro _ y1 ⟨x1, rfl, hx1, hby1⟩; have HX1 := Lib.hid hx1; clear hx1; have hS := NEXT.out _ _ (by with_reducible assumption) hby1; obtain ⟨hA, hge⟩ := ALC.out _ _ (by with_reducible assumption) hby1; have e0_ := hA.cell (i := 0) rfl; have e1_ := hA.cell (i := 1) rfl; have e2_ := hA.cell (i := 2) rfl; have hfA := hA.free; have hlA := hA.lt)
        | (go_at_call 62; (with_reducible refine (C1.out _ ((show _ ∧ _ ∧ _ ∧ _ ∧ _ ∧ _ ∧ _ from by with_reducible assumption).2.2.2.2.2.2)).mono ?_); rintro _ y1 ⟨x1, rfl, hx1, hby1⟩; have HX1 := Lib.hid hx1; clear hx1; have hS := NEXT.out _ _ (by with_reducible assumption) hby1; replace hA := hA.after hby1; have e0_ := hA.cell (i := 0) rfl; have e1_ := hA.cell (i := 1) rfl; have e2_ := hA.cell (i := 2) rfl; have hfA := hA.free; have hlA := hA.lt)
        | (go_at_call 62; (with_reducible refine (C1.out _ ((show _ ∧ _ ∧ _ ∧ _ ∧ _ ∧ _ ∧ _ from by with_reducible assumption).2.2.2.2.2.2)).mono ?_); rintro _ y1 ⟨x1, rfl, hx1, hby1⟩; have HX1 := Lib.hid hx1; clear hx1; have hS := NEXT.out _ _ (by with_reducible assumption) hby1)
        | (go_at_call 60; (with_reducible refine (C2.out y1 (World.alloc _ (.cells #[.bool false, .slice none 0 0, .slice none 0 0] 25)) x1 hS.2.2.2.2.2.2 (by first | with_reducible exact Below.refl _ _ | with_reducible exact below1 _ _) HX1.out).mono ?_); rintro _ y2 ⟨x2, rfl, hx2, hby2⟩; obtain ⟨b4, B4, m4, e4, B4', m4', e4', rfl, _, _, _⟩ := hx2.get; have HX2 := Lib.hid hx2; clear hx2; have hS := NEXT.out _ _ (by with_reducible assumption) hby2; obtain ⟨hA, hge⟩ := ALC.out _ _ (by with_reducible assumption) hby2; have e0_ := hA.cell (i := 0) rfl; have e1_ := hA.cell (i := 1) rfl; have e2_ := hA.cell (i := 2) rfl; have hfA := hA.free; have hlA := hA.lt)
        | (go_at_call 60; (with_reducible refine (C2.out y1 _ x1 hS.2.2.2.2.2.2 (by first | with_reducible exact Below.refl _ _ | with_reducible exact below1 _ _) HX1.out).mono ?_); rintro _ y2 ⟨x2, rfl, hx2, hby2⟩; obtain ⟨b4, B4, m4, e4, B4', m4', e4', rfl, _, _, _⟩ := hx2.get; have HX2 := Lib.hid hx2; clear hx2; have hS := NEXT.out _ _ (by with_reducible assumption) hby2; replace hA := hA.after hby2; have e0_ := hA.cell (i := 0) rfl; have e1_ := hA.cell (i := 1) rfl; have e2_ := hA.cell (i := 2) rfl; have hfA := hA.free; have hlA := hA.lt)
        | (go_at_call 60; (with_reducible refine (C2.out y1 _ x1 hS.2.2.2.2.2.2 (by first | with_reducible exact Below.refl _ _ | with_reducible exact below1 _ _) HX1.out).mono ?_); rintro _ y2 ⟨x2, rfl, hx2, hby2⟩; obtain ⟨b4, B4, m4, e4, B4', m4', e4', rfl, _, _, _⟩ := hx2.get; have HX2 := Lib.hid hx2; clear hx2; have hS := NEXT.out _ _ (by with_reducible assumption) hby2))
    all_goals
      go_wp2_with fail
      go_meet
      first
        | (have k := hA.rowF (.bool b4) (.slice B4 m4 e4) (.slice B4' m4' e4'); have h := STO.out _ _ (.bool b4) (.slice B4 m4 e4) (.slice B4' m4' e4') hS hge; obtain ⟨g1, g2, g3⟩ := HX2.out.inv; have hq := Rq.mk g3 rfl rfl (g1.put3 (i := 0) (j := 1) (l := 2) (u := .bool b4) (x := .slice B4 m4 e4) (y := .slice B4' m4' e4') hA (hnoR _ _ _ _ _ _ _)) (g2.put3 (i := 0) (j := 1) (l := 2) (u := .bool b4) (x := .slice B4 m4 e4) (y := .slice B4' m4' e4') hA (hnoR _ _ _ _ _ _ _)); with_reducible exact ⟨_, _, _, _, _, _, _, _, rfl, Lib.hid k, Lib.hid hq, Lib.hid ⟨h.2.2.2.2.2.2, hge⟩⟩)
        | (have k := Blk.new y2 #[.bool b4, .slice B4 m4 e4, .slice B4' m4' e4'] 25; have h := ALL.out _ (.cells #[.bool b4, .slice B4 m4 e4, .slice B4' m4' e4'] 25) hS; have hq := HX2.out.below (below1 y2 (.cells #[.bool b4, .slice B4 m4 e4, .slice B4' m4' e4'] 25)); with_reducible exact ⟨_, _, _, _, _, _, _, _, rfl, Lib.hid k, Lib.hid hq, Lib.hid ⟨h.2.2.2.2.2.2, hS.2.2.2.2.2.2.size⟩⟩)
  case rest =>
    obtain ⟨P4, b4, A4, n4, c4, A4', n4', c4', rfl, KP4, R4, hk⟩ := hcut
    generalize wc = w10 at *
    replace HB := Lib.hid (HB.out.trans (hk.out.1.mono HS0.out))
    obtain ⟨hl, es⟩ := R4.out.len0
    have d0 := KP4.out.cell (i := 0) rfl
    have d1 := KP4.out.cell (i := 1) rfl
    clear KEEP NEXT ALL ALC STO hdrew hdrewA ALD C1 C2 hk KP1 KP2 Ra Rb
    by_cases h0 : (a + -b).num = 0
    · have e : cq a b = 0 := by rw [HQ.out, if_pos h0]
      have hz : ((n4 : Int) == 0) = true := by rw [beq_iff_eq]; have := hl.2 h0; omega
      have EE := Lib.hid e
      clear h0 hl e
      go_wp2_with fail
      go_ret
      exact ⟨ret_int EE.out.symm, by have h := HB.out; rw [← HP.out] at h; exact h⟩
    · have hz : ((n4 : Int) == 0) = false := by rw [beq_eq_false_iff_ne]; intro e; exact h0 (hl.1 (by omega))
      by_cases hlt : (a + -b).num < 0
      · have e : cq a b = -1 := by rw [HQ.out, if_neg h0, if_pos hlt]
        have e2 : b4 = true := by rw [es.out]; exact decide_eq_true hlt
        subst e2
        have EE := Lib.hid e
        clear h0 hl e hlt
        go_wp2_with fail
        go_ret
        exact ⟨ret_int EE.out.symm, by have h := HB.out; rw [← HP.out] at h; exact h⟩
      · have e : cq a b = 1 := by rw [HQ.out, if_neg h0, if_neg hlt]
        have e2 : b4 = false := by rw [es.out]; exact decide_eq_false hlt
        subst e2
        have EE := Lib.hid e
        clear h0 hl e hlt
        go_wp2_with fail
        go_ret
        exact ⟨ret_int EE.out.symm, by have h := HB.out; rw [← HP.out] at h; exact h⟩
end Go.Proofs.YtmcacofpnnaplaaGreatDoor

/- The contracts of the reference's functions on rational numbers. Conditions as premises: the numbers read, and are short enough. -/
namespace Go.Proofs.YtmcacofpnnaplaaGreatDoor
open Go.RowKit Go.Shelf
attribute [local go_sem ↓] Go.wp_at_zero Go.wp_at_succ


theorem add1_lt {x e : Nat} (h : x < LB ^ e) : x + 1 < LB ^ (e + 1) := by
  have h1 : 1 ≤ LB ^ e := Nat.one_le_of_lt h
  have h2 : LB ^ e * 2 ≤ LB ^ e * LB := Nat.mul_le_mul_left _ (by rw [LB_eq]; omega)
  rw [Nat.pow_succ]; omega

set_option maxRecDepth 100000 in
set_option maxHeartbeats 8000000 in
theorem refDownQ {w : World} {i : Nat} {a : Rat} {v : Value} (ha : Rq w a v) (sa : Sz i a) (hi : i ≤ 1023) :
    Calls Tryz.prog 83 #[v] w fun e w' => ∃ t, e = .returned t ∧ Rq w' (a.floor : Rat) t ∧ Below w.heap.size w w' := by
  obtain ⟨b1, A1, n1, c1, A1', n1', c1', rfl, h1, h2, e1⟩ := ha.get
  have hbb := below2 w (.cells #[.bool b1, .slice A1 n1 c1, .slice A1' n1' c1'] 25) (.cells #[.bool false, .slice none 0 0, .slice none 0 0] 25)
  have k1 := (Blk.new w #[.bool b1, .slice A1 n1 c1, .slice A1' n1' c1'] 25).alloc (.cells #[.bool false, .slice none 0 0, .slice none 0 0] 25)
  have k2 := Blk.new (w.alloc (.cells #[.bool b1, .slice A1 n1 c1, .slice A1' n1' c1'] 25)) #[.bool false, .slice none 0 0, .slice none 0 0] 25
  simp only [World.size_alloc] at k2
  have HB := Lib.hid hbb
  have KP1 := Lib.hid k1
  have KP2 := Lib.hid k2
  have H1 := Lib.hid (h1.below hbb)
  have H2 := Lib.hid (h2.below hbb)
  have HR := Lib.hid (ha.below hbb)
  have L : Hid (a.num.natAbs < LB ^ i ∧ a.den < LB ^ i ∧ i ≤ 1023) := Lib.hid ⟨sa.1, sa.2, hi⟩
  clear ha h1 h2 k1 k2 hbb hi sa
  have C1 := Lib.hid (refOverN H1.out H2.out (lt_NL L.out.1 (by have := L.out.2.2; omega)) a.den_pos)
  have EQ := Lib.hid (down_eq a)
  rw [← e1.out] at EQ
  clear H1 H2 HR
  go_enter Tryz.func83, Tryz.ntmps83
  go_wp2_with fail
  refine (C1.out).mono ?_
  rintro _ w3 ⟨x, y, rfl, hx, hy, hb⟩
  obtain ⟨A3, n3, c3, rfl⟩ := hx.shape
  obtain ⟨A4, n4, c4, rfl, hz⟩ := hy.len
  replace KP1 := Lib.hid (KP1.out.after hb)
  replace KP2 := Lib.hid (KP2.out.after hb)
  replace HB := Lib.hid (HB.out.trans (hb.mono HB.out.size))
  have Q := Lib.hid hx
  clear hx hy hb C1
  have d0 := KP1.out.cell (i := 0) rfl
  rcases b1 with _ | _
  · have hng : ¬ a.num < 0 := of_decide_eq_false e1.out.symm
    have E2 : Hid (mkRat (sn false (a.num.natAbs / a.den)) 1 = (a.floor : Rat)) := Lib.hid (by have := EQ.out; rwa [if_neg (fun c => hng c.1)] at this)
    clear hz hng EQ e1
    have hba := below1 w3 (.cells #[.int .u32 1] 48)
    have C3 := Lib.hid (refLowestQ false (Q.out.below hba) (nr_one w3) (lt_NL (Nat.lt_of_le_of_lt (Nat.div_le_self _ _) L.out.1) (by have := L.out.2.2; omega)) one_lt.out (by decide))
    replace HB := Lib.hid (HB.out.trans (hba.mono HB.out.size))
    replace KP1 := Lib.hid (KP1.out.after hba)
    replace KP2 := Lib.hid (KP2.out.after hba)
    have d0 := KP1.out.cell (i := 0) rfl
    clear hba Q
    go_wp2_with fail
    refine (C3.out).mono ?_
    rintro _ w5 ⟨x, rfl, hx, hb⟩
    obtain ⟨bL, AL, nL, cL, AL', nL', cL', rfl, _, _, _⟩ := hx.get
    replace KP2 := Lib.hid (KP2.out.after hb)
    replace HB := Lib.hid (HB.out.trans (hb.mono HB.out.size))
    have HXL := Lib.hid (hx.cast (E2.out))
    clear hx hb C3
    have zx : w.heap.size + 1 < w5.heap.size := KP2.out.lt
    have x0 := KP2.out.cell (i := 0) rfl
    have x1 := KP2.out.cell (i := 1) rfl
    have x2 := KP2.out.cell (i := 2) rfl
    have xf := KP2.out.free
    go_wp2_with fail
    refine bodyPost_ret (results_cell_row (p := 2) (ty := 25) rfl _ _ (w.heap.size + 1) 25 _ _ _ rfl KP2.out.set.set.set Tryz.underlying25 rfl (by kernel_rfl)) rfl ?_
    obtain ⟨g1, g2, g3⟩ := HXL.out.inv
    exact ⟨_, rfl, Rq.mk g3 rfl rfl (g1.put3 KP2.out (hnoR _ _ _ _ _ _ _)) (g2.put3 KP2.out (hnoR _ _ _ _ _ _ _)), ((HB.out.setCell (by simp) _).setCell (by simp) _).setCell (by simp) _⟩
  · have hng : a.num < 0 := of_decide_eq_true e1.out.symm
    by_cases hr : a.num.natAbs % a.den = 0
    · have E2 : Hid (mkRat (sn true (a.num.natAbs / a.den)) 1 = (a.floor : Rat)) := Lib.hid (by have := EQ.out; rwa [if_neg (fun c => by omega)] at this)
      obtain rfl := hz.2 hr
      clear hz hng EQ e1 hr
      have hba := below1 w3 (.cells #[.int .u32 1] 48)
      have C3 := Lib.hid (refLowestQ true (Q.out.below hba) (nr_one w3) (lt_NL (Nat.lt_of_le_of_lt (Nat.div_le_self _ _) L.out.1) (by have := L.out.2.2; omega)) one_lt.out (by decide))
      replace HB := Lib.hid (HB.out.trans (hba.mono HB.out.size))
      replace KP1 := Lib.hid (KP1.out.after hba)
      replace KP2 := Lib.hid (KP2.out.after hba)
      have d0 := KP1.out.cell (i := 0) rfl
      clear hba Q
      go_wp2_with fail
      refine (C3.out).mono ?_
      rintro _ w5 ⟨x, rfl, hx, hb⟩
      obtain ⟨bL, AL, nL, cL, AL', nL', cL', rfl, _, _, _⟩ := hx.get
      replace KP2 := Lib.hid (KP2.out.after hb)
      replace HB := Lib.hid (HB.out.trans (hb.mono HB.out.size))
      have HXL := Lib.hid (hx.cast (E2.out))
      clear hx hb C3
      have zx : w.heap.size + 1 < w5.heap.size := KP2.out.lt
      have x0 := KP2.out.cell (i := 0) rfl
      have x1 := KP2.out.cell (i := 1) rfl
      have x2 := KP2.out.cell (i := 2) rfl
      have xf := KP2.out.free
      go_wp2_with fail
      refine bodyPost_ret (results_cell_row (p := 2) (ty := 25) rfl _ _ (w.heap.size + 1) 25 _ _ _ rfl KP2.out.set.set.set Tryz.underlying25 rfl (by kernel_rfl)) rfl ?_
      obtain ⟨g1, g2, g3⟩ := HXL.out.inv
      exact ⟨_, rfl, Rq.mk g3 rfl rfl (g1.put3 KP2.out (hnoR _ _ _ _ _ _ _)) (g2.put3 KP2.out (hnoR _ _ _ _ _ _ _)), ((HB.out.setCell (by simp) _).setCell (by simp) _).setCell (by simp) _⟩
    · have E2 : Hid (mkRat (sn true (a.num.natAbs / a.den + 1)) 1 = (a.floor : Rat)) := Lib.hid (by have := EQ.out; rwa [if_pos ⟨hng, by omega⟩] at this)
      have hp : (0 : Int) < (n4 : Int) := by have : n4 ≠ 0 := fun e => hr (hz.1 e); omega
      clear hz hng EQ e1 hr
      have hba := below1 w3 (.cells #[.int .u32 1] 48)
      have C4 := Lib.hid (refPlusN (Q.out.below hba) (nr_one w3) (lt_NL (Nat.lt_of_le_of_lt (Nat.div_le_self _ _) L.out.1) (by have := L.out.2.2; omega)) one_lt.out)
      replace HB := Lib.hid (HB.out.trans (hba.mono HB.out.size))
      replace KP1 := Lib.hid (KP1.out.after hba)
      replace KP2 := Lib.hid (KP2.out.after hba)
      clear hba Q
      go_wp2_with fail
      refine (C4.out).mono ?_
      rintro _ w4 ⟨x, rfl, hx, hb⟩
      obtain ⟨A5, n5, c5, rfl⟩ := hx.shape
      replace KP1 := Lib.hid (KP1.out.after hb)
      replace KP2 := Lib.hid (KP2.out.after hb)
      replace HB := Lib.hid (HB.out.trans (hb.mono HB.out.size))
      have Q := Lib.hid hx
      clear hx hb C4 d0 hp
      have d0 := KP1.out.cell (i := 0) rfl
      have hba := below1 w4 (.cells #[.int .u32 1] 48)
      have C3 := Lib.hid (refLowestQ true (Q.out.below hba) (nr_one w4) (lt_NL (add1_lt (Nat.lt_of_le_of_lt (Nat.div_le_self _ _) L.out.1)) (by have := L.out.2.2; omega)) one_lt.out (by decide))
      replace HB := Lib.hid (HB.out.trans (hba.mono HB.out.size))
      replace KP1 := Lib.hid (KP1.out.after hba)
      replace KP2 := Lib.hid (KP2.out.after hba)
      have d0 := KP1.out.cell (i := 0) rfl
      clear hba Q
      go_wp2_with fail
      refine (C3.out).mono ?_
      rintro _ w5 ⟨x, rfl, hx, hb⟩
      obtain ⟨bL, AL, nL, cL, AL', nL', cL', rfl, _, _, _⟩ := hx.get
      replace KP2 := Lib.hid (KP2.out.after hb)
      replace HB := Lib.hid (HB.out.trans (hb.mono HB.out.size))
      have HXL := Lib.hid (hx.cast (E2.out))
      clear hx hb C3
      have zx : w.heap.size + 1 < w5.heap.size := KP2.out.lt
      have x0 := KP2.out.cell (i := 0) rfl
      have x1 := KP2.out.cell (i := 1) rfl
      have x2 := KP2.out.cell (i := 2) rfl
      have xf := KP2.out.free
      go_wp2_with fail
      refine bodyPost_ret (results_cell_row (p := 2) (ty := 25) rfl _ _ (w.heap.size + 1) 25 _ _ _ rfl KP2.out.set.set.set Tryz.underlying25 rfl (by kernel_rfl)) rfl ?_
      obtain ⟨g1, g2, g3⟩ := HXL.out.inv
      exact ⟨_, rfl, Rq.mk g3 rfl rfl (g1.put3 KP2.out (hnoR _ _ _ _ _ _ _)) (g2.put3 KP2.out (hnoR _ _ _ _ _ _ _)), ((HB.out.setCell (by simp) _).setCell (by simp) _).setCell (by simp) _⟩

set_option maxRecDepth 100000 in
set_option maxHeartbeats 8000000 in
theorem refFitsQ {w : World} {i : Nat} {a : Rat} {v : Value} (ha : Rq w a v) (sa : Sz i a) (hi : i ≤ 1024) :
    Calls Tryz.prog 59 #[v] w fun e w' => ∃ t, e = .returned (.tuple #[t, .int .i64 0]) ∧ Rq w' a t ∧ Below w.heap.size w w' := by
  obtain ⟨b1, A1, n1, c1, A1', n1', c1', rfl, h1, h2, e1⟩ := ha.get
  have hbb := below2 w (.cells #[.bool b1, .slice A1 n1 c1, .slice A1' n1' c1'] 25) (.cells #[.bool false, .slice none 0 0, .slice none 0 0] 25)
  have k1 := (Blk.new w #[.bool b1, .slice A1 n1 c1, .slice A1' n1' c1'] 25).alloc (.cells #[.bool false, .slice none 0 0, .slice none 0 0] 25)
  have k2 := Blk.new (w.alloc (.cells #[.bool b1, .slice A1 n1 c1, .slice A1' n1' c1'] 25)) #[.bool false, .slice none 0 0, .slice none 0 0] 25
  simp only [World.size_alloc] at k2
  have HB := Lib.hid hbb
  have KP1 := Lib.hid k1
  have KP2 := Lib.hid k2
  have H1 := Lib.hid (h1.below hbb)
  have H2 := Lib.hid (h2.below hbb)
  have HR := Lib.hid (ha.below hbb)
  have L : Hid (a.num.natAbs < LB ^ i ∧ a.den < LB ^ i ∧ i ≤ 1024) := Lib.hid ⟨sa.1, sa.2, hi⟩
  clear ha h1 h2 k1 k2 hbb hi sa
  have C1 := Lib.hid (refFitsN H1.out (lt_NL L.out.1 L.out.2.2))
  clear HR H1
  go_enter Tryz.func59, Tryz.ntmps59
  go_wp2_with fail
  refine (C1.out).mono ?_
  rintro _ w3 ⟨x, rfl, hx, hb⟩
  obtain ⟨A3, n3, c3, rfl⟩ := hx.shape
  replace H2 := Lib.hid (H2.out.below hb)
  replace KP1 := Lib.hid (KP1.out.after hb)
  replace KP2 := Lib.hid (KP2.out.after hb)
  replace HB := Lib.hid (HB.out.trans (hb.mono HB.out.size))
  have Q := Lib.hid hx
  have C2 := Lib.hid (refFitsN H2.out (lt_NL L.out.2.1 L.out.2.2))
  clear hx hb C1
  have d0 := KP1.out.cell (i := 0) rfl
  have d1 := KP1.out.cell (i := 1) rfl
  have d2 := KP1.out.cell (i := 2) rfl
  go_wp2_with fail
  refine (C2.out).mono ?_
  rintro _ w4 ⟨x, rfl, hx, hb⟩
  obtain ⟨A4, n4, c4, rfl⟩ := hx.shape
  replace Q := Lib.hid (Q.out.below hb)
  replace KP1 := Lib.hid (KP1.out.after hb)
  replace KP2 := Lib.hid (KP2.out.after hb)
  replace HB := Lib.hid (HB.out.trans (hb.mono HB.out.size))
  have P := Lib.hid hx
  clear hx hb C2 d0 d1 d2
  have d0 := KP1.out.cell (i := 0) rfl
  have d1 := KP1.out.cell (i := 1) rfl
  have d2 := KP1.out.cell (i := 2) rfl
  have zx : w.heap.size + 1 < w4.heap.size := KP2.out.lt
  have x0 := KP2.out.cell (i := 0) rfl
  have x1 := KP2.out.cell (i := 1) rfl
  have x2 := KP2.out.cell (i := 2) rfl
  have xf := KP2.out.free
  go_wp2_with fail
  refine bodyPost_ret (results_row_tmp (p := 2) (ty := 25) rfl _ _ (w.heap.size + 1) 25 _ _ _ rfl KP2.out.set.set.set Tryz.underlying25 rfl (by kernel_rfl)) rfl ?_
  exact ⟨_, rfl, Rq.mk e1.out rfl rfl (Q.out.put3 KP2.out (hnoR _ _ _ _ _ _ _)) (P.out.put3 KP2.out (hnoR _ _ _ _ _ _ _)), ((HB.out.setCell (by simp) _).setCell (by simp) _).setCell (by simp) _⟩

set_option maxRecDepth 100000 in
set_option maxHeartbeats 8000000 in
theorem refUpQ {w : World} {i : Nat} {a : Rat} {v : Value} (ha : Rq w a v) (sa : Sz i a) (hi : i ≤ 1023) :
    Calls Tryz.prog 84 #[v] w fun e w' => ∃ t, e = .returned t ∧ Rq w' (a.ceil : Rat) t ∧ Below w.heap.size w w' := by
  obtain ⟨b1, A1, n1, c1, A1', n1', c1', rfl, h1, h2, e1⟩ := ha.get
  have hbb := below2 w (.cells #[.bool b1, .slice A1 n1 c1, .slice A1' n1' c1'] 25) (.cells #[.bool false, .slice none 0 0, .slice none 0 0] 25)
  have k1 := (Blk.new w #[.bool b1, .slice A1 n1 c1, .slice A1' n1' c1'] 25).alloc (.cells #[.bool false, .slice none 0 0, .slice none 0 0] 25)
  have k2 := Blk.new (w.alloc (.cells #[.bool b1, .slice A1 n1 c1, .slice A1' n1' c1'] 25)) #[.bool false, .slice none 0 0, .slice none 0 0] 25
  simp only [World.size_alloc] at k2
  have HB := Lib.hid hbb
  have KP1 := Lib.hid k1
  have KP2 := Lib.hid k2
  have H1 := Lib.hid (h1.below hbb)
  have H2 := Lib.hid (h2.below hbb)
  have HR := Lib.hid (ha.below hbb)
  have L : Hid (a.num.natAbs < LB ^ i ∧ a.den < LB ^ i ∧ i ≤ 1023) := Lib.hid ⟨sa.1, sa.2, hi⟩
  clear ha h1 h2 k1 k2 hbb hi sa
  have C1 := Lib.hid (refMinusW HR.out)
  have EQ : Hid (-(((-a).floor : Int) : Rat) = (a.ceil : Rat)) := Lib.hid (by rw [Rat.ceil_eq_neg_floor_neg, Rat.intCast_neg])
  clear HR H1 H2
  have d0 := KP1.out.cell (i := 0) rfl
  have d1 := KP1.out.cell (i := 1) rfl
  have d2 := KP1.out.cell (i := 2) rfl
  go_enter Tryz.func84, Tryz.ntmps84
  go_wp2_with fail
  refine (C1.out).mono ?_
  rintro _ w3 ⟨x, rfl, hx, hb⟩
  replace KP2 := Lib.hid (KP2.out.after hb)
  replace HB := Lib.hid (HB.out.trans (hb.mono HB.out.size))
  have C2 := Lib.hid (refDownQ hx (Sz.neg (i := i) ⟨L.out.1, L.out.2.1⟩) L.out.2.2)
  clear hx hb C1
  go_wp2_with fail
  refine (C2.out).mono ?_
  rintro _ w4 ⟨x, rfl, hx, hb⟩
  replace KP2 := Lib.hid (KP2.out.after hb)
  replace HB := Lib.hid (HB.out.trans (hb.mono HB.out.size))
  have C3 := Lib.hid (refMinusW hx)
  clear hx hb C2
  go_wp2_with fail
  refine (C3.out).mono ?_
  rintro _ w5 ⟨x, rfl, hx, hb⟩
  obtain ⟨bL, AL, nL, cL, AL', nL', cL', rfl, _, _, _⟩ := hx.get
  replace KP2 := Lib.hid (KP2.out.after hb)
  replace HB := Lib.hid (HB.out.trans (hb.mono HB.out.size))
  have HXL := Lib.hid (hx.cast EQ.out)
  clear hx hb C3
  have zx : w.heap.size + 1 < w5.heap.size := KP2.out.lt
  have x0 := KP2.out.cell (i := 0) rfl
  have x1 := KP2.out.cell (i := 1) rfl
  have x2 := KP2.out.cell (i := 2) rfl
  have xf := KP2.out.free
  go_wp2_with fail
  refine bodyPost_ret (results_cell_row (p := 2) (ty := 25) rfl _ _ (w.heap.size + 1) 25 _ _ _ rfl KP2.out.set.set.set Tryz.underlying25 rfl (by kernel_rfl)) rfl ?_
  obtain ⟨g1, g2, g3⟩ := HXL.out.inv
  exact ⟨_, rfl, Rq.mk g3 rfl rfl (g1.put3 KP2.out (hnoR _ _ _ _ _ _ _)) (g2.put3 KP2.out (hnoR _ _ _ _ _ _ _)), ((HB.out.setCell (by simp) _).setCell (by simp) _).setCell (by simp) _⟩

end Go.Proofs.YtmcacofpnnaplaaGreatDoor

/- The contracts of the reference's functions on rational numbers. Conditions as premises: the numbers read, and are short enough. -/
namespace Go.Proofs.YtmcacofpnnaplaaGreatDoor
open Go.RowKit Go.Shelf
attribute [local go_sem ↓] Go.wp_at_zero Go.wp_at_succ


/-- the error of two parts of a number -/
noncomputable def chkP (n : Nat) (f : Nat → Nat) (m : Nat) (g : Nat → Nat) : Int := if chk n f = 0 then (if chk m g = 0 then (if m = 0 then 6 else 0) else chk m g) else chk n f
theorem chkP_ne {neg : Bool} {n m : Nat} {f g : Nat → Nat} (h : chkP n f m g ≠ 0) : chkR neg n f m g = chkP n f m g := by
  unfold chkP at h ⊢; unfold chkR
  split
  · split
    · split
      · rfl
      · rename_i a b c; rw [if_pos a, if_pos b, if_neg c] at h; exact absurd rfl h
    · rfl
  · rfl
theorem chkP_eq {neg : Bool} {n m : Nat} {f g : Nat → Nat} (h : chkP n f m g = 0) : chk n f = 0 ∧ chk m g = 0 ∧ m ≠ 0 ∧ chkR neg n f m g = if (neg = true ∧ n = 0) ∨ Nat.gcd (nv f n) (nv g m) ≠ 1 then 3 else 0 := by
  unfold chkP at h
  split at h
  · split at h
    · split at h
      · cases h
      · rename_i a b c; refine ⟨a, b, c, ?_⟩; unfold chkR; rw [if_pos a, if_pos b, if_neg c]
    · rename_i b; exact absurd h b
  · rename_i b; exact absurd h b

set_option maxRecDepth 100000 in
set_option maxHeartbeats 8000000 in
theorem refParts_any {w : World} {A A' : Option Addr} {n c m c' : Nat} {f g : Nat → Nat} (hA : Rs w w.heap.size A n c f) (hB : Rs w w.heap.size A' m c' g) :
    Calls Tryz.prog 73 #[.slice A n c, .slice A' m c'] w fun e w' => e = .returned (.int .i64 (chkP n f m g)) ∧ w = w' := by
  have c1 := refCheck_any A n c f _ _ hA
  have c2 := refCheck_any A' m c' g _ _ hB
  unfold chkP
  by_cases h1 : chk n f = 0
  · rw [if_pos h1]
    rw [h1] at c1
    by_cases h2 : chk m g = 0
    · rw [if_pos h2]
      rw [h2] at c2
      by_cases h3 : m = 0
      · rw [if_pos h3]
        subst h3
        clear h1 h2 hA hB
        go_enter Tryz.func73, Tryz.ntmps73
        go_wp2_with fail
        refine c1.mono ?_
        rintro _ _ ⟨rfl, rfl⟩
        go_wp2_with fail
        refine c2.mono ?_
        rintro _ _ ⟨rfl, rfl⟩
        go_wp2_with fail
        go_ret
        exact ⟨rfl, rfl⟩
      · rw [if_neg h3]
        have hz : ((m : Int) == 0) = false := by rw [beq_eq_false_iff_ne]; omega
        clear h1 h2 h3 hA hB
        go_enter Tryz.func73, Tryz.ntmps73
        go_wp2_with fail
        refine c1.mono ?_
        rintro _ _ ⟨rfl, rfl⟩
        go_wp2_with fail
        refine c2.mono ?_
        rintro _ _ ⟨rfl, rfl⟩
        go_wp2_with fail
        go_ret
        exact ⟨rfl, rfl⟩
    · rw [if_neg h2]
      have x1 : (chk m g != 0) = true := by rw [bne_iff_ne]; exact h2
      generalize chk m g = er at *
      clear h1 h2 hA hB
      go_enter Tryz.func73, Tryz.ntmps73
      go_wp2_with fail
      refine c1.mono ?_
      rintro _ _ ⟨rfl, rfl⟩
      go_wp2_with fail
      refine c2.mono ?_
      rintro _ _ ⟨rfl, rfl⟩
      go_wp2_with fail
      go_ret
      exact ⟨rfl, rfl⟩
  · rw [if_neg h1]
    have x1 : (chk n f != 0) = true := by rw [bne_iff_ne]; exact h1
    generalize chk n f = er at *
    clear h1 hA hB c2
    go_enter Tryz.func73, Tryz.ntmps73
    go_wp2_with fail
    refine c1.mono ?_
    rintro _ _ ⟨rfl, rfl⟩
    go_wp2_with fail
    go_ret
    exact ⟨rfl, rfl⟩

set_option maxRecDepth 100000 in
set_option maxHeartbeats 8000000 in
theorem refRatCheck_any {w : World} {neg : Bool} {A A' : Option Addr} {n c m c' : Nat} {f g : Nat → Nat} (h : Raw w neg A n c f A' m c' g) :
    Calls Tryz.prog 27 #[.agg #[.bool neg, .slice A n c, .slice A' m c']] w fun e w' => e = .returned (.int .i64 (chkR neg n f m g)) ∧ Below w.heap.size w w' := by
  have hb0 := below1 w (.cells #[.bool neg, .slice A n c, .slice A' m c'] 25)
  have h1 := h.below hb0
  have C0 := Lib.hid (refParts_any h1.num h1.den)
  have KP1 := Lib.hid (Blk.new w #[.bool neg, .slice A n c, .slice A' m c'] 25)
  have HB := Lib.hid hb0
  by_cases hP : chkP n f m g = 0
  · obtain ⟨e1, e2, e3, e4⟩ := chkP_eq (neg := neg) hP
    rw [e4]
    rw [hP] at C0
    obtain ⟨hn, vf⟩ := chk_zero e1
    obtain ⟨hm, vg⟩ := chk_zero e2
    have lN : nv f n < LB ^ NL := Nat.lt_of_lt_of_le vf.lt (pow_le_of (by rw [NL_eq]; exact hn))
    have lD : nv g m < LB ^ NL := Nat.lt_of_lt_of_le vg.lt (pow_le_of (by rw [NL_eq]; exact hm))
    have C1 : Hid (∀ W, Below (w.alloc (.cells #[.bool neg, .slice A n c, .slice A' m c'] 25)).heap.size (w.alloc (.cells #[.bool neg, .slice A n c, .slice A' m c'] 25)) W → _) := Lib.hid fun W (hw : Below (w.alloc (.cells #[.bool neg, .slice A n c, .slice A' m c'] 25)).heap.size (w.alloc (.cells #[.bool neg, .slice A n c, .slice A' m c'] 25)) W) => refCommonN (w := W) (Nr.below (v := .slice A n c) ⟨_, _, _, _, rfl, h1.num, ⟨vf, rfl⟩⟩ hw) (Nr.below (v := .slice A' m c') ⟨_, _, _, _, rfl, h1.den, ⟨vg, rfl⟩⟩ hw) lN lD
    clear h h1 hb0 hP e1 e2 e3 e4 hn hm vf vg lN lD
    obtain ⟨G, hG0⟩ : ∃ G, Nat.gcd (nv f n) (nv g m) = G := ⟨_, rfl⟩
    simp only [hG0] at C1 ⊢
    clear hG0
    obtain ⟨ER, hER⟩ : ∃ E : Int, (if (neg = true ∧ n = 0) ∨ G ≠ 1 then 3 else 0) = E := ⟨_, rfl⟩
    rw [hER]
    have HER := Lib.hid hER
    clear hER
    go_enter Tryz.func27, Tryz.ntmps27
    go_wp2_with fail
    refine C0.out.mono ?_
    rintro _ _ ⟨rfl, rfl⟩
    go_wp2_with fail
    refine (C1.out _ (Below.refl _ _)).mono ?_
    rintro _ w1 ⟨x, rfl, hx, hb1⟩
    obtain ⟨A3, n3, c3, f3, rfl, hr3, hd3⟩ := hx
    replace HB := Lib.hid (HB.out.trans (hb1.mono HB.out.size))
    replace KP1 := Lib.hid (KP1.out.after hb1)
    have d0 := KP1.out.cell (i := 0) rfl
    have d1 := KP1.out.cell (i := 1) rfl
    have d2 := KP1.out.cell (i := 2) rfl
    by_cases hn3 : n3 = 1
    · subst hn3
      have C2 := Lib.hid (C1.out w1 hb1)
      have D3 := Lib.hid hd3
      clear hr3 hd3 C1 C0 hb1
      go_wp2_with fail
      refine C2.out.mono ?_
      rintro _ w2 ⟨x, rfl, hx, hb2⟩
      obtain ⟨A4, n4, c4, f4, rfl, hr4, hd4⟩ := hx
      obtain ⟨rfl, _⟩ := D3.out.unique hd4
      obtain ⟨bb, off, rfl, hbl, hc⟩ := hr4.cell (by omega)
      have hc0 : w2.cell? ⟨bb, off, none⟩ = some (.int .u32 (iv (f4 0))) := hc 0 (by omega)
      replace HB := Lib.hid (HB.out.trans (hb2.mono HB.out.size))
      replace KP1 := Lib.hid (KP1.out.after hb2)
      clear d0 d1 d2
      have d0 := KP1.out.cell (i := 0) rfl
      have d1 := KP1.out.cell (i := 1) rfl
      have d2 := KP1.out.cell (i := 2) rfl
      have hcap := hr4.cap
      have hmx := hr4.max
      by_cases hG : G = 1
      · have h40 : f4 0 = 1 := by
          have hd5 := hd4
          rw [hG] at hd5
          exact (hd5.unique one_dig).2 0 (by omega)
        rw [h40, show iv 1 = 1 by rw [iv_eq]; rfl] at hc0
        clear hc hr4 hd4 D3 C2 hb2 h40
        rcases neg with _ | _
        · replace HER : Hid (0 = ER) := Lib.hid (by rw [← HER.out, if_neg (by rintro (⟨q, _⟩ | q); exact absurd q (by simp); exact q hG)])
          clear hG
          go_wp2_with fail
          go_ret
          exact ⟨ret_int HER.out, HB.out⟩
        · by_cases h0 : n = 0
          · replace HER : Hid (3 = ER) := Lib.hid (by rw [← HER.out, if_pos (.inl ⟨rfl, h0⟩)])
            subst h0
            clear hG
            go_wp2_with fail
            go_ret
            exact ⟨ret_int HER.out, HB.out⟩
          · replace HER : Hid (0 = ER) := Lib.hid (by rw [← HER.out, if_neg (by rintro (⟨_, q⟩ | q); exact h0 q; exact q hG)])
            have hz : ((n : Int) == 0) = false := by rw [beq_eq_false_iff_ne]; omega
            clear hG h0
            go_wp2_with fail
            go_ret
            exact ⟨ret_int HER.out, HB.out⟩
      · have h40 : iv (f4 0) ≠ 1 := fun e => hG (by
          have e0 : f4 0 = 1 := by rw [iv_eq] at e; omega
          have := hd4.eq
          simp [nv] at this
          omega)
        have hne : (iv (f4 0) != 1) = true := by rw [bne_iff_ne]; exact h40
        replace HER : Hid (3 = ER) := Lib.hid (by rw [← HER.out, if_pos (.inr hG)])
        generalize iv (f4 0) = X at *
        clear hc hr4 hd4 D3 C2 hb2 hG h40
        go_wp2_with fail
        go_ret
        exact ⟨ret_int HER.out, HB.out⟩
    · have hG : G ≠ 1 := fun e => hn3 (by subst e; exact (hd3.unique one_dig).1)
      have hz : ((n3 : Int) != 1) = true := by rw [bne_iff_ne]; omega
      replace HER : Hid (3 = ER) := Lib.hid (by rw [← HER.out, if_pos (.inr hG)])
      clear hr3 hd3 C1 C0 hb1 hn3 hG
      go_wp2_with fail
      go_ret
      exact ⟨ret_int HER.out, HB.out⟩
  · rw [chkP_ne hP]
    have x1 : (chkP n f m g != 0) = true := by rw [bne_iff_ne]; exact hP
    generalize chkP n f m g = er at *
    clear h h1 hb0 hP
    have d0 := KP1.out.cell (i := 0) rfl
    have d1 := KP1.out.cell (i := 1) rfl
    have d2 := KP1.out.cell (i := 2) rfl
    go_enter Tryz.func27, Tryz.ntmps27
    go_wp2_with fail
    refine C0.out.mono ?_
    rintro _ _ ⟨rfl, rfl⟩
    go_wp2_with fail
    go_ret
    exact ⟨rfl, HB.out⟩

set_option maxRecDepth 100000 in
set_option maxHeartbeats 8000000 in
theorem refBoth_any {w : World} {b1 b2 : Bool} {A1 A2 A3 A4 : Option Addr} {n1 c1 n2 c2 n3 c3 n4 c4 : Nat} {f1 f2 f3 f4 : Nat → Nat} (h : Raw w b1 A1 n1 c1 f1 A2 n2 c2 f2) (k : Raw w b2 A3 n3 c3 f3 A4 n4 c4 f4) :
    Calls Tryz.prog 58 #[.agg #[.bool b1, .slice A1 n1 c1, .slice A2 n2 c2], .agg #[.bool b2, .slice A3 n3 c3, .slice A4 n4 c4]] w fun e w' => e = .returned (.int .i64 (chkRR b1 n1 f1 n2 f2 b2 n3 f3 n4 f4)) ∧ Below w.heap.size w w' := by
  have hb0 := below2 w (.cells #[.bool b1, .slice A1 n1 c1, .slice A2 n2 c2] 25) (.cells #[.bool b2, .slice A3 n3 c3, .slice A4 n4 c4] 25)
  have k3 := (Blk.new (w.alloc (.cells #[.bool b1, .slice A1 n1 c1, .slice A2 n2 c2] 25)) #[.bool b2, .slice A3 n3 c3, .slice A4 n4 c4] 25)
  simp only [World.size_alloc] at k3
  have K3 := Lib.hid k3
  have C1 := Lib.hid (refRatCheck_any (h.below hb0))
  have HK := Lib.hid (k.below hb0)
  have HB := Lib.hid hb0
  clear h k hb0 k3
  by_cases e1 : chkR b1 n1 f1 n2 f2 = 0
  · rw [show chkRR b1 n1 f1 n2 f2 b2 n3 f3 n4 f4 = chkR b2 n3 f3 n4 f4 by unfold chkRR; rw [if_pos e1]]
    rw [e1] at C1
    generalize hge : chkR b2 n3 f3 n4 f4 = er at *
    have HGE := Lib.hid hge
    clear e1 hge
    go_enter Tryz.func58, Tryz.ntmps58
    go_wp2_with fail
    refine C1.out.mono ?_
    rintro _ w1 ⟨rfl, hb⟩
    have k3 := K3.out.after hb
    have d0 := k3.cell (i := 0) rfl
    have d1 := k3.cell (i := 1) rfl
    have d2 := k3.cell (i := 2) rfl
    have hz : w.heap.size + 1 < w1.heap.size := k3.lt
    have C2 := Lib.hid (refRatCheck_any (HK.out.below hb))
    replace HB := Lib.hid (HB.out.trans (hb.mono HB.out.size))
    clear hb k3
    rw [HGE.out] at C2
    go_wp2_with fail
    refine C2.out.mono ?_
    rintro _ w2 ⟨rfl, hb⟩
    replace HB := Lib.hid (HB.out.trans (hb.mono HB.out.size))
    clear hb
    go_wp2_with fail
    go_ret
    exact ⟨rfl, HB.out⟩
  · rw [show chkRR b1 n1 f1 n2 f2 b2 n3 f3 n4 f4 = chkR b1 n1 f1 n2 f2 by unfold chkRR; rw [if_neg e1]]
    have x1 : (chkR b1 n1 f1 n2 f2 != 0) = true := by rw [bne_iff_ne]; exact e1
    have x2 : (chkR b1 n1 f1 n2 f2 == 0) = false := by rw [beq_eq_false_iff_ne]; exact e1
    generalize chkR b1 n1 f1 n2 f2 = er at *
    clear e1
    go_enter Tryz.func58, Tryz.ntmps58
    go_wp2_with fail
    refine C1.out.mono ?_
    rintro _ w1 ⟨rfl, hb⟩
    replace HB := Lib.hid (HB.out.trans (hb.mono HB.out.size))
    clear hb
    go_wp2_with fail
    go_ret
    exact ⟨rfl, HB.out⟩


end Go.Proofs.YtmcacofpnnaplaaGreatDoor

/- The contracts of the reference's functions on rational numbers. Conditions as premises: the numbers read, and are short enough. -/
namespace Go.Proofs.YtmcacofpnnaplaaGreatDoor
open Go.RowKit Go.Shelf
attribute [local go_sem ↓] Go.wp_at_zero Go.wp_at_succ


set_option maxRecDepth 100000 in
set_option maxHeartbeats 8000000 in
theorem refAddOk {w : World} {i j : Nat} {a b : Rat} {v u : Value} (ha : Rq w a v) (hb : Rq w b u) (sa : Sz i a) (sb : Sz j b) (hij : i + j ≤ 1022) :
    Calls Tryz.prog 16 #[v, u] w fun e w' => ∃ t, e = .returned (.tuple #[t, .int .i64 0]) ∧ Rq w' (a + b) t ∧ Below w.heap.size w w' := by
  obtain ⟨b1, A1, n1, c1, f1, A1', n1', c1', g1, rfl, hr, h0⟩ := ha.raw (lt_NL sa.1 (by omega)) (lt_NL sa.2 (by omega))
  obtain ⟨b2, A2, n2, c2, f2, A2', n2', c2', g2, rfl, kr, k0⟩ := hb.raw (lt_NL sb.1 (by omega)) (lt_NL sb.2 (by omega))
  have hbb : Below w.heap.size w (((w.alloc (.cells #[.bool b1, .slice A1 n1 c1, .slice A1' n1' c1'] 25)).alloc (.cells #[.bool b2, .slice A2 n2 c2, .slice A2' n2' c2'] 25)).alloc (.cells #[.bool false, .slice none 0 0, .slice none 0 0] 25)) := (below2 w _ _).alloc (by simp; omega) _
  have k1 := (Blk.new w #[.bool b1, .slice A1 n1 c1, .slice A1' n1' c1'] 25).alloc (.cells #[.bool b2, .slice A2 n2 c2, .slice A2' n2' c2'] 25)
  have k2 := Blk.new (w.alloc (.cells #[.bool b1, .slice A1 n1 c1, .slice A1' n1' c1'] 25)) #[.bool b2, .slice A2 n2 c2, .slice A2' n2' c2'] 25
  have k3 := Blk.new ((w.alloc (.cells #[.bool b1, .slice A1 n1 c1, .slice A1' n1' c1'] 25)).alloc (.cells #[.bool b2, .slice A2 n2 c2, .slice A2' n2' c2'] 25)) #[.bool false, .slice none 0 0, .slice none 0 0] 25
  replace k1 := k1.alloc (.cells #[.bool false, .slice none 0 0, .slice none 0 0] 25)
  replace k2 := k2.alloc (.cells #[.bool false, .slice none 0 0, .slice none 0 0] 25)
  simp only [World.size_alloc] at k2 k3
  have c1' := refBoth_any (hr.below hbb) (kr.below hbb)
  rw [chkRR_ok h0 k0] at c1'
  have C1 := Lib.hid c1'
  have HB := Lib.hid hbb
  have KP1 := Lib.hid k1
  have KP2 := Lib.hid k2
  have KP3 := Lib.hid k3
  have Ra := Lib.hid (ha.below hbb)
  have Rb := Lib.hid (hb.below hbb)
  have SA := Lib.hid sa
  have SB := Lib.hid sb
  clear ha hb hr kr h0 k0 c1' hbb k1 k2 k3 sa sb
  have d10 := KP1.out.cell (i := 0) rfl
  have d11 := KP1.out.cell (i := 1) rfl
  have d12 := KP1.out.cell (i := 2) rfl
  have d20 := KP2.out.cell (i := 0) rfl
  have d21 := KP2.out.cell (i := 1) rfl
  have d22 := KP2.out.cell (i := 2) rfl
  go_enter Tryz.func16, Tryz.ntmps16
  go_wp2_with fail
  refine (C1.out).mono ?_
  rintro _ w4 ⟨rfl, hb⟩
  clear d10 d11 d12 d20 d21 d22 C1
  replace Ra := Lib.hid (Ra.out.below hb)
  replace Rb := Lib.hid (Rb.out.below hb)
  replace KP1 := Lib.hid (KP1.out.after hb)
  replace KP2 := Lib.hid (KP2.out.after hb)
  replace KP3 := Lib.hid (KP3.out.after hb)
  replace HB := Lib.hid (HB.out.trans (hb.mono HB.out.size))
  clear hb
  have d10 := KP1.out.cell (i := 0) rfl
  have d11 := KP1.out.cell (i := 1) rfl
  have d12 := KP1.out.cell (i := 2) rfl
  have d20 := KP2.out.cell (i := 0) rfl
  have d21 := KP2.out.cell (i := 1) rfl
  have d22 := KP2.out.cell (i := 2) rfl
  go_wp2_with fail
  refine (refPlusQ Ra.out Rb.out SA.out SB.out (by omega)).mono ?_
  rintro _ w6 ⟨x, rfl, hx, hb⟩
  replace KP3 := Lib.hid (KP3.out.after hb)
  replace HB := Lib.hid (HB.out.trans (hb.mono HB.out.size))
  have RX := Lib.hid hx
  clear hx hb
  go_wp2_with fail
  refine (refFitsQ RX.out (SA.out.add SB.out) (by omega)).mono ?_
  rintro _ w8 ⟨x, rfl, hx, hb⟩
  obtain ⟨bL, AL, nL, cL, AL', nL', cL', rfl, _, _, _⟩ := hx.get
  replace KP3 := Lib.hid (KP3.out.after hb)
  replace HB := Lib.hid (HB.out.trans (hb.mono HB.out.size))
  have HXL := Lib.hid hx
  clear hx hb
  have zx : w.heap.size + 1 + 1 < w8.heap.size := KP3.out.lt
  have x0 := KP3.out.cell (i := 0) rfl
  have x1 := KP3.out.cell (i := 1) rfl
  have x2 := KP3.out.cell (i := 2) rfl
  have xf := KP3.out.free
  go_wp2_with fail
  refine bodyPost_ret (results_row_tmp (p := 4) (ty := 25) rfl _ _ (w.heap.size + 1 + 1) 25 _ _ _ rfl KP3.out.set.set.set Tryz.underlying25 rfl (by kernel_rfl)) rfl ?_
  obtain ⟨g1, g2, g3⟩ := HXL.out.inv
  exact ⟨_, rfl, Rq.mk g3 rfl rfl (g1.put3 KP3.out (hnoR _ _ _ _ _ _ _)) (g2.put3 KP3.out (hnoR _ _ _ _ _ _ _)), ((HB.out.setCell (by simp; omega) _).setCell (by simp; omega) _).setCell (by simp; omega) _⟩

set_option maxRecDepth 100000 in
set_option maxHeartbeats 8000000 in
theorem refSubOk {w : World} {i j : Nat} {a b : Rat} {v u : Value} (ha : Rq w a v) (hb : Rq w b u) (sa : Sz i a) (sb : Sz j b) (hij : i + j ≤ 1022) :
    Calls Tryz.prog 19 #[v, u] w fun e w' => ∃ t, e = .returned (.tuple #[t, .int .i64 0]) ∧ Rq w' (a - b) t ∧ Below w.heap.size w w' := by
  obtain ⟨b1, A1, n1, c1, f1, A1', n1', c1', g1, rfl, hr, h0⟩ := ha.raw (lt_NL sa.1 (by omega)) (lt_NL sa.2 (by omega))
  obtain ⟨b2, A2, n2, c2, f2, A2', n2', c2', g2, rfl, kr, k0⟩ := hb.raw (lt_NL sb.1 (by omega)) (lt_NL sb.2 (by omega))
  have hbb : Below w.heap.size w (((w.alloc (.cells #[.bool b1, .slice A1 n1 c1, .slice A1' n1' c1'] 25)).alloc (.cells #[.bool b2, .slice A2 n2 c2, .slice A2' n2' c2'] 25)).alloc (.cells #[.bool false, .slice none 0 0, .slice none 0 0] 25)) := (below2 w _ _).alloc (by simp; omega) _
  have k1 := (Blk.new w #[.bool b1, .slice A1 n1 c1, .slice A1' n1' c1'] 25).alloc (.cells #[.bool b2, .slice A2 n2 c2, .slice A2' n2' c2'] 25)
  have k2 := Blk.new (w.alloc (.cells #[.bool b1, .slice A1 n1 c1, .slice A1' n1' c1'] 25)) #[.bool b2, .slice A2 n2 c2, .slice A2' n2' c2'] 25
  have k3 := Blk.new ((w.alloc (.cells #[.bool b1, .slice A1 n1 c1, .slice A1' n1' c1'] 25)).alloc (.cells #[.bool b2, .slice A2 n2 c2, .slice A2' n2' c2'] 25)) #[.bool false, .slice none 0 0, .slice none 0 0] 25
  replace k1 := k1.alloc (.cells #[.bool false, .slice none 0 0, .slice none 0 0] 25)
  replace k2 := k2.alloc (.cells #[.bool false, .slice none 0 0, .slice none 0 0] 25)
  simp only [World.size_alloc] at k2 k3
  have c1' := refBoth_any (hr.below hbb) (kr.below hbb)
  rw [chkRR_ok h0 k0] at c1'
  have C1 := Lib.hid c1'
  have HB := Lib.hid hbb
  have KP1 := Lib.hid k1
  have KP2 := Lib.hid k2
  have KP3 := Lib.hid k3
  have Ra := Lib.hid (ha.below hbb)
  have Rb := Lib.hid (hb.below hbb)
  have SA := Lib.hid sa
  have SB := Lib.hid sb
  clear ha hb hr kr h0 k0 c1' hbb k1 k2 k3 sa sb
  have d10 := KP1.out.cell (i := 0) rfl
  have d11 := KP1.out.cell (i := 1) rfl
  have d12 := KP1.out.cell (i := 2) rfl
  have d20 := KP2.out.cell (i := 0) rfl
  have d21 := KP2.out.cell (i := 1) rfl
  have d22 := KP2.out.cell (i := 2) rfl
  go_enter Tryz.func19, Tryz.ntmps19
  go_wp2_with fail
  refine (C1.out).mono ?_
  rintro _ w4 ⟨rfl, hb⟩
  clear d10 d11 d12 d20 d21 d22 C1
  replace Ra := Lib.hid (Ra.out.below hb)
  replace Rb := Lib.hid (Rb.out.below hb)
  replace KP1 := Lib.hid (KP1.out.after hb)
  replace KP2 := Lib.hid (KP2.out.after hb)
  replace KP3 := Lib.hid (KP3.out.after hb)
  replace HB := Lib.hid (HB.out.trans (hb.mono HB.out.size))
  clear hb
  have d10 := KP1.out.cell (i := 0) rfl
  have d11 := KP1.out.cell (i := 1) rfl
  have d12 := KP1.out.cell (i := 2) rfl
  have d20 := KP2.out.cell (i := 0) rfl
  have d21 := KP2.out.cell (i := 1) rfl
  have d22 := KP2.out.cell (i := 2) rfl
  have EQ : Hid (a + -b = a - b) := Lib.hid (Rat.sub_eq_add_neg a b).symm
  go_upto_region 4 with fail
  have KEEP : Hid (∀ W, Below w4.heap.size w4 W → (W.cell? ⟨w.heap.size, 0, none⟩ = some (.bool b1) ∧ W.cell? ⟨w.heap.size, 1, none⟩ = some (.slice A1 n1 c1) ∧ W.cell? ⟨w.heap.size, 2, none⟩ = some (.slice A1' n1' c1') ∧ W.cell? ⟨w.heap.size + 1, 0, none⟩ = some (.bool b2) ∧ W.cell? ⟨w.heap.size + 1, 1, none⟩ = some (.slice A2 n2 c2) ∧ W.cell? ⟨w.heap.size + 1, 2, none⟩ = some (.slice A2' n2' c2'))) := Lib.hid fun W h1 => ⟨(KP1.out.after h1).cell rfl, (KP1.out.after h1).cell rfl, (KP1.out.after h1).cell rfl, (KP2.out.after h1).cell rfl, (KP2.out.after h1).cell rfl, (KP2.out.after h1).cell rfl⟩
  have KEEP3 : Hid (∀ W u v x, Below w4.heap.size w4 W → ((((W.setCell ⟨w.heap.size + 1 + 1, 0, none⟩ u).setCell ⟨w.heap.size + 1 + 1, 1, none⟩ v).setCell ⟨w.heap.size + 1 + 1, 2, none⟩ x).cell? ⟨w.heap.size, 0, none⟩ = some (.bool b1) ∧ (((W.setCell ⟨w.heap.size + 1 + 1, 0, none⟩ u).setCell ⟨w.heap.size + 1 + 1, 1, none⟩ v).setCell ⟨w.heap.size + 1 + 1, 2, none⟩ x).cell? ⟨w.heap.size, 1, none⟩ = some (.slice A1 n1 c1) ∧ (((W.setCell ⟨w.heap.size + 1 + 1, 0, none⟩ u).setCell ⟨w.heap.size + 1 + 1, 1, none⟩ v).setCell ⟨w.heap.size + 1 + 1, 2, none⟩ x).cell? ⟨w.heap.size, 2, none⟩ = some (.slice A1' n1' c1') ∧ (((W.setCell ⟨w.heap.size + 1 + 1, 0, none⟩ u).setCell ⟨w.heap.size + 1 + 1, 1, none⟩ v).setCell ⟨w.heap.size + 1 + 1, 2, none⟩ x).cell? ⟨w.heap.size + 1, 0, none⟩ = some (.bool b2) ∧ (((W.setCell ⟨w.heap.size + 1 + 1, 0, none⟩ u).setCell ⟨w.heap.size + 1 + 1, 1, none⟩ v).setCell ⟨w.heap.size + 1 + 1, 2, none⟩ x).cell? ⟨w.heap.size + 1, 1, none⟩ = some (.slice A2 n2 c2) ∧ (((W.setCell ⟨w.heap.size + 1 + 1, 0, none⟩ u).setCell ⟨w.heap.size + 1 + 1, 1, none⟩ v).setCell ⟨w.heap.size + 1 + 1, 2, none⟩ x).cell? ⟨w.heap.size + 1, 2, none⟩ = some (.slice A2' n2' c2'))) := Lib.hid fun W u v x h1 => ⟨(((KP1.out.after h1).other3 (by omega) u v x)).cell rfl, (((KP1.out.after h1).other3 (by omega) u v x)).cell rfl, (((KP1.out.after h1).other3 (by omega) u v x)).cell rfl, (((KP2.out.after h1).other3 (by omega) u v x)).cell rfl, (((KP2.out.after h1).other3 (by omega) u v x)).cell rfl, (((KP2.out.after h1).other3 (by omega) u v x)).cell rfl⟩
  have hdrew : Below w4.heap.size w4 w4.drew := (Below.refl _ _).drew
  go_region_held3 (fun W => W.cell? ⟨w.heap.size, 0, none⟩ = some (.bool b1) ∧ W.cell? ⟨w.heap.size, 1, none⟩ = some (.slice A1 n1 c1) ∧ W.cell? ⟨w.heap.size, 2, none⟩ = some (.slice A1' n1' c1') ∧ W.cell? ⟨w.heap.size + 1, 0, none⟩ = some (.bool b2) ∧ W.cell? ⟨w.heap.size + 1, 1, none⟩ = some (.slice A2 n2 c2) ∧ W.cell? ⟨w.heap.size + 1, 2, none⟩ = some (.slice A2' n2' c2'))
    (first | with_reducible exact KEEP.out wq3 hk3 | with_reducible exact KEEP.out wq2 hk2 | with_reducible exact KEEP.out wq1 hk1 | with_reducible exact KEEP.out w4.drew hdrew | with_reducible exact KEEP3.out wq3 _ _ _ hk3 | go_keep)
    (first
      | (go_at_call 62; (with_reducible refine (refMinusW (Rb.out.below hdrew)).mono ?_); rintro _ wq1 ⟨y, rfl, hy, hb1⟩; have hk1 := hdrew.trans (hb1.mono hdrew.size); have HY := Lib.hid hy; obtain ⟨bY, AY, nY, cY, AY', nY', cY', rfl, _, _, _⟩ := hy.get; clear hy)
      | (go_at_call 60; (with_reducible refine (refPlusQ (Ra.out.below hk1) HY.out SA.out SB.out.neg (by omega)).mono ?_); rintro _ wq2 ⟨x, rfl, hx, hb2⟩; have hk2 := hk1.trans (hb2.mono hk1.size); have RX := Lib.hid (hx.cast EQ.out); obtain ⟨bX, AX, nX, cX, AX', nX', cX', rfl, _, _, _⟩ := hx.get; clear hx)
      | (go_at_call 59; (with_reducible refine (refFitsQ RX.out (SA.out.sub SB.out) (by omega)).mono ?_); rintro _ wq3 ⟨xL, rfl, hxL, hb3⟩; have hk3 := hk2.trans (hb3.mono hk2.size); have hxM := hxL; obtain ⟨bL, AL, nL, cL, AL', nL', cL', rfl, _, _, _⟩ := hxL.get; have HXL := Lib.hid hxM; clear hxL hxM; have hzz : w.heap.size + 1 + 1 < wq3.heap.size := (KP3.out.after hk3).lt; have d0 := (KP3.out.after hk3).cell (i := 0) rfl; have d1 := (KP3.out.after hk3).cell (i := 1) rfl; have d2 := (KP3.out.after hk3).cell (i := 2) rfl; have ff := (KP3.out.after hk3).free))
  have KK := KP3.out.after hk3
  have hbc := HB.out.trans (hk3.mono HB.out.size)
  go_wp2_with fail
  refine bodyPost_ret (results_row_tmp (p := 4) (ty := 25) rfl _ _ (w.heap.size + 1 + 1) 25 _ _ _ rfl KK.set.set.set Tryz.underlying25 rfl (by kernel_rfl)) rfl ?_
  obtain ⟨g1, g2, g3⟩ := HXL.out.inv
  exact ⟨_, rfl, Rq.mk g3 rfl rfl (g1.put3 KK (hnoR _ _ _ _ _ _ _)) (g2.put3 KK (hnoR _ _ _ _ _ _ _)), ((hbc.setCell (by simp; omega) _).setCell (by simp; omega) _).setCell (by simp; omega) _⟩

set_option maxRecDepth 100000 in
set_option maxHeartbeats 8000000 in
theorem refMulOk {w : World} {i j : Nat} {a b : Rat} {v u : Value} (ha : Rq w a v) (hb : Rq w b u) (sa : Sz i a) (sb : Sz j b) (hij : i + j ≤ 1022) :
    Calls Tryz.prog 21 #[v, u] w fun e w' => ∃ t, e = .returned (.tuple #[t, .int .i64 0]) ∧ Rq w' (a * b) t ∧ Below w.heap.size w w' := by
  obtain ⟨b1, A1, n1, c1, f1, A1', n1', c1', g1, rfl, hr, h0⟩ := ha.raw (lt_NL sa.1 (by omega)) (lt_NL sa.2 (by omega))
  obtain ⟨b2, A2, n2, c2, f2, A2', n2', c2', g2, rfl, kr, k0⟩ := hb.raw (lt_NL sb.1 (by omega)) (lt_NL sb.2 (by omega))
  have hbb : Below w.heap.size w (((w.alloc (.cells #[.bool b1, .slice A1 n1 c1, .slice A1' n1' c1'] 25)).alloc (.cells #[.bool b2, .slice A2 n2 c2, .slice A2' n2' c2'] 25)).alloc (.cells #[.bool false, .slice none 0 0, .slice none 0 0] 25)) := (below2 w _ _).alloc (by simp; omega) _
  have k1 := (Blk.new w #[.bool b1, .slice A1 n1 c1, .slice A1' n1' c1'] 25).alloc (.cells #[.bool b2, .slice A2 n2 c2, .slice A2' n2' c2'] 25)
  have k2 := Blk.new (w.alloc (.cells #[.bool b1, .slice A1 n1 c1, .slice A1' n1' c1'] 25)) #[.bool b2, .slice A2 n2 c2, .slice A2' n2' c2'] 25
  have k3 := Blk.new ((w.alloc (.cells #[.bool b1, .slice A1 n1 c1, .slice A1' n1' c1'] 25)).alloc (.cells #[.bool b2, .slice A2 n2 c2, .slice A2' n2' c2'] 25)) #[.bool false, .slice none 0 0, .slice none 0 0] 25
  replace k1 := k1.alloc (.cells #[.bool false, .slice none 0 0, .slice none 0 0] 25)
  replace k2 := k2.alloc (.cells #[.bool false, .slice none 0 0, .slice none 0 0] 25)
  simp only [World.size_alloc] at k2 k3
  have c1' := refBoth_any (hr.below hbb) (kr.below hbb)
  rw [chkRR_ok h0 k0] at c1'
  have C1 := Lib.hid c1'
  have HB := Lib.hid hbb
  have KP1 := Lib.hid k1
  have KP2 := Lib.hid k2
  have KP3 := Lib.hid k3
  have Ra := Lib.hid (ha.below hbb)
  have Rb := Lib.hid (hb.below hbb)
  have SA := Lib.hid sa
  have SB := Lib.hid sb
  clear ha hb hr kr h0 k0 c1' hbb k1 k2 k3 sa sb
  have d10 := KP1.out.cell (i := 0) rfl
  have d11 := KP1.out.cell (i := 1) rfl
  have d12 := KP1.out.cell (i := 2) rfl
  have d20 := KP2.out.cell (i := 0) rfl
  have d21 := KP2.out.cell (i := 1) rfl
  have d22 := KP2.out.cell (i := 2) rfl
  go_enter Tryz.func21, Tryz.ntmps21
  go_wp2_with fail
  refine (C1.out).mono ?_
  rintro _ w4 ⟨rfl, hb⟩
  clear d10 d11 d12 d20 d21 d22 C1
  replace Ra := Lib.hid (Ra.out.below hb)
  replace Rb := Lib.hid (Rb.out.below hb)
  replace KP1 := Lib.hid (KP1.out.after hb)
  replace KP2 := Lib.hid (KP2.out.after hb)
  replace KP3 := Lib.hid (KP3.out.after hb)
  replace HB := Lib.hid (HB.out.trans (hb.mono HB.out.size))
  clear hb
  have d10 := KP1.out.cell (i := 0) rfl
  have d11 := KP1.out.cell (i := 1) rfl
  have d12 := KP1.out.cell (i := 2) rfl
  have d20 := KP2.out.cell (i := 0) rfl
  have d21 := KP2.out.cell (i := 1) rfl
  have d22 := KP2.out.cell (i := 2) rfl
  go_wp2_with fail
  refine (refTimesQ Ra.out Rb.out SA.out SB.out (by omega)).mono ?_
  rintro _ w6 ⟨x, rfl, hx, hb⟩
  replace KP3 := Lib.hid (KP3.out.after hb)
  replace HB := Lib.hid (HB.out.trans (hb.mono HB.out.size))
  have RX := Lib.hid hx
  clear hx hb
  go_wp2_with fail
  refine (refFitsQ RX.out (SA.out.mul SB.out) (by omega)).mono ?_
  rintro _ w8 ⟨x, rfl, hx, hb⟩
  obtain ⟨bL, AL, nL, cL, AL', nL', cL', rfl, _, _, _⟩ := hx.get
  replace KP3 := Lib.hid (KP3.out.after hb)
  replace HB := Lib.hid (HB.out.trans (hb.mono HB.out.size))
  have HXL := Lib.hid hx
  clear hx hb
  have zx : w.heap.size + 1 + 1 < w8.heap.size := KP3.out.lt
  have x0 := KP3.out.cell (i := 0) rfl
  have x1 := KP3.out.cell (i := 1) rfl
  have x2 := KP3.out.cell (i := 2) rfl
  have xf := KP3.out.free
  go_wp2_with fail
  refine bodyPost_ret (results_row_tmp (p := 4) (ty := 25) rfl _ _ (w.heap.size + 1 + 1) 25 _ _ _ rfl KP3.out.set.set.set Tryz.underlying25 rfl (by kernel_rfl)) rfl ?_
  obtain ⟨g1, g2, g3⟩ := HXL.out.inv
  exact ⟨_, rfl, Rq.mk g3 rfl rfl (g1.put3 KP3.out (hnoR _ _ _ _ _ _ _)) (g2.put3 KP3.out (hnoR _ _ _ _ _ _ _)), ((HB.out.setCell (by simp; omega) _).setCell (by simp; omega) _).setCell (by simp; omega) _⟩

set_option maxRecDepth 100000 in
set_option maxHeartbeats 8000000 in
theorem refZeroQ {w : World} {a : Rat} {v : Value} (ha : Rq w a v) :
    Calls Tryz.prog 65 #[v] w fun e w' => e = .returned (.bool (decide (a.num = 0))) ∧ Below w.heap.size w w' := by
  obtain ⟨b1, A1, n1, c1, A1', n1', c1', rfl, h1, _, _⟩ := ha.get
  have hn := h1.nz
  have HB := Lib.hid (below1 w (.cells #[.bool b1, .slice A1 n1 c1, .slice A1' n1' c1'] 25))
  have hz : ((n1 : Int) == 0) = decide (a.num = 0) := by
    by_cases h : a.num = 0
    · rw [decide_eq_true h, beq_iff_eq]; have := hn.2 (Int.natAbs_eq_zero.2 h); omega
    · rw [decide_eq_false h, beq_eq_false_iff_ne]; intro e; exact h (Int.natAbs_eq_zero.1 (hn.1 (by omega)))
  generalize decide (a.num = 0) = zz at *
  clear ha h1 hn
  go_enter Tryz.func65, Tryz.ntmps65
  go_wp2_with fail
  go_ret
  exact ⟨rfl, HB.out⟩

set_option maxRecDepth 100000 in
set_option maxHeartbeats 8000000 in
theorem refDivOk {w : World} {i j : Nat} {a b : Rat} {v u : Value} (ha : Rq w a v) (hb : Rq w b u) (sa : Sz i a) (sb : Sz j b) (hij : i + j ≤ 1022) (h0 : b ≠ 0) :
    Calls Tryz.prog 23 #[v, u] w fun e w' => ∃ t, e = .returned (.tuple #[t, .int .i64 0]) ∧ Rq w' (a / b) t ∧ Below w.heap.size w w' := by
  obtain ⟨b1, A1, n1, c1, f1, A1', n1', c1', g1, rfl, hr, h0⟩ := ha.raw (lt_NL sa.1 (by omega)) (lt_NL sa.2 (by omega))
  obtain ⟨b2, A2, n2, c2, f2, A2', n2', c2', g2, rfl, kr, k0⟩ := hb.raw (lt_NL sb.1 (by omega)) (lt_NL sb.2 (by omega))
  have hbb : Below w.heap.size w (((w.alloc (.cells #[.bool b1, .slice A1 n1 c1, .slice A1' n1' c1'] 25)).alloc (.cells #[.bool b2, .slice A2 n2 c2, .slice A2' n2' c2'] 25)).alloc (.cells #[.bool false, .slice none 0 0, .slice none 0 0] 25)) := (below2 w _ _).alloc (by simp; omega) _
  have k1 := (Blk.new w #[.bool b1, .slice A1 n1 c1, .slice A1' n1' c1'] 25).alloc (.cells #[.bool b2, .slice A2 n2 c2, .slice A2' n2' c2'] 25)
  have k2 := Blk.new (w.alloc (.cells #[.bool b1, .slice A1 n1 c1, .slice A1' n1' c1'] 25)) #[.bool b2, .slice A2 n2 c2, .slice A2' n2' c2'] 25
  have k3 := Blk.new ((w.alloc (.cells #[.bool b1, .slice A1 n1 c1, .slice A1' n1' c1'] 25)).alloc (.cells #[.bool b2, .slice A2 n2 c2, .slice A2' n2' c2'] 25)) #[.bool false, .slice none 0 0, .slice none 0 0] 25
  replace k1 := k1.alloc (.cells #[.bool false, .slice none 0 0, .slice none 0 0] 25)
  replace k2 := k2.alloc (.cells #[.bool false, .slice none 0 0, .slice none 0 0] 25)
  simp only [World.size_alloc] at k2 k3
  have c1' := refBoth_any (hr.below hbb) (kr.below hbb)
  rw [chkRR_ok h0 k0] at c1'
  have C1 := Lib.hid c1'
  have HB := Lib.hid hbb
  have KP1 := Lib.hid k1
  have KP2 := Lib.hid k2
  have KP3 := Lib.hid k3
  have Ra := Lib.hid (ha.below hbb)
  have Rb := Lib.hid (hb.below hbb)
  have SA := Lib.hid sa
  have SB := Lib.hid sb
  clear ha hb hr kr h0 k0 c1' hbb k1 k2 k3 sa sb
  have d10 := KP1.out.cell (i := 0) rfl
  have d11 := KP1.out.cell (i := 1) rfl
  have d12 := KP1.out.cell (i := 2) rfl
  have d20 := KP2.out.cell (i := 0) rfl
  have d21 := KP2.out.cell (i := 1) rfl
  have d22 := KP2.out.cell (i := 2) rfl
  go_enter Tryz.func23, Tryz.ntmps23
  go_wp2_with fail
  refine (C1.out).mono ?_
  rintro _ w4 ⟨rfl, hb⟩
  clear d10 d11 d12 d20 d21 d22 C1
  replace Ra := Lib.hid (Ra.out.below hb)
  replace Rb := Lib.hid (Rb.out.below hb)
  replace KP1 := Lib.hid (KP1.out.after hb)
  replace KP2 := Lib.hid (KP2.out.after hb)
  replace KP3 := Lib.hid (KP3.out.after hb)
  replace HB := Lib.hid (HB.out.trans (hb.mono HB.out.size))
  clear hb
  have d10 := KP1.out.cell (i := 0) rfl
  have d11 := KP1.out.cell (i := 1) rfl
  have d12 := KP1.out.cell (i := 2) rfl
  have d20 := KP2.out.cell (i := 0) rfl
  have d21 := KP2.out.cell (i := 1) rfl
  have d22 := KP2.out.cell (i := 2) rfl
  have HNZ := Lib.hid h0
  have hzb : decide (b.num = 0) = false := decide_eq_false fun e => h0 (Rat.num_eq_zero.1 e)
  clear h0
  have CZ := refZeroQ Rb.out
  rw [hzb] at CZ
  have CZ' := Lib.hid CZ
  clear CZ hzb
  go_wp2_with fail
  refine (CZ'.out).mono ?_
  rintro _ w5 ⟨rfl, hb⟩
  replace Ra := Lib.hid (Ra.out.below hb)
  replace Rb := Lib.hid (Rb.out.below hb)
  replace KP1 := Lib.hid (KP1.out.after hb)
  replace KP2 := Lib.hid (KP2.out.after hb)
  replace KP3 := Lib.hid (KP3.out.after hb)
  replace HB := Lib.hid (HB.out.trans (hb.mono HB.out.size))
  clear hb d10 d11 d12 d20 d21 d22 CZ'
  have d10 := KP1.out.cell (i := 0) rfl
  have d11 := KP1.out.cell (i := 1) rfl
  have d12 := KP1.out.cell (i := 2) rfl
  have d20 := KP2.out.cell (i := 0) rfl
  have d21 := KP2.out.cell (i := 1) rfl
  have d22 := KP2.out.cell (i := 2) rfl
  go_wp2_with fail
  refine (refOverQ Ra.out Rb.out SA.out SB.out (by omega) HNZ.out).mono ?_
  rintro _ w6 ⟨x, rfl, hx, hb⟩
  replace KP3 := Lib.hid (KP3.out.after hb)
  replace HB := Lib.hid (HB.out.trans (hb.mono HB.out.size))
  have RX := Lib.hid hx
  clear hx hb
  go_wp2_with fail
  refine (refFitsQ RX.out (SA.out.div SB.out HNZ.out) (by omega)).mono ?_
  rintro _ w8 ⟨x, rfl, hx, hb⟩
  obtain ⟨bL, AL, nL, cL, AL', nL', cL', rfl, _, _, _⟩ := hx.get
  replace KP3 := Lib.hid (KP3.out.after hb)
  replace HB := Lib.hid (HB.out.trans (hb.mono HB.out.size))
  have HXL := Lib.hid hx
  clear hx hb
  have zx : w.heap.size + 1 + 1 < w8.heap.size := KP3.out.lt
  have x0 := KP3.out.cell (i := 0) rfl
  have x1 := KP3.out.cell (i := 1) rfl
  have x2 := KP3.out.cell (i := 2) rfl
  have xf := KP3.out.free
  go_wp2_with fail
  refine bodyPost_ret (results_row_tmp (p := 4) (ty := 25) rfl _ _ (w.heap.size + 1 + 1) 25 _ _ _ rfl KP3.out.set.set.set Tryz.underlying25 rfl (by kernel_rfl)) rfl ?_
  obtain ⟨g1, g2, g3⟩ := HXL.out.inv
  exact ⟨_, rfl, Rq.mk g3 rfl rfl (g1.put3 KP3.out (hnoR _ _ _ _ _ _ _)) (g2.put3 KP3.out (hnoR _ _ _ _ _ _ _)), ((HB.out.setCell (by simp; omega) _).setCell (by simp; omega) _).setCell (by simp; omega) _⟩

set_option maxRecDepth 100000 in
set_option maxHeartbeats 8000000 in
theorem refCmpOk {w : World} {i j : Nat} {a b : Rat} {v u : Value} (ha : Rq w a v) (hb : Rq w b u) (sa : Sz i a) (sb : Sz j b) (hij : i + j ≤ 1022) :
    Calls Tryz.prog 25 #[v, u] w fun e w' => e = .returned (.tuple #[.int .i64 (cq a b), .int .i64 0]) ∧ Below w.heap.size w w' := by
  obtain ⟨b1, A1, n1, c1, f1, A1', n1', c1', g1, rfl, hr, h0⟩ := ha.raw (lt_NL sa.1 (by omega)) (lt_NL sa.2 (by omega))
  obtain ⟨b2, A2, n2, c2, f2, A2', n2', c2', g2, rfl, kr, k0⟩ := hb.raw (lt_NL sb.1 (by omega)) (lt_NL sb.2 (by omega))
  have hbb : Below w.heap.size w ((w.alloc (.cells #[.bool b1, .slice A1 n1 c1, .slice A1' n1' c1'] 25)).alloc (.cells #[.bool b2, .slice A2 n2 c2, .slice A2' n2' c2'] 25)) := below2 w _ _
  have k1 := (Blk.new w #[.bool b1, .slice A1 n1 c1, .slice A1' n1' c1'] 25).alloc (.cells #[.bool b2, .slice A2 n2 c2, .slice A2' n2' c2'] 25)
  have k2 := Blk.new (w.alloc (.cells #[.bool b1, .slice A1 n1 c1, .slice A1' n1' c1'] 25)) #[.bool b2, .slice A2 n2 c2, .slice A2' n2' c2'] 25
  simp only [World.size_alloc] at k2
  have c1' := refBoth_any (hr.below hbb) (kr.below hbb)
  rw [chkRR_ok h0 k0] at c1'
  have C1 := Lib.hid c1'
  have HB := Lib.hid hbb
  have KP1 := Lib.hid k1
  have KP2 := Lib.hid k2
  have Ra := Lib.hid (ha.below hbb)
  have Rb := Lib.hid (hb.below hbb)
  have SA := Lib.hid sa
  have SB := Lib.hid sb
  clear ha hb hr kr h0 k0 c1' hbb k1 k2 sa sb
  have d10 := KP1.out.cell (i := 0) rfl
  have d11 := KP1.out.cell (i := 1) rfl
  have d12 := KP1.out.cell (i := 2) rfl
  have d20 := KP2.out.cell (i := 0) rfl
  have d21 := KP2.out.cell (i := 1) rfl
  have d22 := KP2.out.cell (i := 2) rfl
  go_enter Tryz.func25, Tryz.ntmps25
  go_wp2_with fail
  refine (C1.out).mono ?_
  rintro _ w4 ⟨rfl, hb⟩
  clear d10 d11 d12 d20 d21 d22 C1
  replace Ra := Lib.hid (Ra.out.below hb)
  replace Rb := Lib.hid (Rb.out.below hb)
  replace KP1 := Lib.hid (KP1.out.after hb)
  replace KP2 := Lib.hid (KP2.out.after hb)
  replace HB := Lib.hid (HB.out.trans (hb.mono HB.out.size))
  clear hb
  have d10 := KP1.out.cell (i := 0) rfl
  have d11 := KP1.out.cell (i := 1) rfl
  have d12 := KP1.out.cell (i := 2) rfl
  have d20 := KP2.out.cell (i := 0) rfl
  have d21 := KP2.out.cell (i := 1) rfl
  have d22 := KP2.out.cell (i := 2) rfl
  have CQ := Lib.hid (refOrderQ Ra.out Rb.out SA.out SB.out (by omega))
  go_wp2_with fail
  refine (CQ.out).mono ?_
  rintro _ w6 ⟨rfl, hb⟩
  replace HB := Lib.hid (HB.out.trans (hb.mono HB.out.size))
  clear hb
  go_wp2_with fail
  go_ret2
  exact ⟨rfl, HB.out⟩

set_option maxRecDepth 100000 in
set_option maxHeartbeats 8000000 in
theorem refDiv_zero {w : World} {i j : Nat} {a b : Rat} {v u : Value} (ha : Rq w a v) (hb : Rq w b u) (sa : Sz i a) (sb : Sz j b) (hij : i + j ≤ 1022) (h0 : b = 0) :
    Calls Tryz.prog 23 #[v, u] w fun e w' => e = .returned (.tuple #[zeroRat, .int .i64 6]) ∧ Below w.heap.size w w' := by
  obtain ⟨b1, A1, n1, c1, f1, A1', n1', c1', g1, rfl, hr, h0⟩ := ha.raw (lt_NL sa.1 (by omega)) (lt_NL sa.2 (by omega))
  obtain ⟨b2, A2, n2, c2, f2, A2', n2', c2', g2, rfl, kr, k0⟩ := hb.raw (lt_NL sb.1 (by omega)) (lt_NL sb.2 (by omega))
  have hbb : Below w.heap.size w (((w.alloc (.cells #[.bool b1, .slice A1 n1 c1, .slice A1' n1' c1'] 25)).alloc (.cells #[.bool b2, .slice A2 n2 c2, .slice A2' n2' c2'] 25)).alloc (.cells #[.bool false, .slice none 0 0, .slice none 0 0] 25)) := (below2 w _ _).alloc (by simp; omega) _
  have k1 := (Blk.new w #[.bool b1, .slice A1 n1 c1, .slice A1' n1' c1'] 25).alloc (.cells #[.bool b2, .slice A2 n2 c2, .slice A2' n2' c2'] 25)
  have k2 := Blk.new (w.alloc (.cells #[.bool b1, .slice A1 n1 c1, .slice A1' n1' c1'] 25)) #[.bool b2, .slice A2 n2 c2, .slice A2' n2' c2'] 25
  have k3 := Blk.new ((w.alloc (.cells #[.bool b1, .slice A1 n1 c1, .slice A1' n1' c1'] 25)).alloc (.cells #[.bool b2, .slice A2 n2 c2, .slice A2' n2' c2'] 25)) #[.bool false, .slice none 0 0, .slice none 0 0] 25
  replace k1 := k1.alloc (.cells #[.bool false, .slice none 0 0, .slice none 0 0] 25)
  replace k2 := k2.alloc (.cells #[.bool false, .slice none 0 0, .slice none 0 0] 25)
  simp only [World.size_alloc] at k2 k3
  have c1' := refBoth_any (hr.below hbb) (kr.below hbb)
  rw [chkRR_ok h0 k0] at c1'
  have C1 := Lib.hid c1'
  have HB := Lib.hid hbb
  have KP1 := Lib.hid k1
  have KP2 := Lib.hid k2
  have KP3 := Lib.hid k3
  have Ra := Lib.hid (ha.below hbb)
  have Rb := Lib.hid (hb.below hbb)
  have SA := Lib.hid sa
  have SB := Lib.hid sb
  clear ha hb hr kr h0 k0 c1' hbb k1 k2 k3 sa sb
  have d10 := KP1.out.cell (i := 0) rfl
  have d11 := KP1.out.cell (i := 1) rfl
  have d12 := KP1.out.cell (i := 2) rfl
  have d20 := KP2.out.cell (i := 0) rfl
  have d21 := KP2.out.cell (i := 1) rfl
  have d22 := KP2.out.cell (i := 2) rfl
  go_enter Tryz.func23, Tryz.ntmps23
  go_wp2_with fail
  refine (C1.out).mono ?_
  rintro _ w4 ⟨rfl, hb⟩
  clear d10 d11 d12 d20 d21 d22 C1
  replace Ra := Lib.hid (Ra.out.below hb)
  replace Rb := Lib.hid (Rb.out.below hb)
  replace KP1 := Lib.hid (KP1.out.after hb)
  replace KP2 := Lib.hid (KP2.out.after hb)
  replace KP3 := Lib.hid (KP3.out.after hb)
  replace HB := Lib.hid (HB.out.trans (hb.mono HB.out.size))
  clear hb
  have d10 := KP1.out.cell (i := 0) rfl
  have d11 := KP1.out.cell (i := 1) rfl
  have d12 := KP1.out.cell (i := 2) rfl
  have d20 := KP2.out.cell (i := 0) rfl
  have d21 := KP2.out.cell (i := 1) rfl
  have d22 := KP2.out.cell (i := 2) rfl
  have hzb : decide (b.num = 0) = true := decide_eq_true (by rw [h0]; rfl)
  clear h0
  have CZ := refZeroQ Rb.out
  rw [hzb] at CZ
  have CZ' := Lib.hid CZ
  clear CZ hzb
  go_wp2_with fail
  refine (CZ'.out).mono ?_
  rintro _ w5 ⟨rfl, hb⟩
  replace KP3 := Lib.hid (KP3.out.after hb)
  replace HB := Lib.hid (HB.out.trans (hb.mono HB.out.size))
  clear hb d10 d11 d12 d20 d21 d22 CZ'
  have zx : w.heap.size + 1 + 1 < w5.heap.size := KP3.out.lt
  have x0 := KP3.out.cell (i := 0) rfl
  have x1 := KP3.out.cell (i := 1) rfl
  have x2 := KP3.out.cell (i := 2) rfl
  have xf := KP3.out.free
  go_wp2_with fail
  refine bodyPost_ret (results_row_tmp (p := 4) (ty := 25) rfl _ _ (w.heap.size + 1 + 1) 25 _ _ _ rfl KP3.out.set.set.set Tryz.underlying25 rfl (by kernel_rfl)) rfl ?_
  exact ⟨rfl, ((HB.out.setCell (by simp; omega) _).setCell (by simp; omega) _).setCell (by simp; omega) _⟩

set_option maxRecDepth 100000 in
set_option maxHeartbeats 8000000 in
theorem refAdd_bad {w : World} {b1 b2 : Bool} {A1 A2 A3 A4 : Option Addr} {n1 c1 n2 c2 n3 c3 n4 c4 : Nat} {f1 f2 f3 f4 : Nat → Nat} (h : Raw w b1 A1 n1 c1 f1 A2 n2 c2 f2) (k : Raw w b2 A3 n3 c3 f3 A4 n4 c4 f4) (he : chkRR b1 n1 f1 n2 f2 b2 n3 f3 n4 f4 ≠ 0) :
    Calls Tryz.prog 16 #[.agg #[.bool b1, .slice A1 n1 c1, .slice A2 n2 c2], .agg #[.bool b2, .slice A3 n3 c3, .slice A4 n4 c4]] w fun e w' => e = .returned (.tuple #[zeroRat, .int .i64 (chkRR b1 n1 f1 n2 f2 b2 n3 f3 n4 f4)]) ∧ Below w.heap.size w w' := by
  have hb0 : Below w.heap.size w (((w.alloc (.cells #[.bool b1, .slice A1 n1 c1, .slice A2 n2 c2] 25)).alloc (.cells #[.bool b2, .slice A3 n3 c3, .slice A4 n4 c4] 25)).alloc (.cells #[.bool false, .slice none 0 0, .slice none 0 0] 25)) := (below2 w _ _).alloc (by simp; omega) _
  have k4 := Blk.new ((w.alloc (.cells #[.bool b1, .slice A1 n1 c1, .slice A2 n2 c2] 25)).alloc (.cells #[.bool b2, .slice A3 n3 c3, .slice A4 n4 c4] 25)) #[.bool false, .slice none 0 0, .slice none 0 0] 25
  simp only [World.size_alloc] at k4
  have K4 := Lib.hid k4
  have C1 := Lib.hid (refBoth_any (h.below hb0) (k.below hb0))
  have x1 : (chkRR b1 n1 f1 n2 f2 b2 n3 f3 n4 f4 != 0) = true := by rw [bne_iff_ne]; exact he
  have x2 : (chkRR b1 n1 f1 n2 f2 b2 n3 f3 n4 f4 == 0) = false := by rw [beq_eq_false_iff_ne]; exact he
  have HB := Lib.hid hb0
  generalize chkRR b1 n1 f1 n2 f2 b2 n3 f3 n4 f4 = er at *
  clear h k hb0 k4 he
  go_enter Tryz.func16, Tryz.ntmps16
  go_wp2_with fail
  refine C1.out.mono ?_
  rintro _ w1 ⟨rfl, hb⟩
  have k4 := K4.out.after hb
  have d0 := k4.cell (i := 0) rfl
  have d1 := k4.cell (i := 1) rfl
  have d2 := k4.cell (i := 2) rfl
  have ff := k4.free
  have hz : w.heap.size + 1 + 1 < w1.heap.size := k4.lt
  have K5 := Lib.hid k4
  replace HB := Lib.hid (HB.out.trans (hb.mono HB.out.size))
  clear hb k4 K4 C1
  go_wp2_with fail
  refine bodyPost_ret (results_row_tmp (p := 4) (ty := 25) rfl _ _ (w.heap.size + 1 + 1) 25 _ _ _ rfl K5.out.set.set.set Tryz.underlying25 rfl (by kernel_rfl)) rfl ?_
  exact ⟨rfl, ((HB.out.setCell (by simp; omega) _).setCell (by simp; omega) _).setCell (by simp; omega) _⟩

set_option maxRecDepth 100000 in
set_option maxHeartbeats 4000000 in
theorem refSub_bad {w : World} {b1 b2 : Bool} {A1 A2 A3 A4 : Option Addr} {n1 c1 n2 c2 n3 c3 n4 c4 : Nat} {f1 f2 f3 f4 : Nat → Nat} (h : Raw w b1 A1 n1 c1 f1 A2 n2 c2 f2) (k : Raw w b2 A3 n3 c3 f3 A4 n4 c4 f4) (he : chkRR b1 n1 f1 n2 f2 b2 n3 f3 n4 f4 ≠ 0) :
    Calls Tryz.prog 19 #[.agg #[.bool b1, .slice A1 n1 c1, .slice A2 n2 c2], .agg #[.bool b2, .slice A3 n3 c3, .slice A4 n4 c4]] w fun e w' => e = .returned (.tuple #[zeroRat, .int .i64 (chkRR b1 n1 f1 n2 f2 b2 n3 f3 n4 f4)]) ∧ Below w.heap.size w w' := by
  have hb0 : Below w.heap.size w (((w.alloc (.cells #[.bool b1, .slice A1 n1 c1, .slice A2 n2 c2] 25)).alloc (.cells #[.bool b2, .slice A3 n3 c3, .slice A4 n4 c4] 25)).alloc (.cells #[.bool false, .slice none 0 0, .slice none 0 0] 25)) := (below2 w _ _).alloc (by simp; omega) _
  have k4 := Blk.new ((w.alloc (.cells #[.bool b1, .slice A1 n1 c1, .slice A2 n2 c2] 25)).alloc (.cells #[.bool b2, .slice A3 n3 c3, .slice A4 n4 c4] 25)) #[.bool false, .slice none 0 0, .slice none 0 0] 25
  simp only [World.size_alloc] at k4
  have K4 := Lib.hid k4
  have C1 := Lib.hid (refBoth_any (h.below hb0) (k.below hb0))
  have x1 : (chkRR b1 n1 f1 n2 f2 b2 n3 f3 n4 f4 != 0) = true := by rw [bne_iff_ne]; exact he
  have x2 : (chkRR b1 n1 f1 n2 f2 b2 n3 f3 n4 f4 == 0) = false := by rw [beq_eq_false_iff_ne]; exact he
  have HB := Lib.hid hb0
  generalize chkRR b1 n1 f1 n2 f2 b2 n3 f3 n4 f4 = er at *
  clear h k hb0 k4 he
  go_enter Tryz.func19, Tryz.ntmps19
  go_wp2_with fail
  refine C1.out.mono ?_
  rintro _ w1 ⟨rfl, hb⟩
  have k4 := K4.out.after hb
  have d0 := k4.cell (i := 0) rfl
  have d1 := k4.cell (i := 1) rfl
  have d2 := k4.cell (i := 2) rfl
  have ff := k4.free
  have hz : w.heap.size + 1 + 1 < w1.heap.size := k4.lt
  have K5 := Lib.hid k4
  replace HB := Lib.hid (HB.out.trans (hb.mono HB.out.size))
  clear hb k4 K4 C1
  go_wp2_with fail
  refine bodyPost_ret (results_row_tmp (p := 4) (ty := 25) rfl _ _ (w.heap.size + 1 + 1) 25 _ _ _ rfl K5.out.set.set.set Tryz.underlying25 rfl (by kernel_rfl)) rfl ?_
  exact ⟨rfl, ((HB.out.setCell (by simp; omega) _).setCell (by simp; omega) _).setCell (by simp; omega) _⟩

set_option maxRecDepth 100000 in
set_option maxHeartbeats 4000000 in
theorem refMul_bad {w : World} {b1 b2 : Bool} {A1 A2 A3 A4 : Option Addr} {n1 c1 n2 c2 n3 c3 n4 c4 : Nat} {f1 f2 f3 f4 : Nat → Nat} (h : Raw w b1 A1 n1 c1 f1 A2 n2 c2 f2) (k : Raw w b2 A3 n3 c3 f3 A4 n4 c4 f4) (he : chkRR b1 n1 f1 n2 f2 b2 n3 f3 n4 f4 ≠ 0) :
    Calls Tryz.prog 21 #[.agg #[.bool b1, .slice A1 n1 c1, .slice A2 n2 c2], .agg #[.bool b2, .slice A3 n3 c3, .slice A4 n4 c4]] w fun e w' => e = .returned (.tuple #[zeroRat, .int .i64 (chkRR b1 n1 f1 n2 f2 b2 n3 f3 n4 f4)]) ∧ Below w.heap.size w w' := by
  have hb0 : Below w.heap.size w (((w.alloc (.cells #[.bool b1, .slice A1 n1 c1, .slice A2 n2 c2] 25)).alloc (.cells #[.bool b2, .slice A3 n3 c3, .slice A4 n4 c4] 25)).alloc (.cells #[.bool false, .slice none 0 0, .slice none 0 0] 25)) := (below2 w _ _).alloc (by simp; omega) _
  have k4 := Blk.new ((w.alloc (.cells #[.bool b1, .slice A1 n1 c1, .slice A2 n2 c2] 25)).alloc (.cells #[.bool b2, .slice A3 n3 c3, .slice A4 n4 c4] 25)) #[.bool false, .slice none 0 0, .slice none 0 0] 25
  simp only [World.size_alloc] at k4
  have K4 := Lib.hid k4
  have C1 := Lib.hid (refBoth_any (h.below hb0) (k.below hb0))
  have x1 : (chkRR b1 n1 f1 n2 f2 b2 n3 f3 n4 f4 != 0) = true := by rw [bne_iff_ne]; exact he
  have x2 : (chkRR b1 n1 f1 n2 f2 b2 n3 f3 n4 f4 == 0) = false := by rw [beq_eq_false_iff_ne]; exact he
  have HB := Lib.hid hb0
  generalize chkRR b1 n1 f1 n2 f2 b2 n3 f3 n4 f4 = er at *
  clear h k hb0 k4 he
  go_enter Tryz.func21, Tryz.ntmps21
  go_wp2_with fail
  refine C1.out.mono ?_
  rintro _ w1 ⟨rfl, hb⟩
  have k4 := K4.out.after hb
  have d0 := k4.cell (i := 0) rfl
  have d1 := k4.cell (i := 1) rfl
  have d2 := k4.cell (i := 2) rfl
  have ff := k4.free
  have hz : w.heap.size + 1 + 1 < w1.heap.size := k4.lt
  have K5 := Lib.hid k4
  replace HB := Lib.hid (HB.out.trans (hb.mono HB.out.size))
  clear hb k4 K4 C1
  go_wp2_with fail
  refine bodyPost_ret (results_row_tmp (p := 4) (ty := 25) rfl _ _ (w.heap.size + 1 + 1) 25 _ _ _ rfl K5.out.set.set.set Tryz.underlying25 rfl (by kernel_rfl)) rfl ?_
  exact ⟨rfl, ((HB.out.setCell (by simp; omega) _).setCell (by simp; omega) _).setCell (by simp; omega) _⟩

set_option maxRecDepth 100000 in
set_option maxHeartbeats 4000000 in
theorem refDiv_bad {w : World} {b1 b2 : Bool} {A1 A2 A3 A4 : Option Addr} {n1 c1 n2 c2 n3 c3 n4 c4 : Nat} {f1 f2 f3 f4 : Nat → Nat} (h : Raw w b1 A1 n1 c1 f1 A2 n2 c2 f2) (k : Raw w b2 A3 n3 c3 f3 A4 n4 c4 f4) (he : chkRR b1 n1 f1 n2 f2 b2 n3 f3 n4 f4 ≠ 0) :
    Calls Tryz.prog 23 #[.agg #[.bool b1, .slice A1 n1 c1, .slice A2 n2 c2], .agg #[.bool b2, .slice A3 n3 c3, .slice A4 n4 c4]] w fun e w' => e = .returned (.tuple #[zeroRat, .int .i64 (chkRR b1 n1 f1 n2 f2 b2 n3 f3 n4 f4)]) ∧ Below w.heap.size w w' := by
  have hb0 : Below w.heap.size w (((w.alloc (.cells #[.bool b1, .slice A1 n1 c1, .slice A2 n2 c2] 25)).alloc (.cells #[.bool b2, .slice A3 n3 c3, .slice A4 n4 c4] 25)).alloc (.cells #[.bool false, .slice none 0 0, .slice none 0 0] 25)) := (below2 w _ _).alloc (by simp; omega) _
  have k4 := Blk.new ((w.alloc (.cells #[.bool b1, .slice A1 n1 c1, .slice A2 n2 c2] 25)).alloc (.cells #[.bool b2, .slice A3 n3 c3, .slice A4 n4 c4] 25)) #[.bool false, .slice none 0 0, .slice none 0 0] 25
  simp only [World.size_alloc] at k4
  have K4 := Lib.hid k4
  have C1 := Lib.hid (refBoth_any (h.below hb0) (k.below hb0))
  have x1 : (chkRR b1 n1 f1 n2 f2 b2 n3 f3 n4 f4 != 0) = true := by rw [bne_iff_ne]; exact he
  have x2 : (chkRR b1 n1 f1 n2 f2 b2 n3 f3 n4 f4 == 0) = false := by rw [beq_eq_false_iff_ne]; exact he
  have HB := Lib.hid hb0
  generalize chkRR b1 n1 f1 n2 f2 b2 n3 f3 n4 f4 = er at *
  clear h k hb0 k4 he
  go_enter Tryz.func23, Tryz.ntmps23
  go_wp2_with fail
  refine C1.out.mono ?_
  rintro _ w1 ⟨rfl, hb⟩
  have k4 := K4.out.after hb
  have d0 := k4.cell (i := 0) rfl
  have d1 := k4.cell (i := 1) rfl
  have d2 := k4.cell (i := 2) rfl
  have ff := k4.free
  have hz : w.heap.size + 1 + 1 < w1.heap.size := k4.lt
  have K5 := Lib.hid k4
  replace HB := Lib.hid (HB.out.trans (hb.mono HB.out.size))
  clear hb k4 K4 C1
  go_wp2_with fail
  refine bodyPost_ret (results_row_tmp (p := 4) (ty := 25) rfl _ _ (w.heap.size + 1 + 1) 25 _ _ _ rfl K5.out.set.set.set Tryz.underlying25 rfl (by kernel_rfl)) rfl ?_
  exact ⟨rfl, ((HB.out.setCell (by simp; omega) _).setCell (by simp; omega) _).setCell (by simp; omega) _⟩

set_option maxRecDepth 100000 in
set_option maxHeartbeats 8000000 in
theorem refCmp_bad {w : World} {b1 b2 : Bool} {A1 A2 A3 A4 : Option Addr} {n1 c1 n2 c2 n3 c3 n4 c4 : Nat} {f1 f2 f3 f4 : Nat → Nat} (h : Raw w b1 A1 n1 c1 f1 A2 n2 c2 f2) (k : Raw w b2 A3 n3 c3 f3 A4 n4 c4 f4) (he : chkRR b1 n1 f1 n2 f2 b2 n3 f3 n4 f4 ≠ 0) :
    Calls Tryz.prog 25 #[.agg #[.bool b1, .slice A1 n1 c1, .slice A2 n2 c2], .agg #[.bool b2, .slice A3 n3 c3, .slice A4 n4 c4]] w fun e w' => e = .returned (.tuple #[.int .i64 0, .int .i64 (chkRR b1 n1 f1 n2 f2 b2 n3 f3 n4 f4)]) ∧ Below w.heap.size w w' := by
  have hb0 := below2 w (.cells #[.bool b1, .slice A1 n1 c1, .slice A2 n2 c2] 25) (.cells #[.bool b2, .slice A3 n3 c3, .slice A4 n4 c4] 25)
  have C1 := Lib.hid (refBoth_any (h.below hb0) (k.below hb0))
  have x1 : (chkRR b1 n1 f1 n2 f2 b2 n3 f3 n4 f4 != 0) = true := by rw [bne_iff_ne]; exact he
  have x2 : (chkRR b1 n1 f1 n2 f2 b2 n3 f3 n4 f4 == 0) = false := by rw [beq_eq_false_iff_ne]; exact he
  have HB := Lib.hid hb0
  generalize chkRR b1 n1 f1 n2 f2 b2 n3 f3 n4 f4 = er at *
  clear h k hb0 he
  go_enter Tryz.func25, Tryz.ntmps25
  go_wp2_with fail
  refine C1.out.mono ?_
  rintro _ w1 ⟨rfl, hb⟩
  replace HB := Lib.hid (HB.out.trans (hb.mono HB.out.size))
  clear hb C1
  go_wp2_with fail
  go_ret2
  exact ⟨rfl, HB.out⟩

end Go.Proofs.YtmcacofpnnaplaaGreatDoor

/- The contract of the kit's OwnRat. Conditions as premises: the parts read, and are short enough. -/
namespace Go.Proofs.YtmcacofpnnaplaaGreatDoor
open Go.RowKit Go.Shelf
attribute [local go_sem ↓] Go.wp_at_zero Go.wp_at_succ

theorem app_empty_run (ty : TypeId) {w : World} {b : Addr} {A : Option Addr} {n c B : Nat} {f : Nat → Nat} (hr : Rs w B A n c f) (hn : n ≤ 4096) :
    ∃ A' c' w', (Builtin.append_ #[23, 23] ty #[.slice (some b) 0 0, .slice A n c]).run Tryz.prog w = .ok (.slice A' n c') w' ∧ Rs w' w'.heap.size A' n c' f ∧ Below w.heap.size w w' := by
  obtain ⟨i0, hi, hz0, hz1, hz2⟩ := info_parts info32
  rcases Nat.eq_zero_or_pos n with e | e
  · subst e
    refine ⟨some b, 0, w, ?_, Rs.zero _ _ _ _, Below.refl _ _⟩
    rcases A with _ | a0 <;> simp [Builtin.append_, run_underlying Tryz.underlying23, sizeOf, typeInfo, hi, hz1, Builtin.lenOf, Builtin.firstCells, loadCells, loadCellsFrom, storeCells, Sem.run_bind, Sem.run_pure, Result.andThen]
  · obtain ⟨bb, off, rfl, hb, hc⟩ := hr.cell e
    obtain ⟨v', w', hrun, h2, h3⟩ := run_append_arg_grows (P := Tryz.prog) (w := w) 23 ty 48 i0 (.int .u32 0) 1 4 Tryz.underlying23 hi hz0 hz1 hz2 rfl (by decide) b 0 0 [] (by simp) (by simp) ⟨bb, off, none⟩ n c (us f n) (by rw [us_length, Nat.mul_one])
      (fun j u hj => by
        obtain ⟨hjn, rfl⟩ := us_mem hj
        rw [add_addr]; exact hc j hjn) (by omega) (by unfold maxLen; omega) (by omega)
    rw [Nat.zero_add, List.nil_append] at h2
    obtain ⟨A', c', rfl, hr'⟩ := Go.Proofs.YtmcacofpnnaplaaGreatDoor.Own.rs (f := f) h2 hr.bd
    exact ⟨A', c', w', hrun, hr', (Below.refl _ w).grown h3 (Nat.le_refl _) (fun j hj => by cases hj)⟩

/-- a whole list behind an empty one, as one operation -/
theorem wp_append_empty {w : World} {o : Oper} {a : Act} {K : Act → World → Prop} {Q : Exit → Act → World → Prop} (s x : Operand)
    (ho : o.op = .call { callee := .builtin .append, args := #[s, x], argTypes := #[23, 23] }) {A : Option Addr} {b : Addr} {n c B : Nat} {f : Nat → Nat} (hr : Rs w B A n c f) (hn : n ≤ 4096)
    (hs : a.eval s = .slice (some b) 0 0) (hx : a.eval x = .slice A n c)
    (h : ∀ A' c' w', Rs w' w'.heap.size A' n c' f → Below w.heap.size w w' → K (a.put o.dst (.slice A' n c')) w') : o.wp Tryz.prog a w K Q := by
  obtain ⟨A', c', w', hrun, hr', hb⟩ := app_empty_run o.type hr hn
  unfold Oper.wp execOp
  simp only [ho, resolve, invoke, builtin, Sem.run_bind, Sem.run_pure, Result.andThen_ok, List.map_toArray, List.map_cons, List.map_nil, hs, hx]
  rw [hrun]
  exact h A' c' w' hr' hb

theorem Rs.far3 {w w' : World} {g : Nat} {t : TypeId} {cs : Array Value} {A : Option Addr} {n c : Nat} {f : Nat → Nat} (hr : Rs w w.heap.size A n c f) (k : Blk w g t cs) (hno : cs.all notU32 = true) (hw : ∀ p : Addr, p.block ≠ g → w'.cell? p = w.cell? p) (hs : w.heap.size ≤ w'.heap.size) : Rs w' w'.heap.size A n c f := by
  refine ⟨hr.cap, hr.max, hr.bd, fun hn => ?_⟩
  obtain ⟨b, off, e2, hb, hc⟩ := hr.cell hn
  have hbg : b ≠ g := by
    rintro rfl
    have h0 := hc 0 hn
    rw [cell_of_row w b _ _ _ _ k] at h0
    have h1 := Array.all_eq_true'.1 hno _ (Array.mem_of_getElem? h0)
    cases h1
  exact ⟨b, off, e2, by omega, fun j hj => (hw _ hbg).trans (hc j hj)⟩
theorem Rs.put3 {w : World} {g : Nat} {t : TypeId} {cs : Array Value} {A : Option Addr} {n c i j l : Nat} {f : Nat → Nat} {u x y : Value} (hr : Rs w w.heap.size A n c f) (k : Blk w g t cs) (hno : cs.all notU32 = true) :
    Rs (((w.setCell ⟨g, i, none⟩ u).setCell ⟨g, j, none⟩ x).setCell ⟨g, l, none⟩ y) (((w.setCell ⟨g, i, none⟩ u).setCell ⟨g, j, none⟩ x).setCell ⟨g, l, none⟩ y).heap.size A n c f :=
  hr.far3 k hno (fun _ hp => (cell_far _ y hp).trans ((cell_far _ x hp).trans (cell_far w u hp))) (by simp)

set_option maxRecDepth 100000 in
set_option maxHeartbeats 8000000 in
theorem ownRat_any {w : World} {neg : Bool} {A A' : Option Addr} {n c m c' : Nat} {f g : Nat → Nat} (h : Raw w neg A n c f A' m c' g) (hn : n ≤ 4096) (hm : m ≤ 4096) :
    Calls Tryz.prog 14 #[.agg #[.bool neg, .slice A n c, .slice A' m c']] w fun e w' => ∃ B d B' d', e = .returned (.agg #[.bool neg, .slice B n d, .slice B' m d']) ∧ Raw w' neg B n d f B' m d' g ∧ Below w.heap.size w w' := by
  have hbb := below2 w (.cells #[.bool neg, .slice A n c, .slice A' m c'] 25) (.cells #[.bool false, .slice none 0 0, .slice none 0 0] 25)
  have k1 := (Blk.new w #[.bool neg, .slice A n c, .slice A' m c'] 25).alloc (.cells #[.bool false, .slice none 0 0, .slice none 0 0] 25)
  have k2 := Blk.new (w.alloc (.cells #[.bool neg, .slice A n c, .slice A' m c'] 25)) #[.bool false, .slice none 0 0, .slice none 0 0] 25
  simp only [World.size_alloc] at k2
  have HN : Hid (∀ W, (W.cell? ⟨w.heap.size, 0, none⟩ = some (.bool neg) ∧ W.cell? ⟨w.heap.size, 1, none⟩ = some (.slice A n c) ∧ W.cell? ⟨w.heap.size, 2, none⟩ = some (.slice A' m c') ∧ Hid (Blk W (w.heap.size) 25 #[.bool neg, .slice A n c, .slice A' m c'] ∧ (∃ p_ q_ r_, Blk W (w.heap.size + 1) 25 #[p_, q_, r_] ∧ (#[p_, q_, r_] : Array Value).all notU32 = true) ∧ Below w.heap.size w W)) → Rs W W.heap.size A n c f) := Lib.hid fun W hs => (h.num.below hs.2.2.2.out.2.2).more hs.2.2.2.out.2.2.size
  have HM : Hid (∀ W, (W.cell? ⟨w.heap.size, 0, none⟩ = some (.bool neg) ∧ W.cell? ⟨w.heap.size, 1, none⟩ = some (.slice A n c) ∧ W.cell? ⟨w.heap.size, 2, none⟩ = some (.slice A' m c') ∧ Hid (Blk W (w.heap.size) 25 #[.bool neg, .slice A n c, .slice A' m c'] ∧ (∃ p_ q_ r_, Blk W (w.heap.size + 1) 25 #[p_, q_, r_] ∧ (#[p_, q_, r_] : Array Value).all notU32 = true) ∧ Below w.heap.size w W)) → Rs W W.heap.size A' m c' g) := Lib.hid fun W hs => (h.den.below hs.2.2.2.out.2.2).more hs.2.2.2.out.2.2.size
  have NEXT : Hid (∀ W W', (W.cell? ⟨w.heap.size, 0, none⟩ = some (.bool neg) ∧ W.cell? ⟨w.heap.size, 1, none⟩ = some (.slice A n c) ∧ W.cell? ⟨w.heap.size, 2, none⟩ = some (.slice A' m c') ∧ Hid (Blk W (w.heap.size) 25 #[.bool neg, .slice A n c, .slice A' m c'] ∧ (∃ p_ q_ r_, Blk W (w.heap.size + 1) 25 #[p_, q_, r_] ∧ (#[p_, q_, r_] : Array Value).all notU32 = true) ∧ Below w.heap.size w W)) → Below W.heap.size W W' → (W'.cell? ⟨w.heap.size, 0, none⟩ = some (.bool neg) ∧ W'.cell? ⟨w.heap.size, 1, none⟩ = some (.slice A n c) ∧ W'.cell? ⟨w.heap.size, 2, none⟩ = some (.slice A' m c') ∧ Hid (Blk W' (w.heap.size) 25 #[.bool neg, .slice A n c, .slice A' m c'] ∧ (∃ p_ q_ r_, Blk W' (w.heap.size + 1) 25 #[p_, q_, r_] ∧ (#[p_, q_, r_] : Array Value).all notU32 = true) ∧ Below w.heap.size w W'))) := Lib.hid fun W W' h hb => by
    obtain ⟨_, _, _, h4⟩ := h
    obtain ⟨h5, ⟨x, y, z, h6, h60⟩, h7⟩ := h4.out
    have h8 := h5.after hb
    exact ⟨h8.cell rfl, h8.cell rfl, h8.cell rfl, Lib.hid ⟨h8, ⟨x, y, z, h6.after hb, h60⟩, h7.trans (hb.mono h7.size)⟩⟩
  have ALL : Hid (∀ W o, (W.cell? ⟨w.heap.size, 0, none⟩ = some (.bool neg) ∧ W.cell? ⟨w.heap.size, 1, none⟩ = some (.slice A n c) ∧ W.cell? ⟨w.heap.size, 2, none⟩ = some (.slice A' m c') ∧ Hid (Blk W (w.heap.size) 25 #[.bool neg, .slice A n c, .slice A' m c'] ∧ (∃ p_ q_ r_, Blk W (w.heap.size + 1) 25 #[p_, q_, r_] ∧ (#[p_, q_, r_] : Array Value).all notU32 = true) ∧ Below w.heap.size w W)) → ((W.alloc o).cell? ⟨w.heap.size, 0, none⟩ = some (.bool neg) ∧ (W.alloc o).cell? ⟨w.heap.size, 1, none⟩ = some (.slice A n c) ∧ (W.alloc o).cell? ⟨w.heap.size, 2, none⟩ = some (.slice A' m c') ∧ Hid (Blk (W.alloc o) (w.heap.size) 25 #[.bool neg, .slice A n c, .slice A' m c'] ∧ (∃ p_ q_ r_, Blk (W.alloc o) (w.heap.size + 1) 25 #[p_, q_, r_] ∧ (#[p_, q_, r_] : Array Value).all notU32 = true) ∧ Below w.heap.size w (W.alloc o)))) := Lib.hid fun W o h => NEXT.out W _ h (below1 W o)
  have STO : Hid (∀ W s B1 k1 e1 B2 k2 e2, (W.cell? ⟨w.heap.size, 0, none⟩ = some (.bool neg) ∧ W.cell? ⟨w.heap.size, 1, none⟩ = some (.slice A n c) ∧ W.cell? ⟨w.heap.size, 2, none⟩ = some (.slice A' m c') ∧ Hid (Blk W (w.heap.size) 25 #[.bool neg, .slice A n c, .slice A' m c'] ∧ (∃ p_ q_ r_, Blk W (w.heap.size + 1) 25 #[p_, q_, r_] ∧ (#[p_, q_, r_] : Array Value).all notU32 = true) ∧ Below w.heap.size w W)) → ((((W.setCell ⟨w.heap.size + 1, 0, none⟩ (.bool s)).setCell ⟨w.heap.size + 1, 1, none⟩ (.slice B1 k1 e1)).setCell ⟨w.heap.size + 1, 2, none⟩ (.slice B2 k2 e2)).cell? ⟨w.heap.size, 0, none⟩ = some (.bool neg) ∧ (((W.setCell ⟨w.heap.size + 1, 0, none⟩ (.bool s)).setCell ⟨w.heap.size + 1, 1, none⟩ (.slice B1 k1 e1)).setCell ⟨w.heap.size + 1, 2, none⟩ (.slice B2 k2 e2)).cell? ⟨w.heap.size, 1, none⟩ = some (.slice A n c) ∧ (((W.setCell ⟨w.heap.size + 1, 0, none⟩ (.bool s)).setCell ⟨w.heap.size + 1, 1, none⟩ (.slice B1 k1 e1)).setCell ⟨w.heap.size + 1, 2, none⟩ (.slice B2 k2 e2)).cell? ⟨w.heap.size, 2, none⟩ = some (.slice A' m c') ∧ Hid (Blk (((W.setCell ⟨w.heap.size + 1, 0, none⟩ (.bool s)).setCell ⟨w.heap.size + 1, 1, none⟩ (.slice B1 k1 e1)).setCell ⟨w.heap.size + 1, 2, none⟩ (.slice B2 k2 e2)) (w.heap.size) 25 #[.bool neg, .slice A n c, .slice A' m c'] ∧ (∃ p_ q_ r_, Blk (((W.setCell ⟨w.heap.size + 1, 0, none⟩ (.bool s)).setCell ⟨w.heap.size + 1, 1, none⟩ (.slice B1 k1 e1)).setCell ⟨w.heap.size + 1, 2, none⟩ (.slice B2 k2 e2)) (w.heap.size + 1) 25 #[p_, q_, r_] ∧ (#[p_, q_, r_] : Array Value).all notU32 = true) ∧ Below w.heap.size w (((W.setCell ⟨w.heap.size + 1, 0, none⟩ (.bool s)).setCell ⟨w.heap.size + 1, 1, none⟩ (.slice B1 k1 e1)).setCell ⟨w.heap.size + 1, 2, none⟩ (.slice B2 k2 e2))))) := Lib.hid fun W s B1 k1 e1 B2 k2 e2 h => by
    obtain ⟨_, _, _, h4⟩ := h
    obtain ⟨h5, ⟨x0, y0, z0, h6, h60⟩, h7⟩ := h4.out
    have h8 := ((h5.other (i := 0) (u := .bool s) (show w.heap.size ≠ w.heap.size + 1 by omega)).other (i := 1) (u := .slice B1 k1 e1) (show w.heap.size ≠ w.heap.size + 1 by omega)).other (i := 2) (u := .slice B2 k2 e2) (show w.heap.size ≠ w.heap.size + 1 by omega)
    exact ⟨h8.cell rfl, h8.cell rfl, h8.cell rfl, Lib.hid ⟨h8, ⟨.bool s, .slice B1 k1 e1, .slice B2 k2 e2, h6.set.set.set, hnoR _ _ _ _ _ _ _⟩, ((h7.setCell (by simp) _).setCell (by simp) _).setCell (by simp) _⟩⟩
  have base0 : ((w.alloc (.cells #[.bool neg, .slice A n c, .slice A' m c'] 25)).alloc (.cells #[.bool false, .slice none 0 0, .slice none 0 0] 25)).cell? ⟨w.heap.size, 0, none⟩ = some (.bool neg) ∧ ((w.alloc (.cells #[.bool neg, .slice A n c, .slice A' m c'] 25)).alloc (.cells #[.bool false, .slice none 0 0, .slice none 0 0] 25)).cell? ⟨w.heap.size, 1, none⟩ = some (.slice A n c) ∧ ((w.alloc (.cells #[.bool neg, .slice A n c, .slice A' m c'] 25)).alloc (.cells #[.bool false, .slice none 0 0, .slice none 0 0] 25)).cell? ⟨w.heap.size, 2, none⟩ = some (.slice A' m c') ∧ Hid (Blk ((w.alloc (.cells #[.bool neg, .slice A n c, .slice A' m c'] 25)).alloc (.cells #[.bool false, .slice none 0 0, .slice none 0 0] 25)) (w.heap.size) 25 #[.bool neg, .slice A n c, .slice A' m c'] ∧ (∃ p_ q_ r_, Blk ((w.alloc (.cells #[.bool neg, .slice A n c, .slice A' m c'] 25)).alloc (.cells #[.bool false, .slice none 0 0, .slice none 0 0] 25)) (w.heap.size + 1) 25 #[p_, q_, r_] ∧ (#[p_, q_, r_] : Array Value).all notU32 = true) ∧ Below w.heap.size w ((w.alloc (.cells #[.bool neg, .slice A n c, .slice A' m c'] 25)).alloc (.cells #[.bool false, .slice none 0 0, .slice none 0 0] 25))) := ⟨k1.cell rfl, k1.cell rfl, k1.cell rfl, Lib.hid ⟨k1, ⟨_, _, _, k2, hnoR _ _ _ _ _ _ _⟩, hbb⟩⟩
  clear h hbb k1 k2
  go_enter Tryz.func14, Tryz.ntmps14
  go_upto_region 1 with fail
  generalize ((w.alloc (.cells #[.bool neg, .slice A n c, .slice A' m c'] 25)).alloc (.cells #[.bool false, .slice none 0 0, .slice none 0 0] 25)) = wb at *
  have hdrew : wb.drew.cell? ⟨w.heap.size, 0, none⟩ = some (.bool neg) ∧ wb.drew.cell? ⟨w.heap.size, 1, none⟩ = some (.slice A n c) ∧ wb.drew.cell? ⟨w.heap.size, 2, none⟩ = some (.slice A' m c') ∧ Hid (Blk wb.drew (w.heap.size) 25 #[.bool neg, .slice A n c, .slice A' m c'] ∧ (∃ p_ q_ r_, Blk wb.drew (w.heap.size + 1) 25 #[p_, q_, r_] ∧ (#[p_, q_, r_] : Array Value).all notU32 = true) ∧ Below w.heap.size w wb.drew) := NEXT.out _ _ base0 (Below.refl _ _).drew
  have ALD : Hid (∀ o, ((wb.alloc o).drew.cell? ⟨w.heap.size, 0, none⟩ = some (.bool neg) ∧ (wb.alloc o).drew.cell? ⟨w.heap.size, 1, none⟩ = some (.slice A n c) ∧ (wb.alloc o).drew.cell? ⟨w.heap.size, 2, none⟩ = some (.slice A' m c') ∧ Hid (Blk (wb.alloc o).drew (w.heap.size) 25 #[.bool neg, .slice A n c, .slice A' m c'] ∧ (∃ p_ q_ r_, Blk (wb.alloc o).drew (w.heap.size + 1) 25 #[p_, q_, r_] ∧ (#[p_, q_, r_] : Array Value).all notU32 = true) ∧ Below w.heap.size w (wb.alloc o).drew))) := Lib.hid fun o => NEXT.out _ _ (ALL.out _ o base0) (Below.refl _ _).drew
  have ALD2 : Hid (∀ o p, (((wb.alloc o).alloc p).drew.cell? ⟨w.heap.size, 0, none⟩ = some (.bool neg) ∧ ((wb.alloc o).alloc p).drew.cell? ⟨w.heap.size, 1, none⟩ = some (.slice A n c) ∧ ((wb.alloc o).alloc p).drew.cell? ⟨w.heap.size, 2, none⟩ = some (.slice A' m c') ∧ Hid (Blk ((wb.alloc o).alloc p).drew (w.heap.size) 25 #[.bool neg, .slice A n c, .slice A' m c'] ∧ (∃ p_ q_ r_, Blk ((wb.alloc o).alloc p).drew (w.heap.size + 1) 25 #[p_, q_, r_] ∧ (#[p_, q_, r_] : Array Value).all notU32 = true) ∧ Below w.heap.size w ((wb.alloc o).alloc p).drew))) := Lib.hid fun o p => NEXT.out _ _ (ALL.out _ p (ALL.out _ o base0)) (Below.refl _ _).drew
  clear base0
  go_region_held3 (fun W => W.cell? ⟨w.heap.size, 0, none⟩ = some (.bool neg) ∧ W.cell? ⟨w.heap.size, 1, none⟩ = some (.slice A n c) ∧ W.cell? ⟨w.heap.size, 2, none⟩ = some (.slice A' m c') ∧ Hid (Blk W (w.heap.size) 25 #[.bool neg, .slice A n c, .slice A' m c'] ∧ (∃ p_ q_ r_, Blk W (w.heap.size + 1) 25 #[p_, q_, r_] ∧ (#[p_, q_, r_] : Array Value).all notU32 = true) ∧ Below w.heap.size w W))
    (first | with_reducible assumption | with_reducible exact ALD.out _ | with_reducible exact ALD2.out _ _ | with_reducible exact ALL.out _ _ (by first | with_reducible assumption | with_reducible exact ALD.out _) | with_reducible exact STO.out _ _ _ _ _ _ _ _ hS6)
    (first
      | (refine ite_true_of (by kernel_rfl) ?_; refine wp_append_empty (.tmp 5) (.tmp 7) rfl (HN.out _ (by first | with_reducible assumption | with_reducible exact ALD.out _ | with_reducible exact ALD2.out _ _)) hn (by rfl) (by rfl) ?_; intro A5 c5 w5 hr5 hb5; have hS5 := NEXT.out _ _ (by first | with_reducible assumption | with_reducible exact ALD.out _ | with_reducible exact ALD2.out _ _) hb5; have HR5 := Lib.hid hr5; clear hr5)
      | (refine ite_true_of (by kernel_rfl) ?_; refine wp_append_empty (.tmp 9) (.tmp 11) rfl (HM.out _ (by first | with_reducible assumption | with_reducible exact ALD.out _ | with_reducible exact ALD2.out _ _)) hm (by rfl) (by rfl) ?_; intro A6 c6 w6 hr6 hb6; have hS6 := NEXT.out _ _ (by first | with_reducible assumption | with_reducible exact ALD.out _ | with_reducible exact ALD2.out _ _) hb6; have HR6 := Lib.hid hr6; clear hr6; obtain ⟨hq5, ⟨x_, y_, z_, hq6, hq8⟩, hq7⟩ := hS6.2.2.2.out; have d0 := hq6.cell (i := 0) rfl; have d1 := hq6.cell (i := 1) rfl; have d2 := hq6.cell (i := 2) rfl; have ff := hq6.free; have HQ6 := Lib.hid hq6; have HQ7 := Lib.hid hq7; have HQ8 := Lib.hid hq8; clear hq5 hq6 hq7 hq8))
  all_goals
    have hr5 := HR5.out
    first
      | replace hr5 := (hr5.below hb6).more hb6.size
      | replace hr5 := ((((hr5.below (below1 w5 (.cells #[] 48))).more (below1 w5 (.cells #[] 48)).size).below hb6).more hb6.size)
    have H5 := Lib.hid hr5
    have sz6 := HQ7.out.size
    clear hr5
    go_wp2_with fail
    refine bodyPost_ret (results_cell_row (p := 2) (ty := 25) rfl _ _ (w.heap.size + 1) 25 _ _ _ rfl HQ6.out.set.set.set Tryz.underlying25 rfl (by kernel_rfl)) rfl ?_
    refine ⟨_, _, _, _, rfl, ⟨?_, ?_⟩, ((HQ7.out.setCell (by simp) _).setCell (by simp) _).setCell (by simp) _⟩
    · exact H5.out.put3 HQ6.out HQ8.out
    · exact HR6.out.put3 HQ6.out HQ8.out
end Go.Proofs.YtmcacofpnnaplaaGreatDoor

/- What the program and the reference make of any two numbers, valid or not. Conditions as premises: the numbers read, and are short or too long to be valid. -/
namespace Go.Proofs.YtmcacofpnnaplaaGreatDoor
open Go.RowKit Go.Shelf
attribute [local go_sem ↓] Go.wp_at_zero Go.wp_at_succ


/-- a number that the laws leave out for its length -/
def Lg (n m : Nat) : Prop := (30 < n ∧ n ≤ 1024) ∨ (30 < m ∧ m ≤ 1024) ∨ 1100 < n ∨ 1100 < m
def lgB (n m : Nat) : Bool := (decide (30 < n) && decide (n ≤ 1024)) || ((decide (30 < m) && decide (m ≤ 1024)) || (decide (1100 < n) || decide (1100 < m)))
theorem lgB_iff (n m : Nat) : lgB n m = true ↔ Lg n m := by
  unfold lgB Lg
  simp only [Bool.or_eq_true, Bool.and_eq_true, decide_eq_true_eq]
theorem lgB_no {n m : Nat} (h : ¬ Lg n m) : lgB n m = false := by
  cases e : lgB n m
  · rfl
  · exact absurd ((lgB_iff n m).1 e) h
theorem lgB_of {n m : Nat} {b : Bool} (h : b = true ↔ Lg n m) : b = lgB n m := by
  rw [Bool.eq_iff_iff, h, lgB_iff]
theorem long_cls (n : Nat) : ((n : Int) ≤ 30 ∧ n ≤ 30) ∨ ((30 : Int) < n ∧ (n : Int) ≤ 1024 ∧ 30 < n ∧ n ≤ 1024) ∨ ((1024 : Int) < n ∧ (n : Int) ≤ 1100 ∧ 1024 < n ∧ n ≤ 1100) ∨ ((1100 : Int) < n ∧ 1100 < n) := by omega
theorem ret_boolE {a b : Bool} (h : a = b) : Ending.returned (.bool a) = Ending.returned (.bool b) := by rw [h]

set_option maxRecDepth 100000 in
set_option maxHeartbeats 8000000 in
theorem longR_any {w : World} (neg : Bool) (A A' : Option Addr) (n c m c' : Nat) :
    Calls Tryz.prog 12 #[.agg #[.bool neg, .slice A n c, .slice A' m c']] w fun e w' => e = .returned (.bool (lgB n m)) ∧ Below w.heap.size w w' := by
  have hb0 := below1 w (.cells #[.bool neg, .slice A n c, .slice A' m c'] 25)
  have KP1 := Blk.new w #[.bool neg, .slice A n c, .slice A' m c'] 25
  have d1 := KP1.cell (i := 1) rfl
  have d2 := KP1.cell (i := 2) rfl
  have HB := Lib.hid hb0
  clear hb0 KP1
  rcases long_cls n with ⟨h1, k1⟩ | ⟨h1, h2, k1, k2⟩ | ⟨h1, h2, k1, k2⟩ | ⟨h1, k1⟩
  all_goals
    rcases long_cls m with ⟨h3, k3⟩ | ⟨h3, h4, k3, k4⟩ | ⟨h3, h4, k3, k4⟩ | ⟨h3, k3⟩
    all_goals
      have HL : Hid (Lg n m ↔ (30 < n ∧ n ≤ 1024) ∨ (30 < m ∧ m ≤ 1024) ∨ 1100 < n ∨ 1100 < m) := Lib.hid Iff.rfl
      generalize hLB : lgB n m = LB0 at *
      have HLB := Lib.hid hLB
      clear hLB
      go_enter Tryz.func12, Tryz.ntmps12
      go_wp2_with fail
      go_ret
      refine ⟨ret_boolE ?_, HB.out⟩
      rw [← HLB.out]
      refine lgB_of ?_
      rw [HL.out]
      simp
      try omega

end Go.Proofs.YtmcacofpnnaplaaGreatDoor

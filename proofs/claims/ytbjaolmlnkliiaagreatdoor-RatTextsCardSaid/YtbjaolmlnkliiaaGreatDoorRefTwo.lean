/- The contracts of the functions under the laws of package rat: RefF, RefG, RefH, RefI, OwnA, SumA, SumB, joined into one file. -/
import Derived.Test.YtbjaolmlnkliiaaGreatDoorRefOne
import Derived.Deep.RegionHeld3
import Derived.Deep.DrawnRows
import Derived.Deep.DeepCutAuto
import Derived.Test.YtbjaolmlnkliiaaGreatDoorRatFour
/- The contracts of the reference's functions on rational numbers. Conditions as premises: the numbers read, and are short enough. -/
namespace Go.Proofs.YtbjaolmlnkliiaaGreatDoor
open Go.RowKit Go.Shelf
attribute [local go_sem ↓] Go.wp_at_zero Go.wp_at_succ


theorem refMinusW {w : World} {a : Rat} {v : Value} (ha : Rq w a v) :
    Calls Tryz.prog 72 #[v] w fun e w' => ∃ x, e = .returned x ∧ Rq w' (-a) x ∧ Below w.heap.size w w' := by
  refine (refMinusQ ha).mono ?_
  rintro _ w' ⟨x, rfl, h, hb⟩
  exact ⟨x, rfl, h w' (ha.below hb), hb⟩
theorem Blk.rowF {w : World} {g : Nat} {t : TypeId} {a b c : Value} (h : Blk w g t #[a, b, c]) (u v x : Value) : Blk (((w.setCell ⟨g, 0, none⟩ u).setCell ⟨g, 1, none⟩ v).setCell ⟨g, 2, none⟩ x) g t #[u, v, x] := h.set.set.set
theorem Rq.len0 {w : World} {b : Rat} {s : Bool} {A A' : Option Addr} {n c n' c' : Nat} (h : Rq w b (.agg #[.bool s, .slice A n c, .slice A' n' c'])) : (n = 0 ↔ b.num = 0) ∧ Hid (s = decide (b.num < 0)) := by
  obtain ⟨h1, _, h3⟩ := h.inv
  obtain ⟨_, _, _, e, h2⟩ := h1.len
  cases e
  exact ⟨by rw [h2, Int.natAbs_eq_zero], h3⟩

end Go.Proofs.YtbjaolmlnkliiaaGreatDoor

/- The contracts of the reference's functions on rational numbers. Conditions as premises: the numbers read, and are short enough. -/
namespace Go.Proofs.YtbjaolmlnkliiaaGreatDoor
open Go.RowKit Go.Shelf
attribute [local go_sem ↓] Go.wp_at_zero Go.wp_at_succ


theorem add1_lt {x e : Nat} (h : x < LB ^ e) : x + 1 < LB ^ (e + 1) := by
  have h1 : 1 ≤ LB ^ e := Nat.one_le_of_lt h
  have h2 : LB ^ e * 2 ≤ LB ^ e * LB := Nat.mul_le_mul_left _ (by rw [LB_eq]; omega)
  rw [Nat.pow_succ]; omega

set_option maxRecDepth 100000 in
set_option maxHeartbeats 8000000 in
theorem refFitsQ {w : World} {i : Nat} {a : Rat} {v : Value} (ha : Rq w a v) (sa : Sz i a) (hi : i ≤ 1024) :
    Calls Tryz.prog 115 #[v] w fun e w' => ∃ t, e = .returned (.tuple #[t, .int .i64 0]) ∧ Rq w' a t ∧ Below w.heap.size w w' := by
  obtain ⟨b1, A1, n1, c1, A1', n1', c1', rfl, h1, h2, e1⟩ := ha.get
  have hbb := below2 w (.cells #[.bool b1, .slice A1 n1 c1, .slice A1' n1' c1'] 25) (.cells #[.bool false, .slice none 0 0, .slice none 0 0] 25)
  have k1 := (Blk.new w #[.bool b1, .slice A1 n1 c1, .slice A1' n1' c1'] 25).alloc (.cells #[.bool false, .slice none 0 0, .slice none 0 0] 25)
  have k2 := Blk.new (w.alloc (.cells #[.bool b1, .slice A1 n1 c1, .slice A1' n1' c1'] 25)) #[.bool false, .slice none 0 0, .slice none 0 0] 25
  simp only [World.size_alloc] at k2
  have HB := Lib.hid hbb
  have KP1 := Lib.hid k1
  have KP2 := Lib.hid k2
  have H1 := Lib.hid (h1.below hbb)
  have H2 := Lib.hid (h2.below hbb)
  have HR := Lib.hid (ha.below hbb)
  have L : Hid (a.num.natAbs < LB ^ i ∧ a.den < LB ^ i ∧ i ≤ 1024) := Lib.hid ⟨sa.1, sa.2, hi⟩
  clear ha h1 h2 k1 k2 hbb hi sa
  have C1 := Lib.hid (refFitsN H1.out (lt_NL L.out.1 L.out.2.2))
  clear HR H1
  go_enter Tryz.func115, Tryz.ntmps115
  go_wp2_with fail
  refine (C1.out).mono ?_
  rintro _ w3 ⟨x, rfl, hx, hb⟩
  obtain ⟨A3, n3, c3, rfl⟩ := hx.shape
  replace H2 := Lib.hid (H2.out.below hb)
  replace KP1 := Lib.hid (KP1.out.after hb)
  replace KP2 := Lib.hid (KP2.out.after hb)
  replace HB := Lib.hid (HB.out.trans (hb.mono HB.out.size))
  have Q := Lib.hid hx
  have C2 := Lib.hid (refFitsN H2.out (lt_NL L.out.2.1 L.out.2.2))
  clear hx hb C1
  have d0 := KP1.out.cell (i := 0) rfl
  have d1 := KP1.out.cell (i := 1) rfl
  have d2 := KP1.out.cell (i := 2) rfl
  go_wp2_with fail
  refine (C2.out).mono ?_
  rintro _ w4 ⟨x, rfl, hx, hb⟩
  obtain ⟨A4, n4, c4, rfl⟩ := hx.shape
  replace Q := Lib.hid (Q.out.below hb)
  replace KP1 := Lib.hid (KP1.out.after hb)
  replace KP2 := Lib.hid (KP2.out.after hb)
  replace HB := Lib.hid (HB.out.trans (hb.mono HB.out.size))
  have P := Lib.hid hx
  clear hx hb C2 d0 d1 d2
  have d0 := KP1.out.cell (i := 0) rfl
  have d1 := KP1.out.cell (i := 1) rfl
  have d2 := KP1.out.cell (i := 2) rfl
  have zx : w.heap.size + 1 < w4.heap.size := KP2.out.lt
  have x0 := KP2.out.cell (i := 0) rfl
  have x1 := KP2.out.cell (i := 1) rfl
  have x2 := KP2.out.cell (i := 2) rfl
  have xf := KP2.out.free
  go_wp2_with fail
  refine bodyPost_ret (results_row_tmp (p := 2) (ty := 25) rfl _ _ (w.heap.size + 1) 25 _ _ _ rfl KP2.out.set.set.set Tryz.underlying25 rfl (by kernel_rfl)) rfl ?_
  exact ⟨_, rfl, Rq.mk e1.out rfl rfl (Q.out.put3 KP2.out (hnoR _ _ _ _ _ _ _)) (P.out.put3 KP2.out (hnoR _ _ _ _ _ _ _)), ((HB.out.setCell (by simp) _).setCell (by simp) _).setCell (by simp) _⟩

end Go.Proofs.YtbjaolmlnkliiaaGreatDoor

/- The contracts of the reference's functions on rational numbers. Conditions as premises: the numbers read, and are short enough. -/
namespace Go.Proofs.YtbjaolmlnkliiaaGreatDoor
open Go.RowKit Go.Shelf
attribute [local go_sem ↓] Go.wp_at_zero Go.wp_at_succ


/-- the error of two parts of a number -/
noncomputable def chkP (n : Nat) (f : Nat → Nat) (m : Nat) (g : Nat → Nat) : Int := if chk n f = 0 then (if chk m g = 0 then (if m = 0 then 6 else 0) else chk m g) else chk n f
theorem chkP_ne {neg : Bool} {n m : Nat} {f g : Nat → Nat} (h : chkP n f m g ≠ 0) : chkR neg n f m g = chkP n f m g := by
  unfold chkP at h ⊢; unfold chkR
  split
  · split
    · split
      · rfl
      · rename_i a b c; rw [if_pos a, if_pos b, if_neg c] at h; exact absurd rfl h
    · rfl
  · rfl
theorem chkP_eq {neg : Bool} {n m : Nat} {f g : Nat → Nat} (h : chkP n f m g = 0) : chk n f = 0 ∧ chk m g = 0 ∧ m ≠ 0 ∧ chkR neg n f m g = if (neg = true ∧ n = 0) ∨ Nat.gcd (nv f n) (nv g m) ≠ 1 then 3 else 0 := by
  unfold chkP at h
  split at h
  · split at h
    · split at h
      · cases h
      · rename_i a b c; refine ⟨a, b, c, ?_⟩; unfold chkR; rw [if_pos a, if_pos b, if_neg c]
    · rename_i b; exact absurd h b
  · rename_i b; exact absurd h b

set_option maxRecDepth 100000 in
set_option maxHeartbeats 8000000 in
theorem refParts_any {w : World} {A A' : Option Addr} {n c m c' : Nat} {f g : Nat → Nat} (hA : Rs w w.heap.size A n c f) (hB : Rs w w.heap.size A' m c' g) :
    Calls Tryz.prog 152 #[.slice A n c, .slice A' m c'] w fun e w' => e = .returned (.int .i64 (chkP n f m g)) ∧ w = w' := by
  have c1 := refCheck_any A n c f _ _ hA
  have c2 := refCheck_any A' m c' g _ _ hB
  unfold chkP
  by_cases h1 : chk n f = 0
  · rw [if_pos h1]
    rw [h1] at c1
    by_cases h2 : chk m g = 0
    · rw [if_pos h2]
      rw [h2] at c2
      by_cases h3 : m = 0
      · rw [if_pos h3]
        subst h3
        clear h1 h2 hA hB
        go_enter Tryz.func152, Tryz.ntmps152
        go_wp2_with fail
        refine c1.mono ?_
        rintro _ _ ⟨rfl, rfl⟩
        go_wp2_with fail
        refine c2.mono ?_
        rintro _ _ ⟨rfl, rfl⟩
        go_wp2_with fail
        go_ret
        exact ⟨rfl, rfl⟩
      · rw [if_neg h3]
        have hz : ((m : Int) == 0) = false := by rw [beq_eq_false_iff_ne]; omega
        clear h1 h2 h3 hA hB
        go_enter Tryz.func152, Tryz.ntmps152
        go_wp2_with fail
        refine c1.mono ?_
        rintro _ _ ⟨rfl, rfl⟩
        go_wp2_with fail
        refine c2.mono ?_
        rintro _ _ ⟨rfl, rfl⟩
        go_wp2_with fail
        go_ret
        exact ⟨rfl, rfl⟩
    · rw [if_neg h2]
      have x1 : (chk m g != 0) = true := by rw [bne_iff_ne]; exact h2
      generalize chk m g = er at *
      clear h1 h2 hA hB
      go_enter Tryz.func152, Tryz.ntmps152
      go_wp2_with fail
      refine c1.mono ?_
      rintro _ _ ⟨rfl, rfl⟩
      go_wp2_with fail
      refine c2.mono ?_
      rintro _ _ ⟨rfl, rfl⟩
      go_wp2_with fail
      go_ret
      exact ⟨rfl, rfl⟩
  · rw [if_neg h1]
    have x1 : (chk n f != 0) = true := by rw [bne_iff_ne]; exact h1
    generalize chk n f = er at *
    clear h1 hA hB c2
    go_enter Tryz.func152, Tryz.ntmps152
    go_wp2_with fail
    refine c1.mono ?_
    rintro _ _ ⟨rfl, rfl⟩
    go_wp2_with fail
    go_ret
    exact ⟨rfl, rfl⟩

set_option maxRecDepth 100000 in
set_option maxHeartbeats 8000000 in
theorem refRatCheck_any {w : World} {neg : Bool} {A A' : Option Addr} {n c m c' : Nat} {f g : Nat → Nat} (h : Raw w neg A n c f A' m c' g) :
    Calls Tryz.prog 78 #[.agg #[.bool neg, .slice A n c, .slice A' m c']] w fun e w' => e = .returned (.int .i64 (chkR neg n f m g)) ∧ Below w.heap.size w w' := by
  have hb0 := below1 w (.cells #[.bool neg, .slice A n c, .slice A' m c'] 25)
  have h1 := h.below hb0
  have C0 := Lib.hid (refParts_any h1.num h1.den)
  have KP1 := Lib.hid (Blk.new w #[.bool neg, .slice A n c, .slice A' m c'] 25)
  have HB := Lib.hid hb0
  by_cases hP : chkP n f m g = 0
  · obtain ⟨e1, e2, e3, e4⟩ := chkP_eq (neg := neg) hP
    rw [e4]
    rw [hP] at C0
    obtain ⟨hn, vf⟩ := chk_zero e1
    obtain ⟨hm, vg⟩ := chk_zero e2
    have lN : nv f n < LB ^ NL := Nat.lt_of_lt_of_le vf.lt (pow_le_of (by rw [NL_eq]; exact hn))
    have lD : nv g m < LB ^ NL := Nat.lt_of_lt_of_le vg.lt (pow_le_of (by rw [NL_eq]; exact hm))
    have C1 : Hid (∀ W, Below (w.alloc (.cells #[.bool neg, .slice A n c, .slice A' m c'] 25)).heap.size (w.alloc (.cells #[.bool neg, .slice A n c, .slice A' m c'] 25)) W → _) := Lib.hid fun W (hw : Below (w.alloc (.cells #[.bool neg, .slice A n c, .slice A' m c'] 25)).heap.size (w.alloc (.cells #[.bool neg, .slice A n c, .slice A' m c'] 25)) W) => refCommonN (w := W) (Nr.below (v := .slice A n c) ⟨_, _, _, _, rfl, h1.num, ⟨vf, rfl⟩⟩ hw) (Nr.below (v := .slice A' m c') ⟨_, _, _, _, rfl, h1.den, ⟨vg, rfl⟩⟩ hw) lN lD
    clear h h1 hb0 hP e1 e2 e3 e4 hn hm vf vg lN lD
    obtain ⟨G, hG0⟩ : ∃ G, Nat.gcd (nv f n) (nv g m) = G := ⟨_, rfl⟩
    simp only [hG0] at C1 ⊢
    clear hG0
    obtain ⟨ER, hER⟩ : ∃ E : Int, (if (neg = true ∧ n = 0) ∨ G ≠ 1 then 3 else 0) = E := ⟨_, rfl⟩
    rw [hER]
    have HER := Lib.hid hER
    clear hER
    go_enter Tryz.func78, Tryz.ntmps78
    go_wp2_with fail
    refine C0.out.mono ?_
    rintro _ _ ⟨rfl, rfl⟩
    go_wp2_with fail
    refine (C1.out _ (Below.refl _ _)).mono ?_
    rintro _ w1 ⟨x, rfl, hx, hb1⟩
    obtain ⟨A3, n3, c3, f3, rfl, hr3, hd3⟩ := hx
    replace HB := Lib.hid (HB.out.trans (hb1.mono HB.out.size))
    replace KP1 := Lib.hid (KP1.out.after hb1)
    have d0 := KP1.out.cell (i := 0) rfl
    have d1 := KP1.out.cell (i := 1) rfl
    have d2 := KP1.out.cell (i := 2) rfl
    by_cases hn3 : n3 = 1
    · subst hn3
      have C2 := Lib.hid (C1.out w1 hb1)
      have D3 := Lib.hid hd3
      clear hr3 hd3 C1 C0 hb1
      go_wp2_with fail
      refine C2.out.mono ?_
      rintro _ w2 ⟨x, rfl, hx, hb2⟩
      obtain ⟨A4, n4, c4, f4, rfl, hr4, hd4⟩ := hx
      obtain ⟨rfl, _⟩ := D3.out.unique hd4
      obtain ⟨bb, off, rfl, hbl, hc⟩ := hr4.cell (by omega)
      have hc0 : w2.cell? ⟨bb, off, none⟩ = some (.int .u32 (iv (f4 0))) := hc 0 (by omega)
      replace HB := Lib.hid (HB.out.trans (hb2.mono HB.out.size))
      replace KP1 := Lib.hid (KP1.out.after hb2)
      clear d0 d1 d2
      have d0 := KP1.out.cell (i := 0) rfl
      have d1 := KP1.out.cell (i := 1) rfl
      have d2 := KP1.out.cell (i := 2) rfl
      have hcap := hr4.cap
      have hmx := hr4.max
      by_cases hG : G = 1
      · have h40 : f4 0 = 1 := by
          have hd5 := hd4
          rw [hG] at hd5
          exact (hd5.unique one_dig).2 0 (by omega)
        rw [h40, show iv 1 = 1 by rw [iv_eq]; rfl] at hc0
        clear hc hr4 hd4 D3 C2 hb2 h40
        rcases neg with _ | _
        · replace HER : Hid (0 = ER) := Lib.hid (by rw [← HER.out, if_neg (by rintro (⟨q, _⟩ | q); exact absurd q (by simp); exact q hG)])
          clear hG
          go_wp2_with fail
          go_ret
          exact ⟨ret_int HER.out, HB.out⟩
        · by_cases h0 : n = 0
          · replace HER : Hid (3 = ER) := Lib.hid (by rw [← HER.out, if_pos (.inl ⟨rfl, h0⟩)])
            subst h0
            clear hG
            go_wp2_with fail
            go_ret
            exact ⟨ret_int HER.out, HB.out⟩
          · replace HER : Hid (0 = ER) := Lib.hid (by rw [← HER.out, if_neg (by rintro (⟨_, q⟩ | q); exact h0 q; exact q hG)])
            have hz : ((n : Int) == 0) = false := by rw [beq_eq_false_iff_ne]; omega
            clear hG h0
            go_wp2_with fail
            go_ret
            exact ⟨ret_int HER.out, HB.out⟩
      · have h40 : iv (f4 0) ≠ 1 := fun e => hG (by
          have e0 : f4 0 = 1 := by rw [iv_eq] at e; omega
          have := hd4.eq
          simp [nv] at this
          omega)
        have hne : (iv (f4 0) != 1) = true := by rw [bne_iff_ne]; exact h40
        replace HER : Hid (3 = ER) := Lib.hid (by rw [← HER.out, if_pos (.inr hG)])
        generalize iv (f4 0) = X at *
        clear hc hr4 hd4 D3 C2 hb2 hG h40
        go_wp2_with fail
        go_ret
        exact ⟨ret_int HER.out, HB.out⟩
    · have hG : G ≠ 1 := fun e => hn3 (by subst e; exact (hd3.unique one_dig).1)
      have hz : ((n3 : Int) != 1) = true := by rw [bne_iff_ne]; omega
      replace HER : Hid (3 = ER) := Lib.hid (by rw [← HER.out, if_pos (.inr hG)])
      clear hr3 hd3 C1 C0 hb1 hn3 hG
      go_wp2_with fail
      go_ret
      exact ⟨ret_int HER.out, HB.out⟩
  · rw [chkP_ne hP]
    have x1 : (chkP n f m g != 0) = true := by rw [bne_iff_ne]; exact hP
    generalize chkP n f m g = er at *
    clear h h1 hb0 hP
    have d0 := KP1.out.cell (i := 0) rfl
    have d1 := KP1.out.cell (i := 1) rfl
    have d2 := KP1.out.cell (i := 2) rfl
    go_enter Tryz.func78, Tryz.ntmps78
    go_wp2_with fail
    refine C0.out.mono ?_
    rintro _ _ ⟨rfl, rfl⟩
    go_wp2_with fail
    go_ret
    exact ⟨rfl, HB.out⟩

end Go.Proofs.YtbjaolmlnkliiaaGreatDoor

/- The contracts of the reference's functions on rational numbers. Conditions as premises: the numbers read, and are short enough. -/
namespace Go.Proofs.YtbjaolmlnkliiaaGreatDoor
open Go.RowKit Go.Shelf
attribute [local go_sem ↓] Go.wp_at_zero Go.wp_at_succ


end Go.Proofs.YtbjaolmlnkliiaaGreatDoor

/- The contract of the kit's OwnRat. Conditions as premises: the parts read, and are short enough. -/
namespace Go.Proofs.YtbjaolmlnkliiaaGreatDoor
open Go.RowKit Go.Shelf
attribute [local go_sem ↓] Go.wp_at_zero Go.wp_at_succ

theorem app_empty_run (ty : TypeId) {w : World} {b : Addr} {A : Option Addr} {n c B : Nat} {f : Nat → Nat} (hr : Rs w B A n c f) (hn : n ≤ 4096) :
    ∃ A' c' w', (Builtin.append_ #[23, 23] ty #[.slice (some b) 0 0, .slice A n c]).run Tryz.prog w = .ok (.slice A' n c') w' ∧ Rs w' w'.heap.size A' n c' f ∧ Below w.heap.size w w' := by
  obtain ⟨i0, hi, hz0, hz1, hz2⟩ := info_parts info32
  rcases Nat.eq_zero_or_pos n with e | e
  · subst e
    refine ⟨some b, 0, w, ?_, Rs.zero _ _ _ _, Below.refl _ _⟩
    rcases A with _ | a0 <;> simp [Builtin.append_, run_underlying Tryz.underlying23, sizeOf, typeInfo, hi, hz1, Builtin.lenOf, Builtin.firstCells, loadCells, loadCellsFrom, storeCells, Sem.run_bind, Sem.run_pure, Result.andThen]
  · obtain ⟨bb, off, rfl, hb, hc⟩ := hr.cell e
    obtain ⟨v', w', hrun, h2, h3⟩ := run_append_arg_grows (P := Tryz.prog) (w := w) 23 ty 40 i0 (.int .u32 0) 1 4 Tryz.underlying23 hi hz0 hz1 hz2 rfl (by decide) b 0 0 [] (by simp) (by simp) ⟨bb, off, none⟩ n c (us f n) (by rw [us_length, Nat.mul_one])
      (fun j u hj => by
        obtain ⟨hjn, rfl⟩ := us_mem hj
        rw [add_addr]; exact hc j hjn) (by omega) (by unfold maxLen; omega) (by omega)
    rw [Nat.zero_add, List.nil_append] at h2
    obtain ⟨A', c', rfl, hr'⟩ := Go.Proofs.YtbjaolmlnkliiaaGreatDoor.Own.rs (f := f) h2 hr.bd
    exact ⟨A', c', w', hrun, hr', (Below.refl _ w).grown h3 (Nat.le_refl _) (fun j hj => by cases hj)⟩

/-- a whole list behind an empty one, as one operation -/
theorem wp_append_empty {w : World} {o : Oper} {a : Act} {K : Act → World → Prop} {Q : Exit → Act → World → Prop} (s x : Operand)
    (ho : o.op = .call { callee := .builtin .append, args := #[s, x], argTypes := #[23, 23] }) {A : Option Addr} {b : Addr} {n c B : Nat} {f : Nat → Nat} (hr : Rs w B A n c f) (hn : n ≤ 4096)
    (hs : a.eval s = .slice (some b) 0 0) (hx : a.eval x = .slice A n c)
    (h : ∀ A' c' w', Rs w' w'.heap.size A' n c' f → Below w.heap.size w w' → K (a.put o.dst (.slice A' n c')) w') : o.wp Tryz.prog a w K Q := by
  obtain ⟨A', c', w', hrun, hr', hb⟩ := app_empty_run o.type hr hn
  unfold Oper.wp execOp
  simp only [ho, resolve, invoke, builtin, Sem.run_bind, Sem.run_pure, Result.andThen_ok, List.map_toArray, List.map_cons, List.map_nil, hs, hx]
  rw [hrun]
  exact h A' c' w' hr' hb

theorem Rs.far3 {w w' : World} {g : Nat} {t : TypeId} {cs : Array Value} {A : Option Addr} {n c : Nat} {f : Nat → Nat} (hr : Rs w w.heap.size A n c f) (k : Blk w g t cs) (hno : cs.all notU32 = true) (hw : ∀ p : Addr, p.block ≠ g → w'.cell? p = w.cell? p) (hs : w.heap.size ≤ w'.heap.size) : Rs w' w'.heap.size A n c f := by
  refine ⟨hr.cap, hr.max, hr.bd, fun hn => ?_⟩
  obtain ⟨b, off, e2, hb, hc⟩ := hr.cell hn
  have hbg : b ≠ g := by
    rintro rfl
    have h0 := hc 0 hn
    rw [cell_of_row w b _ _ _ _ k] at h0
    have h1 := Array.all_eq_true'.1 hno _ (Array.mem_of_getElem? h0)
    cases h1
  exact ⟨b, off, e2, by omega, fun j hj => (hw _ hbg).trans (hc j hj)⟩
theorem Rs.put3 {w : World} {g : Nat} {t : TypeId} {cs : Array Value} {A : Option Addr} {n c i j l : Nat} {f : Nat → Nat} {u x y : Value} (hr : Rs w w.heap.size A n c f) (k : Blk w g t cs) (hno : cs.all notU32 = true) :
    Rs (((w.setCell ⟨g, i, none⟩ u).setCell ⟨g, j, none⟩ x).setCell ⟨g, l, none⟩ y) (((w.setCell ⟨g, i, none⟩ u).setCell ⟨g, j, none⟩ x).setCell ⟨g, l, none⟩ y).heap.size A n c f :=
  hr.far3 k hno (fun _ hp => (cell_far _ y hp).trans ((cell_far _ x hp).trans (cell_far w u hp))) (by simp)

set_option maxRecDepth 100000 in
set_option maxHeartbeats 8000000 in
theorem ownRat_any {w : World} {neg : Bool} {A A' : Option Addr} {n c m c' : Nat} {f g : Nat → Nat} (h : Raw w neg A n c f A' m c' g) (hn : n ≤ 4096) (hm : m ≤ 4096) :
    Calls Tryz.prog 110 #[.agg #[.bool neg, .slice A n c, .slice A' m c']] w fun e w' => ∃ B d B' d', e = .returned (.agg #[.bool neg, .slice B n d, .slice B' m d']) ∧ Raw w' neg B n d f B' m d' g ∧ Below w.heap.size w w' := by
  have hbb := below2 w (.cells #[.bool neg, .slice A n c, .slice A' m c'] 25) (.cells #[.bool false, .slice none 0 0, .slice none 0 0] 25)
  have k1 := (Blk.new w #[.bool neg, .slice A n c, .slice A' m c'] 25).alloc (.cells #[.bool false, .slice none 0 0, .slice none 0 0] 25)
  have k2 := Blk.new (w.alloc (.cells #[.bool neg, .slice A n c, .slice A' m c'] 25)) #[.bool false, .slice none 0 0, .slice none 0 0] 25
  simp only [World.size_alloc] at k2
  have HN : Hid (∀ W, (W.cell? ⟨w.heap.size, 0, none⟩ = some (.bool neg) ∧ W.cell? ⟨w.heap.size, 1, none⟩ = some (.slice A n c) ∧ W.cell? ⟨w.heap.size, 2, none⟩ = some (.slice A' m c') ∧ Hid (Blk W (w.heap.size) 25 #[.bool neg, .slice A n c, .slice A' m c'] ∧ (∃ p_ q_ r_, Blk W (w.heap.size + 1) 25 #[p_, q_, r_] ∧ (#[p_, q_, r_] : Array Value).all notU32 = true) ∧ Below w.heap.size w W)) → Rs W W.heap.size A n c f) := Lib.hid fun W hs => (h.num.below hs.2.2.2.out.2.2).more hs.2.2.2.out.2.2.size
  have HM : Hid (∀ W, (W.cell? ⟨w.heap.size, 0, none⟩ = some (.bool neg) ∧ W.cell? ⟨w.heap.size, 1, none⟩ = some (.slice A n c) ∧ W.cell? ⟨w.heap.size, 2, none⟩ = some (.slice A' m c') ∧ Hid (Blk W (w.heap.size) 25 #[.bool neg, .slice A n c, .slice A' m c'] ∧ (∃ p_ q_ r_, Blk W (w.heap.size + 1) 25 #[p_, q_, r_] ∧ (#[p_, q_, r_] : Array Value).all notU32 = true) ∧ Below w.heap.size w W)) → Rs W W.heap.size A' m c' g) := Lib.hid fun W hs => (h.den.below hs.2.2.2.out.2.2).more hs.2.2.2.out.2.2.size
  have NEXT : Hid (∀ W W', (W.cell? ⟨w.heap.size, 0, none⟩ = some (.bool neg) ∧ W.cell? ⟨w.heap.size, 1, none⟩ = some (.slice A n c) ∧ W.cell? ⟨w.heap.size, 2, none⟩ = some (.slice A' m c') ∧ Hid (Blk W (w.heap.size) 25 #[.bool neg, .slice A n c, .slice A' m c'] ∧ (∃ p_ q_ r_, Blk W (w.heap.size + 1) 25 #[p_, q_, r_] ∧ (#[p_, q_, r_] : Array Value).all notU32 = true) ∧ Below w.heap.size w W)) → Below W.heap.size W W' → (W'.cell? ⟨w.heap.size, 0, none⟩ = some (.bool neg) ∧ W'.cell? ⟨w.heap.size, 1, none⟩ = some (.slice A n c) ∧ W'.cell? ⟨w.heap.size, 2, none⟩ = some (.slice A' m c') ∧ Hid (Blk W' (w.heap.size) 25 #[.bool neg, .slice A n c, .slice A' m c'] ∧ (∃ p_ q_ r_, Blk W' (w.heap.size + 1) 25 #[p_, q_, r_] ∧ (#[p_, q_, r_] : Array Value).all notU32 = true) ∧ Below w.heap.size w W'))) := Lib.hid fun W W' h hb => by
    obtain ⟨_, _, _, h4⟩ := h
    obtain ⟨h5, ⟨x, y, z, h6, h60⟩, h7⟩ := h4.out
    have h8 := h5.after hb
    exact ⟨h8.cell rfl, h8.cell rfl, h8.cell rfl, Lib.hid ⟨h8, ⟨x, y, z, h6.after hb, h60⟩, h7.trans (hb.mono h7.size)⟩⟩
  have ALL : Hid (∀ W o, (W.cell? ⟨w.heap.size, 0, none⟩ = some (.bool neg) ∧ W.cell? ⟨w.heap.size, 1, none⟩ = some (.slice A n c) ∧ W.cell? ⟨w.heap.size, 2, none⟩ = some (.slice A' m c') ∧ Hid (Blk W (w.heap.size) 25 #[.bool neg, .slice A n c, .slice A' m c'] ∧ (∃ p_ q_ r_, Blk W (w.heap.size + 1) 25 #[p_, q_, r_] ∧ (#[p_, q_, r_] : Array Value).all notU32 = true) ∧ Below w.heap.size w W)) → ((W.alloc o).cell? ⟨w.heap.size, 0, none⟩ = some (.bool neg) ∧ (W.alloc o).cell? ⟨w.heap.size, 1, none⟩ = some (.slice A n c) ∧ (W.alloc o).cell? ⟨w.heap.size, 2, none⟩ = some (.slice A' m c') ∧ Hid (Blk (W.alloc o) (w.heap.size) 25 #[.bool neg, .slice A n c, .slice A' m c'] ∧ (∃ p_ q_ r_, Blk (W.alloc o) (w.heap.size + 1) 25 #[p_, q_, r_] ∧ (#[p_, q_, r_] : Array Value).all notU32 = true) ∧ Below w.heap.size w (W.alloc o)))) := Lib.hid fun W o h => NEXT.out W _ h (below1 W o)
  have STO : Hid (∀ W s B1 k1 e1 B2 k2 e2, (W.cell? ⟨w.heap.size, 0, none⟩ = some (.bool neg) ∧ W.cell? ⟨w.heap.size, 1, none⟩ = some (.slice A n c) ∧ W.cell? ⟨w.heap.size, 2, none⟩ = some (.slice A' m c') ∧ Hid (Blk W (w.heap.size) 25 #[.bool neg, .slice A n c, .slice A' m c'] ∧ (∃ p_ q_ r_, Blk W (w.heap.size + 1) 25 #[p_, q_, r_] ∧ (#[p_, q_, r_] : Array Value).all notU32 = true) ∧ Below w.heap.size w W)) → ((((W.setCell ⟨w.heap.size + 1, 0, none⟩ (.bool s)).setCell ⟨w.heap.size + 1, 1, none⟩ (.slice B1 k1 e1)).setCell ⟨w.heap.size + 1, 2, none⟩ (.slice B2 k2 e2)).cell? ⟨w.heap.size, 0, none⟩ = some (.bool neg) ∧ (((W.setCell ⟨w.heap.size + 1, 0, none⟩ (.bool s)).setCell ⟨w.heap.size + 1, 1, none⟩ (.slice B1 k1 e1)).setCell ⟨w.heap.size + 1, 2, none⟩ (.slice B2 k2 e2)).cell? ⟨w.heap.size, 1, none⟩ = some (.slice A n c) ∧ (((W.setCell ⟨w.heap.size + 1, 0, none⟩ (.bool s)).setCell ⟨w.heap.size + 1, 1, none⟩ (.slice B1 k1 e1)).setCell ⟨w.heap.size + 1, 2, none⟩ (.slice B2 k2 e2)).cell? ⟨w.heap.size, 2, none⟩ = some (.slice A' m c') ∧ Hid (Blk (((W.setCell ⟨w.heap.size + 1, 0, none⟩ (.bool s)).setCell ⟨w.heap.size + 1, 1, none⟩ (.slice B1 k1 e1)).setCell ⟨w.heap.size + 1, 2, none⟩ (.slice B2 k2 e2)) (w.heap.size) 25 #[.bool neg, .slice A n c, .slice A' m c'] ∧ (∃ p_ q_ r_, Blk (((W.setCell ⟨w.heap.size + 1, 0, none⟩ (.bool s)).setCell ⟨w.heap.size + 1, 1, none⟩ (.slice B1 k1 e1)).setCell ⟨w.heap.size + 1, 2, none⟩ (.slice B2 k2 e2)) (w.heap.size + 1) 25 #[p_, q_, r_] ∧ (#[p_, q_, r_] : Array Value).all notU32 = true) ∧ Below w.heap.size w (((W.setCell ⟨w.heap.size + 1, 0, none⟩ (.bool s)).setCell ⟨w.heap.size + 1, 1, none⟩ (.slice B1 k1 e1)).setCell ⟨w.heap.size + 1, 2, none⟩ (.slice B2 k2 e2))))) := Lib.hid fun W s B1 k1 e1 B2 k2 e2 h => by
    obtain ⟨_, _, _, h4⟩ := h
    obtain ⟨h5, ⟨x0, y0, z0, h6, h60⟩, h7⟩ := h4.out
    have h8 := ((h5.other (i := 0) (u := .bool s) (show w.heap.size ≠ w.heap.size + 1 by omega)).other (i := 1) (u := .slice B1 k1 e1) (show w.heap.size ≠ w.heap.size + 1 by omega)).other (i := 2) (u := .slice B2 k2 e2) (show w.heap.size ≠ w.heap.size + 1 by omega)
    exact ⟨h8.cell rfl, h8.cell rfl, h8.cell rfl, Lib.hid ⟨h8, ⟨.bool s, .slice B1 k1 e1, .slice B2 k2 e2, h6.set.set.set, hnoR _ _ _ _ _ _ _⟩, ((h7.setCell (by simp) _).setCell (by simp) _).setCell (by simp) _⟩⟩
  have base0 : ((w.alloc (.cells #[.bool neg, .slice A n c, .slice A' m c'] 25)).alloc (.cells #[.bool false, .slice none 0 0, .slice none 0 0] 25)).cell? ⟨w.heap.size, 0, none⟩ = some (.bool neg) ∧ ((w.alloc (.cells #[.bool neg, .slice A n c, .slice A' m c'] 25)).alloc (.cells #[.bool false, .slice none 0 0, .slice none 0 0] 25)).cell? ⟨w.heap.size, 1, none⟩ = some (.slice A n c) ∧ ((w.alloc (.cells #[.bool neg, .slice A n c, .slice A' m c'] 25)).alloc (.cells #[.bool false, .slice none 0 0, .slice none 0 0] 25)).cell? ⟨w.heap.size, 2, none⟩ = some (.slice A' m c') ∧ Hid (Blk ((w.alloc (.cells #[.bool neg, .slice A n c, .slice A' m c'] 25)).alloc (.cells #[.bool false, .slice none 0 0, .slice none 0 0] 25)) (w.heap.size) 25 #[.bool neg, .slice A n c, .slice A' m c'] ∧ (∃ p_ q_ r_, Blk ((w.alloc (.cells #[.bool neg, .slice A n c, .slice A' m c'] 25)).alloc (.cells #[.bool false, .slice none 0 0, .slice none 0 0] 25)) (w.heap.size + 1) 25 #[p_, q_, r_] ∧ (#[p_, q_, r_] : Array Value).all notU32 = true) ∧ Below w.heap.size w ((w.alloc (.cells #[.bool neg, .slice A n c, .slice A' m c'] 25)).alloc (.cells #[.bool false, .slice none 0 0, .slice none 0 0] 25))) := ⟨k1.cell rfl, k1.cell rfl, k1.cell rfl, Lib.hid ⟨k1, ⟨_, _, _, k2, hnoR _ _ _ _ _ _ _⟩, hbb⟩⟩
  clear h hbb k1 k2
  go_enter Tryz.func110, Tryz.ntmps110
  go_upto_region 1 with fail
  generalize ((w.alloc (.cells #[.bool neg, .slice A n c, .slice A' m c'] 25)).alloc (.cells #[.bool false, .slice none 0 0, .slice none 0 0] 25)) = wb at *
  have hdrew : wb.drew.cell? ⟨w.heap.size, 0, none⟩ = some (.bool neg) ∧ wb.drew.cell? ⟨w.heap.size, 1, none⟩ = some (.slice A n c) ∧ wb.drew.cell? ⟨w.heap.size, 2, none⟩ = some (.slice A' m c') ∧ Hid (Blk wb.drew (w.heap.size) 25 #[.bool neg, .slice A n c, .slice A' m c'] ∧ (∃ p_ q_ r_, Blk wb.drew (w.heap.size + 1) 25 #[p_, q_, r_] ∧ (#[p_, q_, r_] : Array Value).all notU32 = true) ∧ Below w.heap.size w wb.drew) := NEXT.out _ _ base0 (Below.refl _ _).drew
  have ALD : Hid (∀ o, ((wb.alloc o).drew.cell? ⟨w.heap.size, 0, none⟩ = some (.bool neg) ∧ (wb.alloc o).drew.cell? ⟨w.heap.size, 1, none⟩ = some (.slice A n c) ∧ (wb.alloc o).drew.cell? ⟨w.heap.size, 2, none⟩ = some (.slice A' m c') ∧ Hid (Blk (wb.alloc o).drew (w.heap.size) 25 #[.bool neg, .slice A n c, .slice A' m c'] ∧ (∃ p_ q_ r_, Blk (wb.alloc o).drew (w.heap.size + 1) 25 #[p_, q_, r_] ∧ (#[p_, q_, r_] : Array Value).all notU32 = true) ∧ Below w.heap.size w (wb.alloc o).drew))) := Lib.hid fun o => NEXT.out _ _ (ALL.out _ o base0) (Below.refl _ _).drew
  have ALD2 : Hid (∀ o p, (((wb.alloc o).alloc p).drew.cell? ⟨w.heap.size, 0, none⟩ = some (.bool neg) ∧ ((wb.alloc o).alloc p).drew.cell? ⟨w.heap.size, 1, none⟩ = some (.slice A n c) ∧ ((wb.alloc o).alloc p).drew.cell? ⟨w.heap.size, 2, none⟩ = some (.slice A' m c') ∧ Hid (Blk ((wb.alloc o).alloc p).drew (w.heap.size) 25 #[.bool neg, .slice A n c, .slice A' m c'] ∧ (∃ p_ q_ r_, Blk ((wb.alloc o).alloc p).drew (w.heap.size + 1) 25 #[p_, q_, r_] ∧ (#[p_, q_, r_] : Array Value).all notU32 = true) ∧ Below w.heap.size w ((wb.alloc o).alloc p).drew))) := Lib.hid fun o p => NEXT.out _ _ (ALL.out _ p (ALL.out _ o base0)) (Below.refl _ _).drew
  clear base0
  go_region_held3 (fun W => W.cell? ⟨w.heap.size, 0, none⟩ = some (.bool neg) ∧ W.cell? ⟨w.heap.size, 1, none⟩ = some (.slice A n c) ∧ W.cell? ⟨w.heap.size, 2, none⟩ = some (.slice A' m c') ∧ Hid (Blk W (w.heap.size) 25 #[.bool neg, .slice A n c, .slice A' m c'] ∧ (∃ p_ q_ r_, Blk W (w.heap.size + 1) 25 #[p_, q_, r_] ∧ (#[p_, q_, r_] : Array Value).all notU32 = true) ∧ Below w.heap.size w W))
    (first | with_reducible assumption | with_reducible exact ALD.out _ | with_reducible exact ALD2.out _ _ | with_reducible exact ALL.out _ _ (by first | with_reducible assumption | with_reducible exact ALD.out _) | with_reducible exact STO.out _ _ _ _ _ _ _ _ hS6)
    (first
      | (refine ite_true_of (by kernel_rfl) ?_; refine wp_append_empty (.tmp 5) (.tmp 7) rfl (HN.out _ (by first | with_reducible assumption | with_reducible exact ALD.out _ | with_reducible exact ALD2.out _ _)) hn (by rfl) (by rfl) ?_; intro A5 c5 w5 hr5 hb5; have hS5 := NEXT.out _ _ (by first | with_reducible assumption | with_reducible exact ALD.out _ | with_reducible exact ALD2.out _ _) hb5; have HR5 := Lib.hid hr5; clear hr5)
      | (refine ite_true_of (by kernel_rfl) ?_; refine wp_append_empty (.tmp 9) (.tmp 11) rfl (HM.out _ (by first | with_reducible assumption | with_reducible exact ALD.out _ | with_reducible exact ALD2.out _ _)) hm (by rfl) (by rfl) ?_; intro A6 c6 w6 hr6 hb6; have hS6 := NEXT.out _ _ (by first | with_reducible assumption | with_reducible exact ALD.out _ | with_reducible exact ALD2.out _ _) hb6; have HR6 := Lib.hid hr6; clear hr6; obtain ⟨hq5, ⟨x_, y_, z_, hq6, hq8⟩, hq7⟩ := hS6.2.2.2.out; have d0 := hq6.cell (i := 0) rfl; have d1 := hq6.cell (i := 1) rfl; have d2 := hq6.cell (i := 2) rfl; have ff := hq6.free; have HQ6 := Lib.hid hq6; have HQ7 := Lib.hid hq7; have HQ8 := Lib.hid hq8; clear hq5 hq6 hq7 hq8))
  all_goals
    have hr5 := HR5.out
    first
      | replace hr5 := (hr5.below hb6).more hb6.size
      | replace hr5 := ((((hr5.below (below1 w5 (.cells #[] 40))).more (below1 w5 (.cells #[] 40)).size).below hb6).more hb6.size)
    have H5 := Lib.hid hr5
    have sz6 := HQ7.out.size
    clear hr5
    go_wp2_with fail
    refine bodyPost_ret (results_cell_row (p := 2) (ty := 25) rfl _ _ (w.heap.size + 1) 25 _ _ _ rfl HQ6.out.set.set.set Tryz.underlying25 rfl (by kernel_rfl)) rfl ?_
    refine ⟨_, _, _, _, rfl, ⟨?_, ?_⟩, ((HQ7.out.setCell (by simp) _).setCell (by simp) _).setCell (by simp) _⟩
    · exact H5.out.put3 HQ6.out HQ8.out
    · exact HR6.out.put3 HQ6.out HQ8.out
end Go.Proofs.YtbjaolmlnkliiaaGreatDoor

/- What the program and the reference make of any two numbers, valid or not. Conditions as premises: the numbers read, and are short or too long to be valid. -/
namespace Go.Proofs.YtbjaolmlnkliiaaGreatDoor
open Go.RowKit Go.Shelf
attribute [local go_sem ↓] Go.wp_at_zero Go.wp_at_succ


/-- a number that the laws leave out for its length -/
def Lg (n m : Nat) : Prop := (30 < n ∧ n ≤ 1024) ∨ (30 < m ∧ m ≤ 1024) ∨ 1100 < n ∨ 1100 < m
def lgB (n m : Nat) : Bool := (decide (30 < n) && decide (n ≤ 1024)) || ((decide (30 < m) && decide (m ≤ 1024)) || (decide (1100 < n) || decide (1100 < m)))
theorem lgB_iff (n m : Nat) : lgB n m = true ↔ Lg n m := by
  unfold lgB Lg
  simp only [Bool.or_eq_true, Bool.and_eq_true, decide_eq_true_eq]
theorem lgB_no {n m : Nat} (h : ¬ Lg n m) : lgB n m = false := by
  cases e : lgB n m
  · rfl
  · exact absurd ((lgB_iff n m).1 e) h
theorem lgB_of {n m : Nat} {b : Bool} (h : b = true ↔ Lg n m) : b = lgB n m := by
  rw [Bool.eq_iff_iff, h, lgB_iff]
theorem long_cls (n : Nat) : ((n : Int) ≤ 30 ∧ n ≤ 30) ∨ ((30 : Int) < n ∧ (n : Int) ≤ 1024 ∧ 30 < n ∧ n ≤ 1024) ∨ ((1024 : Int) < n ∧ (n : Int) ≤ 1100 ∧ 1024 < n ∧ n ≤ 1100) ∨ ((1100 : Int) < n ∧ 1100 < n) := by omega
theorem ret_boolE {a b : Bool} (h : a = b) : Ending.returned (.bool a) = Ending.returned (.bool b) := by rw [h]

set_option maxRecDepth 100000 in
set_option maxHeartbeats 8000000 in
theorem longR_any {w : World} (neg : Bool) (A A' : Option Addr) (n c m c' : Nat) :
    Calls Tryz.prog 11 #[.agg #[.bool neg, .slice A n c, .slice A' m c']] w fun e w' => e = .returned (.bool (lgB n m)) ∧ Below w.heap.size w w' := by
  have hb0 := below1 w (.cells #[.bool neg, .slice A n c, .slice A' m c'] 25)
  have KP1 := Blk.new w #[.bool neg, .slice A n c, .slice A' m c'] 25
  have d1 := KP1.cell (i := 1) rfl
  have d2 := KP1.cell (i := 2) rfl
  have HB := Lib.hid hb0
  clear hb0 KP1
  rcases long_cls n with ⟨h1, k1⟩ | ⟨h1, h2, k1, k2⟩ | ⟨h1, h2, k1, k2⟩ | ⟨h1, k1⟩
  all_goals
    rcases long_cls m with ⟨h3, k3⟩ | ⟨h3, h4, k3, k4⟩ | ⟨h3, h4, k3, k4⟩ | ⟨h3, k3⟩
    all_goals
      have HL : Hid (Lg n m ↔ (30 < n ∧ n ≤ 1024) ∨ (30 < m ∧ m ≤ 1024) ∨ 1100 < n ∨ 1100 < m) := Lib.hid Iff.rfl
      generalize hLB : lgB n m = LB0 at *
      have HLB := Lib.hid hLB
      clear hLB
      go_enter Tryz.func11, Tryz.ntmps11
      go_wp2_with fail
      go_ret
      refine ⟨ret_boolE ?_, HB.out⟩
      rw [← HLB.out]
      refine lgB_of ?_
      rw [HL.out]
      simp
      try omega

end Go.Proofs.YtbjaolmlnkliiaaGreatDoor

/- What the program and the reference make of any two numbers, valid or not. Conditions as premises: the numbers read, and are short or too long to be valid. -/
namespace Go.Proofs.YtbjaolmlnkliiaaGreatDoor
open Go.RowKit Go.Shelf
attribute [local go_sem ↓] Go.wp_at_zero Go.wp_at_succ


/-- the number that three parts say -/
def rawq (b : Bool) (n : Nat) (f : Nat → Nat) (m : Nat) (g : Nat → Nat) : Rat := mkRat (sn b (nv f n)) (nv g m)
theorem Raw.q30 {w : World} {neg : Bool} {A A' : Option Addr} {n c m c' : Nat} {f g : Nat → Nat} (h : Raw w neg A n c f A' m c' g) (e : chkR neg n f m g = 0) (hl : ¬ Lg n m) :
    Rq w (rawq neg n f m g) (.agg #[.bool neg, .slice A n c, .slice A' m c']) ∧ Sz 30 (rawq neg n f m g) := by
  obtain ⟨q, hq, e1, e2, hn, hm, d1, d2⟩ := h.rq e
  obtain ⟨_, _, e3⟩ := hq.inv
  have e4 : rawq neg n f m g = q := by
    unfold rawq; rw [← e1, ← e2, e3, sn_num]; exact Rat.mkRat_self q
  unfold Lg at hl
  rw [e4]
  refine ⟨hq, ?_, ?_⟩
  · rw [e1]; exact Nat.lt_of_lt_of_le d1.ok.lt (pow_le_of (by omega))
  · rw [e2]; exact Nat.lt_of_lt_of_le d2.ok.lt (pow_le_of (by omega))

/-- an answer: the number, or what comes with an error -/
def RqO (w : World) (er : Int) (q : Rat) (v : Value) : Prop := (er = 0 → Rq w q v) ∧ (er ≠ 0 → v = zeroRat)
theorem RqO.below {w w' : World} {er : Int} {q : Rat} {v : Value} (h : RqO w er q v) (hb : Below w.heap.size w w') : RqO w' er q v := ⟨fun e => (h.1 e).below hb, h.2⟩
theorem RqO.get {w : World} {er : Int} {q : Rat} {v : Value} (h : RqO w er q v) : ∃ b A n c A' n' c', v = .agg #[.bool b, .slice A n c, .slice A' n' c'] := by
  by_cases e : er = 0
  · obtain ⟨b, A, n, c, A', n', c', e2, _⟩ := (h.1 e).get
    exact ⟨b, A, n, c, A', n', c', e2⟩
  · exact ⟨_, _, _, _, _, _, _, h.2 e⟩
theorem RqO.put3 {w : World} {er : Int} {q : Rat} {b : Bool} {A A' : Option Addr} {n c n' c' g i j l : Nat} {t : TypeId} {cs : Array Value} {u x y : Value} (h : RqO w er q (.agg #[.bool b, .slice A n c, .slice A' n' c'])) (k : Blk w g t cs) (hno : cs.all notU32 = true) :
    RqO (((w.setCell ⟨g, i, none⟩ u).setCell ⟨g, j, none⟩ x).setCell ⟨g, l, none⟩ y) er q (.agg #[.bool b, .slice A n c, .slice A' n' c']) :=
  ⟨fun e => by
    obtain ⟨g1, g2, g3⟩ := (h.1 e).inv
    exact Rq.mk g3 rfl rfl (g1.put3 k hno) (g2.put3 k hno), h.2⟩

set_option maxRecDepth 100000 in
set_option maxHeartbeats 8000000 in
theorem sameRaw {w : World} {b : Bool} {A1 A2 A3 A4 : Option Addr} {n m c1 c2 c3 c4 : Nat} {f g f' g' : Nat → Nat} (h : Raw w b A1 n c1 f A2 m c2 g) (k : Raw w b A3 n c3 f' A4 m c4 g') (hf : ∀ j, j < n → f j = f' j) (hg : ∀ j, j < m → g j = g' j) :
    Calls Tryz.prog 17 #[.agg #[.bool b, .slice A1 n c1, .slice A2 m c2], .agg #[.bool b, .slice A3 n c3, .slice A4 m c4]] w fun e w' => e = .returned (.bool true) ∧ Below w.heap.size w w' := by
  have hb0 := below2 w (.cells #[.bool b, .slice A1 n c1, .slice A2 m c2] 25) (.cells #[.bool b, .slice A3 n c3, .slice A4 m c4] 25)
  have x2 := (Blk.new w #[.bool b, .slice A1 n c1, .slice A2 m c2] 25).alloc (.cells #[.bool b, .slice A3 n c3, .slice A4 m c4] 25)
  have x3 := Blk.new (w.alloc (.cells #[.bool b, .slice A1 n c1, .slice A2 m c2] 25)) #[.bool b, .slice A3 n c3, .slice A4 m c4] 25
  simp only [World.size_alloc] at x2 x3
  have H := Lib.hid (h.below hb0)
  have K := Lib.hid (k.below hb0)
  have HF := Lib.hid hf
  have HG := Lib.hid hg
  have X2 := Lib.hid x2
  have X3 := Lib.hid x3
  have HB := Lib.hid hb0
  clear h k x2 x3 hb0 hf hg
  cases b
  all_goals
    go_enter Tryz.func17, Tryz.ntmps17
    go_wp2_with fail
    refine (alike_true A1 A3 n c1 c3 f f' _ _ _ H.out.num K.out.num HF.out).mono ?_
    rintro _ w1 ⟨rfl, hq⟩
    have hb := hq.below
    replace HB := Lib.hid (HB.out.trans (hb.mono HB.out.size))
    replace H := Lib.hid (H.out.below hb)
    replace K := Lib.hid (K.out.below hb)
    replace X2 := Lib.hid (X2.out.after hb)
    replace X3 := Lib.hid (X3.out.after hb)
    have y2 : w.heap.size < w1.heap.size := X2.out.lt
    have y3 : w.heap.size + 1 < w1.heap.size := X3.out.lt
    have d2 := X2.out.cell (i := 2) rfl
    have d3 := X3.out.cell (i := 2) rfl
    clear hq hb
    go_wp2_with fail
    refine (alike_true A2 A4 m c2 c4 g g' _ _ _ H.out.den K.out.den HG.out).mono ?_
    rintro _ w2 ⟨rfl, hq⟩
    replace HB := Lib.hid (HB.out.trans (hq.below.mono HB.out.size))
    clear hq
    go_wp2_with fail
    go_ret
    exact ⟨rfl, HB.out⟩

theorem sameRatO {w : World} {er : Int} {q : Rat} {v u : Value} (h : RqO w er q v) (k : RqO w er q u) :
    Calls Tryz.prog 17 #[v, u] w fun e w' => e = .returned (.bool true) ∧ Below w.heap.size w w' := by
  by_cases e : er = 0
  · exact sameRatQ (h.1 e) (k.1 e)
  · rw [h.2 e, k.2 e]
    exact sameRaw (f := fun _ => 0) (g := fun _ => 0) (f' := fun _ => 0) (g' := fun _ => 0) ⟨Rs.nil _ _ _, Rs.nil _ _ _⟩ ⟨Rs.nil _ _ _, Rs.nil _ _ _⟩ (fun _ _ => rfl) (fun _ _ => rfl)

theorem ratAddO {w : World} {b1 b2 : Bool} {A1 A2 A3 A4 : Option Addr} {n1 c1 n2 c2 n3 c3 n4 c4 : Nat} {f1 f2 f3 f4 : Nat → Nat} (h : Raw w b1 A1 n1 c1 f1 A2 n2 c2 f2) (k : Raw w b2 A3 n3 c3 f3 A4 n4 c4 f4) (hT : Tabs w) (l1 : ¬ Lg n1 n2) (l2 : ¬ Lg n3 n4) :
    Calls Tryz.prog 73 #[.agg #[.bool b1, .slice A1 n1 c1, .slice A2 n2 c2], .agg #[.bool b2, .slice A3 n3 c3, .slice A4 n4 c4]] w fun e w' => ∃ x, e = .returned (.tuple #[x, .int .i64 (chkRR b1 n1 f1 n2 f2 b2 n3 f3 n4 f4)]) ∧ RqO w' (chkRR b1 n1 f1 n2 f2 b2 n3 f3 n4 f4) (rawq b1 n1 f1 n2 f2 + rawq b2 n3 f3 n4 f4) x ∧ Below w.heap.size w w' := by
  by_cases he : chkRR b1 n1 f1 n2 f2 b2 n3 f3 n4 f4 = 0
  · obtain ⟨e1, e2⟩ := chkRR_zero he
    obtain ⟨ra, sa⟩ := h.q30 e1 l1
    obtain ⟨rb, sb⟩ := k.q30 e2 l2
    refine (ratAddQ ra rb hT sa sb (by omega)).mono ?_
    rintro e w' ⟨x, he', hx, hb⟩
    exact ⟨x, by rw [he]; exact he', ⟨fun _ => hx, fun c => absurd he c⟩, hb⟩
  · refine (ratAdd_bad h k he).mono ?_
    rintro e w' ⟨he', hb⟩
    exact ⟨zeroRat, he', ⟨fun c => absurd c he, fun _ => rfl⟩, hb⟩

theorem ratSubO {w : World} {b1 b2 : Bool} {A1 A2 A3 A4 : Option Addr} {n1 c1 n2 c2 n3 c3 n4 c4 : Nat} {f1 f2 f3 f4 : Nat → Nat} (h : Raw w b1 A1 n1 c1 f1 A2 n2 c2 f2) (k : Raw w b2 A3 n3 c3 f3 A4 n4 c4 f4) (hT : Tabs w) (l1 : ¬ Lg n1 n2) (l2 : ¬ Lg n3 n4) :
    Calls Tryz.prog 21 #[.agg #[.bool b1, .slice A1 n1 c1, .slice A2 n2 c2], .agg #[.bool b2, .slice A3 n3 c3, .slice A4 n4 c4]] w fun e w' => ∃ x, e = .returned (.tuple #[x, .int .i64 (chkRR b1 n1 f1 n2 f2 b2 n3 f3 n4 f4)]) ∧ RqO w' (chkRR b1 n1 f1 n2 f2 b2 n3 f3 n4 f4) (rawq b1 n1 f1 n2 f2 - rawq b2 n3 f3 n4 f4) x ∧ Below w.heap.size w w' := by
  by_cases he : chkRR b1 n1 f1 n2 f2 b2 n3 f3 n4 f4 = 0
  · obtain ⟨e1, e2⟩ := chkRR_zero he
    obtain ⟨ra, sa⟩ := h.q30 e1 l1
    obtain ⟨rb, sb⟩ := k.q30 e2 l2
    refine (ratSubQ ra rb hT sa sb (by omega)).mono ?_
    rintro e w' ⟨x, he', hx, hb⟩
    exact ⟨x, by rw [he]; exact he', ⟨fun _ => hx, fun c => absurd he c⟩, hb⟩
  · refine (ratSub_bad h k he).mono ?_
    rintro e w' ⟨he', hb⟩
    exact ⟨zeroRat, he', ⟨fun c => absurd c he, fun _ => rfl⟩, hb⟩

theorem ratMulO {w : World} {b1 b2 : Bool} {A1 A2 A3 A4 : Option Addr} {n1 c1 n2 c2 n3 c3 n4 c4 : Nat} {f1 f2 f3 f4 : Nat → Nat} (h : Raw w b1 A1 n1 c1 f1 A2 n2 c2 f2) (k : Raw w b2 A3 n3 c3 f3 A4 n4 c4 f4) (hT : Tabs w) (l1 : ¬ Lg n1 n2) (l2 : ¬ Lg n3 n4) :
    Calls Tryz.prog 74 #[.agg #[.bool b1, .slice A1 n1 c1, .slice A2 n2 c2], .agg #[.bool b2, .slice A3 n3 c3, .slice A4 n4 c4]] w fun e w' => ∃ x, e = .returned (.tuple #[x, .int .i64 (chkRR b1 n1 f1 n2 f2 b2 n3 f3 n4 f4)]) ∧ RqO w' (chkRR b1 n1 f1 n2 f2 b2 n3 f3 n4 f4) (rawq b1 n1 f1 n2 f2 * rawq b2 n3 f3 n4 f4) x ∧ Below w.heap.size w w' := by
  by_cases he : chkRR b1 n1 f1 n2 f2 b2 n3 f3 n4 f4 = 0
  · obtain ⟨e1, e2⟩ := chkRR_zero he
    obtain ⟨ra, sa⟩ := h.q30 e1 l1
    obtain ⟨rb, sb⟩ := k.q30 e2 l2
    refine (ratMulQ ra rb hT sa sb (by omega)).mono ?_
    rintro e w' ⟨x, he', hx, hb⟩
    exact ⟨x, by rw [he]; exact he', ⟨fun _ => hx, fun c => absurd he c⟩, hb⟩
  · refine (ratMul_bad h k he).mono ?_
    rintro e w' ⟨he', hb⟩
    exact ⟨zeroRat, he', ⟨fun c => absurd c he, fun _ => rfl⟩, hb⟩

/-- the error of a quotient -/
noncomputable def divER (b1 : Bool) (n1 : Nat) (f1 : Nat → Nat) (n2 : Nat) (f2 : Nat → Nat) (b2 : Bool) (n3 : Nat) (f3 : Nat → Nat) (n4 : Nat) (f4 : Nat → Nat) : Int := if chkRR b1 n1 f1 n2 f2 b2 n3 f3 n4 f4 = 0 then (if nv f3 n3 = 0 then 6 else 0) else chkRR b1 n1 f1 n2 f2 b2 n3 f3 n4 f4
theorem rawq_zero {w : World} {b : Bool} {A1 A2 : Option Addr} {n c1 m c2 : Nat} {f g : Nat → Nat} (h : Raw w b A1 n c1 f A2 m c2 g) (e : chkR b n f m g = 0) : rawq b n f m g = 0 ↔ nv f n = 0 := by
  obtain ⟨q, hq, e1, e2, _⟩ := h.rq e
  have hm : nv g m ≠ 0 := by rw [← e2]; exact q.den_nz
  unfold rawq
  rw [Rat.mkRat_eq_zero hm]
  constructor
  · intro h0; have := sn_abs b (nv f n); rw [h0] at this; exact this.symm
  · intro h0; rw [h0]; exact sn_zero b

theorem ratDivO {w : World} {b1 b2 : Bool} {A1 A2 A3 A4 : Option Addr} {n1 c1 n2 c2 n3 c3 n4 c4 : Nat} {f1 f2 f3 f4 : Nat → Nat} (h : Raw w b1 A1 n1 c1 f1 A2 n2 c2 f2) (k : Raw w b2 A3 n3 c3 f3 A4 n4 c4 f4) (hT : Tabs w) (l1 : ¬ Lg n1 n2) (l2 : ¬ Lg n3 n4) :
    Calls Tryz.prog 23 #[.agg #[.bool b1, .slice A1 n1 c1, .slice A2 n2 c2], .agg #[.bool b2, .slice A3 n3 c3, .slice A4 n4 c4]] w fun e w' => ∃ x, e = .returned (.tuple #[x, .int .i64 (divER b1 n1 f1 n2 f2 b2 n3 f3 n4 f4)]) ∧ RqO w' (divER b1 n1 f1 n2 f2 b2 n3 f3 n4 f4) (rawq b1 n1 f1 n2 f2 / rawq b2 n3 f3 n4 f4) x ∧ Below w.heap.size w w' := by
  by_cases he : chkRR b1 n1 f1 n2 f2 b2 n3 f3 n4 f4 = 0
  · obtain ⟨e1, e2⟩ := chkRR_zero he
    obtain ⟨ra, sa⟩ := h.q30 e1 l1
    obtain ⟨rb, sb⟩ := k.q30 e2 l2
    by_cases hz : rawq b2 n3 f3 n4 f4 = 0
    · have hd : divER b1 n1 f1 n2 f2 b2 n3 f3 n4 f4 = 6 := by unfold divER; rw [if_pos he, if_pos ((rawq_zero k e2).1 hz)]
      refine (ratDiv_zero ra rb sa sb (by omega) (by omega) hz).mono ?_
      rintro e w' ⟨he', hb⟩
      exact ⟨zeroRat, by rw [hd]; exact he', ⟨fun c => absurd (hd.symm.trans c) (by decide), fun _ => rfl⟩, hb⟩
    · have hd : divER b1 n1 f1 n2 f2 b2 n3 f3 n4 f4 = 0 := by unfold divER; rw [if_pos he, if_neg (fun c => hz ((rawq_zero k e2).2 c))]
      refine (ratDivQ ra rb hT sa sb (by omega) hz).mono ?_
      rintro e w' ⟨x, he', hx, hb⟩
      exact ⟨x, by rw [hd]; exact he', ⟨fun _ => hx, fun c => absurd hd c⟩, hb⟩
  · have hd : divER b1 n1 f1 n2 f2 b2 n3 f3 n4 f4 = chkRR b1 n1 f1 n2 f2 b2 n3 f3 n4 f4 := by unfold divER; rw [if_neg he]
    refine (ratDiv_bad h k he).mono ?_
    rintro e w' ⟨he', hb⟩
    exact ⟨zeroRat, by rw [hd]; exact he', ⟨fun c => absurd (hd ▸ c) he, fun _ => rfl⟩, hb⟩

/-- what a comparison answers -/
noncomputable def ratCV (b1 : Bool) (n1 : Nat) (f1 : Nat → Nat) (n2 : Nat) (f2 : Nat → Nat) (b2 : Bool) (n3 : Nat) (f3 : Nat → Nat) (n4 : Nat) (f4 : Nat → Nat) : Int := if chkRR b1 n1 f1 n2 f2 b2 n3 f3 n4 f4 = 0 then cq (rawq b1 n1 f1 n2 f2) (rawq b2 n3 f3 n4 f4) else 0

theorem ratCmpO {w : World} {b1 b2 : Bool} {A1 A2 A3 A4 : Option Addr} {n1 c1 n2 c2 n3 c3 n4 c4 : Nat} {f1 f2 f3 f4 : Nat → Nat} (h : Raw w b1 A1 n1 c1 f1 A2 n2 c2 f2) (k : Raw w b2 A3 n3 c3 f3 A4 n4 c4 f4) (hT : Tabs w) (l1 : ¬ Lg n1 n2) (l2 : ¬ Lg n3 n4) :
    Calls Tryz.prog 24 #[.agg #[.bool b1, .slice A1 n1 c1, .slice A2 n2 c2], .agg #[.bool b2, .slice A3 n3 c3, .slice A4 n4 c4]] w fun e w' => e = .returned (.tuple #[.int .i64 (ratCV b1 n1 f1 n2 f2 b2 n3 f3 n4 f4), .int .i64 (chkRR b1 n1 f1 n2 f2 b2 n3 f3 n4 f4)]) ∧ Below w.heap.size w w' := by
  by_cases he : chkRR b1 n1 f1 n2 f2 b2 n3 f3 n4 f4 = 0
  · obtain ⟨e1, e2⟩ := chkRR_zero he
    obtain ⟨ra, sa⟩ := h.q30 e1 l1
    obtain ⟨rb, sb⟩ := k.q30 e2 l2
    refine (ratCmpQ ra rb hT (sa.up (by omega)) (sb.up (by omega))).mono ?_
    rintro e w' ⟨he', hb⟩
    exact ⟨by rw [show ratCV b1 n1 f1 n2 f2 b2 n3 f3 n4 f4 = cq (rawq b1 n1 f1 n2 f2) (rawq b2 n3 f3 n4 f4) by unfold ratCV; rw [if_pos he], he]; exact he', hb⟩
  · refine (ratCmp_bad h k he).mono ?_
    rintro e w' ⟨he', hb⟩
    exact ⟨by rw [show ratCV b1 n1 f1 n2 f2 b2 n3 f3 n4 f4 = 0 by unfold ratCV; rw [if_neg he]]; exact he', hb⟩

end Go.Proofs.YtbjaolmlnkliiaaGreatDoor

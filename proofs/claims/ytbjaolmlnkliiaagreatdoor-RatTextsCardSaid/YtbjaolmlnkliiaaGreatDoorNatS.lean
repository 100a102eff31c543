/- The contracts of idle, then and leadingStep. Conditions as premises. -/
import Derived.Test.YtbjaolmlnkliiaaGreatDoorNatF
import Derived.Laws.Rows
namespace Go.Proofs.YtbjaolmlnkliiaaGreatDoor
open Go.RowKit Go.Shelf

set_option maxRecDepth 100000 in
set_option maxHeartbeats 800000 in
theorem idle_any (a b c d : Int) (w : World) :
    Calls Tryz.prog 234 #[.agg #[.int .i64 a, .int .i64 b, .int .i64 c, .int .i64 d]] w fun e w' => e = .returned (.bool (b == 0)) ∧ Below w.heap.size w w' := by
  have hb : Below w.heap.size w (w.alloc (.cells #[.int .i64 a, .int .i64 b, .int .i64 c, .int .i64 d] 234)) := (Below.refl _ _).alloc (Nat.le_refl _) _
  go_enter Tryz.func234, Tryz.ntmps234
  go_wp2_with fail
  go_ret
  exact ⟨rfl, hb⟩

set_option maxRecDepth 100000 in
set_option maxHeartbeats 1600000 in
theorem then_any (a b c d q : Int) (w : World) (hc0 : -9223372036854775808 ≤ q * c) (hc1 : q * c ≤ 9223372036854775807) (hd0 : -9223372036854775808 ≤ q * d) (hd1 : q * d ≤ 9223372036854775807)
    (ha0 : -9223372036854775808 ≤ a - q * c) (ha1 : a - q * c ≤ 9223372036854775807) (hb0 : -9223372036854775808 ≤ b - q * d) (hb1 : b - q * d ≤ 9223372036854775807) :
    Calls Tryz.prog 249 #[.agg #[.int .i64 a, .int .i64 b, .int .i64 c, .int .i64 d], .int .i64 q] w fun e w' => e = .returned (.agg #[.int .i64 c, .int .i64 d, .int .i64 (a - q * c), .int .i64 (b - q * d)]) ∧ Below w.heap.size w w' := by
  go_enter Tryz.func249, Tryz.ntmps249
  go_wp2_with fail
  refine bodyPost_ret (results_cell_row (p := 4) (ty := 234) rfl _ _ (w.heap.size + 1) 234 _ _ _ rfl (heap_alloc2_new _ _ _) Tryz.underlying234 rfl (by kernel_rfl)) rfl ?_
  exact ⟨rfl, ((Below.refl _ _).alloc (Nat.le_refl _) _).alloc (by simp) _⟩

/-- block S holds a step -/
def Stp (w : World) (S : Nat) (a b c d : Int) : Prop := w.heap[S]? = some (.cells #[.int .i64 a, .int .i64 b, .int .i64 c, .int .i64 d] 234 (0, 0))
section
variable {w w' : World} {S : Nat} {a b c d : Int}
theorem Stp.at0 (h : Stp w S a b c d) : w.cell? ⟨S, 0, none⟩ = some (.int .i64 a) := by rw [cell_of_row w S 0 _ _ _ h]; rfl
theorem Stp.at1 (h : Stp w S a b c d) : w.cell? ⟨S, 1, none⟩ = some (.int .i64 b) := by rw [cell_of_row w S 1 _ _ _ h]; rfl
theorem Stp.at2 (h : Stp w S a b c d) : w.cell? ⟨S, 2, none⟩ = some (.int .i64 c) := by rw [cell_of_row w S 2 _ _ _ h]; rfl
theorem Stp.at3 (h : Stp w S a b c d) : w.cell? ⟨S, 3, none⟩ = some (.int .i64 d) := by rw [cell_of_row w S 3 _ _ _ h]; rfl
theorem Stp.row (h : Stp w S a b c d) : w.rowIs S 234 4 (fun i => if i = 0 then .int .i64 a else if i = 1 then .int .i64 b else if i = 2 then .int .i64 c else .int .i64 d) :=
  ⟨_, h, rfl, fun i hi => by rcases (by omega : i = 0 ∨ i = 1 ∨ i = 2 ∨ i = 3) with rfl | rfl | rfl | rfl <;> rfl⟩
theorem Stp.frozen (h : Stp w S a b c d) (i : Nat) : w.frozen? ⟨S, i, none⟩ = false := World.rowIs.frozen h.row i
theorem Stp.put (h : Stp w S a b c d) (a' b' c' d' : Int) : Stp ((((w.setCell ⟨S, 0, none⟩ (.int .i64 a')).setCell ⟨S, 1, none⟩ (.int .i64 b')).setCell ⟨S, 2, none⟩ (.int .i64 c')).setCell ⟨S, 3, none⟩ (.int .i64 d')) S a' b' c' d' := by
  unfold Stp at *
  simp only [World.setCell, Array.getElem?_modify, h]
  simp
theorem Stp.keep (h : Stp w S a b c d) (e : w'.heap[S]? = w.heap[S]?) : Stp w' S a b c d := by unfold Stp at *; rw [e]; exact h
theorem Stp.far (h : Stp w S a b c d) {T : Nat} (hne : T ≠ S) (a' b' c' d' : Int) : Stp ((((w.setCell ⟨T, 0, none⟩ (.int .i64 a')).setCell ⟨T, 1, none⟩ (.int .i64 b')).setCell ⟨T, 2, none⟩ (.int .i64 c')).setCell ⟨T, 3, none⟩ (.int .i64 d')) S a b c d :=
  (((h.keep (Below.heap_setCell _ ⟨T, 0, none⟩ _ _ hne.symm)).keep (Below.heap_setCell _ ⟨T, 1, none⟩ _ _ hne.symm)).keep (Below.heap_setCell _ ⟨T, 2, none⟩ _ _ hne.symm)).keep (Below.heap_setCell _ ⟨T, 3, none⟩ _ _ hne.symm)
theorem Stp.lt (h : Stp w S a b c d) : S < w.heap.size := (Array.getElem?_eq_some_iff.1 h).1
end

set_option maxRecDepth 100000 in
set_option maxHeartbeats 1600000 in
theorem leadingStep_any (A A' : Option Addr) (n c m c' : Nat) (f g : Nat → Nat) (w : World) (hA : Rs w w.heap.size A n c f) (hB : Rs w w.heap.size A' m c' g) (hf : ∀ j, j < n → f j < LB) (hg : ∀ j, j < m → g j < LB) (hn3 : 3 ≤ n) (hn : n ≤ 4096) (hmn : m ≤ n) (hle : nv g m ≤ nv f n) :
    Calls Tryz.prog 233 #[.slice A n c, .slice A' m c'] w fun e w' => ∃ a b c d : Int, e = .returned (.agg #[.int .i64 a, .int .i64 b, .int .i64 c, .int .i64 d]) ∧ Below w.heap.size w w' ∧ (b ≠ 0 → ∃ X Y, StepOk (nv f n) (nv g m) a b c d X Y) := by
  have hn4 : m ≤ 4096 := by omega
  go_enter Tryz.func233, Tryz.ntmps233
  go_wp2_with fail
  have hb0 : Below w.heap.size w (w.alloc (.cells #[.int .i64 0, .int .i64 0, .int .i64 0, .int .i64 0] 234)) := (Below.refl _ _).alloc (Nat.le_refl _) _
  refine (leadingShift_any A n c f _ ((hA.below hb0).more hb0.size) hf hn3 hn).mono ?_
  rintro _ w1 ⟨sh, rfl, hb1, hsh, hT⟩
  go_wp2_with fail
  have hb1' := hb0.trans (hb1.mono hb0.size)
  refine (leading_any A n c n sh f w1 ((hA.below hb1').more hb1'.size) hf hn3 hn hn hsh hT).mono ?_
  rintro _ w2 ⟨rfl, hb2⟩
  go_wp2_with fail
  have hb2' := hb1'.trans (hb2.mono hb1'.size)
  have hT2 : Big (top3 g m n < 4611686018427387904 * 2 ^ sh) := Big.mk (Nat.lt_of_le_of_lt (top3_mono hf hg (Nat.le_refl _) hmn hn3 hle) hT.out)
  refine (leading_any A' m c' n sh g w2 ((hB.below hb2').more hb2'.size) hg hn3 hn hn4 hsh hT2).mono ?_
  rintro _ w3 ⟨rfl, hb3⟩
  go_wp2_with fail
  have hb3' := hb2'.trans (hb3.mono hb2'.size)
  have hr0 : Stp w3 w.heap.size 0 0 0 0 := by
    have h0 : Stp (w.alloc (.cells #[.int .i64 0, .int .i64 0, .int .i64 0, .int .i64 0] 234)) w.heap.size 0 0 0 0 := heap_alloc_new _ _
    have h1 := h0.keep (hb1.block _ h0.lt)
    have h2 := h1.keep (hb2.block _ h1.lt)
    exact h2.keep (hb3.block _ h2.lt)
  have hs0 : Stp (w3.alloc (.cells #[.int .i64 1, .int .i64 0, .int .i64 0, .int .i64 1] 234)) w3.heap.size 1 0 0 1 := heap_alloc_new _ _
  have hr1 := hr0.keep (Below.heap_alloc w3 (.cells #[.int .i64 1, .int .i64 0, .int .i64 0, .int .i64 1] 234) _ hr0.lt)
  have hb4 := hb3'.alloc hb3'.size (.cells #[.int .i64 1, .int .i64 0, .int .i64 0, .int .i64 1] 234)
  have hne : w3.heap.size ≠ w.heap.size := by have := hr0.lt; omega
  have hSw : w.heap.size ≤ w3.heap.size := hb3'.size
  have hXY : iv (top3 g m n / 2 ^ sh) ≤ iv (top3 f n n / 2 ^ sh) := by rw [iv_eq, iv_eq]; exact Int.ofNat_le.2 (Nat.div_le_div_right (top3_mono hf hg (Nat.le_refl _) hmn hn3 hle))
  have hX1 : iv (top3 f n n / 2 ^ sh) < 4611686018427387904 := by
    have h := (Nat.div_lt_iff_lt_mul (Nat.pow_pos (show 0 < 2 by omega))).2 hT.out
    rw [iv_eq]; omega
  have hY0 := iv_nonneg (top3 g m n / 2 ^ sh)
  have HFIN : Hid (∀ x y a b c d, Lh (iv (top3 f n n / 2 ^ sh)) (iv (top3 g m n / 2 ^ sh)) x y a b c d → b ≠ 0 → ∃ X Y, StepOk (nv f n) (nv g m) a b c d X Y) := Lib.hid fun x y a b c d h hb => by
    obtain ⟨n1, n2⟩ := top3_shift (sh := sh) hf (Nat.le_refl n) hn3
    obtain ⟨m1, m2⟩ := top3_shift (sh := sh) hg hmn hn3
    have hU : 0 < 2 ^ sh * LB ^ (n - 3) := Nat.mul_pos (Nat.pow_pos (by omega)) (Nat.pow_pos LB_pos)
    refine h.done (U := ((2 ^ sh * LB ^ (n - 3) : Nat) : Int)) (by omega) hY0 hXY hX1 ?_ ?_ ?_ ?_ hb
    · rw [iv_eq, ← Int.natCast_mul]; exact Int.ofNat_le.2 n1
    · rw [iv_eq, show (((top3 f n n / 2 ^ sh : Nat) : Int) + 1) = ((top3 f n n / 2 ^ sh + 1 : Nat) : Int) by omega, ← Int.natCast_mul]; exact Int.ofNat_le.2 (Nat.le_of_lt n2)
    · rw [iv_eq, ← Int.natCast_mul]; exact Int.ofNat_le.2 m1
    · rw [iv_eq, show (((top3 g m n / 2 ^ sh : Nat) : Int) + 1) = ((top3 g m n / 2 ^ sh + 1 : Nat) : Int) by omega, ← Int.natCast_mul]; exact Int.ofNat_le.2 (Nat.le_of_lt m2)
  have hst := Lib.hid (Lh.start hY0 hXY)
  clear hb0 hb1 hb2 hb3 hb1' hb2' hb3' hr0 hT hT2 hsh hf hg hle
  generalize iv (top3 f n n / 2 ^ sh) = X0 at *
  generalize iv (top3 g m n / 2 ^ sh) = Y0 at *
  generalize w3.alloc (.cells #[.int .i64 1, .int .i64 0, .int .i64 0, .int .i64 1] 234) = w4 at *
  generalize w3.heap.size = S at *
  go_loopw [6, 7, 9] (fun x y _ wr => ∃ X Y a b c d : Int, x = .int .i64 X ∧ y = .int .i64 Y ∧ Stp wr S a b c d ∧ Stp wr w.heap.size 0 0 0 0 ∧ Hid (Lh X0 Y0 X Y a b c d) ∧ Below w.heap.size w wr) (fun _ y _ _ => (intOf y).toNat)
  case atStart => exact ⟨X0, Y0, 1, 0, 0, 1, rfl, rfl, hs0, hr1, hst, hb4⟩
  case round =>
    obtain ⟨X, Y, a, b, c, d, rfl, rfl, hst, hrs, hlh, hb⟩ := hrel
    obtain ⟨ha, hbb, hc, hd, hy, hx, hyx⟩ := hlh.out.size (by omega)
    have h0 := hst.at0
    have h1 := hst.at1
    have h2 := hst.at2
    have h3 := hst.at3
    have r0 := hrs.at0
    have r1 := hrs.at1
    have r2 := hrs.at2
    have r3 := hrs.at3
    have z0 := hrs.frozen 0
    have z1 := hrs.frozen 1
    have z2 := hrs.frozen 2
    have z3 := hrs.frozen 3
    have p1 := hlh.out.c1
    have p2 := hlh.out.c2
    have p3 := hlh.out.c3
    have p4 := hlh.out.c4
    have hput := hrs.put a b c d
    have hbel := ((((hb.setCell (p := ⟨w.heap.size, 0, none⟩) (Nat.le_refl _) (.int .i64 a)).setCell (p := ⟨w.heap.size, 1, none⟩) (Nat.le_refl _) (.int .i64 b)).setCell (p := ⟨w.heap.size, 2, none⟩) (Nat.le_refl _) (.int .i64 c)).setCell (p := ⟨w.heap.size, 3, none⟩) (Nat.le_refl _) (.int .i64 d))
    have HPUT := Lib.hid hput
    have HBEL := Lib.hid hbel
    clear hput hbel
    by_cases hc0 : Y + c = 0
    · have hcb : (Y + c == 0) = true := beq_iff_eq.2 hc0
      go_wp2_with fail
      refine bodyPost_ret (results_cell_row (p := 4) (ty := 234) rfl _ _ w.heap.size 234 _ _ _ rfl HPUT.out Tryz.underlying234 rfl (by kernel_rfl)) rfl ?_
      exact ⟨a, b, c, d, rfl, HBEL.out, HFIN.out _ _ _ _ _ _ hlh.out⟩
    · have hcb : (Y + c == 0) = false := beq_eq_false_iff_ne.2 hc0
      by_cases hd0 : Y + d = 0
      · have hdb : (Y + d == 0) = true := beq_iff_eq.2 hd0
        go_wp2_with fail
        refine bodyPost_ret (results_cell_row (p := 4) (ty := 234) rfl _ _ w.heap.size 234 _ _ _ rfl HPUT.out Tryz.underlying234 rfl (by kernel_rfl)) rfl ?_
        exact ⟨a, b, c, d, rfl, HBEL.out, HFIN.out _ _ _ _ _ _ hlh.out⟩
      · have hdb : (Y + d == 0) = false := beq_eq_false_iff_ne.2 hd0
        have hcn : (Y + c != 0) = true := bne_iff_ne.2 hc0
        have hdn : (Y + d != 0) = true := bne_iff_ne.2 hd0
        have q0 : 0 ≤ (X + a) / (Y + c) := Int.ediv_nonneg p1 p3
        have q1 : (X + a) / (Y + c) ≤ X + a := Int.ediv_le_self _ p1
        have q2 : 0 ≤ (X + b) / (Y + d) := Int.ediv_nonneg p2 p4
        have q3 : (X + b) / (Y + d) ≤ X + b := Int.ediv_le_self _ p2
        by_cases hqq : (X + a) / (Y + c) = (X + b) / (Y + d)
        · have hqn : ((X + a) / (Y + c) != (X + b) / (Y + d)) = false := by rw [bne_eq_false_iff_eq]; exact hqq
          obtain ⟨hnx, hq1, hlt⟩ := hlh.out.next (q := (X + a) / (Y + c)) hc0 hd0 rfl hqq
          obtain ⟨na, nb, nc, nd, ny, nx, nyx⟩ := hnx.size (by omega)
          have HNX := Lib.hid hnx
          have HQQ := Lib.hid hqq
          have HLT := Lib.hid hlt
          clear hqq hnx
          have HTH := Lib.hid (then_any a b c d ((X + a) / (Y + c)) wr (by omega) (by omega) (by omega) (by omega) (by omega) (by omega) (by omega) (by omega))
          go_wp2_with fail
          refine HTH.out.mono ?_
          rintro _ wt ⟨rfl, hbt⟩
          clear h0 h1 h2 h3 r0 r1 r2 r3 z0 z1 z2 z3 HPUT HBEL HTH
          have hst1 := hst.keep (hbt.block _ hst.lt)
          have hrs1 := hrs.keep (hbt.block _ hrs.lt)
          have hb1 := hb.trans (hbt.mono hb.size)
          have h0 := hst1.at0
          have h1 := hst1.at1
          have h2 := hst1.at2
          have h3 := hst1.at3
          have z0 := hst1.frozen 0
          have z1 := hst1.frozen 1
          have z2 := hst1.frozen 2
          have z3 := hst1.frozen 3
          have HP := Lib.hid (hst1.put c d (a - (X + a) / (Y + c) * c) (b - (X + a) / (Y + c) * d))
          have HB2 := Lib.hid ((((hb1.setCell (p := ⟨S, 0, none⟩) hSw (.int .i64 c)).setCell (p := ⟨S, 1, none⟩) hSw (.int .i64 d)).setCell (p := ⟨S, 2, none⟩) hSw (.int .i64 (a - (X + a) / (Y + c) * c))).setCell (p := ⟨S, 3, none⟩) hSw (.int .i64 (b - (X + a) / (Y + c) * d)))
          have HR2 := Lib.hid (hrs1.far hne c d (a - (X + a) / (Y + c) * c) (b - (X + a) / (Y + c) * d))
          clear hst hrs hb hst1 hrs1 hb1 hbt hlh
          generalize (X + a) / (Y + c) = q at *
          have y0 : -9223372036854775808 ≤ q * Y := by omega
          have y1 : q * Y ≤ 9223372036854775807 := by omega
          go_wp2_with fail

          go_roundw
          case rel => exact ⟨Y, X - q * Y, c, d, _, _, rfl, rfl, HP.out, HR2.out, HNX.out, HB2.out⟩
          case measure => have := HLT.out; simp [intOf]; omega
        · have hqn : ((X + a) / (Y + c) != (X + b) / (Y + d)) = true := bne_iff_ne.2 hqq
          have HQQ := Lib.hid hqq
          clear hqq
          go_wp2_with fail
          refine bodyPost_ret (results_cell_row (p := 4) (ty := 234) rfl _ _ w.heap.size 234 _ _ _ rfl HPUT.out Tryz.underlying234 rfl (by kernel_rfl)) rfl ?_
          exact ⟨a, b, c, d, rfl, HBEL.out, HFIN.out _ _ _ _ _ _ hlh.out⟩

end Go.Proofs.YtbjaolmlnkliiaaGreatDoor

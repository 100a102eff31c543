/- The contracts of Of, Int and Cmp, of the program and of the reference. Conditions as premises: the lists read. -/
import Derived.Test.YtoonhjeiommhcaaDoorLit
namespace Go.Proofs.YtoonhjeiommhcaaDoor
open Go.RowKit

theorem refOf_neg (a : Int) (h : a < 0) (w : World) :
    Calls Tryd.prog 10 #[.int .i64 a] w fun e w' => e = .returned (.tuple #[.slice none 0 0, .int .i64 2]) ∧ w = w' := by
  go_enter Tryd.func10, Tryd.ntmps10
  go_wp2
  go_ret2
  exact ⟨rfl, rfl⟩

set_option maxHeartbeats 800000 in
theorem refOf_nat (N : Nat) (hN : Big (N ≤ 9223372036854775807)) (w : World) :
    Calls Tryd.prog 10 #[.int .i64 (iv N)] w fun e w' => ∃ v, e = .returned (.tuple #[v, .int .i64 0]) ∧ Made w N v w' := by
  have hpos := iv_nonneg N
  generalize hgn : iv N = z at *
  have HGN := Lib.hid hgn
  clear hgn
  go_enter Tryd.func10, Tryd.ntmps10
  go_wp2
  go_loopw [0, 4] (fun u v wr => ∃ k : Nat, k ≤ 3 ∧ u = .int .i64 (iv (N / LB ^ k)) ∧ Own wr w.heap.size v k (dig N) ∧ Below w.heap.size w wr ∧ Hid (∀ j, j < k → N / LB ^ j ≠ 0)) (fun u _ _ => (intOf u).toNat)
  case atStart => exact ⟨0, by omega, by rw [← HGN.out]; simp, Own.nil _ _ _, Below.refl _ _, fun j hj => by omega⟩
  case round =>
    obtain ⟨k, hk, rfl, hown, hbel, hpre⟩ := hrel
    have hx0 : 0 ≤ iv (N / LB ^ k) := iv_nonneg _
    have hmod := Lib.hid (iv_mod N k)
    have hdiv := Lib.hid (iv_div N k)
    by_cases hq : N / LB ^ k = 0
    · rw [show iv (N / LB ^ k) = 0 by rw [hq, iv_zero]]
      have HQ := Lib.hid hq
      clear hq hx0
      go_wp2
      go_ret2
      exact ⟨_, rfl, made_of hown hbel HQ.out hpre.out⟩
    · have hz := iv_pos hq
      have hx1 : iv (N / LB ^ k) ≤ 9223372036854775807 := by
        have h2 := iv_le (Nat.le_trans (Nat.div_le_self N (LB ^ k)) hN.out)
        exact h2
      have hk3 := div_lt3 (by have := hN.out; omega) hq
      have HQ := Lib.hid hq
      clear hq
      generalize hgx : iv (N / LB ^ k) = x at *
      have HGX := Lib.hid hgx
      clear hgx
      have hsz := hbel.size
      obtain ⟨i0, hi, hz0, hz1, hz2⟩ := info_parts info32
      go_wp2_with (at_builtin; refine wpList_append_own _ rfl (.tmp 9) (.tmp 13) 23 rfl w.heap.size 30 i0 (.int .u32 0) 1 4 Tryd.underlying23 hi hz0 hz1 hz2 rfl (by decide) _ _ _ rfl (World.ownsRow.alloc hown _) ⟨wr.heap.size, 0, none⟩ 1 1 [.int .u32 (x % 1000000000)] rfl rfl (cell_one_new _ _ _) ?c2 ?c3 ?c4 ?c5 ?_)
      case c2 => intro u hu; simp at hu; subst hu; rfl
      case c3 => unfold maxLen; omega
      case c4 => omega
      case c5 => simp; omega
      intro v' w1 hown' hgrow _
      have hb1 := snoc_below hown hbel (Nat.le_refl _) hsz hgrow
      rw [hmod.out] at hown'
      have hown1 := Own.snoc hown' rfl
      clear hown' hgrow hown hbel
      go_wp2
      go_roundw
      case rel => exact ⟨k + 1, by omega, by rw [hdiv.out], hown1, hb1, fun j hj => by
        by_cases e : j = k
        · subst e; exact HQ.out
        · exact hpre.out j (by omega)⟩
      case measure => simp [intOf]; omega

theorem refOf_pos (x : Int) (h0 : 0 ≤ x) (h1 : Big (x ≤ 9223372036854775807)) (w : World) :
    Calls Tryd.prog 10 #[.int .i64 x] w fun e w' => ∃ v, e = .returned (.tuple #[v, .int .i64 0]) ∧ Made w x.toNat v w' := by
  obtain ⟨N, rfl⟩ := Int.eq_ofNat_of_zero_le h0
  have h := refOf_nat N (Big.mk (by have := h1.out; omega)) w
  rw [iv_eq] at h
  exact h

/-- what Cmp says of two lists: the value, then the error -/
noncomputable def cmpV (n : Nat) (f : Nat → Nat) (m : Nat) (g : Nat → Nat) : Value := .tuple #[.int .i64 (if chk2 n f m g = 0 then cn (nv f n) (nv g m) else 0), .int .i64 (chk2 n f m g)]

set_option maxHeartbeats 400000 in
theorem natCmp_any (A A' : Option Addr) (n c m c' : Nat) (f g : Nat → Nat) (w : World) (hA : Rs w w.heap.size A n c f) (hB : Rs w w.heap.size A' m c' g) :
    Calls Tryd.prog 16 #[.slice A n c, .slice A' m c'] w fun e w' => e = .returned (cmpV n f m g) ∧ Below w.heap.size w w' := by
  have hA1 := hA.alloc (Nat.le_refl _) (.cells #[.slice A n c, .slice A' m c'] 23)
  have hB1 := hB.alloc (Nat.le_refl _) (.cells #[.slice A n c, .slice A' m c'] 23)
  have c1 := checkAll_any w.heap.size A A' n c m c' f g _ _ (w.alloc (.cells #[.slice A n c, .slice A' m c'] 23)) hA1 hB1 (by rw [World.cell?_alloc_at _ _ _ _ rfl]; rfl) (by rw [World.cell?_alloc_at _ _ _ _ rfl]; rfl)
  have hbel : Below w.heap.size w (w.alloc (.cells #[.slice A n c, .slice A' m c'] 23)) := (Below.refl _ _).alloc (Nat.le_refl _) _
  by_cases h : chk2 n f m g = 0
  · obtain ⟨e1, e2⟩ := chk2_zero h
    rw [h] at c1
    have c2 := compare_any A A' n c m c' f g _ _ (w.alloc (.cells #[.slice A n c, .slice A' m c'] 23)) hA1 hB1 (chk_zero e1).2 (chk_zero e2).2
    rw [show cmpV n f m g = .tuple #[.int .i64 (cn (nv f n) (nv g m)), .int .i64 0] by unfold cmpV; rw [if_pos h, h]]
    have C1 := Lib.hid c1
    have C2 := Lib.hid c2
    clear c1 c2 h e1 e2
    go_enter Tryd.func16, Tryd.ntmps16
    go_wp2_with fail
    refine C1.out.mono ?_
    rintro e w' ⟨rfl, rfl⟩
    go_wp2_with fail
    refine C2.out.mono ?_
    rintro e w' ⟨rfl, k, rfl⟩
    go_wp2_with fail
    go_ret2
    exact ⟨rfl, hbel.trans ((Qt.n1 _ k).below.mono (by simp))⟩
  · rw [show cmpV n f m g = .tuple #[.int .i64 0, .int .i64 (chk2 n f m g)] by unfold cmpV; rw [if_neg h]]
    have h1 : (chk2 n f m g != 0) = true := by rw [bne_iff_ne]; exact h
    have h2 : (chk2 n f m g == 0) = false := by rw [beq_eq_false_iff_ne]; exact h
    have C1 := Lib.hid c1
    clear c1 h
    go_enter Tryd.func16, Tryd.ntmps16
    go_wp2_with fail
    refine C1.out.mono ?_
    rintro e w' ⟨rfl, rfl⟩
    go_wp2_with fail
    go_ret2
    exact ⟨rfl, hbel⟩

set_option maxHeartbeats 400000 in
theorem refCmp_any (A A' : Option Addr) (n c m c' : Nat) (f g : Nat → Nat) (w : World) (hA : Rs w w.heap.size A n c f) (hB : Rs w w.heap.size A' m c' g) :
    Calls Tryd.prog 17 #[.slice A n c, .slice A' m c'] w fun e w' => e = .returned (cmpV n f m g) ∧ Below w.heap.size w w' := by
  have c1 := both_any A A' n c m c' f g _ _ w hA hB
  by_cases h : chk2 n f m g = 0
  · obtain ⟨e1, e2⟩ := chk2_zero h
    rw [h] at c1
    have c2 := order_any A A' n c m c' f g _ _ w hA hB (chk_zero e1).2 (chk_zero e2).2
    rw [show cmpV n f m g = .tuple #[.int .i64 (cn (nv f n) (nv g m)), .int .i64 0] by unfold cmpV; rw [if_pos h, h]]
    have C1 := Lib.hid c1
    have C2 := Lib.hid c2
    clear c1 c2 h e1 e2
    go_enter Tryd.func17, Tryd.ntmps17
    go_wp2_with fail
    refine C1.out.mono ?_
    rintro e w' ⟨rfl, rfl⟩
    go_wp2_with fail
    refine C2.out.mono ?_
    rintro e w' ⟨rfl, k, rfl⟩
    go_wp2_with fail
    go_ret2
    exact ⟨rfl, (Qt.n1 _ k).below⟩
  · rw [show cmpV n f m g = .tuple #[.int .i64 0, .int .i64 (chk2 n f m g)] by unfold cmpV; rw [if_neg h]]
    have h1 : (chk2 n f m g != 0) = true := by rw [bne_iff_ne]; exact h
    have h2 : (chk2 n f m g == 0) = false := by rw [beq_eq_false_iff_ne]; exact h
    have C1 := Lib.hid c1
    clear c1 h
    go_enter Tryd.func17, Tryd.ntmps17
    go_wp2_with fail
    refine C1.out.mono ?_
    rintro e w' ⟨rfl, rfl⟩
    go_wp2_with fail
    go_ret2
    exact ⟨rfl, Below.refl _ _⟩

end Go.Proofs.YtoonhjeiommhcaaDoor

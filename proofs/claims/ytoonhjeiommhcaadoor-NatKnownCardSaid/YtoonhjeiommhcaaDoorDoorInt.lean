/- The contracts of Int, of the program and of the reference. Conditions as premises: the list reads. -/
import Derived.Test.YtoonhjeiommhcaaDoorDoorOne
namespace Go.Proofs.YtoonhjeiommhcaaDoor
open Go.RowKit

@[irreducible] def maxI : Nat := 9223372036854775807
theorem maxI_eq : maxI = 9223372036854775807 := by unfold maxI; rfl

theorem fromWord_max (w : World) :
    Calls Tryd.prog 33 #[.int .u64 9223372036854775807] w fun e w' => ∃ v, e = .returned v ∧ Made w maxI v w' := by
  have h := fromWord_nat maxI (Big.mk (by rw [maxI_eq]; omega)) w
  have e : iv maxI = 9223372036854775807 := by rw [iv_eq, maxI_eq]; rfl
  rw [e] at h
  exact h

theorem l3_max : nv (l3 854775807 223372036 9) 3 = maxI := by
  rw [maxI_eq]; simp only [nv, l3, LB_eq]; rfl
theorem l3_val : Val 3 (l3 854775807 223372036 9) := by
  refine ⟨fun j _ => ?_, fun _ => by unfold l3; decide⟩
  rw [LB_eq]
  unfold l3
  split
  · decide
  · split <;> decide

/-- what Int says of a list: the value, then the error -/
noncomputable def intV (n : Nat) (f : Nat → Nat) : Value :=
  if chk n f = 0 then (if maxI < nv f n then .tuple #[.int .i64 0, .int .i64 5] else .tuple #[.int .i64 (iv (nv f n)), .int .i64 0]) else .tuple #[.int .i64 0, .int .i64 (chk n f)]
theorem intV_bad {n : Nat} {f : Nat → Nat} (h : ¬ chk n f = 0) : intV n f = .tuple #[.int .i64 0, .int .i64 (chk n f)] := by unfold intV; rw [if_neg h]
theorem intV_over {n : Nat} {f : Nat → Nat} (h : chk n f = 0) (k : maxI < nv f n) : intV n f = .tuple #[.int .i64 0, .int .i64 5] := by unfold intV; rw [if_pos h, if_pos k]
theorem intV_ok {n : Nat} {f : Nat → Nat} (h : chk n f = 0) (k : ¬ maxI < nv f n) : intV n f = .tuple #[.int .i64 (iv (nv f n)), .int .i64 0] := by unfold intV; rw [if_pos h, if_neg k]

theorem cn_pos {a b : Nat} (h : b < a) : 0 < cn a b := by rw [cn_gt h]; decide
theorem cn_le {a b : Nat} (h : ¬ b < a) : cn a b ≤ 0 := by
  rcases Nat.lt_or_ge a b with k | k
  · rw [cn_lt k]; decide
  · rw [cn_eq (by omega)]; decide

set_option maxHeartbeats 800000 in
theorem natInt_any (A : Option Addr) (n c : Nat) (f : Nat → Nat) (w : World) (h : Rs w w.heap.size A n c f) :
    Calls Tryd.prog 14 #[.slice A n c] w fun e w' => e = .returned (intV n f) ∧ Below w.heap.size w w' := by
  have c1 := check_any A n c f _ w h
  by_cases hk : chk n f = 0
  · rw [hk] at c1
    have C1 := Lib.hid c1
    clear c1
    have hv := Lib.hid (chk_zero hk).2
    by_cases hover : maxI < nv f n
    · rw [intV_over hk hover]
      have HO := Big.mk hover
      clear hk hover
      go_enter Tryd.func14, Tryd.ntmps14
      go_wp2_with fail
      refine C1.out.mono ?_
      rintro e w' ⟨rfl, rfl⟩
      go_wp2_with fail
      refine (fromWord_max _).mono ?_
      rintro e w1 ⟨v, rfl, A2, n2, c2, f2, rfl, hr2, hd2, hb⟩
      have hcmp := compare_any A A2 n c n2 c2 f f2 _ _ w1 (h.below hb) hr2 hv.out hd2.ok
      rw [hd2.eq] at hcmp
      have hpos := cn_pos HO.out
      generalize cn (nv f n) maxI = z at *
      have HC := Lib.hid hcmp
      have HD := Lib.hid hd2
      clear hcmp hd2
      go_wp2_with fail
      refine HC.out.mono ?_
      rintro e w' ⟨rfl, d, rfl⟩
      go_wp2_with fail
      go_ret2
      exact ⟨rfl, hb.trans ((Qt.n1 _ d).below.mono hb.size)⟩
    · rw [intV_ok hk hover]
      have HO := Big.mk hover
      have HB : Big (nv f n < 18446744073709551616) := Big.mk (by rw [maxI_eq] at hover; omega)
      clear hk hover
      go_enter Tryd.func14, Tryd.ntmps14
      go_wp2_with fail
      refine C1.out.mono ?_
      rintro e w' ⟨rfl, rfl⟩
      go_wp2_with fail
      refine (fromWord_max _).mono ?_
      rintro e w1 ⟨v, rfl, A2, n2, c2, f2, rfl, hr2, hd2, hb⟩
      have hcmp := compare_any A A2 n c n2 c2 f f2 _ _ w1 (h.below hb) hr2 hv.out hd2.ok
      rw [hd2.eq] at hcmp
      have hpos := cn_le HO.out
      have hpos' : ¬ 0 < cn (nv f n) maxI := by omega
      generalize cn (nv f n) maxI = z at *
      have HC := Lib.hid hcmp
      have HD := Lib.hid hd2
      clear hcmp hd2
      go_wp2_with fail
      refine HC.out.mono ?_
      rintro e w' ⟨rfl, d, rfl⟩
      have hw := toWord_any A n c f w.heap.size (w1.drewN d) ((h.below hb).drewN d) HB
      have HW := Lib.hid hw
      clear hw
      go_wp2_with fail
      refine HW.out.mono ?_
      rintro e w' ⟨rfl, rfl⟩
      have hx0 := iv_nonneg (nv f n)
      have hx1 : iv (nv f n) ≤ 9223372036854775807 := by have := HO.out; rw [maxI_eq] at this; rw [iv_eq]; omega
      generalize hgz : iv (nv f n) = z at *
      have HZ := Lib.hid hgz
      clear hgz
      go_wp2_with fail
      go_ret2
      exact ⟨by rw [HZ.out]; rfl, hb.trans ((Qt.n1 _ d).below.mono hb.size)⟩
  · rw [intV_bad hk]
    have h1 : (chk n f != 0) = true := by rw [bne_iff_ne]; exact hk
    have h2 : (chk n f == 0) = false := by rw [beq_eq_false_iff_ne]; exact hk
    have C1 := Lib.hid c1
    clear c1 hk
    go_enter Tryd.func14, Tryd.ntmps14
    go_wp2_with fail
    refine C1.out.mono ?_
    rintro e w' ⟨rfl, rfl⟩
    go_wp2_with fail
    go_ret2
    exact ⟨rfl, Below.refl _ _⟩

theorem l3_cells : (#[Value.int .u32 (iv 854775807), .int .u32 (iv 223372036), .int .u32 (iv 9)] : Array Value) = #[.int .u32 854775807, .int .u32 223372036, .int .u32 9] := by
  rw [iv_eq, iv_eq, iv_eq]; rfl

theorem rs_max (w : World) : Rs (w.alloc (.cells #[.int .u32 854775807, .int .u32 223372036, .int .u32 9] 30)) (w.heap.size + 1) (some ⟨w.heap.size, 0, none⟩) 3 3 (l3 854775807 223372036 9) := by
  have h := rs_l3 w 854775807 223372036 9 (by omega) (by omega) (by omega)
  rw [l3_cells] at h
  exact h

set_option maxHeartbeats 800000 in
theorem refInt_any (A : Option Addr) (n c : Nat) (f : Nat → Nat) (w : World) (h : Rs w w.heap.size A n c f) :
    Calls Tryd.prog 15 #[.slice A n c] w fun e w' => e = .returned (intV n f) ∧ Below w.heap.size w w' := by
  have c1 := refCheck_any A n c f _ w h
  have hmax : n ≤ 9223372036854775807 := Nat.le_trans h.cap h.max
  by_cases hk : chk n f = 0
  · rw [hk] at c1
    have C1 := Lib.hid c1
    clear c1
    have hord := order_any A (some ⟨w.heap.size, 0, none⟩) n c 3 3 f (l3 854775807 223372036 9) _ _ (w.alloc (.cells #[.int .u32 854775807, .int .u32 223372036, .int .u32 9] 30)) (h.alloc (Nat.le_refl _) _) (rs_max w) (chk_zero hk).2 l3_val
    rw [l3_max] at hord
    have hb : Below w.heap.size w (w.alloc (.cells #[.int .u32 854775807, .int .u32 223372036, .int .u32 9] 30)) := (Below.refl _ _).alloc (Nat.le_refl _) _
    by_cases hover : maxI < nv f n
    · rw [intV_over hk hover]
      have hpos := cn_pos hover
      generalize cn (nv f n) maxI = z at *
      have HC := Lib.hid hord
      clear hk hover hord hmax
      go_enter Tryd.func15, Tryd.ntmps15
      go_wp2_with fail
      refine C1.out.mono ?_
      rintro e w' ⟨rfl, rfl⟩
      go_wp2_with fail
      refine HC.out.mono ?_
      rintro e w' ⟨rfl, d, rfl⟩
      go_wp2_with fail
      go_ret2
      exact ⟨rfl, hb.trans ((Qt.n1 _ d).below.mono hb.size)⟩
    · rw [intV_ok hk hover]
      have HO := Big.mk hover
      have hpos := cn_le hover
      have hpos' : ¬ 0 < cn (nv f n) maxI := by omega
      generalize cn (nv f n) maxI = z at *
      have HC := Lib.hid hord
      clear hk hover hord
      go_enter Tryd.func15, Tryd.ntmps15
      have HM := Big.mk hmax
      clear hmax
      go_wp2_with fail
      refine C1.out.mono ?_
      rintro e w' ⟨rfl, rfl⟩
      go_wp2_with fail
      refine HC.out.mono ?_
      rintro e w' ⟨rfl, d, rfl⟩
      have hmax : (n : Int) ≤ 9223372036854775807 := by have := HM.out; omega
      go_wp2_with fail
      go_loop [5, 6] (fun x i => ∃ k : Nat, k ≤ n ∧ i = .int .i64 ((k : Int) - 1) ∧ x = .int .i64 (iv (hi f n k))) (fun _ i => (intOf i + 1).toNat)
      case atStart => exact ⟨n, by omega, rfl, by rw [hi_top, iv_zero]⟩
      case round =>
        obtain ⟨k, hk, rfl, rfl⟩ := hrel
        by_cases hk0 : k = 0
        · subst hk0
          rw [hi_zero]
          go_wp2
          go_ret2
          exact ⟨rfl, hb.trans ((Qt.n1 _ d).below.mono hb.size)⟩
        · obtain ⟨q, rfl⟩ : ∃ q, k = q + 1 := ⟨k - 1, by omega⟩
          rw [show (((q + 1 : Nat) : Int) - 1) = (q : Int) by omega]
          obtain ⟨b, off, rfl, hbb, hc⟩ := (h.alloc (Nat.le_refl _) (.cells #[.int .u32 854775807, .int .u32 223372036, .int .u32 9] 30)).cell (by omega)
          have hck := hc q (by omega)
          clear hc
          have hst := Lib.hid (hi_iv f n q (by omega))
          have hb1 : iv (hi f n (q + 1)) * 1000000000 + iv (f q) ≤ 9223372036854775807 := by
            rw [hst.out]
            have h1 := hi_le f n q (by omega)
            have h2 := HO.out
            rw [maxI_eq] at h2
            rw [iv_eq]; omega
          have hx0 := iv_nonneg (hi f n (q + 1))
          have hf0 := iv_nonneg (f q)
          generalize hgx : iv (hi f n (q + 1)) = x at *
          generalize hgy : iv (f q) = y at *
          have HGX := Lib.hid hgx
          have HGY := Lib.hid hgy
          clear hgx hgy
          go_wp2
          go_round
          case rel => exact ⟨q, by omega, rfl, by rw [hst.out]⟩
          case measure => simp [intOf] <;> omega
  · rw [intV_bad hk]
    have h1 : (chk n f != 0) = true := by rw [bne_iff_ne]; exact hk
    have h2 : (chk n f == 0) = false := by rw [beq_eq_false_iff_ne]; exact hk
    have C1 := Lib.hid c1
    clear c1 hk hmax
    go_enter Tryd.func15, Tryd.ntmps15
    go_wp2_with fail
    refine C1.out.mono ?_
    rintro e w' ⟨rfl, rfl⟩
    go_wp2_with fail
    go_ret2
    exact ⟨rfl, Below.refl _ _⟩

end Go.Proofs.YtoonhjeiommhcaaDoor

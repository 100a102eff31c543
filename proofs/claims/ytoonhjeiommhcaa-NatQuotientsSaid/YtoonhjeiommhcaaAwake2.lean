/- The contract of 'awake': it returns true. No conditions. -/
import Derived.Test.YtoonhjeiommhcaaAwake
namespace Go.Proofs.Ytoonhjeiommhcaa
open Go.RowKit

/-- a literal slice of one, two, three limbs as the walk writes it -/
theorem lit1 (w : World) (a : Nat) (x : Int) (h : (a : Int) = x) (ha : a < 4294967296) : Rs (w.alloc (.cells #[.int .u32 x] 30)) (w.heap.size + 1) (some ⟨w.heap.size, 0, none⟩) 1 1 (l1 a) := by
  have k := rs_l1 w a ha
  rw [iv_n a x h] at k
  exact k
theorem lit2 (w : World) (a b : Nat) (x y : Int) (h : (a : Int) = x) (k : (b : Int) = y) (ha : a < 4294967296) (hb : b < 4294967296) : Rs (w.alloc (.cells #[.int .u32 x, .int .u32 y] 30)) (w.heap.size + 1) (some ⟨w.heap.size, 0, none⟩) 2 2 (l2 a b) := by
  have k' := rs_l2 w a b ha hb
  rw [iv_n a x h, iv_n b y k] at k'
  exact k'
theorem lit3 (w : World) (a b c : Nat) (x y z : Int) (h : (a : Int) = x) (k : (b : Int) = y) (l : (c : Int) = z) (ha : a < 4294967296) (hb : b < 4294967296) (hc : c < 4294967296) :
    Rs (w.alloc (.cells #[.int .u32 x, .int .u32 y, .int .u32 z] 30)) (w.heap.size + 1) (some ⟨w.heap.size, 0, none⟩) 3 3 (l3 a b c) := by
  have k' := rs_l3 w a b c ha hb hc
  rw [iv_n a x h, iv_n b y k, iv_n c z l] at k'
  exact k'

theorem val_l1 {a : Nat} (h : a < 1000000000) (h0 : a ≠ 0) : Val 1 (l1 a) := ⟨fun j _ => by rw [LB_eq]; exact h, fun _ => h0⟩
theorem val_l2 {a b : Nat} (h : a < 1000000000) (k : b < 1000000000) (h0 : b ≠ 0) : Val 2 (l2 a b) := ⟨fun j _ => by rw [LB_eq]; unfold l2; split <;> assumption, fun _ => h0⟩
theorem val_l3 {a b c : Nat} (h : a < 1000000000) (k : b < 1000000000) (l : c < 1000000000) (h0 : c ≠ 0) : Val 3 (l3 a b c) := ⟨fun j _ => by rw [LB_eq]; unfold l3; split; assumption; split <;> assumption, fun _ => h0⟩
theorem nv_l1 (a : Nat) : nv (l1 a) 1 = a := by simp [nv, l1]
theorem nv_l2 (a b : Nat) : nv (l2 a b) 2 = a + b * 1000000000 := by simp [nv, l2, LB_eq]
theorem nv_l3 (a b c : Nat) : nv (l3 a b c) 3 = a + b * 1000000000 + c * 1000000000000000000 := by simp [nv, l3, LB_eq]

/-- a list that was made, as the literal list that it must be -/
theorem Made.as {w w' : World} {N m : Nat} {v : Value} {g : Nat → Nat} (h : Made w N v w') (hg : Dig m g N) : ∃ A c, v = .slice A m c ∧ Rs w' w'.heap.size A m c g ∧ Below w.heap.size w w' := by
  obtain ⟨A, n, c, f, rfl, hr, hd, hb⟩ := h
  obtain ⟨rfl, he⟩ := hd.unique hg
  exact ⟨A, c, rfl, hr.congr he, hb⟩

theorem awake_of (w : World) :
    Calls Try.prog 30 #[.int .i64 12345678901] w fun e w' => ∃ A c, e = .returned (.tuple #[.slice A 2 c, .int .i64 0]) ∧ Rs w' w'.heap.size A 2 c (l2 345678901 12) ∧ Below w.heap.size w w' := by
  refine (natOf_pos 12345678901 (by omega) (by omega) w).mono ?_
  rintro e w' ⟨v, rfl, hm⟩
  obtain ⟨A, c, rfl, hr, hb⟩ := hm.as (m := 2) (g := l2 345678901 12) ⟨val_l2 (by omega) (by omega) (by omega), by rw [nv_l2]; rfl⟩
  exact ⟨A, c, rfl, hr, hb⟩

theorem awake_mul (w : World) :
    Calls Try.prog 14 #[.slice (some ⟨w.heap.size, 0, none⟩) 1 1, .slice (some ⟨w.heap.size + 1, 0, none⟩) 1 1] ((w.alloc (.cells #[.int .u32 999999999] 30)).alloc (.cells #[.int .u32 999999999] 30))
      fun e w' => ∃ A c, e = .returned (.tuple #[.slice A 2 c, .int .i64 0]) ∧ Rs w' w'.heap.size A 2 c (l2 1 999999998) ∧ Below w.heap.size w w' := by
  have ha := lit1 w 999999999 999999999 rfl (by omega)
  have hb := lit1 (w.alloc (.cells #[.int .u32 999999999] 30)) 999999999 999999999 rfl (by omega)
  have hab := (ha.alloc (by simp) (.cells #[.int .u32 999999999] 30)).more (B' := ((w.alloc (.cells #[.int .u32 999999999] 30)).alloc (.cells #[.int .u32 999999999] 30)).heap.size) (by simp)
  have hbb := hb.more (B' := ((w.alloc (.cells #[.int .u32 999999999] 30)).alloc (.cells #[.int .u32 999999999] 30)).heap.size) (by simp)
  rw [World.size_alloc w] at hbb
  refine (natMul11_any _ _ 1 1 _ _ _ hab hbb (val_l1 (by omega) (by omega)) (val_l1 (by omega) (by omega))).mono ?_
  rintro e w' ⟨v, rfl, hm⟩
  obtain ⟨A, c, rfl, hr, hb⟩ := hm.as (m := 2) (g := l2 1 999999998) ⟨val_l2 (by omega) (by omega) (by omega), by rw [nv_l2]; rfl⟩
  exact ⟨A, c, rfl, hr, (((Below.refl _ _).alloc (Nat.le_refl _) _).alloc (by simp) _).trans (hb.mono (by simp; omega))⟩

theorem awake_div (w : World) :
    Calls Try.prog 18 #[.slice (some ⟨w.heap.size, 0, none⟩) 3 3, .slice (some ⟨w.heap.size + 1, 0, none⟩) 1 1] ((w.alloc (.cells #[.int .u32 0, .int .u32 0, .int .u32 1] 30)).alloc (.cells #[.int .u32 7] 30))
      fun e w' => ∃ A c A' c', e = .returned (.tuple #[.slice A 2 c, .slice A' 1 c', .int .i64 0]) ∧ Rs w' w'.heap.size A 2 c (l2 857142857 142857142) ∧ Rs w' w'.heap.size A' 1 c' (l1 1) ∧ Below w.heap.size w w' := by
  have ha := lit3 w 0 0 1 0 0 1 rfl rfl rfl (by omega) (by omega) (by omega)
  have hb := lit1 (w.alloc (.cells #[.int .u32 0, .int .u32 0, .int .u32 1] 30)) 7 7 rfl (by omega)
  have hab := (ha.alloc (by simp) (.cells #[.int .u32 7] 30)).more (B' := ((w.alloc (.cells #[.int .u32 0, .int .u32 0, .int .u32 1] 30)).alloc (.cells #[.int .u32 7] 30)).heap.size) (by simp)
  have hbb := hb.more (B' := ((w.alloc (.cells #[.int .u32 0, .int .u32 0, .int .u32 1] 30)).alloc (.cells #[.int .u32 7] 30)).heap.size) (by simp)
  rw [World.size_alloc w] at hbb
  refine (natDiv1_any _ _ 3 3 1 _ _ _ hab hbb (val_l3 (by omega) (by omega) (by omega) (by omega)) (val_l1 (by omega) (by omega)) (by omega) (by omega)).mono ?_
  rintro e w' ⟨v, u, rfl, hm⟩
  rw [nv_l3, nv_l1] at hm
  obtain ⟨A, c, rfl, hr, hb⟩ := hm.fst.as (m := 2) (g := l2 857142857 142857142) ⟨val_l2 (by omega) (by omega) (by omega), by rw [nv_l2]⟩
  obtain ⟨A', c', rfl, hr', _⟩ := hm.snd.as (m := 1) (g := l1 1) ⟨val_l1 (by omega) (by omega), by rw [nv_l1]⟩
  exact ⟨A, c, A', c', rfl, hr, hr', (((Below.refl _ _).alloc (Nat.le_refl _) _).alloc (by simp) _).trans (hb.mono (by simp; omega))⟩

theorem awake_is2 (w : World) (A : Option Addr) (c a b : Nat) (x y : Int) (B : Nat) (h : Rs w B A 2 c (l2 a b)) (hB : B ≤ w.heap.size) (ea : (a : Int) = x) (eb : (b : Int) = y) (ha : a < 4294967296) (hb : b < 4294967296) :
    Calls Try.prog 29 #[.slice A 2 c, .int .i64 0, .slice (some ⟨w.heap.size, 0, none⟩) 2 2] (w.alloc (.cells #[.int .u32 x, .int .u32 y] 30)) fun e w' => e = .returned (.bool true) ∧ Below w.heap.size w w' :=
  (is_true A _ 2 c 2 _ _ _ _ _ (h.alloc hB _) (lit2 w a b x y ea eb ha hb) fun _ _ => rfl).mono fun _ _ ⟨he, hq⟩ => ⟨he, ((Below.refl _ _).alloc (Nat.le_refl _) _).trans (hq.below.mono (by simp))⟩
theorem awake_is1 (w : World) (A : Option Addr) (c a : Nat) (x : Int) (B : Nat) (h : Rs w B A 1 c (l1 a)) (hB : B ≤ w.heap.size) (ea : (a : Int) = x) (ha : a < 4294967296) :
    Calls Try.prog 29 #[.slice A 1 c, .int .i64 0, .slice (some ⟨w.heap.size, 0, none⟩) 1 1] (w.alloc (.cells #[.int .u32 x] 30)) fun e w' => e = .returned (.bool true) ∧ Below w.heap.size w w' :=
  (is_true A _ 1 c 1 _ _ _ _ _ (h.alloc hB _) (lit1 w a x ea ha) fun _ _ => rfl).mono fun _ _ ⟨he, hq⟩ => ⟨he, ((Below.refl _ _).alloc (Nat.le_refl _) _).trans (hq.below.mono (by simp))⟩

set_option maxHeartbeats 1600000 in
set_option maxRecDepth 100000 in
theorem awake_any (w : World) :
    Calls Try.prog 8 #[] w fun e w' => e = .returned (.bool true) ∧ Below w.heap.size w w' := by
  go_enter Try.func8, Try.ntmps8
  go_wp2_with fail
  refine (awake_of _).mono ?_
  rintro e w1 ⟨A1, c1, rfl, hr1, hb1⟩
  go_wp2_with fail
  refine (awake_mul _).mono ?_
  rintro e w2 ⟨A2, c2, rfl, hr2, hb2⟩
  go_wp2_with fail
  refine (awake_div _).mono ?_
  rintro e w3 ⟨A3, c3, A4, c4, rfl, hr3, hr4, hb3⟩
  have k1 := ((hr1.below hb2).more hb2.size).below hb3
  have k2 := hr2.below hb3
  have hz2 := hb2.size
  have hz3 := hb3.size
  have B3 := Lib.hid ((hb1.trans (hb2.mono hb1.size)).trans (hb3.mono (Nat.le_trans hb1.size hb2.size)))
  go_wp2_with fail
  refine (awake_is2 w3 _ _ _ _ _ _ _ k1 hz3 rfl rfl (by omega) (by omega)).mono ?_
  rintro e w4 ⟨rfl, hb4⟩
  have hz4 := hb4.size
  have k2' := (k2.more hz3).below hb4
  have k3' := hr3.below hb4
  have k4' := hr4.below hb4
  have B4 := Lib.hid (B3.out.trans (hb4.mono (Nat.le_trans hb1.size (Nat.le_trans hb2.size hb3.size))))
  go_wp2_with fail
  refine (awake_is2 w4 _ _ _ _ _ _ _ k2' hz4 rfl rfl (by omega) (by omega)).mono ?_
  rintro e w5 ⟨rfl, hb5⟩
  have hz5 := hb5.size
  have k3'' := (k3'.more hz4).below hb5
  have k4'' := (k4'.more hz4).below hb5
  have B5 := Lib.hid (B4.out.trans (hb5.mono (Nat.le_trans (Nat.le_trans hb1.size (Nat.le_trans hb2.size hb3.size)) hz4)))
  go_wp2_with fail
  refine (awake_is2 w5 _ _ _ _ _ _ _ k3'' hz5 rfl rfl (by omega) (by omega)).mono ?_
  rintro e w6 ⟨rfl, hb6⟩
  have hz6 := hb6.size
  have k4''' := (k4''.more hz5).below hb6
  have B6 := Lib.hid (B5.out.trans (hb6.mono (Nat.le_trans (Nat.le_trans (Nat.le_trans hb1.size (Nat.le_trans hb2.size hb3.size)) hz4) hz5)))
  go_wp2_with fail
  refine (awake_is1 w6 _ _ _ _ _ k4''' hz6 rfl (by omega)).mono ?_
  rintro e w7 ⟨rfl, hb7⟩
  have B7 := Lib.hid (B6.out.trans (hb7.mono (Nat.le_trans (Nat.le_trans (Nat.le_trans (Nat.le_trans hb1.size (Nat.le_trans hb2.size hb3.size)) hz4) hz5) hz6)))
  go_wp2_with fail
  go_ret
  exact ⟨rfl, B7.out⟩

end Go.Proofs.Ytoonhjeiommhcaa

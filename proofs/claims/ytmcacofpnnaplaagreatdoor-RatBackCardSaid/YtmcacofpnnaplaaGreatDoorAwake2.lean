/- The contract of 'awake': it returns true. No conditions. -/
import Derived.Test.YtmcacofpnnaplaaGreatDoorAwake
namespace Go.Proofs.YtmcacofpnnaplaaGreatDoor
open Go.RowKit

/-- a literal slice of one, two, three limbs as the walk writes it -/
theorem lit1 (w : World) (a : Nat) (x : Int) (h : (a : Int) = x) (ha : a < 4294967296) : Rs (w.alloc (.cells #[.int .u32 x] 48)) (w.heap.size + 1) (some ⟨w.heap.size, 0, none⟩) 1 1 (l1 a) := by
  have k := rs_l1 w a ha
  rw [iv_n a x h] at k
  exact k
theorem lit2 (w : World) (a b : Nat) (x y : Int) (h : (a : Int) = x) (k : (b : Int) = y) (ha : a < 4294967296) (hb : b < 4294967296) : Rs (w.alloc (.cells #[.int .u32 x, .int .u32 y] 48)) (w.heap.size + 1) (some ⟨w.heap.size, 0, none⟩) 2 2 (l2 a b) := by
  have k' := rs_l2 w a b ha hb
  rw [iv_n a x h, iv_n b y k] at k'
  exact k'
theorem lit3 (w : World) (a b c : Nat) (x y z : Int) (h : (a : Int) = x) (k : (b : Int) = y) (l : (c : Int) = z) (ha : a < 4294967296) (hb : b < 4294967296) (hc : c < 4294967296) :
    Rs (w.alloc (.cells #[.int .u32 x, .int .u32 y, .int .u32 z] 48)) (w.heap.size + 1) (some ⟨w.heap.size, 0, none⟩) 3 3 (l3 a b c) := by
  have k' := rs_l3 w a b c ha hb hc
  rw [iv_n a x h, iv_n b y k, iv_n c z l] at k'
  exact k'

theorem val_l1 {a : Nat} (h : a < 1000000000) (h0 : a ≠ 0) : Val 1 (l1 a) := ⟨fun j _ => by rw [LB_eq]; exact h, fun _ => h0⟩
theorem val_l2 {a b : Nat} (h : a < 1000000000) (k : b < 1000000000) (h0 : b ≠ 0) : Val 2 (l2 a b) := ⟨fun j _ => by rw [LB_eq]; unfold l2; split <;> assumption, fun _ => h0⟩
theorem val_l3 {a b c : Nat} (h : a < 1000000000) (k : b < 1000000000) (l : c < 1000000000) (h0 : c ≠ 0) : Val 3 (l3 a b c) := ⟨fun j _ => by rw [LB_eq]; unfold l3; split; assumption; split <;> assumption, fun _ => h0⟩
theorem nv_l1 (a : Nat) : nv (l1 a) 1 = a := by simp [nv, l1]
theorem nv_l2 (a b : Nat) : nv (l2 a b) 2 = a + b * 1000000000 := by simp [nv, l2, LB_eq]
theorem nv_l3 (a b c : Nat) : nv (l3 a b c) 3 = a + b * 1000000000 + c * 1000000000000000000 := by simp [nv, l3, LB_eq]

/-- a list that was made, as the literal list that it must be -/
theorem Made.as {w w' : World} {N m : Nat} {v : Value} {g : Nat → Nat} (h : Made w N v w') (hg : Dig m g N) : ∃ A c, v = .slice A m c ∧ Rs w' w'.heap.size A m c g ∧ Below w.heap.size w w' := by
  obtain ⟨A, n, c, f, rfl, hr, hd, hb⟩ := h
  obtain ⟨rfl, he⟩ := hd.unique hg
  exact ⟨A, c, rfl, hr.congr he, hb⟩

theorem awake_of (w : World) :
    Calls Tryz.prog 126 #[.int .i64 12345678901] w fun e w' => ∃ A c, e = .returned (.tuple #[.slice A 2 c, .int .i64 0]) ∧ Rs w' w'.heap.size A 2 c (l2 345678901 12) ∧ Below w.heap.size w w' := by
  refine (natOf_pos 12345678901 (by omega) (by omega) w).mono ?_
  rintro e w' ⟨v, rfl, hm⟩
  obtain ⟨A, c, rfl, hr, hb⟩ := hm.as (m := 2) (g := l2 345678901 12) ⟨val_l2 (by omega) (by omega) (by omega), by rw [nv_l2]; rfl⟩
  exact ⟨A, c, rfl, hr, hb⟩

theorem awake_mul (w : World) :
    Calls Tryz.prog 111 #[.slice (some ⟨w.heap.size, 0, none⟩) 1 1, .slice (some ⟨w.heap.size + 1, 0, none⟩) 1 1] ((w.alloc (.cells #[.int .u32 999999999] 48)).alloc (.cells #[.int .u32 999999999] 48))
      fun e w' => ∃ A c, e = .returned (.tuple #[.slice A 2 c, .int .i64 0]) ∧ Rs w' w'.heap.size A 2 c (l2 1 999999998) ∧ Below w.heap.size w w' := by
  have ha := lit1 w 999999999 999999999 rfl (by omega)
  have hb := lit1 (w.alloc (.cells #[.int .u32 999999999] 48)) 999999999 999999999 rfl (by omega)
  have hab := (ha.alloc (by simp) (.cells #[.int .u32 999999999] 48)).more (B' := ((w.alloc (.cells #[.int .u32 999999999] 48)).alloc (.cells #[.int .u32 999999999] 48)).heap.size) (by simp)
  have hbb := hb.more (B' := ((w.alloc (.cells #[.int .u32 999999999] 48)).alloc (.cells #[.int .u32 999999999] 48)).heap.size) (by simp)
  rw [World.size_alloc w] at hbb
  refine (natMul11_any _ _ 1 1 _ _ _ hab hbb (val_l1 (by omega) (by omega)) (val_l1 (by omega) (by omega))).mono ?_
  rintro e w' ⟨v, rfl, hm⟩
  obtain ⟨A, c, rfl, hr, hb⟩ := hm.as (m := 2) (g := l2 1 999999998) ⟨val_l2 (by omega) (by omega) (by omega), by rw [nv_l2]; rfl⟩
  exact ⟨A, c, rfl, hr, (((Below.refl _ _).alloc (Nat.le_refl _) _).alloc (by simp) _).trans (hb.mono (by simp; omega))⟩

theorem awake_div (w : World) :
    Calls Tryz.prog 153 #[.slice (some ⟨w.heap.size, 0, none⟩) 3 3, .slice (some ⟨w.heap.size + 1, 0, none⟩) 1 1] ((w.alloc (.cells #[.int .u32 0, .int .u32 0, .int .u32 1] 48)).alloc (.cells #[.int .u32 7] 48))
      fun e w' => ∃ A c A' c', e = .returned (.tuple #[.slice A 2 c, .slice A' 1 c', .int .i64 0]) ∧ Rs w' w'.heap.size A 2 c (l2 857142857 142857142) ∧ Rs w' w'.heap.size A' 1 c' (l1 1) ∧ Below w.heap.size w w' := by
  have ha := lit3 w 0 0 1 0 0 1 rfl rfl rfl (by omega) (by omega) (by omega)
  have hb := lit1 (w.alloc (.cells #[.int .u32 0, .int .u32 0, .int .u32 1] 48)) 7 7 rfl (by omega)
  have hab := (ha.alloc (by simp) (.cells #[.int .u32 7] 48)).more (B' := ((w.alloc (.cells #[.int .u32 0, .int .u32 0, .int .u32 1] 48)).alloc (.cells #[.int .u32 7] 48)).heap.size) (by simp)
  have hbb := hb.more (B' := ((w.alloc (.cells #[.int .u32 0, .int .u32 0, .int .u32 1] 48)).alloc (.cells #[.int .u32 7] 48)).heap.size) (by simp)
  rw [World.size_alloc w] at hbb
  refine (natDiv1_any _ _ 3 3 1 _ _ _ hab hbb (val_l3 (by omega) (by omega) (by omega) (by omega)) (val_l1 (by omega) (by omega)) (by omega) (by omega)).mono ?_
  rintro e w' ⟨v, u, rfl, hm⟩
  rw [nv_l3, nv_l1] at hm
  obtain ⟨A, c, rfl, hr, hb⟩ := hm.fst.as (m := 2) (g := l2 857142857 142857142) ⟨val_l2 (by omega) (by omega) (by omega), by rw [nv_l2]⟩
  obtain ⟨A', c', rfl, hr', _⟩ := hm.snd.as (m := 1) (g := l1 1) ⟨val_l1 (by omega) (by omega), by rw [nv_l1]⟩
  exact ⟨A, c, A', c', rfl, hr, hr', (((Below.refl _ _).alloc (Nat.le_refl _) _).alloc (by simp) _).trans (hb.mono (by simp; omega))⟩

end Go.Proofs.YtmcacofpnnaplaaGreatDoor

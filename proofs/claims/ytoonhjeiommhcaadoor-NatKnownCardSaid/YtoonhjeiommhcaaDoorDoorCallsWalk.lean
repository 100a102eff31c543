/- The walk of NatCalls: it returns true, and writes nothing that was there. Conditions as premises: the two lists read, the int is one, and the table of powers holds what its initialiser lays. -/
import Derived.Test.YtoonhjeiommhcaaDoorDoorRefText2
import Derived.Test.YtoonhjeiommhcaaDoorAwake2
import Derived.Test.YtoonhjeiommhcaaDoorDoorInt
namespace Go.Proofs.YtoonhjeiommhcaaDoor
open Go.RowKit

theorem txt_size (N L : Nat) : (txt N L).size = L := by unfold txt strOfNums; simp [ByteArray.size]

set_option maxHeartbeats 400000 in
theorem refText_any (A : Option Addr) (n c : Nat) (f : Nat → Nat) (w : World) (h : Rs w w.heap.size A n c f) :
    Calls Tryd.prog 21 #[.slice A n c] w fun e w' => (∃ v, e = .returned v ∧ TextV n f v) ∧ Below w.heap.size w w' := by
  by_cases hk : chk n f = 0
  · exact (refText_ok A n c f w h (chk_zero hk).1 (chk_zero hk).2).mono fun _ _ ⟨⟨L, he, hL⟩, hb⟩ => ⟨⟨_, he, .inl ⟨hk, L, hL, rfl⟩⟩, hb⟩
  · have c1 := refCheck_any A n c f _ w h
    have h1 : (chk n f != 0) = true := by rw [bne_iff_ne]; exact hk
    have h2 : (chk n f == 0) = false := by rw [beq_eq_false_iff_ne]; exact hk
    have C1 := Lib.hid c1
    have HK := Lib.hid hk
    clear c1 hk
    go_enter Tryd.func21, Tryd.ntmps21
    go_wp2_with fail
    refine C1.out.mono ?_
    rintro e w' ⟨rfl, rfl⟩
    go_wp2_with fail
    go_ret2
    exact ⟨⟨_, rfl, .inr ⟨HK.out, rfl⟩⟩, Below.refl _ _⟩

set_option maxHeartbeats 400000 in
theorem refDigits_any (A : Option Addr) (n c : Nat) (f : Nat → Nat) (w : World) (h : Rs w w.heap.size A n c f) :
    Calls Tryd.prog 19 #[.slice A n c] w fun e w' => (∃ v, e = .returned v ∧ DigitsV n f v) ∧ Below w.heap.size w w' := by
  have C1 := Lib.hid (refText_any A n c f w h)
  go_enter Tryd.func19, Tryd.ntmps19
  go_wp2_with fail
  refine C1.out.mono ?_
  rintro e w' ⟨⟨v, rfl, ⟨hk, L, hL, rfl⟩ | ⟨hk, rfl⟩⟩, hb⟩
  · have HK := Lib.hid hk
    have HL := Lib.hid hL
    have hs := txt_size (nv f n) L
    generalize hgs : txt (nv f n) L = s at *
    clear hk hL hgs
    go_wp2_with fail
    go_ret2
    exact ⟨⟨_, rfl, .inl ⟨HK.out, L, HL.out, rfl⟩⟩, hb⟩
  · have HK := Lib.hid hk
    clear hk
    go_wp2_with fail
    go_ret2
    exact ⟨⟨_, rfl, .inr ⟨HK.out, rfl⟩⟩, hb⟩

theorem DigitsV.form {n : Nat} {f : Nat → Nat} {v : Value} (h : DigitsV n f v) : ∃ x y : Int, v = .tuple #[.int .i64 x, .int .i64 y] := by
  rcases h with ⟨_, L, _, rfl⟩ | ⟨_, rfl⟩
  · exact ⟨_, _, rfl⟩
  · exact ⟨_, _, rfl⟩
theorem DigitsV.unique {n : Nat} {f : Nat → Nat} {v u : Value} (h : DigitsV n f v) (k : DigitsV n f u) : v = u := by
  rcases h with ⟨h0, L, hL, rfl⟩ | ⟨h0, rfl⟩ <;> rcases k with ⟨k0, M, hM, rfl⟩ | ⟨k0, rfl⟩
  · rw [hL.unique hM]
  · exact absurd h0 k0
  · exact absurd k0 h0
  · rfl
theorem intV_form (n : Nat) (f : Nat → Nat) : ∃ x y : Int, intV n f = .tuple #[.int .i64 x, .int .i64 y] := by
  unfold intV
  split
  · split <;> exact ⟨_, _, rfl⟩
  · exact ⟨_, _, rfl⟩
theorem cmpV_form (n : Nat) (f : Nat → Nat) (m : Nat) (g : Nat → Nat) : ∃ x y : Int, cmpV n f m g = .tuple #[.int .i64 x, .int .i64 y] := ⟨_, _, rfl⟩

/-- what Of says of an int: a list and an error -/
def OfV (a : Int) (w : World) (v : Value) (y : Int) (w' : World) : Prop :=
  (a < 0 ∧ v = .slice none 0 0 ∧ y = 2 ∧ w = w') ∨ (0 ≤ a ∧ y = 0 ∧ Made w a.toNat v w')
theorem natOf_any (a : Int) (h1 : a ≤ 9223372036854775807) (w : World) :
    Calls Tryd.prog 9 #[.int .i64 a] w fun e w' => ∃ v y, e = .returned (.tuple #[v, .int .i64 y]) ∧ OfV a w v y w' := by
  by_cases h : a < 0
  · exact (natOf_neg a h w).mono fun _ _ ⟨he, hw⟩ => ⟨_, _, he, .inl ⟨h, rfl, rfl, hw⟩⟩
  · exact (natOf_pos a (by omega) h1 w).mono fun _ _ ⟨v, he, hw⟩ => ⟨_, _, he, .inr ⟨by omega, rfl, hw⟩⟩
theorem refOf_any (a : Int) (h1 : a ≤ 9223372036854775807) (w : World) :
    Calls Tryd.prog 10 #[.int .i64 a] w fun e w' => ∃ v y, e = .returned (.tuple #[v, .int .i64 y]) ∧ OfV a w v y w' := by
  by_cases h : a < 0
  · exact (refOf_neg a h w).mono fun _ _ ⟨he, hw⟩ => ⟨_, _, he, .inl ⟨h, rfl, rfl, hw⟩⟩
  · exact (refOf_pos a (by omega) (Big.mk h1) w).mono fun _ _ ⟨v, he, hw⟩ => ⟨_, _, he, .inr ⟨by omega, rfl, hw⟩⟩
theorem OfV.read {a : Int} {w w' : World} {v : Value} {y : Int} (h : OfV a w v y w') : Below w.heap.size w w' ∧ ∃ A n c f, v = .slice A n c ∧ Rs w' w'.heap.size A n c f ∧ y = (if a < 0 then 2 else 0) ∧ (if a < 0 then n = 0 else Dig n f a.toNat) := by
  rcases h with ⟨h, rfl, rfl, rfl⟩ | ⟨h, rfl, A, n, c, f, rfl, hr, hd, hb⟩
  · exact ⟨Below.refl _ _, none, 0, 0, fun _ => 0, rfl, Rs.nil _ _ _, by rw [if_pos h], by rw [if_pos h]⟩
  · exact ⟨hb, A, n, c, f, rfl, hr, by rw [if_neg (by omega)], by rw [if_neg (by omega)]; exact hd⟩

/-- Alike of what the two functions Of have made -/
theorem alike_of {a : Int} {A A' : Option Addr} {n c n' c' : Nat} {f f' : Nat → Nat} (w : World) (B B' : Nat) (hA : Rs w B A n c f) (hB : Rs w B' A' n' c' f')
    (h : if a < 0 then n = 0 else Dig n f a.toNat) (k : if a < 0 then n' = 0 else Dig n' f' a.toNat) :
    Calls Tryd.prog 11 #[.slice A n c, .slice A' n' c'] w fun e w' => e = .returned (.bool true) ∧ Below w.heap.size w w' := by
  have : n = n' ∧ ∀ j, j < n → f j = f' j := by
    by_cases e : a < 0
    · rw [if_pos e] at h k
      exact ⟨by omega, fun j hj => by omega⟩
    · rw [if_neg e] at h k
      exact h.unique k
  obtain ⟨rfl, he⟩ := this
  exact (alike_true A A' n c c' f f' B B' w hA hB he).mono fun _ _ ⟨h1, h2⟩ => ⟨h1, h2.below⟩

set_option maxHeartbeats 4000000 in
set_option maxRecDepth 100000 in
theorem natCalls_main (A A' : Option Addr) (n c m c' : Nat) (f g : Nat → Nat) (a : Int) (w : World) (hA : Rs w w.heap.size A n c f) (hB : Rs w w.heap.size A' m c' g) (ha : a ≤ 9223372036854775807) (ht : Tab w) :
    Calls Tryd.prog 3 #[.slice A n c, .slice A' m c', .int .i64 a] w fun e w' => e = .returned (.bool true) ∧ Below w.heap.size w w' := by
  by_cases hl1 : lng n 60 = true
  · have C1 := Lib.hid (long_any A n c 60 w)
    rw [hl1] at C1
    clear hl1
    go_enter Tryd.func3, Tryd.ntmps3
    go_wp2_with fail
    refine C1.out.mono ?_
    rintro e w' ⟨rfl, rfl⟩
    go_wp2_with fail
    refine (awake_any _).mono ?_
    rintro e w1 ⟨rfl, hb⟩
    go_wp2_with fail
    go_ret
    exact ⟨rfl, hb⟩
  · have hl1' : lng n 60 = false := by simpa using hl1
    have C1 := Lib.hid (long_any A n c 60 w)
    rw [hl1'] at C1
    clear hl1 hl1'
    by_cases hl2 : lng m 60 = true
    · have C2 := Lib.hid (long_any A' m c' 60 w)
      rw [hl2] at C2
      clear hl2
      go_enter Tryd.func3, Tryd.ntmps3
      go_wp2_with fail
      refine C1.out.mono ?_
      rintro e w' ⟨rfl, rfl⟩
      go_wp2_with fail
      refine C2.out.mono ?_
      rintro e w' ⟨rfl, rfl⟩
      go_wp2_with fail
      refine (awake_any _).mono ?_
      rintro e w1 ⟨rfl, hb⟩
      go_wp2_with fail
      go_ret
      exact ⟨rfl, hb⟩
    · have hl2' : lng m 60 = false := by simpa using hl2
      have C2 := Lib.hid (long_any A' m c' 60 w)
      rw [hl2'] at C2
      clear hl2 hl2'
      have HA := Big.mk ha
      clear ha
      go_enter Tryd.func3, Tryd.ntmps3
      go_wp2_with fail
      refine C1.out.mono ?_
      rintro e w' ⟨rfl, rfl⟩
      go_wp2_with fail
      refine C2.out.mono ?_
      rintro e w' ⟨rfl, rfl⟩
      clear C1 C2
      go_wp2_with fail
      refine (natOf_any _ HA.out _).mono ?_
      rintro e w1 ⟨v1, y1, rfl, ho1⟩
      obtain ⟨b1, A1, n1, c1, f1, rfl, r1, e1, d1⟩ := ho1.read
      clear ho1
      have D1 := Lib.hid d1
      have E1 := Lib.hid e1
      clear d1 e1
      go_wp2_with fail
      refine (refOf_any _ HA.out _).mono ?_
      rintro e w2 ⟨v2, y2, rfl, ho2⟩
      obtain ⟨b2, A2, n2, c2, f2, rfl, r2, e2, d2⟩ := ho2.read
      clear ho2
      have D2 := Lib.hid d2
      clear d2
      obtain rfl : y1 = y2 := E1.out.trans e2.symm
      clear E1 e2
      go_wp2_with fail
      refine (alike_of w2 _ _ (r1.below b2) r2 D1.out D2.out).mono ?_
      rintro e w3 ⟨rfl, b3⟩
      have t1 := b1.trans (b2.mono b1.size)
      have t3 := t1.trans (b3.mono t1.size)
      clear b1 b2 b3 r1 r2 t1
      have K1 := Lib.hid (check_any A n c f _ w3 (hA.below t3))
      have K2 := Lib.hid (refCheck_any A n c f _ w3 (hA.below t3))
      generalize chk n f = z at *
      go_wp2_with fail
      refine K1.out.mono ?_
      rintro e w' ⟨rfl, rfl⟩
      go_wp2_with fail
      refine K2.out.mono ?_
      rintro e w' ⟨rfl, rfl⟩
      clear K1 K2
      have I1 := Lib.hid (natInt_any A n c f w3 ((hA.below t3).more t3.size))
      obtain ⟨ix, iy, hi⟩ := intV_form n f
      rw [hi] at I1
      go_wp2_with fail
      refine I1.out.mono ?_
      rintro e w4 ⟨rfl, b4⟩
      have t4 := t3.trans (b4.mono t3.size)
      have I2 := Lib.hid (refInt_any A n c f w4 ((hA.below t4).more t4.size))
      rw [hi] at I2
      clear hi b4 t3
      go_wp2_with fail
      refine I2.out.mono ?_
      rintro e w5 ⟨rfl, b5⟩
      have t5 := t4.trans (b5.mono t4.size)
      clear b5 t4
      have J1 := Lib.hid (natCmp_any A A' n c m c' f g w5 ((hA.below t5).more t5.size) ((hB.below t5).more t5.size))
      obtain ⟨jx, jy, hj⟩ := cmpV_form n f m g
      rw [hj] at J1
      go_wp2_with fail
      refine J1.out.mono ?_
      rintro e w6 ⟨rfl, b6⟩
      have t6 := t5.trans (b6.mono t5.size)
      have J2 := Lib.hid (refCmp_any A A' n c m c' f g w6 ((hA.below t6).more t6.size) ((hB.below t6).more t6.size))
      rw [hj] at J2
      clear hj b6 t5
      go_wp2_with fail
      refine J2.out.mono ?_
      rintro e w7 ⟨rfl, b7⟩
      have t7 := t6.trans (b7.mono t6.size)
      clear b7 t6
      have L1 := Lib.hid (natDigits_any A n c f w7 ((hA.below t7).more t7.size) (ht.after t7))
      go_wp2_with fail
      refine L1.out.mono ?_
      rintro e w' ⟨⟨u1, rfl, g1⟩, rfl⟩
      obtain ⟨lx, ly, rfl⟩ := g1.form
      have L2 := Lib.hid (refDigits_any A n c f w7 ((hA.below t7).more t7.size))
      have G1 := Lib.hid g1
      clear g1
      go_wp2_with fail
      refine L2.out.mono ?_
      rintro e w8 ⟨⟨u2, rfl, g2⟩, b8⟩
      obtain rfl := g2.unique G1.out
      have t8 := t7.trans (b8.mono t7.size)
      clear b8 t7 g2 G1
      go_wp2_with fail
      refine (awake_any _).mono ?_
      rintro e w9 ⟨rfl, b9⟩
      go_wp2_with fail
      go_ret
      exact ⟨rfl, t8.trans (b9.mono t8.size)⟩

end Go.Proofs.YtoonhjeiommhcaaDoor

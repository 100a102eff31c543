/- The walk of NatTexts: it returns true, and writes nothing that was there. Conditions as premises: the list reads, and the table of powers holds what its initialiser lays. -/
import Derived.Test.YtoonhjeiommhcaaDoorDoorRefParse
import Derived.Test.YtoonhjeiommhcaaDoorDoorCallsWalk
namespace Go.Proofs.YtoonhjeiommhcaaDoor
open Go.RowKit

theorem natParse_any (s : ByteArray) (w : World) (ht : Tab w) :
    Calls Tryd.prog 22 #[.string s] w fun e w' => ∃ v x a, e = .returned (.tuple #[v, .agg #[.int .i64 x, .int .i64 a]]) ∧ ParseV s w v x a w' ∧ Below w.heap.size w w' := by
  by_cases h : s.size ≤ 9216
  · exact natParse_rest s w h ht
  · exact (natParse_long s w (by omega)).mono fun _ _ ⟨he, hb⟩ => ⟨_, _, _, he, .inl ⟨by omega, rfl, rfl, rfl⟩, hb⟩
theorem refParse_any (s : ByteArray) (w : World) :
    Calls Tryd.prog 23 #[.string s] w fun e w' => ∃ v x a, e = .returned (.tuple #[v, .agg #[.int .i64 x, .int .i64 a]]) ∧ ParseV s w v x a w' ∧ Below w.heap.size w w' := by
  by_cases h : s.size ≤ 9216
  · exact refParse_rest s w h
  · exact (refParse_long s w (by omega)).mono fun _ _ ⟨he, hb⟩ => ⟨_, _, _, he, .inl ⟨by omega, rfl, rfl, rfl⟩, hb⟩

/-- what Parse says of a text, the memory aside -/
def PRes (s : ByteArray) (e a : Int) (n : Nat) (f : Nat → Nat) : Prop :=
  (9216 < s.size ∧ n = 0 ∧ e = 4 ∧ a = 9216) ∨
  (s.size ≤ 9216 ∧ ∃ i, i < s.size ∧ ¬ good s i ∧ (∀ j, j < i → good s j) ∧ n = 0 ∧ e = 11 ∧ a = (i : Int)) ∨
  (s.size ≤ 9216 ∧ (∀ i, i < s.size → good s i) ∧ (s.size = 0 ∨ (1 < s.size ∧ sb s 0 = 48)) ∧ n = 0 ∧ e = 11 ∧ a = 0) ∨
  (s.size ≤ 9216 ∧ (∀ i, i < s.size → good s i) ∧ ¬ (s.size = 0 ∨ (1 < s.size ∧ sb s 0 = 48)) ∧ e = 0 ∧ a = 0 ∧ Dig n f (pnum s))

theorem ParseV.read {s : ByteArray} {w w' : World} {v : Value} {x a : Int} (h : ParseV s w v x a w') : ∃ A n c f, v = .slice A n c ∧ Rs w' w'.heap.size A n c f ∧ PRes s x a n f := by
  rcases h with ⟨h1, rfl, h2, h3⟩ | ⟨h1, i, h2, h3, h4, rfl, h5, h6⟩ | ⟨h1, h2, h3, rfl, h4, h5⟩ | ⟨h1, h2, h3, h4, h5, A, n, c, f, rfl, hr, hd, hb⟩
  · exact ⟨none, 0, 0, fun _ => 0, rfl, Rs.nil _ _ _, .inl ⟨h1, rfl, h2, h3⟩⟩
  · exact ⟨none, 0, 0, fun _ => 0, rfl, Rs.nil _ _ _, .inr (.inl ⟨h1, i, h2, h3, h4, rfl, h5, h6⟩)⟩
  · exact ⟨none, 0, 0, fun _ => 0, rfl, Rs.nil _ _ _, .inr (.inr (.inl ⟨h1, h2, h3, rfl, h4, h5⟩))⟩
  · exact ⟨A, n, c, f, rfl, hr, .inr (.inr (.inr ⟨h1, h2, h3, h4, h5, hd⟩))⟩

theorem PRes.unique {s : ByteArray} {e a e' a' : Int} {n n' : Nat} {f f' : Nat → Nat} (h : PRes s e a n f) (k : PRes s e' a' n' f') : e = e' ∧ a = a' ∧ n = n' ∧ ∀ j, j < n → f j = f' j := by
  rcases h with ⟨h1, h2, h3, h4⟩ | ⟨h1, i, h2, h3, h4, h5, h6, h7⟩ | ⟨h1, h2, h3, h4, h5, h6⟩ | ⟨h1, h2, h3, h4, h5, h6⟩ <;>
    rcases k with ⟨k1, k2, k3, k4⟩ | ⟨k1, i', k2, k3, k4, k5, k6, k7⟩ | ⟨k1, k2, k3, k4, k5, k6⟩ | ⟨k1, k2, k3, k4, k5, k6⟩
  · exact ⟨by omega, by omega, by omega, fun j hj => by omega⟩
  · omega
  · omega
  · omega
  · omega
  · have : i = i' := by
      rcases Nat.lt_trichotomy i i' with q | q | q
      · exact absurd (k4 i q) h3
      · exact q
      · exact absurd (h4 i' q) k3
    exact ⟨by omega, by omega, by omega, fun j hj => by omega⟩
  · exact absurd (k2 i h2) h3
  · exact absurd (k2 i h2) h3
  · omega
  · exact absurd (h2 i' k2) k3
  · exact ⟨by omega, by omega, by omega, fun j hj => by omega⟩
  · exact absurd h3 k3
  · omega
  · exact absurd (h2 i' k2) k3
  · exact absurd k3 h3
  · obtain ⟨q1, q2⟩ := h6.unique k6
    exact ⟨by omega, by omega, q1, q2⟩

theorem TextV.form {n : Nat} {f : Nat → Nat} {v : Value} (h : TextV n f v) : ∃ (t : ByteArray) (y : Int), v = .tuple #[.string t, .int .i64 y] := by
  rcases h with ⟨_, L, _, rfl⟩ | ⟨_, rfl⟩
  · exact ⟨_, _, rfl⟩
  · exact ⟨_, _, rfl⟩
theorem TextV.unique {n : Nat} {f : Nat → Nat} {v u : Value} (h : TextV n f v) (k : TextV n f u) : v = u := by
  rcases h with ⟨h0, L, hL, rfl⟩ | ⟨h0, rfl⟩ <;> rcases k with ⟨k0, M, hM, rfl⟩ | ⟨k0, rfl⟩
  · rw [hL.unique hM]
  · exact absurd h0 k0
  · exact absurd k0 h0
  · rfl

set_option maxHeartbeats 4000000 in
set_option maxRecDepth 100000 in
theorem natTexts_awake (A : Option Addr) (n c : Nat) (s : ByteArray) (w : World) (h : lng n 60 = true ∨ (600 < s.size ∧ s.size ≤ 9210) ∨ 9230 < s.size) :
    Calls Tryd.prog 4 #[.slice A n c, .string s] w fun e w' => e = .returned (.bool true) ∧ Below w.heap.size w w' := by
  by_cases hl1 : lng n 60 = true
  · have C1 := Lib.hid (long_any A n c 60 w)
    rw [hl1] at C1
    clear hl1 h
    go_enter Tryd.func4, Tryd.ntmps4
    go_wp2_with fail
    refine C1.out.mono ?_
    rintro e w' ⟨rfl, rfl⟩
    go_wp2_with fail
    refine (awake_any _).mono ?_
    rintro e w1 ⟨rfl, hb⟩
    go_wp2_with fail
    go_ret
    exact ⟨rfl, hb⟩
  · have hl1' : lng n 60 = false := by simpa using hl1
    have C1 := Lib.hid (long_any A n c 60 w)
    rw [hl1'] at C1
    have h2 := h.resolve_left hl1
    clear hl1 hl1' h
    by_cases h3 : 9230 < s.size
    · have a1 : (600 : Int) < (s.size : Int) := by omega
      have a2 : ¬ (s.size : Int) ≤ 9210 := by omega
      have a3 : (9230 : Int) < (s.size : Int) := by omega
      clear h2
      go_enter Tryd.func4, Tryd.ntmps4
      go_wp2_with fail
      refine C1.out.mono ?_
      rintro e w' ⟨rfl, rfl⟩
      go_wp2_with fail
      refine (awake_any _).mono ?_
      rintro e w1 ⟨rfl, hb⟩
      go_wp2_with fail
      go_ret
      exact ⟨rfl, hb⟩
    · have h4 := h2.resolve_right h3
      have a1 : (600 : Int) < (s.size : Int) := by omega
      have a2 : (s.size : Int) ≤ 9210 := by omega
      clear h2 h3 h4
      go_enter Tryd.func4, Tryd.ntmps4
      go_wp2_with fail
      refine C1.out.mono ?_
      rintro e w' ⟨rfl, rfl⟩
      go_wp2_with fail
      refine (awake_any _).mono ?_
      rintro e w1 ⟨rfl, hb⟩
      go_wp2_with fail
      go_ret
      exact ⟨rfl, hb⟩

set_option maxHeartbeats 4000000 in
set_option maxRecDepth 100000 in
theorem natTexts_main (A : Option Addr) (n c : Nat) (f : Nat → Nat) (s : ByteArray) (w : World) (hA : Rs w w.heap.size A n c f) (ht : Tab w) (h : ¬ (lng n 60 = true ∨ (600 < s.size ∧ s.size ≤ 9210) ∨ 9230 < s.size)) :
    Calls Tryd.prog 4 #[.slice A n c, .string s] w fun e w' => e = .returned (.bool true) ∧ Below w.heap.size w w' := by
  have hl1' : lng n 60 = false := by
    cases e : lng n 60
    · rfl
    · exact absurd (.inl e) h
  have C1 := Lib.hid (long_any A n c 60 w)
  rw [hl1'] at C1
  have h2 : s.size ≤ 600 ∨ (9210 < s.size ∧ s.size ≤ 9230) := by
    by_cases q : s.size ≤ 600
    · exact .inl q
    · by_cases q2 : s.size ≤ 9210
      · exact absurd (.inr (.inl ⟨by omega, q2⟩)) h
      · by_cases q3 : s.size ≤ 9230
        · exact .inr ⟨by omega, q3⟩
        · exact absurd (.inr (.inr (by omega))) h
  clear hl1' h
  have T1 := Lib.hid (natText_any A n c f w hA ht)
  rcases h2 with h2 | h2
  · have a1 : ¬ (600 : Int) < (s.size : Int) := by omega
    have a3 : ¬ (9230 : Int) < (s.size : Int) := by omega
    clear h2
    go_enter Tryd.func4, Tryd.ntmps4
    go_wp2_with fail
    refine C1.out.mono ?_
    rintro e w' ⟨rfl, rfl⟩
    go_wp2_with fail
    refine T1.out.mono ?_
    rintro e w1 ⟨⟨u1, rfl, g1⟩, b1⟩
    obtain ⟨t, y, rfl⟩ := g1.form
    have G1 := Lib.hid g1
    have T2 := Lib.hid (refText_any A n c f w1 ((hA.below b1).more b1.size))
    clear g1 C1 T1
    go_wp2_with fail
    refine T2.out.mono ?_
    rintro e w2 ⟨⟨u2, rfl, g2⟩, b2⟩
    obtain rfl := g2.unique G1.out
    have t2 := b1.trans (b2.mono b1.size)
    clear g2 G1 b1 b2 T2
    go_wp2_with fail
    refine (natParse_any s w2 (ht.after t2)).mono ?_
    rintro e w3 ⟨v3, x3, a3', rfl, p3, b3⟩
    obtain ⟨A3, n3, c3, f3, rfl, r3, q3⟩ := p3.read
    have Q3 := Lib.hid q3
    have t3 := t2.trans (b3.mono t2.size)
    clear p3 q3 b3 t2
    go_wp2_with fail
    refine (refParse_any s _).mono ?_
    rintro e w4 ⟨v4, x4, a4', rfl, p4, b4⟩
    obtain ⟨A4, n4, c4, f4, rfl, r4, q4⟩ := p4.read
    obtain ⟨rfl, rfl, rfl, hal⟩ := q4.unique Q3.out
    have HAL := Lib.hid hal
    clear p4 q4 Q3 hal
    have hz4 := b4.size
    rw [World.size_alloc] at hz4
    have k0 : w4.cell? ⟨w3.heap.size, 0, none⟩ = some (.int .i64 x4) := (b4.cell (p := ⟨w3.heap.size, 0, none⟩) (by simp)).trans (by rw [World.cell?_alloc_at _ _ _ _ rfl]; rfl)
    have k1 : w4.cell? ⟨w3.heap.size, 1, none⟩ = some (.int .i64 a4') := (b4.cell (p := ⟨w3.heap.size, 1, none⟩) (by simp)).trans (by rw [World.cell?_alloc_at _ _ _ _ rfl]; rfl)
    have r3' := ((r3.alloc (Nat.le_refl _) (.cells #[.int .i64 x4, .int .i64 a4'] 39)).more (B' := (w3.alloc (.cells #[.int .i64 x4, .int .i64 a4'] 39)).heap.size) (by simp)).below b4
    have t4 : Below w.heap.size w w4 := (t3.trans ((Below.refl _ _).alloc t3.size _)).trans (b4.mono (by rw [World.size_alloc]; have := t3.size; omega))
    have S := Lib.hid (alike_true A3 A4 n4 c3 c4 f3 f4 _ _ (w4.alloc (.cells #[.int .i64 x4, .int .i64 a4'] 39)) (r3'.alloc b4.size _) (r4.alloc (Nat.le_refl _) _) (fun j hj => (HAL.out j hj).symm))
    have k0' : (w4.alloc (.cells #[.int .i64 x4, .int .i64 a4'] 39)).cell? ⟨w3.heap.size, 0, none⟩ = some (.int .i64 x4) := (World.cell?_alloc_past _ _ _ (by omega)).trans k0
    have k1' : (w4.alloc (.cells #[.int .i64 x4, .int .i64 a4'] 39)).cell? ⟨w3.heap.size, 1, none⟩ = some (.int .i64 a4') := (World.cell?_alloc_past _ _ _ (by omega)).trans k1
    have hz4' : w3.heap.size < w4.heap.size := by omega
    clear r3 r3' r4 b4 t3
    go_wp2_with fail
    refine S.out.mono ?_
    rintro e w' ⟨rfl, d, rfl⟩
    go_wp2_with fail
    refine (awake_any _).mono ?_
    rintro e w9 ⟨rfl, b9⟩
    go_wp2_with fail
    go_ret
    exact ⟨rfl, ((t4.alloc t4.size _).trans (Qt.n1 _ d |>.below.mono (by rw [World.size_alloc]; have := t4.size; omega))).trans (b9.mono (by simp; have := t4.size; omega))⟩
  · have a1 : (600 : Int) < (s.size : Int) := by omega
    have a2 : ¬ (s.size : Int) ≤ 9210 := by omega
    have a3 : ¬ (9230 : Int) < (s.size : Int) := by omega
    clear h2
    go_enter Tryd.func4, Tryd.ntmps4
    go_wp2_with fail
    refine C1.out.mono ?_
    rintro e w' ⟨rfl, rfl⟩
    go_wp2_with fail
    refine T1.out.mono ?_
    rintro e w1 ⟨⟨u1, rfl, g1⟩, b1⟩
    obtain ⟨t, y, rfl⟩ := g1.form
    have G1 := Lib.hid g1
    have T2 := Lib.hid (refText_any A n c f w1 ((hA.below b1).more b1.size))
    clear g1 C1 T1
    go_wp2_with fail
    refine T2.out.mono ?_
    rintro e w2 ⟨⟨u2, rfl, g2⟩, b2⟩
    obtain rfl := g2.unique G1.out
    have t2 := b1.trans (b2.mono b1.size)
    clear g2 G1 b1 b2 T2
    go_wp2_with fail
    refine (natParse_any s w2 (ht.after t2)).mono ?_
    rintro e w3 ⟨v3, x3, a3', rfl, p3, b3⟩
    obtain ⟨A3, n3, c3, f3, rfl, r3, q3⟩ := p3.read
    have Q3 := Lib.hid q3
    have t3 := t2.trans (b3.mono t2.size)
    clear p3 q3 b3 t2
    go_wp2_with fail
    refine (refParse_any s _).mono ?_
    rintro e w4 ⟨v4, x4, a4', rfl, p4, b4⟩
    obtain ⟨A4, n4, c4, f4, rfl, r4, q4⟩ := p4.read
    obtain ⟨rfl, rfl, rfl, hal⟩ := q4.unique Q3.out
    have HAL := Lib.hid hal
    clear p4 q4 Q3 hal
    have hz4 := b4.size
    rw [World.size_alloc] at hz4
    have k0 : w4.cell? ⟨w3.heap.size, 0, none⟩ = some (.int .i64 x4) := (b4.cell (p := ⟨w3.heap.size, 0, none⟩) (by simp)).trans (by rw [World.cell?_alloc_at _ _ _ _ rfl]; rfl)
    have k1 : w4.cell? ⟨w3.heap.size, 1, none⟩ = some (.int .i64 a4') := (b4.cell (p := ⟨w3.heap.size, 1, none⟩) (by simp)).trans (by rw [World.cell?_alloc_at _ _ _ _ rfl]; rfl)
    have r3' := ((r3.alloc (Nat.le_refl _) (.cells #[.int .i64 x4, .int .i64 a4'] 39)).more (B' := (w3.alloc (.cells #[.int .i64 x4, .int .i64 a4'] 39)).heap.size) (by simp)).below b4
    have t4 : Below w.heap.size w w4 := (t3.trans ((Below.refl _ _).alloc t3.size _)).trans (b4.mono (by rw [World.size_alloc]; have := t3.size; omega))
    have S := Lib.hid (alike_true A3 A4 n4 c3 c4 f3 f4 _ _ (w4.alloc (.cells #[.int .i64 x4, .int .i64 a4'] 39)) (r3'.alloc b4.size _) (r4.alloc (Nat.le_refl _) _) (fun j hj => (HAL.out j hj).symm))
    have k0' : (w4.alloc (.cells #[.int .i64 x4, .int .i64 a4'] 39)).cell? ⟨w3.heap.size, 0, none⟩ = some (.int .i64 x4) := (World.cell?_alloc_past _ _ _ (by omega)).trans k0
    have k1' : (w4.alloc (.cells #[.int .i64 x4, .int .i64 a4'] 39)).cell? ⟨w3.heap.size, 1, none⟩ = some (.int .i64 a4') := (World.cell?_alloc_past _ _ _ (by omega)).trans k1
    have hz4' : w3.heap.size < w4.heap.size := by omega
    clear r3 r3' r4 b4 t3
    go_wp2_with fail
    refine S.out.mono ?_
    rintro e w' ⟨rfl, d, rfl⟩
    go_wp2_with fail
    refine (awake_any _).mono ?_
    rintro e w9 ⟨rfl, b9⟩
    go_wp2_with fail
    go_ret
    exact ⟨rfl, ((t4.alloc t4.size _).trans (Qt.n1 _ d |>.below.mono (by rw [World.size_alloc]; have := t4.size; omega))).trans (b9.mono (by simp; have := t4.size; omega))⟩

end Go.Proofs.YtoonhjeiommhcaaDoor

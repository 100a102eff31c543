/- The contracts of topLimbs, leadingShift and leading: the highest limbs of a number, less some bits. Conditions as premises. -/
import Derived.Test.YtmcacofpnnaplaaGreatDoorPow
namespace Go.Proofs.YtmcacofpnnaplaaGreatDoor
open Go.RowKit Go.Shelf

/-- the three highest limbs below a place -/
def top3 (f : Nat → Nat) (n s : Nat) : Nat := (pl f n (s - 1) * LB + pl f n (s - 2)) * LB + pl f n (s - 3)

theorem top3_lt {f : Nat → Nat} {n : Nat} (hf : ∀ j, j < n → f j < LB) (s : Nat) : top3 f n s < 1000000000000000000000000000 ∧ pl f n (s - 1) * LB + pl f n (s - 2) < 1000000000000000000 := by
  have h1 := pl_lt hf (s - 1)
  have h2 := pl_lt hf (s - 2)
  have h3 := pl_lt hf (s - 3)
  unfold top3
  rw [LB_eq] at *
  omega

/-- the local array of three words -/
def Tp (w : World) (B : Nat) (h : Nat → Nat) : Prop := w.rowIs B 190 3 (fun i => .int .u64 (iv (h i)))
section
variable {w w' : World} {B : Nat} {h : Nat → Nat}
theorem Tp.cell (t : Tp w B h) {i : Nat} (hi : i < 3) : w.cell? ⟨B, i, none⟩ = some (.int .u64 (iv (h i))) := World.rowIs.cell t hi
theorem Tp.frozen (t : Tp w B h) (i : Nat) : w.frozen? ⟨B, i, none⟩ = false := World.rowIs.frozen t i
theorem Tp.lt (t : Tp w B h) : B < w.heap.size := World.rowIs.lt t
theorem Tp.set (t : Tp w B h) (i x : Nat) : Tp (w.setCell ⟨B, i, none⟩ (.int .u64 (iv x))) B (fun j => if j = i then x else h j) :=
  World.rowIs.congr (World.rowIs.set t i _) fun j _ => by by_cases e : j = i <;> simp [e]
theorem Tp.new (w : World) : Tp (w.alloc (.cells #[.int .u64 0, .int .u64 0, .int .u64 0] 190)) w.heap.size (fun _ => 0) := by
  have h := World.rowIs_alloc w #[.int .u64 0, .int .u64 0, .int .u64 0] 190 (fun _ => .int .u64 0) (fun i hi => by
    rcases (by simpa using hi : i < 3) with h
    rcases (by omega : i = 0 ∨ i = 1 ∨ i = 2) with rfl | rfl | rfl <;> rfl)
  exact World.rowIs.congr h fun j _ => by rw [iv_zero]
end

set_option maxRecDepth 100000 in
set_option maxHeartbeats 1600000 in
theorem topLimbs_any (A : Option Addr) (n c s : Nat) (f : Nat → Nat) (w : World) (hr : Rs w w.heap.size A n c f) (hf : ∀ j, j < n → f j < LB) (hs : 3 ≤ s) (hs2 : s ≤ 4096) (hn : n ≤ 4096) :
    Calls Tryz.prog 190 #[.slice A n c, .int .i64 s] w fun e w' => e = .returned (.tuple #[.int .u64 (iv (top3 f n s / 18446744073709551616)), .int .u64 (iv (top3 f n s % 18446744073709551616))]) ∧ Below w.heap.size w w' := by
  have HF := Lib.hid hf
  have hnew := Tp.new w
  have hbel : Below w.heap.size w (w.alloc (.cells #[.int .u64 0, .int .u64 0, .int .u64 0] 190)) := (Below.refl _ _).alloc (Nat.le_refl _) _
  clear hf
  go_enter Tryz.func190, Tryz.ntmps190
  go_wp2_with fail
  generalize w.alloc (.cells #[.int .u64 0, .int .u64 0, .int .u64 0] 190) = w0 at *
  go_loopw [7, 8, 10] (fun _ _ i wr => ∃ k : Nat, k ≤ 3 ∧ i = .int .i64 k ∧ ∃ h, Tp wr w.heap.size h ∧ Hid ((∀ j, j < k → h j = pl f n (s - 1 - j)) ∧ ∀ j, k ≤ j → h j = 0) ∧ Below w.heap.size w wr) (fun _ _ i _ => 3 - (intOf i).toNat)
  case atStart => exact ⟨0, by omega, rfl, _, hnew, ⟨fun j h => by omega, fun _ _ => rfl⟩, hbel⟩
  case round =>
    obtain ⟨k, hk, rfl, h, htp, hh, hb⟩ := hrel
    by_cases hlt : k < 3
    · have hfz := htp.frozen k
      have hcp := htp.cell hlt
      have hi : ((s - 1 - k : Nat) : Int) = (s : Int) - 1 - (k : Int) := by omega
      by_cases hpn : s - 1 - k < n
      · obtain ⟨b1, off1, rfl, hb1, hcc1⟩ := (hr.below hb).cell (by omega)
        have hck1 := hcc1 (s - 1 - k) hpn
        have hx0 := iv_nonneg (f (s - 1 - k))
        have hx1 := iv_limb (HF.out (s - 1 - k) hpn)
        have hnew := Lib.hid (htp.set k (f (s - 1 - k)))
        have hb' := Lib.hid (hb.setCell (p := ⟨w.heap.size, k, none⟩) (Nat.le_refl _) (.int .u64 (iv (f (s - 1 - k)))))
        clear hcc1
        go_wp2_with fail
        go_roundw
        case rel => exact ⟨k + 1, by omega, by go_num, _, hnew.out, ⟨fun j hj => by
          by_cases e : j = k
          · subst e; simp only [↓reduceIte]; exact (pl_in hpn).symm
          · rw [if_neg e]; exact hh.out.1 j (by omega), fun j hj => by rw [if_neg (by omega)]; exact hh.out.2 j (by omega)⟩, hb'.out⟩
        case measure => simp [intOf] <;> omega
      · go_wp2_with fail
        go_roundw
        case rel => exact ⟨k + 1, by omega, by go_num, _, htp, ⟨fun j hj => by
          by_cases e : j = k
          · subst e; rw [pl_out (by omega)]; exact hh.out.2 j (Nat.le_refl _)
          · exact hh.out.1 j (by omega), fun j hj => hh.out.2 j (by omega)⟩, hb⟩
        case measure => simp [intOf] <;> omega
    · obtain rfl : k = 3 := by omega
      have e0 : h 0 = pl f n (s - 1) := hh.out.1 0 (by omega)
      have e1 : h 1 = pl f n (s - 2) := by rw [hh.out.1 1 (by omega)]; congr 1
      have e2 : h 2 = pl f n (s - 3) := by rw [hh.out.1 2 (by omega)]; congr 1
      have c0 := htp.cell (i := 0) (by omega)
      have c1 := htp.cell (i := 1) (by omega)
      have c2 := htp.cell (i := 2) (by omega)
      rw [e0] at c0
      rw [e1] at c1
      rw [e2] at c2
      have x0 := iv_nonneg (pl f n (s - 1))
      have x1 := iv_limb (pl_lt HF.out (s - 1))
      have y0 := iv_nonneg (pl f n (s - 2))
      have y1 := iv_limb (pl_lt HF.out (s - 2))
      have z0 := iv_nonneg (pl f n (s - 3))
      have z1 := iv_limb (pl_lt HF.out (s - 3))
      have hT : top3 f n s = (pl f n (s - 1) * 1000000000 + pl f n (s - 2)) * 1000000000 + pl f n (s - 3) := by unfold top3; rw [LB_eq]
      obtain ⟨X, hX⟩ : ∃ X, X = pl f n (s - 1) * 1000000000 + pl f n (s - 2) := ⟨_, rfl⟩
      rw [← hX] at hT
      have hXl : X < 1000000000000000000 := by
        have := pl_lt HF.out (s - 1)
        have := pl_lt HF.out (s - 2)
        rw [LB_eq] at *; omega
      have hM := bits_Mul64 X 1000000000 (by omega) (by omega)
      rw [show ((X : Nat) : Int) = iv (pl f n (s - 1)) * 1000000000 + iv (pl f n (s - 2)) by rw [hX]; simp only [iv_eq]; omega] at hM
      rw [show ((X * 1000000000 / 18446744073709551616 : Nat) : Int) = iv (X * 1000000000 / 18446744073709551616) by rw [iv_eq], show ((X * 1000000000 % 18446744073709551616 : Nat) : Int) = iv (X * 1000000000 % 18446744073709551616) by rw [iv_eq]] at hM
      have p0 := iv_nonneg (X * 1000000000 % 18446744073709551616)
      have p1 : iv (X * 1000000000 % 18446744073709551616) < 18446744073709551616 := by rw [iv_eq]; omega
      have q0 := iv_nonneg (X * 1000000000 / 18446744073709551616)
      have q1 : iv (X * 1000000000 / 18446744073709551616) < 1000000000 := by rw [iv_eq]; omega
      have r1 : iv (X * 1000000000 / 18446744073709551616) + (iv (X * 1000000000 % 18446744073709551616) + iv (pl f n (s - 3))) / 18446744073709551616 = iv (top3 f n s / 18446744073709551616) := by rw [hT]; simp only [iv_eq]; omega
      have r2 : (iv (X * 1000000000 % 18446744073709551616) + iv (pl f n (s - 3))) % 18446744073709551616 = iv (top3 f n s % 18446744073709551616) := by rw [hT]; simp only [iv_eq]; omega
      have HM := Lib.hid hM
      have HR1 := Lib.hid r1
      have HR2 := Lib.hid r2
      clear hM r1 r2 hX hT hXl e0 e1 e2
      generalize iv (pl f n (s - 1)) = X0 at *
      generalize iv (pl f n (s - 2)) = X1 at *
      generalize iv (pl f n (s - 3)) = X2 at *
      generalize iv (X * 1000000000 % 18446744073709551616) = P0 at *
      generalize iv (X * 1000000000 / 18446744073709551616) = P1 at *
      have HA := fun w => add64_any P0 X2 p0 z0 p1 (by omega) w
      have HADD := Lib.hid HA
      clear HA
      have hs0 : 0 ≤ (P0 + X2) / 18446744073709551616 := by omega
      have hs1 : (P0 + X2) / 18446744073709551616 ≤ 1 := by omega
      go_wp2_with fail
      refine (HM.out _).mono ?_
      rintro _ _ ⟨rfl, rfl⟩
      go_wp2_with (simp only [HADD.out])
      go_ret2
      exact ⟨by rw [← HR1.out, ← HR2.out]; rfl, hb⟩

theorem bitLen_le : ∀ (s x : Nat), x < 2 ^ s → s ≤ 64 → Lib.bitLen x ≤ s
  | 0, x, h, _ => by
    obtain rfl : x = 0 := by simpa using h
    exact Nat.le_refl _
  | s + 1, x, h, hs => by
    rcases Nat.eq_zero_or_pos x with h0 | h0
    · subst h0; exact Nat.zero_le _
    · have h1 : x / 2 < 2 ^ s := by rw [Nat.div_lt_iff_lt_mul (by omega), ← Nat.pow_succ]; exact h
      have h2 := bitLen_le s (x / 2) h1 (by omega)
      rw [Lib.bitLen_half x (by omega) (Nat.lt_of_lt_of_le h (Nat.pow_le_pow_right (by omega) hs))]
      omega

theorem iv_toNat (x : Nat) : (iv x).toNat = x := by rw [iv_eq]; omega

set_option maxRecDepth 100000 in
set_option maxHeartbeats 1600000 in
theorem leadingShift_any (A : Option Addr) (n c : Nat) (f : Nat → Nat) (w : World) (hr : Rs w w.heap.size A n c f) (hf : ∀ j, j < n → f j < LB) (hn3 : 3 ≤ n) (hn : n ≤ 4096) :
    Calls Tryz.prog 180 #[.slice A n c] w fun e w' => ∃ sh : Nat, e = .returned (.int .i64 (sh : Int)) ∧ Below w.heap.size w w' ∧ sh ≤ 28 ∧ Big (top3 f n n < 4611686018427387904 * 2 ^ sh) := by
  have ht := topLimbs_any A n c n f w hr hf hn3 hn hn
  have hTl := (top3_lt hf n).1
  generalize hT : top3 f n n = T at *
  have hH : T / 18446744073709551616 < 2 ^ 26 := by omega
  have hL : T % 18446744073709551616 < 2 ^ 64 := by omega
  have hbh := bitLen_le 26 _ hH (by omega)
  have hbl := bitLen_le 64 _ hL (by omega)
  have hgh := bitLen_gt 26 _ hH (by omega)
  have hgl := bitLen_gt 64 _ hL (by omega)
  have h0 := iv_nonneg (T / 18446744073709551616)
  have h1 := iv_u64 (show T / 18446744073709551616 < 18446744073709551616 by omega)
  have l0 := iv_nonneg (T % 18446744073709551616)
  have l1 := iv_u64 (show T % 18446744073709551616 < 18446744073709551616 by omega)
  have B1 := bits_Len64 (iv (T / 18446744073709551616))
  have B2 := bits_Len64 (iv (T % 18446744073709551616))
  rw [iv_toNat] at B1 B2
  by_cases hz : T / 18446744073709551616 = 0
  · have HF1 : Hid (∀ sh : Nat, max 0 ((Lib.bitLen (T % 18446744073709551616) : Int) - 62) = (sh : Int) → sh ≤ 28 ∧ Big (T < 4611686018427387904 * 2 ^ sh)) := Lib.hid fun sh hsh => by
      refine ⟨by omega, Big.mk ?_⟩
      have h3 : T % 18446744073709551616 = T := by omega
      rw [h3] at hgl hsh
      refine Nat.lt_of_lt_of_le hgl ?_
      rw [show (4611686018427387904 : Nat) = 2 ^ 62 from rfl, ← Nat.pow_add]
      exact Nat.pow_le_pow_right (by omega) (by omega)
    have hz' : iv (T / 18446744073709551616) = 0 := by rw [hz, iv_zero]
    have hb2 : (Lib.bitLen (T % 18446744073709551616) : Int) ≤ 64 := by omega
    have B2' := Lib.hid fun w => B2 w l0 l1
    rw [hz'] at ht
    have HT := Lib.hid ht
    clear ht
    clear hz hgh hgl hbh hbl hH hL hTl hT B1 B2 h0 h1 l0 l1 hz' hf
    generalize Lib.bitLen (T % 18446744073709551616) = bl at *
    generalize iv (T % 18446744073709551616) = L at *
    go_enter Tryz.func180, Tryz.ntmps180
    go_wp2_with fail
    refine HT.out.mono ?_
    rintro _ w1 ⟨rfl, hb1⟩
    go_wp2_with fail
    refine (B2'.out _).mono ?_
    rintro _ _ ⟨rfl, rfl⟩
    go_wp2_with fail
    go_ret
    obtain ⟨sh, hsh⟩ : ∃ sh : Nat, max 0 ((bl : Int) - 62) = (sh : Int) := ⟨(max 0 ((bl : Int) - 62)).toNat, by omega⟩
    exact ⟨sh, by rw [← hsh]; rfl, hb1, HF1.out sh hsh⟩
  · have HF1 : Hid (∀ sh : Nat, max 0 (64 + (Lib.bitLen (T / 18446744073709551616) : Int) - 62) = (sh : Int) → sh ≤ 28 ∧ Big (T < 4611686018427387904 * 2 ^ sh)) := Lib.hid fun sh hsh => by
      refine ⟨by omega, Big.mk ?_⟩
      have h3 : T < (T / 18446744073709551616 + 1) * 18446744073709551616 := by omega
      refine Nat.lt_of_lt_of_le h3 (Nat.le_trans (Nat.mul_le_mul_right _ hgh) ?_)
      rw [show (4611686018427387904 : Nat) = 2 ^ 62 from rfl, show (18446744073709551616 : Nat) = 2 ^ 64 from rfl, ← Nat.pow_add, ← Nat.pow_add]
      exact Nat.pow_le_pow_right (by omega) (by simp only [show (2 : Nat) ^ 64 = 18446744073709551616 from rfl]; omega)
    have hz' := iv_pos hz
    have hb1 : (Lib.bitLen (T / 18446744073709551616) : Int) ≤ 26 := by omega
    have hb2 : (Lib.bitLen (T % 18446744073709551616) : Int) ≤ 64 := by omega
    have B1' := Lib.hid fun w => B1 w h0 h1
    have B2' := Lib.hid fun w => B2 w l0 l1
    have HT := Lib.hid ht
    clear ht hz hgh hgl hbh hbl hH hL hTl hT B1 B2 h0 l0 l1 hf
    generalize Lib.bitLen (T % 18446744073709551616) = bl at *
    generalize Lib.bitLen (T / 18446744073709551616) = bh at *
    generalize iv (T % 18446744073709551616) = L at *
    generalize iv (T / 18446744073709551616) = H at *
    go_enter Tryz.func180, Tryz.ntmps180
    go_wp2_with fail
    refine HT.out.mono ?_
    rintro _ w1 ⟨rfl, hb1⟩
    go_wp2_with fail
    refine (B2'.out _).mono ?_
    rintro _ _ ⟨rfl, rfl⟩
    go_wp2_with fail
    refine (B1'.out _).mono ?_
    rintro _ _ ⟨rfl, rfl⟩
    go_wp2_with fail
    go_ret
    obtain ⟨sh, hsh⟩ : ∃ sh : Nat, max 0 (64 + (bh : Int) - 62) = (sh : Int) := ⟨(max 0 (64 + (bh : Int) - 62)).toNat, by omega⟩
    exact ⟨sh, by rw [← hsh]; rfl, hb1, HF1.out sh hsh⟩

theorem lead_val {T sh : Nat} (hsh : sh ≤ 28) (hT : T < 2 ^ 62 * 2 ^ sh) :
    wrap64 (bits .or .u64 (IntKind.u64.wrap (iv (T / 18446744073709551616) * 2 ^ (64 - sh))) (iv (T % 18446744073709551616) / 2 ^ sh)) = iv (T / 2 ^ sh) := by
  have e64 : (18446744073709551616 : Nat) = 2 ^ sh * 2 ^ (64 - sh) := by rw [← Nat.pow_add, show sh + (64 - sh) = 64 by omega]
  have hp : 0 < 2 ^ sh := Nat.pow_pos (by omega)
  have hdm := Nat.div_add_mod T 18446744073709551616
  have hml := Nat.mod_lt T (show 0 < 18446744073709551616 by omega)
  generalize hH : T / 18446744073709551616 = H at *
  generalize hL : T % 18446744073709551616 = L at *
  have ha : 2 ^ (64 - sh) * H < 2 ^ 62 := by
    have h1 : 2 ^ (64 - sh) * H * 2 ^ sh < 2 ^ 62 * 2 ^ sh := by
      rw [show 2 ^ (64 - sh) * H * 2 ^ sh = 2 ^ sh * 2 ^ (64 - sh) * H by ac_rfl, ← e64]
      omega
    exact Nat.lt_of_mul_lt_mul_right h1
  have hb : L / 2 ^ sh < 2 ^ (64 - sh) := by
    rw [Nat.div_lt_iff_lt_mul hp, Nat.mul_comm, ← e64]; exact hml
  have hb2 : 2 ^ (64 - sh) ≤ 2 ^ 64 := Nat.pow_le_pow_right (by omega) (by omega)
  have hd : T / 2 ^ sh = 2 ^ (64 - sh) * H + L / 2 ^ sh := by
    rw [← hdm, e64, Nat.mul_assoc, Nat.mul_add_div hp]
  have hx : T / 2 ^ sh < 2 ^ 62 := by rw [Nat.div_lt_iff_lt_mul hp]; exact hT
  have i1 : iv H * 2 ^ (64 - sh) = ((2 ^ (64 - sh) * H : Nat) : Int) := by rw [iv_eq, Int.natCast_mul, Int.natCast_pow, Int.mul_comm]; rfl
  have i2 : iv L / 2 ^ sh = ((L / 2 ^ sh : Nat) : Int) := by rw [iv_eq, Int.natCast_ediv, Int.natCast_pow]; rfl
  have hw : IntKind.u64.wrap ((2 ^ (64 - sh) * H : Nat) : Int) = ((2 ^ (64 - sh) * H : Nat) : Int) := by
    rw [IntKind.wrap_u64]; generalize 2 ^ (64 - sh) * H = a at *; omega
  rw [i1, i2, hw, bits_or_u64_nat _ _ (by omega) (by omega), ← Nat.two_pow_add_eq_or_of_lt hb, ← hd, iv_eq]
  generalize T / 2 ^ sh = X at *
  unfold wrap64; omega

set_option maxRecDepth 100000 in
set_option maxHeartbeats 1600000 in
theorem leading_any (A : Option Addr) (n c s sh : Nat) (f : Nat → Nat) (w : World) (hr : Rs w w.heap.size A n c f) (hf : ∀ j, j < n → f j < LB) (hs : 3 ≤ s) (hs2 : s ≤ 4096) (hn : n ≤ 4096) (hsh : sh ≤ 28) (hT : Big (top3 f n s < 4611686018427387904 * 2 ^ sh)) :
    Calls Tryz.prog 181 #[.slice A n c, .int .i64 s, .int .i64 sh] w fun e w' => e = .returned (.int .i64 (iv (top3 f n s / 2 ^ sh))) ∧ Below w.heap.size w w' := by
  have ht := topLimbs_any A n c s f w hr hf hs hs2 hn
  generalize hT' : top3 f n s = T at *
  have HT := Lib.hid ht
  have HV := Lib.hid (lead_val hsh hT.out)
  clear ht hT' hT hf
  go_enter Tryz.func181, Tryz.ntmps181
  go_wp2_with fail
  refine HT.out.mono ?_
  rintro _ w1 ⟨rfl, hb1⟩
  go_wp2_with fail
  go_quiet (fail)
  rw [HV.out]
  go_wp2_with fail
  go_ret
  exact ⟨rfl, hb1.trans ((Below.drewN _ _).mono hb1.size)⟩

end Go.Proofs.YtmcacofpnnaplaaGreatDoor

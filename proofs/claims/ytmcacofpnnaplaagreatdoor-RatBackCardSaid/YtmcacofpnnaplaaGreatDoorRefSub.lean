/- The contracts of the reference's Minus, Add and Sub. Conditions as premises: the lists read, and are valid where the numbers are asked. -/
import Derived.Test.YtmcacofpnnaplaaGreatDoorRefSum
namespace Go.Proofs.YtmcacofpnnaplaaGreatDoor
open Go.RowKit Go.Shelf

theorem minus_step (F G : Nat → Nat) (k : Nat) (hF : F k < LB) (hG : G k < LB) (z : Int) (hz : z = iv (F k) - iv (bw F G k) - iv (G k)) :
    (z < 0 ∧ iv (dl F G k) = z + 1000000000 ∧ iv (bw F G (k + 1)) = 1) ∨ (¬ z < 0 ∧ iv (dl F G k) = z ∧ iv (bw F G (k + 1)) = 0) := by
  have e := LB_eq
  have hb := bw_le F G k
  subst hz
  rw [bw]; unfold dl
  by_cases h : F k < G k + bw F G k
  · left; rw [if_pos h, if_pos h]; simp only [iv_eq]; rw [e] at hF hG; rw [e]; omega
  · right; rw [if_neg h, if_neg h]; simp only [iv_eq]; omega

theorem minus_done {n m : Nat} {f g : Nat → Nat} (vf : Val n f) (vg : Val m g) (hle : nv g m ≤ nv f n) : nv (dl (pl f n) (pl g m)) n = nv f n - nv g m := by
  have hml : m ≤ n := by
    rcases Nat.lt_or_ge n m with h3 | h3
    · have := vf.lt_of_len vg h3; omega
    · exact h3
  have h := diff_eq (f := pl f n) (g := pl g m) n (fun j _ => ⟨pl_lt vf.1 j, pl_lt vg.1 j⟩)
  have hl := nv_lt (f := dl (pl f n) (pl g m)) n (fun j _ => dl_lt (pl_lt vf.1 j) (pl_lt vg.1 j))
  have hb := bw_le (pl f n) (pl g m) n
  rw [nv_pl f n n (Nat.le_refl _), nv_pl g m n hml] at h
  generalize bw (pl f n) (pl g m) n = b at *
  rcases (by omega : b = 0 ∨ b = 1) with rfl | rfl
  · rw [Nat.zero_mul] at h; omega
  · rw [Nat.one_mul] at h; omega

set_option maxRecDepth 100000 in
set_option maxHeartbeats 1600000 in
theorem refMinus_any (A A' : Option Addr) (n c m c' : Nat) (f g : Nat → Nat) (w : World) (hA : Rs w w.heap.size A n c f) (hB : Rs w w.heap.size A' m c' g) (vf : Val n f) (vg : Val m g) (hn : n ≤ 2000) (hle : nv g m ≤ nv f n) :
    Calls Tryz.prog 115 #[.slice A n c, .slice A' m c'] w fun e w' => ∃ v, e = .returned v ∧ Made w (nv f n - nv g m) v w' := by
  have HD := Lib.hid (minus_done vf vg hle)
  have HL : Hid (∀ j, dl (pl f n) (pl g m) j < LB) := Lib.hid fun j => dl_lt (pl_lt vf.1 j) (pl_lt vg.1 j)
  have HS : Hid (∀ k z, z = iv (pl f n k) - iv (bw (pl f n) (pl g m) k) - iv (pl g m k) → (z < 0 ∧ iv (dl (pl f n) (pl g m) k) = z + 1000000000 ∧ iv (bw (pl f n) (pl g m) (k + 1)) = 1) ∨ (¬ z < 0 ∧ iv (dl (pl f n) (pl g m) k) = z ∧ iv (bw (pl f n) (pl g m) (k + 1)) = 0)) :=
    Lib.hid fun k z hz => minus_step _ _ k (pl_lt vf.1 k) (pl_lt vg.1 k) z hz
  have VF := Lib.hid vf
  have VG := Lib.hid vg
  clear vf vg hle
  go_enter Tryz.func115, Tryz.ntmps115
  go_wp2
  go_loopw [5, 6, 7] (fun v u i wr => ∃ k : Nat, k ≤ n ∧ i = .int .i64 k ∧ u = .int .i64 (iv (bw (pl f n) (pl g m) k)) ∧ Own wr w.heap.size v k (dl (pl f n) (pl g m)) ∧ Below w.heap.size w wr) (fun _ _ i _ => n - (intOf i).toNat)
  case atStart => exact ⟨0, Nat.zero_le _, rfl, by rw [bw, iv_zero], Own.nil _ _ _, Below.refl _ _⟩
  case round =>
    obtain ⟨k, hk, rfl, rfl, hown, hbel⟩ := hrel
    by_cases ha : k < n
    · have hC0 := iv_nonneg (bw (pl f n) (pl g m) k)
      have hC1 : iv (bw (pl f n) (pl g m) k) ≤ 1 := by have := bw_le (pl f n) (pl g m) k; rw [iv_eq]; omega
      have hr1 := hA.below hbel
      have hr2 := hB.below hbel
      have hst := HS.out k
      have hx1 := iv_limb (VF.out.1 k ha)
      have hx0 := iv_nonneg (f k)
      obtain ⟨b1, off1, rfl, hb1, hcc1⟩ := hr1.cell (by omega)
      have hck1 := hcc1 k ha
      rw [pl_in ha] at hst
      clear hcc1
      by_cases hb : k < m
      · have hy1 := iv_limb (VG.out.1 k hb)
        have hy0 := iv_nonneg (g k)
        obtain ⟨b2, off2, rfl, hb2, hcc2⟩ := hr2.cell (by omega)
        have hck2 := hcc2 k hb
        rw [pl_in hb] at hst
        clear hcc2
        generalize iv (f k) = X at *
        generalize iv (g k) = Y at *
        generalize hgc : iv (bw (pl f n) (pl g m) k) = C at *
        clear hgc
        rcases hst _ rfl with ⟨hz, h1, h2⟩ | ⟨hz, h1, h2⟩
        · have H1 := Lib.hid h1
          have H2 := Lib.hid h2
          clear hst h1 h2
          go_wp2_with (at_builtin; refine app_own rfl (.tmp 37) (.tmp 40) rfl hown hbel rfl rfl H1.out (by omega) ?_; intro v' w1 hown1 hb1')
          go_roundw
          case rel => exact ⟨k + 1, by omega, by go_num, by rw [H2.out], hown1, hb1'⟩
          case measure => simp [intOf]; omega
        · have H1 := Lib.hid h1
          have H2 := Lib.hid h2
          clear hst h1 h2
          go_wp2_with (at_builtin; refine app_own rfl (.tmp 37) (.tmp 40) rfl hown hbel rfl rfl H1.out (by omega) ?_; intro v' w1 hown1 hb1')
          go_roundw
          case rel => exact ⟨k + 1, by omega, by go_num, by rw [H2.out], hown1, hb1'⟩
          case measure => simp [intOf]; omega
      · have hb' : m ≤ k := by omega
        rw [pl_out hb', iv_zero, Int.sub_zero] at hst
        generalize iv (f k) = X at *
        generalize hgc : iv (bw (pl f n) (pl g m) k) = C at *
        clear hgc
        rcases hst _ rfl with ⟨hz, h1, h2⟩ | ⟨hz, h1, h2⟩
        · have H1 := Lib.hid h1
          have H2 := Lib.hid h2
          clear hst h1 h2
          go_wp2_with (at_builtin; refine app_own rfl (.tmp 37) (.tmp 40) rfl hown hbel rfl rfl H1.out (by omega) ?_; intro v' w1 hown1 hb1')
          go_roundw
          case rel => exact ⟨k + 1, by omega, by go_num, by rw [H2.out], hown1, hb1'⟩
          case measure => simp [intOf]; omega
        · have H1 := Lib.hid h1
          have H2 := Lib.hid h2
          clear hst h1 h2
          go_wp2_with (at_builtin; refine app_own rfl (.tmp 37) (.tmp 40) rfl hown hbel rfl rfl H1.out (by omega) ?_; intro v' w1 hown1 hb1')
          go_roundw
          case rel => exact ⟨k + 1, by omega, by go_num, by rw [H2.out], hown1, hb1'⟩
          case measure => simp [intOf]; omega
    · obtain rfl : k = n := by omega
      obtain ⟨V, cap, rfl, hr⟩ := hown.rs (fun j _ => by have := HL.out j; rw [LB_eq] at this; omega)
      have HT := Lib.hid (refTrim_any V k cap _ _ wr hr)
      clear hr hown
      go_wp2_with fail
      refine HT.out.mono ?_
      rintro e w' ⟨⟨v, rfl, ht⟩, rfl⟩
      have HM := Lib.hid (ht.made (fun j _ => HL.out j) HD.out hbel)
      clear ht
      go_wp2_with fail
      go_ret
      exact ⟨_, rfl, HM.out⟩

end Go.Proofs.YtmcacofpnnaplaaGreatDoor

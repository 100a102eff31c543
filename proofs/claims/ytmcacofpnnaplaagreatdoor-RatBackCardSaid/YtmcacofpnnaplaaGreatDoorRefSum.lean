/- The contracts of the reference's Fits, Plus, Minus. Conditions as premises: the lists read, and are valid. -/
import Derived.Test.YtmcacofpnnaplaaGreatDoorApp
namespace Go.Proofs.YtmcacofpnnaplaaGreatDoor
open Go.RowKit Go.Shelf


set_option maxHeartbeats 800000 in
theorem refFits_any {w0 w : World} {N : Nat} {v : Value} (h : Made w0 N v w) : Calls Tryz.prog 112 #[v] w fun e w' => Ans w0 (fitE N) N e w' := by
  obtain ⟨A, n, c, f, rfl, hr, hd, hb⟩ := h
  have HD := Lib.hid hd
  have HB := Lib.hid hb
  rcases Nat.lt_or_ge 1024 n with hn | hn
  · rw [fitE_over (hd.len_iff.2 hn)]
    clear hd hb
    go_enter Tryz.func112, Tryz.ntmps112
    go_wp2
    go_ret2
    exact Ans.bad (by decide) HB.out
  · rw [fitE_ok (hd.len_iff.1 hn)]
    have h' : ¬ 1024 < n := by omega
    clear hd hb
    go_enter Tryz.func112, Tryz.ntmps112
    go_wp2_with (at_builtin; refine app_all rfl (.tmp 7) (.tmp 8) rfl hr (Nat.le_refl _) (by omega) rfl rfl ?_; intro A' c' w' hr' hb')
    go_ret2
    exact ⟨_, rfl, by rw [zr_ok]; exact made_rs hr' HD.out (HB.out.trans (hb'.mono HB.out.size))⟩

/-- a limb and a carry of a sum -/
theorem plus_step (F G : Nat → Nat) (k : Nat) (z : Int) (hz : z = iv (cy F G k) + iv (F k) + iv (G k)) : iv (sl F G k) = z % 1000000000 ∧ z / 1000000000 = iv (cy F G (k + 1)) := by
  have e := LB_eq
  subst hz
  rw [cy]; unfold sl; simp only [iv_eq]; rw [e]; omega

theorem Val.of_ge {n : Nat} {f : Nat → Nat} (hb : ∀ j, j < n → f j < LB) (h : 0 < n → LB ^ (n - 1) ≤ nv f n) : Val n f := by
  refine ⟨hb, fun h0 e => ?_⟩
  obtain ⟨m, rfl⟩ : ∃ m, n = m + 1 := ⟨n - 1, by omega⟩
  have h1 := h h0
  rw [Nat.add_sub_cancel] at h1 e
  have h2 := nv_lt m (fun j hj => hb j (by omega))
  rw [nv, e, Nat.zero_mul] at h1
  omega

/-- what the loop leaves is the valid list of the sum -/
theorem plus_done {n m k : Nat} {f g : Nat → Nat} (vf : Val n f) (vg : Val m g) (hn : n ≤ k) (hm : m ≤ k) (hc : cy (pl f n) (pl g m) k = 0)
    (hk : k = 0 ∨ k - 1 < n ∨ k - 1 < m ∨ cy (pl f n) (pl g m) (k - 1) ≠ 0) : Dig k (sl (pl f n) (pl g m)) (nv f n + nv g m) := by
  have he : nv (sl (pl f n) (pl g m)) k = nv f n + nv g m := by
    have := sum_eq (pl f n) (pl g m) k
    rw [hc, Nat.zero_mul, nv_pl f n k hn, nv_pl g m k hm] at this
    omega
  refine ⟨Val.of_ge (fun j _ => sl_lt _ _ _) fun h0 => ?_, he⟩
  rw [he]
  rcases hk with h | h | h | h
  · omega
  · have hk1 : k = n := by omega
    subst hk1
    have := vf.top_le h0; omega
  · have hk1 : k = m := by omega
    subst hk1
    have := vg.top_le h0; omega
  · by_cases h1 : n ≤ k - 1 ∧ m ≤ k - 1
    · have := sum_eq (pl f n) (pl g m) (k - 1)
      rw [nv_pl f n _ h1.1, nv_pl g m _ h1.2] at this
      have h2 : 1 * LB ^ (k - 1) ≤ cy (pl f n) (pl g m) (k - 1) * LB ^ (k - 1) := Nat.mul_le_mul_right _ (by omega)
      omega
    · rcases (by omega : k = n ∨ k = m) with e | e
      · subst e; have := vf.top_le h0; omega
      · subst e; have := vg.top_le h0; omega

set_option maxRecDepth 100000 in
set_option maxHeartbeats 1600000 in
theorem refPlus_any (A A' : Option Addr) (n c m c' : Nat) (f g : Nat → Nat) (w : World) (hA : Rs w w.heap.size A n c f) (hB : Rs w w.heap.size A' m c' g) (vf : Val n f) (vg : Val m g) (hn : n ≤ 2000) (hm : m ≤ 2000) :
    Calls Tryz.prog 114 #[.slice A n c, .slice A' m c'] w fun e w' => ∃ v, e = .returned v ∧ Made w (nv f n + nv g m) v w' := by
  have VF := Lib.hid vf
  have VG := Lib.hid vg
  clear vf vg
  go_enter Tryz.func114, Tryz.ntmps114
  go_wp2
  go_loopw [5, 6, 7] (fun v u i wr => ∃ k : Nat, i = .int .i64 k ∧ u = .int .u32 (iv (cy (pl f n) (pl g m) k)) ∧ Own wr w.heap.size v k (sl (pl f n) (pl g m)) ∧ Below w.heap.size w wr ∧ Hid (k ≤ n + m ∨ (k ≤ n + m + 1 ∧ cy (pl f n) (pl g m) k = 0)) ∧ Hid (k = 0 ∨ k - 1 < n ∨ k - 1 < m ∨ cy (pl f n) (pl g m) (k - 1) ≠ 0)) (fun _ _ i _ => n + m + 2 - (intOf i).toNat)
  case atStart => exact ⟨0, rfl, by rw [cy, iv_zero], Own.nil _ _ _, Below.refl _ _, .inl (by omega), .inl rfl⟩
  case round =>
    obtain ⟨k, rfl, rfl, hown, hbel, hkb, hkp⟩ := hrel
    have hc1 : cy (pl f n) (pl g m) k ≤ 1 := cy_le _ (fun j _ => ⟨pl_lt VF.out.1 j, pl_lt VG.out.1 j⟩)
    have hst := plus_step (pl f n) (pl g m) k
    have hC0 := iv_nonneg (cy (pl f n) (pl g m) k)
    have hC1 : iv (cy (pl f n) (pl g m) k) ≤ 1 := by rw [iv_eq]; omega
    have hkl : k ≤ 4001 := by have := hkb.out; omega
    have hr1 := hA.below hbel
    have hr2 := hB.below hbel
    have hkb' : k < n ∨ k < m ∨ iv (cy (pl f n) (pl g m) k) ≠ 0 → k ≤ n + m := by
      intro h
      rcases hkb.out with h2 | ⟨h2, h3⟩
      · exact h2
      · rcases h with h | h | h
        · omega
        · omega
        · exact absurd (by rw [h3, iv_zero]) h
    have HKB := Lib.hid hkb'
    clear hkb'
    generalize hgc : iv (cy (pl f n) (pl g m) k) = C at *
    have HGC := Lib.hid hgc
    clear hgc hc1
    by_cases ha : k < n
    · have hx1 := iv_limb (VF.out.1 k ha)
      have hx0 := iv_nonneg (f k)
      obtain ⟨b1, off1, rfl, hb1, hcc1⟩ := hr1.cell (by omega)
      have hck1 := hcc1 k ha
      rw [pl_in ha] at hst
      clear hcc1
      generalize iv (f k) = X at *
      by_cases hb : k < m
      · have hy1 := iv_limb (VG.out.1 k hb)
        have hy0 := iv_nonneg (g k)
        obtain ⟨b2, off2, rfl, hb2, hcc2⟩ := hr2.cell (by omega)
        have hck2 := hcc2 k hb
        rw [pl_in hb] at hst
        clear hcc2
        generalize iv (g k) = Y at *
        have HST := Lib.hid (hst _ rfl)
        clear hst
        go_wp2_with (at_builtin; refine app_own rfl (.tmp 44) (.tmp 47) rfl hown hbel rfl rfl HST.out.1 (by omega) ?_; intro v' w1 hown1 hb1')
        go_roundw
        case rel => exact ⟨k + 1, by go_num, by rw [HST.out.2], hown1, hb1', .inl (by omega), .inr (.inl (by omega))⟩
        case measure => simp [intOf]; omega
      · have hb' : m ≤ k := by omega
        rw [pl_out hb', iv_zero, Int.add_zero] at hst
        have HST := Lib.hid (hst _ rfl)
        clear hst
        go_wp2_with (at_builtin; refine app_own rfl (.tmp 44) (.tmp 47) rfl hown hbel rfl rfl HST.out.1 (by omega) ?_; intro v' w1 hown1 hb1')
        go_roundw
        case rel => exact ⟨k + 1, by go_num, by rw [HST.out.2], hown1, hb1', .inl (by omega), .inr (.inl (by omega))⟩
        case measure => simp [intOf]; omega
    · have ha' : n ≤ k := by omega
      rw [pl_out ha', iv_zero, Int.add_zero] at hst
      by_cases hb : k < m
      · have hy1 := iv_limb (VG.out.1 k hb)
        have hy0 := iv_nonneg (g k)
        obtain ⟨b2, off2, rfl, hb2, hcc2⟩ := hr2.cell (by omega)
        have hck2 := hcc2 k hb
        rw [pl_in hb] at hst
        clear hcc2
        generalize iv (g k) = Y at *
        have HST := Lib.hid (hst _ rfl)
        clear hst
        go_wp2_with (at_builtin; refine app_own rfl (.tmp 44) (.tmp 47) rfl hown hbel rfl rfl HST.out.1 (by omega) ?_; intro v' w1 hown1 hb1')
        go_roundw
        case rel => exact ⟨k + 1, by go_num, by rw [HST.out.2], hown1, hb1', .inl (by omega), .inr (.inr (.inl (by omega)))⟩
        case measure => simp [intOf]; omega
      · have hb' : m ≤ k := by omega
        rw [pl_out hb', iv_zero, Int.add_zero] at hst
        have HST := Lib.hid (hst _ rfl)
        clear hst
        by_cases hc : 0 < C
        · have hkm : k ≤ n + m := HKB.out (.inr (.inr (by omega)))
          have hC : C = 1 := by omega
          subst hC
          go_wp2_with (at_builtin; refine app_own rfl (.tmp 44) (.tmp 47) rfl hown hbel rfl rfl HST.out.1 (by omega) ?_; intro v' w1 hown1 hb1')
          go_roundw
          case rel => exact ⟨k + 1, by go_num, by rw [← HST.out.2]; rfl, hown1, hb1', .inr ⟨by omega, by have h9 := HST.out.2; rw [iv_eq] at h9; omega⟩, .inr (.inr (.inr (by have h9 := HGC.out; rw [iv_eq] at h9; simp; omega)))⟩
          case measure => simp [intOf]; omega
        · go_wp2
          go_ret
          have hz : cy (pl f n) (pl g m) k = 0 := by have h9 := HGC.out; rw [iv_eq] at h9; omega
          obtain ⟨V, cap, rfl, hr⟩ := hown.rs (fun j _ => by have := sl_lt (pl f n) (pl g m) j; rw [LB_eq] at this; omega)
          exact ⟨_, rfl, made_rs hr (plus_done VF.out VG.out ha' hb' hz hkp.out) hbel⟩

end Go.Proofs.YtmcacofpnnaplaaGreatDoor

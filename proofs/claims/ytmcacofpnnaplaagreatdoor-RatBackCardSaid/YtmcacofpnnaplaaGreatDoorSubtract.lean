/- The contracts of subtract and restore, which work in place on a window of a row. Conditions as premises. -/
import Derived.Test.YtmcacofpnnaplaaGreatDoorScaled
namespace Go.Proofs.YtmcacofpnnaplaaGreatDoor
open Go.RowKit Go.Shelf

theorem Row.grown {w w' : World} {b n B : Nat} {f : Nat → Nat} (h : Row w b n f) (hg : w.grownBy w' (some B)) (hne : b ≠ B) : Row w' b n f :=
  h.keep (hg.block _ h.lt (by intro e; injection e with e; exact hne e))

theorem Row.cg {w : World} {b n : Nat} {f g : Nat → Nat} (h : Row w b n f) (e : ∀ j, f j = g j) : Row w b n g := World.rowIs.congr h fun j _ => by rw [e j]

/-- the limb and the borrow of a round -/
theorem sub_limb {a m : Nat} (ha : a < LB) (hm : m < LB) :
    (iv a < iv m ∧ iv (a + LB) = iv a + 1000000000 ∧ iv (a + LB - m) = iv a + 1000000000 - iv m ∧ a + LB - m < LB ∧ a + LB - m + m = a + 1 * LB) ∨
    (¬ iv a < iv m ∧ iv (a - m) = iv a - iv m ∧ a - m < LB ∧ a - m + m = a + 0 * LB) := by
  have e := LB_eq
  rw [e] at ha hm
  by_cases h : a < m
  · left; simp only [iv_eq]; rw [e]; omega
  · right; simp only [iv_eq]; rw [e]; omega

set_option maxRecDepth 100000 in
set_option maxHeartbeats 4000000 in
theorem subtract_any (b o N s pc b2 dc L : Nat) (r v : Nat → Nat) (w : World) (hr : Row w b N r) (hv : Row w b2 s v) (hne : b2 ≠ b) (hN : o + s + 1 ≤ N) (hrl : ∀ j, r j < LB) (hvl : ∀ j, v j < LB) (hL : L ≤ LB) (hs : s ≤ 3000) :
    Calls Tryz.prog 194 #[.slice (some ⟨b, o, none⟩) (s + 1) pc, .slice (some ⟨b2, 0, none⟩) s dc, .int .u64 (iv L)] w fun e w' => ∃ (C : Nat) (r' : Nat → Nat), e = .returned (.bool (decide (0 < C))) ∧ w.grownBy w' (some b) ∧ Row w' b N r' ∧
      nv (fun j => r' (o + j)) (s + 1) + L * nv (pl v s) (s + 1) = nv (fun j => r (o + j)) (s + 1) + C * LB ^ (s + 1) ∧ (∀ j, r' j < LB) ∧ ∀ j, (j < o ∨ o + s + 1 ≤ j) → r' j = r j := by
  have HRL := Lib.hid hrl
  have HVL := Lib.hid hvl
  have HL := Lib.hid hL
  have hL0 := iv_nonneg L
  have hL1 : iv L ≤ 1000000000 := by have := iv_le hL; rw [LB_eq] at this; exact this
  clear hrl hvl hL
  obtain ⟨LL, hLL⟩ : ∃ LL, iv L = LL := ⟨_, rfl⟩
  rw [hLL] at hL0 hL1 ⊢
  have HLL := Lib.hid hLL
  clear hLL
  go_enter Tryz.func194, Tryz.ntmps194
  go_wp2
  go_loopw [7, 8, 9, 12] (fun u _ _ i wr => ∃ k C : Nat, k ≤ s + 1 ∧ i = .int .i64 k ∧ u = .int .u64 (iv C) ∧ ∃ r', Row wr b N r' ∧ Hid (nv (fun j => r' (o + j)) k + L * nv (pl v s) k = nv (fun j => r (o + j)) k + C * LB ^ k ∧ C ≤ LB + 1 ∧ (∀ j, r' j < LB) ∧ ∀ j, (j < o ∨ o + k ≤ j) → r' j = r j) ∧ w.grownBy wr (some b)) (fun _ _ _ i _ => s + 1 - (intOf i).toNat)
  case atStart => exact ⟨0, 0, Nat.zero_le _, rfl, by rw [iv_zero], r, hr, ⟨by simp [nv], by omega, HRL.out, fun _ _ => rfl⟩, ⟨rfl, rfl, rfl, Nat.le_refl _, fun _ _ _ => rfl⟩⟩
  case round =>
    obtain ⟨k, C, hk, rfl, rfl, r', hrr, hq, hg⟩ := hrel
    obtain ⟨he, hC, hrl', hsame⟩ := hq.out
    have hC0 := iv_nonneg C
    have hC1 : iv C ≤ 1000000001 := by have := iv_le hC; rw [LB_eq] at this; exact this
    by_cases hlt : k < s + 1
    · have hvv := hv.grown hg hne
      have hcp := hrr.cell (show o + k < N by omega)
      have hfz := hrr.frozen (o + k)
      have hrk : r' (o + k) = r (o + k) := hsame _ (.inr (Nat.le_refl _))
      have hy1 := iv_limb (hrl' (o + k))
      have hy0 := iv_nonneg (r' (o + k))
      have hcarry := fun bo hbo => sub_carry (L := L) (b := pl v s k) (C := C) (bo := bo) HL.out (pl_lt (fun j _ => HVL.out j) k) hC hbo
      have hmodlt := Nat.mod_lt (C + L * pl v s k) LB_pos
      -- what the round leaves
      have hfin : ∀ y bo, bo ≤ 1 → y < LB → y + (C + L * pl v s k) % LB = r' (o + k) + bo * LB →
          nv (fun j => (fun i => if i = o + k then y else r' i) (o + j)) (k + 1) + L * nv (pl v s) (k + 1) = nv (fun j => r (o + j)) (k + 1) + ((C + L * pl v s k) / LB + bo) * LB ^ (k + 1) ∧ (C + L * pl v s k) / LB + bo ≤ LB + 1 ∧ (∀ j, (if j = o + k then y else r' j) < LB) ∧ ∀ j, (j < o ∨ o + (k + 1) ≤ j) → (if j = o + k then y else r' j) = r j := fun y bo hbo hy hyb => by
        rw [hrk] at hyb
        refine ⟨?_, (hcarry bo hbo).1, fun j => by split; exact hy; exact hrl' j, fun j hj => by rw [if_neg (by omega)]; exact hsame j (by omega)⟩
        rw [win_set, show nv (pl v s) (k + 1) = nv (pl v s) k + pl v s k * LB ^ k from rfl, show nv (fun j => r (o + j)) (k + 1) = nv (fun j => r (o + j)) k + r (o + k) * LB ^ k from rfl]
        exact sub_step he hyb
      have HFIN := Lib.hid hfin
      have hLb := (hcarry 0 (by omega)).2
      have hset := fun y => hrr.set (o + k) y
      have hset2 := fun y z => (hrr.set (o + k) y).set (o + k) z
      have HSET := Lib.hid hset
      have HSET2 := Lib.hid hset2
      have hcb := (hcarry 1 (by omega)).1
      clear hfin hcarry he hsame hq hset hset2
      have hsl := sub_limb (hrl' (o + k)) hmodlt
      have hm0 := iv_nonneg ((C + L * pl v s k) % LB)
      have hm1 := iv_limb hmodlt
      have hd0 := iv_nonneg ((C + L * pl v s k) / LB)
      have hd1 : iv ((C + L * pl v s k) / LB) ≤ 1000000001 := Int.le_trans (iv_le (Nat.le_trans (Nat.le_add_right _ 1) hcb)) (by rw [LB_eq]; decide)
      have hdp : iv ((C + L * pl v s k) / LB + 1) = iv ((C + L * pl v s k) / LB) + 1 := by simp only [iv_eq]; omega
      have HDP := Lib.hid hdp
      clear hdp hcb hmodlt
      have hg0 := hg
      have HG := Lib.hid hg0
      clear hg0 hrl'
      by_cases hk2 : k < s
      · have hck := hvv.cell hk2
        rw [pl_in hk2] at *
        have hx0 := iv_nonneg (v k)
        have hx1 := iv_limb (HVL.out k)
        obtain ⟨ed, em⟩ := @iv_muladd2 C L (v k)
        have hp0 : 0 ≤ iv L * iv (v k) := Int.mul_nonneg (iv_nonneg _) hx0
        have hp1 : iv L * iv (v k) ≤ 1000000000000000000 := by
          have h4 := iv_le hLb
          rw [iv_eq, Int.natCast_mul, ← iv_eq, ← iv_eq] at h4
          exact h4
        rw [HLL.out] at ed em hp0 hp1
        clear hLb
        rcases hsl with ⟨hlt2, e1, e2, e3, e4⟩ | ⟨hlt2, e2, e3, e4⟩
        · have HF := Lib.hid (HFIN.out _ 1 (Nat.le_refl _) e3 e4)
          have HR := Lib.hid ((HSET2.out (r' (o + k) + LB) (r' (o + k) + LB - (C + L * v k) % LB)).cg (g := fun j => if j = o + k then r' (o + k) + LB - (C + L * v k) % LB else r' j) fun j => by by_cases h : j = o + k <;> simp [h])
          have HR1 := HSET.out (r' (o + k) + LB)
          have hc2 := HR1.cell (show o + k < N by omega)
          have hf2 := HR1.frozen (o + k)
          rw [if_pos rfl, e1] at hc2
          rw [e1] at hf2
          rw [e1, e2] at HR
          clear HR1 e1 e2 e3 e4 HFIN HSET HSET2
          generalize hgm : iv ((C + L * v k) % LB) = M at *
          generalize hgd : iv ((C + L * v k) / LB) = Dq at *
          generalize hgr : iv (r' (o + k)) = R at *
          generalize hgy : iv (v k) = Y at *
          generalize hgc : iv C = CC at *
          clear hgm hgd hgr hgy hgc
          go_wp2
          go_roundw
          case rel => exact ⟨k + 1, _, by omega, by go_num, by rw [HDP.out], _, HR.out, HF.out, (HG.out.trans (grownBy_set _ b (o + k) _)).trans (grownBy_set _ b (o + k) _)⟩
          case measure => simp [intOf]; omega
        · have HF := Lib.hid (HFIN.out _ 0 (Nat.zero_le _) e3 e4)
          have HR := Lib.hid (HSET.out (r' (o + k) - (C + L * v k) % LB))
          rw [e2] at HR
          simp only [Nat.add_zero] at HF
          clear e2 e3 e4 HFIN HSET HSET2
          generalize hgm : iv ((C + L * v k) % LB) = M at *
          generalize hgd : iv ((C + L * v k) / LB) = Dq at *
          generalize hgr : iv (r' (o + k)) = R at *
          generalize hgy : iv (v k) = Y at *
          generalize hgc : iv C = CC at *
          have HGD := Lib.hid hgd
          clear hgm hgd hgr hgy hgc
          go_wp2
          go_roundw
          case rel => exact ⟨k + 1, _, by omega, by go_num, by rw [HGD.out, ed], _, HR.out, HF.out, HG.out.trans (grownBy_set _ b (o + k) _)⟩
          case measure => simp [intOf]; omega
      · rw [pl_out (by omega)] at *
        simp only [Nat.mul_zero, Nat.add_zero] at HDP HFIN hd0 hd1 hm0 hm1 hsl
        have ed : iv C / 1000000000 = iv (C / LB) := by simp only [iv_eq]; rw [LB_eq]; omega
        have em : iv C % 1000000000 = iv (C % LB) := by simp only [iv_eq]; rw [LB_eq]; omega
        clear hLb
        rcases hsl with ⟨hlt2, e1, e2, e3, e4⟩ | ⟨hlt2, e2, e3, e4⟩
        · have HF := Lib.hid (HFIN.out _ 1 (Nat.le_refl _) e3 e4)
          have HR := Lib.hid ((HSET2.out (r' (o + k) + LB) (r' (o + k) + LB - C % LB)).cg (g := fun j => if j = o + k then r' (o + k) + LB - C % LB else r' j) fun j => by by_cases h : j = o + k <;> simp [h])
          have HR1 := HSET.out (r' (o + k) + LB)
          have hc2 := HR1.cell (show o + k < N by omega)
          have hf2 := HR1.frozen (o + k)
          rw [if_pos rfl, e1] at hc2
          rw [e1] at hf2
          rw [e1, e2] at HR
          clear HR1 e1 e2 e3 e4 HFIN HSET HSET2
          generalize hgm : iv (C % LB) = M at *
          generalize hgd : iv (C / LB) = Dq at *
          generalize hgr : iv (r' (o + k)) = R at *
          generalize hgc : iv C = CC at *
          clear hgm hgd hgr hgc
          go_wp2
          go_roundw
          case rel => exact ⟨k + 1, _, by omega, by go_num, by rw [HDP.out], _, HR.out, HF.out, (HG.out.trans (grownBy_set _ b (o + k) _)).trans (grownBy_set _ b (o + k) _)⟩
          case measure => simp [intOf]; omega
        · have HF := Lib.hid (HFIN.out _ 0 (Nat.zero_le _) e3 e4)
          have HR := Lib.hid (HSET.out (r' (o + k) - C % LB))
          rw [e2] at HR
          simp only [Nat.add_zero] at HF
          clear e2 e3 e4 HFIN HSET HSET2
          generalize hgm : iv (C % LB) = M at *
          generalize hgd : iv (C / LB) = Dq at *
          generalize hgr : iv (r' (o + k)) = R at *
          generalize hgc : iv C = CC at *
          have HGD := Lib.hid hgd
          clear hgm hgd hgr hgc
          go_wp2
          go_roundw
          case rel => exact ⟨k + 1, _, by omega, by go_num, by rw [HGD.out, ed], _, HR.out, HF.out, HG.out.trans (grownBy_set _ b (o + k) _)⟩
          case measure => simp [intOf]; omega
    · obtain rfl : k = s + 1 := by omega
      have hdec : decide (0 < iv C) = decide (0 < C) := by rw [iv_eq]; congr 1; rw [Int.natCast_pos]
      have HDEC := Lib.hid hdec
      have HQ := Lib.hid (And.intro he (And.intro hrl' hsame))
      clear hdec he hrl' hsame hq
      go_wp2
      go_ret
      exact ⟨C, r', by rw [← HDEC.out]; rfl, hg, hrr, HQ.out.1, HQ.out.2.1, fun j hj => HQ.out.2.2 j (by omega)⟩

theorem add_limb {a c b : Nat} (hc : c ≤ 1) (ha : a < LB) (hb : b < LB) :
    ((1000000000 ≤ iv a + iv c + iv b ∧ iv ((a + c + b) % LB) = iv a + iv c + iv b - 1000000000 ∧ iv ((a + c + b) / LB) = 1) ∨
     (¬ 1000000000 ≤ iv a + iv c + iv b ∧ iv ((a + c + b) % LB) = iv a + iv c + iv b ∧ iv ((a + c + b) / LB) = 0)) ∧ (a + c + b) / LB ≤ 1 := by
  have e := LB_eq
  simp only [iv_eq]; rw [e] at ha hb; rw [e]; omega

set_option maxRecDepth 100000 in
set_option maxHeartbeats 4000000 in
theorem restore_any (b o N s pc b2 dc : Nat) (r v : Nat → Nat) (w : World) (hr : Row w b N r) (hv : Row w b2 s v) (hne : b2 ≠ b) (hN : o + s + 1 ≤ N) (hrl : ∀ j, r j < LB) (hvl : ∀ j, v j < LB) (hs : s ≤ 3000) :
    Calls Tryz.prog 195 #[.slice (some ⟨b, o, none⟩) (s + 1) pc, .slice (some ⟨b2, 0, none⟩) s dc] w fun e w' => ∃ (C : Nat) (r' : Nat → Nat), e = .returned (.tuple #[]) ∧ w.grownBy w' (some b) ∧ Row w' b N r' ∧
      nv (fun j => r' (o + j)) (s + 1) + C * LB ^ (s + 1) = nv (fun j => r (o + j)) (s + 1) + nv (pl v s) (s + 1) ∧ (∀ j, r' j < LB) ∧ ∀ j, (j < o ∨ o + s + 1 ≤ j) → r' j = r j := by
  have HRL := Lib.hid hrl
  have HVL := Lib.hid hvl
  clear hrl hvl
  go_enter Tryz.func195, Tryz.ntmps195
  go_wp2
  go_loopw [4, 5, 6, 9] (fun u _ _ i wr => ∃ k C : Nat, k ≤ s + 1 ∧ i = .int .i64 k ∧ u = .int .u32 (iv C) ∧ ∃ r', Row wr b N r' ∧ Hid (nv (fun j => r' (o + j)) k + C * LB ^ k = nv (fun j => r (o + j)) k + nv (pl v s) k ∧ C ≤ 1 ∧ (∀ j, r' j < LB) ∧ ∀ j, (j < o ∨ o + k ≤ j) → r' j = r j) ∧ w.grownBy wr (some b)) (fun _ _ _ i _ => s + 1 - (intOf i).toNat)
  case atStart => exact ⟨0, 0, Nat.zero_le _, rfl, by rw [iv_zero], r, hr, ⟨by simp [nv], by omega, HRL.out, fun _ _ => rfl⟩, ⟨rfl, rfl, rfl, Nat.le_refl _, fun _ _ _ => rfl⟩⟩
  case round =>
    obtain ⟨k, C, hk, rfl, rfl, r', hrr, hq, hg⟩ := hrel
    obtain ⟨he, hC, hrl', hsame⟩ := hq.out
    have hC0 := iv_nonneg C
    have hC1 : iv C ≤ 1 := by have := iv_le hC; exact this
    by_cases hlt : k < s + 1
    · have hvv := hv.grown hg hne
      have hcp := hrr.cell (show o + k < N by omega)
      have hfz := hrr.frozen (o + k)
      have hrk : r' (o + k) = r (o + k) := hsame _ (.inr (Nat.le_refl _))
      have hy1 := iv_limb (hrl' (o + k))
      have hy0 := iv_nonneg (r' (o + k))
      obtain ⟨hsl, hcar⟩ := add_limb (c := C) hC (hrl' (o + k)) (pl_lt (n := s) (fun j _ => HVL.out j) k)
      have hfin : nv (fun j => (fun i => if i = o + k then (r' (o + k) + C + pl v s k) % LB else r' i) (o + j)) (k + 1) + (r' (o + k) + C + pl v s k) / LB * LB ^ (k + 1) = nv (fun j => r (o + j)) (k + 1) + nv (pl v s) (k + 1) ∧ (r' (o + k) + C + pl v s k) / LB ≤ 1 ∧ (∀ j, (if j = o + k then (r' (o + k) + C + pl v s k) % LB else r' j) < LB) ∧ ∀ j, (j < o ∨ o + (k + 1) ≤ j) → (if j = o + k then (r' (o + k) + C + pl v s k) % LB else r' j) = r j := by
        refine ⟨?_, hcar, fun j => by split; exact Nat.mod_lt _ LB_pos; exact hrl' j, fun j hj => by rw [if_neg (by omega)]; exact hsame j (by omega)⟩
        rw [win_set, show nv (pl v s) (k + 1) = nv (pl v s) k + pl v s k * LB ^ k from rfl, show nv (fun j => r (o + j)) (k + 1) = nv (fun j => r (o + j)) k + r (o + k) * LB ^ k from rfl, hrk]
        exact add_step he
      have HF := Lib.hid hfin
      have hset := hrr.set (o + k) ((r' (o + k) + C + pl v s k) % LB)
      have HG := Lib.hid hg
      clear hfin he hsame hq hcar
      by_cases hk2 : k < s
      · have hck := hvv.cell hk2
        rw [pl_in hk2] at *
        have hx0 := iv_nonneg (v k)
        have hx1 := iv_limb (HVL.out k)
        rcases hsl with ⟨hlim, e1, e2⟩ | ⟨hlim, e1, e2⟩
        · rw [e1] at hset
          have HS := Lib.hid hset
          have H2 := Lib.hid e2
          clear hset e1 e2 hrl'
          generalize iv (r' (o + k)) = R at *
          generalize iv (v k) = Y at *
          generalize iv C = CC at *
          go_wp2
          go_roundw
          case rel => exact ⟨k + 1, _, by omega, by go_num, by rw [H2.out], _, HS.out, HF.out, HG.out.trans (grownBy_set _ b (o + k) _)⟩
          case measure => simp [intOf]; omega
        · rw [e1] at hset
          have HS := Lib.hid hset
          have H2 := Lib.hid e2
          clear hset e1 e2 hrl'
          generalize iv (r' (o + k)) = R at *
          generalize iv (v k) = Y at *
          generalize iv C = CC at *
          go_wp2
          go_roundw
          case rel => exact ⟨k + 1, _, by omega, by go_num, by rw [H2.out], _, HS.out, HF.out, HG.out.trans (grownBy_set _ b (o + k) _)⟩
          case measure => simp [intOf]; omega
      · rw [pl_out (by omega)] at *
        simp only [iv_zero, Int.add_zero] at hsl
        rcases hsl with ⟨hlim, e1, e2⟩ | ⟨hlim, e1, e2⟩
        · rw [e1] at hset
          have HS := Lib.hid hset
          have H2 := Lib.hid e2
          clear hset e1 e2 hrl'
          generalize iv (r' (o + k)) = R at *
          generalize iv C = CC at *
          go_wp2
          go_roundw
          case rel => exact ⟨k + 1, _, by omega, by go_num, by rw [H2.out], _, HS.out, HF.out, HG.out.trans (grownBy_set _ b (o + k) _)⟩
          case measure => simp [intOf]; omega
        · rw [e1] at hset
          have HS := Lib.hid hset
          have H2 := Lib.hid e2
          clear hset e1 e2 hrl'
          generalize iv (r' (o + k)) = R at *
          generalize iv C = CC at *
          go_wp2
          go_roundw
          case rel => exact ⟨k + 1, _, by omega, by go_num, by rw [H2.out], _, HS.out, HF.out, HG.out.trans (grownBy_set _ b (o + k) _)⟩
          case measure => simp [intOf]; omega
    · obtain rfl : k = s + 1 := by omega
      have HQ := Lib.hid (And.intro he (And.intro hrl' hsame))
      clear he hrl' hsame hq
      go_wp2
      go_end0
      exact ⟨C, r', rfl, hg, hrr, HQ.out.1, HQ.out.2.1, fun j hj => HQ.out.2.2 j (by omega)⟩

end Go.Proofs.YtmcacofpnnaplaaGreatDoor

/- The contract of guess: the quotient, or one more. Conditions as premises: the divisor's highest limb is at least half of ten to the ninth, and the quotient is one limb. -/
import Derived.Test.YtmcacofpnnaplaaGreatDoorSubtract
import Derived.Test.YtmcacofpnnaplaaGreatDoorSmall
namespace Go.Proofs.YtmcacofpnnaplaaGreatDoor
open Go.RowKit Go.Shelf

theorem first_le {P D U v1 v2 u2 K D' : Nat} (hP : (U * LB + u2) * K ≤ P) (hlt : P < D * LB) (hD : D = (v1 * LB + v2) * K + D') (hD' : D' < K) (hv2 : v2 < LB) (hn : LB ≤ 2 * v1) : U / v1 ≤ LB + 1 := by
  have h1 : D ≤ (v1 + 1) * LB * K := by
    have h2 : v2 * K + D' ≤ LB * K := by
      have := Nat.mul_le_mul_right K (show v2 + 1 ≤ LB from hv2)
      rw [Nat.add_mul, Nat.one_mul] at this; omega
    rw [hD, Nat.add_mul, Nat.add_mul, Nat.add_mul, Nat.one_mul]; omega
  have h3 : D * LB ≤ (v1 + 1) * LB * K * LB := Nat.mul_le_mul_right _ h1
  have h4 : U * LB * K ≤ P := Nat.le_trans (Nat.mul_le_mul_right _ (by omega)) hP
  have h5 : U * (LB * K) < (v1 + 1) * LB * (LB * K) := by
    rw [← Nat.mul_assoc]
    have : (v1 + 1) * LB * K * LB = (v1 + 1) * LB * (LB * K) := by ac_rfl
    omega
  have h6 := Nat.lt_of_mul_lt_mul_right h5
  have hv : 0 < v1 := by have := LB_pos; omega
  have h7 : U / v1 < LB + 2 := by
    rw [Nat.div_lt_iff_lt_mul hv]
    have : (LB + 2) * v1 = v1 * LB + 2 * v1 := by rw [Nat.add_mul, Nat.mul_comm LB]
    rw [Nat.add_mul, Nat.one_mul] at h6
    omega
  omega

/-- what the loop of guess keeps -/
structure Gs (Q U v1 L R : Nat) : Prop where
  eq : L * v1 + R = U
  ge : Q ≤ L
  le : L ≤ LB + 1
  rest : R < LB

set_option maxRecDepth 100000 in
set_option maxHeartbeats 4000000 in
theorem guess_any (A A' : Option Addr) (s pc dc : Nat) (u v : Nat → Nat) (B B' : Nat) (w : World) (hA : Rs w B A (s + 1) pc u) (hB : Rs w B' A' s dc v) (hs2 : 2 ≤ s) (hs : s ≤ 3000) (hul : ∀ j, u j < LB) (hvl : ∀ j, v j < LB)
    (hlt : nv u (s + 1) < nv v s * LB) (hn : LB ≤ 2 * v (s - 1)) :
    Calls Tryz.prog 193 #[.slice A (s + 1) pc, .slice A' s dc] w fun e w' => ∃ g, e = .returned (.int .u64 (iv g)) ∧ Qt w w' ∧ nv u (s + 1) / nv v s ≤ g ∧ (g - 1) * nv v s ≤ nv u (s + 1) ∧ g ≤ LB := by
  obtain ⟨b1, off1, rfl, hb1, hc1⟩ := hA.cell (by omega)
  obtain ⟨b2, off2, rfl, hb2, hc2⟩ := hB.cell (by omega)
  have p1 := hc1 s (by omega)
  have p2 := hc1 (s - 1) (by omega)
  have p3 := hc1 (s - 2) (by omega)
  have d1 := hc2 (s - 1) (by omega)
  have d2 := hc2 (s - 2) (by omega)
  clear hc1 hc2 hA hB
  have hi1 : ((s - 1 : Nat) : Int) = (s : Int) - 1 := by omega
  have hi2 : ((s - 2 : Nat) : Int) = (s : Int) - 2 := by omega
  -- the numbers
  have hPe : nv u (s + 1) = ((u s * LB + u (s - 1)) * LB + u (s - 2)) * LB ^ (s - 2) + nv u (s - 2) := by
    obtain ⟨t, rfl⟩ : ∃ t, s = t + 2 := ⟨s - 2, by omega⟩
    exact nv_top3 u t
  have hDe : nv v s = (v (s - 1) * LB + v (s - 2)) * LB ^ (s - 2) + nv v (s - 2) := by
    obtain ⟨t, rfl⟩ : ∃ t, s = t + 2 := ⟨s - 2, by omega⟩
    exact nv_top2 v t
  have hD' : nv v (s - 2) < LB ^ (s - 2) := nv_lt _ fun j _ => hvl j
  have hP' : nv u (s - 2) < LB ^ (s - 2) := nv_lt _ fun j _ => hul j
  obtain ⟨U, hU⟩ : ∃ U, U = u s * LB + u (s - 1) := ⟨_, rfl⟩
  rw [← hU] at hPe
  have hlo : (U * LB + u (s - 2)) * LB ^ (s - 2) ≤ nv u (s + 1) := by rw [hPe]; exact Nat.le_add_right _ _
  have hhi : nv u (s + 1) < (U * LB + u (s - 2) + 1) * LB ^ (s - 2) := by rw [hPe, Nat.add_mul _ 1, Nat.one_mul]; exact Nat.add_lt_add_left hP' _
  have hv1 : 1 ≤ v (s - 1) := by have := LB_pos; omega
  have hDpos : 0 < nv v s := by
    rw [hDe]
    have h1 : 1 * LB ^ (s - 2) ≤ (v (s - 1) * LB + v (s - 2)) * LB ^ (s - 2) := Nat.mul_le_mul_right _ (by
      have := Nat.mul_le_mul hv1 LB_pos
      omega)
    have h2 : 0 < LB ^ (s - 2) := Nat.pow_pos LB_pos
    omega
  have hq : nv u (s + 1) / nv v s * nv v s ≤ nv u (s + 1) := Nat.div_mul_le_self _ _
  have hqB : nv u (s + 1) / nv v s < LB := by rw [Nat.div_lt_iff_lt_mul hDpos, Nat.mul_comm]; exact hlt
  generalize hQ : nv u (s + 1) / nv v s = Q at *
  have HQ := Lib.hid hQ
  clear hQ
  have hfirst := guess_first (B := LB) hhi (hul _) hDe hv1 hq
  have hle := first_le hlo hlt hDe hD' (hvl _) hn
  have hUlt : U < LB * LB := by
    have h1 := Nat.mul_le_mul_right LB (show u s + 1 ≤ LB from hul s)
    rw [Nat.add_mul, Nat.one_mul] at h1
    have := hul (s - 1)
    omega
  have hG0 : Gs Q U (v (s - 1)) (U / v (s - 1)) (U % v (s - 1)) :=
    ⟨by rw [Nat.mul_comm]; exact Nat.div_add_mod _ _, hfirst, hle, Nat.lt_trans (Nat.mod_lt _ hv1) (hvl _)⟩
  -- the ways on
  have hdown : ∀ L R, Gs Q U (v (s - 1)) L R → (LB ≤ L ∨ R * LB + u (s - 2) < L * v (s - 2)) → Q ≤ L - 1 ∧ 1 ≤ L ∧ (L - 1) * v (s - 1) + (R + v (s - 1)) = U := fun L R h hh => by
    have h0 : Q < L := by
      rcases hh with h1 | h1
      · omega
      · exact guess_down hhi (by rw [hDe]; omega) h.eq h1 hq
    refine ⟨by omega, by omega, ?_⟩
    have h1 : L - 1 + 1 = L := by omega
    have h2 := congrArg (· * v (s - 1)) h1
    simp only [Nat.add_mul, Nat.one_mul] at h2
    have := h.eq
    omega
  have hfar : ∀ L R, Gs Q U (v (s - 1)) L R → (LB ≤ L ∨ R * LB + u (s - 2) < L * v (s - 2)) → LB ≤ R + v (s - 1) → (L - 1 - 1) * nv v s ≤ nv u (s + 1) ∧ L - 1 ≤ LB := fun L R h hh hR => by
    have h1 := hdown L R h hh
    have h2 := guess_far (L := L - 1) hlo hDe hD' (hvl _) h1.2.2 hR (by have := h.le; omega)
    exact ⟨Nat.le_trans (Nat.mul_le_mul_right _ (Nat.sub_le _ _)) h2, by have := h.le; omega⟩
  have hok : ∀ L R, Gs Q U (v (s - 1)) L R → L < LB → L * v (s - 2) ≤ R * LB + u (s - 2) → (L - 1) * nv v s ≤ nv u (s + 1) := fun L R h hL hh => guess_ok hlo hDe hD' hv1 h.eq hh hL
  have HG0 := Lib.hid hG0
  have HDN := Lib.hid hdown
  have HFAR := Lib.hid hfar
  have HOK := Lib.hid hok
  have HUL := Lib.hid hul
  have HVL := Lib.hid hvl
  have HU := Lib.hid hU
  have HULT := Big.mk hUlt
  clear hG0 hdown hfar hok hPe hDe hD' hP' hlo hhi hq hqB hfirst hle hUlt hlt hn hDpos
  have a1 := iv_limb (HUL.out s)
  have a0 := iv_nonneg (u s)
  have b1' := iv_limb (HUL.out (s - 1))
  have b0' := iv_nonneg (u (s - 1))
  have c1 := iv_limb (HUL.out (s - 2))
  have c0 := iv_nonneg (u (s - 2))
  have e1 := iv_limb (HVL.out (s - 1))
  have e0 := iv_pos (show v (s - 1) ≠ 0 by omega)
  have f1 := iv_limb (HVL.out (s - 2))
  have f0 := iv_nonneg (v (s - 2))
  have eU : iv (u s) * 1000000000 + iv (u (s - 1)) = iv U := by rw [HU.out]; simp only [iv_eq]; rw [LB_eq]; omega
  obtain ⟨eM, eD⟩ := iv_mod' U (v (s - 1))
  have eb : (iv (v (s - 1)) == 0) = false := by rw [beq_eq_false_iff_ne]; omega
  have U0 := iv_nonneg U
  have U1 : iv U ≤ 1000000000000000000 := by have := iv_le (Nat.le_of_lt HULT.out); rw [LB_eq] at this; exact this
  have q0 : 0 ≤ iv U / iv (v (s - 1)) := by rw [eD]; exact iv_nonneg _
  have q1 : iv U / iv (v (s - 1)) ≤ 1000000001 := by rw [eD]; have := iv_le HG0.out.le; rw [LB_eq] at this; exact this
  have EM := Lib.hid eM
  have ED := Lib.hid eD
  clear eM eD hv1 hul hvl hU
  go_enter Tryz.func193, Tryz.ntmps193
  go_wp2
  go_quiet (fail)
  go_wp2
  go_quiet (fail)
  go_wp2
  go_quiet (fail)
  go_wp2
  rw [ED.out, EM.out]
  go_loopw [9, 10] (fun i j wr => ∃ L R d : Nat, i = .int .u64 (iv L) ∧ j = .int .u64 (iv R) ∧ Hid (Gs Q U (v (s - 1)) L R) ∧ wr = w.drewN d) (fun i _ _ => (intOf i).toNat)
  case atStart => exact ⟨_, _, _, rfl, rfl, HG0, by rw [World.drewN_drewN, World.drewN_drewN]⟩
  case round =>
    obtain ⟨L, R, d, rfl, rfl, hG, rfl⟩ := hrel
    have l0 := iv_nonneg L
    have l1 : iv L ≤ 1000000001 := by have := iv_le hG.out.le; rw [LB_eq] at this; exact this
    have r0 := iv_nonneg R
    have r1 := iv_limb hG.out.rest
    have hLm : iv L ≠ 0 → iv (L - 1) = iv L - 1 := fun h => by rw [iv_eq] at h; simp only [iv_eq]; omega
    have hRp : iv (R + v (s - 1)) = iv R + iv (v (s - 1)) := by simp only [iv_eq]; omega
    have hleL : LB ≤ L ↔ 1000000000 ≤ iv L := by simp only [iv_eq]; rw [LB_eq]; omega
    have hleR : LB ≤ R + v (s - 1) ↔ 1000000000 ≤ iv R + iv (v (s - 1)) := by simp only [iv_eq]; rw [LB_eq]; omega
    have hcmp : R * LB + u (s - 2) < L * v (s - 2) ↔ iv R * 1000000000 + iv (u (s - 2)) < iv L * iv (v (s - 2)) := by
      simp only [iv_eq]; rw [LB_eq, ← Int.natCast_mul]; omega
    have hp0 : 0 ≤ iv L * iv (v (s - 2)) := Int.mul_nonneg l0 f0
    have hp1 : iv L * iv (v (s - 2)) ≤ 1000000001 * 999999999 := Int.mul_le_mul l1 (by omega) f0 (by omega)
    have hdn := HDN.out L R hG.out
    have hfa := HFAR.out L R hG.out
    have hokk := HOK.out L R hG.out
    rw [hleL, hcmp] at hdn hfa
    rw [hleR] at hfa
    have hlt' : L < LB ↔ ¬ 1000000000 ≤ iv L := by rw [← hleL]; omega
    have hle' : L * v (s - 2) ≤ R * LB + u (s - 2) ↔ ¬ iv R * 1000000000 + iv (u (s - 2)) < iv L * iv (v (s - 2)) := by rw [← hcmp]; omega
    rw [hlt', hle'] at hokk
    have HDN' := Lib.hid hdn
    have HFA' := Lib.hid hfa
    have HOK' := Lib.hid hokk
    have HLM := Lib.hid hLm
    have HRP := Lib.hid hRp
    have HLE := Lib.hid hG.out.ge
    have HLE2 := Lib.hid hG.out.le
    have HRR := Lib.hid hleR
    have HLL := Lib.hid hleL
    clear hleL hleR hcmp hdn hfa hokk hlt' hle' hLm hRp
    have hLne : 1000000000 ≤ iv L ∨ iv R * 1000000000 + iv (u (s - 2)) < iv L * iv (v (s - 2)) → 1 ≤ iv L := fun h => by
      have := (HDN'.out h).2.1
      rw [iv_eq]; omega
    have HLNE := Lib.hid hLne
    clear hLne
    -- one more round, or out of it
    by_cases c1' : 1000000000 ≤ iv L
    · have h1 := HLNE.out (.inl c1')
      have hm1 := HLM.out (by omega)
      have hd := HDN'.out (.inl c1')
      by_cases c2' : 1000000000 ≤ iv R + iv (v (s - 1))
      · have hf := HFA'.out (.inl c1') c2'
        have HF := Lib.hid hf
        have HD := Lib.hid hd
        have HM := Lib.hid hm1
        clear hf hd hm1
        go_wp2
        go_ret
        exact ⟨L - 1, by rw [HM.out]; rfl, Qt.n1 _ _, HD.out.1, HF.out.1, HF.out.2⟩
      · have HD := Lib.hid hd
        have HM := Lib.hid hm1
        have hR2 : R + v (s - 1) < LB := by
          rcases Nat.lt_or_ge (R + v (s - 1)) LB with h | h
          · exact h
          · exact absurd (HRR.out.1 h) c2'
        have HR2 := Lib.hid hR2
        clear hd hm1 hR2
        go_wp2
        go_roundw
        case rel => exact ⟨L - 1, R + v (s - 1), d, by rw [HM.out], by rw [HRP.out], ⟨HD.out.2.2, HD.out.1, by have := HLE2.out; omega, HR2.out⟩, rfl⟩
        case measure => simp [intOf]; omega
    · by_cases c3' : iv R * 1000000000 + iv (u (s - 2)) < iv L * iv (v (s - 2))
      · have h1 := HLNE.out (.inr c3')
        have hm1 := HLM.out (by omega)
        have hd := HDN'.out (.inr c3')
        by_cases c2' : 1000000000 ≤ iv R + iv (v (s - 1))
        · have hf := HFA'.out (.inr c3') c2'
          have HF := Lib.hid hf
          have HD := Lib.hid hd
          have HM := Lib.hid hm1
          clear hf hd hm1
          go_wp2
          go_ret
          exact ⟨L - 1, by rw [HM.out]; rfl, Qt.n1 _ _, HD.out.1, HF.out.1, HF.out.2⟩
        · have HD := Lib.hid hd
          have HM := Lib.hid hm1
          have hR2 : R + v (s - 1) < LB := by
            rcases Nat.lt_or_ge (R + v (s - 1)) LB with h | h
            · exact h
            · exact absurd (HRR.out.1 h) c2'
          have HR2 := Lib.hid hR2
          clear hd hm1 hR2
          go_wp2
          go_roundw
          case rel => exact ⟨L - 1, R + v (s - 1), d, by rw [HM.out], by rw [HRP.out], ⟨HD.out.2.2, HD.out.1, by have := HLE2.out; omega, HR2.out⟩, rfl⟩
          case measure => simp [intOf]; omega
      · have hf := HOK'.out c1' c3'
        have hLl : L ≤ LB := by
          rcases Nat.lt_or_ge LB L with h | h
          · exact absurd (HLL.out.1 (by omega)) c1'
          · exact h
        have HF := Lib.hid hf
        have HL2 := Lib.hid hLl
        clear hf hLl
        go_wp2
        go_ret
        exact ⟨L, rfl, Qt.n1 _ _, HLE.out, HF.out, HL2.out⟩

end Go.Proofs.YtmcacofpnnaplaaGreatDoor

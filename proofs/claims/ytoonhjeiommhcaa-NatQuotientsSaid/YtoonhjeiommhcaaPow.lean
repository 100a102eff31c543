/- The contract of Pow. Conditions as premises: the list reads. -/
import Derived.Test.YtoonhjeiommhcaaMul
namespace Go.Proofs.Ytoonhjeiommhcaa
open Go.RowKit Go.Shelf

theorem bitLen_gt : ∀ (s x : Nat), x < 2 ^ s → s ≤ 64 → x < 2 ^ (Lib.bitLen x)
  | 0, x, h, _ => by
    obtain rfl : x = 0 := by simpa using h
    exact Nat.pow_pos (by omega)
  | s + 1, x, h, hs => by
    rcases Nat.eq_zero_or_pos x with h0 | h0
    · subst h0; exact Nat.pow_pos (by omega)
    · have h1 : x / 2 < 2 ^ s := by rw [Nat.div_lt_iff_lt_mul (by omega), ← Nat.pow_succ]; exact h
      have h2 := bitLen_gt s (x / 2) h1 (by omega)
      rw [Lib.bitLen_half x (by omega) (Nat.lt_of_lt_of_le h (Nat.pow_le_pow_right (by omega) hs)), Nat.add_comm, Nat.pow_succ]
      omega

theorem and1_i64 (n : Nat) (hn : n < 9223372036854775808) : bits .and .i64 (n : Int) 1 = ((n % 2 : Nat) : Int) := by
  have h1 : (BitVec.ofInt 64 (n : Int)).toNat = n := by
    rw [BitVec.ofInt_natCast, BitVec.toNat_ofNat]; exact Nat.mod_eq_of_lt (by omega)
  show IntKind.i64.wrap ((BitVec.ofInt 64 (n : Int) &&& BitVec.ofInt 64 1).toNat : Int) = _
  rw [BitVec.toNat_and, h1, show (BitVec.ofInt 64 1).toNat = 2 ^ 1 - 1 from rfl, Nat.and_two_pow_sub_one_eq_mod, IntKind.wrap_i64]
  omega

theorem bit_test (k p : Nat) (hk : k ≤ 10000) : (bits .and .i64 ((k : Int) / 2 ^ p) 1 == 0) = decide (k / 2 ^ p % 2 = 0) := by
  have e : (k : Int) / 2 ^ p = ((k / 2 ^ p : Nat) : Int) := by rw [Int.natCast_ediv, Int.natCast_pow]; rfl
  have h : k / 2 ^ p ≤ k := Nat.div_le_self _ _
  rw [e, and1_i64 _ (by omega)]
  by_cases hz : k / 2 ^ p % 2 = 0
  · rw [decide_eq_true hz, hz]; rfl
  · rw [decide_eq_false hz, beq_eq_false_iff_ne]; omega

theorem half_step (k p : Nat) : k / 2 ^ p = 2 * (k / 2 ^ (p + 1)) + k / 2 ^ p % 2 := by
  rw [Nat.pow_succ, ← Nat.div_div_eq_div_mul]
  omega

theorem pow_small {a j : Nat} (h : LB ^ NL ≤ a ^ j) : 2 ≤ a := by
  rcases Nat.lt_or_ge a 2 with h2 | h2
  · exfalso
    have h3 : a ^ j ≤ 1 := by
      calc a ^ j ≤ 1 ^ j := Nat.pow_le_pow_left (by omega) j
        _ = 1 := Nat.one_pow j
    have h4 : 1 < LB ^ NL := one_lt_NL
    omega
  · exact h2

set_option maxRecDepth 100000 in
set_option maxHeartbeats 1600000 in
theorem natPow_bad (A : Option Addr) (n c : Nat) (f : Nat → Nat) (e : Int) (w : World) (hA : Rs w w.heap.size A n c f) (h : chk n f ≠ 0) :
    Calls Try.prog 16 #[.slice A n c, .int .i64 e] w fun e' w' => Ans w (powE n f e) (nv f n ^ e.toNat) e' w' := by
  rw [powE_bad h]
  have c1 := check_any A n c f _ w hA
  have h1 : (chk n f != 0) = true := by rw [bne_iff_ne]; exact h
  have h2 : (chk n f == 0) = false := by rw [beq_eq_false_iff_ne]; exact h
  have H := Lib.hid h
  have C1 := Lib.hid c1
  clear c1 h hA
  generalize chk n f = er at *
  go_enter Try.func16, Try.ntmps16
  go_wp2_with fail
  refine C1.out.mono ?_
  rintro e w' ⟨rfl, rfl⟩
  go_wp2_with fail
  go_ret2
  exact Ans.bad H.out (Below.refl _ _)

set_option maxRecDepth 100000 in
set_option maxHeartbeats 1600000 in
theorem natPow_range (A : Option Addr) (n c : Nat) (f : Nat → Nat) (e : Int) (w : World) (hA : Rs w w.heap.size A n c f) (h : chk n f = 0) (he : e < 0 ∨ 10000 < e) :
    Calls Try.prog 16 #[.slice A n c, .int .i64 e] w fun e' w' => Ans w (powE n f e) (nv f n ^ e.toNat) e' w' := by
  rw [powE_range h he]
  have c1 := check_any A n c f _ w hA
  rw [h] at c1
  have C1 := Lib.hid c1
  clear c1 h hA
  rcases he with he | he
  · go_enter Try.func16, Try.ntmps16
    go_wp2_with fail
    refine C1.out.mono ?_
    rintro e w' ⟨rfl, rfl⟩
    go_wp2_with fail
    go_ret2
    exact Ans.bad (by decide) (Below.refl _ _)
  · have he' : ¬ e < 0 := by omega
    go_enter Try.func16, Try.ntmps16
    go_wp2_with fail
    refine C1.out.mono ?_
    rintro e w' ⟨rfl, rfl⟩
    go_wp2_with fail
    go_ret2
    exact Ans.bad (by decide) (Below.refl _ _)

set_option maxRecDepth 100000 in
set_option maxHeartbeats 4000000 in
theorem natPow_ok (A : Option Addr) (n c : Nat) (f : Nat → Nat) (k : Nat) (w : World) (hA : Rs w w.heap.size A n c f) (h : chk n f = 0) (hk : k ≤ 10000) :
    Calls Try.prog 16 #[.slice A n c, .int .i64 k] w fun e' w' => Ans w (fitE (nv f n ^ k)) (nv f n ^ k) e' w' := by
  obtain ⟨hn, vf⟩ := chk_zero h
  have c1 := check_any A n c f _ w hA
  rw [h] at c1
  have C1 := Lib.hid c1
  have C2 := Lib.hid (fromWord_any 1 (by omega) (Big.mk (by omega)) w)
  have C3 := Lib.hid fun w => bits_Len (k : Int) w (by omega) (by omega)
  have hL := bitLen_gt 64 k (by omega) (by omega)
  have hL2 := Lib.bitLen_le k 14 (by omega) (by omega)
  have HK : Hid (k / 2 ^ (Lib.bitLen k) = 0) := Lib.hid (Nat.div_eq_of_lt hL)
  have VF := Lib.hid vf
  clear c1 h vf hL
  go_enter Try.func16, Try.ntmps16
  go_wp2_with fail
  refine C1.out.mono ?_
  rintro e w' ⟨rfl, rfl⟩
  go_wp2_with fail
  refine C2.out.mono ?_
  rintro e w1 ⟨v, rfl, hm1⟩
  go_wp2_with fail
  refine (C3.out _).mono ?_
  rw [Int.toNat_natCast]
  rintro e w2 ⟨rfl, rfl⟩
  generalize Lib.bitLen k = L at *
  go_wp2_with fail
  go_loopw [7, 8, 9] (fun v i u wr => ∃ j : Nat, j ≤ L ∧ i = .int .i64 ((j : Int) - 1) ∧ Made w (nv f n ^ (k / 2 ^ j)) v wr ∧ Hid (nv f n ^ (k / 2 ^ j) < LB ^ NL)) (fun _ i _ _ => (intOf i + 1).toNat)
  case atStart => exact ⟨L, Nat.le_refl _, rfl, by rw [HK.out, Nat.pow_zero]; exact hm1, by rw [HK.out, Nat.pow_zero]; exact Lib.hid one_lt_NL⟩
  case round =>
    obtain ⟨j, hj, rfl, ⟨A2, n2, c2, f2, rfl, hr2, hd2, hb2⟩, hlt⟩ := hrel
    by_cases hj0 : j = 0
    · subst hj0
      have HM := Lib.hid (made_rs hr2 hd2 hb2)
      clear hd2
      go_wp2_with fail
      go_ret2
      have e1 : k / 2 ^ 0 = k := by simp
      exact ⟨_, by rw [← e1, fitE_ok hlt.out]; rfl, by rw [← e1, fitE_ok hlt.out, zr_ok]; exact HM.out⟩
    · obtain ⟨p, rfl⟩ : ∃ p, j = p + 1 := ⟨j - 1, by omega⟩
      rw [show (((p + 1 : Nat) : Int) - 1) = (p : Int) by omega]
      have hn2 : n2 ≤ 1024 := hd2.len_NL hlt.out
      have HT := Lib.hid (multiply_any A2 A2 n2 c2 n2 c2 f2 f2 wr hr2 hr2 hd2.ok hd2.ok hn2 hn2)
      rw [hd2.eq, ← Nat.pow_add] at HT
      have hhs := half_step k p
      have hbt := bit_test k p hk
      clear hd2
      go_wp2_with fail
      refine HT.out.mono ?_
      rintro e w' ⟨v, rfl, hm⟩
      rcases Nat.lt_or_ge (nv f n ^ (k / 2 ^ (p + 1) + k / 2 ^ (p + 1))) (LB ^ NL) with hsq | hsq
      · rw [fitE_ok hsq, zr_ok] at hm
        rw [fitE_ok hsq]
        by_cases hz : k / 2 ^ p % 2 = 0
        · rw [decide_eq_true hz] at hbt
          have he : k / 2 ^ (p + 1) + k / 2 ^ (p + 1) = k / 2 ^ p := by omega
          rw [he] at hm hsq
          have HM := Lib.hid (hm.after hb2)
          have HS := Lib.hid hsq
          clear hm hsq hhs hz he
          go_wp2_with fail
          go_roundw
          case rel => exact ⟨p, by omega, rfl, HM.out, HS.out⟩
          case measure => simp [intOf] <;> omega
        · rw [decide_eq_false hz] at hbt
          have he : k / 2 ^ (p + 1) + k / 2 ^ (p + 1) + 1 = k / 2 ^ p := by omega
          obtain ⟨A3, n3, c3, f3, rfl, hr3, hd3, hb3⟩ := hm
          have hb3' := hb2.trans (hb3.mono hb2.size)
          have HT2 := Lib.hid (multiply_any A3 A n3 c3 n c f3 f w' hr3 ((hA.below hb3').more hb3'.size) hd3.ok VF.out (hd3.len_NL hsq) hn)
          rw [hd3.eq, ← Nat.pow_succ, show (k / 2 ^ (p + 1) + k / 2 ^ (p + 1)).succ = k / 2 ^ p by omega] at HT2
          clear hd3 hr3 hsq hhs hz he
          go_wp2_with fail
          refine HT2.out.mono ?_
          rintro e w2 ⟨v, rfl, hm⟩
          rcases Nat.lt_or_ge (nv f n ^ (k / 2 ^ p)) (LB ^ NL) with hsq | hsq
          · rw [fitE_ok hsq, zr_ok] at hm
            rw [fitE_ok hsq]
            have HM := Lib.hid (hm.after hb3')
            have HS := Lib.hid hsq
            clear hm hsq
            go_wp2_with fail
            go_roundw
            case rel => exact ⟨p, by omega, rfl, HM.out, HS.out⟩
            case measure => simp [intOf] <;> omega
          · rw [fitE_over hsq]
            have hov : fitE (nv f n ^ k) = 5 := fitE_over (Nat.le_trans hsq (pow_mono (pow_small hsq) (Nat.div_le_self _ _)))
            have HB := Lib.hid (hm.after hb3')
            have HOV := Lib.hid hov
            clear hm hsq hov
            go_wp2_with fail
            refine bodyPost_ret (results_tmp2 rfl _ _ _) rfl ?_
            rw [HOV.out]
            obtain ⟨_, _, _, _, _, _, _, hb9⟩ := HB.out
            exact Ans.bad (by decide) hb9
      · rw [fitE_over hsq]
        have hov : fitE (nv f n ^ k) = 5 := fitE_over (Nat.le_trans hsq (pow_mono (pow_small hsq) (by have := Nat.div_le_self k (2 ^ p); omega)))
        have HB := Lib.hid (hm.after hb2)
        have HOV := Lib.hid hov
        clear hm hsq hov hhs
        go_wp2_with fail
        refine bodyPost_ret (results_tmp2 rfl _ _ _) rfl ?_
        rw [HOV.out]
        obtain ⟨_, _, _, _, _, _, _, hb9⟩ := HB.out
        exact Ans.bad (by decide) hb9

theorem natPow_any (A : Option Addr) (n c : Nat) (f : Nat → Nat) (e : Int) (w : World) (hA : Rs w w.heap.size A n c f) :
    Calls Try.prog 16 #[.slice A n c, .int .i64 e] w fun e' w' => Ans w (powE n f e) (nv f n ^ e.toNat) e' w' := by
  by_cases h : chk n f = 0
  · by_cases he : e < 0 ∨ 10000 < e
    · exact natPow_range A n c f e w hA h he
    · obtain ⟨k, rfl⟩ := Int.eq_ofNat_of_zero_le (show 0 ≤ e by omega)
      rw [powE_ok h (by omega), Int.toNat_natCast]
      exact natPow_ok A n c f k w hA h (by omega)
  · exact natPow_bad A n c f e w hA h

end Go.Proofs.Ytoonhjeiommhcaa

/- The walk of NatBack: it returns true, and writes nothing that was there. Conditions as premises: the two lists read, and the table of powers holds what its initialiser lays. -/
import Derived.Test.YtoonhjeiommhcaaDoorTen3
import Derived.Test.YtoonhjeiommhcaaDoorLimbs
namespace Go.Proofs.YtoonhjeiommhcaaDoor
open Go.RowKit

theorem textV_ok {n : Nat} {f : Nat → Nat} {v : Value} (h : TextV n f v) (hv : Val n f) (hn : n ≤ 1024) : ∃ L, IsLen (nv f n) L ∧ v = .tuple #[.string (txt (nv f n) L), .int .i64 0] := by
  rcases h with ⟨_, h⟩ | ⟨h, _⟩
  · exact h
  · exact absurd (chk_ok (by omega) hv) h
theorem digitsV_ok {n : Nat} {f : Nat → Nat} {v : Value} (h : DigitsV n f v) (hv : Val n f) (hn : n ≤ 1024) : ∃ L : Nat, IsLen (nv f n) L ∧ v = .tuple #[.int .i64 (L : Int), .int .i64 0] := by
  rcases h with ⟨_, h⟩ | ⟨h, _⟩
  · exact h
  · exact absurd (chk_ok (by omega) hv) h
theorem cmpV_ok {n m : Nat} {f g : Nat → Nat} (hv : Val n f) (hw : Val m g) (hn : n ≤ 1024) (hm : m ≤ 1024) : cmpV n f m g = .tuple #[.int .i64 (cn (nv f n) (nv g m)), .int .i64 0] := by
  unfold cmpV; rw [chk2_ok hn hm hv hw, if_pos rfl]

/-- how two texts of digits stand to their numbers -/
theorem text_cases {N M L K : Nat} (h : IsLen N L) (k : IsLen M K) :
    (L < K ∧ cn N M = -1) ∨ (K < L ∧ cn N M = 1) ∨
    (L = K ∧ Op.bytesLess (txt N L).toList (txt M K).toList = true ∧ ((txt N L).toList == (txt M K).toList) = false ∧ cn N M = -1) ∨
    (L = K ∧ txt N L = txt M K ∧ cn N M = 0) ∨
    (L = K ∧ Op.bytesLess (txt N L).toList (txt M K).toList = false ∧ ((txt N L).toList == (txt M K).toList) = false ∧ cn N M = 1) := by
  rcases Nat.lt_trichotomy L K with e | e | e
  · exact .inl ⟨e, cn_lt (len_mono h k e)⟩
  · subst e
    right; right
    rcases Nat.lt_trichotomy N M with q | q | q
    · obtain ⟨a, b, c⟩ := txt_less h.lt k.lt q
      exact .inl ⟨rfl, a, c, cn_lt q⟩
    · subst q
      exact .inr (.inl ⟨rfl, rfl, cn_eq rfl⟩)
    · obtain ⟨a, b, c⟩ := txt_less k.lt h.lt q
      refine .inr (.inr ⟨rfl, b, ?_, cn_gt q⟩)
      rw [beq_eq_false_iff_ne] at c ⊢
      exact fun e => c e.symm
  · exact .inr (.inl ⟨e, cn_gt (len_mono k h e)⟩)

theorem len_le {n L : Nat} {f : Nat → Nat} (h : IsLen (nv f n) L) (hv : Val n f) (hn : n ≤ 40) : L ≤ 360 := by
  rcases Nat.lt_or_ge 360 L with q | q
  · exfalso
    have h1 := h.ge (by omega)
    have h2 := nv_lt n hv.1
    rw [LB_pow] at h2
    have h3 : 10 ^ (9 * n) ≤ 10 ^ (L - 1) := ten_le (by omega)
    omega
  · exact q

set_option maxHeartbeats 4000000 in
set_option maxRecDepth 100000 in
theorem natBack_awake (A A' : Option Addr) (n c m c' : Nat) (w : World) (h : 40 < n ∨ 40 < m) :
    Calls Tryd.prog 6 #[.slice A n c, .slice A' m c'] w fun e w' => e = .returned (.bool true) ∧ Below w.heap.size w w' := by
  by_cases h1 : 40 < n
  · have h1' : (40 : Int) < (n : Int) := by omega
    clear h
    go_enter Tryd.func6, Tryd.ntmps6
    go_wp2_with fail
    refine (awake_any _).mono ?_
    rintro e w1 ⟨rfl, hb⟩
    go_wp2_with fail
    go_ret
    exact ⟨rfl, hb⟩
  · have h1' : ¬ (40 : Int) < (n : Int) := by omega
    have h2 : (40 : Int) < (m : Int) := by omega
    clear h
    go_enter Tryd.func6, Tryd.ntmps6
    go_wp2_with fail
    refine (awake_any _).mono ?_
    rintro e w1 ⟨rfl, hb⟩
    go_wp2_with fail
    go_ret
    exact ⟨rfl, hb⟩

set_option maxHeartbeats 8000000 in
set_option maxRecDepth 100000 in
theorem natBack_main (A A' : Option Addr) (n c m c' : Nat) (f g : Nat → Nat) (w : World) (hA : Rs w w.heap.size A n c f) (hB : Rs w w.heap.size A' m c' g) (ht : Tab w) (hn : n ≤ 40) (hm : m ≤ 40) :
    Calls Tryd.prog 6 #[.slice A n c, .slice A' m c'] w fun e w' => e = .returned (.bool true) ∧ Below w.heap.size w w' := by
  have hn' : ¬ (40 : Int) < (n : Int) := by omega
  have hm' : ¬ (40 : Int) < (m : Int) := by omega
  go_enter Tryd.func6, Tryd.ntmps6
  go_wp2_with fail
  refine (limbs_any A n c f w hA (by omega)).mono ?_
  rintro e w1 ⟨A1, n1, c1, f1, rfl, r1, v1, l1, b1⟩
  have V1 := Lib.hid v1
  have R1 := Lib.hid r1
  clear v1 r1
  go_wp2_with fail
  refine (limbs_any A' m c' g w1 ((hB.below b1).more b1.size) (by omega)).mono ?_
  rintro e w2 ⟨A2, n2, c2, f2, rfl, r2, v2, l2, b2⟩
  have V2 := Lib.hid v2
  have R2 := Lib.hid r2
  have t2 := b1.trans (b2.mono b1.size)
  have R1' := Lib.hid ((R1.out.below b2).more b2.size)
  clear v2 r2 b1 b2 R1
  have T1 := Lib.hid (natText_any A1 n1 c1 f1 w2 R1'.out (ht.after t2))
  go_wp2_with fail
  refine T1.out.mono ?_
  rintro e w3 ⟨⟨u1, rfl, g1⟩, b3⟩
  obtain ⟨L, hL, rfl⟩ := textV_ok g1 V1.out (by omega)
  have HL := Lib.hid hL
  have hL9 := len_le hL V1.out (by omega)
  have t3 := t2.trans (b3.mono t2.size)
  have R1 := Lib.hid ((R1'.out.below b3).more b3.size)
  have R2' := Lib.hid ((R2.out.below b3).more b3.size)
  clear g1 hL b3 t2 T1 R1' R2
  have T2 := Lib.hid (natText_any A2 n2 c2 f2 w3 R2'.out (ht.after t3))
  go_wp2_with fail
  refine T2.out.mono ?_
  rintro e w4 ⟨⟨u2, rfl, g2⟩, b4⟩
  obtain ⟨K, hK, rfl⟩ := textV_ok g2 V2.out (by omega)
  have HK := Lib.hid hK
  have hK9 := len_le hK V2.out (by omega)
  have t4 := t3.trans (b4.mono t3.size)
  have R1' := Lib.hid ((R1.out.below b4).more b4.size)
  have R2 := Lib.hid ((R2'.out.below b4).more b4.size)
  clear g2 hK b4 t3 T2 R1 R2'
  have CASES := Lib.hid (text_cases HL.out HK.out)
  have CV := Lib.hid (cmpV_ok V1.out V2.out (show n1 ≤ 1024 by omega) (show n2 ≤ 1024 by omega))
  have PR := Lib.hid (pres_txt HL.out (by omega) ⟨V1.out, rfl⟩)
  have hs := txt_size (nv f1 n1) L
  have hk := txt_size (nv f2 n2) K
  generalize hgs : txt (nv f1 n1) L = s at *
  generalize hgt : txt (nv f2 n2) K = t at *
  have HGS := Lib.hid hgs
  have HGT := Lib.hid hgt
  clear hgs hgt
  go_wp2_with fail
  refine (natParse_any s w4 (ht.after t4)).mono ?_
  rintro e w5 ⟨v5, x5, a5, rfl, p5, b5⟩
  obtain ⟨A5, n5, c5, f5, rfl, r5, q5⟩ := p5.read
  obtain ⟨rfl, rfl, rfl, hal⟩ := q5.unique PR.out
  have HAL := Lib.hid hal
  have R5 := Lib.hid r5
  have t5 := t4.trans (b5.mono t4.size)
  have R1 := Lib.hid ((R1'.out.below b5).more b5.size)
  have R2' := Lib.hid ((R2.out.below b5).more b5.size)
  clear p5 q5 hal r5 b5 t4 PR R1' R2
  have b6 : Below w5.heap.size w5 (w5.alloc (.cells #[.int .i64 0, .int .i64 0] 39)) := (Below.refl _ _).alloc (Nat.le_refl _) _
  have t6 := t5.trans (b6.mono t5.size)
  have D1 := Lib.hid (natDigits_any A1 n5 c1 f1 (w5.alloc (.cells #[.int .i64 0, .int .i64 0] 39)) ((R1.out.below b6).more b6.size) (ht.after t6))
  go_wp2_with fail
  refine D1.out.mono ?_
  rintro e w' ⟨⟨u3, rfl, g3⟩, rfl⟩
  obtain ⟨L', hL', rfl⟩ := digitsV_ok g3 V1.out (by omega)
  obtain rfl := hL'.unique HL.out
  have S := Lib.hid (alike_true A5 A1 n5 c5 c1 f5 f1 _ _ (w5.alloc (.cells #[.int .i64 0, .int .i64 0] 39)) (R5.out.alloc (Nat.le_refl _) _) (R1.out.alloc (Nat.le_refl _) _) HAL.out)
  clear g3 hL' D1
  go_wp2_with fail
  refine S.out.mono ?_
  rintro e w' ⟨rfl, d, rfl⟩
  clear S
  have t7 : Below w.heap.size w ((w5.alloc (.cells #[.int .i64 0, .int .i64 0] 39)).drewN d) := t6.trans ((Qt.n1 _ d).below.mono t6.size)
  have C8 := Lib.hid (natCmp_any A1 A2 n5 c1 n2 c2 f1 f2 ((w5.alloc (.cells #[.int .i64 0, .int .i64 0] 39)).drewN d) (((R1.out.alloc (Nat.le_refl _) _).more (by simp)).drewN d) (((R2'.out.alloc (Nat.le_refl _) _).more (by simp)).drewN d))
  rw [CV.out] at C8
  clear CV R1 R2' R5 b6 t5 t6
  rcases CASES.out with ⟨e1, e2⟩ | ⟨e1, e2⟩ | ⟨rfl, e1, e3, e2⟩ | ⟨rfl, e1, e2⟩ | ⟨rfl, e1, e3, e2⟩
  · rw [e2] at C8
    have a1 : (L' : Int) < (K : Int) := by omega
    have a2 : ¬ (K : Int) < (L' : Int) := by omega
    have a3 : ((L' : Int) == (K : Int)) = false := by rw [beq_eq_false_iff_ne]; omega
    clear e1 e2
    go_wp2_with fail
    refine C8.out.mono ?_
    rintro e w8 ⟨rfl, b8⟩
    have t8 := t7.trans (b8.mono t7.size)
    clear b8 t7
    go_wp2_with fail
    refine (awake_any _).mono ?_
    rintro e w9 ⟨rfl, b9⟩
    go_wp2_with fail
    go_ret
    exact ⟨rfl, t8.trans (b9.mono t8.size)⟩
  · rw [e2] at C8
    have a1 : (K : Int) < (L' : Int) := by omega
    have a2 : ¬ (L' : Int) < (K : Int) := by omega
    have a3 : ((L' : Int) == (K : Int)) = false := by rw [beq_eq_false_iff_ne]; omega
    clear e1 e2
    go_wp2_with fail
    refine C8.out.mono ?_
    rintro e w8 ⟨rfl, b8⟩
    have t8 := t7.trans (b8.mono t7.size)
    clear b8 t7
    go_wp2_with fail
    refine (awake_any _).mono ?_
    rintro e w9 ⟨rfl, b9⟩
    go_wp2_with fail
    go_ret
    exact ⟨rfl, t8.trans (b9.mono t8.size)⟩
  · rw [e2] at C8
    clear e2
    go_wp2_with fail
    refine C8.out.mono ?_
    rintro e w8 ⟨rfl, b8⟩
    have t8 := t7.trans (b8.mono t7.size)
    clear b8 t7
    go_wp2_with fail
    refine (awake_any _).mono ?_
    rintro e w9 ⟨rfl, b9⟩
    go_wp2_with fail
    go_ret
    exact ⟨rfl, t8.trans (b9.mono t8.size)⟩
  · rw [e2] at C8
    obtain rfl := e1
    have e3 := bl_self s.toList
    clear e2
    go_wp2_with fail
    refine C8.out.mono ?_
    rintro e w8 ⟨rfl, b8⟩
    have t8 := t7.trans (b8.mono t7.size)
    clear b8 t7
    go_wp2_with fail
    refine (awake_any _).mono ?_
    rintro e w9 ⟨rfl, b9⟩
    go_wp2_with fail
    go_ret
    exact ⟨rfl, t8.trans (b9.mono t8.size)⟩
  · rw [e2] at C8
    clear e2
    go_wp2_with fail
    refine C8.out.mono ?_
    rintro e w8 ⟨rfl, b8⟩
    have t8 := t7.trans (b8.mono t7.size)
    clear b8 t7
    go_wp2_with fail
    refine (awake_any _).mono ?_
    rintro e w9 ⟨rfl, b9⟩
    go_wp2_with fail
    go_ret
    exact ⟨rfl, t8.trans (b9.mono t8.size)⟩

end Go.Proofs.YtoonhjeiommhcaaDoor

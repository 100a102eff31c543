/- The contracts of the functions under the laws of package rat: Div64, Col, Product, Mul, Pow, Top, Lehmer, Comb, Scaled, Subtract, NrA, joined into one file. -/
import Derived.Test.YtbjaolmlnkliiaaGreatDoorNatQ
import Derived.Test.YtbjaolmlnkliiaaGreatDoorNatE
import Derived.Test.YtbjaolmlnkliiaaGreatDoorNatA
import Derived.Laws.Bits64b
import Derived.Test.YtbjaolmlnkliiaaGreatDoorNatB
import Derived.Test.YtbjaolmlnkliiaaGreatDoorNatD
/- The contract of bits.Div64 at the divisor ten to the ninth. Conditions as premises: the high word is below the divisor, the low one is a word. -/
namespace Go.Proofs.YtbjaolmlnkliiaaGreatDoor
open Go.RowKit Go.Shelf

theorem or34 (h l : Int) (hh0 : 0 ≤ h) (hh1 : h < 1000000000) (hl0 : 0 ≤ l) (hl1 : l ≤ 18446744073709551615) :
    bits .or .u64 (h * 17179869184) (l / 1073741824) = h * 17179869184 + l / 1073741824 := by
  obtain ⟨h, rfl⟩ := Int.eq_ofNat_of_zero_le hh0
  obtain ⟨l, rfl⟩ := Int.eq_ofNat_of_zero_le hl0
  have e1 : ((h : Int) * 17179869184) = ((2 ^ 34 * h : Nat) : Int) := by omega
  have e2 : ((l : Int) / 1073741824) = ((l / 1073741824 : Nat) : Int) := by omega
  rw [e1, e2, bits_or_u64_nat _ _ (by omega) (by omega), ← Nat.two_pow_add_eq_or_of_lt (by omega : l / 1073741824 < 2 ^ 34)]
  omega

theorem and32 (v : Int) (h0 : 0 ≤ v) (h1 : v ≤ 18446744073709551615) : bits .and .u64 v 4294967295 = v % 4294967296 := by
  obtain ⟨v, rfl⟩ := Int.eq_ofNat_of_zero_le h0
  have e := bits_and_u64_nat v 4294967295 (by omega) (by omega)
  rw [show ((4294967295 : Nat) : Int) = 4294967295 from rfl] at e
  rw [e, show (4294967295 : Nat) = 2 ^ 32 - 1 from rfl, Nat.and_two_pow_sub_one_eq_mod]
  omega

set_option maxRecDepth 100000 in
set_option maxHeartbeats 4000000 in
theorem div64_zero (l : Int) (hl0 : 0 ≤ l) (hl1 : l ≤ 18446744073709551615) (w : World) :
    Calls Tryz.prog 251 #[.int .u64 0, .int .u64 l, .int .u64 1000000000] w fun e w' => e = .returned (.tuple #[.int .u64 (l / 1000000000), .int .u64 (l % 1000000000)]) ∧ Qt w w' := by
  have ed : IntKind.u64.wrap (l.tdiv 1000000000) = l / 1000000000 := by rw [Int.tdiv_eq_ediv_of_nonneg hl0, IntKind.wrap_u64]; omega
  go_enter Tryz.func251, Tryz.ntmps251
  go_wp2
  go_quiet (fail)
  go_wp2
  go_ret2
  exact ⟨rfl, Qt.n1 _ _⟩

set_option maxRecDepth 100000 in
set_option maxHeartbeats 4000000 in
theorem div64_pos (h l : Int) (hh0 : 0 < h) (hh1 : h < 1000000000) (hl0 : 0 ≤ l) (hl1 : l ≤ 18446744073709551615) (w : World) :
    Calls Tryz.prog 251 #[.int .u64 h, .int .u64 l, .int .u64 1000000000] w fun e w' => e = .returned (.tuple #[.int .u64 ((h * 18446744073709551616 + l) / 1000000000), .int .u64 ((h * 18446744073709551616 + l) % 1000000000)]) ∧ w = w' := by
  have hz := bits_LeadingZeros64 1000000000 w (by omega) (by omega)
  rw [show (64 - (Lib.bitLen (1000000000 : Int).toNat : Int)) = 34 by decide] at hz
  have hb : (h == 0) = false := by rw [beq_eq_false_iff_ne]; omega
  have HZ := Lib.hid hz
  clear hz
  have ea : bits .and .u64 17179869184000000000 4294967295 = 0 := by rw [and32 _ (by omega) (by omega)]; rfl
  have eo := or34 h l (by omega) hh1 hl0 hl1
  have ev : IntKind.u64.wrap (l * 17179869184) = l * 17179869184 % 18446744073709551616 := by rw [IntKind.wrap_u64]
  have el := and32 (l * 17179869184 % 18446744073709551616) (by omega) (by omega)
  obtain ⟨U, hU⟩ : ∃ U, h * 17179869184 + l / 1073741824 = U := ⟨_, rfl⟩
  obtain ⟨V, hV⟩ : ∃ V, l * 17179869184 % 18446744073709551616 = V := ⟨_, rfl⟩
  have hU0 : 0 ≤ U := by omega
  have hU1 : U < 17179869184000000000 := by omega
  have hV0 : 0 ≤ V := by omega
  have hV1 : V ≤ 18446744073709551615 := by omega
  rw [hU] at eo
  rw [hV] at ev el
  have HU := Lib.hid hU
  have HV := Lib.hid hV
  clear hU hV
  have eq1 : IntKind.u64.wrap (U.tdiv 4000000000) = U / 4000000000 := by rw [Int.tdiv_eq_ediv_of_nonneg hU0, IntKind.wrap_u64]; omega
  have eT : IntKind.u64.wrap (IntKind.u64.wrap (IntKind.u64.wrap (U * 4294967296) + V / 4294967296) - IntKind.u64.wrap (U / 4000000000 * 17179869184000000000)) = (U - U / 4000000000 * 4000000000) * 4294967296 + V / 4294967296 := by
    simp only [IntKind.wrap_u64]; omega
  obtain ⟨T, hT⟩ : ∃ T, (U - U / 4000000000 * 4000000000) * 4294967296 + V / 4294967296 = T := ⟨_, rfl⟩
  have hT0 : 0 ≤ T := by omega
  have hT1 : T < 17179869184000000000 := by omega
  rw [hT] at eT
  have HT := Lib.hid hT
  have eq2 : IntKind.u64.wrap (T.tdiv 4000000000) = T / 4000000000 := by rw [Int.tdiv_eq_ediv_of_nonneg hT0, IntKind.wrap_u64]; omega
  have eR : IntKind.u64.wrap (IntKind.u64.wrap (IntKind.u64.wrap (T * 4294967296) + V % 4294967296) - IntKind.u64.wrap (T / 4000000000 * 17179869184000000000)) = (T - T / 4000000000 * 4000000000) * 4294967296 + V % 4294967296 := by
    simp only [IntKind.wrap_u64]; omega
  obtain ⟨R, hR⟩ : ∃ R, (T - T / 4000000000 * 4000000000) * 4294967296 + V % 4294967296 = R := ⟨_, rfl⟩
  have hR0 : 0 ≤ R := by omega
  have hR1 : R < 17179869184000000000 := by omega
  rw [hR] at eR
  have HR := Lib.hid hR
  have hq : U / 4000000000 * 4294967296 + T / 4000000000 = (h * 18446744073709551616 + l) / 1000000000 := by
    have h1 := HU.out
    have h2 := HV.out
    omega
  have hr : R / 17179869184 = (h * 18446744073709551616 + l) % 1000000000 := by
    have h1 := HU.out
    have h2 := HV.out
    omega
  have HQ := Lib.hid hq
  have HR2 := Lib.hid hr
  clear hT hR hq hr
  go_enter Tryz.func251, Tryz.ntmps251
  go_wp2_with fail
  refine HZ.out.mono ?_
  rintro e w' ⟨rfl, rfl⟩
  go_wp2_with fail
  refine wp_loop_rounds 1 ?_
  rw [rounds_succ]
  go_wp2_with fail
  refine wp_loop_rounds 1 ?_
  rw [rounds_succ]
  go_wp2_with fail
  go_ret2
  exact ⟨by rw [← HQ.out, ← HR2.out]; rfl, rfl⟩

theorem div64_any (h l : Nat) (hh : h < LB) (hl : Big (l < 18446744073709551616)) (w : World) :
    Calls Tryz.prog 251 #[.int .u64 (iv h), .int .u64 (iv l), .int .u64 1000000000] w fun e w' =>
      e = .returned (.tuple #[.int .u64 (iv ((h * 18446744073709551616 + l) / LB)), .int .u64 (iv ((h * 18446744073709551616 + l) % LB))]) ∧ Qt w w' := by
  have hl' := hl.out
  have e := LB_eq
  have e1 : (iv h * 18446744073709551616 + iv l) / 1000000000 = iv ((h * 18446744073709551616 + l) / LB) := by simp only [iv_eq]; rw [e]; omega
  have e2 : (iv h * 18446744073709551616 + iv l) % 1000000000 = iv ((h * 18446744073709551616 + l) % LB) := by simp only [iv_eq]; rw [e]; omega
  rcases Nat.eq_zero_or_pos h with h0 | h0
  · subst h0
    rw [iv_zero] at e1 e2 ⊢
    rw [Int.zero_mul, Int.zero_add] at e1 e2
    rw [← e1, ← e2]
    exact div64_zero (iv l) (iv_nonneg _) (iv_u64 hl') w
  · rw [← e1, ← e2]
    exact (div64_pos (iv h) (iv l) (iv_pos (by omega)) (iv_limb hh) (iv_nonneg _) (iv_u64 hl') w).mono fun _ _ ⟨a, b⟩ => ⟨a, by rw [← b]; exact Qt.refl _⟩

theorem grownBy_set (W : World) (b i : Nat) (v : Value) : W.grownBy (W.setCell ⟨b, i, none⟩ v) (some b) :=
  ⟨rfl, rfl, rfl, (KeepsWalks.setCell W _ v).size, fun k _ hk => Below.heap_setCell _ _ _ k (fun e => hk (by rw [e]))⟩
/-- the column's value lies in block B -/
def Col (w : World) (B V : Nat) : Prop := w.rowIs B 243 2 (fun i => if i = 0 then .int .u64 (iv (V / 18446744073709551616)) else .int .u64 (iv (V % 18446744073709551616)))

section
variable {w w' : World} {B V b n : Nat} {f : Nat → Nat}
theorem Col.high (h : Col w B V) : w.cell? ⟨B, 0, none⟩ = some (.int .u64 (iv (V / 18446744073709551616))) := World.rowIs.cell h (by omega : 0 < 2)
theorem Col.low (h : Col w B V) : w.cell? ⟨B, 1, none⟩ = some (.int .u64 (iv (V % 18446744073709551616))) := World.rowIs.cell h (by omega : 1 < 2)
theorem Col.frozen (h : Col w B V) (i : Nat) : w.frozen? ⟨B, i, none⟩ = false := World.rowIs.frozen h i
theorem Col.lt (h : Col w B V) : B < w.heap.size := World.rowIs.lt h
theorem Col.put (h : Col w B V) (V' : Nat) : Col ((w.setCell ⟨B, 0, none⟩ (.int .u64 (iv (V' / 18446744073709551616)))).setCell ⟨B, 1, none⟩ (.int .u64 (iv (V' % 18446744073709551616)))) B V' :=
  World.rowIs.congr (World.rowIs.set (World.rowIs.set h 0 _) 1 _) fun j hj => by
    rcases (by omega : j = 0 ∨ j = 1) with rfl | rfl <;> simp
theorem Col.put' (h : Col w B V) (V' : Nat) : Col ((w.setCell ⟨B, 1, none⟩ (.int .u64 (iv (V' % 18446744073709551616)))).setCell ⟨B, 0, none⟩ (.int .u64 (iv (V' / 18446744073709551616)))) B V' :=
  World.rowIs.congr (World.rowIs.set (World.rowIs.set h 1 _) 0 _) fun j hj => by
    rcases (by omega : j = 0 ∨ j = 1) with rfl | rfl <;> simp
theorem Col.keep (h : Col w B V) (hh : w'.heap[B]? = w.heap[B]?) : Col w' B V := by
  unfold Col World.rowIs at *; rw [hh]; exact h
theorem Row.keep (h : Row w b n f) (hh : w'.heap[b]? = w.heap[b]?) : Row w' b n f := by
  unfold Row World.rowIs at *; rw [hh]; exact h
end

set_option maxRecDepth 100000 in
set_option maxHeartbeats 4000000 in
theorem take_any (B V : Nat) (w : World) (hc : Col w B V) (hV : Big (V < 18446744073709551616 * 18446744073709551616)) :
    Calls Tryz.prog 244 #[.pointer (some ⟨B, 0, none⟩)] w fun e w' => e = .returned (.int .u32 (iv (V % LB))) ∧ Col w' B (V / LB) ∧ w.grownBy w' (some B) := by
  have hh := hc.high
  have hl := hc.low
  have f0 := hc.frozen 0
  have f1 := hc.frozen 1
  have eL := LB_eq
  have hv := hV.out
  have e1 : iv (V / 18446744073709551616) / 1000000000 = iv (V / LB / 18446744073709551616) := by simp only [iv_eq]; rw [eL]; omega
  have e2 : iv (V / 18446744073709551616) % 1000000000 = iv (V / 18446744073709551616 % LB) := by simp only [iv_eq]; rw [eL]; omega
  have hd := div64_any (V / 18446744073709551616 % LB) (V % 18446744073709551616) (Nat.mod_lt _ LB_pos) (Big.mk (by omega))
  rw [show (V / 18446744073709551616 % LB * 18446744073709551616 + V % 18446744073709551616) / LB = V / LB % 18446744073709551616 by rw [eL]; omega,
    show (V / 18446744073709551616 % LB * 18446744073709551616 + V % 18446744073709551616) % LB = V % LB by rw [eL]; omega] at hd
  have hnew := fun d => Col.put (w := w.drewN d) (V := V) hc (V / LB)
  have hx0 := iv_nonneg (V / 18446744073709551616)
  have hx1 : iv (V / 18446744073709551616) < 18446744073709551616 := by rw [iv_eq]; omega
  have hm0 := iv_nonneg (V % LB)
  have hm1 := iv_limb (Nat.mod_lt V LB_pos)
  have HD := Lib.hid hd
  have HNEW := Lib.hid hnew
  have E1 := Lib.hid e1
  have E2 := Lib.hid e2
  have HC := Lib.hid hc
  clear hd hnew eL hv e1 e2 hV hc
  generalize hga : iv (V / 18446744073709551616) = X at *
  generalize hgb : iv (V % 18446744073709551616) = Y at *
  generalize hgc : iv (V % LB) = Z at *
  generalize hge : iv (V / LB % 18446744073709551616) = P at *
  generalize hgf : iv (V / 18446744073709551616 % LB) = S at *
  generalize hgh : iv (V / LB / 18446744073709551616) = T at *
  clear hga hgb hgc hge hgf hgh
  have e1 := E1.out
  have e2 := E2.out
  have HH := Lib.hid hh
  have HL := Lib.hid hl
  go_enter Tryz.func244, Tryz.ntmps244
  go_wp2_with fail
  go_quiet (fail)
  go_wp2_with fail
  refine (HD.out _).mono ?_
  rintro e w' ⟨rfl, d2, rfl⟩
  rw [World.drewN_drewN]
  have hnew := HNEW.out (nq + d2)
  clear hh hl
  have hh : (w.drewN (nq + d2)).cell? ⟨B, 0, none⟩ = some (.int .u64 X) := HH.out
  have hl : (w.drewN (nq + d2)).cell? ⟨B, 1, none⟩ = some (.int .u64 Y) := HL.out
  have f0 : (w.drewN (nq + d2)).frozen? ⟨B, 0, none⟩ = false := f0
  have f1 : (w.drewN (nq + d2)).frozen? ⟨B, 1, none⟩ = false := f1
  have hg : w.grownBy (w.drewN (nq + d2)) (some B) := ⟨rfl, rfl, rfl, Nat.le_refl _, fun _ _ _ => rfl⟩
  generalize w.drewN (nq + d2) = w2 at *
  have HG := Lib.hid hg
  have HNEW2 := Lib.hid hnew
  clear hg hnew
  go_wp2_with fail
  go_ret
  refine ⟨rfl, ?_, ?_⟩
  · exact HNEW2.out
  · exact (HG.out.trans (grownBy_set _ _ _ _)).trans (grownBy_set _ _ _ _)

end Go.Proofs.YtbjaolmlnkliiaaGreatDoor

/- The contracts of the column's collect and of crossSum. Conditions as premises. -/
namespace Go.Proofs.YtbjaolmlnkliiaaGreatDoor
open Go.RowKit Go.Shelf

set_option maxRecDepth 100000 in
set_option maxHeartbeats 4000000 in
theorem collect_any (B V b x : Nat) (w : World) (hc : Col w B V) (hx : w.cell? ⟨b, 0, none⟩ = some (.int .u64 (iv x))) (hxb : Big (x < 18446744073709551616)) (hV : Big (V + x < 18446744073709551616 * 18446744073709551616)) :
    Calls Tryz.prog 242 #[.pointer (some ⟨B, 0, none⟩), .slice (some ⟨b, 0, none⟩) 1 1] w fun e w' => e = .returned (.tuple #[]) ∧ Col w' B (V + x) ∧ w.grownBy w' (some B) := by
  have hh := hc.high
  have hl := hc.low
  have f0 := hc.frozen 0
  have f1 := hc.frozen 1
  have hv := hV.out
  have hxb' := hxb.out
  have e1 : (iv (V % 18446744073709551616) + iv x) % 18446744073709551616 = iv ((V + x) % 18446744073709551616) := by simp only [iv_eq]; omega
  have e2 : iv (V / 18446744073709551616) + (iv (V % 18446744073709551616) + iv x) / 18446744073709551616 = iv ((V + x) / 18446744073709551616) := by simp only [iv_eq]; omega
  have hnew := Col.put' hc (V + x)
  have hx0 := iv_nonneg x
  have hx1 : iv x < 18446744073709551616 := by rw [iv_eq]; omega
  have hy0 := iv_nonneg (V % 18446744073709551616)
  have hy1 : iv (V % 18446744073709551616) < 18446744073709551616 := by rw [iv_eq]; omega
  have hz0 := iv_nonneg (V / 18446744073709551616)
  have hz1 : iv ((V + x) / 18446744073709551616) ≤ 18446744073709551615 := iv_u64 (by omega)
  rw [← e1, ← e2] at hnew
  rw [← e2] at hz1
  have HNEW := Lib.hid hnew
  clear hnew hv hV hxb hxb' hc e1 e2
  generalize iv (V % 18446744073709551616) = Y at *
  generalize iv (V / 18446744073709551616) = Z at *
  generalize iv x = X at *
  have HA := fun w => add64_any Y X hy0 hx0 hy1 hx1 w
  have HADD := Lib.hid HA
  clear HA
  go_enter Tryz.func242, Tryz.ntmps242
  go_wp2_with fail
  refine wp_loop_rounds 2 ?_
  rw [rounds_succ]
  go_wp2_with (simp only [HADD.out])
  rw [rounds_succ]
  go_wp2_with fail
  go_end0
  exact ⟨rfl, HNEW.out, (grownBy_set _ _ _ _).trans (grownBy_set _ _ _ _)⟩

set_option maxRecDepth 100000 in
set_option maxHeartbeats 4000000 in
theorem cross_any (A A' : Option Addr) (n c m c' : Nat) (f g : Nat → Nat) (B B' : Nat) (w : World) (hA : Rs w B A n c f) (hB : Rs w B' A' m c' g) (hf : ∀ j, j < n → f j < LB) (hg : ∀ j, j < m → g j < LB) (hn : n ≤ 18) (hnm : n ≤ m) :
    Calls Tryz.prog 243 #[.slice A n c, .slice A' m c'] w fun e w' => e = .returned (.int .u64 (iv (sm (fun t => f t * g (m - 1 - t)) n))) ∧ Qt w w' := by
  have hmax : m ≤ 9223372036854775807 := Nat.le_trans hB.cap hB.max
  have HS : Hid (∀ k, k < n → iv (sm (fun t => f t * g (m - 1 - t)) k) + iv (f k) * iv (g (m - 1 - k)) = iv (sm (fun t => f t * g (m - 1 - t)) (k + 1)) ∧ iv (f k) * iv (g (m - 1 - k)) ≤ 999999998000000001 ∧ sm (fun t => f t * g (m - 1 - t)) k ≤ k * 999999998000000001) := Lib.hid fun k hk => by
    have h1 := (times_lt (hf k hk) (hg (m - 1 - k) (by omega)) LB_pos LB_pos).2
    refine ⟨by simp only [iv_eq]; rw [sm, ← Int.natCast_mul]; omega, by simp only [iv_eq]; rw [← Int.natCast_mul]; omega, sm_le k fun j hj => (times_lt (hf j (by omega)) (hg (m - 1 - j) (by omega)) LB_pos LB_pos).2⟩
  have HF := Lib.hid hf
  have HG := Lib.hid hg
  clear hf hg
  go_enter Tryz.func243, Tryz.ntmps243
  go_wp2_with fail
  go_loopw [5, 10] (fun u i wr => ∃ k d : Nat, k ≤ n ∧ i = .int .i64 k ∧ u = .int .u64 (iv (sm (fun t => f t * g (m - 1 - t)) k)) ∧ wr = w.drewN d) (fun _ i _ => n - (intOf i).toNat)
  case atStart => exact ⟨0, 0, Nat.zero_le _, rfl, by rw [sm, iv_zero], rfl⟩
  case round =>
    obtain ⟨k, d, hk, rfl, rfl, rfl⟩ := hrel
    by_cases hlt : k < n
    · obtain ⟨b1, off1, rfl, hb1, hcc1⟩ := hA.cell (by omega)
      have hck1 := hcc1 k hlt
      obtain ⟨b2, off2, rfl, hb2, hcc2⟩ := hB.cell (by omega)
      have hck2 := hcc2 (m - 1 - k) (by omega)
      have hi : ((m - 1 - k : Nat) : Int) = (m : Int) - 1 - (k : Int) := by omega
      clear hcc1 hcc2
      obtain ⟨hs1, hs2, hs3⟩ := HS.out k hlt
      have hS0 := iv_nonneg (sm (fun t => f t * g (m - 1 - t)) k)
      have hS1 : iv (sm (fun t => f t * g (m - 1 - t)) k) ≤ 16999999966000000017 := by rw [iv_eq]; have : k * 999999998000000001 ≤ 17 * 999999998000000001 := Nat.mul_le_mul_right _ (by omega); omega
      have hx0 := iv_nonneg (f k)
      have hy0 := iv_nonneg (g (m - 1 - k))
      have hx1 := iv_limb (HF.out k hlt)
      have hy1 := iv_limb (HG.out (m - 1 - k) (by omega))
      have hp0 : 0 ≤ iv (f k) * iv (g (m - 1 - k)) := Int.mul_nonneg hx0 hy0
      have H1 := Lib.hid hs1
      clear hs1 hs3
      generalize iv (f k) = X at *
      generalize iv (g (m - 1 - k)) = Y at *
      generalize iv (sm (fun t => f t * g (m - 1 - t)) k) = Z at *
      go_wp2
      go_roundw
      case rel => exact ⟨k + 1, d, by omega, by go_num, by rw [H1.out], rfl⟩
      case measure => simp [intOf]; omega
    · obtain rfl : k = n := by omega
      go_wp2_with fail
      go_ret
      exact ⟨rfl, Qt.n1 _ _⟩

end Go.Proofs.YtbjaolmlnkliiaaGreatDoor

/- The contract of product. Conditions as premises: the lists read, their limbs are below ten to the ninth, and they are short enough. -/
namespace Go.Proofs.YtbjaolmlnkliiaaGreatDoor
open Go.RowKit Go.Shelf

theorem w64 (z : Int) (h0 : -9223372036854775808 ≤ z) (h1 : z ≤ 9223372036854775807) : IntKind.i64.wrap z = z := by rw [IntKind.wrap_i64]; omega
/-- the sum of the products that stand at place k -/
theorem col_sum {f g : Nat → Nat} {n m k LO E : Nat} (hLO : LO = k + 1 - m) (hE : E = min (k + 1) n) (hLE : LO ≤ E) :
    cvn (pl f n) (pl g m) n k = sm (fun t => f (LO + t) * g (k - (LO + t))) (E - LO) := by
  unfold cvn
  have e : n = LO + ((E - LO) + (n - E)) := by omega
  generalize hn : (fun i => if i ≤ k then pl f n i * pl g m (k - i) else 0) = h
  have hh : ∀ i, h i = if i ≤ k then pl f n i * pl g m (k - i) else 0 := fun i => by rw [← hn]
  have h1 : sm h n = sm h (LO + ((E - LO) + (n - E))) := by rw [← e]
  rw [h1, sm_split, sm_split, sm_zero h LO fun j hj => by
      rw [hh, if_pos (by omega), pl_out (f := g) (by omega), Nat.mul_zero],
    sm_zero (fun t => h (LO + (E - LO + t))) (n - E) fun j hj => by
      show h _ = 0
      rw [hh, if_neg (by omega)],
    Nat.zero_add, Nat.add_zero]
  refine sm_congr _ fun t ht => ?_
  show h _ = _
  rw [hh, if_pos (by omega), pl_in (by omega), pl_in (by omega)]

theorem cross_step {f g : Nat → Nat} {LO x E' k H : Nat} (h1 : LO ≤ x) (h2 : x ≤ E') (h3 : E' ≤ k + 1) (hH : H = k - x + 1) :
    sm (fun t => f (LO + t) * g (k - (LO + t))) (E' - LO) = sm (fun t => f (LO + t) * g (k - (LO + t))) (x - LO) + sm (fun t => f (x + t) * g (H - 1 - t)) (E' - x) := by
  rw [show E' - LO = (x - LO) + (E' - x) by omega, sm_split]
  congr 1
  refine sm_congr _ fun t ht => ?_
  show f (LO + (x - LO + t)) * g (k - (LO + (x - LO + t))) = _
  rw [show LO + (x - LO + t) = x + t by omega, show k - (x + t) = H - 1 - t by omega]

theorem Rs.sub {w : World} {B b off n c lo hi : Nat} {f : Nat → Nat} (h : Rs w B (some ⟨b, off, none⟩) n c f) (hlo : lo ≤ hi) (hhi : hi ≤ n) : Rs w B (some ⟨b, off + lo, none⟩) (hi - lo) (c - lo) (fun j => f (lo + j)) :=
  ⟨by have := h.cap; omega, by have := h.max; omega, fun j hj => h.bd _ (by omega), fun h0 => by
    obtain ⟨b', off', e, hb, hc⟩ := h.cell (by omega)
    cases e
    exact ⟨b, off + lo, rfl, hb, fun j hj => by rw [Nat.add_assoc]; exact hc (lo + j) (by omega)⟩⟩

theorem product_done {f g q : Nat → Nat} {n m V : Nat} (hf : ∀ j, j < n → f j < LB) (hg : ∀ j, j < m → g j < LB) (e : nv q (n + m) + V * LB ^ (n + m) = cols (pl f n) (pl g m) n (n + m)) : nv q (n + m) = nv f n * nv g m := by
  rw [cols_eq (m := m) (fun j hj => pl_out hj) n (n + m) (Nat.le_refl _), nv_pl f n n (Nat.le_refl _), nv_pl g m m (Nat.le_refl _)] at e
  have h1 : nv f n * nv g m < LB ^ (n + m) := by
    rw [Nat.pow_add]
    exact Nat.mul_lt_mul'' (nv_lt n hf) (nv_lt m hg)
  rcases Nat.eq_zero_or_pos V with h0 | h0
  · subst h0; rw [Nat.zero_mul] at e; omega
  · have : 1 * LB ^ (n + m) ≤ V * LB ^ (n + m) := Nat.mul_le_mul_right _ h0
    omega

set_option maxRecDepth 100000 in
set_option maxHeartbeats 4000000 in
theorem product_any (A A' : Option Addr) (n c m c' : Nat) (f g : Nat → Nat) (w : World) (hA : Rs w w.heap.size A n c f) (hB : Rs w w.heap.size A' m c' g) (hf : ∀ j, j < n → f j < LB) (hg : ∀ j, j < m → g j < LB) (hn : n ≤ 2000) (hm : m ≤ 2000) (h11 : ¬ (n = 1 ∧ m = 1)) :
    Calls Tryz.prog 231 #[.slice A n c, .slice A' m c'] w fun e w' => ∃ v, e = .returned v ∧ Made w (nv f n * nv g m) v w' := by
  have hmk := run_make_row' (P := Tryz.prog) 23 40 (.int .u32 0) 4 Tryz.underlying23 info32 rfl .i64 .i64 (n + m) (by omega) (by omega)
  rw [show ((n + m : Nat) : Int) = (n : Int) + (m : Int) by omega] at hmk
  have HF := Lib.hid hf
  have HG := Lib.hid hg
  clear hf hg
  have HMK := Lib.hid hmk
  have hrow := Row.made w (n + m)
  have hbel : Below w.heap.size w (w.alloc (.cells (madeCells #[.int .u32 0] (n + m)) 40)) := (Below.refl _ _).alloc (Nat.le_refl _) _
  have hsz : (w.alloc (.cells (madeCells #[.int .u32 0] (n + m)) 40)).heap.size = w.heap.size + 1 := World.size_alloc _ _
  obtain ⟨w1, hw1⟩ : ∃ w1, w.alloc (.cells (madeCells #[.int .u32 0] (n + m)) 40) = w1 := ⟨_, rfl⟩
  replace hmk := hmk w
  rw [hw1] at hrow hbel hsz hmk
  have hcol : Col (w1.alloc (.cells #[.int .u64 0, .int .u64 0] 243)) (w.heap.size + 1) 0 := by
    have h := World.rowIs_alloc w1 #[.int .u64 0, .int .u64 0] 243 (fun _ => .int .u64 0) (fun i hi => by
      rcases (by simpa using hi : i < 2) with h
      rcases (by omega : i = 0 ∨ i = 1) with rfl | rfl <;> rfl)
    rw [hsz] at h
    refine World.rowIs.congr h fun j hj => ?_
    rw [Nat.zero_div, Nat.zero_mod, iv_zero]; split <;> rfl
  have hrow2 : Row (w1.alloc (.cells #[.int .u64 0, .int .u64 0] 243)) w.heap.size (n + m) (fun _ => 0) := hrow.keep (Below.heap_alloc _ _ _ (by omega))
  have hbel2 : Below w.heap.size w (w1.alloc (.cells #[.int .u64 0, .int .u64 0] 243)) := hbel.alloc (by omega) _
  clear hw1 hrow hbel HMK
  have hcond : (((n : Int) == 1) = true ∧ ((m : Int) == 1) = false) ∨ ((n : Int) == 1) = false := by
    by_cases e : n = 1
    · left; exact ⟨by rw [beq_iff_eq]; omega, by rw [beq_eq_false_iff_ne]; omega⟩
    · right; rw [beq_eq_false_iff_ne]; omega
  clear h11
  rcases hcond with ⟨hb1, hb2⟩ | hb1
  all_goals
    go_enter Tryz.func231, Tryz.ntmps231
    go_wp2_with fail
    generalize w1.alloc (.cells #[.int .u64 0, .int .u64 0] 243) = w2 at *
    clear hmk hsz
    go_loopw [7, 8, 9, 36] (fun _ _ _ idx wr => ∃ k : Nat, k ≤ n + m ∧ idx = .int .i64 k ∧ ∃ q V, Row wr w.heap.size (n + m) q ∧ Col wr (w.heap.size + 1) V ∧ Hid (nv q k + V * LB ^ k = cols (pl f n) (pl g m) n k ∧ (∀ j, q j < LB) ∧ V < 4722366482869645213696) ∧ Below w.heap.size w wr) (fun _ _ _ idx _ => n + m - (intOf idx).toNat)
    case atStart => exact ⟨0, Nat.zero_le _, rfl, _, 0, hrow2, hcol, ⟨by simp [nv, cols], fun _ => LB_pos, by omega⟩, hbel2⟩
    case round =>
      obtain ⟨k, hk, rfl, q, V, hrq, hcl, hq, hb⟩ := hrel
      by_cases hlt : k < n + m
      · obtain ⟨LO, hLO⟩ : ∃ LO, LO = k + 1 - m := ⟨_, rfl⟩
        obtain ⟨E, hE⟩ : ∃ E, E = min (k + 1) n := ⟨_, rfl⟩
        have hlo : max (0 : Int) ((k : Int) - (m : Int) + 1) = (LO : Int) := by omega
        have hend : min ((k : Int) + 1) (n : Int) = (E : Int) := by omega
        have hLE : LO ≤ E ∧ E ≤ n ∧ E ≤ k + 1 ∧ k + 1 ≤ LO + m := by omega
        have HLE := Lib.hid hLE
        have HLO := Lib.hid hLO
        have HEE := Lib.hid hE
        clear hLO hE hLE
        go_wp2_with fail
        have hltI : (k : Int) < (n : Int) + (m : Int) := by omega
        simp only [hltI, decide_true]
        go_loopw [9] (fun i wr2 => ∃ x V2 : Nat, i = .int .i64 x ∧ LO ≤ x ∧ x ≤ E + 17 ∧ Row wr2 w.heap.size (n + m) q ∧ Col wr2 (w.heap.size + 1) V2 ∧ Hid (V2 = V + sm (fun t => f (LO + t) * g (k - (LO + t))) (min x E - LO)) ∧ Below w.heap.size w wr2) (fun i _ => E + 18 - (intOf i).toNat)
        case atStart => exact ⟨LO, V, rfl, Nat.le_refl _, by have := HLE.out; omega, hrq, hcl, by rw [show min LO E - LO = 0 by omega, sm, Nat.add_zero]; exact Lib.hid rfl, hb⟩
        case round =>
          obtain ⟨x, V2, rfl, hx1, hx2, hrq2, hcl2, hV2, hb2⟩ := hrel
          by_cases hxE : x < E
          · obtain ⟨h1, h2, h3, h4⟩ := HLE.out
            obtain ⟨b1, off1, rfl, hb1', hcc1⟩ := (hA.below hb2).cell (by omega)
            obtain ⟨b2, off2, rfl, hb2', hcc2⟩ := (hB.below hb2).cell (by omega)
            obtain ⟨E', hE'⟩ : ∃ E', E' = min (x + 18) E := ⟨_, rfl⟩
            obtain ⟨H, hH⟩ : ∃ H, H = k - x + 1 := ⟨_, rfl⟩
            have hmin : min (IntKind.i64.wrap ((x : Int) + 18)) (E : Int) = (E' : Int) := by rw [w64 _ (by omega) (by omega)]; omega
            have hsub : IntKind.i64.wrap (IntKind.i64.wrap ((k : Int) - (x : Int)) + 1) = (H : Int) := by rw [w64 ((k : Int) - (x : Int)) (by omega) (by omega), w64 _ (by omega) (by omega)]; omega
            have hcapa := hA.cap
            have hcapb := hB.cap
            have hi1 : (E' : Int) ≤ (c : Int) := by omega
            have hi2 : x ≤ E' := by omega
            have hi3 : ¬ c = x := by omega
            have hi4 : (H : Int) ≤ (c' : Int) := by omega
            have hi5 : ¬ c' = 0 := by omega
            have HE' := Lib.hid hE'
            have HH := Lib.hid hH
            clear hcc1 hcc2 hE' hH
            go_wp2_with fail
            have hrq3 : Row wr.drew w.heap.size (n + m) q := hrq2
            have hcl3 : Col wr.drew (w.heap.size + 1) V2 := hcl2
            have hb3 : Below w.heap.size w wr.drew := hb2.drew
            have hA3 := (hA.below hb3).sub hi2 (by have := HE'.out; omega : E' ≤ n)
            have hB3 := (hB.below hb3).take (by have := HH.out; omega : H ≤ m)
            have HST := Lib.hid (cross_step (f := f) (g := g) (k := k) hx1 hi2 (by have := HE'.out; omega) HH.out)
            have hsl := sm_le (h := fun t => f (x + t) * g (H - 1 - t)) (E' - x) (B := 999999998000000001) fun j hj => (times_lt (HF.out (x + j) (by have := HE'.out; omega)) (HG.out (H - 1 - j) (by have := HH.out; omega)) LB_pos LB_pos).2
            have hsl2 : sm (fun t => f (x + t) * g (H - 1 - t)) (E' - x) ≤ 17999999964000000018 := Nat.le_trans hsl (Nat.le_trans (Nat.mul_le_mul_right _ (by have := HE'.out; omega : E' - x ≤ 18)) (by omega))
            have hsm := sm_le (h := fun t => f (LO + t) * g (k - (LO + t))) (x - LO) (B := 999999998000000001) fun j hj => (times_lt (HF.out (LO + j) (by omega)) (HG.out (k - (LO + j)) (by omega)) LB_pos LB_pos).2
            have hsm2 : sm (fun t => f (LO + t) * g (k - (LO + t))) (x - LO) ≤ 1999999996000000002000 := Nat.le_trans hsm (Nat.le_trans (Nat.mul_le_mul_right _ (by omega : x - LO ≤ 2000)) (by omega))
            have hmx : min x E - LO = x - LO := by omega
            have hV3 := hV2.out
            rw [hmx] at hV3
            have hqV := hq.out.2.2
            have HBV : Big (V2 + sm (fun t => f (x + t) * g (H - 1 - t)) (E' - x) < 18446744073709551616 * 18446744073709551616) := Big.mk (by omega)
            have HBS : Big (sm (fun t => f (x + t) * g (H - 1 - t)) (E' - x) < 18446744073709551616) := Big.mk (by omega)
            have HV3 := Lib.hid hV3
            have HFF : Hid (∀ j, j < E' - x → f (x + j) < LB) := Lib.hid fun j hj => HF.out _ (by have := HE'.out; omega)
            have HGG : Hid (∀ j, j < H → g j < LB) := Lib.hid fun j hj => HG.out _ (by have := HH.out; omega)
            clear hsl hsl2 hsm hsm2 hmx hqV hV3
            go_still_tail 13, (by kernel_rfl)
            change wpList _ _ _ _ _ wr.drew
            generalize wr.drew = w3 at *
            go_wp2_with fail
            refine (cross_any _ _ _ _ _ _ _ _ _ _ _ hA3 hB3 HFF.out HGG.out (by have := HE'.out; omega) (by have := HE'.out; have := HH.out; omega)).mono ?_
            rintro e w' ⟨rfl, d, rfl⟩
            generalize hgS : sm (fun t => f (x + t) * g (H - 1 - t)) (E' - x) = S at *
            have hrq4 : Row (w3.drewN d) w.heap.size (n + m) q := hrq3
            have hcl4 : Col (w3.drewN d) (w.heap.size + 1) V2 := hcl3
            have hb4 : Below w.heap.size w (w3.drewN d) := hb3.trans ((Below.drewN _ d).mono hb3.size)
            clear hrq3 hcl3 hb3 hA3 hB3 hrq2 hcl2 hb2
            generalize w3.drewN d = w4 at *
            go_wp2_with fail
            have hcl5 : Col (w4.alloc (.cells #[.int .u64 (iv S)] 209)) (w.heap.size + 1) V2 := hcl4.keep (Below.heap_alloc _ _ _ hcl4.lt)
            refine (collect_any (w.heap.size + 1) V2 w4.heap.size S _ hcl5 (cell_new1 _ _ rfl _ _) HBS HBV).mono ?_
            rintro e w5 ⟨rfl, hcl6, hg6⟩
            have hrq5 : Row (w4.alloc (.cells #[.int .u64 (iv S)] 209)) w.heap.size (n + m) q := hrq4.keep (Below.heap_alloc _ _ _ hrq4.lt)
            have hrq6 : Row w5 w.heap.size (n + m) q := hrq5.keep (hg6.block _ hrq5.lt (by simp))
            have hb6 : Below w.heap.size w w5 := (hb4.alloc hb4.size (.cells #[.int .u64 (iv S)] 209)).grown hg6 (by have := hb4.size; simp; omega) (fun j e => by cases e; omega)
            clear hcl5 hcl4 hrq5 hrq4 hb4 hg6 HBS HBV HFF HGG
            go_wp2_with fail
            go_roundw
            case rel => exact ⟨x + 18, _, by go_num, by omega, by omega, hrq6, hcl6, by rw [← HE'.out, HST.out, HV3.out, Nat.add_assoc]; exact Lib.hid rfl, hb6⟩
            case measure => simp [intOf]; omega
          · have hcv : V2 = V + cvn (pl f n) (pl g m) n k := by
              rw [col_sum HLO.out HEE.out HLE.out.1, hV2.out, show min x E = E by omega]
            have HCV := Lib.hid hcv
            have HEQ := Lib.hid (col_step (S := cvn (pl f n) (pl g m) n k) hq.out.1)
            have hcb : cvn (pl f n) (pl g m) n k ≤ 2000 * 999999998000000001 := by
              refine Nat.le_trans (sm_le (B := 999999998000000001) n fun j hj => ?_) (Nat.mul_le_mul_right _ hn)
              split
              · exact (times_lt (pl_lt HF.out j) (pl_lt HG.out _) LB_pos LB_pos).2
              · omega
            have hqV := hq.out.2.2
            have hVn : V2 / LB < 4722366482869645213696 := by rw [Nat.div_lt_iff_lt_mul LB_pos, LB_eq]; omega
            have HVN := Lib.hid hVn
            have HBV : Big (V2 < 18446744073709551616 * 18446744073709551616) := Big.mk (by omega)
            have HTK := Lib.hid (take_any (w.heap.size + 1) V2 wr hcl2 HBV)
            clear hcv hcb hqV hVn
            go_wp2_with fail
            refine HTK.out.mono ?_
            rintro e w6 ⟨rfl, hcl6, hg6⟩
            have hrq6 : Row w6 w.heap.size (n + m) q := hrq2.keep (hg6.block _ hrq2.lt (by simp))
            have hb6 : Below w.heap.size w w6 := hb2.grown hg6 hb2.size (fun j e => by cases e; omega)
            have hz := hrq6.cell hlt
            have hfz := hrq6.frozen k
            have HNEW := Lib.hid (hrq6.set k (V2 % LB))
            have HCL := Lib.hid (hcl6.keep (Below.heap_setCell w6 ⟨w.heap.size, k, none⟩ (.int .u32 (iv (V2 % LB))) (w.heap.size + 1) (by simp)))
            clear hrq2 hcl2 hb2 hg6 hcl6
            generalize hgz : iv (V2 % LB) = Z at *
            clear hgz
            go_wp2_with fail
            go_roundw
            case rel => exact ⟨k + 1, by omega, by go_num, _, _, HNEW.out, HCL.out, ⟨by rw [HCV.out]; exact HEQ.out, fun j => by show (if j = k then V2 % LB else q j) < LB; split; exact Nat.mod_lt _ LB_pos; exact hq.out.2.1 j, HVN.out⟩, hb6.setCell (p := ⟨w.heap.size, k, none⟩) (Nat.le_refl _) _⟩
            case measure => simp [intOf]; omega
      · obtain rfl : k = n + m := by omega
        have HE := Lib.hid (product_done HF.out HG.out hq.out.1)
        have HQ := Lib.hid hq.out.2.1
        have HT := Lib.hid (trim_any (some ⟨w.heap.size, 0, none⟩) (n + m) (n + m) q _ wr (hrq.rs (by omega) (fun j hj => by have := HQ.out j; rw [LB_eq] at this; omega)))
        go_wp2_with fail
        refine HT.out.mono ?_
        rintro e w' ⟨⟨v, rfl, ht⟩, rfl⟩
        have HM := Lib.hid (ht.made (fun j _ => HQ.out j) HE.out hb)
        clear ht
        go_wp2_with fail
        go_ret
        exact ⟨_, rfl, HM.out⟩

end Go.Proofs.YtbjaolmlnkliiaaGreatDoor

/- The contracts of multiply and Mul. Conditions as premises: the lists read. -/
namespace Go.Proofs.YtbjaolmlnkliiaaGreatDoor
open Go.RowKit Go.Shelf

theorem product_all (A A' : Option Addr) (n c m c' : Nat) (f g : Nat → Nat) (w : World) (hA : Rs w w.heap.size A n c f) (hB : Rs w w.heap.size A' m c' g) (hf : ∀ j, j < n → f j < LB) (hg : ∀ j, j < m → g j < LB) (hn : n ≤ 2000) (hm : m ≤ 2000) :
    Calls Tryz.prog 231 #[.slice A n c, .slice A' m c'] w fun e w' => ∃ v, e = .returned v ∧ Made w (nv f n * nv g m) v w' := by
  by_cases h : n = 1 ∧ m = 1
  · obtain ⟨rfl, rfl⟩ := h
    rw [show nv f 1 = f 0 by simp [nv], show nv g 1 = g 0 by simp [nv]]
    exact product11_any A A' c c' f g w hA hB (hf 0 (by omega)) (hg 0 (by omega))
  · exact product_any A A' n c m c' f g w hA hB hf hg hn hm h

set_option maxRecDepth 100000 in
set_option maxHeartbeats 1600000 in
theorem multiply_any (A A' : Option Addr) (n c m c' : Nat) (f g : Nat → Nat) (w : World) (hA : Rs w w.heap.size A n c f) (hB : Rs w w.heap.size A' m c' g) (vf : Val n f) (vg : Val m g) (hn : n ≤ 1024) (hm : m ≤ 1024) :
    Calls Tryz.prog 208 #[.slice A n c, .slice A' m c'] w fun e w' => Ans w (fitE (nv f n * nv g m)) (nv f n * nv g m) e w' := by
  by_cases h : 1024 < (n : Int) + (m : Int) - 1
  · have hge : LB ^ NL ≤ nv f n * nv g m := by
      have h1 := Nat.mul_le_mul (vf.top_le (by omega)) (vg.top_le (by omega))
      rw [← Nat.pow_add] at h1
      exact Nat.le_trans (pow_le_of (by rw [NL_eq]; omega)) h1
    rw [fitE_over hge]
    clear hge vf vg hA hB
    go_enter Tryz.func208, Tryz.ntmps208
    go_wp2_with fail
    go_ret2
    exact Ans.bad (by decide) (Below.refl _ _)
  · have C2 := Lib.hid (product_all A A' n c m c' f g w hA hB vf.1 vg.1 (by omega) (by omega))
    clear vf vg hA hB
    go_enter Tryz.func208, Tryz.ntmps208
    go_wp2_with fail
    refine C2.out.mono ?_
    rintro e w' ⟨v, rfl, hm⟩
    have HM := Lib.hid hm
    clear hm
    go_wp2_with fail
    refine (fit_any HM.out).mono ?_
    rintro e w2 ⟨u, rfl, hm⟩
    have HM2 := Lib.hid hm
    clear hm
    generalize hge : fitE (nv f n * nv g m) = er at *
    have HGE := Lib.hid hge
    clear hge
    go_wp2_with fail
    go_ret2
    exact ⟨u, by rw [HGE.out]; rfl, by rw [HGE.out]; exact HM2.out⟩

set_option maxRecDepth 100000 in
set_option maxHeartbeats 1600000 in
theorem natMul_any (A A' : Option Addr) (n c m c' : Nat) (f g : Nat → Nat) (w : World) (hA : Rs w w.heap.size A n c f) (hB : Rs w w.heap.size A' m c' g) :
    Calls Tryz.prog 169 #[.slice A n c, .slice A' m c'] w fun e w' => Ans w (mulE n f m g) (nv f n * nv g m) e w' := by
  have c1 := checkAll_call A A' n c m c' f g w hA hB
  have hb : Below w.heap.size w (w.alloc (.cells #[.slice A n c, .slice A' m c'] 23)) := (Below.refl _ _).alloc (Nat.le_refl _) _
  have HB := Lib.hid hb
  by_cases h : chk2 n f m g = 0
  · rw [show mulE n f m g = fitE (nv f n * nv g m) by unfold mulE; rw [if_pos h]]
    obtain ⟨h1, h2⟩ := chk2_zero h
    obtain ⟨hn, vf⟩ := chk_zero h1
    obtain ⟨hm, vg⟩ := chk_zero h2
    rw [h] at c1
    have C1 := Lib.hid c1
    have C2 := Lib.hid (multiply_any A A' n c m c' f g (w.alloc (.cells #[.slice A n c, .slice A' m c'] 23)) ((hA.below hb).more hb.size) ((hB.below hb).more hb.size) vf vg hn hm)
    clear c1 h h1 h2 vf vg hn hm hA hB hb
    go_enter Tryz.func169, Tryz.ntmps169
    go_wp2_with fail
    refine C1.out.mono ?_
    rintro e w' ⟨rfl, rfl⟩
    go_wp2_with fail
    refine C2.out.mono ?_
    rintro e w' ⟨u, rfl, hm⟩
    have HM2 := Lib.hid hm
    clear hm
    generalize hge : fitE (nv f n * nv g m) = er at *
    have HGE := Lib.hid hge
    clear hge
    go_wp2_with fail
    go_ret2
    exact ⟨u, by rw [HGE.out]; rfl, by rw [HGE.out]; exact HM2.out.after HB.out⟩
  · rw [show mulE n f m g = chk2 n f m g by unfold mulE; rw [if_neg h]]
    have h1 : (chk2 n f m g != 0) = true := by rw [bne_iff_ne]; exact h
    have h2 : (chk2 n f m g == 0) = false := by rw [beq_eq_false_iff_ne]; exact h
    have H := Lib.hid h
    have C1 := Lib.hid c1
    clear c1 h hA hB hb
    generalize chk2 n f m g = er at *
    go_enter Tryz.func169, Tryz.ntmps169
    go_wp2_with fail
    refine C1.out.mono ?_
    rintro e w' ⟨rfl, rfl⟩
    go_wp2_with fail
    go_ret2
    exact Ans.bad H.out HB.out

end Go.Proofs.YtbjaolmlnkliiaaGreatDoor

/- The contract of Pow. Conditions as premises: the list reads. -/
namespace Go.Proofs.YtbjaolmlnkliiaaGreatDoor
open Go.RowKit Go.Shelf

theorem bitLen_gt : ∀ (s x : Nat), x < 2 ^ s → s ≤ 64 → x < 2 ^ (Lib.bitLen x)
  | 0, x, h, _ => by
    obtain rfl : x = 0 := by simpa using h
    exact Nat.pow_pos (by omega)
  | s + 1, x, h, hs => by
    rcases Nat.eq_zero_or_pos x with h0 | h0
    · subst h0; exact Nat.pow_pos (by omega)
    · have h1 : x / 2 < 2 ^ s := by rw [Nat.div_lt_iff_lt_mul (by omega), ← Nat.pow_succ]; exact h
      have h2 := bitLen_gt s (x / 2) h1 (by omega)
      rw [Lib.bitLen_half x (by omega) (Nat.lt_of_lt_of_le h (Nat.pow_le_pow_right (by omega) hs)), Nat.add_comm, Nat.pow_succ]
      omega

theorem and1_i64 (n : Nat) (hn : n < 9223372036854775808) : bits .and .i64 (n : Int) 1 = ((n % 2 : Nat) : Int) := by
  have h1 : (BitVec.ofInt 64 (n : Int)).toNat = n := by
    rw [BitVec.ofInt_natCast, BitVec.toNat_ofNat]; exact Nat.mod_eq_of_lt (by omega)
  show IntKind.i64.wrap ((BitVec.ofInt 64 (n : Int) &&& BitVec.ofInt 64 1).toNat : Int) = _
  rw [BitVec.toNat_and, h1, show (BitVec.ofInt 64 1).toNat = 2 ^ 1 - 1 from rfl, Nat.and_two_pow_sub_one_eq_mod, IntKind.wrap_i64]
  omega

theorem bit_test (k p : Nat) (hk : k ≤ 10000) : (bits .and .i64 ((k : Int) / 2 ^ p) 1 == 0) = decide (k / 2 ^ p % 2 = 0) := by
  have e : (k : Int) / 2 ^ p = ((k / 2 ^ p : Nat) : Int) := by rw [Int.natCast_ediv, Int.natCast_pow]; rfl
  have h : k / 2 ^ p ≤ k := Nat.div_le_self _ _
  rw [e, and1_i64 _ (by omega)]
  by_cases hz : k / 2 ^ p % 2 = 0
  · rw [decide_eq_true hz, hz]; rfl
  · rw [decide_eq_false hz, beq_eq_false_iff_ne]; omega

theorem half_step (k p : Nat) : k / 2 ^ p = 2 * (k / 2 ^ (p + 1)) + k / 2 ^ p % 2 := by
  rw [Nat.pow_succ, ← Nat.div_div_eq_div_mul]
  omega

theorem pow_small {a j : Nat} (h : LB ^ NL ≤ a ^ j) : 2 ≤ a := by
  rcases Nat.lt_or_ge a 2 with h2 | h2
  · exfalso
    have h3 : a ^ j ≤ 1 := by
      calc a ^ j ≤ 1 ^ j := Nat.pow_le_pow_left (by omega) j
        _ = 1 := Nat.one_pow j
    have h4 : 1 < LB ^ NL := one_lt_NL
    omega
  · exact h2

end Go.Proofs.YtbjaolmlnkliiaaGreatDoor

/- The contracts of topLimbs, leadingShift and leading: the highest limbs of a number, less some bits. Conditions as premises. -/
namespace Go.Proofs.YtbjaolmlnkliiaaGreatDoor
open Go.RowKit Go.Shelf

/-- the three highest limbs below a place -/
def top3 (f : Nat → Nat) (n s : Nat) : Nat := (pl f n (s - 1) * LB + pl f n (s - 2)) * LB + pl f n (s - 3)

theorem top3_lt {f : Nat → Nat} {n : Nat} (hf : ∀ j, j < n → f j < LB) (s : Nat) : top3 f n s < 1000000000000000000000000000 ∧ pl f n (s - 1) * LB + pl f n (s - 2) < 1000000000000000000 := by
  have h1 := pl_lt hf (s - 1)
  have h2 := pl_lt hf (s - 2)
  have h3 := pl_lt hf (s - 3)
  unfold top3
  rw [LB_eq] at *
  omega

/-- the local array of three words -/
def Tp (w : World) (B : Nat) (h : Nat → Nat) : Prop := w.rowIs B 262 3 (fun i => .int .u64 (iv (h i)))
section
variable {w w' : World} {B : Nat} {h : Nat → Nat}
theorem Tp.cell (t : Tp w B h) {i : Nat} (hi : i < 3) : w.cell? ⟨B, i, none⟩ = some (.int .u64 (iv (h i))) := World.rowIs.cell t hi
theorem Tp.frozen (t : Tp w B h) (i : Nat) : w.frozen? ⟨B, i, none⟩ = false := World.rowIs.frozen t i
theorem Tp.lt (t : Tp w B h) : B < w.heap.size := World.rowIs.lt t
theorem Tp.set (t : Tp w B h) (i x : Nat) : Tp (w.setCell ⟨B, i, none⟩ (.int .u64 (iv x))) B (fun j => if j = i then x else h j) :=
  World.rowIs.congr (World.rowIs.set t i _) fun j _ => by by_cases e : j = i <;> simp [e]
theorem Tp.new (w : World) : Tp (w.alloc (.cells #[.int .u64 0, .int .u64 0, .int .u64 0] 262)) w.heap.size (fun _ => 0) := by
  have h := World.rowIs_alloc w #[.int .u64 0, .int .u64 0, .int .u64 0] 262 (fun _ => .int .u64 0) (fun i hi => by
    rcases (by simpa using hi : i < 3) with h
    rcases (by omega : i = 0 ∨ i = 1 ∨ i = 2) with rfl | rfl | rfl <;> rfl)
  exact World.rowIs.congr h fun j _ => by rw [iv_zero]
end

set_option maxRecDepth 100000 in
set_option maxHeartbeats 1600000 in
theorem topLimbs_any (A : Option Addr) (n c s : Nat) (f : Nat → Nat) (w : World) (hr : Rs w w.heap.size A n c f) (hf : ∀ j, j < n → f j < LB) (hs : 3 ≤ s) (hs2 : s ≤ 4096) (hn : n ≤ 4096) :
    Calls Tryz.prog 256 #[.slice A n c, .int .i64 s] w fun e w' => e = .returned (.tuple #[.int .u64 (iv (top3 f n s / 18446744073709551616)), .int .u64 (iv (top3 f n s % 18446744073709551616))]) ∧ Below w.heap.size w w' := by
  have HF := Lib.hid hf
  have hnew := Tp.new w
  have hbel : Below w.heap.size w (w.alloc (.cells #[.int .u64 0, .int .u64 0, .int .u64 0] 262)) := (Below.refl _ _).alloc (Nat.le_refl _) _
  clear hf
  go_enter Tryz.func256, Tryz.ntmps256
  go_wp2_with fail
  generalize w.alloc (.cells #[.int .u64 0, .int .u64 0, .int .u64 0] 262) = w0 at *
  go_loopw [7, 8, 10] (fun _ _ i wr => ∃ k : Nat, k ≤ 3 ∧ i = .int .i64 k ∧ ∃ h, Tp wr w.heap.size h ∧ Hid ((∀ j, j < k → h j = pl f n (s - 1 - j)) ∧ ∀ j, k ≤ j → h j = 0) ∧ Below w.heap.size w wr) (fun _ _ i _ => 3 - (intOf i).toNat)
  case atStart => exact ⟨0, by omega, rfl, _, hnew, ⟨fun j h => by omega, fun _ _ => rfl⟩, hbel⟩
  case round =>
    obtain ⟨k, hk, rfl, h, htp, hh, hb⟩ := hrel
    by_cases hlt : k < 3
    · have hfz := htp.frozen k
      have hcp := htp.cell hlt
      have hi : ((s - 1 - k : Nat) : Int) = (s : Int) - 1 - (k : Int) := by omega
      by_cases hpn : s - 1 - k < n
      · obtain ⟨b1, off1, rfl, hb1, hcc1⟩ := (hr.below hb).cell (by omega)
        have hck1 := hcc1 (s - 1 - k) hpn
        have hx0 := iv_nonneg (f (s - 1 - k))
        have hx1 := iv_limb (HF.out (s - 1 - k) hpn)
        have hnew := Lib.hid (htp.set k (f (s - 1 - k)))
        have hb' := Lib.hid (hb.setCell (p := ⟨w.heap.size, k, none⟩) (Nat.le_refl _) (.int .u64 (iv (f (s - 1 - k)))))
        clear hcc1
        go_wp2_with fail
        go_roundw
        case rel => exact ⟨k + 1, by omega, by go_num, _, hnew.out, ⟨fun j hj => by
          by_cases e : j = k
          · subst e; simp only [↓reduceIte]; exact (pl_in hpn).symm
          · rw [if_neg e]; exact hh.out.1 j (by omega), fun j hj => by rw [if_neg (by omega)]; exact hh.out.2 j (by omega)⟩, hb'.out⟩
        case measure => simp [intOf] <;> omega
      · go_wp2_with fail
        go_roundw
        case rel => exact ⟨k + 1, by omega, by go_num, _, htp, ⟨fun j hj => by
          by_cases e : j = k
          · subst e; rw [pl_out (by omega)]; exact hh.out.2 j (Nat.le_refl _)
          · exact hh.out.1 j (by omega), fun j hj => hh.out.2 j (by omega)⟩, hb⟩
        case measure => simp [intOf] <;> omega
    · obtain rfl : k = 3 := by omega
      have e0 : h 0 = pl f n (s - 1) := hh.out.1 0 (by omega)
      have e1 : h 1 = pl f n (s - 2) := by rw [hh.out.1 1 (by omega)]; congr 1
      have e2 : h 2 = pl f n (s - 3) := by rw [hh.out.1 2 (by omega)]; congr 1
      have c0 := htp.cell (i := 0) (by omega)
      have c1 := htp.cell (i := 1) (by omega)
      have c2 := htp.cell (i := 2) (by omega)
      rw [e0] at c0
      rw [e1] at c1
      rw [e2] at c2
      have x0 := iv_nonneg (pl f n (s - 1))
      have x1 := iv_limb (pl_lt HF.out (s - 1))
      have y0 := iv_nonneg (pl f n (s - 2))
      have y1 := iv_limb (pl_lt HF.out (s - 2))
      have z0 := iv_nonneg (pl f n (s - 3))
      have z1 := iv_limb (pl_lt HF.out (s - 3))
      have hT : top3 f n s = (pl f n (s - 1) * 1000000000 + pl f n (s - 2)) * 1000000000 + pl f n (s - 3) := by unfold top3; rw [LB_eq]
      obtain ⟨X, hX⟩ : ∃ X, X = pl f n (s - 1) * 1000000000 + pl f n (s - 2) := ⟨_, rfl⟩
      rw [← hX] at hT
      have hXl : X < 1000000000000000000 := by
        have := pl_lt HF.out (s - 1)
        have := pl_lt HF.out (s - 2)
        rw [LB_eq] at *; omega
      have hM := bits_Mul64 X 1000000000 (by omega) (by omega)
      rw [show ((X : Nat) : Int) = iv (pl f n (s - 1)) * 1000000000 + iv (pl f n (s - 2)) by rw [hX]; simp only [iv_eq]; omega] at hM
      rw [show ((X * 1000000000 / 18446744073709551616 : Nat) : Int) = iv (X * 1000000000 / 18446744073709551616) by rw [iv_eq], show ((X * 1000000000 % 18446744073709551616 : Nat) : Int) = iv (X * 1000000000 % 18446744073709551616) by rw [iv_eq]] at hM
      have p0 := iv_nonneg (X * 1000000000 % 18446744073709551616)
      have p1 : iv (X * 1000000000 % 18446744073709551616) < 18446744073709551616 := by rw [iv_eq]; omega
      have q0 := iv_nonneg (X * 1000000000 / 18446744073709551616)
      have q1 : iv (X * 1000000000 / 18446744073709551616) < 1000000000 := by rw [iv_eq]; omega
      have r1 : iv (X * 1000000000 / 18446744073709551616) + (iv (X * 1000000000 % 18446744073709551616) + iv (pl f n (s - 3))) / 18446744073709551616 = iv (top3 f n s / 18446744073709551616) := by rw [hT]; simp only [iv_eq]; omega
      have r2 : (iv (X * 1000000000 % 18446744073709551616) + iv (pl f n (s - 3))) % 18446744073709551616 = iv (top3 f n s % 18446744073709551616) := by rw [hT]; simp only [iv_eq]; omega
      have HM := Lib.hid hM
      have HR1 := Lib.hid r1
      have HR2 := Lib.hid r2
      clear hM r1 r2 hX hT hXl e0 e1 e2
      generalize iv (pl f n (s - 1)) = X0 at *
      generalize iv (pl f n (s - 2)) = X1 at *
      generalize iv (pl f n (s - 3)) = X2 at *
      generalize iv (X * 1000000000 % 18446744073709551616) = P0 at *
      generalize iv (X * 1000000000 / 18446744073709551616) = P1 at *
      have HA := fun w => add64_any P0 X2 p0 z0 p1 (by omega) w
      have HADD := Lib.hid HA
      clear HA
      have hs0 : 0 ≤ (P0 + X2) / 18446744073709551616 := by omega
      have hs1 : (P0 + X2) / 18446744073709551616 ≤ 1 := by omega
      go_wp2_with fail
      refine (HM.out _).mono ?_
      rintro _ _ ⟨rfl, rfl⟩
      go_wp2_with (simp only [HADD.out])
      go_ret2
      exact ⟨by rw [← HR1.out, ← HR2.out]; rfl, hb⟩

theorem bitLen_le : ∀ (s x : Nat), x < 2 ^ s → s ≤ 64 → Lib.bitLen x ≤ s
  | 0, x, h, _ => by
    obtain rfl : x = 0 := by simpa using h
    exact Nat.le_refl _
  | s + 1, x, h, hs => by
    rcases Nat.eq_zero_or_pos x with h0 | h0
    · subst h0; exact Nat.zero_le _
    · have h1 : x / 2 < 2 ^ s := by rw [Nat.div_lt_iff_lt_mul (by omega), ← Nat.pow_succ]; exact h
      have h2 := bitLen_le s (x / 2) h1 (by omega)
      rw [Lib.bitLen_half x (by omega) (Nat.lt_of_lt_of_le h (Nat.pow_le_pow_right (by omega) hs))]
      omega

theorem iv_toNat (x : Nat) : (iv x).toNat = x := by rw [iv_eq]; omega

set_option maxRecDepth 100000 in
set_option maxHeartbeats 1600000 in
theorem leadingShift_any (A : Option Addr) (n c : Nat) (f : Nat → Nat) (w : World) (hr : Rs w w.heap.size A n c f) (hf : ∀ j, j < n → f j < LB) (hn3 : 3 ≤ n) (hn : n ≤ 4096) :
    Calls Tryz.prog 247 #[.slice A n c] w fun e w' => ∃ sh : Nat, e = .returned (.int .i64 (sh : Int)) ∧ Below w.heap.size w w' ∧ sh ≤ 28 ∧ Big (top3 f n n < 4611686018427387904 * 2 ^ sh) := by
  have ht := topLimbs_any A n c n f w hr hf hn3 hn hn
  have hTl := (top3_lt hf n).1
  generalize hT : top3 f n n = T at *
  have hH : T / 18446744073709551616 < 2 ^ 26 := by omega
  have hL : T % 18446744073709551616 < 2 ^ 64 := by omega
  have hbh := bitLen_le 26 _ hH (by omega)
  have hbl := bitLen_le 64 _ hL (by omega)
  have hgh := bitLen_gt 26 _ hH (by omega)
  have hgl := bitLen_gt 64 _ hL (by omega)
  have h0 := iv_nonneg (T / 18446744073709551616)
  have h1 := iv_u64 (show T / 18446744073709551616 < 18446744073709551616 by omega)
  have l0 := iv_nonneg (T % 18446744073709551616)
  have l1 := iv_u64 (show T % 18446744073709551616 < 18446744073709551616 by omega)
  have B1 := bits_Len64 (iv (T / 18446744073709551616))
  have B2 := bits_Len64 (iv (T % 18446744073709551616))
  rw [iv_toNat] at B1 B2
  by_cases hz : T / 18446744073709551616 = 0
  · have HF1 : Hid (∀ sh : Nat, max 0 ((Lib.bitLen (T % 18446744073709551616) : Int) - 62) = (sh : Int) → sh ≤ 28 ∧ Big (T < 4611686018427387904 * 2 ^ sh)) := Lib.hid fun sh hsh => by
      refine ⟨by omega, Big.mk ?_⟩
      have h3 : T % 18446744073709551616 = T := by omega
      rw [h3] at hgl hsh
      refine Nat.lt_of_lt_of_le hgl ?_
      rw [show (4611686018427387904 : Nat) = 2 ^ 62 from rfl, ← Nat.pow_add]
      exact Nat.pow_le_pow_right (by omega) (by omega)
    have hz' : iv (T / 18446744073709551616) = 0 := by rw [hz, iv_zero]
    have hb2 : (Lib.bitLen (T % 18446744073709551616) : Int) ≤ 64 := by omega
    have B2' := Lib.hid fun w => B2 w l0 l1
    rw [hz'] at ht
    have HT := Lib.hid ht
    clear ht
    clear hz hgh hgl hbh hbl hH hL hTl hT B1 B2 h0 h1 l0 l1 hz' hf
    generalize Lib.bitLen (T % 18446744073709551616) = bl at *
    generalize iv (T % 18446744073709551616) = L at *
    go_enter Tryz.func247, Tryz.ntmps247
    go_wp2_with fail
    refine HT.out.mono ?_
    rintro _ w1 ⟨rfl, hb1⟩
    go_wp2_with fail
    refine (B2'.out _).mono ?_
    rintro _ _ ⟨rfl, rfl⟩
    go_wp2_with fail
    go_ret
    obtain ⟨sh, hsh⟩ : ∃ sh : Nat, max 0 ((bl : Int) - 62) = (sh : Int) := ⟨(max 0 ((bl : Int) - 62)).toNat, by omega⟩
    exact ⟨sh, by rw [← hsh]; rfl, hb1, HF1.out sh hsh⟩
  · have HF1 : Hid (∀ sh : Nat, max 0 (64 + (Lib.bitLen (T / 18446744073709551616) : Int) - 62) = (sh : Int) → sh ≤ 28 ∧ Big (T < 4611686018427387904 * 2 ^ sh)) := Lib.hid fun sh hsh => by
      refine ⟨by omega, Big.mk ?_⟩
      have h3 : T < (T / 18446744073709551616 + 1) * 18446744073709551616 := by omega
      refine Nat.lt_of_lt_of_le h3 (Nat.le_trans (Nat.mul_le_mul_right _ hgh) ?_)
      rw [show (4611686018427387904 : Nat) = 2 ^ 62 from rfl, show (18446744073709551616 : Nat) = 2 ^ 64 from rfl, ← Nat.pow_add, ← Nat.pow_add]
      exact Nat.pow_le_pow_right (by omega) (by simp only [show (2 : Nat) ^ 64 = 18446744073709551616 from rfl]; omega)
    have hz' := iv_pos hz
    have hb1 : (Lib.bitLen (T / 18446744073709551616) : Int) ≤ 26 := by omega
    have hb2 : (Lib.bitLen (T % 18446744073709551616) : Int) ≤ 64 := by omega
    have B1' := Lib.hid fun w => B1 w h0 h1
    have B2' := Lib.hid fun w => B2 w l0 l1
    have HT := Lib.hid ht
    clear ht hz hgh hgl hbh hbl hH hL hTl hT B1 B2 h0 l0 l1 hf
    generalize Lib.bitLen (T % 18446744073709551616) = bl at *
    generalize Lib.bitLen (T / 18446744073709551616) = bh at *
    generalize iv (T % 18446744073709551616) = L at *
    generalize iv (T / 18446744073709551616) = H at *
    go_enter Tryz.func247, Tryz.ntmps247
    go_wp2_with fail
    refine HT.out.mono ?_
    rintro _ w1 ⟨rfl, hb1⟩
    go_wp2_with fail
    refine (B2'.out _).mono ?_
    rintro _ _ ⟨rfl, rfl⟩
    go_wp2_with fail
    refine (B1'.out _).mono ?_
    rintro _ _ ⟨rfl, rfl⟩
    go_wp2_with fail
    go_ret
    obtain ⟨sh, hsh⟩ : ∃ sh : Nat, max 0 (64 + (bh : Int) - 62) = (sh : Int) := ⟨(max 0 (64 + (bh : Int) - 62)).toNat, by omega⟩
    exact ⟨sh, by rw [← hsh]; rfl, hb1, HF1.out sh hsh⟩

theorem lead_val {T sh : Nat} (hsh : sh ≤ 28) (hT : T < 2 ^ 62 * 2 ^ sh) :
    wrap64 (bits .or .u64 (IntKind.u64.wrap (iv (T / 18446744073709551616) * 2 ^ (64 - sh))) (iv (T % 18446744073709551616) / 2 ^ sh)) = iv (T / 2 ^ sh) := by
  have e64 : (18446744073709551616 : Nat) = 2 ^ sh * 2 ^ (64 - sh) := by rw [← Nat.pow_add, show sh + (64 - sh) = 64 by omega]
  have hp : 0 < 2 ^ sh := Nat.pow_pos (by omega)
  have hdm := Nat.div_add_mod T 18446744073709551616
  have hml := Nat.mod_lt T (show 0 < 18446744073709551616 by omega)
  generalize hH : T / 18446744073709551616 = H at *
  generalize hL : T % 18446744073709551616 = L at *
  have ha : 2 ^ (64 - sh) * H < 2 ^ 62 := by
    have h1 : 2 ^ (64 - sh) * H * 2 ^ sh < 2 ^ 62 * 2 ^ sh := by
      rw [show 2 ^ (64 - sh) * H * 2 ^ sh = 2 ^ sh * 2 ^ (64 - sh) * H by ac_rfl, ← e64]
      omega
    exact Nat.lt_of_mul_lt_mul_right h1
  have hb : L / 2 ^ sh < 2 ^ (64 - sh) := by
    rw [Nat.div_lt_iff_lt_mul hp, Nat.mul_comm, ← e64]; exact hml
  have hb2 : 2 ^ (64 - sh) ≤ 2 ^ 64 := Nat.pow_le_pow_right (by omega) (by omega)
  have hd : T / 2 ^ sh = 2 ^ (64 - sh) * H + L / 2 ^ sh := by
    rw [← hdm, e64, Nat.mul_assoc, Nat.mul_add_div hp]
  have hx : T / 2 ^ sh < 2 ^ 62 := by rw [Nat.div_lt_iff_lt_mul hp]; exact hT
  have i1 : iv H * 2 ^ (64 - sh) = ((2 ^ (64 - sh) * H : Nat) : Int) := by rw [iv_eq, Int.natCast_mul, Int.natCast_pow, Int.mul_comm]; rfl
  have i2 : iv L / 2 ^ sh = ((L / 2 ^ sh : Nat) : Int) := by rw [iv_eq, Int.natCast_ediv, Int.natCast_pow]; rfl
  have hw : IntKind.u64.wrap ((2 ^ (64 - sh) * H : Nat) : Int) = ((2 ^ (64 - sh) * H : Nat) : Int) := by
    rw [IntKind.wrap_u64]; generalize 2 ^ (64 - sh) * H = a at *; omega
  rw [i1, i2, hw, bits_or_u64_nat _ _ (by omega) (by omega), ← Nat.two_pow_add_eq_or_of_lt hb, ← hd, iv_eq]
  generalize T / 2 ^ sh = X at *
  unfold wrap64; omega

set_option maxRecDepth 100000 in
set_option maxHeartbeats 1600000 in
theorem leading_any (A : Option Addr) (n c s sh : Nat) (f : Nat → Nat) (w : World) (hr : Rs w w.heap.size A n c f) (hf : ∀ j, j < n → f j < LB) (hs : 3 ≤ s) (hs2 : s ≤ 4096) (hn : n ≤ 4096) (hsh : sh ≤ 28) (hT : Big (top3 f n s < 4611686018427387904 * 2 ^ sh)) :
    Calls Tryz.prog 248 #[.slice A n c, .int .i64 s, .int .i64 sh] w fun e w' => e = .returned (.int .i64 (iv (top3 f n s / 2 ^ sh))) ∧ Below w.heap.size w w' := by
  have ht := topLimbs_any A n c s f w hr hf hs hs2 hn
  generalize hT' : top3 f n s = T at *
  have HT := Lib.hid ht
  have HV := Lib.hid (lead_val hsh hT.out)
  clear ht hT' hT hf
  go_enter Tryz.func248, Tryz.ntmps248
  go_wp2_with fail
  refine HT.out.mono ?_
  rintro _ w1 ⟨rfl, hb1⟩
  go_wp2_with fail
  go_quiet (fail)
  rw [HV.out]
  go_wp2_with fail
  go_ret
  exact ⟨rfl, hb1.trans ((Below.drewN _ _).mono hb1.size)⟩

end Go.Proofs.YtbjaolmlnkliiaaGreatDoor

/- Plain numbers: several of Euclid's divisions at once, by leading digits (Lehmer). No conditions. -/
namespace Go.Proofs.YtbjaolmlnkliiaaGreatDoor

/-- how the factors of a step lie: none made, an even number of divisions, an odd one -/
def Sg (x y a b c d : Int) : Prop :=
  (a = 1 ∧ b = 0 ∧ c = 0 ∧ d = 1 ∧ y ≤ x) ∨
  (0 ≤ a ∧ b < 0 ∧ c < 0 ∧ 0 < d ∧ a ≤ -c ∧ -b ≤ d ∧ a * d - b * c = 1 ∧ y + c < x + a ∧ y + d < x + b) ∨
  (a ≤ 0 ∧ 0 < b ∧ 0 < c ∧ d < 0 ∧ -a ≤ c ∧ b ≤ -d ∧ a * d - b * c = -1 ∧ y + c < x + a ∧ y + d < x + b)

/-- what the loop of leadingStep keeps -/
structure Lh (X0 Y0 x y a b c d : Int) : Prop where
  ex : a * X0 + b * Y0 = x
  ey : c * X0 + d * Y0 = y
  c1 : 0 ≤ x + a
  c2 : 0 ≤ x + b
  c3 : 0 ≤ y + c
  c4 : 0 ≤ y + d
  sg : Sg x y a b c d

theorem Lh.start {X0 Y0 : Int} (h0 : 0 ≤ Y0) (h1 : Y0 ≤ X0) : Lh X0 Y0 X0 Y0 1 0 0 1 :=
  ⟨by omega, by omega, by omega, by omega, by omega, by omega, .inl ⟨rfl, rfl, rfl, rfl, h1⟩⟩

theorem ediv_parts {u v q : Int} (hv : 0 < v) (hq : q = u / v) : 0 ≤ u - q * v ∧ u - q * v < v := by
  have h1 := Int.mul_ediv_add_emod u v
  have h2 := Int.emod_nonneg u (show v ≠ 0 by omega)
  have h3 := Int.emod_lt_of_pos u hv
  rw [← hq, Int.mul_comm] at h1
  omega

theorem Lh.next {X0 Y0 x y a b c d q : Int} (h : Lh X0 Y0 x y a b c d) (h1 : y + c ≠ 0) (h2 : y + d ≠ 0) (hq1 : q = (x + a) / (y + c)) (hq2 : q = (x + b) / (y + d)) :
    Lh X0 Y0 y (x - q * y) c d (a - q * c) (b - q * d) ∧ 1 ≤ q ∧ x - q * y < y := by
  have c3 := h.c3
  have c4 := h.c4
  obtain ⟨p1, p2⟩ := ediv_parts (by omega) hq1
  obtain ⟨p3, p4⟩ := ediv_parts (by omega) hq2
  rw [Int.mul_add] at p1 p2 p3 p4
  have hq : 1 ≤ q := by
    rw [hq1, Int.le_ediv_iff_mul_le (by omega)]
    rcases h.sg with ⟨rfl, rfl, rfl, rfl, hh⟩ | ⟨_, _, _, _, _, _, _, hh, _⟩ | ⟨_, _, _, _, _, _, _, hh, _⟩ <;> omega
  have ey := h.ey
  have ex := h.ex
  have e1 : (a - q * c) * X0 + (b - q * d) * Y0 = x - q * y := by
    rw [Int.sub_mul, Int.sub_mul, ← ex, ← ey, Int.mul_add, Int.mul_assoc, Int.mul_assoc]; omega
  have hdet : c * (b - q * d) - d * (a - q * c) = -(a * d - b * c) := by
    rw [Int.mul_sub, Int.mul_sub, show c * (q * d) = d * (q * c) by rw [Int.mul_left_comm, Int.mul_left_comm d, Int.mul_comm c d], Int.mul_comm c b, Int.mul_comm d a]; omega
  have hlt : x - q * y < y ∧ Sg y (x - q * y) c d (a - q * c) (b - q * d) → Lh X0 Y0 y (x - q * y) c d (a - q * c) (b - q * d) ∧ 1 ≤ q ∧ x - q * y < y :=
    fun h => ⟨⟨ey, e1, c3, c4, by omega, by omega, h.2⟩, hq, h.1⟩
  refine hlt ?_
  rcases h.sg with ⟨rfl, rfl, rfl, rfl, hh⟩ | ⟨s1, s2, s3, s4, s5, s6, s7, s8, s9⟩ | ⟨s1, s2, s3, s4, s5, s6, s7, s8, s9⟩
  · refine ⟨by omega, .inr (.inr ⟨by omega, by omega, by omega, by omega, by omega, by omega, ?_, by omega, by omega⟩)⟩
    rw [hdet]; omega
  · have m1 : q * c ≤ c := by
      have := Int.mul_le_mul_of_nonpos_right (c := c) hq (by omega); rwa [Int.one_mul] at this
    have m2 : d ≤ q * d := by
      have := Int.mul_le_mul_of_nonneg_right (c := d) hq (by omega); rwa [Int.one_mul] at this
    refine ⟨by omega, .inr (.inr ⟨by omega, by omega, by omega, by omega, by omega, by omega, ?_, by omega, by omega⟩)⟩
    rw [hdet, s7]
  · have m1 : c ≤ q * c := by
      have := Int.mul_le_mul_of_nonneg_right (c := c) hq (by omega); rwa [Int.one_mul] at this
    have m2 : q * d ≤ d := by
      have := Int.mul_le_mul_of_nonpos_right (c := d) hq (by omega); rwa [Int.one_mul] at this
    refine ⟨by omega, .inr (.inl ⟨by omega, by omega, by omega, by omega, by omega, by omega, ?_, by omega, by omega⟩)⟩
    rw [hdet, s7]; omega

/-- the first numbers, from the last ones -/
theorem back_eq {X0 Y0 x y a b c d s : Int} (ex : a * X0 + b * Y0 = x) (ey : c * X0 + d * Y0 = y) (hd : a * d - b * c = s) : d * x - b * y = s * X0 ∧ a * y - c * x = s * Y0 := by
  subst ex ey hd
  constructor
  · rw [Int.mul_add, Int.mul_add, Int.sub_mul, ← Int.mul_assoc, ← Int.mul_assoc, ← Int.mul_assoc, ← Int.mul_assoc, Int.mul_comm d a, Int.mul_comm d b]; omega
  · rw [Int.mul_add, Int.mul_add, Int.sub_mul, ← Int.mul_assoc, ← Int.mul_assoc, ← Int.mul_assoc, ← Int.mul_assoc, Int.mul_comm c a, Int.mul_comm c b]; omega

/-- factors are no greater than the number that they lead to -/
theorem Lh.size {X0 Y0 x y a b c d : Int} (h : Lh X0 Y0 x y a b c d) (hX : 0 ≤ X0) :
    (-max 1 X0 ≤ a ∧ a ≤ max 1 X0) ∧ (-max 1 X0 ≤ b ∧ b ≤ max 1 X0) ∧ (-max 1 X0 ≤ c ∧ c ≤ max 1 X0) ∧ (-max 1 X0 ≤ d ∧ d ≤ max 1 X0) ∧ 0 ≤ y ∧ x ≤ X0 ∧ y ≤ x := by
  have c1 := h.c1
  have c2 := h.c2
  have c3 := h.c3
  have c4 := h.c4
  rcases h.sg with ⟨rfl, rfl, rfl, rfl, hh⟩ | ⟨s1, s2, s3, s4, s5, s6, s7, s8, s9⟩ | ⟨s1, s2, s3, s4, s5, s6, s7, s8, s9⟩
  · have := h.ex; have := h.ey; omega
  · obtain ⟨e1, e2⟩ := back_eq h.ex h.ey s7
    have m1 : 1 * x ≤ d * x := Int.mul_le_mul_of_nonneg_right s4 (by omega)
    have m2 : 0 ≤ -b * y := Int.mul_nonneg (by omega) (by omega)
    rw [Int.neg_mul] at m2
    omega
  · obtain ⟨e1, e2⟩ := back_eq h.ex h.ey s7
    have m1 : 1 * x ≤ -d * x := Int.mul_le_mul_of_nonneg_right (by omega) (by omega)
    have m2 : 0 ≤ b * y := Int.mul_nonneg (by omega) (by omega)
    rw [Int.neg_mul] at m1
    omega

theorem sq_lt {m : Int} (h0 : 0 ≤ m) (h : m * m < 4611686018427387904) : m < 2147483648 := by
  by_cases h1 : m < 2147483648
  · exact h1
  · exfalso
    have h2 : 2147483648 ≤ m := by omega
    have := Int.mul_le_mul h2 h2 (by omega) (by omega)
    omega

/-- what a step that is not idle does to all numbers with these leading digits -/
structure StepOk (N M : Nat) (a b c d : Int) (X Y : Nat) : Prop where
  ex : a * N + b * M = X
  ey : c * N + d * M = Y
  lt : Y < X
  le : X ≤ M
  gcd : Nat.gcd X Y = Nat.gcd N M
  ba : -2147483648 < a ∧ a < 2147483648
  bb : -2147483648 < b ∧ b < 2147483648
  bc : -2147483648 < c ∧ c < 2147483648
  bd : -2147483648 < d ∧ d < 2147483648

/-- a sum of two products, from below: one factor takes the least value, the other the greatest -/
theorem mix_lo {p q A B X0 Y0 U : Int} (hA : X0 * U ≤ A) (hA' : A ≤ (X0 + 1) * U) (hB : Y0 * U ≤ B) (hB' : B ≤ (Y0 + 1) * U) (h : (0 ≤ p ∧ q ≤ 0) ∨ (p ≤ 0 ∧ 0 ≤ q)) :
    (p * X0 + q * Y0 + min p q) * U ≤ p * A + q * B := by
  rcases h with ⟨h1, h2⟩ | ⟨h1, h2⟩
  · have m1 := Int.mul_le_mul_of_nonneg_left hA h1
    have m2 := Int.mul_le_mul_of_nonpos_left h2 hB'
    rw [show min p q = q by omega]
    rw [← Int.mul_assoc] at m1 m2
    rw [Int.mul_add, Int.mul_one, Int.add_mul] at m2
    rw [Int.add_mul, Int.add_mul]
    omega
  · have m1 := Int.mul_le_mul_of_nonpos_left h1 hA'
    have m2 := Int.mul_le_mul_of_nonneg_left hB h2
    rw [show min p q = p by omega]
    rw [← Int.mul_assoc] at m1 m2
    rw [Int.mul_add, Int.mul_one, Int.add_mul] at m1
    rw [Int.add_mul, Int.add_mul]
    omega

theorem gcd_same {N M X Y : Nat} {a b c d s : Int} (ex : a * N + b * M = X) (ey : c * N + d * M = Y) (hd : a * d - b * c = s) (hs : s = 1 ∨ s = -1) : Nat.gcd X Y = Nat.gcd N M := by
  obtain ⟨e1, e2⟩ := back_eq ex ey hd
  apply Nat.dvd_antisymm
  · have h1 : ((Nat.gcd X Y : Nat) : Int) ∣ (X : Int) := Int.natCast_dvd_natCast.2 (Nat.gcd_dvd_left _ _)
    have h2 : ((Nat.gcd X Y : Nat) : Int) ∣ (Y : Int) := Int.natCast_dvd_natCast.2 (Nat.gcd_dvd_right _ _)
    have h3 : ((Nat.gcd X Y : Nat) : Int) ∣ (N : Int) := by
      have h := Int.dvd_sub (Int.dvd_mul_of_dvd_right (b := d) h1) (Int.dvd_mul_of_dvd_right (b := b) h2)
      rw [e1] at h
      rcases hs with rfl | rfl
      · rwa [Int.one_mul] at h
      · rw [Int.neg_mul, Int.one_mul] at h; exact Int.dvd_neg.1 h
    have h4 : ((Nat.gcd X Y : Nat) : Int) ∣ (M : Int) := by
      have h := Int.dvd_sub (Int.dvd_mul_of_dvd_right (b := a) h2) (Int.dvd_mul_of_dvd_right (b := c) h1)
      rw [e2] at h
      rcases hs with rfl | rfl
      · rwa [Int.one_mul] at h
      · rw [Int.neg_mul, Int.one_mul] at h; exact Int.dvd_neg.1 h
    exact Nat.dvd_gcd (Int.natCast_dvd_natCast.1 h3) (Int.natCast_dvd_natCast.1 h4)
  · have h1 : ((Nat.gcd N M : Nat) : Int) ∣ (N : Int) := Int.natCast_dvd_natCast.2 (Nat.gcd_dvd_left _ _)
    have h2 : ((Nat.gcd N M : Nat) : Int) ∣ (M : Int) := Int.natCast_dvd_natCast.2 (Nat.gcd_dvd_right _ _)
    have h3 : ((Nat.gcd N M : Nat) : Int) ∣ (X : Int) := by
      rw [← ex]; exact Int.dvd_add (Int.dvd_mul_of_dvd_right h1) (Int.dvd_mul_of_dvd_right h2)
    have h4 : ((Nat.gcd N M : Nat) : Int) ∣ (Y : Int) := by
      rw [← ey]; exact Int.dvd_add (Int.dvd_mul_of_dvd_right h1) (Int.dvd_mul_of_dvd_right h2)
    exact Nat.dvd_gcd (Int.natCast_dvd_natCast.1 h3) (Int.natCast_dvd_natCast.1 h4)

/-- behind the loop -/
theorem Lh.done {X0 Y0 x y a b c d U : Int} {N M : Nat} (h : Lh X0 Y0 x y a b c d) (hU : 0 < U) (hY : 0 ≤ Y0) (hYX : Y0 ≤ X0) (hX : X0 < 4611686018427387904)
    (hN : X0 * U ≤ N) (hN' : (N : Int) ≤ (X0 + 1) * U) (hM : Y0 * U ≤ M) (hM' : (M : Int) ≤ (Y0 + 1) * U) (hb : b ≠ 0) : ∃ X Y, StepOk N M a b c d X Y := by
  have c1 := h.c1
  have c2 := h.c2
  have c3 := h.c3
  have c4 := h.c4
  have hsz := h.size (by omega)
  -- the sign of the factors
  have key : ∃ s : Int, (s = 1 ∨ s = -1) ∧ a * d - b * c = s ∧ ((0 ≤ c ∧ d ≤ 0) ∨ (c ≤ 0 ∧ 0 ≤ d)) ∧ ((0 ≤ a - c ∧ b - d ≤ 0) ∨ (a - c ≤ 0 ∧ 0 ≤ b - d)) ∧ 1 ≤ s * -c ∧ 0 ≤ s * a ∧
      (∀ m : Int, (m = a ∨ m = -a ∨ m = b ∨ m = -b ∨ m = c ∨ m = -c ∨ m = d ∨ m = -d) → m < 2147483648) ∧ min (a - c) (b - d) + x - y ≥ 1 ∧ min c d + y ≥ 0 := by
    rcases h.sg with ⟨rfl, rfl, rfl, rfl, hh⟩ | ⟨s1, s2, s3, s4, s5, s6, s7, s8, s9⟩ | ⟨s1, s2, s3, s4, s5, s6, s7, s8, s9⟩
    · exact absurd rfl hb
    · obtain ⟨e1, e2⟩ := back_eq h.ex h.ey s7
      have n1 : 0 ≤ -b * y := Int.mul_nonneg (by omega) (by omega)
      have n2 : 0 ≤ a * y := Int.mul_nonneg (by omega) (by omega)
      rw [Int.neg_mul] at n1
      have k1 : d * d ≤ d * x := Int.mul_le_mul_of_nonneg_left (by omega) (by omega)
      have k2 : -c * -c ≤ -c * x := Int.mul_le_mul_of_nonneg_left (by omega) (by omega)
      rw [Int.neg_mul c x] at k2
      have d1 := sq_lt (m := d) (by omega) (by omega)
      have d2 := sq_lt (m := -c) (by omega) (by omega)
      refine ⟨1, .inl rfl, s7, .inr ⟨by omega, by omega⟩, .inl ⟨by omega, by omega⟩, by omega, by omega, fun m hm => ?_, by omega, by omega⟩
      rcases hm with rfl | rfl | rfl | rfl | rfl | rfl | rfl | rfl <;> omega
    · obtain ⟨e1, e2⟩ := back_eq h.ex h.ey s7
      have n1 : 0 ≤ b * y := Int.mul_nonneg (by omega) (by omega)
      have n2 : 0 ≤ -a * y := Int.mul_nonneg (by omega) (by omega)
      rw [Int.neg_mul] at n2
      have k1 : -d * -d ≤ -d * x := Int.mul_le_mul_of_nonneg_left (by omega) (by omega)
      have k2 : c * c ≤ c * x := Int.mul_le_mul_of_nonneg_left (by omega) (by omega)
      rw [Int.neg_mul d x] at k1
      have d1 := sq_lt (m := -d) (by omega) (by omega)
      have d2 := sq_lt (m := c) (by omega) (by omega)
      refine ⟨-1, .inr rfl, s7, .inl ⟨by omega, by omega⟩, .inr ⟨by omega, by omega⟩, by omega, by omega, fun m hm => ?_, by omega, by omega⟩
      rcases hm with rfl | rfl | rfl | rfl | rfl | rfl | rfl | rfl <;> omega
  obtain ⟨s, hs, hdet, hcd, hac, hc1, ha1, hbd, hx1, hy1⟩ := key
  have l1 := mix_lo hN hN' hM hM' hcd
  have l2 := mix_lo hN hN' hM hM' hac
  rw [h.ey] at l1
  rw [Int.sub_mul a c, Int.sub_mul b d, show a * X0 - c * X0 + (b * Y0 - d * Y0) = (a * X0 + b * Y0) - (c * X0 + d * Y0) by omega, h.ex, h.ey, Int.sub_mul a c, Int.sub_mul b d] at l2
  have l3 : 0 ≤ (y + min c d) * U := Int.mul_nonneg (by omega) (by omega)
  have l4 : 1 * U ≤ (x - y + min (a - c) (b - d)) * U := Int.mul_le_mul_of_nonneg_right (by omega) (by omega)
  obtain ⟨Y, hYe⟩ := Int.eq_ofNat_of_zero_le (show 0 ≤ c * (N : Int) + d * M by omega)
  obtain ⟨X, hXe⟩ := Int.eq_ofNat_of_zero_le (show 0 ≤ a * (N : Int) + b * M by omega)
  have hlt : Y < X := by omega
  obtain ⟨f1, f2⟩ := back_eq hXe hYe hdet
  have hle : X ≤ M := by
    have g1 : s * -c * X ≥ 1 * (X : Int) := Int.mul_le_mul_of_nonneg_right hc1 (by omega)
    have g2 : 0 ≤ s * a * (Y : Int) := Int.mul_nonneg ha1 (by omega)
    have g3 : s * (a * (Y : Int) - c * X) = M := by
      rw [f2, ← Int.mul_assoc]
      rcases hs with rfl | rfl <;> omega
    rw [Int.mul_sub, ← Int.mul_assoc, ← Int.mul_assoc] at g3
    rw [Int.mul_neg, Int.neg_mul] at g1
    omega
  refine ⟨X, Y, hXe, hYe, hlt, hle, gcd_same hXe hYe hdet hs, ?_, ?_, ?_, ?_⟩
  · have := hbd a (by simp); have := hbd (-a) (by simp); omega
  · have := hbd b (by simp); have := hbd (-b) (by simp); omega
  · have := hbd c (by simp); have := hbd (-c) (by simp); omega
  · have := hbd d (by simp); have := hbd (-d) (by simp); omega

/-- the leading limbs of a number -/
theorem top3_nv {f : Nat → Nat} {n s : Nat} (hf : ∀ j, j < n → f j < LB) (hn : n ≤ s) (hs : 3 ≤ s) : top3 f n s * LB ^ (s - 3) ≤ nv f n ∧ nv f n < (top3 f n s + 1) * LB ^ (s - 3) := by
  obtain ⟨t, rfl⟩ : ∃ t, s = t + 3 := ⟨s - 3, by omega⟩
  have h1 := nv_top3 (pl f n) t
  rw [nv_pl f n (t + 3) hn] at h1
  have h2 := nv_lt t (f := pl f n) (fun j _ => pl_lt hf j)
  unfold top3
  simp only [Nat.add_sub_cancel, show t + 3 - 1 = t + 2 by omega, show t + 3 - 2 = t + 1 by omega]
  rw [h1, Nat.add_mul _ 1, Nat.one_mul]
  omega

theorem top3_shift {f : Nat → Nat} {n s sh : Nat} (hf : ∀ j, j < n → f j < LB) (hn : n ≤ s) (hs : 3 ≤ s) :
    top3 f n s / 2 ^ sh * (2 ^ sh * LB ^ (s - 3)) ≤ nv f n ∧ nv f n < (top3 f n s / 2 ^ sh + 1) * (2 ^ sh * LB ^ (s - 3)) := by
  obtain ⟨h1, h2⟩ := top3_nv hf hn hs
  have hp : 0 < 2 ^ sh := Nat.pow_pos (by omega)
  generalize top3 f n s = T at *
  rw [← Nat.mul_assoc, ← Nat.mul_assoc]
  constructor
  · exact Nat.le_trans (Nat.mul_le_mul_right _ (Nat.div_mul_le_self _ _)) h1
  · refine Nat.lt_of_lt_of_le h2 (Nat.mul_le_mul_right _ ?_)
    have : T < (T / 2 ^ sh + 1) * 2 ^ sh := (Nat.div_lt_iff_lt_mul hp).1 (by omega)
    omega

theorem top3_mono {f g : Nat → Nat} {n m s : Nat} (hf : ∀ j, j < n → f j < LB) (hg : ∀ j, j < m → g j < LB) (hn : n ≤ s) (hm : m ≤ s) (hs : 3 ≤ s) (h : nv g m ≤ nv f n) : top3 g m s ≤ top3 f n s := by
  have h1 := (top3_nv hf hn hs).2
  have h2 := (top3_nv hg hm hs).1
  have h3 : top3 g m s * LB ^ (s - 3) < (top3 f n s + 1) * LB ^ (s - 3) := by omega
  have := Nat.lt_of_mul_lt_mul_right h3
  omega

end Go.Proofs.YtbjaolmlnkliiaaGreatDoor

/- The contract of combine. Conditions as premises: the two lists read, the sum of their multiples is a number that is not longer, the factors are below two to the 31st. -/
namespace Go.Proofs.YtbjaolmlnkliiaaGreatDoor
open Go.RowKit Go.Shelf
attribute [local go_sem] Oper.semAt_some

/-- the carry of a sum of multiples, and its limbs -/
def cb (p q : Int) (F G : Nat → Nat) : Nat → Int
  | 0 => 0
  | k + 1 => (cb p q F G k + (p * iv (F k) + q * iv (G k))) / 1000000000
def cl (p q : Int) (F G : Nat → Nat) (k : Nat) : Nat := ((cb p q F G k + (p * iv (F k) + q * iv (G k))) % 1000000000).toNat
theorem cl_lt (p q : Int) (F G : Nat → Nat) (k : Nat) : cl p q F G k < LB := by unfold cl; rw [LB_eq]; omega
theorem cl_iv (p q : Int) (F G : Nat → Nat) (k : Nat) : iv (cl p q F G k) = (cb p q F G k + (p * iv (F k) + q * iv (G k))) % 1000000000 := by unfold cl; rw [iv_eq]; omega
theorem cb_congr {p q : Int} {F G F' G' : Nat → Nat} : ∀ k, (∀ j, j < k → F j = F' j ∧ G j = G' j) → cb p q F G k = cb p q F' G' k
  | 0, _ => rfl
  | k + 1, h => by rw [cb, cb, cb_congr k (fun j hj => h j (by omega)), (h k (by omega)).1, (h k (by omega)).2]
theorem cl_congr {p q : Int} {F G F' G' : Nat → Nat} {k : Nat} (h : ∀ j, j < k → F j = F' j ∧ G j = G' j) (j : Nat) (hj : j < k) : cl p q F G j = cl p q F' G' j := by
  unfold cl; rw [cb_congr j (fun i hi => h i (by omega)), (h j hj).1, (h j hj).2]

theorem cb_eq (p q : Int) (F G : Nat → Nat) : ∀ k, (nv (cl p q F G) k : Int) + cb p q F G k * ((LB ^ k : Nat) : Int) = p * (nv F k : Nat) + q * (nv G k : Nat)
  | 0 => by simp [nv, cb]
  | k + 1 => by
    have h := cb_eq p q F G k
    have e1 : (nv (cl p q F G) (k + 1) : Int) = nv (cl p q F G) k + iv (cl p q F G k) * ((LB ^ k : Nat) : Int) := by rw [nv, iv_eq, Int.natCast_add, Int.natCast_mul]
    have e2 : (nv F (k + 1) : Int) = nv F k + iv (F k) * ((LB ^ k : Nat) : Int) := by rw [nv, iv_eq, Int.natCast_add, Int.natCast_mul]
    have e3 : (nv G (k + 1) : Int) = nv G k + iv (G k) * ((LB ^ k : Nat) : Int) := by rw [nv, iv_eq, Int.natCast_add, Int.natCast_mul]
    have e4 : ((LB ^ (k + 1) : Nat) : Int) = 1000000000 * ((LB ^ k : Nat) : Int) := by rw [Nat.pow_succ, Nat.mul_comm, Int.natCast_mul, LB_eq]; rfl
    rw [e1, e2, e3, e4, cl_iv, cb]
    have hdm := Int.mul_ediv_add_emod (cb p q F G k + (p * iv (F k) + q * iv (G k))) 1000000000
    generalize hz : cb p q F G k + (p * iv (F k) + q * iv (G k)) = z at *
    generalize ((LB ^ k : Nat) : Int) = U at *
    have h2 := congrArg (· * U) hdm
    have h3 := congrArg (· * U) hz
    simp only [Int.add_mul] at h2 h3
    rw [Int.mul_add, Int.mul_add, ← Int.mul_assoc p, ← Int.mul_assoc q, ← Int.mul_assoc (z / 1000000000), Int.mul_comm (z / 1000000000)]
    omega

theorem prod_le {p x : Int} (hp : -2147483648 < p ∧ p < 2147483648) (h0 : 0 ≤ x) (h1 : x < 1000000000) : -2147483645852516353 ≤ p * x ∧ p * x ≤ 2147483645852516353 := by
  have a1 : p * x ≤ 2147483647 * x := Int.mul_le_mul_of_nonneg_right (by omega) h0
  have a2 : -2147483647 * x ≤ p * x := Int.mul_le_mul_of_nonneg_right (by omega) h0
  omega

theorem cb_le {p q : Int} {F G : Nat → Nat} (hp : -2147483648 < p ∧ p < 2147483648) (hq : -2147483648 < q ∧ q < 2147483648) : ∀ k, (∀ j, j < k → F j < LB ∧ G j < LB) → -4294967297 ≤ cb p q F G k ∧ cb p q F G k ≤ 4294967297
  | 0, _ => by simp [cb]
  | k + 1, h => by
    have ih := cb_le hp hq k (fun j hj => h j (by omega))
    have h1 := prod_le hp (iv_nonneg (F k)) (iv_limb (h k (by omega)).1)
    have h2 := prod_le hq (iv_nonneg (G k)) (iv_limb (h k (by omega)).2)
    rw [cb]; omega

/-- the limb and the carry, as the code finds them -/
theorem comb_limb (z : Int) : (z.tmod 1000000000 < 0 ∧ z.tmod 1000000000 + 1000000000 = z % 1000000000 ∧ z.tdiv 1000000000 - 1 = z / 1000000000) ∨
    (¬ z.tmod 1000000000 < 0 ∧ z.tmod 1000000000 = z % 1000000000 ∧ z.tdiv 1000000000 = z / 1000000000) := by
  rcases Int.lt_trichotomy z 0 with h | h | h
  · have e1 : z.tmod 1000000000 = -((-z) % 1000000000) := by
      rw [← Int.tmod_eq_emod_of_nonneg (show 0 ≤ -z by omega), Int.neg_tmod, Int.neg_neg]
    have e2 : z.tdiv 1000000000 = -((-z) / 1000000000) := by
      rw [← Int.tdiv_eq_ediv_of_nonneg (show 0 ≤ -z by omega), Int.neg_tdiv, Int.neg_neg]
    rw [e1, e2]; omega
  · subst h; right; decide
  · right
    rw [Int.tmod_eq_emod_of_nonneg (by omega), Int.tdiv_eq_ediv_of_nonneg (by omega)]; omega

theorem comb_next (p q : Int) (pre : List Limb2) (x : Limb2) {c : Int} (hc : cb p q (fa pre) (fb pre) pre.length = c) :
    us (cl p q (fa (pre ++ [x])) (fb (pre ++ [x]))) (pre.length + 1) = us (cl p q (fa pre) (fb pre)) pre.length ++ [.int .u32 ((c + (p * iv x.1.1 + q * iv x.1.2)) % 1000000000)] ∧
    cb p q (fa (pre ++ [x])) (fb (pre ++ [x])) (pre.length + 1) = (c + (p * iv x.1.1 + q * iv x.1.2)) / 1000000000 := by
  have h := fun j (hj : j < pre.length) => fab_old pre x j hj
  have hn := fab_new pre x
  have e : cb p q (fa (pre ++ [x])) (fb (pre ++ [x])) pre.length = c := by rw [← hc]; exact (cb_congr _ h).symm
  refine ⟨?_, ?_⟩
  · rw [us_succ, cl_iv, e, hn.1, hn.2]
    congr 1
    exact us_congr fun j hj => (cl_congr h j hj).symm
  · rw [cb, e, hn.1, hn.2]

theorem comb_upto (p q : Int) (f g : Nat → Nat) (n m X : Nat) (hf : ∀ j, j < n → f j < LB) (hg : ∀ j, j < m → g j < LB) (hX : p * (nv f n : Nat) + q * (nv g m : Nat) = X) (hlt : X < LB ^ (max n m)) :
    nv (cl p q (fa (upto (prs f g n m hf hg) (max n m))) (fb (upto (prs f g n m hf hg) (max n m)))) (max n m) = X := by
  have h := cb_eq p q (fa (upto (prs f g n m hf hg) (max n m))) (fb (upto (prs f g n m hf hg) (max n m))) (max n m)
  have hl := nv_lt (f := cl p q (fa (upto (prs f g n m hf hg) (max n m))) (fb (upto (prs f g n m hf hg) (max n m)))) (max n m) (fun j _ => cl_lt _ _ _ _ j)
  rw [nv_congr (f := fa _) (g := pl f n) _ fun j hj => (fab_upto hj).1, nv_congr (f := fb _) (g := pl g m) _ fun j hj => (fab_upto hj).2, nv_pl f n _ (by omega), nv_pl g m _ (by omega), hX] at h
  generalize cb p q (fa (upto (prs f g n m hf hg) (max n m))) (fb (upto (prs f g n m hf hg) (max n m))) (max n m) = b at *
  generalize nv (cl p q (fa (upto (prs f g n m hf hg) (max n m))) (fb (upto (prs f g n m hf hg) (max n m)))) (max n m) = V at *
  generalize LB ^ (max n m) = U at *
  rcases Int.lt_trichotomy b 0 with h0 | h0 | h0
  · exfalso
    have : b * (U : Int) ≤ -1 * (U : Int) := Int.mul_le_mul_of_nonneg_right (by omega) (by omega)
    omega
  · subst h0; omega
  · exfalso
    have : 1 * (U : Int) ≤ b * (U : Int) := Int.mul_le_mul_of_nonneg_right (by omega) (by omega)
    omega

/-- What a round has left so far: the box of the list, the box of the carry, the row of the list. -/
structure RT (s bo bc : Nat) (W W2 : World) (v u : Value) (k : Nat) (xs : List Value) : Prop where
  out : Boxed W2 bo 23 v
  car : Boxed W2 bc 2 u
  row : W2.ownsRow s 40 1 v k xs
  ne : v.ownBlock ≠ some bc
  ko : KeepsOthers W W2
  be : Below s W W2
  bx : ∀ B x, B ≠ bo → B ≠ bc → Boxed W B 23 x → Boxed W2 B 23 x
  sz : s ≤ W2.heap.size

theorem RT.start {s bo bc : Nat} {W : World} {v u : Value} {k : Nat} {xs : List Value} (h1 : Boxed W bo 23 v) (h2 : Boxed W bc 2 u) (h3 : W.ownsRow s 40 1 v k xs) (h4 : v.ownBlock ≠ some bc) (h5 : s ≤ W.heap.size) : RT s bo bc W W v u k xs :=
  ⟨h1, h2, h3, h4, KeepsOthers.refl _, Below.refl _ _, fun _ _ _ _ h => h, h5⟩

theorem RT.carry {s bo bc : Nat} {W W2 : World} {v u : Value} {k : Nat} {xs : List Value} (h : RT s bo bc W W2 v u k xs) (hob : bo ≠ bc) (hs : s ≤ bc) (u' : Value) : RT s bo bc W (W2.setCell ⟨bc, 0, none⟩ u') v u' k xs :=
  ⟨h.out.other hob _, h.car.set u', h.row.kept (grownBy_setCell' W2 bc u') (.inr h.ne), h.ne, h.ko.trans (KeepsOthers.setCell _ _ _), h.be.setCell (p := ⟨bc, 0, none⟩) hs _,
    fun B x h1 h2 h3 => (h.bx B x h1 h2 h3).other h2 _, by simpa [World.setCell] using h.sz⟩

theorem RT.append {s bo bc : Nat} {W W2 w1 : World} {v u v' : Value} {k m : Nat} {xs ys : List Value} {tmp : Obj} (h : RT s bo bc W W2 v u k xs) (hob : bo ≠ bc) (hs : s ≤ bo)
    (hown' : w1.ownsRow s 40 1 v' m ys) (hgrow : (W2.alloc tmp).grownBy w1 v.ownBlock) (hat : v'.ownBlock = v.ownBlock ∨ v'.ownBlock = some (W2.alloc tmp).heap.size) :
    Boxed w1 bo 23 v ∧ RT s bo bc W (w1.setCell ⟨bo, 0, none⟩ v') v' u m ys := by
  obtain ⟨q1, q2, q3, q4, q5⟩ := h.out.appended (by decide) h.row h.sz hs hown' hgrow
  refine ⟨q1, q2, ?_, q3, ?_, h.ko.trans q4, h.be.trans q5, fun B x h1 h2 h3 => ?_, Nat.le_trans h.sz q5.size⟩
  · exact ((h.car.alloc tmp).kept hgrow (fun e => h.ne e.symm)).other (fun e => hob e.symm) _
  · rcases hat with e | e
    · rw [e]; exact h.ne
    · rw [e]
      intro e2
      have := h.car.lt
      simp at e2
      omega
  · have hb := h.bx B x h1 h2 h3
    exact ((hb.alloc tmp).kept hgrow (hb.not_row (by decide) h.row)).other h1 _

theorem below_boxed {s B : Nat} {W W' : World} {t : TypeId} {v : Value} (h : Boxed W B t v) (hb : Below s W W') (hs : B < s) : Boxed W' B t v := by
  have := hb.block B hs
  unfold Boxed at *; rw [this]; exact h

set_option maxRecDepth 100000 in
set_option maxHeartbeats 4000000 in
theorem comb_in (A1 A2 : Option Addr) (len1 cap1 len2 cap2 : Nat) (f g : Nat → Nat) (p q : Int) (X : Nat) (w : World) (hr1 : Rs w w.heap.size A1 len1 cap1 f) (hr2 : Rs w w.heap.size A2 len2 cap2 g)
    (hf : ∀ j, j < len1 → f j < LB) (hg : ∀ j, j < len2 → g j < LB) (hl1 : len1 ≤ 4096) (hl2 : len2 ≤ 4096) (hp : -2147483648 < p ∧ p < 2147483648) (hq : -2147483648 < q ∧ q < 2147483648)
    (hX : p * (nv f len1 : Nat) + q * (nv g len2 : Nat) = X) (hlt : X < LB ^ (max len1 len2)) :
    CallsIn Fence.wide 3 Tryz.prog 235 #[.slice A1 len1 cap1, .slice A2 len2 cap2, .int .i64 p, .int .i64 q] w fun e W' => ∃ v, e = .returned v ∧ Made w X v W' := by
  obtain ⟨N, hN⟩ : ∃ N, N = max len1 len2 := ⟨_, rfl⟩
  have hmk : ∀ w : World, (Instr.makeSlice 23 (.int .i64 0) (.int .i64 (max (len1 : Int) (len2 : Int)))).run Tryz.prog w = .ok (.slice (some ⟨w.heap.size, 0, none⟩) 0 N) (w.alloc (.cells (madeCells #[.int .u32 0] N) 40)) := fun w => by
    obtain ⟨i0, hi, hz0, hz1, hz2⟩ := info_parts info32
    have h := run_make (P := Tryz.prog) w 23 40 i0 (.int .u32 0) Tryz.underlying23 hi hz0 .i64 .i64 0 (max (len1 : Int) (len2 : Int)) (by omega) (by omega) (by rw [hz2]; omega) (by omega)
    rw [hz1, show (max (len1 : Int) (len2 : Int)).toNat = N by omega, Nat.mul_one] at h
    exact h
  obtain ⟨V, hV⟩ : ∃ V, (w.alloc (.cells #[.int .i64 p] 2)).alloc (.cells #[.int .i64 q] 2) = V := ⟨_, rfl⟩
  have hVs : V.heap.size = w.heap.size + 1 + 1 := by rw [← hV]; simp
  have hVb : Below w.heap.size w V := by rw [← hV]; exact ((Below.refl _ w).alloc (Nat.le_refl _) _).alloc (by simp) _
  have bP : Boxed V w.heap.size 2 (.int .i64 p) := by rw [← hV]; exact (Boxed.new w 2 (.int .i64 p)).alloc _
  have bQ : Boxed V (w.heap.size + 1) 2 (.int .i64 q) := by
    rw [← hV]
    have h := Boxed.new (w.alloc (.cells #[.int .i64 p] 2)) 2 (.int .i64 q)
    rw [World.size_alloc] at h
    exact h
  have HV := Lib.hid hV
  have h1n : (1 : Nat) ≤ 3 := by omega
  have hNl : N ≤ 4096 := by omega
  obtain ⟨W0, hW0⟩ : ∃ W0, ((V.alloc (.cells (madeCells #[.int .u32 0] N) 40)).alloc (.cells #[.slice (some ⟨V.heap.size, 0, none⟩) 0 N] 23)).alloc (.cells #[.int .i64 0] 2) = W0 := ⟨_, rfl⟩
  have hs0 : V.heap.size + 3 ≤ W0.heap.size := by rw [← hW0]; simp
  have hB0 : Below V.heap.size V W0 := by rw [← hW0]; exact (((Below.refl _ V).alloc (Nat.le_refl _) _).alloc (by simp) _).alloc (by simp; omega) _
  have bO : Boxed W0 (V.heap.size + 1) 23 (.slice (some ⟨V.heap.size, 0, none⟩) 0 N) := by
    rw [← hW0]
    have h := (Boxed.new (V.alloc (.cells (madeCells #[.int .u32 0] N) 40)) 23 (.slice (some ⟨V.heap.size, 0, none⟩) 0 N)).alloc (.cells #[.int .i64 0] 2)
    rw [World.size_alloc V] at h
    exact h
  have bC : Boxed W0 (V.heap.size + 1 + 1) 2 (.int .i64 0) := by
    rw [← hW0]
    have h := Boxed.new ((V.alloc (.cells (madeCells #[.int .u32 0] N) 40)).alloc (.cells #[.slice (some ⟨V.heap.size, 0, none⟩) 0 N] 23)) 2 (.int .i64 0)
    rw [World.size_alloc, World.size_alloc] at h
    exact h
  have hrow0 : W0.ownsRow V.heap.size 40 1 (.slice (some ⟨V.heap.size, 0, none⟩) 0 N) 0 [] := by
    rw [← hW0]
    exact ((World.ownsRow_made (base := V.heap.size) (e := 40) (size := 1) V (madeCells #[.int .u32 0] N) N (Nat.le_refl _) (by unfold maxLen; omega) (by rw [size_madeCells, Nat.mul_one])).alloc _).alloc _
  have HW0 := Lib.hid hW0
  have HN := Lib.hid hN
  have HVS := Lib.hid hVs
  have HX := Lib.hid hX
  have HLT := Lib.hid hlt
  have hr1 := (hr1.below hVb).more hVb.size
  have hr2 := (hr2.below hVb).more hVb.size
  clear hN hW0 hVs hX hlt
  refine callsIn_of_wp_marks Tryz.func235 rfl trivial ?_ rfl
  simp only [Tryz.ntmps235, List.size_toArray, List.length_cons, List.length_nil, Nat.reduceAdd, Nat.reduceSub, Array.replicate_succ, Array.replicate_zero, List.push_toArray, List.append_toArray, List.nil_append, List.cons_append]
  gi_wp2
  rw [HW0.out]
  refine ⟨trivial, ?_⟩
  clear hmk hV
  refine (callsIn_wide.2 (pairs_make _ _ _ _ _ _ _)).mono ?_
  rintro e w' ⟨rfl, rfl⟩
  gi_wp2
  have bA := (Boxed.new W0 23 (.slice A1 len1 cap1)).alloc (.cells #[.slice A2 len2 cap2] 23)
  have bB := Boxed.new (W0.alloc (.cells #[.slice A1 len1 cap1] 23)) 23 (.slice A2 len2 cap2)
  rw [World.size_alloc] at bB
  have hB1 : Below V.heap.size V ((W0.alloc (.cells #[.slice A1 len1 cap1] 23)).alloc (.cells #[.slice A2 len2 cap2] 23)) := (hB0.alloc (by omega) _).alloc (by simp; omega) _
  have hVw : w.heap.size + 1 < V.heap.size := by have := HVS.out; omega
  refine wpIn_rangeFunc_ownG rfl h1n (gf := 241) (lb := #[.pointer (some ⟨W0.heap.size, 0, none⟩), .pointer (some ⟨W0.heap.size + 1, 0, none⟩)]) rfl trivial (enters_of Tryz.func241 (by kernel_rfl) rfl)
    (pairs_stops (3 - 1) (by omega) W0.heap.size (W0.heap.size + 1) V.heap.size len1 cap1 len2 cap2 A1 A2 f g hf hg hl1 hl2 _ bA bB (by simp; omega) (hr1.below hB1) (hr2.below hB1)) kpB_t (kpB_b (by simp; omega)) (Below.refl _ _) (fun _ => rfl)
    (fun pre W => ((∃ v, Boxed W (V.heap.size + 1) 23 v ∧ W.ownsRow V.heap.size 40 1 v pre.length (us (cl p q (fa pre) (fb pre)) pre.length) ∧ v.ownBlock ≠ some (V.heap.size + 1 + 1)) ∧ Boxed W (V.heap.size + 1 + 1) 2 (.int .i64 (cb p q (fa pre) (fb pre) pre.length))) ∧ Below V.heap.size V W)
    (fun _ _ _ => False)
    (OwnFrom.and (OwnFrom.and (Own.from (holdsRow_own V.heap.size (V.heap.size + 1) 23 40 1 (fun pre : List Limb2 => pre.length) (fun pre => us (cl p q (fa pre) (fb pre)) pre.length) (fun _ v => v.ownBlock ≠ some (V.heap.size + 1 + 1))) _) (Own.from (boxed_own (V.heap.size + 1 + 1) 2 (fun pre : List Limb2 => .int .i64 (cb p q (fa pre) (fb pre) pre.length))) _)) (ownFrom_below (Nat.le_refl _) (by simp; omega)))
    (fun _ _ _ _ _ hs _ _ => hs)
    ⟨⟨⟨_, (bO.alloc _).alloc _, (hrow0.alloc _).alloc _, by simp [Value.ownBlock]; omega⟩, by simp only [cb, List.length_nil]; exact (bC.alloc _).alloc _⟩, hB1⟩
    (fun x => { tmps := #[.slice A1 len1 cap1, .slice A2 len2 cap2, .int .i64 p, .int .i64 q, undef, undef, .pointer (some ⟨w.heap.size, 0, none⟩), .pointer (some ⟨w.heap.size + 1, 0, none⟩), .slice none 0 0, .pointer (some ⟨V.heap.size + 1, 0, none⟩), .pointer (some ⟨V.heap.size + 1 + 1, 0, none⟩), .int .u32 (iv x.1.1), .int .u32 (iv x.1.2), undef, .slice A1 len1 cap1, .int .i64 len1, .slice A2 len2 cap2, .int .i64 len2, .int .i64 (max (len1 : Int) (len2 : Int)), .slice (some ⟨V.heap.size, 0, none⟩) 0 N, .slice A1 len1 cap1, .slice A2 len2 cap2, .func (.func 241) #[] #[.pointer (some ⟨W0.heap.size, 0, none⟩), .pointer (some ⟨W0.heap.size + 1, 0, none⟩)], .int .u32 (iv x.1.1), .int .u32 (iv x.1.2), undef, undef, undef, undef, undef, undef, undef, undef, undef, undef, undef, undef, undef, undef, undef, undef, undef, undef, undef, undef, undef, undef, undef, undef, undef, undef, undef, undef], defers := [] }) ?assign ?body ?done ?stop
  case assign =>
    intro l x W K hK
    gi_wp2
    exact hK
  case body =>
    rintro l pre x W ⟨⟨⟨v, hv, hrow, hne⟩, hcar⟩, hB⟩ hlt
    have hl' : pre.length < N := by rw [HN.out]; exact hlt
    have hcb := cb_le (F := fa pre) (G := fb pre) hp hq pre.length (fun j _ => fab_lt pre j)
    have hnx := fun c hgc => comb_next p q pre x (c := c) hgc
    generalize hgc : cb p q (fa pre) (fb pre) pre.length = c at *
    have HNX := Lib.hid (hnx c rfl)
    have hx1 := iv_limb x.2.1
    have hx0 := iv_nonneg x.1.1
    have hy1 := iv_limb x.2.2
    have hy0 := iv_nonneg x.1.2
    have hpx := prod_le hp hx0 hx1
    have hqy := prod_le hq hy0 hy1
    clear hnx hgc
    have hP := (below_boxed bP hB (by omega)).cell
    have hQ := (below_boxed bQ hB (by omega)).cell
    have hrs := RT.start hv hcar hrow hne (by have := hB.size; omega)
    have hc1 := hv.cell
    have hcc := hcar.cell
    have hcf := hcar.frozen
    clear hlt hcar hv hrow
    generalize iv x.1.1 = X1 at *
    generalize iv x.1.2 = Y1 at *
    have hl := comb_limb (c + (p * X1 + q * Y1))
    have hzl : -4294967296000000003 ≤ c + (p * X1 + q * Y1) ∧ c + (p * X1 + q * Y1) ≤ 4294967296000000003 := by omega
    have hdv : -4294967299 ≤ (c + (p * X1 + q * Y1)).tdiv 1000000000 ∧ (c + (p * X1 + q * Y1)).tdiv 1000000000 ≤ 4294967299 := by
      rcases hl with h | h <;> omega
    obtain ⟨M, hM⟩ : ∃ M, (c + (p * X1 + q * Y1)).tmod 1000000000 = M := ⟨_, rfl⟩
    obtain ⟨D, hD⟩ : ∃ D, (c + (p * X1 + q * Y1)).tdiv 1000000000 = D := ⟨_, rfl⟩
    rw [hM, hD] at hl
    rw [hD] at hdv
    have hrs1 := hrs.carry (by omega) (by omega) (.int .i64 (c + (p * X1 + q * Y1)))
    have hrs2 := hrs1.carry (by omega) (by omega) (.int .i64 D)
    have hrs3 := hrs2.carry (by omega) (by omega) (.int .i64 (D - 1))
    have hcc1 := hrs1.car.cell
    have hcf1 := hrs1.car.frozen
    have hcc2 := hrs2.car.cell
    have hcf2 := hrs2.car.frozen
    have hco2 := hrs2.out.cell
    have hco3 := hrs3.out.cell
    rcases hl with ⟨hneg, e1, e2⟩ | ⟨hneg, e1, e2⟩
    · have HN := Lib.hid HNX.out
      have hm0 : 0 ≤ M + 1000000000 ∧ M + 1000000000 < 1000000000 := by omega
      rw [← e1, ← e2] at HN
      clear HNX e1 e2
      gi_wp2_with (gi_at_builtin; refine append_u32 rfl (.tmp 46) (.tmp 49) rfl V.heap.size _ _ _ rfl (hrs3.row.alloc _) W.heap.size (M + 1000000000) rfl (cell_new1 _ _ (by simp [World.setCell]) _ _) (by omega) (by have := hrs3.sz; simp only [World.size_alloc]; omega) ?_; intro v' w1 hown' hgrow hat; obtain ⟨gg, cp, rfl⟩ := ownsRow_succ hown'; obtain ⟨hb1, hr3⟩ := hrs3.append (by omega) (by omega) hown' hgrow hat; have hb1c := hb1.cell; have hb1f := hb1.frozen; clear hgrow hat hown')
      gi_wp2
      refine ⟨hr3.ko.from _, ⟨hr3.be, fun y => hr3.bx _ y (by omega) (by omega), fun y => hr3.bx _ y (by omega) (by omega)⟩, ⟨⟨_, hr3.out, ?_, hr3.ne⟩, ?_⟩, hB.trans hr3.be⟩
      · rw [show (pre ++ [x]).length = pre.length + 1 by simp, HN.out.1]; exact hr3.row
      · rw [show (pre ++ [x]).length = pre.length + 1 by simp, HN.out.2]; exact hr3.car
    · have HN := Lib.hid HNX.out
      have hm0 : 0 ≤ M ∧ M < 1000000000 := by omega
      rw [← e1, ← e2] at HN
      clear HNX e1 e2
      gi_wp2_with (gi_at_builtin; refine append_u32 rfl (.tmp 46) (.tmp 49) rfl V.heap.size _ _ _ rfl (hrs2.row.alloc _) W.heap.size M rfl (cell_new1 _ _ (by simp [World.setCell]) _ _) (by omega) (by have := hrs2.sz; simp only [World.size_alloc]; omega) ?_; intro v' w1 hown' hgrow hat; obtain ⟨gg, cp, rfl⟩ := ownsRow_succ hown'; obtain ⟨hb1, hr3⟩ := hrs2.append (by omega) (by omega) hown' hgrow hat; have hb1c := hb1.cell; have hb1f := hb1.frozen; clear hgrow hat hown')
      gi_wp2
      refine ⟨hr3.ko.from _, ⟨hr3.be, fun y => hr3.bx _ y (by omega) (by omega), fun y => hr3.bx _ y (by omega) (by omega)⟩, ⟨⟨_, hr3.out, ?_, hr3.ne⟩, ?_⟩, hB.trans hr3.be⟩
      · rw [show (pre ++ [x]).length = pre.length + 1 by simp, HN.out.1]; exact hr3.row
      · rw [show (pre ++ [x]).length = pre.length + 1 by simp, HN.out.2]; exact hr3.car
  case done =>
    rintro D ys W hD rfl ⟨⟨⟨v, hv, hrow, hne⟩, hcar⟩, hB⟩ hK
    have hnum := comb_upto p q f g len1 len2 X hf hg HX.out HLT.out
    have hsl : ∀ j, cl p q (fa (upto (prs f g len1 len2 hf hg) (max len1 len2))) (fb (upto (prs f g len1 len2 hf hg) (max len1 len2))) j < LB := fun j => cl_lt _ _ _ _ j
    rw [upto_length] at hrow hcar
    rw [← HN.out] at hrow hcar hnum hsl
    generalize cl p q (fa (upto (prs f g len1 len2 hf hg) N)) (fb (upto (prs f g len1 len2 hf hg) N)) = S at *
    have HNUM := Lib.hid hnum
    have HSL := Lib.hid hsl
    obtain ⟨A9, c9, rfl, hr9⟩ := Go.Proofs.YtbjaolmlnkliiaaGreatDoor.Own.rs (f := S) hrow (fun j _ => by have := hsl j; rw [LB_eq] at this; omega)
    clear hnum hsl hrow
    have hc := hv.cell
    have hsz := hB.size
    gi_wp2
    refine ⟨trivial, ?_⟩
    refine (callsIn_wide.2 (trim_any _ _ _ _ _ _ hr9)).mono ?_
    rintro e w' ⟨⟨v, rfl, ht⟩, rfl⟩
    have hm := ht.made (N := X) (fun j _ => HSL.out j) HNUM.out hB
    have HM := Lib.hid ((hm.putObj hK rfl (by simp at hD; omega) (.deferred none)).after hVb)
    clear ht hr9 hm
    gi_wp2
    refine ⟨by simp, .inl ⟨_, _, rfl, run_takeDeferred hK, ?_⟩⟩
    exact ⟨_, results_tmp rfl _ _ _, v, rfl, HM.out⟩
  case stop =>
    rintro D c pre W _ _ h _
    exact h.elim

end Go.Proofs.YtbjaolmlnkliiaaGreatDoor

/- The contracts of scaled, subtract and restore. Conditions as premises. -/
namespace Go.Proofs.YtbjaolmlnkliiaaGreatDoor
open Go.RowKit Go.Shelf

theorem iv_muladd2 {c a b : Nat} : (iv c + iv a * iv b) / 1000000000 = iv ((c + a * b) / LB) ∧ (iv c + iv a * iv b) % 1000000000 = iv ((c + a * b) % LB) := by
  have e := LB_eq
  simp only [iv_eq]
  rw [e, ← Int.natCast_mul]; omega

set_option maxRecDepth 100000 in
set_option maxHeartbeats 4000000 in
theorem scaled_any (A : Option Addr) (n c d s : Nat) (f : Nat → Nat) (w : World) (hA : Rs w w.heap.size A n c f) (hf : ∀ j, j < n → f j < LB) (hd : d < LB) (hs : s ≤ 3000) :
    Calls Tryz.prog 252 #[.slice A n c, .int .u32 (iv d), .int .i64 s] w fun e w' => e = .returned (.slice (some ⟨w.heap.size, 0, none⟩) s s) ∧ Below w.heap.size w w' ∧
      ∃ q C, Row w' w.heap.size s q ∧ (∀ j, q j < LB) ∧ nv q s + C * LB ^ s = nv (pl f n) s * d := by
  have hmk := run_make_row' (P := Tryz.prog) 23 40 (.int .u32 0) 4 Tryz.underlying23 info32 rfl .i64 .i64 s (by omega) (by omega)
  have hrow := Row.made w s
  have hbel : Below w.heap.size w (w.alloc (.cells (madeCells #[.int .u32 0] s) 40)) := (Below.refl _ _).alloc (Nat.le_refl _) _
  have HF := Lib.hid hf
  have HD := Lib.hid hd
  have hd0 := iv_nonneg d
  have hd1 := iv_limb hd
  clear hf hd
  obtain ⟨DD, hDD⟩ : ∃ DD, iv d = DD := ⟨_, rfl⟩
  rw [hDD] at hd0 hd1 ⊢
  have HDD := Lib.hid hDD
  clear hDD
  go_enter Tryz.func252, Tryz.ntmps252
  go_wp2
  clear hmk
  generalize hgw : w.alloc (.cells (madeCells #[.int .u32 0] s) 40) = w0 at *
  clear hgw
  go_loopw [8, 9, 14] (fun u _ i wr => ∃ k C : Nat, k ≤ s ∧ i = .int .i64 k ∧ u = .int .u64 (iv C) ∧ ∃ q, Row wr w.heap.size s q ∧ Hid (nv q k + C * LB ^ k = nv (pl f n) k * d ∧ C < LB ∧ ∀ j, q j < LB) ∧ Below w.heap.size w wr) (fun _ _ i _ => s - (intOf i).toNat)
  case atStart => exact ⟨0, 0, Nat.zero_le _, rfl, by rw [iv_zero], _, hrow, ⟨by simp [nv], LB_pos, fun _ => LB_pos⟩, hbel⟩
  case round =>
    obtain ⟨k, C, hk, rfl, rfl, q, hrq, hq, hb⟩ := hrel
    by_cases hlt : k < s
    · obtain ⟨he, hC, hql⟩ := hq.out
      have hC1 := iv_limb hC
      have hC0 := iv_nonneg C
      have hcp := hrq.cell hlt
      have hfz := hrq.frozen k
      have hstep := col_step (S := pl f n k * d) he
      rw [show nv (pl f n) k * d + pl f n k * d * LB ^ k = nv (pl f n) (k + 1) * d by rw [nv, Nat.add_mul]; congr 1; exact Nat.mul_right_comm _ _ _] at hstep
      have hcar := (times_lt (pl_lt HF.out k) HD.out hC LB_pos).1
      rw [Nat.add_zero] at hcar
      have hprod := (times_lt (pl_lt HF.out k) HD.out hC LB_pos).2
      have hnew := hrq.set k ((C + pl f n k * d) % LB)
      have HN : Hid (nv (fun j => if j = k then (C + pl f n k * d) % LB else q j) (k + 1) + (C + pl f n k * d) / LB * LB ^ (k + 1) = nv (pl f n) (k + 1) * d ∧ (C + pl f n k * d) / LB < LB ∧ ∀ j, (if j = k then (C + pl f n k * d) % LB else q j) < LB) := ⟨hstep, hcar, fun j => by split; exact Nat.mod_lt _ LB_pos; exact hql j⟩
      clear hstep he hql hq
      by_cases hn : k < n
      · rw [pl_in hn] at hnew HN hcar hprod
        obtain ⟨b1, off1, rfl, hb1, hcc1⟩ := (hA.below hb).cell (by omega)
        have hck1 := hcc1 k hn
        have hx0 := iv_nonneg (f k)
        have hx1 := iv_limb (HF.out k hn)
        obtain ⟨ed, em⟩ := @iv_muladd2 C (f k) d
        have hp0 : 0 ≤ iv (f k) * iv d := Int.mul_nonneg hx0 (iv_nonneg d)
        have hp1 : iv (f k) * iv d ≤ 999999998000000001 := by
          have h4 := iv_le hprod
          rw [iv_eq, Int.natCast_mul, ← iv_eq, ← iv_eq] at h4
          exact h4
        have hdl := iv_limb hcar
        have hml := iv_limb (Nat.mod_lt (C + f k * d) LB_pos)
        rw [← ed] at hdl
        rw [← em] at hnew hml
        have HED := Lib.hid ed
        have HNEW := Lib.hid hnew
        rw [HDD.out] at hp0 hp1 hdl hml HED HNEW
        clear hcc1 ed em hnew hprod hcar
        generalize iv (f k) = X at *
        generalize hgc : iv C = CC at *
        clear hgc
        go_wp2
        go_roundw
        case rel => exact ⟨k + 1, _, by omega, by go_num, by rw [HED.out], _, HNEW.out, HN.out, hb.setCell (p := ⟨w.heap.size, k, none⟩) (Nat.le_refl _) _⟩
        case measure => simp [intOf]; omega
      · rw [pl_out (by omega), Nat.zero_mul, Nat.add_zero] at hnew HN
        have ed : iv C / 1000000000 = iv (C / LB) := by simp only [iv_eq]; rw [LB_eq]; omega
        have em : iv C % 1000000000 = iv (C % LB) := by simp only [iv_eq]; rw [LB_eq]; omega
        rw [← em] at hnew
        have HED := Lib.hid ed
        have HNEW := Lib.hid hnew
        clear ed em hnew hprod hcar
        generalize hgc : iv C = CC at *
        clear hgc
        go_wp2
        go_roundw
        case rel => exact ⟨k + 1, _, by omega, by go_num, by rw [← HED.out], _, HNEW.out, HN.out, hb.setCell (p := ⟨w.heap.size, k, none⟩) (Nat.le_refl _) _⟩
        case measure => simp [intOf]; omega
    · obtain rfl : k = s := by omega
      go_wp2
      go_ret
      exact ⟨rfl, hb, q, C, hrq, hq.out.2.2, hq.out.1⟩

end Go.Proofs.YtbjaolmlnkliiaaGreatDoor

/- The contracts of subtract and restore, which work in place on a window of a row. Conditions as premises. -/
namespace Go.Proofs.YtbjaolmlnkliiaaGreatDoor
open Go.RowKit Go.Shelf

theorem Row.grown {w w' : World} {b n B : Nat} {f : Nat → Nat} (h : Row w b n f) (hg : w.grownBy w' (some B)) (hne : b ≠ B) : Row w' b n f :=
  h.keep (hg.block _ h.lt (by intro e; injection e with e; exact hne e))

theorem Row.cg {w : World} {b n : Nat} {f g : Nat → Nat} (h : Row w b n f) (e : ∀ j, f j = g j) : Row w b n g := World.rowIs.congr h fun j _ => by rw [e j]

/-- the limb and the borrow of a round -/
theorem sub_limb {a m : Nat} (ha : a < LB) (hm : m < LB) :
    (iv a < iv m ∧ iv (a + LB) = iv a + 1000000000 ∧ iv (a + LB - m) = iv a + 1000000000 - iv m ∧ a + LB - m < LB ∧ a + LB - m + m = a + 1 * LB) ∨
    (¬ iv a < iv m ∧ iv (a - m) = iv a - iv m ∧ a - m < LB ∧ a - m + m = a + 0 * LB) := by
  have e := LB_eq
  rw [e] at ha hm
  by_cases h : a < m
  · left; simp only [iv_eq]; rw [e]; omega
  · right; simp only [iv_eq]; rw [e]; omega

set_option maxRecDepth 100000 in
set_option maxHeartbeats 4000000 in
theorem subtract_any (b o N s pc b2 dc L : Nat) (r v : Nat → Nat) (w : World) (hr : Row w b N r) (hv : Row w b2 s v) (hne : b2 ≠ b) (hN : o + s + 1 ≤ N) (hrl : ∀ j, r j < LB) (hvl : ∀ j, v j < LB) (hL : L ≤ LB) (hs : s ≤ 3000) :
    Calls Tryz.prog 254 #[.slice (some ⟨b, o, none⟩) (s + 1) pc, .slice (some ⟨b2, 0, none⟩) s dc, .int .u64 (iv L)] w fun e w' => ∃ (C : Nat) (r' : Nat → Nat), e = .returned (.bool (decide (0 < C))) ∧ w.grownBy w' (some b) ∧ Row w' b N r' ∧
      nv (fun j => r' (o + j)) (s + 1) + L * nv (pl v s) (s + 1) = nv (fun j => r (o + j)) (s + 1) + C * LB ^ (s + 1) ∧ (∀ j, r' j < LB) ∧ ∀ j, (j < o ∨ o + s + 1 ≤ j) → r' j = r j := by
  have HRL := Lib.hid hrl
  have HVL := Lib.hid hvl
  have HL := Lib.hid hL
  have hL0 := iv_nonneg L
  have hL1 : iv L ≤ 1000000000 := by have := iv_le hL; rw [LB_eq] at this; exact this
  clear hrl hvl hL
  obtain ⟨LL, hLL⟩ : ∃ LL, iv L = LL := ⟨_, rfl⟩
  rw [hLL] at hL0 hL1 ⊢
  have HLL := Lib.hid hLL
  clear hLL
  go_enter Tryz.func254, Tryz.ntmps254
  go_wp2
  go_loopw [7, 8, 9, 12] (fun u _ _ i wr => ∃ k C : Nat, k ≤ s + 1 ∧ i = .int .i64 k ∧ u = .int .u64 (iv C) ∧ ∃ r', Row wr b N r' ∧ Hid (nv (fun j => r' (o + j)) k + L * nv (pl v s) k = nv (fun j => r (o + j)) k + C * LB ^ k ∧ C ≤ LB + 1 ∧ (∀ j, r' j < LB) ∧ ∀ j, (j < o ∨ o + k ≤ j) → r' j = r j) ∧ w.grownBy wr (some b)) (fun _ _ _ i _ => s + 1 - (intOf i).toNat)
  case atStart => exact ⟨0, 0, Nat.zero_le _, rfl, by rw [iv_zero], r, hr, ⟨by simp [nv], by omega, HRL.out, fun _ _ => rfl⟩, ⟨rfl, rfl, rfl, Nat.le_refl _, fun _ _ _ => rfl⟩⟩
  case round =>
    obtain ⟨k, C, hk, rfl, rfl, r', hrr, hq, hg⟩ := hrel
    obtain ⟨he, hC, hrl', hsame⟩ := hq.out
    have hC0 := iv_nonneg C
    have hC1 : iv C ≤ 1000000001 := by have := iv_le hC; rw [LB_eq] at this; exact this
    by_cases hlt : k < s + 1
    · have hvv := hv.grown hg hne
      have hcp := hrr.cell (show o + k < N by omega)
      have hfz := hrr.frozen (o + k)
      have hrk : r' (o + k) = r (o + k) := hsame _ (.inr (Nat.le_refl _))
      have hy1 := iv_limb (hrl' (o + k))
      have hy0 := iv_nonneg (r' (o + k))
      have hcarry := fun bo hbo => sub_carry (L := L) (b := pl v s k) (C := C) (bo := bo) HL.out (pl_lt (fun j _ => HVL.out j) k) hC hbo
      have hmodlt := Nat.mod_lt (C + L * pl v s k) LB_pos
      -- what the round leaves
      have hfin : ∀ y bo, bo ≤ 1 → y < LB → y + (C + L * pl v s k) % LB = r' (o + k) + bo * LB →
          nv (fun j => (fun i => if i = o + k then y else r' i) (o + j)) (k + 1) + L * nv (pl v s) (k + 1) = nv (fun j => r (o + j)) (k + 1) + ((C + L * pl v s k) / LB + bo) * LB ^ (k + 1) ∧ (C + L * pl v s k) / LB + bo ≤ LB + 1 ∧ (∀ j, (if j = o + k then y else r' j) < LB) ∧ ∀ j, (j < o ∨ o + (k + 1) ≤ j) → (if j = o + k then y else r' j) = r j := fun y bo hbo hy hyb => by
        rw [hrk] at hyb
        refine ⟨?_, (hcarry bo hbo).1, fun j => by split; exact hy; exact hrl' j, fun j hj => by rw [if_neg (by omega)]; exact hsame j (by omega)⟩
        rw [win_set, show nv (pl v s) (k + 1) = nv (pl v s) k + pl v s k * LB ^ k from rfl, show nv (fun j => r (o + j)) (k + 1) = nv (fun j => r (o + j)) k + r (o + k) * LB ^ k from rfl]
        exact sub_step he hyb
      have HFIN := Lib.hid hfin
      have hLb := (hcarry 0 (by omega)).2
      have hset := fun y => hrr.set (o + k) y
      have hset2 := fun y z => (hrr.set (o + k) y).set (o + k) z
      have HSET := Lib.hid hset
      have HSET2 := Lib.hid hset2
      have hcb := (hcarry 1 (by omega)).1
      clear hfin hcarry he hsame hq hset hset2
      have hsl := sub_limb (hrl' (o + k)) hmodlt
      have hm0 := iv_nonneg ((C + L * pl v s k) % LB)
      have hm1 := iv_limb hmodlt
      have hd0 := iv_nonneg ((C + L * pl v s k) / LB)
      have hd1 : iv ((C + L * pl v s k) / LB) ≤ 1000000001 := Int.le_trans (iv_le (Nat.le_trans (Nat.le_add_right _ 1) hcb)) (by rw [LB_eq]; decide)
      have hdp : iv ((C + L * pl v s k) / LB + 1) = iv ((C + L * pl v s k) / LB) + 1 := by simp only [iv_eq]; omega
      have HDP := Lib.hid hdp
      clear hdp hcb hmodlt
      have hg0 := hg
      have HG := Lib.hid hg0
      clear hg0 hrl'
      by_cases hk2 : k < s
      · have hck := hvv.cell hk2
        rw [pl_in hk2] at *
        have hx0 := iv_nonneg (v k)
        have hx1 := iv_limb (HVL.out k)
        obtain ⟨ed, em⟩ := @iv_muladd2 C L (v k)
        have hp0 : 0 ≤ iv L * iv (v k) := Int.mul_nonneg (iv_nonneg _) hx0
        have hp1 : iv L * iv (v k) ≤ 1000000000000000000 := by
          have h4 := iv_le hLb
          rw [iv_eq, Int.natCast_mul, ← iv_eq, ← iv_eq] at h4
          exact h4
        rw [HLL.out] at ed em hp0 hp1
        clear hLb
        rcases hsl with ⟨hlt2, e1, e2, e3, e4⟩ | ⟨hlt2, e2, e3, e4⟩
        · have HF := Lib.hid (HFIN.out _ 1 (Nat.le_refl _) e3 e4)
          have HR := Lib.hid ((HSET2.out (r' (o + k) + LB) (r' (o + k) + LB - (C + L * v k) % LB)).cg (g := fun j => if j = o + k then r' (o + k) + LB - (C + L * v k) % LB else r' j) fun j => by by_cases h : j = o + k <;> simp [h])
          have HR1 := HSET.out (r' (o + k) + LB)
          have hc2 := HR1.cell (show o + k < N by omega)
          have hf2 := HR1.frozen (o + k)
          rw [if_pos rfl, e1] at hc2
          rw [e1] at hf2
          rw [e1, e2] at HR
          clear HR1 e1 e2 e3 e4 HFIN HSET HSET2
          generalize hgm : iv ((C + L * v k) % LB) = M at *
          generalize hgd : iv ((C + L * v k) / LB) = Dq at *
          generalize hgr : iv (r' (o + k)) = R at *
          generalize hgy : iv (v k) = Y at *
          generalize hgc : iv C = CC at *
          clear hgm hgd hgr hgy hgc
          go_wp2
          go_roundw
          case rel => exact ⟨k + 1, _, by omega, by go_num, by rw [HDP.out], _, HR.out, HF.out, (HG.out.trans (grownBy_set _ b (o + k) _)).trans (grownBy_set _ b (o + k) _)⟩
          case measure => simp [intOf]; omega
        · have HF := Lib.hid (HFIN.out _ 0 (Nat.zero_le _) e3 e4)
          have HR := Lib.hid (HSET.out (r' (o + k) - (C + L * v k) % LB))
          rw [e2] at HR
          simp only [Nat.add_zero] at HF
          clear e2 e3 e4 HFIN HSET HSET2
          generalize hgm : iv ((C + L * v k) % LB) = M at *
          generalize hgd : iv ((C + L * v k) / LB) = Dq at *
          generalize hgr : iv (r' (o + k)) = R at *
          generalize hgy : iv (v k) = Y at *
          generalize hgc : iv C = CC at *
          have HGD := Lib.hid hgd
          clear hgm hgd hgr hgy hgc
          go_wp2
          go_roundw
          case rel => exact ⟨k + 1, _, by omega, by go_num, by rw [HGD.out, ed], _, HR.out, HF.out, HG.out.trans (grownBy_set _ b (o + k) _)⟩
          case measure => simp [intOf]; omega
      · rw [pl_out (by omega)] at *
        simp only [Nat.mul_zero, Nat.add_zero] at HDP HFIN hd0 hd1 hm0 hm1 hsl
        have ed : iv C / 1000000000 = iv (C / LB) := by simp only [iv_eq]; rw [LB_eq]; omega
        have em : iv C % 1000000000 = iv (C % LB) := by simp only [iv_eq]; rw [LB_eq]; omega
        clear hLb
        rcases hsl with ⟨hlt2, e1, e2, e3, e4⟩ | ⟨hlt2, e2, e3, e4⟩
        · have HF := Lib.hid (HFIN.out _ 1 (Nat.le_refl _) e3 e4)
          have HR := Lib.hid ((HSET2.out (r' (o + k) + LB) (r' (o + k) + LB - C % LB)).cg (g := fun j => if j = o + k then r' (o + k) + LB - C % LB else r' j) fun j => by by_cases h : j = o + k <;> simp [h])
          have HR1 := HSET.out (r' (o + k) + LB)
          have hc2 := HR1.cell (show o + k < N by omega)
          have hf2 := HR1.frozen (o + k)
          rw [if_pos rfl, e1] at hc2
          rw [e1] at hf2
          rw [e1, e2] at HR
          clear HR1 e1 e2 e3 e4 HFIN HSET HSET2
          generalize hgm : iv (C % LB) = M at *
          generalize hgd : iv (C / LB) = Dq at *
          generalize hgr : iv (r' (o + k)) = R at *
          generalize hgc : iv C = CC at *
          clear hgm hgd hgr hgc
          go_wp2
          go_roundw
          case rel => exact ⟨k + 1, _, by omega, by go_num, by rw [HDP.out], _, HR.out, HF.out, (HG.out.trans (grownBy_set _ b (o + k) _)).trans (grownBy_set _ b (o + k) _)⟩
          case measure => simp [intOf]; omega
        · have HF := Lib.hid (HFIN.out _ 0 (Nat.zero_le _) e3 e4)
          have HR := Lib.hid (HSET.out (r' (o + k) - C % LB))
          rw [e2] at HR
          simp only [Nat.add_zero] at HF
          clear e2 e3 e4 HFIN HSET HSET2
          generalize hgm : iv (C % LB) = M at *
          generalize hgd : iv (C / LB) = Dq at *
          generalize hgr : iv (r' (o + k)) = R at *
          generalize hgc : iv C = CC at *
          have HGD := Lib.hid hgd
          clear hgm hgd hgr hgc
          go_wp2
          go_roundw
          case rel => exact ⟨k + 1, _, by omega, by go_num, by rw [HGD.out, ed], _, HR.out, HF.out, HG.out.trans (grownBy_set _ b (o + k) _)⟩
          case measure => simp [intOf]; omega
    · obtain rfl : k = s + 1 := by omega
      have hdec : decide (0 < iv C) = decide (0 < C) := by rw [iv_eq]; congr 1; rw [Int.natCast_pos]
      have HDEC := Lib.hid hdec
      have HQ := Lib.hid (And.intro he (And.intro hrl' hsame))
      clear hdec he hrl' hsame hq
      go_wp2
      go_ret
      exact ⟨C, r', by rw [← HDEC.out]; rfl, hg, hrr, HQ.out.1, HQ.out.2.1, fun j hj => HQ.out.2.2 j (by omega)⟩

theorem add_limb {a c b : Nat} (hc : c ≤ 1) (ha : a < LB) (hb : b < LB) :
    ((1000000000 ≤ iv a + iv c + iv b ∧ iv ((a + c + b) % LB) = iv a + iv c + iv b - 1000000000 ∧ iv ((a + c + b) / LB) = 1) ∨
     (¬ 1000000000 ≤ iv a + iv c + iv b ∧ iv ((a + c + b) % LB) = iv a + iv c + iv b ∧ iv ((a + c + b) / LB) = 0)) ∧ (a + c + b) / LB ≤ 1 := by
  have e := LB_eq
  simp only [iv_eq]; rw [e] at ha hb; rw [e]; omega

set_option maxRecDepth 100000 in
set_option maxHeartbeats 4000000 in
theorem restore_any (b o N s pc b2 dc : Nat) (r v : Nat → Nat) (w : World) (hr : Row w b N r) (hv : Row w b2 s v) (hne : b2 ≠ b) (hN : o + s + 1 ≤ N) (hrl : ∀ j, r j < LB) (hvl : ∀ j, v j < LB) (hs : s ≤ 3000) :
    Calls Tryz.prog 255 #[.slice (some ⟨b, o, none⟩) (s + 1) pc, .slice (some ⟨b2, 0, none⟩) s dc] w fun e w' => ∃ (C : Nat) (r' : Nat → Nat), e = .returned (.tuple #[]) ∧ w.grownBy w' (some b) ∧ Row w' b N r' ∧
      nv (fun j => r' (o + j)) (s + 1) + C * LB ^ (s + 1) = nv (fun j => r (o + j)) (s + 1) + nv (pl v s) (s + 1) ∧ (∀ j, r' j < LB) ∧ ∀ j, (j < o ∨ o + s + 1 ≤ j) → r' j = r j := by
  have HRL := Lib.hid hrl
  have HVL := Lib.hid hvl
  clear hrl hvl
  go_enter Tryz.func255, Tryz.ntmps255
  go_wp2
  go_loopw [4, 5, 6, 9] (fun u _ _ i wr => ∃ k C : Nat, k ≤ s + 1 ∧ i = .int .i64 k ∧ u = .int .u32 (iv C) ∧ ∃ r', Row wr b N r' ∧ Hid (nv (fun j => r' (o + j)) k + C * LB ^ k = nv (fun j => r (o + j)) k + nv (pl v s) k ∧ C ≤ 1 ∧ (∀ j, r' j < LB) ∧ ∀ j, (j < o ∨ o + k ≤ j) → r' j = r j) ∧ w.grownBy wr (some b)) (fun _ _ _ i _ => s + 1 - (intOf i).toNat)
  case atStart => exact ⟨0, 0, Nat.zero_le _, rfl, by rw [iv_zero], r, hr, ⟨by simp [nv], by omega, HRL.out, fun _ _ => rfl⟩, ⟨rfl, rfl, rfl, Nat.le_refl _, fun _ _ _ => rfl⟩⟩
  case round =>
    obtain ⟨k, C, hk, rfl, rfl, r', hrr, hq, hg⟩ := hrel
    obtain ⟨he, hC, hrl', hsame⟩ := hq.out
    have hC0 := iv_nonneg C
    have hC1 : iv C ≤ 1 := by have := iv_le hC; exact this
    by_cases hlt : k < s + 1
    · have hvv := hv.grown hg hne
      have hcp := hrr.cell (show o + k < N by omega)
      have hfz := hrr.frozen (o + k)
      have hrk : r' (o + k) = r (o + k) := hsame _ (.inr (Nat.le_refl _))
      have hy1 := iv_limb (hrl' (o + k))
      have hy0 := iv_nonneg (r' (o + k))
      obtain ⟨hsl, hcar⟩ := add_limb (c := C) hC (hrl' (o + k)) (pl_lt (n := s) (fun j _ => HVL.out j) k)
      have hfin : nv (fun j => (fun i => if i = o + k then (r' (o + k) + C + pl v s k) % LB else r' i) (o + j)) (k + 1) + (r' (o + k) + C + pl v s k) / LB * LB ^ (k + 1) = nv (fun j => r (o + j)) (k + 1) + nv (pl v s) (k + 1) ∧ (r' (o + k) + C + pl v s k) / LB ≤ 1 ∧ (∀ j, (if j = o + k then (r' (o + k) + C + pl v s k) % LB else r' j) < LB) ∧ ∀ j, (j < o ∨ o + (k + 1) ≤ j) → (if j = o + k then (r' (o + k) + C + pl v s k) % LB else r' j) = r j := by
        refine ⟨?_, hcar, fun j => by split; exact Nat.mod_lt _ LB_pos; exact hrl' j, fun j hj => by rw [if_neg (by omega)]; exact hsame j (by omega)⟩
        rw [win_set, show nv (pl v s) (k + 1) = nv (pl v s) k + pl v s k * LB ^ k from rfl, show nv (fun j => r (o + j)) (k + 1) = nv (fun j => r (o + j)) k + r (o + k) * LB ^ k from rfl, hrk]
        exact add_step he
      have HF := Lib.hid hfin
      have hset := hrr.set (o + k) ((r' (o + k) + C + pl v s k) % LB)
      have HG := Lib.hid hg
      clear hfin he hsame hq hcar
      by_cases hk2 : k < s
      · have hck := hvv.cell hk2
        rw [pl_in hk2] at *
        have hx0 := iv_nonneg (v k)
        have hx1 := iv_limb (HVL.out k)
        rcases hsl with ⟨hlim, e1, e2⟩ | ⟨hlim, e1, e2⟩
        · rw [e1] at hset
          have HS := Lib.hid hset
          have H2 := Lib.hid e2
          clear hset e1 e2 hrl'
          generalize iv (r' (o + k)) = R at *
          generalize iv (v k) = Y at *
          generalize iv C = CC at *
          go_wp2
          go_roundw
          case rel => exact ⟨k + 1, _, by omega, by go_num, by rw [H2.out], _, HS.out, HF.out, HG.out.trans (grownBy_set _ b (o + k) _)⟩
          case measure => simp [intOf]; omega
        · rw [e1] at hset
          have HS := Lib.hid hset
          have H2 := Lib.hid e2
          clear hset e1 e2 hrl'
          generalize iv (r' (o + k)) = R at *
          generalize iv (v k) = Y at *
          generalize iv C = CC at *
          go_wp2
          go_roundw
          case rel => exact ⟨k + 1, _, by omega, by go_num, by rw [H2.out], _, HS.out, HF.out, HG.out.trans (grownBy_set _ b (o + k) _)⟩
          case measure => simp [intOf]; omega
      · rw [pl_out (by omega)] at *
        simp only [iv_zero, Int.add_zero] at hsl
        rcases hsl with ⟨hlim, e1, e2⟩ | ⟨hlim, e1, e2⟩
        · rw [e1] at hset
          have HS := Lib.hid hset
          have H2 := Lib.hid e2
          clear hset e1 e2 hrl'
          generalize iv (r' (o + k)) = R at *
          generalize iv C = CC at *
          go_wp2
          go_roundw
          case rel => exact ⟨k + 1, _, by omega, by go_num, by rw [H2.out], _, HS.out, HF.out, HG.out.trans (grownBy_set _ b (o + k) _)⟩
          case measure => simp [intOf]; omega
        · rw [e1] at hset
          have HS := Lib.hid hset
          have H2 := Lib.hid e2
          clear hset e1 e2 hrl'
          generalize iv (r' (o + k)) = R at *
          generalize iv C = CC at *
          go_wp2
          go_roundw
          case rel => exact ⟨k + 1, _, by omega, by go_num, by rw [H2.out], _, HS.out, HF.out, HG.out.trans (grownBy_set _ b (o + k) _)⟩
          case measure => simp [intOf]; omega
    · obtain rfl : k = s + 1 := by omega
      have HQ := Lib.hid (And.intro he (And.intro hrl' hsame))
      clear he hrl' hsame hq
      go_wp2
      go_end0
      exact ⟨C, r', rfl, hg, hrr, HQ.out.1, HQ.out.2.1, fun j hj => HQ.out.2.2 j (by omega)⟩

end Go.Proofs.YtbjaolmlnkliiaaGreatDoor

/- Contracts over numbers: what Add, Sub, Mul, Pow and Alike make of lists that stand for numbers. Conditions as premises: the results are short enough. -/
namespace Go.Proofs.YtbjaolmlnkliiaaGreatDoor
open Go.RowKit

theorem one_dig : Dig 1 (l1 1) 1 := ⟨val_l1 (by omega) (by omega), nv_l1 1⟩
/-- the value v is a valid list of the number N in the world w -/
def Nr (w : World) (N : Nat) (v : Value) : Prop := ∃ A n c f, v = .slice A n c ∧ Rs w w.heap.size A n c f ∧ Dig n f N
theorem Nr.below {w w' : World} {N : Nat} {v : Value} (h : Nr w N v) (hb : Below w.heap.size w w') : Nr w' N v := by
  obtain ⟨A, n, c, f, e, hr, hd⟩ := h; exact ⟨A, n, c, f, e, (hr.below hb).more hb.size, hd⟩
theorem Made.nr {w w' : World} {N : Nat} {v : Value} (h : Made w N v w') : Nr w' N v ∧ Below w.heap.size w w' := by
  obtain ⟨A, n, c, f, e, hr, hd, hb⟩ := h; exact ⟨⟨A, n, c, f, e, hr, hd⟩, hb⟩
theorem Nr.chk {N : Nat} {n : Nat} {f : Nat → Nat} (hd : Dig n f N) (hN : N < LB ^ NL) : chk n f = 0 := chk_ok (by have := hd.len_NL hN; omega) hd.ok

theorem alikeN {w : World} {N : Nat} {v u : Value} (h : Nr w N v) (k : Nr w N u) :
    Calls Tryz.prog 89 #[v, u] w fun e w' => e = .returned (.bool true) ∧ Qt w w' := by
  obtain ⟨A, n, c, f, rfl, hr, hd⟩ := h
  obtain ⟨A', n', c', f', rfl, hr', hd'⟩ := k
  obtain ⟨rfl, he⟩ := hd.unique hd'
  exact alike_true A A' n c c' f f' _ _ w hr hr' he

theorem addN {w : World} {N M : Nat} {v u : Value} (h : Nr w N v) (k : Nr w M u) (hN : N < LB ^ NL) (hM : M < LB ^ NL) (hs : N + M < LB ^ NL) :
    Calls Tryz.prog 166 #[v, u] w fun e w' => ∃ x, e = .returned (.tuple #[x, .int .i64 0]) ∧ Nr w' (N + M) x ∧ Below w.heap.size w w' := by
  obtain ⟨A, n, c, f, rfl, hr, hd⟩ := h
  obtain ⟨A', n', c', f', rfl, hr', hd'⟩ := k
  refine (natAdd_any A A' n c n' c' f f' w hr hr').mono ?_
  rintro e w' ⟨x, he, hm⟩
  have h2 : chk2 n f n' f' = 0 := by unfold chk2; rw [if_pos (Nr.chk hd hN)]; exact Nr.chk hd' hM
  rw [show addE n f n' f' = 0 by unfold addE; rw [if_pos h2, hd.eq, hd'.eq]; exact fitE_ok hs, zr_ok, hd.eq, hd'.eq] at hm
  rw [show addE n f n' f' = 0 by unfold addE; rw [if_pos h2, hd.eq, hd'.eq]; exact fitE_ok hs] at he
  exact ⟨x, he, hm.nr⟩

theorem subN {w : World} {N M : Nat} {v u : Value} (h : Nr w N v) (k : Nr w M u) (hN : N < LB ^ NL) (hM : M < LB ^ NL) (hs : M ≤ N) :
    Calls Tryz.prog 176 #[v, u] w fun e w' => ∃ x, e = .returned (.tuple #[x, .int .i64 0]) ∧ Nr w' (N - M) x ∧ Below w.heap.size w w' := by
  obtain ⟨A, n, c, f, rfl, hr, hd⟩ := h
  obtain ⟨A', n', c', f', rfl, hr', hd'⟩ := k
  refine (natSub_any A A' n c n' c' f f' w hr hr').mono ?_
  rintro e w' ⟨x, he, hm⟩
  have h2 : chk2 n f n' f' = 0 := by unfold chk2; rw [if_pos (Nr.chk hd hN)]; exact Nr.chk hd' hM
  have h3 : subE n f n' f' = 0 := by unfold subE; rw [if_pos h2, hd.eq, hd'.eq, if_neg (by omega)]
  rw [h3, zr_ok, hd.eq, hd'.eq] at hm
  rw [h3] at he
  exact ⟨x, he, hm.nr⟩

theorem mulN {w : World} {N M : Nat} {v u : Value} (h : Nr w N v) (k : Nr w M u) (hN : N < LB ^ NL) (hM : M < LB ^ NL) (hs : N * M < LB ^ NL) :
    Calls Tryz.prog 169 #[v, u] w fun e w' => ∃ x, e = .returned (.tuple #[x, .int .i64 0]) ∧ Nr w' (N * M) x ∧ Below w.heap.size w w' := by
  obtain ⟨A, n, c, f, rfl, hr, hd⟩ := h
  obtain ⟨A', n', c', f', rfl, hr', hd'⟩ := k
  refine (natMul_any A A' n c n' c' f f' w hr hr').mono ?_
  rintro e w' ⟨x, he, hm⟩
  have h2 : chk2 n f n' f' = 0 := by unfold chk2; rw [if_pos (Nr.chk hd hN)]; exact Nr.chk hd' hM
  have h3 : mulE n f n' f' = 0 := by unfold mulE; rw [if_pos h2, hd.eq, hd'.eq]; exact fitE_ok hs
  rw [h3, zr_ok, hd.eq, hd'.eq] at hm
  rw [h3] at he
  exact ⟨x, he, hm.nr⟩

theorem Nr.cast {w : World} {N M : Nat} {v : Value} (h : Nr w N v) (e : N = M) : Nr w M v := e ▸ h
theorem one_lt : Big (1 < LB ^ NL) := Big.mk one_lt_NL
theorem nr_one (w : World) : Nr (w.alloc (.cells #[.int .u32 1] 40)) 1 (.slice (some ⟨w.heap.size, 0, none⟩) 1 1) :=
  ⟨_, 1, 1, l1 1, rfl, (lit1 w 1 1 rfl (by omega)).more (by simp), one_dig⟩


end Go.Proofs.YtbjaolmlnkliiaaGreatDoor

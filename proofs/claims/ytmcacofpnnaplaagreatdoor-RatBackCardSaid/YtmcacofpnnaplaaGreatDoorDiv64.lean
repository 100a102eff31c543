/- The contract of bits.Div64 at the divisor ten to the ninth. Conditions as premises: the high word is below the divisor, the low one is a word. -/
import Derived.Test.YtmcacofpnnaplaaGreatDoorBits
import Derived.Test.YtmcacofpnnaplaaGreatDoorAns
import Derived.Test.YtmcacofpnnaplaaGreatDoorProdMath
import Derived.Laws.Bits64b
namespace Go.Proofs.YtmcacofpnnaplaaGreatDoor
open Go.RowKit Go.Shelf

theorem or34 (h l : Int) (hh0 : 0 ≤ h) (hh1 : h < 1000000000) (hl0 : 0 ≤ l) (hl1 : l ≤ 18446744073709551615) :
    bits .or .u64 (h * 17179869184) (l / 1073741824) = h * 17179869184 + l / 1073741824 := by
  obtain ⟨h, rfl⟩ := Int.eq_ofNat_of_zero_le hh0
  obtain ⟨l, rfl⟩ := Int.eq_ofNat_of_zero_le hl0
  have e1 : ((h : Int) * 17179869184) = ((2 ^ 34 * h : Nat) : Int) := by omega
  have e2 : ((l : Int) / 1073741824) = ((l / 1073741824 : Nat) : Int) := by omega
  rw [e1, e2, bits_or_u64_nat _ _ (by omega) (by omega), ← Nat.two_pow_add_eq_or_of_lt (by omega : l / 1073741824 < 2 ^ 34)]
  omega

theorem and32 (v : Int) (h0 : 0 ≤ v) (h1 : v ≤ 18446744073709551615) : bits .and .u64 v 4294967295 = v % 4294967296 := by
  obtain ⟨v, rfl⟩ := Int.eq_ofNat_of_zero_le h0
  have e := bits_and_u64_nat v 4294967295 (by omega) (by omega)
  rw [show ((4294967295 : Nat) : Int) = 4294967295 from rfl] at e
  rw [e, show (4294967295 : Nat) = 2 ^ 32 - 1 from rfl, Nat.and_two_pow_sub_one_eq_mod]
  omega

set_option maxRecDepth 100000 in
set_option maxHeartbeats 4000000 in
theorem div64_zero (l : Int) (hl0 : 0 ≤ l) (hl1 : l ≤ 18446744073709551615) (w : World) :
    Calls Tryz.prog 189 #[.int .u64 0, .int .u64 l, .int .u64 1000000000] w fun e w' => e = .returned (.tuple #[.int .u64 (l / 1000000000), .int .u64 (l % 1000000000)]) ∧ Qt w w' := by
  have ed : IntKind.u64.wrap (l.tdiv 1000000000) = l / 1000000000 := by rw [Int.tdiv_eq_ediv_of_nonneg hl0, IntKind.wrap_u64]; omega
  go_enter Tryz.func189, Tryz.ntmps189
  go_wp2
  go_quiet (fail)
  go_wp2
  go_ret2
  exact ⟨rfl, Qt.n1 _ _⟩

set_option maxRecDepth 100000 in
set_option maxHeartbeats 4000000 in
theorem div64_pos (h l : Int) (hh0 : 0 < h) (hh1 : h < 1000000000) (hl0 : 0 ≤ l) (hl1 : l ≤ 18446744073709551615) (w : World) :
    Calls Tryz.prog 189 #[.int .u64 h, .int .u64 l, .int .u64 1000000000] w fun e w' => e = .returned (.tuple #[.int .u64 ((h * 18446744073709551616 + l) / 1000000000), .int .u64 ((h * 18446744073709551616 + l) % 1000000000)]) ∧ w = w' := by
  have hz := bits_LeadingZeros64 1000000000 w (by omega) (by omega)
  rw [show (64 - (Lib.bitLen (1000000000 : Int).toNat : Int)) = 34 by decide] at hz
  have hb : (h == 0) = false := by rw [beq_eq_false_iff_ne]; omega
  have HZ := Lib.hid hz
  clear hz
  have ea : bits .and .u64 17179869184000000000 4294967295 = 0 := by rw [and32 _ (by omega) (by omega)]; rfl
  have eo := or34 h l (by omega) hh1 hl0 hl1
  have ev : IntKind.u64.wrap (l * 17179869184) = l * 17179869184 % 18446744073709551616 := by rw [IntKind.wrap_u64]
  have el := and32 (l * 17179869184 % 18446744073709551616) (by omega) (by omega)
  obtain ⟨U, hU⟩ : ∃ U, h * 17179869184 + l / 1073741824 = U := ⟨_, rfl⟩
  obtain ⟨V, hV⟩ : ∃ V, l * 17179869184 % 18446744073709551616 = V := ⟨_, rfl⟩
  have hU0 : 0 ≤ U := by omega
  have hU1 : U < 17179869184000000000 := by omega
  have hV0 : 0 ≤ V := by omega
  have hV1 : V ≤ 18446744073709551615 := by omega
  rw [hU] at eo
  rw [hV] at ev el
  have HU := Lib.hid hU
  have HV := Lib.hid hV
  clear hU hV
  have eq1 : IntKind.u64.wrap (U.tdiv 4000000000) = U / 4000000000 := by rw [Int.tdiv_eq_ediv_of_nonneg hU0, IntKind.wrap_u64]; omega
  have eT : IntKind.u64.wrap (IntKind.u64.wrap (IntKind.u64.wrap (U * 4294967296) + V / 4294967296) - IntKind.u64.wrap (U / 4000000000 * 17179869184000000000)) = (U - U / 4000000000 * 4000000000) * 4294967296 + V / 4294967296 := by
    simp only [IntKind.wrap_u64]; omega
  obtain ⟨T, hT⟩ : ∃ T, (U - U / 4000000000 * 4000000000) * 4294967296 + V / 4294967296 = T := ⟨_, rfl⟩
  have hT0 : 0 ≤ T := by omega
  have hT1 : T < 17179869184000000000 := by omega
  rw [hT] at eT
  have HT := Lib.hid hT
  have eq2 : IntKind.u64.wrap (T.tdiv 4000000000) = T / 4000000000 := by rw [Int.tdiv_eq_ediv_of_nonneg hT0, IntKind.wrap_u64]; omega
  have eR : IntKind.u64.wrap (IntKind.u64.wrap (IntKind.u64.wrap (T * 4294967296) + V % 4294967296) - IntKind.u64.wrap (T / 4000000000 * 17179869184000000000)) = (T - T / 4000000000 * 4000000000) * 4294967296 + V % 4294967296 := by
    simp only [IntKind.wrap_u64]; omega
  obtain ⟨R, hR⟩ : ∃ R, (T - T / 4000000000 * 4000000000) * 4294967296 + V % 4294967296 = R := ⟨_, rfl⟩
  have hR0 : 0 ≤ R := by omega
  have hR1 : R < 17179869184000000000 := by omega
  rw [hR] at eR
  have HR := Lib.hid hR
  have hq : U / 4000000000 * 4294967296 + T / 4000000000 = (h * 18446744073709551616 + l) / 1000000000 := by
    have h1 := HU.out
    have h2 := HV.out
    omega
  have hr : R / 17179869184 = (h * 18446744073709551616 + l) % 1000000000 := by
    have h1 := HU.out
    have h2 := HV.out
    omega
  have HQ := Lib.hid hq
  have HR2 := Lib.hid hr
  clear hT hR hq hr
  go_enter Tryz.func189, Tryz.ntmps189
  go_wp2_with fail
  refine HZ.out.mono ?_
  rintro e w' ⟨rfl, rfl⟩
  go_wp2_with fail
  refine wp_loop_rounds 1 ?_
  rw [rounds_succ]
  go_wp2_with fail
  refine wp_loop_rounds 1 ?_
  rw [rounds_succ]
  go_wp2_with fail
  go_ret2
  exact ⟨by rw [← HQ.out, ← HR2.out]; rfl, rfl⟩

theorem div64_any (h l : Nat) (hh : h < LB) (hl : Big (l < 18446744073709551616)) (w : World) :
    Calls Tryz.prog 189 #[.int .u64 (iv h), .int .u64 (iv l), .int .u64 1000000000] w fun e w' =>
      e = .returned (.tuple #[.int .u64 (iv ((h * 18446744073709551616 + l) / LB)), .int .u64 (iv ((h * 18446744073709551616 + l) % LB))]) ∧ Qt w w' := by
  have hl' := hl.out
  have e := LB_eq
  have e1 : (iv h * 18446744073709551616 + iv l) / 1000000000 = iv ((h * 18446744073709551616 + l) / LB) := by simp only [iv_eq]; rw [e]; omega
  have e2 : (iv h * 18446744073709551616 + iv l) % 1000000000 = iv ((h * 18446744073709551616 + l) % LB) := by simp only [iv_eq]; rw [e]; omega
  rcases Nat.eq_zero_or_pos h with h0 | h0
  · subst h0
    rw [iv_zero] at e1 e2 ⊢
    rw [Int.zero_mul, Int.zero_add] at e1 e2
    rw [← e1, ← e2]
    exact div64_zero (iv l) (iv_nonneg _) (iv_u64 hl') w
  · rw [← e1, ← e2]
    exact (div64_pos (iv h) (iv l) (iv_pos (by omega)) (iv_limb hh) (iv_nonneg _) (iv_u64 hl') w).mono fun _ _ ⟨a, b⟩ => ⟨a, by rw [← b]; exact Qt.refl _⟩

theorem grownBy_set (W : World) (b i : Nat) (v : Value) : W.grownBy (W.setCell ⟨b, i, none⟩ v) (some b) :=
  ⟨rfl, rfl, rfl, (KeepsWalks.setCell W _ v).size, fun k _ hk => Below.heap_setCell _ _ _ k (fun e => hk (by rw [e]))⟩
/-- the column's value lies in block B -/
def Col (w : World) (B V : Nat) : Prop := w.rowIs B 167 2 (fun i => if i = 0 then .int .u64 (iv (V / 18446744073709551616)) else .int .u64 (iv (V % 18446744073709551616)))

section
variable {w w' : World} {B V b n : Nat} {f : Nat → Nat}
theorem Col.high (h : Col w B V) : w.cell? ⟨B, 0, none⟩ = some (.int .u64 (iv (V / 18446744073709551616))) := World.rowIs.cell h (by omega : 0 < 2)
theorem Col.low (h : Col w B V) : w.cell? ⟨B, 1, none⟩ = some (.int .u64 (iv (V % 18446744073709551616))) := World.rowIs.cell h (by omega : 1 < 2)
theorem Col.frozen (h : Col w B V) (i : Nat) : w.frozen? ⟨B, i, none⟩ = false := World.rowIs.frozen h i
theorem Col.lt (h : Col w B V) : B < w.heap.size := World.rowIs.lt h
theorem Col.put (h : Col w B V) (V' : Nat) : Col ((w.setCell ⟨B, 0, none⟩ (.int .u64 (iv (V' / 18446744073709551616)))).setCell ⟨B, 1, none⟩ (.int .u64 (iv (V' % 18446744073709551616)))) B V' :=
  World.rowIs.congr (World.rowIs.set (World.rowIs.set h 0 _) 1 _) fun j hj => by
    rcases (by omega : j = 0 ∨ j = 1) with rfl | rfl <;> simp
theorem Col.put' (h : Col w B V) (V' : Nat) : Col ((w.setCell ⟨B, 1, none⟩ (.int .u64 (iv (V' % 18446744073709551616)))).setCell ⟨B, 0, none⟩ (.int .u64 (iv (V' / 18446744073709551616)))) B V' :=
  World.rowIs.congr (World.rowIs.set (World.rowIs.set h 1 _) 0 _) fun j hj => by
    rcases (by omega : j = 0 ∨ j = 1) with rfl | rfl <;> simp
theorem Col.keep (h : Col w B V) (hh : w'.heap[B]? = w.heap[B]?) : Col w' B V := by
  unfold Col World.rowIs at *; rw [hh]; exact h
theorem Row.keep (h : Row w b n f) (hh : w'.heap[b]? = w.heap[b]?) : Row w' b n f := by
  unfold Row World.rowIs at *; rw [hh]; exact h
end

set_option maxRecDepth 100000 in
set_option maxHeartbeats 4000000 in
theorem take_any (B V : Nat) (w : World) (hc : Col w B V) (hV : Big (V < 18446744073709551616 * 18446744073709551616)) :
    Calls Tryz.prog 178 #[.pointer (some ⟨B, 0, none⟩)] w fun e w' => e = .returned (.int .u32 (iv (V % LB))) ∧ Col w' B (V / LB) ∧ w.grownBy w' (some B) := by
  have hh := hc.high
  have hl := hc.low
  have f0 := hc.frozen 0
  have f1 := hc.frozen 1
  have eL := LB_eq
  have hv := hV.out
  have e1 : iv (V / 18446744073709551616) / 1000000000 = iv (V / LB / 18446744073709551616) := by simp only [iv_eq]; rw [eL]; omega
  have e2 : iv (V / 18446744073709551616) % 1000000000 = iv (V / 18446744073709551616 % LB) := by simp only [iv_eq]; rw [eL]; omega
  have hd := div64_any (V / 18446744073709551616 % LB) (V % 18446744073709551616) (Nat.mod_lt _ LB_pos) (Big.mk (by omega))
  rw [show (V / 18446744073709551616 % LB * 18446744073709551616 + V % 18446744073709551616) / LB = V / LB % 18446744073709551616 by rw [eL]; omega,
    show (V / 18446744073709551616 % LB * 18446744073709551616 + V % 18446744073709551616) % LB = V % LB by rw [eL]; omega] at hd
  have hnew := fun d => Col.put (w := w.drewN d) (V := V) hc (V / LB)
  have hx0 := iv_nonneg (V / 18446744073709551616)
  have hx1 : iv (V / 18446744073709551616) < 18446744073709551616 := by rw [iv_eq]; omega
  have hm0 := iv_nonneg (V % LB)
  have hm1 := iv_limb (Nat.mod_lt V LB_pos)
  have HD := Lib.hid hd
  have HNEW := Lib.hid hnew
  have E1 := Lib.hid e1
  have E2 := Lib.hid e2
  have HC := Lib.hid hc
  clear hd hnew eL hv e1 e2 hV hc
  generalize hga : iv (V / 18446744073709551616) = X at *
  generalize hgb : iv (V % 18446744073709551616) = Y at *
  generalize hgc : iv (V % LB) = Z at *
  generalize hge : iv (V / LB % 18446744073709551616) = P at *
  generalize hgf : iv (V / 18446744073709551616 % LB) = S at *
  generalize hgh : iv (V / LB / 18446744073709551616) = T at *
  clear hga hgb hgc hge hgf hgh
  have e1 := E1.out
  have e2 := E2.out
  have HH := Lib.hid hh
  have HL := Lib.hid hl
  go_enter Tryz.func178, Tryz.ntmps178
  go_wp2_with fail
  go_quiet (fail)
  go_wp2_with fail
  refine (HD.out _).mono ?_
  rintro e w' ⟨rfl, d2, rfl⟩
  rw [World.drewN_drewN]
  have hnew := HNEW.out (nq + d2)
  clear hh hl
  have hh : (w.drewN (nq + d2)).cell? ⟨B, 0, none⟩ = some (.int .u64 X) := HH.out
  have hl : (w.drewN (nq + d2)).cell? ⟨B, 1, none⟩ = some (.int .u64 Y) := HL.out
  have f0 : (w.drewN (nq + d2)).frozen? ⟨B, 0, none⟩ = false := f0
  have f1 : (w.drewN (nq + d2)).frozen? ⟨B, 1, none⟩ = false := f1
  have hg : w.grownBy (w.drewN (nq + d2)) (some B) := ⟨rfl, rfl, rfl, Nat.le_refl _, fun _ _ _ => rfl⟩
  generalize w.drewN (nq + d2) = w2 at *
  have HG := Lib.hid hg
  have HNEW2 := Lib.hid hnew
  clear hg hnew
  go_wp2_with fail
  go_ret
  refine ⟨rfl, ?_, ?_⟩
  · exact HNEW2.out
  · exact (HG.out.trans (grownBy_set _ _ _ _)).trans (grownBy_set _ _ _ _)

end Go.Proofs.YtmcacofpnnaplaaGreatDoor

/- The contracts of the functions under the laws of package rat: Gcd, Lcm, joined into one file. -/
import Derived.Test.YtbjaolmlnkliiaaGreatDoorNatF
import Derived.Test.YtbjaolmlnkliiaaGreatDoorNatS
import Derived.Test.YtbjaolmlnkliiaaGreatDoorNatV
import Derived.Test.YtbjaolmlnkliiaaGreatDoorNatG
import Derived.Deep.RegionHeld
import Derived.Deep.LoopGhost
/- The contracts of commonDivisor, Gcd and Lcm. Conditions as premises: the lists read. -/
namespace Go.Proofs.YtbjaolmlnkliiaaGreatDoor
open Go.RowKit Go.Shelf

theorem combine_any (A1 A2 : Option Addr) (len1 cap1 len2 cap2 : Nat) (f g : Nat → Nat) (p q : Int) (X : Nat) (w : World) (hr1 : Rs w w.heap.size A1 len1 cap1 f) (hr2 : Rs w w.heap.size A2 len2 cap2 g)
    (hf : ∀ j, j < len1 → f j < LB) (hg : ∀ j, j < len2 → g j < LB) (hl1 : len1 ≤ 4096) (hl2 : len2 ≤ 4096) (hp : -2147483648 < p ∧ p < 2147483648) (hq : -2147483648 < q ∧ q < 2147483648)
    (hX : p * (nv f len1 : Nat) + q * (nv g len2 : Nat) = X) (hlt : X < LB ^ (max len1 len2)) :
    Calls Tryz.prog 235 #[.slice A1 len1 cap1, .slice A2 len2 cap2, .int .i64 p, .int .i64 q] w fun e W' => ∃ v, e = .returned v ∧ Made w X v W' :=
  callsIn_wide.1 (comb_in A1 A2 len1 cap1 len2 cap2 f g p q X w hr1 hr2 hf hg hl1 hl2 hp hq hX hlt)

theorem nr_slice {w : World} {N : Nat} {v : Value} (h : Nr w N v) (hN : N < LB ^ NL) : ∃ A n c f, v = .slice A n c ∧ Rs w w.heap.size A n c f ∧ Val n f ∧ nv f n = N ∧ n ≤ 1024 := by
  obtain ⟨A, n, c, f, e, hr, hd⟩ := h
  exact ⟨A, n, c, f, e, hr, hd.ok, hd.eq, hd.len_NL hN⟩

/-- what the loop of commonDivisor keeps -/
structure Gl (G K N M : Nat) : Prop where
  le : M ≤ N
  lt : N < LB ^ NL
  gcd : Nat.gcd N M = G
  bd : M ≤ K

theorem gl_combine {G K N M X Y : Nat} {a b c d : Int} (h : Gl G K N M) (s : StepOk N M a b c d X Y) : Gl G Y X Y ∧ Y < M :=
  ⟨⟨Nat.le_of_lt s.lt, Nat.lt_of_le_of_lt (Nat.le_trans s.le h.le) h.lt, by rw [s.gcd, h.gcd], Nat.le_refl _⟩, Nat.lt_of_lt_of_le s.lt s.le⟩
theorem gl_divide {G K N M : Nat} (h : Gl G K N M) (hM : 0 < M) : Gl G (N % M) M (N % M) ∧ N % M < M :=
  ⟨⟨Nat.le_of_lt (Nat.mod_lt _ hM), Nat.lt_of_le_of_lt h.le h.lt, by rw [Nat.gcd_comm M, ← Nat.gcd_rec, Nat.gcd_comm, h.gcd], Nat.le_refl _⟩, Nat.mod_lt _ hM⟩

set_option maxRecDepth 100000 in
set_option maxHeartbeats 2000000 in
theorem common_any (A A' : Option Addr) (n c m c' : Nat) (f g : Nat → Nat) (w : World) (hA : Rs w w.heap.size A n c f) (hB : Rs w w.heap.size A' m c' g) (vf : Val n f) (vg : Val m g) (hn : n ≤ 1024) (hm : m ≤ 1024) :
    Calls Tryz.prog 213 #[.slice A n c, .slice A' m c'] w fun e w' => ∃ v, e = .returned v ∧ Made w (Nat.gcd (nv f n) (nv g m)) v w' := by
  have hcmp := compare_any A A' n c m c' f g _ _ w hA hB vf vg
  have hF : nv f n < LB ^ NL := Nat.lt_of_lt_of_le vf.lt (pow_le_of (by rw [NL_eq]; exact hn))
  have hG : nv g m < LB ^ NL := Nat.lt_of_lt_of_le vg.lt (pow_le_of (by rw [NL_eq]; exact hm))
  have hnf : Nr w (nv f n) (.slice A n c) := ⟨_, _, _, _, rfl, hA, ⟨vf, rfl⟩⟩
  have hng : Nr w (nv g m) (.slice A' m c') := ⟨_, _, _, _, rfl, hB, ⟨vg, rfl⟩⟩
  have hcase : ∃ K0, (cn (nv f n) (nv g m) < 0 ∧ Hid (K0 = nv f n) ∧ Gl (Nat.gcd (nv f n) (nv g m)) K0 (nv g m) K0) ∨ (¬ cn (nv f n) (nv g m) < 0 ∧ Hid (K0 = nv g m) ∧ Gl (Nat.gcd (nv f n) (nv g m)) K0 (nv f n) K0) := by
    rcases Nat.lt_trichotomy (nv f n) (nv g m) with h | h | h
    · exact ⟨nv f n, .inl ⟨by rw [cn_lt h]; decide, rfl, ⟨Nat.le_of_lt h, hG, Nat.gcd_comm _ _, Nat.le_refl _⟩⟩⟩
    · exact ⟨nv g m, .inr ⟨by rw [cn_eq h]; decide, rfl, ⟨Nat.le_of_eq h.symm, hF, rfl, Nat.le_refl _⟩⟩⟩
    · exact ⟨nv g m, .inr ⟨by rw [cn_gt h]; decide, rfl, ⟨Nat.le_of_lt h, hF, rfl, Nat.le_refl _⟩⟩⟩
  have C := Lib.hid hcmp
  clear hcmp hF hG vf vg hA hB
  generalize Nat.gcd (nv f n) (nv g m) = G at *
  generalize cn (nv f n) (nv g m) = cc at *
  obtain ⟨K0, ⟨hcc, hk0, hgl⟩ | ⟨hcc, hk0, hgl⟩⟩ := hcase
  all_goals
    go_enter Tryz.func213, Tryz.ntmps213
    go_wp2_with fail
    refine C.out.mono ?_
    rintro _ _ ⟨rfl, d0, rfl⟩
    have hnf0 := hnf.below (Below.drewN w d0)
    have hng0 := hng.below (Below.drewN w d0)
    have hbel0 := Below.drewN w d0
    generalize w.drewN d0 = w0 at *
    go_wp2_with fail
    go_loopg [0, 1, 5, 6, 7] K0 (fun k a b _ _ _ wr => ∃ N, Nr wr N a ∧ Nr wr k b ∧ Hid (Gl G k N k) ∧ Below w.heap.size w wr)
    case atStart => first | exact ⟨_, hng0, by rw [hk0.out]; exact hnf0, hgl, hbel0⟩ | exact ⟨_, hnf0, by rw [hk0.out]; exact hng0, hgl, hbel0⟩
    case round =>
      clear hgl hnf hng hnf0 hng0 hbel0 C hcc hk0
      obtain ⟨N, ha, hb, hgl, hbl⟩ := hrel
      obtain ⟨lA, na, cA, xA, rfl, hrA, vA, eA, hnA⟩ := nr_slice ha hgl.out.lt
      obtain ⟨lB, nb, cB, xB, rfl, hrB, vB, eB, hnB⟩ := nr_slice hb (Nat.lt_of_le_of_lt hgl.out.le hgl.out.lt)
      have hle : nv xB nb ≤ nv xA na := by rw [eA, eB]; exact hgl.out.le
      have hba : nb ≤ na := by
        rcases Nat.lt_or_ge na nb with h | h
        · have := vA.lt_of_len vB h; omega
        · exact h
      have EA := Lib.hid eA
      have EB := Lib.hid eB
      clear eA eB
      by_cases h2 : 2 < nb
      · have h2' : (2 : Int) < (nb : Int) := by omega
        have HST := Lib.hid (leadingStep_any lA lB na cA nb cB xA xB wr hrA hrB vA.1 vB.1 (by omega) (by omega) hba hle)
        have VA := Lib.hid vA
        have VB := Lib.hid vB
        clear vA vB hle
        go_wp2_with fail
        refine HST.out.mono ?_
        rintro _ w1 ⟨sa, sb, sc, sd, rfl, hb1, hok⟩
        have HOK := Lib.hid hok
        clear hok HST
        go_wp2_with fail
        have hst2 : Stp (w1.alloc (.cells #[.int .i64 sa, .int .i64 sb, .int .i64 sc, .int .i64 sd] 234)) w1.heap.size sa sb sc sd := heap_alloc_new _ _
        have hb2 : Below wr.heap.size wr (w1.alloc (.cells #[.int .i64 sa, .int .i64 sb, .int .i64 sc, .int .i64 sd] 234)) := hb1.alloc hb1.size _
        have hS : wr.heap.size ≤ w1.heap.size := hb1.size
        generalize w1.alloc (.cells #[.int .i64 sa, .int .i64 sb, .int .i64 sc, .int .i64 sd] 234) = w2 at *
        generalize w1.heap.size = S at *
        refine (idle_any sa sb sc sd w2).mono ?_
        rintro _ w3 ⟨rfl, hb3⟩
        have hst3 := hst2.keep (hb3.block _ hst2.lt)
        have hb3' := hb2.trans (hb3.mono hb2.size)
        have hrA3 := (hrA.below hb3').more hb3'.size
        have hrB3 := (hrB.below hb3').more hb3'.size
        have hbl3 := hbl.trans (hb3'.mono hbl.size)
        clear hb1 hb2 hb3 hst2 hrA hrB ha hb hbl
        by_cases hsb : sb = 0
        · have hsb' : (sb == 0) = true := beq_iff_eq.2 hsb
          have HD := Lib.hid (divide_any lA lB na cA nb cB xA xB w3 hrA3 hrB3 VA.out VB.out (by omega) (by omega))
          rw [hsb']
          clear hsb hsb'
          go_wp2_with fail
          refine HD.out.mono ?_
          rintro _ w4 ⟨v, u, rfl, hm2⟩
          have hg2 := gl_divide hgl.out (by rw [← EB.out]; exact VB.out.pos (by omega))
          have hm := hm2.snd
          rw [EA.out, EB.out] at hm
          have hnr := Made.nr hm
          have hbn : Nr w4 gk (.slice lB nb cB) := ⟨_, _, _, _, rfl, (hrB3.below hnr.2).more hnr.2.size, ⟨VB.out, EB.out⟩⟩
          have hbl4 := hbl3.trans (hnr.2.mono hbl3.size)
          have HN := Lib.hid hnr.1
          have HG2 := Lib.hid hg2
          clear hm2 hm hnr hg2 HD HOK
          go_wp2_with fail
          go_roundg (N % gk)
          case measure => exact HG2.out.2
          case rel => exact ⟨gk, hbn, HN.out, HG2.out.1, hbl4⟩
        · have hsb' : (sb == 0) = false := beq_eq_false_iff_ne.2 hsb
          obtain ⟨X, Y, hs⟩ := HOK.out hsb
          have hg2 := gl_combine hgl.out (by rw [EA.out, EB.out] at hs; exact hs)
          have hXl : X < LB ^ (max na nb) := Nat.lt_of_le_of_lt hs.le (Nat.lt_of_lt_of_le VB.out.lt (pow_le_of (by omega)))
          have hYl : Y < LB ^ (max na nb) := Nat.lt_trans hs.lt hXl
          have HC1 : Hid (∀ w', Below w3.heap.size w3 w' →
              Calls Tryz.prog 235 #[.slice lA na cA, .slice lB nb cB, .int .i64 sa, .int .i64 sb] w' fun e W' => ∃ v, e = .returned v ∧ Made w' X v W') := Lib.hid fun w' h =>
            combine_any lA lB na cA nb cB xA xB sa sb X w' ((hrA3.below h).more h.size) ((hrB3.below h).more h.size) VA.out.1 VB.out.1 (by omega) (by omega) hs.ba hs.bb hs.ex hXl
          have HC2 : Hid (∀ w', Below w3.heap.size w3 w' →
              Calls Tryz.prog 235 #[.slice lA na cA, .slice lB nb cB, .int .i64 sc, .int .i64 sd] w' fun e W' => ∃ v, e = .returned v ∧ Made w' Y v W') := Lib.hid fun w' h =>
            combine_any lA lB na cA nb cB xA xB sc sd Y w' ((hrA3.below h).more h.size) ((hrB3.below h).more h.size) VA.out.1 VB.out.1 (by omega) (by omega) hs.bc hs.bd hs.ey hYl
          have HKEEP : Hid (∀ w', Below w3.heap.size w3 w' → w'.cell? ⟨S, 0, none⟩ = some (.int .i64 sa) ∧ w'.cell? ⟨S, 1, none⟩ = some (.int .i64 sb) ∧ w'.cell? ⟨S, 2, none⟩ = some (.int .i64 sc) ∧ w'.cell? ⟨S, 3, none⟩ = some (.int .i64 sd) ∧ Below w3.heap.size w3 w') := Lib.hid fun w' h => by
            have h' := hst3.keep (h.block _ hst3.lt)
            exact ⟨h'.at0, h'.at1, h'.at2, h'.at3, h⟩
          have HG2 := Lib.hid hg2
          have HB3 := Lib.hid hbl3
          clear hs hg2 hXl hYl HOK hst3 hrA3 hrB3 hbl3 VA VB
          rw [hsb']
          clear hsb hsb'
          have hdrew : Below w3.heap.size w3 w3.drew := (Below.refl _ _).drew
          go_wp2_with fail
          go_region_held (fun w' => w'.cell? ⟨S, 0, none⟩ = some (.int .i64 sa) ∧ w'.cell? ⟨S, 1, none⟩ = some (.int .i64 sb) ∧ w'.cell? ⟨S, 2, none⟩ = some (.int .i64 sc) ∧ w'.cell? ⟨S, 3, none⟩ = some (.int .i64 sd) ∧ Below w3.heap.size w3 w')
            (first | with_reducible exact HKEEP.out w3.drew hdrew | with_reducible exact HKEEP.out wa hka | with_reducible exact HKEEP.out wb hkb)
            (first
              | (go_at_call_of 235 sa; refine (HC1.out w3.drew hdrew).mono ?_; rintro _ wa ⟨v1, rfl, hv1⟩; have hka := hdrew.trans ((made_bel hv1).mono hdrew.size))
              | (go_at_call_of 235 sc; refine (HC2.out wa hka).mono ?_; rintro _ wb ⟨v2, rfl, hv2⟩; have hkb := hka.trans ((made_bel hv2).mono hka.size)))
          have hn1 := Lib.hid ((Made.nr hv1).1.below (made_bel hv2))
          have hn2 := Lib.hid (Made.nr hv2).1
          have hb4 := Lib.hid (HB3.out.trans (hkb.mono HB3.out.size))
          clear hv1 hv2 hka hkb hdrew HC1 HC2 HKEEP HB3
          go_wp2_with fail
          go_roundg Y
          case measure => exact HG2.out.2
          case rel => exact ⟨X, hn1.out, hn2.out, HG2.out.1, hb4.out⟩
      · have h2' : ¬ (2 : Int) < (nb : Int) := by omega
        by_cases h0 : nb = 0
        · subst h0
          have hgN : G = N := by
            have h1 := hgl.out.gcd
            rw [← EB.out] at h1
            rw [← h1]
            exact Nat.gcd_zero_right N
          have HCL := Lib.hid (clone_any lA na cA xA wr hrA vA (by omega))
          have HGN := Lib.hid hgN
          clear hgN hle hgl vA vB
          go_wp2_with fail
          refine HCL.out.mono ?_
          rintro _ w4 ⟨v, rfl, hm4⟩
          have HM := Lib.hid (hm4.after hbl)
          clear hm4
          go_wp2_with fail
          go_ret
          exact ⟨_, rfl, by rw [HGN.out, ← EA.out]; exact HM.out⟩
        · have hb0 : ((nb : Int) == 0) = false := by rw [beq_eq_false_iff_ne]; omega
          have hMpos : 0 < gk := by rw [← EB.out]; exact vB.pos (by omega)
          by_cases hna : 2 < na
          · have hna' : (2 : Int) < (na : Int) := by omega
            have HD := Lib.hid (divide_any lA lB na cA nb cB xA xB wr hrA hrB vA vB (by omega) (by omega))
            have hgd := (gl_divide hgl.out hMpos)
            have VB := Lib.hid vB
            have HGD := Lib.hid hgd
            clear hle hgl vA vB hMpos hgd
            go_wp2_with fail
            refine HD.out.mono ?_
            rintro _ w4 ⟨v, u, rfl, hm2⟩
            have hm := hm2.snd
            rw [EA.out, EB.out] at hm
            obtain ⟨lC, nc, cC, xC, rfl, hrC, hdC, hbC⟩ := hm
            have hrB4 := (hrB.below hbC).more hbC.size
            have hnc : nc ≤ 2 := by
              rcases Nat.lt_or_ge nb nc with h | h
              · have h1 := VB.out.lt_of_len hdC.ok h
                rw [hdC.eq, EB.out] at h1
                have := HGD.out.2; omega
              · omega
            have W1 := Lib.hid (toWord_any lB nb cB xB _ w4 hrB4 (Big.mk (two_limbs VB.out (by omega))))
            have W2 := Lib.hid (toWord_any lC nc cC xC _ w4 hrC (Big.mk (two_limbs hdC.ok hnc)))
            have BX := Big.mk (two_limbs VB.out (by omega))
            have BY := Big.mk (two_limbs hdC.ok hnc)
            have BG : Big (Nat.gcd (nv xB nb) (nv xC nc) < 18446744073709551616) := Big.mk (Nat.lt_of_le_of_lt (Nat.gcd_le_left _ (VB.out.pos (by omega))) (two_limbs VB.out (by omega)))
            have hge : Nat.gcd (nv xB nb) (nv xC nc) = G := by rw [EB.out, hdC.eq]; exact HGD.out.1.gcd
            have HGE := Lib.hid hge
            have HBL := Lib.hid (hbl.trans (hbC.mono hbl.size))
            clear hm2 hrC hdC hbC hrB4 hnc hge HD HGD
            go_wp2_with fail
            refine W1.out.mono ?_
            rintro _ _ ⟨rfl, rfl⟩
            go_wp2_with fail
            refine W2.out.mono ?_
            rintro _ _ ⟨rfl, rfl⟩
            go_wp2_with fail
            refine (wordDivisor_any _ _ BX BY _).mono ?_
            rintro _ _ ⟨rfl, d2, rfl⟩
            go_wp2_with fail
            refine (fromWord_nat _ BG _).mono ?_
            rintro _ w5 ⟨v, rfl, hv⟩
            have HV := Lib.hid ((hv.after (Below.drewN w4 d2)).after HBL.out)
            clear hv
            go_wp2_with fail
            go_ret
            exact ⟨_, rfl, by rw [← HGE.out]; exact HV.out⟩
          · have hna' : ¬ (2 : Int) < (na : Int) := by omega
            have W1 := Lib.hid (toWord_any lA na cA xA _ wr hrA (Big.mk (two_limbs vA (by omega))))
            have W2 := Lib.hid (toWord_any lB nb cB xB _ wr hrB (Big.mk (two_limbs vB (by omega))))
            have BX := Big.mk (two_limbs vA (by omega))
            have BY := Big.mk (two_limbs vB (by omega))
            have BG : Big (Nat.gcd (nv xA na) (nv xB nb) < 18446744073709551616) := Big.mk (Nat.lt_of_le_of_lt (Nat.gcd_le_left _ (vA.pos (by omega))) (two_limbs vA (by omega)))
            have hge : Nat.gcd (nv xA na) (nv xB nb) = G := by rw [EA.out, EB.out]; exact hgl.out.gcd
            have HGE := Lib.hid hge
            clear hle hgl vA vB hMpos hge
            go_wp2_with fail
            refine W1.out.mono ?_
            rintro _ _ ⟨rfl, rfl⟩
            go_wp2_with fail
            refine W2.out.mono ?_
            rintro _ _ ⟨rfl, rfl⟩
            go_wp2_with fail
            refine (wordDivisor_any _ _ BX BY _).mono ?_
            rintro _ _ ⟨rfl, d2, rfl⟩
            go_wp2_with fail
            refine (fromWord_nat _ BG _).mono ?_
            rintro _ w5 ⟨v, rfl, hv⟩
            have HV := Lib.hid ((hv.after (Below.drewN wr d2)).after hbl)
            clear hv
            go_wp2_with fail
            go_ret
            exact ⟨_, rfl, by rw [← HGE.out]; exact HV.out⟩

end Go.Proofs.YtbjaolmlnkliiaaGreatDoor

/- The contracts of Gcd and Lcm, and what Div, Gcd, Lcm and Cmp make of lists that stand for numbers. Conditions as premises: the lists read; the results are short enough. -/
namespace Go.Proofs.YtbjaolmlnkliiaaGreatDoor
open Go.RowKit Go.Shelf

set_option maxRecDepth 100000 in
set_option maxHeartbeats 1600000 in
theorem natGcd_any (A A' : Option Addr) (n c m c' : Nat) (f g : Nat → Nat) (w : World) (hA : Rs w w.heap.size A n c f) (hB : Rs w w.heap.size A' m c' g) :
    Calls Tryz.prog 180 #[.slice A n c, .slice A' m c'] w fun e w' => Ans w (chk2 n f m g) (Nat.gcd (nv f n) (nv g m)) e w' := by
  have c1 := checkAll_call A A' n c m c' f g w hA hB
  have hb : Below w.heap.size w (w.alloc (.cells #[.slice A n c, .slice A' m c'] 23)) := (Below.refl _ _).alloc (Nat.le_refl _) _
  have HB := Lib.hid hb
  by_cases h : chk2 n f m g = 0
  · rw [h] at c1
    rw [h]
    obtain ⟨h1, h2⟩ := chk2_zero h
    obtain ⟨hn, vf⟩ := chk_zero h1
    obtain ⟨hm, vg⟩ := chk_zero h2
    have C1 := Lib.hid c1
    have C2 := Lib.hid (common_any A A' n c m c' f g (w.alloc (.cells #[.slice A n c, .slice A' m c'] 23)) ((hA.below hb).more hb.size) ((hB.below hb).more hb.size) vf vg hn hm)
    clear c1 h h1 h2 vf vg hn hm hA hB hb
    go_enter Tryz.func180, Tryz.ntmps180
    go_wp2_with fail
    refine C1.out.mono ?_
    rintro e w' ⟨rfl, rfl⟩
    go_wp2_with fail
    refine C2.out.mono ?_
    rintro e w' ⟨u, rfl, hm⟩
    have HM2 := Lib.hid hm
    clear hm
    go_wp2_with fail
    go_ret2
    exact ⟨u, rfl, by rw [zr_ok]; exact HM2.out.after HB.out⟩
  · have h1 : (chk2 n f m g != 0) = true := by rw [bne_iff_ne]; exact h
    have h2 : (chk2 n f m g == 0) = false := by rw [beq_eq_false_iff_ne]; exact h
    have H := Lib.hid h
    have C1 := Lib.hid c1
    clear c1 h hA hB hb
    generalize chk2 n f m g = er at *
    go_enter Tryz.func180, Tryz.ntmps180
    go_wp2_with fail
    refine C1.out.mono ?_
    rintro e w' ⟨rfl, rfl⟩
    go_wp2_with fail
    go_ret2
    exact Ans.bad H.out HB.out

/-- the number and the error of a least common multiple -/
def lcmV (N M : Nat) : Nat := N / Nat.gcd N M * M
noncomputable def lcmE (n : Nat) (f : Nat → Nat) (m : Nat) (g : Nat → Nat) : Int := if chk2 n f m g = 0 then fitE (lcmV (nv f n) (nv g m)) else chk2 n f m g

theorem gcdN {w : World} {N M : Nat} {v u : Value} (h : Nr w N v) (k : Nr w M u) (hN : N < LB ^ NL) (hM : M < LB ^ NL) :
    Calls Tryz.prog 180 #[v, u] w fun e w' => ∃ x, e = .returned (.tuple #[x, .int .i64 0]) ∧ Nr w' (Nat.gcd N M) x ∧ Below w.heap.size w w' := by
  obtain ⟨A, n, c, f, rfl, hr, hd⟩ := h
  obtain ⟨A', n', c', f', rfl, hr', hd'⟩ := k
  refine (natGcd_any A A' n c n' c' f f' w hr hr').mono ?_
  rintro e w' ⟨x, he, hm⟩
  have h2 : chk2 n f n' f' = 0 := by unfold chk2; rw [if_pos (Nr.chk hd hN)]; exact Nr.chk hd' hM
  rw [h2, zr_ok, hd.eq, hd'.eq] at hm
  rw [h2] at he
  exact ⟨x, he, hm.nr⟩

theorem divN {w : World} {N M : Nat} {v u : Value} (h : Nr w N v) (k : Nr w M u) (hN : N < LB ^ NL) (hM : M < LB ^ NL) (hM0 : 0 < M) :
    Calls Tryz.prog 210 #[v, u] w fun e w' => ∃ x y, e = .returned (.tuple #[x, y, .int .i64 0]) ∧ Nr w' (N / M) x ∧ Nr w' (N % M) y ∧ Below w.heap.size w w' := by
  obtain ⟨A, n, c, f, rfl, hr, hd⟩ := h
  obtain ⟨A', n', c', f', rfl, hr', hd'⟩ := k
  refine (natDiv_all A A' n c n' c' f f' w hr hr').mono ?_
  rintro e w' ⟨x, y, he, hm⟩
  have h2 : chk2 n f n' f' = 0 := by unfold chk2; rw [if_pos (Nr.chk hd hN)]; exact Nr.chk hd' hM
  have hn0 : n' ≠ 0 := by rintro rfl; have := hd'.eq; simp [nv] at this; omega
  have h3 : divE n f n' f' = 0 := by unfold divE; rw [if_pos h2, if_neg hn0]
  rw [h3, zr_ok, zr_ok, hd.eq, hd'.eq] at hm
  rw [h3] at he
  exact ⟨x, y, he, hm.fst.nr.1, hm.snd.nr⟩

end Go.Proofs.YtbjaolmlnkliiaaGreatDoor

/- The contracts of the functions under the laws of package rat: StrM, StrN, RatTextsWalk, joined into one file. -/
import Derived.Test.YtbjaolmlnkliiaaGreatDoorTextThree
import Derived.Test.YtbjaolmlnkliiaaGreatDoorTextOne
import Derived.Test.YtbjaolmlnkliiaaGreatDoorRefTwo
import Derived.Deep.RegionHeld3
import Derived.Deep.DrawnRows
import Derived.Deep.DeepCutAuto
import Derived.IntWalk
import Derived.Test.YtbjaolmlnkliiaaGreatDoorRatThree
/- The contracts of the reference's Text, and of both Texts at any number. Conditions as premises: the number reads, its parts are short or too long to be valid, and the table of powers holds what its initialiser lays. -/
namespace Go.Proofs.YtbjaolmlnkliiaaGreatDoor
open Go.RowKit Go.Shelf
attribute [local go_sem ↓] Go.wp_at_zero Go.wp_at_succ

theorem refTextN {w : World} {N : Nat} {v : Value} (h : Nr w N v) (hN : N < LB ^ NL) :
    Calls Tryz.prog 79 #[v] w fun e w' => ∃ L, e = .returned (.tuple #[.string (txt N L), .int .i64 0]) ∧ IsLen N L ∧ (txt N L).size ≤ 9216 ∧ Below w.heap.size w w' := by
  obtain ⟨A, n, c, f, rfl, hr, hd⟩ := h
  refine (refText_any A n c f w hr).mono ?_
  rintro e w' ⟨⟨v, rfl, hv⟩, hb⟩
  rcases hv with ⟨_, L, hL, rfl⟩ | ⟨hne, _⟩
  · rw [hd.eq] at hL ⊢
    exact ⟨L, rfl, hL, by rw [txt_size']; exact isLen_le hL hN, hb⟩
  · exact absurd (Nr.chk hd hN) hne
set_option maxRecDepth 100000 in
set_option maxHeartbeats 4000000 in
theorem refRatTextQ {w : World} {q : Rat} {v : Value} (ha : Rq w q v) (sa : Sz 1024 q) :
    Calls Tryz.prog 14 #[v] w fun e w' => ∃ t, e = .returned (.tuple #[.string t, .int .i64 0]) ∧ TxQ q t ∧ Below w.heap.size w w' := by
  obtain ⟨b1, A1, n1, c1, f1, A2, n2, c2, f2, rfl, hr, h0⟩ := ha.raw (lt_NL sa.1 (by omega)) (lt_NL sa.2 (by omega))
  have hbb := below1 w (.cells #[.bool b1, .slice A1 n1 c1, .slice A2 n2 c2] 25)
  have hcc := refRatCheck_any (hr.below hbb)
  rw [h0] at hcc
  have C1 := Lib.hid hcc
  have HB := Lib.hid hbb
  have KP1 := Lib.hid (Blk.new w #[.bool b1, .slice A1 n1 c1, .slice A2 n2 c2] 25)
  have Ra := Lib.hid (ha.below hbb)
  have SA := Lib.hid sa
  obtain ⟨_, _, e1⟩ := ha.inv
  have E1 := Lib.hid e1
  clear ha hr h0 hcc hbb sa e1
  have d10 := KP1.out.cell (i := 0) rfl
  have d11 := KP1.out.cell (i := 1) rfl
  have d12 := KP1.out.cell (i := 2) rfl
  go_enter Tryz.func14, Tryz.ntmps14
  go_wp2_with fail
  refine C1.out.mono ?_
  rintro _ w4 ⟨rfl, hb⟩
  clear d10 d11 d12 C1
  replace Ra := Lib.hid (Ra.out.below hb)
  replace KP1 := Lib.hid (KP1.out.after hb)
  replace HB := Lib.hid (HB.out.trans (hb.mono HB.out.size))
  clear hb
  have d10 := KP1.out.cell (i := 0) rfl
  have d11 := KP1.out.cell (i := 1) rfl
  have d12 := KP1.out.cell (i := 2) rfl
  have C2 := Lib.hid (refTextN Ra.out.inv.1 (lt_NL SA.out.1 (by omega)))
  go_wp2_with fail
  refine C2.out.mono ?_
  rintro _ w5 ⟨L1, rfl, hL1, hsz, hb⟩
  generalize hT1 : txt q.num.natAbs L1 = t1 at *
  have HT1 := Lib.hid hT1
  clear hT1
  have hsz2 : (t1.size : Int) ≤ 9216 := by omega
  have HL1 := Lib.hid hL1
  clear d10 d11 d12 C2 hL1
  replace Ra := Lib.hid (Ra.out.below hb)
  replace KP1 := Lib.hid (KP1.out.after hb)
  replace HB := Lib.hid (HB.out.trans (hb.mono HB.out.size))
  clear hb
  have d10 := KP1.out.cell (i := 0) rfl
  have d11 := KP1.out.cell (i := 1) rfl
  have d12 := KP1.out.cell (i := 2) rfl
  obtain ⟨cc, hcc⟩ : ∃ x, cn q.den 1 = x := ⟨_, rfl⟩
  have HCC := Lib.hid hcc
  have hba := below1 w5 (.cells #[.int .u32 1] 40)
  have cm := refOrderN (Ra.out.inv.2.1.below hba) (nr_one w5)
  rw [hcc] at cm
  have CMP := Lib.hid cm
  have HBA := Lib.hid hba
  clear hcc cm hba
  rcases b1 with _ | _
  · have hneg : ¬ q.num < 0 := of_decide_eq_false E1.out.symm
    have HNEG := Lib.hid hneg
    clear hneg
    have hts : t1.size ≤ 9217 := by omega
    have hts2 : (t1.size : Int) ≤ 9217 := by omega
    clear hsz hsz2
    go_wp2_with fail
    refine CMP.out.mono ?_
    rintro _ w6 ⟨rfl, hb0⟩
    have hb := HBA.out.trans (hb0.mono HBA.out.size)
    clear hb0 HBA CMP
    replace Ra := Lib.hid (Ra.out.below hb)
    replace KP1 := Lib.hid (KP1.out.after hb)
    replace HB := Lib.hid (HB.out.trans (hb.mono HB.out.size))
    clear hb d10 d11 d12
    have d10 := KP1.out.cell (i := 0) rfl
    have d11 := KP1.out.cell (i := 1) rfl
    have d12 := KP1.out.cell (i := 2) rfl
    by_cases hden : q.den = 1
    · have hc0 : cc = 0 := by rw [← HCC.out, hden]; exact cn_eq rfl
      subst hc0
      have HD := Lib.hid hden
      clear hden
      go_wp2_with fail
      go_ret2
      refine ⟨t1, rfl, ⟨_, 1, HL1.out, by rw [HD.out]; exact ⟨by omega, by decide, fun h => by omega⟩, ?_⟩, HB.out⟩
      rw [if_neg (Int.not_lt.2 HNEG.out), if_pos HD.out, HT1.out]
      first | exact (ByteArray.append_empty ..).symm | simp
    · have hc0 : cc ≠ 0 := by
        rw [← HCC.out]
        intro e
        rcases Nat.lt_trichotomy q.den 1 with k | k | k
        · rw [cn_lt k] at e; cases e
        · exact hden k
        · rw [cn_gt k] at e; cases e
      have hc1 : (cc == 0) = false := by rw [beq_eq_false_iff_ne]; exact hc0
      have HD := Lib.hid hden
      have C3 := Lib.hid (refTextN Ra.out.inv.2.1 (lt_NL SA.out.2 (by omega)))
      clear hden hc0
      go_wp2_with fail
      refine C3.out.mono ?_
      rintro _ w8 ⟨L2, rfl, hL2, hsz2, hb⟩
      generalize hT2 : txt q.den L2 = t2 at *
      have HT2 := Lib.hid hT2
      have HL2 := Lib.hid hL2
      have hsz3 : (t2.size : Int) ≤ 9216 := by omega
      replace HB := Lib.hid (HB.out.trans (hb.mono HB.out.size))
      clear hb C3 hT2 hL2 d10 d11 d12
      go_wp2_with fail
      go_ret2
      refine ⟨(t1 ++ (⟨#[47]⟩ : ByteArray)) ++ t2, rfl, ⟨_, L2, HL1.out, HL2.out, ?_⟩, HB.out⟩
      rw [if_neg (Int.not_lt.2 HNEG.out), if_neg HD.out, HT1.out, HT2.out]
      apply ba_ext
      simp only [lb_app, List.append_assoc]
  · have hneg : q.num < 0 := of_decide_eq_true E1.out.symm
    have HNEG := Lib.hid hneg
    clear hneg
    go_upto_region 7 with fail
    obtain ⟨t, hT⟩ : ∃ t, ((⟨#[45]⟩ : ByteArray) ++ t1) = t := ⟨_, rfl⟩
    have hts : t.size ≤ 9217 := by rw [← hT]; rw [ByteArray.size_append]; show 1 + t1.size ≤ 9217; omega
    have hts2 : (t.size : Int) ≤ 9217 := by omega
    rw [hT]
    have HT := Lib.hid hT
    clear hT hsz hsz2
    go_wp2_with fail
    refine CMP.out.mono ?_
    rintro _ w6 ⟨rfl, hb0⟩
    have hb := HBA.out.trans (hb0.mono HBA.out.size)
    clear hb0 HBA CMP
    replace Ra := Lib.hid (Ra.out.below hb)
    replace KP1 := Lib.hid (KP1.out.after hb)
    replace HB := Lib.hid (HB.out.trans (hb.mono HB.out.size))
    clear hb d10 d11 d12
    have d10 := KP1.out.cell (i := 0) rfl
    have d11 := KP1.out.cell (i := 1) rfl
    have d12 := KP1.out.cell (i := 2) rfl
    by_cases hden : q.den = 1
    · have hc0 : cc = 0 := by rw [← HCC.out, hden]; exact cn_eq rfl
      subst hc0
      have HD := Lib.hid hden
      clear hden
      go_wp2_with fail
      go_ret2
      refine ⟨t, rfl, ⟨_, 1, HL1.out, by rw [HD.out]; exact ⟨by omega, by decide, fun h => by omega⟩, ?_⟩, HB.out⟩
      rw [if_pos HNEG.out, if_pos HD.out, HT1.out, ← HT.out]
      first | exact (ByteArray.append_empty ..).symm | simp
    · have hc0 : cc ≠ 0 := by
        rw [← HCC.out]
        intro e
        rcases Nat.lt_trichotomy q.den 1 with k | k | k
        · rw [cn_lt k] at e; cases e
        · exact hden k
        · rw [cn_gt k] at e; cases e
      have hc1 : (cc == 0) = false := by rw [beq_eq_false_iff_ne]; exact hc0
      have HD := Lib.hid hden
      have C3 := Lib.hid (refTextN Ra.out.inv.2.1 (lt_NL SA.out.2 (by omega)))
      clear hden hc0
      go_wp2_with fail
      refine C3.out.mono ?_
      rintro _ w8 ⟨L2, rfl, hL2, hsz2, hb⟩
      generalize hT2 : txt q.den L2 = t2 at *
      have HT2 := Lib.hid hT2
      have HL2 := Lib.hid hL2
      have hsz3 : (t2.size : Int) ≤ 9216 := by omega
      replace HB := Lib.hid (HB.out.trans (hb.mono HB.out.size))
      clear hb C3 hT2 hL2 d10 d11 d12
      go_wp2_with fail
      go_ret2
      refine ⟨(t ++ (⟨#[47]⟩ : ByteArray)) ++ t2, rfl, ⟨_, L2, HL1.out, HL2.out, ?_⟩, HB.out⟩
      rw [if_pos HNEG.out, if_neg HD.out, HT1.out, HT2.out, ← HT.out]
      apply ba_ext
      simp only [lb_app, List.append_assoc]
set_option maxRecDepth 100000 in
set_option maxHeartbeats 4000000 in
theorem ratText_bad {w : World} {neg : Bool} {A A' : Option Addr} {n c m c' : Nat} {f g : Nat → Nat} (h : Raw w neg A n c f A' m c' g) (he : chkR neg n f m g ≠ 0) :
    Calls Tryz.prog 13 #[.agg #[.bool neg, .slice A n c, .slice A' m c']] w fun e w' => e = .returned (.tuple #[.string ⟨#[]⟩, .int .i64 (chkR neg n f m g)]) ∧ Below w.heap.size w w' := by
  have hbb := below1 w (.cells #[.bool neg, .slice A n c, .slice A' m c'] 25)
  have C1 := Lib.hid (ratCheck_any (h.below hbb))
  have HB := Lib.hid hbb
  have KP1 := Lib.hid (Blk.new w #[.bool neg, .slice A n c, .slice A' m c'] 25)
  have x1 : (chkR neg n f m g != 0) = true := by rw [bne_iff_ne]; exact he
  generalize chkR neg n f m g = er at *
  clear h hbb he
  have d10 := KP1.out.cell (i := 0) rfl
  have d11 := KP1.out.cell (i := 1) rfl
  have d12 := KP1.out.cell (i := 2) rfl
  go_enter Tryz.func13, Tryz.ntmps13
  go_wp2_with fail
  refine C1.out.mono ?_
  rintro _ w4 ⟨rfl, hb⟩
  replace HB := Lib.hid (HB.out.trans (hb.mono HB.out.size))
  clear hb d10 d11 d12 C1 KP1
  go_wp2_with fail
  go_ret2
  exact ⟨rfl, HB.out⟩
set_option maxRecDepth 100000 in
set_option maxHeartbeats 4000000 in
theorem refRatText_bad {w : World} {neg : Bool} {A A' : Option Addr} {n c m c' : Nat} {f g : Nat → Nat} (h : Raw w neg A n c f A' m c' g) (he : chkR neg n f m g ≠ 0) :
    Calls Tryz.prog 14 #[.agg #[.bool neg, .slice A n c, .slice A' m c']] w fun e w' => e = .returned (.tuple #[.string ⟨#[]⟩, .int .i64 (chkR neg n f m g)]) ∧ Below w.heap.size w w' := by
  have hbb := below1 w (.cells #[.bool neg, .slice A n c, .slice A' m c'] 25)
  have C1 := Lib.hid (refRatCheck_any (h.below hbb))
  have HB := Lib.hid hbb
  have KP1 := Lib.hid (Blk.new w #[.bool neg, .slice A n c, .slice A' m c'] 25)
  have x1 : (chkR neg n f m g != 0) = true := by rw [bne_iff_ne]; exact he
  generalize chkR neg n f m g = er at *
  clear h hbb he
  have d10 := KP1.out.cell (i := 0) rfl
  have d11 := KP1.out.cell (i := 1) rfl
  have d12 := KP1.out.cell (i := 2) rfl
  go_enter Tryz.func14, Tryz.ntmps14
  go_wp2_with fail
  refine C1.out.mono ?_
  rintro _ w4 ⟨rfl, hb⟩
  replace HB := Lib.hid (HB.out.trans (hb.mono HB.out.size))
  clear hb d10 d11 d12 C1 KP1
  go_wp2_with fail
  go_ret2
  exact ⟨rfl, HB.out⟩

/-- the text that both give, with its error -/
def TxO (er : Int) (q : Rat) (t : ByteArray) : Prop := (er = 0 → TxQ q t) ∧ (er ≠ 0 → t = ⟨#[]⟩)
theorem TxQ.uniq {q : Rat} {t u : ByteArray} (h : TxQ q t) (k : TxQ q u) : t = u := by
  obtain ⟨L1, L2, h1, h2, rfl⟩ := h.p
  obtain ⟨M1, M2, k1, k2, rfl⟩ := k.p
  rw [h1.unique k1, h2.unique k2]
theorem TxO.uniq {er : Int} {q : Rat} {t u : ByteArray} (h : TxO er q t) (k : TxO er q u) : t = u := by
  by_cases e : er = 0
  · exact (h.1 e).uniq (k.1 e)
  · rw [h.2 e, k.2 e]
theorem ratTextO {w : World} {b1 : Bool} {A1 A2 : Option Addr} {n1 c1 n2 c2 : Nat} {f1 f2 : Nat → Nat} (h : Raw w b1 A1 n1 c1 f1 A2 n2 c2 f2) (hP : Tab w) (l1 : ¬ Lg n1 n2) :
    Calls Tryz.prog 13 #[.agg #[.bool b1, .slice A1 n1 c1, .slice A2 n2 c2]] w fun e w' => ∃ t, e = .returned (.tuple #[.string t, .int .i64 (chkR b1 n1 f1 n2 f2)]) ∧ TxO (chkR b1 n1 f1 n2 f2) (rawq b1 n1 f1 n2 f2) t ∧ Below w.heap.size w w' := by
  by_cases he : chkR b1 n1 f1 n2 f2 = 0
  · obtain ⟨ra, sa⟩ := h.q30 he l1
    refine (ratTextQ ra (sa.up (by omega)) hP).mono ?_
    rintro e w' ⟨t, he', ht, hb⟩
    exact ⟨t, by rw [he]; exact he', ⟨fun _ => ht, fun c => absurd he c⟩, hb⟩
  · refine (ratText_bad h he).mono ?_
    rintro e w' ⟨he', hb⟩
    exact ⟨_, he', ⟨fun c => absurd c he, fun _ => rfl⟩, hb⟩
theorem refRatTextO {w : World} {b1 : Bool} {A1 A2 : Option Addr} {n1 c1 n2 c2 : Nat} {f1 f2 : Nat → Nat} (h : Raw w b1 A1 n1 c1 f1 A2 n2 c2 f2) (l1 : ¬ Lg n1 n2) :
    Calls Tryz.prog 14 #[.agg #[.bool b1, .slice A1 n1 c1, .slice A2 n2 c2]] w fun e w' => ∃ t, e = .returned (.tuple #[.string t, .int .i64 (chkR b1 n1 f1 n2 f2)]) ∧ TxO (chkR b1 n1 f1 n2 f2) (rawq b1 n1 f1 n2 f2) t ∧ Below w.heap.size w w' := by
  by_cases he : chkR b1 n1 f1 n2 f2 = 0
  · obtain ⟨ra, sa⟩ := h.q30 he l1
    refine (refRatTextQ ra (sa.up (by omega))).mono ?_
    rintro e w' ⟨t, he', ht, hb⟩
    exact ⟨t, by rw [he]; exact he', ⟨fun _ => ht, fun c => absurd he c⟩, hb⟩
  · refine (refRatText_bad h he).mono ?_
    rintro e w' ⟨he', hb⟩
    exact ⟨_, he', ⟨fun c => absurd c he, fun _ => rfl⟩, hb⟩
end Go.Proofs.YtbjaolmlnkliiaaGreatDoor

/- The contract of the reference's Parse at any text. Condition as a premise: the text is not longer than any text. -/
namespace Go.Proofs.YtbjaolmlnkliiaaGreatDoor
open Go.RowKit Go.Shelf
attribute [local go_sem ↓] Go.wp_at_zero Go.wp_at_succ

theorem refParseP (s : ByteArray) (w : World) :
    Calls Tryz.prog 87 #[.string s] w fun e w' => ∃ A n c x a, e = .returned (.tuple #[.slice A n c, .agg #[.int .i64 x, .int .i64 a]]) ∧ PE s x a ∧ (x = 0 → Nr w' (pnum s) (.slice A n c)) ∧ Below w.heap.size w w' := by
  refine (refParse_any s w).mono ?_
  rintro e w' ⟨v, x, a, he, hp, hb⟩
  rcases hp with ⟨h1, rfl, rfl, rfl⟩ | ⟨h1, i, h2, h3, h4, rfl, rfl, rfl⟩ | ⟨h1, h2, h3, rfl, rfl, rfl⟩ | ⟨h1, h2, h3, rfl, rfl, h4⟩
  · exact ⟨none, 0, 0, 4, 9216, he, .inl ⟨h1, rfl, rfl⟩, fun c => absurd c (by decide), hb⟩
  · exact ⟨none, 0, 0, 11, (i : Int), he, .inr (.inl ⟨h1, i, h2, h3, h4, rfl, rfl⟩), fun c => absurd c (by decide), hb⟩
  · exact ⟨none, 0, 0, 11, 0, he, .inr (.inr (.inl ⟨h1, h2, h3, rfl, rfl⟩)), fun c => absurd c (by decide), hb⟩
  · obtain ⟨A, n, c, f, rfl, hr, hd, _⟩ := h4
    exact ⟨A, n, c, 0, 0, he, .inr (.inr (.inr ⟨h1, h2, h3, rfl, rfl⟩)), fun _ => ⟨A, n, c, f, rfl, hr, hd⟩, hb⟩
theorem pe_empty {s : ByteArray} {a : Int} (h : s.size = 0) : ¬ PE s 0 a := by
  rintro (⟨_, c, _⟩ | ⟨_, _, _, _, _, c, _⟩ | ⟨_, _, _, c, _⟩ | ⟨_, _, c, _, _⟩)
  · cases c
  · cases c
  · cases c
  · exact c (.inl h)
theorem PE.at0 {s : ByteArray} {a : Int} (h : PE s 0 a) : a = 0 := by
  rcases h with ⟨_, c, _⟩ | ⟨_, _, _, _, _, c, _⟩ | ⟨_, _, _, c, _⟩ | ⟨_, _, _, _, c⟩
  · cases c
  · cases c
  · cases c
  · exact c
/-- the slash among the first k bytes -/
def SlK (s : ByteArray) (k l : Nat) : Prop := (l = s.size ∧ ∀ j, j < k → bt s j ≠ 47) ∨ (l < k ∧ bt s l = 47 ∧ ∀ j, j < l → bt s j ≠ 47)
theorem SlK.slash {s : ByteArray} {l : Nat} (h : SlK s s.size l) : Slash s l := by
  rcases h with ⟨rfl, h⟩ | ⟨h1, h2, h3⟩
  · exact ⟨Nat.le_refl _, h, fun c => by omega⟩
  · exact ⟨by omega, h3, fun _ => h2⟩
theorem SlK.step {s : ByteArray} {k l : Nat} (h : SlK s k l) (hb : bt s k ≠ 47) : SlK s (k + 1) l := by
  rcases h with ⟨rfl, h⟩ | ⟨h1, h2, h3⟩
  · refine .inl ⟨rfl, fun j hj => ?_⟩
    by_cases e : j = k
    · rw [e]; exact hb
    · exact h j (by omega)
  · exact .inr ⟨by omega, h2, h3⟩
theorem SlK.hit {s : ByteArray} {k : Nat} (h : SlK s k s.size) (hk : k < s.size) (hb : bt s k = 47) : SlK s (k + 1) k := by
  rcases h with ⟨_, h⟩ | ⟨h1, h2, h3⟩
  · exact .inr ⟨by omega, hb, h⟩
  · omega
theorem sb_bt (s : ByteArray) (k : Nat) (h : k < s.size) : (s[k]'h).toNat = bt s k := bt_eq s k h
set_option maxRecDepth 100000 in
set_option maxHeartbeats 4000000 in
theorem refRatParse_long (s : ByteArray) (h1 : 20000 < s.size) (w : World) :
    Calls Tryz.prog 16 #[.string s] w fun e w' => e = .returned (.tuple #[.agg #[.bool false, .slice none 0 0, .slice none 0 0], .agg #[.int .i64 4, .int .i64 20000]]) ∧ Below w.heap.size w w' := by
  have i1 : (20000 : Int) < (s.size : Int) := by omega
  have hbb := below2 w (.cells #[.bool false, .slice none 0 0, .slice none 0 0] 25) (.cells #[.int .i64 4, .int .i64 20000] 32)
  have k1 := (Blk.new w #[.bool false, .slice none 0 0, .slice none 0 0] 25).alloc (.cells #[.int .i64 4, .int .i64 20000] 32)
  have k2 := Blk.new (w.alloc (.cells #[.bool false, .slice none 0 0, .slice none 0 0] 25)) #[.int .i64 4, .int .i64 20000] 32
  simp only [World.size_alloc] at k2
  have K1 := Lib.hid k1
  have K2 := Lib.hid k2
  have HB := Lib.hid hbb
  clear k1 k2 hbb h1
  go_enter Tryz.func16, Tryz.ntmps16
  go_wp2_with fail
  refine bodyPost_ret (results_row_row (p := 2) (u := 3) (ty := 25) (ty2 := 32) rfl _ _ w.heap.size (w.heap.size + 1) 25 32 _ _ _ _ _ _ rfl K1.out Tryz.underlying25 rfl (by kernel_rfl) rfl K2.out Tryz.underlying32 rfl (by kernel_rfl)) rfl ?_
  exact ⟨rfl, HB.out⟩

set_option maxRecDepth 100000 in
set_option maxHeartbeats 40000000 in
theorem refRatParse_rest (s : ByteArray) (h1 : s.size ≤ 20000) (w : World) :
    Calls Tryz.prog 16 #[.string s] w (PRet w s) := by
  have i1 : (s.size : Int) ≤ 20000 := by omega
  have hbb := below2 w (.cells #[.bool false, .slice none 0 0, .slice none 0 0] 25) (.cells #[.int .i64 0, .int .i64 0] 32)
  have k1 := (Blk.new w #[.bool false, .slice none 0 0, .slice none 0 0] 25).alloc (.cells #[.int .i64 0, .int .i64 0] 32)
  have k2 := Blk.new (w.alloc (.cells #[.bool false, .slice none 0 0, .slice none 0 0] 25)) #[.int .i64 0, .int .i64 0] 32
  simp only [World.size_alloc] at k2
  have K1 := Lib.hid k1
  have K2 := Lib.hid k2
  have HB := Lib.hid hbb
  have H1 := Lib.hid h1
  clear k1 k2 hbb h1
  go_enter Tryz.func16, Tryz.ntmps16
  go_upto_region 1 with fail
  generalize hW0 : (w.alloc (.cells #[.bool false, .slice none 0 0, .slice none 0 0] 25)).alloc (.cells #[.int .i64 0, .int .i64 0] 32) = w1 at *
  clear hW0
  have h12 : w.heap.size ≠ w.heap.size + 1 := by omega
  have h21 : w.heap.size + 1 ≠ w.heap.size := by omega
  have d0 := K1.out.cell (i := 0) rfl
  have d1 := K1.out.cell (i := 1) rfl
  have d2 := K1.out.cell (i := 2) rfl
  have e0 := K2.out.cell (i := 0) rfl
  have e1' := K2.out.cell (i := 1) rfl
  have ff := K1.out.free
  have ff2 := K2.out.free
  go_wp2_with fail
  go_loop [4] (fun i => ∃ k : Nat, k ≤ s.size ∧ i = .int .i64 k ∧ Hid (∀ j, j < k → al (bt s j) = true)) (fun i => s.size - (intOf i).toNat)
  case atStart => exact ⟨0, Nat.zero_le _, rfl, fun j a => by omega⟩
  case round =>
    obtain ⟨k, hk, rfl, hg⟩ := hrel
    by_cases hlt : k < s.size
    · have he := sb_bt s k hlt
      by_cases hal : al (bt s k) = true
      · have HA := Lib.hid hal
        rcases (al_iff s k).1 hal with ⟨hx, hy⟩ | hx | hx
        · have b1 : ¬ ((s[k]'hlt).toNat : Int) < 48 := by omega
          have b2 : ¬ (57 : Int) < ((s[k]'hlt).toNat : Int) := by omega
          clear he hal hx hy
          go_wp2_with fail
          go_round
          case rel => exact ⟨k + 1, by omega, by go_num, fun j hj => by
            by_cases e : j = k
            · subst e; exact HA.out
            · exact hg j (by omega)⟩
          case measure => simp [intOf] <;> omega
        · have b1 : ((s[k]'hlt).toNat : Int) = 45 := by omega
          clear he hal hx
          go_wp2_with fail
          go_round
          case rel => exact ⟨k + 1, by omega, by go_num, fun j hj => by
            by_cases e : j = k
            · subst e; exact HA.out
            · exact hg j (by omega)⟩
          case measure => simp [intOf] <;> omega
        · have b1 : ((s[k]'hlt).toNat : Int) = 47 := by omega
          clear he hal hx
          go_wp2_with fail
          go_round
          case rel => exact ⟨k + 1, by omega, by go_num, fun j hj => by
            by_cases e : j = k
            · subst e; exact HA.out
            · exact hg j (by omega)⟩
          case measure => simp [intOf] <;> omega
      · have hno : ¬ ((48 ≤ bt s k ∧ bt s k ≤ 57) ∨ bt s k = 45 ∨ bt s k = 47) := fun c => hal ((al_iff s k).2 c)
        have HA : Hid (al (bt s k) = false) := Lib.hid (by simpa using hal)
        have b3 : (((s[k]'hlt).toNat : Int) != 45) = true := by rw [bne_iff_ne]; omega
        have b4 : (((s[k]'hlt).toNat : Int) != 47) = true := by rw [bne_iff_ne]; omega
        by_cases hx : bt s k < 48
        · have b1 : ((s[k]'hlt).toNat : Int) < 48 := by omega
          clear he hal hno hx
          go_wp2_with fail
          refine bodyPost_ret (results_row_row (p := 2) (u := 3) (ty := 25) (ty2 := 32) rfl _ _ w.heap.size (w.heap.size + 1) 25 32 _ _ _ _ _ _ rfl ((K1.out.set.set.set.other h12).other h12) Tryz.underlying25 rfl (by kernel_rfl) rfl (((K2.out.other h21).other h21).other h21).set.set Tryz.underlying32 rfl (by kernel_rfl)) rfl ?_
          exact ⟨_, _, _, rfl, ⟨0, .inr (.inl ⟨H1.out, .inl ⟨k, rfl, hlt, HA.out, hg⟩, by omega, rfl⟩), fun c => absurd c (by decide), fun _ => rfl⟩, ((((HB.out.setCell (p := ⟨w.heap.size, 0, none⟩) (Nat.le_refl _) _).setCell (p := ⟨w.heap.size, 1, none⟩) (Nat.le_refl _) _).setCell (p := ⟨w.heap.size, 2, none⟩) (Nat.le_refl _) _).setCell (p := ⟨w.heap.size + 1, 0, none⟩) (by simp) _).setCell (p := ⟨w.heap.size + 1, 1, none⟩) (by simp) _⟩
        · have b1 : ¬ ((s[k]'hlt).toNat : Int) < 48 := by omega
          have b2 : (57 : Int) < ((s[k]'hlt).toNat : Int) := by omega
          clear he hal hno hx
          go_wp2_with fail
          refine bodyPost_ret (results_row_row (p := 2) (u := 3) (ty := 25) (ty2 := 32) rfl _ _ w.heap.size (w.heap.size + 1) 25 32 _ _ _ _ _ _ rfl ((K1.out.set.set.set.other h12).other h12) Tryz.underlying25 rfl (by kernel_rfl) rfl (((K2.out.other h21).other h21).other h21).set.set Tryz.underlying32 rfl (by kernel_rfl)) rfl ?_
          exact ⟨_, _, _, rfl, ⟨0, .inr (.inl ⟨H1.out, .inl ⟨k, rfl, hlt, HA.out, hg⟩, by omega, rfl⟩), fun c => absurd c (by decide), fun _ => rfl⟩, ((((HB.out.setCell (p := ⟨w.heap.size, 0, none⟩) (Nat.le_refl _) _).setCell (p := ⟨w.heap.size, 1, none⟩) (Nat.le_refl _) _).setCell (p := ⟨w.heap.size, 2, none⟩) (Nat.le_refl _) _).setCell (p := ⟨w.heap.size + 1, 0, none⟩) (by simp) _).setCell (p := ⟨w.heap.size + 1, 1, none⟩) (by simp) _⟩
    · obtain rfl : k = s.size := by omega
      have HAL := hg
      clear hlt hk hg
      go_wp2_with fail
      go_loop [5, 6] (fun sl i => ∃ k l : Nat, k ≤ s.size ∧ l ≤ s.size ∧ i = .int .i64 k ∧ sl = .int .i64 l ∧ Hid (∀ j, j < k → ¬ mis s j) ∧ Hid (SlK s k l)) (fun _ i => s.size - (intOf i).toNat)
      case atStart => exact ⟨0, s.size, Nat.zero_le _, Nat.le_refl _, rfl, rfl, fun j a => by omega, .inl ⟨rfl, fun j a => by omega⟩⟩
      case round =>
        obtain ⟨k, l, hk, hl, rfl, rfl, hg, hs⟩ := hrel
        by_cases hlt : k < s.size
        · have he := sb_bt s k hlt
          by_cases hx : bt s k = 45
          · have b1 : ((s[k]'hlt).toNat : Int) = 45 := by omega
            by_cases hk0 : k = 0
            · subst hk0
              have HM : Hid (¬ mis s 0) := Lib.hid (by rintro (⟨_, c⟩ | ⟨c, _⟩) <;> omega)
              have SL : Hid (SlK s (0 + 1) l) := Lib.hid (hs.out.step (by omega))
              clear he hx
              go_wp2_with fail
              go_round
              case rel => exact ⟨0 + 1, l, by omega, by omega, by go_num, rfl, fun j hj => by
                by_cases e : j = 0
                · subst e; exact HM.out
                · exact hg j (by omega), SL⟩
              case measure => simp [intOf] <;> omega
            · have b2 : (0 : Int) < (k : Int) := by omega
              have HM : Hid (mis s k) := Lib.hid (.inl ⟨hx, by omega⟩)
              clear he hx hk0
              go_wp2_with fail
              refine bodyPost_ret (results_row_row (p := 2) (u := 3) (ty := 25) (ty2 := 32) rfl _ _ w.heap.size (w.heap.size + 1) 25 32 _ _ _ _ _ _ rfl ((K1.out.set.set.set.other h12).other h12) Tryz.underlying25 rfl (by kernel_rfl) rfl (((K2.out.other h21).other h21).other h21).set.set Tryz.underlying32 rfl (by kernel_rfl)) rfl ?_
              exact ⟨_, _, _, rfl, ⟨0, .inr (.inl ⟨H1.out, .inr ⟨HAL, .inr ⟨k, rfl, hlt, HM.out, hg⟩⟩, by omega, rfl⟩), fun c => absurd c (by decide), fun _ => rfl⟩, ((((HB.out.setCell (p := ⟨w.heap.size, 0, none⟩) (Nat.le_refl _) _).setCell (p := ⟨w.heap.size, 1, none⟩) (Nat.le_refl _) _).setCell (p := ⟨w.heap.size, 2, none⟩) (Nat.le_refl _) _).setCell (p := ⟨w.heap.size + 1, 0, none⟩) (by simp) _).setCell (p := ⟨w.heap.size + 1, 1, none⟩) (by simp) _⟩
          · have b0 : (((s[k]'hlt).toNat : Int) == 45) = false := by rw [beq_eq_false_iff_ne]; omega
            by_cases hy : bt s k = 47
            · have b1 : ((s[k]'hlt).toNat : Int) = 47 := by omega
              by_cases hls : l < s.size
              · have b2 : (l : Int) < (s.size : Int) := by omega
                have HM : Hid (mis s k) := Lib.hid (by
                  rcases hs.out with ⟨c, _⟩ | ⟨c1, c2, _⟩
                  · omega
                  · exact .inr ⟨hy, l, c1, c2⟩)
                clear he hx hy hls b0
                go_wp2_with fail
                refine bodyPost_ret (results_row_row (p := 2) (u := 3) (ty := 25) (ty2 := 32) rfl _ _ w.heap.size (w.heap.size + 1) 25 32 _ _ _ _ _ _ rfl ((K1.out.set.set.set.other h12).other h12) Tryz.underlying25 rfl (by kernel_rfl) rfl (((K2.out.other h21).other h21).other h21).set.set Tryz.underlying32 rfl (by kernel_rfl)) rfl ?_
                exact ⟨_, _, _, rfl, ⟨0, .inr (.inl ⟨H1.out, .inr ⟨HAL, .inr ⟨k, rfl, hlt, HM.out, hg⟩⟩, by omega, rfl⟩), fun c => absurd c (by decide), fun _ => rfl⟩, ((((HB.out.setCell (p := ⟨w.heap.size, 0, none⟩) (Nat.le_refl _) _).setCell (p := ⟨w.heap.size, 1, none⟩) (Nat.le_refl _) _).setCell (p := ⟨w.heap.size, 2, none⟩) (Nat.le_refl _) _).setCell (p := ⟨w.heap.size + 1, 0, none⟩) (by simp) _).setCell (p := ⟨w.heap.size + 1, 1, none⟩) (by simp) _⟩
              · obtain rfl : l = s.size := by omega
                have HM : Hid (¬ mis s k) := Lib.hid (by
                  rintro (⟨c, _⟩ | ⟨_, j, c1, c2⟩)
                  · omega
                  · rcases hs.out with ⟨_, c⟩ | ⟨c, _⟩
                    · exact c j c1 c2
                    · omega)
                have SL : Hid (SlK s (k + 1) k) := Lib.hid (hs.out.hit hlt hy)
                clear he hx hy hls b0
                go_wp2_with fail
                go_round
                case rel => exact ⟨k + 1, k, by omega, by omega, by go_num, rfl, fun j hj => by
                  by_cases e : j = k
                  · subst e; exact HM.out
                  · exact hg j (by omega), SL⟩
                case measure => simp [intOf] <;> omega
            · have b1 : (((s[k]'hlt).toNat : Int) == 47) = false := by rw [beq_eq_false_iff_ne]; omega
              have HM : Hid (¬ mis s k) := Lib.hid (by rintro (⟨c, _⟩ | ⟨c, _⟩) <;> omega)
              have SL : Hid (SlK s (k + 1) l) := Lib.hid (hs.out.step hy)
              clear he hx hy
              go_wp2_with fail
              go_round
              case rel => exact ⟨k + 1, l, by omega, by omega, by go_num, rfl, fun j hj => by
                by_cases e : j = k
                · subst e; exact HM.out
                · exact hg j (by omega), SL⟩
              case measure => simp [intOf] <;> omega
        · obtain rfl : k = s.size := by omega
          have MS : Hid (Msp s (-1)) := Lib.hid (.inr ⟨HAL, .inl ⟨rfl, hg⟩⟩)
          have SL : Hid (Slash s l) := Lib.hid hs.out.slash
          clear hlt hk hg hs HAL
          have hfe : fr s = if mns s = true then 1 else 0 := rfl
          have hsl := SL.out.from
          by_cases hm : mns s = true
          · obtain ⟨hs0, hs1⟩ := (mns_iff s).1 hm
            have he := sb_bt s 0 hs0
            have b1 : ((s[0]'hs0).toNat : Int) = 45 := by omega
            have b2 : (0 : Int) < (s.size : Int) := by omega
            have hfr : fr s = 1 := by rw [hfe, if_pos hm]
            have l1 : (1 : Int) ≤ (l : Int) := by omega
            have MN := Lib.hid hm
            clear he hs1 hm hfe hsl
            have HFR := Lib.hid hfr
            have C1 := Lib.hid fun W => refParseP (s.extract 1 l) W
            have l2 : (l : Int) ≤ (s.size : Int) := by have := SL.out.1; omega
            clear hfr
            go_wp2_with fail
            refine (C1.out _).mono ?_
            rintro _ w2 ⟨A1, n1, c1, x1, a1, rfl, hpe, hnr, hb⟩
            obtain ⟨hxr, ha0, ha1⟩ := hpe.range
            replace K1 := Lib.hid (K1.out.after hb)
            replace K2 := Lib.hid (K2.out.after hb)
            replace HB := Lib.hid (HB.out.trans (hb.mono HB.out.size))
            have HPE := Lib.hid hpe
            have HNR := Lib.hid hnr
            have HP1 : Hid (x1 = 0 → PE (s.extract 1 l) 0 0) := Lib.hid fun e => by subst e; obtain rfl := hpe.at0; exact hpe
            clear hpe hnr hb C1 d0 d1 d2 e0 e1' ff ff2 hxr
            go_upto_region 20 with fail
            have hba := below1 w2 (.cells #[.int .i64 x1, .int .i64 a1] 32)
            have KF := Lib.hid (Blk.new w2 #[.int .i64 x1, .int .i64 a1] 32)
            have HFN : Hid (w.heap.size < w2.heap.size ∧ w.heap.size + 1 < w2.heap.size) := Lib.hid ⟨K1.out.lt, K2.out.lt⟩
            replace K1 := Lib.hid (K1.out.after hba)
            replace K2 := Lib.hid (K2.out.after hba)
            have HFS := Lib.hid HB.out.size
            replace HB := Lib.hid (HB.out.trans (hba.mono HB.out.size))
            replace HNR := Lib.hid fun e => (HNR.out e).below hba
            clear hba
            generalize hF : w2.heap.size = F at *
            clear hF
            generalize w2.alloc (.cells #[.int .i64 x1, .int .i64 a1] 32) = w3 at *
            have f0 := KF.out.cell (i := 0) rfl
            have f1 := KF.out.cell (i := 1) rfl
            by_cases hx0 : x1 = 0
            · subst hx0
              have hp1 := HP1.out rfl
              obtain rfl := HPE.out.at0
              have N1 := Lib.hid (HNR.out rfl)
              have HN1 := Lib.hid (pnum_lt hp1)
              clear hp1 HP1 HNR ha0 ha1
              go_upto_region 23 with fail
              have hba := below1 w3 (.cells #[.int .u32 1] 40)
              have N3 := Lib.hid (nr_one w3)
              replace K1 := Lib.hid (K1.out.after hba)
              replace K2 := Lib.hid (K2.out.after hba)
              replace KF := Lib.hid (KF.out.after hba)
              replace HB := Lib.hid (HB.out.trans (hba.mono HB.out.size))
              replace N1 := Lib.hid (N1.out.below hba)
              clear hba f0 f1
              generalize hP : w3.heap.size = P at *
              clear hP
              generalize w3.alloc (.cells #[.int .u32 1] 40) = w4 at *
              by_cases hlt : l < s.size
              · have HLT := Lib.hid hlt
                have j1 : (l : Int) < (s.size : Int) := by omega
                have j2 : (l : Int) + 1 ≤ (s.size : Int) := by omega
                have C2 := Lib.hid fun W => refParseP (s.extract (l + 1) s.size) W
                clear hlt N3
                go_wp2_with fail
                refine (C2.out _).mono ?_
                rintro _ w5 ⟨A3, n3, c3, x3, a3, rfl, hpe, hnr, hb⟩
                obtain ⟨hxr, ha0, ha1⟩ := hpe.range
                replace K1 := Lib.hid (K1.out.after hb)
                replace K2 := Lib.hid (K2.out.after hb)
                replace KF := Lib.hid (KF.out.after hb)
                replace HB := Lib.hid (HB.out.trans (hb.mono HB.out.size))
                replace N1 := Lib.hid (N1.out.below hb)
                have HPE2 := Lib.hid hpe
                have HNR2 := Lib.hid hnr
                clear hpe hnr hb C2 hxr
                have f0 := KF.out.cell (i := 0) rfl
                have f1 := KF.out.cell (i := 1) rfl
                have ff := KF.out.free
                have zf := KF.out.lt
                go_upto_region 25 with fail
                have g1 : w.heap.size ≠ F := by have := HFN.out; omega
                have g2 : w.heap.size + 1 ≠ F := by have := HFN.out; omega
                have k1 := (K1.out.other (h := F) (i := 0) (u := .int .i64 x3) g1).other (h := F) (i := 1) (u := .int .i64 a3) g1
                have k2 := (K2.out.other (h := F) (i := 0) (u := .int .i64 x3) g2).other (h := F) (i := 1) (u := .int .i64 a3) g2
                have kF : Blk ((w5.setCell ⟨F, 0, none⟩ (.int .i64 x3)).setCell ⟨F, 1, none⟩ (.int .i64 a3)) F 32 #[.int .i64 x3, .int .i64 a3] := KF.out.set.set
                have nn1 := N1.out.put2 (i := 0) (j := 1) (u := .int .i64 x3) (x := .int .i64 a3) KF.out (hnoFa _ _)
                have nn3 : x3 = 0 → Nr ((w5.setCell ⟨F, 0, none⟩ (.int .i64 x3)).setCell ⟨F, 1, none⟩ (.int .i64 a3)) (pnum (s.extract (l + 1) s.size)) (.slice A3 n3 c3) := fun e => (HNR2.out e).put2 KF.out (hnoFa _ _)
                have hbb : Below w.heap.size w ((w5.setCell ⟨F, 0, none⟩ (.int .i64 x3)).setCell ⟨F, 1, none⟩ (.int .i64 a3)) := (HB.out.setCell (p := ⟨F, 0, none⟩) HFS.out _).setCell (p := ⟨F, 1, none⟩) HFS.out _
                clear f0 f1 ff zf KF K1 K2 N1 HNR2 HB g1 g2
                have K1 := Lib.hid k1
                have K2 := Lib.hid k2
                have KF := Lib.hid kF
                have N1 := Lib.hid nn1
                have HNR2 := Lib.hid nn3
                have HB := Lib.hid hbb
                clear k1 k2 kF nn1 nn3 hbb
                generalize ((w5.setCell ⟨F, 0, none⟩ (.int .i64 x3)).setCell ⟨F, 1, none⟩ (.int .i64 a3)) = w6 at *
                have f0 := KF.out.cell (i := 0) rfl
                have f1 := KF.out.cell (i := 1) rfl
                by_cases hx0 : x3 = 0
                · subst hx0
                  obtain rfl := HPE2.out.at0
                  have n3' := HNR2.out rfl
                  obtain ⟨_, _, _, e3, hz3⟩ := n3'.len
                  cases e3
                  have N3 := Lib.hid n3'
                  have HN3 := Lib.hid (pnum_lt HPE2.out)
                  clear HNR2 ha0 ha1
                  by_cases hz : pnum (s.extract (l + 1) s.size) = 0
                  · have hn3 : ((n3 : Int) == 0) = true := by rw [beq_iff_eq]; have := hz3.2 hz; omega
                    have HQ : Hid (PQ s 6 ((l : Int) + 1) 0) := Lib.hid (.inr (.inr ⟨H1.out, MS.out, l, SL.out, .inr ⟨by rw [HFR.out]; exact HPE.out, .inr ⟨HLT.out, .inr ⟨HPE2.out, .inl ⟨hz, rfl, by omega⟩⟩⟩⟩⟩))
                    have d0 := K1.out.cell (i := 0) rfl
                    have d1 := K1.out.cell (i := 1) rfl
                    have d2 := K1.out.cell (i := 2) rfl
                    have e0 := K2.out.cell (i := 0) rfl
                    have e1' := K2.out.cell (i := 1) rfl
                    have ff := K1.out.free
                    have ff2 := K2.out.free
                    clear hz hz3 n3' N1 N3
                    go_wp2_with fail
                    refine bodyPost_ret (results_row_row (p := 2) (u := 3) (ty := 25) (ty2 := 32) rfl _ _ w.heap.size (w.heap.size + 1) 25 32 _ _ _ _ _ _ rfl ((K1.out.set.set.set.other h12).other h12) Tryz.underlying25 rfl (by kernel_rfl) rfl (((K2.out.other h21).other h21).other h21).set.set Tryz.underlying32 rfl (by kernel_rfl)) rfl ?_
                    exact ⟨_, _, _, rfl, ⟨0, HQ.out, fun c => absurd c (by decide), fun _ => rfl⟩, ((((HB.out.setCell (p := ⟨w.heap.size, 0, none⟩) (Nat.le_refl _) _).setCell (p := ⟨w.heap.size, 1, none⟩) (Nat.le_refl _) _).setCell (p := ⟨w.heap.size, 2, none⟩) (Nat.le_refl _) _).setCell (p := ⟨w.heap.size + 1, 0, none⟩) (by simp) _).setCell (p := ⟨w.heap.size + 1, 1, none⟩) (by simp) _⟩
                  · have hn3 : ((n3 : Int) == 0) = false := by rw [beq_eq_false_iff_ne]; intro e; exact hz (hz3.1 (by omega))
                    have HNZ := Lib.hid hz
                    have HN0 := Lib.hid hz
                    clear hz hz3 n3'
                    have CL := Lib.hid (refLowestQ true N1.out N3.out HN1.out HN3.out HN0.out)
                    go_wp2_with fail
                    refine CL.out.mono ?_
                    rintro _ w9 ⟨x, rfl, hx, hb⟩
                    obtain ⟨b3, B1, m1, e1, B2, m2, e2, rfl, _, _, _⟩ := hx.get
                    replace HB := Lib.hid (HB.out.trans (hb.mono HB.out.size))
                    replace K1 := Lib.hid (K1.out.after hb)
                    replace K2 := Lib.hid (K2.out.after hb)
                    have z1 := K1.out.lt
                    have z2 := K2.out.lt
                    have d0 := K1.out.cell (i := 0) rfl
                    have d1 := K1.out.cell (i := 1) rfl
                    have d2 := K1.out.cell (i := 2) rfl
                    have e0 := K2.out.cell (i := 0) rfl
                    have e1' := K2.out.cell (i := 1) rfl
                    have ff := K1.out.free
                    have ff2 := K2.out.free
                    have HX := Lib.hid hx
                    have HQ : Hid (PQ s 0 0 _) := Lib.hid (.inr (.inr ⟨H1.out, MS.out, l, SL.out, .inr ⟨by rw [HFR.out]; exact HPE.out, .inr ⟨HLT.out, .inr ⟨HPE2.out, .inr ⟨HNZ.out, rfl, rfl, by rw [HFR.out, MN.out]⟩⟩⟩⟩⟩))
                    clear hx hb CL
                    go_wp2_with fail
                    have kf1 : Blk (((w9.setCell ⟨w.heap.size, 0, none⟩ (.bool b3)).setCell ⟨w.heap.size, 1, none⟩ (.slice B1 m1 e1)).setCell ⟨w.heap.size, 2, none⟩ (.slice B2 m2 e2)) (w.heap.size + 1) 32 #[.int .i64 0, .int .i64 0] := ((K2.out.other h21).other h21).other h21
                    have kr1 : Blk (((w9.setCell ⟨w.heap.size, 0, none⟩ (.bool b3)).setCell ⟨w.heap.size, 1, none⟩ (.slice B1 m1 e1)).setCell ⟨w.heap.size, 2, none⟩ (.slice B2 m2 e2)) w.heap.size 25 #[.bool b3, .slice B1 m1 e1, .slice B2 m2 e2] := K1.out.set.set.set
                    obtain ⟨q1, q2, q3⟩ := HX.out.inv
                    have p1 := q1.put3 (i := 0) (j := 1) (l := 2) (u := .bool b3) (x := .slice B1 m1 e1) (y := .slice B2 m2 e2) K1.out (hnoR _ _ _ _ _ _ _)
                    have p2 := q2.put3 (i := 0) (j := 1) (l := 2) (u := .bool b3) (x := .slice B1 m1 e1) (y := .slice B2 m2 e2) K1.out (hnoR _ _ _ _ _ _ _)
                    refine bodyPost_ret (results_row_row (p := 2) (u := 3) (ty := 25) (ty2 := 32) rfl _ _ w.heap.size (w.heap.size + 1) 25 32 _ _ _ _ _ _ rfl ((kr1.other h12).other h12) Tryz.underlying25 rfl (by kernel_rfl) rfl (kf1.set.set) Tryz.underlying32 rfl (by kernel_rfl)) rfl ?_
                    exact ⟨_, _, _, rfl, ⟨_, HQ.out, fun _ => Rq.mk q3 rfl rfl (p1.put2 kf1 (hnoFa _ _)) (p2.put2 kf1 (hnoFa _ _)), fun c => absurd rfl c⟩, ((((HB.out.setCell (p := ⟨w.heap.size, 0, none⟩) (Nat.le_refl _) _).setCell (p := ⟨w.heap.size, 1, none⟩) (Nat.le_refl _) _).setCell (p := ⟨w.heap.size, 2, none⟩) (Nat.le_refl _) _).setCell (p := ⟨w.heap.size + 1, 0, none⟩) (by simp) _).setCell (p := ⟨w.heap.size + 1, 1, none⟩) (by simp) _⟩
                · have x2 : (x3 != 0) = true := by rw [bne_iff_ne]; exact hx0
                  have g1 : F ≠ w.heap.size := by have := HFN.out; omega
                  have g2 : F ≠ w.heap.size + 1 := by have := HFN.out; omega
                  have hle1 : w.heap.size ≤ w.heap.size + 1 := by omega
                  have hle0 : w.heap.size ≤ w.heap.size := Nat.le_refl _
                  have HQ : Hid (PQ s x3 (((l : Int) + 1) + a3) 0) := Lib.hid (.inr (.inr ⟨H1.out, MS.out, l, SL.out, .inr ⟨by rw [HFR.out]; exact HPE.out, .inr ⟨HLT.out, .inl ⟨a3, HPE2.out, hx0, by omega⟩⟩⟩⟩))
                  have HE := Lib.hid hx0
                  have hwr : IntKind.wrap .i64 ((l : Int) + 1) = (l : Int) + 1 := IntWalk.i64_in _ (by omega)
                  have hwr2 : IntKind.wrap .i64 (((l : Int) + 1) + a3) = ((l : Int) + 1) + a3 := IntWalk.i64_in _ (by omega)
                  clear HNR2
                  go_upto_region 26 with fail
                  clear f0 f1
                  generalize hR2 : w.heap.size + 1 = R2 at *
                  clear hR2
                  generalize hR : w.heap.size = R at *
                  have HR := Lib.hid hR
                  clear hR
                  have KEEP := Lib.hid KF.out.cellsD
                  have KS3 : Hid (∀ u v x, (((w6.setCell ⟨R, 0, none⟩ u).setCell ⟨R, 1, none⟩ v).setCell ⟨R, 2, none⟩ x).drew.cell? ⟨F, 0, none⟩ = some (.int .i64 x3) ∧ (((w6.setCell ⟨R, 0, none⟩ u).setCell ⟨R, 1, none⟩ v).setCell ⟨R, 2, none⟩ x).drew.cell? ⟨F, 1, none⟩ = some (.int .i64 a3)) := Lib.hid fun u v x => (KF.out.f3 g1 u v x).cellsD
                  have KS5 : Hid (∀ u v x y z, (((((w6.setCell ⟨R, 0, none⟩ u).setCell ⟨R, 1, none⟩ v).setCell ⟨R, 2, none⟩ x).setCell ⟨R2, 0, none⟩ y).setCell ⟨R2, 1, none⟩ z).drew.cell? ⟨F, 0, none⟩ = some (.int .i64 x3) ∧ (((((w6.setCell ⟨R, 0, none⟩ u).setCell ⟨R, 1, none⟩ v).setCell ⟨R, 2, none⟩ x).setCell ⟨R2, 0, none⟩ y).setCell ⟨R2, 1, none⟩ z).drew.cell? ⟨F, 1, none⟩ = some (.int .i64 a3)) := Lib.hid fun u v x y z => (((KF.out.f3 g1 u v x).other g2).other g2).cellsD
                  have KS2 : Hid (∀ y z, ((w6.setCell ⟨R2, 0, none⟩ y).setCell ⟨R2, 1, none⟩ z).drew.cell? ⟨F, 0, none⟩ = some (.int .i64 x3) ∧ ((w6.setCell ⟨R2, 0, none⟩ y).setCell ⟨R2, 1, none⟩ z).drew.cell? ⟨F, 1, none⟩ = some (.int .i64 a3)) := Lib.hid fun y z => ((KF.out.other g2).other g2).cellsD
                  have KS6 : Hid (∀ u v x y z, (((((w6.setCell ⟨R2, 0, none⟩ y).setCell ⟨R2, 1, none⟩ z).setCell ⟨R, 0, none⟩ u).setCell ⟨R, 1, none⟩ v).setCell ⟨R, 2, none⟩ x).drew.cell? ⟨F, 0, none⟩ = some (.int .i64 x3) ∧ (((((w6.setCell ⟨R2, 0, none⟩ y).setCell ⟨R2, 1, none⟩ z).setCell ⟨R, 0, none⟩ u).setCell ⟨R, 1, none⟩ v).setCell ⟨R, 2, none⟩ x).drew.cell? ⟨F, 1, none⟩ = some (.int .i64 a3)) := Lib.hid fun u v x y z => (((KF.out.other g2).other g2).f3 g1 u v x).cellsD
                  have d0 := K1.out.cell (i := 0) rfl
                  have d1 := K1.out.cell (i := 1) rfl
                  have d2 := K1.out.cell (i := 2) rfl
                  have e0 := K2.out.cell (i := 0) rfl
                  have e1 := K2.out.cell (i := 1) rfl
                  have ff := K1.out.free
                  have ff2 := K2.out.free
                  go_region_held3 (fun W => W.cell? ⟨F, 0, none⟩ = some (.int .i64 x3) ∧ W.cell? ⟨F, 1, none⟩ = some (.int .i64 a3))
                    (first | with_reducible exact KEEP.out | with_reducible exact KS3.out _ _ _ | with_reducible exact KS5.out _ _ _ _ _ | with_reducible exact KS2.out _ _ | with_reducible exact KS6.out _ _ _ _ _ | fail)
                    (fail)
                  all_goals
                    clear KEEP KS3 KS5 KS2 KS6 d0 d1 d2 e0 e1 ff ff2
                    have hx1 := ((K1.out.set (i := 0) (v := .bool false)).set (i := 1) (v := .slice none 0 0)).set (i := 2) (v := .slice none 0 0)
                    have hx2 := (K2.out.set (i := 0) (v := .int .i64 x3)).set (i := 1) (v := .int .i64 (((l : Int) + 1) + a3))
                    go_wp2_with fail
                  first
                    | (refine bodyPost_ret (results_row_row (p := 2) (u := 3) (ty := 25) (ty2 := 32) rfl _ _ R R2 25 32 _ _ _ _ _ _ rfl ((hx1.other h12).other h12).drew Tryz.underlying25 rfl (by kernel_rfl) rfl ((((K2.out.other h21).other h21).other h21).set.set).drew Tryz.underlying32 rfl (by kernel_rfl)) rfl ?_
                       exact ⟨_, _, _, rfl, ⟨0, HQ.out, fun c => absurd c HE.out, fun _ => rfl⟩, HR.out ▸ (((((HB.out.setCell (p := ⟨R, 0, none⟩) hle0 _).setCell (p := ⟨R, 1, none⟩) hle0 _).setCell (p := ⟨R, 2, none⟩) hle0 _).setCell (p := ⟨R2, 0, none⟩) hle1 _).setCell (p := ⟨R2, 1, none⟩) hle1 _).drew⟩)
                    | (refine bodyPost_ret (results_row_row (p := 2) (u := 3) (ty := 25) (ty2 := 32) rfl _ _ R R2 25 32 _ _ _ _ _ _ rfl ((((K1.out.other h12).other h12).set.set).set).drew Tryz.underlying25 rfl (by kernel_rfl) rfl (((hx2.other h21).other h21).other h21).drew Tryz.underlying32 rfl (by kernel_rfl)) rfl ?_
                       exact ⟨_, _, _, rfl, ⟨0, HQ.out, fun c => absurd c HE.out, fun _ => rfl⟩, HR.out ▸ (((((HB.out.setCell (p := ⟨R2, 0, none⟩) hle1 _).setCell (p := ⟨R2, 1, none⟩) hle1 _).setCell (p := ⟨R, 0, none⟩) hle0 _).setCell (p := ⟨R, 1, none⟩) hle0 _).setCell (p := ⟨R, 2, none⟩) hle0 _).drew⟩)
              · have HGE := Lib.hid hlt
                have j1 : ¬ (l : Int) < (s.size : Int) := by omega
                have HN3 := one_lt
                have HN0 : Hid ((1 : Nat) ≠ 0) := Lib.hid (by decide)
                clear hlt
                have CL := Lib.hid (refLowestQ true N1.out N3.out HN1.out HN3.out HN0.out)
                go_wp2_with fail
                refine CL.out.mono ?_
                rintro _ w9 ⟨x, rfl, hx, hb⟩
                obtain ⟨b3, B1, m1, e1, B2, m2, e2, rfl, _, _, _⟩ := hx.get
                replace HB := Lib.hid (HB.out.trans (hb.mono HB.out.size))
                replace K1 := Lib.hid (K1.out.after hb)
                replace K2 := Lib.hid (K2.out.after hb)
                have z1 := K1.out.lt
                have z2 := K2.out.lt
                have d0 := K1.out.cell (i := 0) rfl
                have d1 := K1.out.cell (i := 1) rfl
                have d2 := K1.out.cell (i := 2) rfl
                have e0 := K2.out.cell (i := 0) rfl
                have e1' := K2.out.cell (i := 1) rfl
                have ff := K1.out.free
                have ff2 := K2.out.free
                have HX := Lib.hid hx
                have HQ : Hid (PQ s 0 0 _) := Lib.hid (.inr (.inr ⟨H1.out, MS.out, l, SL.out, .inr ⟨by rw [HFR.out]; exact HPE.out, .inl ⟨HGE.out, rfl, rfl, by rw [HFR.out, MN.out]⟩⟩⟩))
                clear hx hb CL
                go_wp2_with fail
                have kf1 : Blk (((w9.setCell ⟨w.heap.size, 0, none⟩ (.bool b3)).setCell ⟨w.heap.size, 1, none⟩ (.slice B1 m1 e1)).setCell ⟨w.heap.size, 2, none⟩ (.slice B2 m2 e2)) (w.heap.size + 1) 32 #[.int .i64 0, .int .i64 0] := ((K2.out.other h21).other h21).other h21
                have kr1 : Blk (((w9.setCell ⟨w.heap.size, 0, none⟩ (.bool b3)).setCell ⟨w.heap.size, 1, none⟩ (.slice B1 m1 e1)).setCell ⟨w.heap.size, 2, none⟩ (.slice B2 m2 e2)) w.heap.size 25 #[.bool b3, .slice B1 m1 e1, .slice B2 m2 e2] := K1.out.set.set.set
                obtain ⟨q1, q2, q3⟩ := HX.out.inv
                have p1 := q1.put3 (i := 0) (j := 1) (l := 2) (u := .bool b3) (x := .slice B1 m1 e1) (y := .slice B2 m2 e2) K1.out (hnoR _ _ _ _ _ _ _)
                have p2 := q2.put3 (i := 0) (j := 1) (l := 2) (u := .bool b3) (x := .slice B1 m1 e1) (y := .slice B2 m2 e2) K1.out (hnoR _ _ _ _ _ _ _)
                refine bodyPost_ret (results_row_row (p := 2) (u := 3) (ty := 25) (ty2 := 32) rfl _ _ w.heap.size (w.heap.size + 1) 25 32 _ _ _ _ _ _ rfl ((kr1.other h12).other h12) Tryz.underlying25 rfl (by kernel_rfl) rfl (kf1.set.set) Tryz.underlying32 rfl (by kernel_rfl)) rfl ?_
                exact ⟨_, _, _, rfl, ⟨_, HQ.out, fun _ => Rq.mk q3 rfl rfl (p1.put2 kf1 (hnoFa _ _)) (p2.put2 kf1 (hnoFa _ _)), fun c => absurd rfl c⟩, ((((HB.out.setCell (p := ⟨w.heap.size, 0, none⟩) (Nat.le_refl _) _).setCell (p := ⟨w.heap.size, 1, none⟩) (Nat.le_refl _) _).setCell (p := ⟨w.heap.size, 2, none⟩) (Nat.le_refl _) _).setCell (p := ⟨w.heap.size + 1, 0, none⟩) (by simp) _).setCell (p := ⟨w.heap.size + 1, 1, none⟩) (by simp) _⟩
            · have x2 : (x1 != 0) = true := by rw [bne_iff_ne]; exact hx0
              have g1 : F ≠ w.heap.size := by have := HFN.out; omega
              have g2 : F ≠ w.heap.size + 1 := by have := HFN.out; omega
              have hle1 : w.heap.size ≤ w.heap.size + 1 := by omega
              have hle0 : w.heap.size ≤ w.heap.size := Nat.le_refl _
              have HQ : Hid (PQ s x1 ((1 : Int) + a1) 0) := Lib.hid (.inr (.inr ⟨H1.out, MS.out, l, SL.out, .inl ⟨a1, by rw [HFR.out]; exact HPE.out, hx0, by rw [HFR.out]; omega⟩⟩))
              have HE := Lib.hid hx0
              have hwr : IntKind.wrap .i64 ((1 : Int) + a1) = (1 : Int) + a1 := IntWalk.i64_in _ (by omega)
              clear HNR HP1
              go_upto_region 21 with fail
              clear f0 f1
              generalize hR2 : w.heap.size + 1 = R2 at *
              clear hR2
              generalize hR : w.heap.size = R at *
              have HR := Lib.hid hR
              clear hR
              have KEEP := Lib.hid KF.out.cellsD
              have KS3 : Hid (∀ u v x, (((w3.setCell ⟨R, 0, none⟩ u).setCell ⟨R, 1, none⟩ v).setCell ⟨R, 2, none⟩ x).drew.cell? ⟨F, 0, none⟩ = some (.int .i64 x1) ∧ (((w3.setCell ⟨R, 0, none⟩ u).setCell ⟨R, 1, none⟩ v).setCell ⟨R, 2, none⟩ x).drew.cell? ⟨F, 1, none⟩ = some (.int .i64 a1)) := Lib.hid fun u v x => (KF.out.f3 g1 u v x).cellsD
              have KS5 : Hid (∀ u v x y z, (((((w3.setCell ⟨R, 0, none⟩ u).setCell ⟨R, 1, none⟩ v).setCell ⟨R, 2, none⟩ x).setCell ⟨R2, 0, none⟩ y).setCell ⟨R2, 1, none⟩ z).drew.cell? ⟨F, 0, none⟩ = some (.int .i64 x1) ∧ (((((w3.setCell ⟨R, 0, none⟩ u).setCell ⟨R, 1, none⟩ v).setCell ⟨R, 2, none⟩ x).setCell ⟨R2, 0, none⟩ y).setCell ⟨R2, 1, none⟩ z).drew.cell? ⟨F, 1, none⟩ = some (.int .i64 a1)) := Lib.hid fun u v x y z => (((KF.out.f3 g1 u v x).other g2).other g2).cellsD
              have KS2 : Hid (∀ y z, ((w3.setCell ⟨R2, 0, none⟩ y).setCell ⟨R2, 1, none⟩ z).drew.cell? ⟨F, 0, none⟩ = some (.int .i64 x1) ∧ ((w3.setCell ⟨R2, 0, none⟩ y).setCell ⟨R2, 1, none⟩ z).drew.cell? ⟨F, 1, none⟩ = some (.int .i64 a1)) := Lib.hid fun y z => ((KF.out.other g2).other g2).cellsD
              have KS6 : Hid (∀ u v x y z, (((((w3.setCell ⟨R2, 0, none⟩ y).setCell ⟨R2, 1, none⟩ z).setCell ⟨R, 0, none⟩ u).setCell ⟨R, 1, none⟩ v).setCell ⟨R, 2, none⟩ x).drew.cell? ⟨F, 0, none⟩ = some (.int .i64 x1) ∧ (((((w3.setCell ⟨R2, 0, none⟩ y).setCell ⟨R2, 1, none⟩ z).setCell ⟨R, 0, none⟩ u).setCell ⟨R, 1, none⟩ v).setCell ⟨R, 2, none⟩ x).drew.cell? ⟨F, 1, none⟩ = some (.int .i64 a1)) := Lib.hid fun u v x y z => (((KF.out.other g2).other g2).f3 g1 u v x).cellsD
              have d0 := K1.out.cell (i := 0) rfl
              have d1 := K1.out.cell (i := 1) rfl
              have d2 := K1.out.cell (i := 2) rfl
              have e0 := K2.out.cell (i := 0) rfl
              have e1 := K2.out.cell (i := 1) rfl
              have ff := K1.out.free
              have ff2 := K2.out.free
              go_region_held3 (fun W => W.cell? ⟨F, 0, none⟩ = some (.int .i64 x1) ∧ W.cell? ⟨F, 1, none⟩ = some (.int .i64 a1))
                (first | with_reducible exact KEEP.out | with_reducible exact KS3.out _ _ _ | with_reducible exact KS5.out _ _ _ _ _ | with_reducible exact KS2.out _ _ | with_reducible exact KS6.out _ _ _ _ _ | fail)
                (fail)
              all_goals
                clear KEEP KS3 KS5 KS2 KS6 d0 d1 d2 e0 e1 ff ff2
                have hx1 := ((K1.out.set (i := 0) (v := .bool false)).set (i := 1) (v := .slice none 0 0)).set (i := 2) (v := .slice none 0 0)
                have hx2 := (K2.out.set (i := 0) (v := .int .i64 x1)).set (i := 1) (v := .int .i64 ((1 : Int) + a1))
                go_wp2_with fail
              first
                | (refine bodyPost_ret (results_row_row (p := 2) (u := 3) (ty := 25) (ty2 := 32) rfl _ _ R R2 25 32 _ _ _ _ _ _ rfl ((hx1.other h12).other h12).drew Tryz.underlying25 rfl (by kernel_rfl) rfl ((((K2.out.other h21).other h21).other h21).set.set).drew Tryz.underlying32 rfl (by kernel_rfl)) rfl ?_
                   exact ⟨_, _, _, rfl, ⟨0, HQ.out, fun c => absurd c HE.out, fun _ => rfl⟩, HR.out ▸ (((((HB.out.setCell (p := ⟨R, 0, none⟩) hle0 _).setCell (p := ⟨R, 1, none⟩) hle0 _).setCell (p := ⟨R, 2, none⟩) hle0 _).setCell (p := ⟨R2, 0, none⟩) hle1 _).setCell (p := ⟨R2, 1, none⟩) hle1 _).drew⟩)
                | (refine bodyPost_ret (results_row_row (p := 2) (u := 3) (ty := 25) (ty2 := 32) rfl _ _ R R2 25 32 _ _ _ _ _ _ rfl ((((K1.out.other h12).other h12).set.set).set).drew Tryz.underlying25 rfl (by kernel_rfl) rfl (((hx2.other h21).other h21).other h21).drew Tryz.underlying32 rfl (by kernel_rfl)) rfl ?_
                   exact ⟨_, _, _, rfl, ⟨0, HQ.out, fun c => absurd c HE.out, fun _ => rfl⟩, HR.out ▸ (((((HB.out.setCell (p := ⟨R2, 0, none⟩) hle1 _).setCell (p := ⟨R2, 1, none⟩) hle1 _).setCell (p := ⟨R, 0, none⟩) hle0 _).setCell (p := ⟨R, 1, none⟩) hle0 _).setCell (p := ⟨R, 2, none⟩) hle0 _).drew⟩)
          · have hfr : fr s = 0 := by rw [hfe, if_neg hm]
            have MN : Hid (mns s = false) := Lib.hid (by simpa using hm)
            clear hfe hsl
            have hm' : ¬ (0 < s.size ∧ bt s 0 = 45) := fun c => hm ((mns_iff s).2 c)
            by_cases hs0 : 0 < s.size
            · have he := sb_bt s 0 hs0
              have b1 : (((s[0]'hs0).toNat : Int) == 45) = false := by rw [beq_eq_false_iff_ne]; omega
              have b2 : (0 : Int) < (s.size : Int) := by omega
              clear he hm hm'
              have HFR := Lib.hid hfr
              have C1 := Lib.hid fun W => refParseP (s.extract 0 l) W
              have l2 : (l : Int) ≤ (s.size : Int) := by have := SL.out.1; omega
              clear hfr
              go_wp2_with fail
              refine (C1.out _).mono ?_
              rintro _ w2 ⟨A1, n1, c1, x1, a1, rfl, hpe, hnr, hb⟩
              obtain ⟨hxr, ha0, ha1⟩ := hpe.range
              replace K1 := Lib.hid (K1.out.after hb)
              replace K2 := Lib.hid (K2.out.after hb)
              replace HB := Lib.hid (HB.out.trans (hb.mono HB.out.size))
              have HPE := Lib.hid hpe
              have HNR := Lib.hid hnr
              have HP1 : Hid (x1 = 0 → PE (s.extract 0 l) 0 0) := Lib.hid fun e => by subst e; obtain rfl := hpe.at0; exact hpe
              clear hpe hnr hb C1 d0 d1 d2 e0 e1' ff ff2 hxr
              go_upto_region 20 with fail
              have hba := below1 w2 (.cells #[.int .i64 x1, .int .i64 a1] 32)
              have KF := Lib.hid (Blk.new w2 #[.int .i64 x1, .int .i64 a1] 32)
              have HFN : Hid (w.heap.size < w2.heap.size ∧ w.heap.size + 1 < w2.heap.size) := Lib.hid ⟨K1.out.lt, K2.out.lt⟩
              replace K1 := Lib.hid (K1.out.after hba)
              replace K2 := Lib.hid (K2.out.after hba)
              have HFS := Lib.hid HB.out.size
              replace HB := Lib.hid (HB.out.trans (hba.mono HB.out.size))
              replace HNR := Lib.hid fun e => (HNR.out e).below hba
              clear hba
              generalize hF : w2.heap.size = F at *
              clear hF
              generalize w2.alloc (.cells #[.int .i64 x1, .int .i64 a1] 32) = w3 at *
              have f0 := KF.out.cell (i := 0) rfl
              have f1 := KF.out.cell (i := 1) rfl
              by_cases hx0 : x1 = 0
              · subst hx0
                have hp1 := HP1.out rfl
                obtain rfl := HPE.out.at0
                have N1 := Lib.hid (HNR.out rfl)
                have HN1 := Lib.hid (pnum_lt hp1)
                clear hp1 HP1 HNR ha0 ha1
                go_upto_region 23 with fail
                have hba := below1 w3 (.cells #[.int .u32 1] 40)
                have N3 := Lib.hid (nr_one w3)
                replace K1 := Lib.hid (K1.out.after hba)
                replace K2 := Lib.hid (K2.out.after hba)
                replace KF := Lib.hid (KF.out.after hba)
                replace HB := Lib.hid (HB.out.trans (hba.mono HB.out.size))
                replace N1 := Lib.hid (N1.out.below hba)
                clear hba f0 f1
                generalize hP : w3.heap.size = P at *
                clear hP
                generalize w3.alloc (.cells #[.int .u32 1] 40) = w4 at *
                by_cases hlt : l < s.size
                · have HLT := Lib.hid hlt
                  have j1 : (l : Int) < (s.size : Int) := by omega
                  have j2 : (l : Int) + 1 ≤ (s.size : Int) := by omega
                  have C2 := Lib.hid fun W => refParseP (s.extract (l + 1) s.size) W
                  clear hlt N3
                  go_wp2_with fail
                  refine (C2.out _).mono ?_
                  rintro _ w5 ⟨A3, n3, c3, x3, a3, rfl, hpe, hnr, hb⟩
                  obtain ⟨hxr, ha0, ha1⟩ := hpe.range
                  replace K1 := Lib.hid (K1.out.after hb)
                  replace K2 := Lib.hid (K2.out.after hb)
                  replace KF := Lib.hid (KF.out.after hb)
                  replace HB := Lib.hid (HB.out.trans (hb.mono HB.out.size))
                  replace N1 := Lib.hid (N1.out.below hb)
                  have HPE2 := Lib.hid hpe
                  have HNR2 := Lib.hid hnr
                  clear hpe hnr hb C2 hxr
                  have f0 := KF.out.cell (i := 0) rfl
                  have f1 := KF.out.cell (i := 1) rfl
                  have ff := KF.out.free
                  have zf := KF.out.lt
                  go_upto_region 25 with fail
                  have g1 : w.heap.size ≠ F := by have := HFN.out; omega
                  have g2 : w.heap.size + 1 ≠ F := by have := HFN.out; omega
                  have k1 := (K1.out.other (h := F) (i := 0) (u := .int .i64 x3) g1).other (h := F) (i := 1) (u := .int .i64 a3) g1
                  have k2 := (K2.out.other (h := F) (i := 0) (u := .int .i64 x3) g2).other (h := F) (i := 1) (u := .int .i64 a3) g2
                  have kF : Blk ((w5.setCell ⟨F, 0, none⟩ (.int .i64 x3)).setCell ⟨F, 1, none⟩ (.int .i64 a3)) F 32 #[.int .i64 x3, .int .i64 a3] := KF.out.set.set
                  have nn1 := N1.out.put2 (i := 0) (j := 1) (u := .int .i64 x3) (x := .int .i64 a3) KF.out (hnoFa _ _)
                  have nn3 : x3 = 0 → Nr ((w5.setCell ⟨F, 0, none⟩ (.int .i64 x3)).setCell ⟨F, 1, none⟩ (.int .i64 a3)) (pnum (s.extract (l + 1) s.size)) (.slice A3 n3 c3) := fun e => (HNR2.out e).put2 KF.out (hnoFa _ _)
                  have hbb : Below w.heap.size w ((w5.setCell ⟨F, 0, none⟩ (.int .i64 x3)).setCell ⟨F, 1, none⟩ (.int .i64 a3)) := (HB.out.setCell (p := ⟨F, 0, none⟩) HFS.out _).setCell (p := ⟨F, 1, none⟩) HFS.out _
                  clear f0 f1 ff zf KF K1 K2 N1 HNR2 HB g1 g2
                  have K1 := Lib.hid k1
                  have K2 := Lib.hid k2
                  have KF := Lib.hid kF
                  have N1 := Lib.hid nn1
                  have HNR2 := Lib.hid nn3
                  have HB := Lib.hid hbb
                  clear k1 k2 kF nn1 nn3 hbb
                  generalize ((w5.setCell ⟨F, 0, none⟩ (.int .i64 x3)).setCell ⟨F, 1, none⟩ (.int .i64 a3)) = w6 at *
                  have f0 := KF.out.cell (i := 0) rfl
                  have f1 := KF.out.cell (i := 1) rfl
                  by_cases hx0 : x3 = 0
                  · subst hx0
                    obtain rfl := HPE2.out.at0
                    have n3' := HNR2.out rfl
                    obtain ⟨_, _, _, e3, hz3⟩ := n3'.len
                    cases e3
                    have N3 := Lib.hid n3'
                    have HN3 := Lib.hid (pnum_lt HPE2.out)
                    clear HNR2 ha0 ha1
                    by_cases hz : pnum (s.extract (l + 1) s.size) = 0
                    · have hn3 : ((n3 : Int) == 0) = true := by rw [beq_iff_eq]; have := hz3.2 hz; omega
                      have HQ : Hid (PQ s 6 ((l : Int) + 1) 0) := Lib.hid (.inr (.inr ⟨H1.out, MS.out, l, SL.out, .inr ⟨by rw [HFR.out]; exact HPE.out, .inr ⟨HLT.out, .inr ⟨HPE2.out, .inl ⟨hz, rfl, by omega⟩⟩⟩⟩⟩))
                      have d0 := K1.out.cell (i := 0) rfl
                      have d1 := K1.out.cell (i := 1) rfl
                      have d2 := K1.out.cell (i := 2) rfl
                      have e0 := K2.out.cell (i := 0) rfl
                      have e1' := K2.out.cell (i := 1) rfl
                      have ff := K1.out.free
                      have ff2 := K2.out.free
                      clear hz hz3 n3' N1 N3
                      go_wp2_with fail
                      refine bodyPost_ret (results_row_row (p := 2) (u := 3) (ty := 25) (ty2 := 32) rfl _ _ w.heap.size (w.heap.size + 1) 25 32 _ _ _ _ _ _ rfl ((K1.out.set.set.set.other h12).other h12) Tryz.underlying25 rfl (by kernel_rfl) rfl (((K2.out.other h21).other h21).other h21).set.set Tryz.underlying32 rfl (by kernel_rfl)) rfl ?_
                      exact ⟨_, _, _, rfl, ⟨0, HQ.out, fun c => absurd c (by decide), fun _ => rfl⟩, ((((HB.out.setCell (p := ⟨w.heap.size, 0, none⟩) (Nat.le_refl _) _).setCell (p := ⟨w.heap.size, 1, none⟩) (Nat.le_refl _) _).setCell (p := ⟨w.heap.size, 2, none⟩) (Nat.le_refl _) _).setCell (p := ⟨w.heap.size + 1, 0, none⟩) (by simp) _).setCell (p := ⟨w.heap.size + 1, 1, none⟩) (by simp) _⟩
                    · have hn3 : ((n3 : Int) == 0) = false := by rw [beq_eq_false_iff_ne]; intro e; exact hz (hz3.1 (by omega))
                      have HNZ := Lib.hid hz
                      have HN0 := Lib.hid hz
                      clear hz hz3 n3'
                      have CL := Lib.hid (refLowestQ false N1.out N3.out HN1.out HN3.out HN0.out)
                      go_wp2_with fail
                      refine CL.out.mono ?_
                      rintro _ w9 ⟨x, rfl, hx, hb⟩
                      obtain ⟨b3, B1, m1, e1, B2, m2, e2, rfl, _, _, _⟩ := hx.get
                      replace HB := Lib.hid (HB.out.trans (hb.mono HB.out.size))
                      replace K1 := Lib.hid (K1.out.after hb)
                      replace K2 := Lib.hid (K2.out.after hb)
                      have z1 := K1.out.lt
                      have z2 := K2.out.lt
                      have d0 := K1.out.cell (i := 0) rfl
                      have d1 := K1.out.cell (i := 1) rfl
                      have d2 := K1.out.cell (i := 2) rfl
                      have e0 := K2.out.cell (i := 0) rfl
                      have e1' := K2.out.cell (i := 1) rfl
                      have ff := K1.out.free
                      have ff2 := K2.out.free
                      have HX := Lib.hid hx
                      have HQ : Hid (PQ s 0 0 _) := Lib.hid (.inr (.inr ⟨H1.out, MS.out, l, SL.out, .inr ⟨by rw [HFR.out]; exact HPE.out, .inr ⟨HLT.out, .inr ⟨HPE2.out, .inr ⟨HNZ.out, rfl, rfl, by rw [HFR.out, MN.out]⟩⟩⟩⟩⟩))
                      clear hx hb CL
                      go_wp2_with fail
                      have kf1 : Blk (((w9.setCell ⟨w.heap.size, 0, none⟩ (.bool b3)).setCell ⟨w.heap.size, 1, none⟩ (.slice B1 m1 e1)).setCell ⟨w.heap.size, 2, none⟩ (.slice B2 m2 e2)) (w.heap.size + 1) 32 #[.int .i64 0, .int .i64 0] := ((K2.out.other h21).other h21).other h21
                      have kr1 : Blk (((w9.setCell ⟨w.heap.size, 0, none⟩ (.bool b3)).setCell ⟨w.heap.size, 1, none⟩ (.slice B1 m1 e1)).setCell ⟨w.heap.size, 2, none⟩ (.slice B2 m2 e2)) w.heap.size 25 #[.bool b3, .slice B1 m1 e1, .slice B2 m2 e2] := K1.out.set.set.set
                      obtain ⟨q1, q2, q3⟩ := HX.out.inv
                      have p1 := q1.put3 (i := 0) (j := 1) (l := 2) (u := .bool b3) (x := .slice B1 m1 e1) (y := .slice B2 m2 e2) K1.out (hnoR _ _ _ _ _ _ _)
                      have p2 := q2.put3 (i := 0) (j := 1) (l := 2) (u := .bool b3) (x := .slice B1 m1 e1) (y := .slice B2 m2 e2) K1.out (hnoR _ _ _ _ _ _ _)
                      refine bodyPost_ret (results_row_row (p := 2) (u := 3) (ty := 25) (ty2 := 32) rfl _ _ w.heap.size (w.heap.size + 1) 25 32 _ _ _ _ _ _ rfl ((kr1.other h12).other h12) Tryz.underlying25 rfl (by kernel_rfl) rfl (kf1.set.set) Tryz.underlying32 rfl (by kernel_rfl)) rfl ?_
                      exact ⟨_, _, _, rfl, ⟨_, HQ.out, fun _ => Rq.mk q3 rfl rfl (p1.put2 kf1 (hnoFa _ _)) (p2.put2 kf1 (hnoFa _ _)), fun c => absurd rfl c⟩, ((((HB.out.setCell (p := ⟨w.heap.size, 0, none⟩) (Nat.le_refl _) _).setCell (p := ⟨w.heap.size, 1, none⟩) (Nat.le_refl _) _).setCell (p := ⟨w.heap.size, 2, none⟩) (Nat.le_refl _) _).setCell (p := ⟨w.heap.size + 1, 0, none⟩) (by simp) _).setCell (p := ⟨w.heap.size + 1, 1, none⟩) (by simp) _⟩
                  · have x2 : (x3 != 0) = true := by rw [bne_iff_ne]; exact hx0
                    have g1 : F ≠ w.heap.size := by have := HFN.out; omega
                    have g2 : F ≠ w.heap.size + 1 := by have := HFN.out; omega
                    have hle1 : w.heap.size ≤ w.heap.size + 1 := by omega
                    have hle0 : w.heap.size ≤ w.heap.size := Nat.le_refl _
                    have HQ : Hid (PQ s x3 (((l : Int) + 1) + a3) 0) := Lib.hid (.inr (.inr ⟨H1.out, MS.out, l, SL.out, .inr ⟨by rw [HFR.out]; exact HPE.out, .inr ⟨HLT.out, .inl ⟨a3, HPE2.out, hx0, by omega⟩⟩⟩⟩))
                    have HE := Lib.hid hx0
                    have hwr : IntKind.wrap .i64 ((l : Int) + 1) = (l : Int) + 1 := IntWalk.i64_in _ (by omega)
                    have hwr2 : IntKind.wrap .i64 (((l : Int) + 1) + a3) = ((l : Int) + 1) + a3 := IntWalk.i64_in _ (by omega)
                    clear HNR2
                    go_upto_region 26 with fail
                    clear f0 f1
                    generalize hR2 : w.heap.size + 1 = R2 at *
                    clear hR2
                    generalize hR : w.heap.size = R at *
                    have HR := Lib.hid hR
                    clear hR
                    have KEEP := Lib.hid KF.out.cellsD
                    have KS3 : Hid (∀ u v x, (((w6.setCell ⟨R, 0, none⟩ u).setCell ⟨R, 1, none⟩ v).setCell ⟨R, 2, none⟩ x).drew.cell? ⟨F, 0, none⟩ = some (.int .i64 x3) ∧ (((w6.setCell ⟨R, 0, none⟩ u).setCell ⟨R, 1, none⟩ v).setCell ⟨R, 2, none⟩ x).drew.cell? ⟨F, 1, none⟩ = some (.int .i64 a3)) := Lib.hid fun u v x => (KF.out.f3 g1 u v x).cellsD
                    have KS5 : Hid (∀ u v x y z, (((((w6.setCell ⟨R, 0, none⟩ u).setCell ⟨R, 1, none⟩ v).setCell ⟨R, 2, none⟩ x).setCell ⟨R2, 0, none⟩ y).setCell ⟨R2, 1, none⟩ z).drew.cell? ⟨F, 0, none⟩ = some (.int .i64 x3) ∧ (((((w6.setCell ⟨R, 0, none⟩ u).setCell ⟨R, 1, none⟩ v).setCell ⟨R, 2, none⟩ x).setCell ⟨R2, 0, none⟩ y).setCell ⟨R2, 1, none⟩ z).drew.cell? ⟨F, 1, none⟩ = some (.int .i64 a3)) := Lib.hid fun u v x y z => (((KF.out.f3 g1 u v x).other g2).other g2).cellsD
                    have KS2 : Hid (∀ y z, ((w6.setCell ⟨R2, 0, none⟩ y).setCell ⟨R2, 1, none⟩ z).drew.cell? ⟨F, 0, none⟩ = some (.int .i64 x3) ∧ ((w6.setCell ⟨R2, 0, none⟩ y).setCell ⟨R2, 1, none⟩ z).drew.cell? ⟨F, 1, none⟩ = some (.int .i64 a3)) := Lib.hid fun y z => ((KF.out.other g2).other g2).cellsD
                    have KS6 : Hid (∀ u v x y z, (((((w6.setCell ⟨R2, 0, none⟩ y).setCell ⟨R2, 1, none⟩ z).setCell ⟨R, 0, none⟩ u).setCell ⟨R, 1, none⟩ v).setCell ⟨R, 2, none⟩ x).drew.cell? ⟨F, 0, none⟩ = some (.int .i64 x3) ∧ (((((w6.setCell ⟨R2, 0, none⟩ y).setCell ⟨R2, 1, none⟩ z).setCell ⟨R, 0, none⟩ u).setCell ⟨R, 1, none⟩ v).setCell ⟨R, 2, none⟩ x).drew.cell? ⟨F, 1, none⟩ = some (.int .i64 a3)) := Lib.hid fun u v x y z => (((KF.out.other g2).other g2).f3 g1 u v x).cellsD
                    have d0 := K1.out.cell (i := 0) rfl
                    have d1 := K1.out.cell (i := 1) rfl
                    have d2 := K1.out.cell (i := 2) rfl
                    have e0 := K2.out.cell (i := 0) rfl
                    have e1 := K2.out.cell (i := 1) rfl
                    have ff := K1.out.free
                    have ff2 := K2.out.free
                    go_region_held3 (fun W => W.cell? ⟨F, 0, none⟩ = some (.int .i64 x3) ∧ W.cell? ⟨F, 1, none⟩ = some (.int .i64 a3))
                      (first | with_reducible exact KEEP.out | with_reducible exact KS3.out _ _ _ | with_reducible exact KS5.out _ _ _ _ _ | with_reducible exact KS2.out _ _ | with_reducible exact KS6.out _ _ _ _ _ | fail)
                      (fail)
                    all_goals
                      clear KEEP KS3 KS5 KS2 KS6 d0 d1 d2 e0 e1 ff ff2
                      have hx1 := ((K1.out.set (i := 0) (v := .bool false)).set (i := 1) (v := .slice none 0 0)).set (i := 2) (v := .slice none 0 0)
                      have hx2 := (K2.out.set (i := 0) (v := .int .i64 x3)).set (i := 1) (v := .int .i64 (((l : Int) + 1) + a3))
                      go_wp2_with fail
                    first
                      | (refine bodyPost_ret (results_row_row (p := 2) (u := 3) (ty := 25) (ty2 := 32) rfl _ _ R R2 25 32 _ _ _ _ _ _ rfl ((hx1.other h12).other h12).drew Tryz.underlying25 rfl (by kernel_rfl) rfl ((((K2.out.other h21).other h21).other h21).set.set).drew Tryz.underlying32 rfl (by kernel_rfl)) rfl ?_
                         exact ⟨_, _, _, rfl, ⟨0, HQ.out, fun c => absurd c HE.out, fun _ => rfl⟩, HR.out ▸ (((((HB.out.setCell (p := ⟨R, 0, none⟩) hle0 _).setCell (p := ⟨R, 1, none⟩) hle0 _).setCell (p := ⟨R, 2, none⟩) hle0 _).setCell (p := ⟨R2, 0, none⟩) hle1 _).setCell (p := ⟨R2, 1, none⟩) hle1 _).drew⟩)
                      | (refine bodyPost_ret (results_row_row (p := 2) (u := 3) (ty := 25) (ty2 := 32) rfl _ _ R R2 25 32 _ _ _ _ _ _ rfl ((((K1.out.other h12).other h12).set.set).set).drew Tryz.underlying25 rfl (by kernel_rfl) rfl (((hx2.other h21).other h21).other h21).drew Tryz.underlying32 rfl (by kernel_rfl)) rfl ?_
                         exact ⟨_, _, _, rfl, ⟨0, HQ.out, fun c => absurd c HE.out, fun _ => rfl⟩, HR.out ▸ (((((HB.out.setCell (p := ⟨R2, 0, none⟩) hle1 _).setCell (p := ⟨R2, 1, none⟩) hle1 _).setCell (p := ⟨R, 0, none⟩) hle0 _).setCell (p := ⟨R, 1, none⟩) hle0 _).setCell (p := ⟨R, 2, none⟩) hle0 _).drew⟩)
                · have HGE := Lib.hid hlt
                  have j1 : ¬ (l : Int) < (s.size : Int) := by omega
                  have HN3 := one_lt
                  have HN0 : Hid ((1 : Nat) ≠ 0) := Lib.hid (by decide)
                  clear hlt
                  have CL := Lib.hid (refLowestQ false N1.out N3.out HN1.out HN3.out HN0.out)
                  go_wp2_with fail
                  refine CL.out.mono ?_
                  rintro _ w9 ⟨x, rfl, hx, hb⟩
                  obtain ⟨b3, B1, m1, e1, B2, m2, e2, rfl, _, _, _⟩ := hx.get
                  replace HB := Lib.hid (HB.out.trans (hb.mono HB.out.size))
                  replace K1 := Lib.hid (K1.out.after hb)
                  replace K2 := Lib.hid (K2.out.after hb)
                  have z1 := K1.out.lt
                  have z2 := K2.out.lt
                  have d0 := K1.out.cell (i := 0) rfl
                  have d1 := K1.out.cell (i := 1) rfl
                  have d2 := K1.out.cell (i := 2) rfl
                  have e0 := K2.out.cell (i := 0) rfl
                  have e1' := K2.out.cell (i := 1) rfl
                  have ff := K1.out.free
                  have ff2 := K2.out.free
                  have HX := Lib.hid hx
                  have HQ : Hid (PQ s 0 0 _) := Lib.hid (.inr (.inr ⟨H1.out, MS.out, l, SL.out, .inr ⟨by rw [HFR.out]; exact HPE.out, .inl ⟨HGE.out, rfl, rfl, by rw [HFR.out, MN.out]⟩⟩⟩))
                  clear hx hb CL
                  go_wp2_with fail
                  have kf1 : Blk (((w9.setCell ⟨w.heap.size, 0, none⟩ (.bool b3)).setCell ⟨w.heap.size, 1, none⟩ (.slice B1 m1 e1)).setCell ⟨w.heap.size, 2, none⟩ (.slice B2 m2 e2)) (w.heap.size + 1) 32 #[.int .i64 0, .int .i64 0] := ((K2.out.other h21).other h21).other h21
                  have kr1 : Blk (((w9.setCell ⟨w.heap.size, 0, none⟩ (.bool b3)).setCell ⟨w.heap.size, 1, none⟩ (.slice B1 m1 e1)).setCell ⟨w.heap.size, 2, none⟩ (.slice B2 m2 e2)) w.heap.size 25 #[.bool b3, .slice B1 m1 e1, .slice B2 m2 e2] := K1.out.set.set.set
                  obtain ⟨q1, q2, q3⟩ := HX.out.inv
                  have p1 := q1.put3 (i := 0) (j := 1) (l := 2) (u := .bool b3) (x := .slice B1 m1 e1) (y := .slice B2 m2 e2) K1.out (hnoR _ _ _ _ _ _ _)
                  have p2 := q2.put3 (i := 0) (j := 1) (l := 2) (u := .bool b3) (x := .slice B1 m1 e1) (y := .slice B2 m2 e2) K1.out (hnoR _ _ _ _ _ _ _)
                  refine bodyPost_ret (results_row_row (p := 2) (u := 3) (ty := 25) (ty2 := 32) rfl _ _ w.heap.size (w.heap.size + 1) 25 32 _ _ _ _ _ _ rfl ((kr1.other h12).other h12) Tryz.underlying25 rfl (by kernel_rfl) rfl (kf1.set.set) Tryz.underlying32 rfl (by kernel_rfl)) rfl ?_
                  exact ⟨_, _, _, rfl, ⟨_, HQ.out, fun _ => Rq.mk q3 rfl rfl (p1.put2 kf1 (hnoFa _ _)) (p2.put2 kf1 (hnoFa _ _)), fun c => absurd rfl c⟩, ((((HB.out.setCell (p := ⟨w.heap.size, 0, none⟩) (Nat.le_refl _) _).setCell (p := ⟨w.heap.size, 1, none⟩) (Nat.le_refl _) _).setCell (p := ⟨w.heap.size, 2, none⟩) (Nat.le_refl _) _).setCell (p := ⟨w.heap.size + 1, 0, none⟩) (by simp) _).setCell (p := ⟨w.heap.size + 1, 1, none⟩) (by simp) _⟩
              · have x2 : (x1 != 0) = true := by rw [bne_iff_ne]; exact hx0
                have g1 : F ≠ w.heap.size := by have := HFN.out; omega
                have g2 : F ≠ w.heap.size + 1 := by have := HFN.out; omega
                have hle1 : w.heap.size ≤ w.heap.size + 1 := by omega
                have hle0 : w.heap.size ≤ w.heap.size := Nat.le_refl _
                have HQ : Hid (PQ s x1 (a1) 0) := Lib.hid (.inr (.inr ⟨H1.out, MS.out, l, SL.out, .inl ⟨a1, by rw [HFR.out]; exact HPE.out, hx0, by rw [HFR.out]; omega⟩⟩))
                have HE := Lib.hid hx0
                have hwr : IntKind.wrap .i64 (a1) = a1 := IntWalk.i64_in _ (by omega)
                clear HNR HP1
                go_upto_region 21 with fail
                clear f0 f1
                generalize hR2 : w.heap.size + 1 = R2 at *
                clear hR2
                generalize hR : w.heap.size = R at *
                have HR := Lib.hid hR
                clear hR
                have KEEP := Lib.hid KF.out.cellsD
                have KS3 : Hid (∀ u v x, (((w3.setCell ⟨R, 0, none⟩ u).setCell ⟨R, 1, none⟩ v).setCell ⟨R, 2, none⟩ x).drew.cell? ⟨F, 0, none⟩ = some (.int .i64 x1) ∧ (((w3.setCell ⟨R, 0, none⟩ u).setCell ⟨R, 1, none⟩ v).setCell ⟨R, 2, none⟩ x).drew.cell? ⟨F, 1, none⟩ = some (.int .i64 a1)) := Lib.hid fun u v x => (KF.out.f3 g1 u v x).cellsD
                have KS5 : Hid (∀ u v x y z, (((((w3.setCell ⟨R, 0, none⟩ u).setCell ⟨R, 1, none⟩ v).setCell ⟨R, 2, none⟩ x).setCell ⟨R2, 0, none⟩ y).setCell ⟨R2, 1, none⟩ z).drew.cell? ⟨F, 0, none⟩ = some (.int .i64 x1) ∧ (((((w3.setCell ⟨R, 0, none⟩ u).setCell ⟨R, 1, none⟩ v).setCell ⟨R, 2, none⟩ x).setCell ⟨R2, 0, none⟩ y).setCell ⟨R2, 1, none⟩ z).drew.cell? ⟨F, 1, none⟩ = some (.int .i64 a1)) := Lib.hid fun u v x y z => (((KF.out.f3 g1 u v x).other g2).other g2).cellsD
                have KS2 : Hid (∀ y z, ((w3.setCell ⟨R2, 0, none⟩ y).setCell ⟨R2, 1, none⟩ z).drew.cell? ⟨F, 0, none⟩ = some (.int .i64 x1) ∧ ((w3.setCell ⟨R2, 0, none⟩ y).setCell ⟨R2, 1, none⟩ z).drew.cell? ⟨F, 1, none⟩ = some (.int .i64 a1)) := Lib.hid fun y z => ((KF.out.other g2).other g2).cellsD
                have KS6 : Hid (∀ u v x y z, (((((w3.setCell ⟨R2, 0, none⟩ y).setCell ⟨R2, 1, none⟩ z).setCell ⟨R, 0, none⟩ u).setCell ⟨R, 1, none⟩ v).setCell ⟨R, 2, none⟩ x).drew.cell? ⟨F, 0, none⟩ = some (.int .i64 x1) ∧ (((((w3.setCell ⟨R2, 0, none⟩ y).setCell ⟨R2, 1, none⟩ z).setCell ⟨R, 0, none⟩ u).setCell ⟨R, 1, none⟩ v).setCell ⟨R, 2, none⟩ x).drew.cell? ⟨F, 1, none⟩ = some (.int .i64 a1)) := Lib.hid fun u v x y z => (((KF.out.other g2).other g2).f3 g1 u v x).cellsD
                have d0 := K1.out.cell (i := 0) rfl
                have d1 := K1.out.cell (i := 1) rfl
                have d2 := K1.out.cell (i := 2) rfl
                have e0 := K2.out.cell (i := 0) rfl
                have e1 := K2.out.cell (i := 1) rfl
                have ff := K1.out.free
                have ff2 := K2.out.free
                go_region_held3 (fun W => W.cell? ⟨F, 0, none⟩ = some (.int .i64 x1) ∧ W.cell? ⟨F, 1, none⟩ = some (.int .i64 a1))
                  (first | with_reducible exact KEEP.out | with_reducible exact KS3.out _ _ _ | with_reducible exact KS5.out _ _ _ _ _ | with_reducible exact KS2.out _ _ | with_reducible exact KS6.out _ _ _ _ _ | fail)
                  (fail)
                all_goals
                  clear KEEP KS3 KS5 KS2 KS6 d0 d1 d2 e0 e1 ff ff2
                  have hx1 := ((K1.out.set (i := 0) (v := .bool false)).set (i := 1) (v := .slice none 0 0)).set (i := 2) (v := .slice none 0 0)
                  have hx2 := (K2.out.set (i := 0) (v := .int .i64 x1)).set (i := 1) (v := .int .i64 (a1))
                  go_wp2_with fail
                first
                  | (refine bodyPost_ret (results_row_row (p := 2) (u := 3) (ty := 25) (ty2 := 32) rfl _ _ R R2 25 32 _ _ _ _ _ _ rfl ((hx1.other h12).other h12).drew Tryz.underlying25 rfl (by kernel_rfl) rfl ((((K2.out.other h21).other h21).other h21).set.set).drew Tryz.underlying32 rfl (by kernel_rfl)) rfl ?_
                     exact ⟨_, _, _, rfl, ⟨0, HQ.out, fun c => absurd c HE.out, fun _ => rfl⟩, HR.out ▸ (((((HB.out.setCell (p := ⟨R, 0, none⟩) hle0 _).setCell (p := ⟨R, 1, none⟩) hle0 _).setCell (p := ⟨R, 2, none⟩) hle0 _).setCell (p := ⟨R2, 0, none⟩) hle1 _).setCell (p := ⟨R2, 1, none⟩) hle1 _).drew⟩)
                  | (refine bodyPost_ret (results_row_row (p := 2) (u := 3) (ty := 25) (ty2 := 32) rfl _ _ R R2 25 32 _ _ _ _ _ _ rfl ((((K1.out.other h12).other h12).set.set).set).drew Tryz.underlying25 rfl (by kernel_rfl) rfl (((hx2.other h21).other h21).other h21).drew Tryz.underlying32 rfl (by kernel_rfl)) rfl ?_
                     exact ⟨_, _, _, rfl, ⟨0, HQ.out, fun c => absurd c HE.out, fun _ => rfl⟩, HR.out ▸ (((((HB.out.setCell (p := ⟨R2, 0, none⟩) hle1 _).setCell (p := ⟨R2, 1, none⟩) hle1 _).setCell (p := ⟨R, 0, none⟩) hle0 _).setCell (p := ⟨R, 1, none⟩) hle0 _).setCell (p := ⟨R, 2, none⟩) hle0 _).drew⟩)
            · have b2 : ¬ (0 : Int) < (s.size : Int) := by omega
              clear hm hm'
              have HFR := Lib.hid hfr
              have C1 := Lib.hid fun W => refParseP (s.extract 0 l) W
              have l2 : (l : Int) ≤ (s.size : Int) := by have := SL.out.1; omega
              clear hfr
              go_wp2_with fail
              refine (C1.out _).mono ?_
              rintro _ w2 ⟨A1, n1, c1, x1, a1, rfl, hpe, hnr, hb⟩
              obtain ⟨hxr, ha0, ha1⟩ := hpe.range
              replace K1 := Lib.hid (K1.out.after hb)
              replace K2 := Lib.hid (K2.out.after hb)
              replace HB := Lib.hid (HB.out.trans (hb.mono HB.out.size))
              have HPE := Lib.hid hpe
              have HNR := Lib.hid hnr
              have HP1 : Hid (x1 = 0 → PE (s.extract 0 l) 0 0) := Lib.hid fun e => by subst e; obtain rfl := hpe.at0; exact hpe
              clear hpe hnr hb C1 d0 d1 d2 e0 e1' ff ff2 hxr
              go_upto_region 20 with fail
              have hba := below1 w2 (.cells #[.int .i64 x1, .int .i64 a1] 32)
              have KF := Lib.hid (Blk.new w2 #[.int .i64 x1, .int .i64 a1] 32)
              have HFN : Hid (w.heap.size < w2.heap.size ∧ w.heap.size + 1 < w2.heap.size) := Lib.hid ⟨K1.out.lt, K2.out.lt⟩
              replace K1 := Lib.hid (K1.out.after hba)
              replace K2 := Lib.hid (K2.out.after hba)
              have HFS := Lib.hid HB.out.size
              replace HB := Lib.hid (HB.out.trans (hba.mono HB.out.size))
              replace HNR := Lib.hid fun e => (HNR.out e).below hba
              clear hba
              generalize hF : w2.heap.size = F at *
              clear hF
              generalize w2.alloc (.cells #[.int .i64 x1, .int .i64 a1] 32) = w3 at *
              have f0 := KF.out.cell (i := 0) rfl
              have f1 := KF.out.cell (i := 1) rfl
              by_cases hx0 : x1 = 0
              · exact absurd (hx0 ▸ HPE.out) (pe_empty (by rw [ByteArray.size_extract]; omega))
              · have x2 : (x1 != 0) = true := by rw [bne_iff_ne]; exact hx0
                have g1 : F ≠ w.heap.size := by have := HFN.out; omega
                have g2 : F ≠ w.heap.size + 1 := by have := HFN.out; omega
                have hle1 : w.heap.size ≤ w.heap.size + 1 := by omega
                have hle0 : w.heap.size ≤ w.heap.size := Nat.le_refl _
                have HQ : Hid (PQ s x1 (a1) 0) := Lib.hid (.inr (.inr ⟨H1.out, MS.out, l, SL.out, .inl ⟨a1, by rw [HFR.out]; exact HPE.out, hx0, by rw [HFR.out]; omega⟩⟩))
                have HE := Lib.hid hx0
                have hwr : IntKind.wrap .i64 (a1) = a1 := IntWalk.i64_in _ (by omega)
                clear HNR HP1
                go_upto_region 21 with fail
                clear f0 f1
                generalize hR2 : w.heap.size + 1 = R2 at *
                clear hR2
                generalize hR : w.heap.size = R at *
                have HR := Lib.hid hR
                clear hR
                have KEEP := Lib.hid KF.out.cellsD
                have KS3 : Hid (∀ u v x, (((w3.setCell ⟨R, 0, none⟩ u).setCell ⟨R, 1, none⟩ v).setCell ⟨R, 2, none⟩ x).drew.cell? ⟨F, 0, none⟩ = some (.int .i64 x1) ∧ (((w3.setCell ⟨R, 0, none⟩ u).setCell ⟨R, 1, none⟩ v).setCell ⟨R, 2, none⟩ x).drew.cell? ⟨F, 1, none⟩ = some (.int .i64 a1)) := Lib.hid fun u v x => (KF.out.f3 g1 u v x).cellsD
                have KS5 : Hid (∀ u v x y z, (((((w3.setCell ⟨R, 0, none⟩ u).setCell ⟨R, 1, none⟩ v).setCell ⟨R, 2, none⟩ x).setCell ⟨R2, 0, none⟩ y).setCell ⟨R2, 1, none⟩ z).drew.cell? ⟨F, 0, none⟩ = some (.int .i64 x1) ∧ (((((w3.setCell ⟨R, 0, none⟩ u).setCell ⟨R, 1, none⟩ v).setCell ⟨R, 2, none⟩ x).setCell ⟨R2, 0, none⟩ y).setCell ⟨R2, 1, none⟩ z).drew.cell? ⟨F, 1, none⟩ = some (.int .i64 a1)) := Lib.hid fun u v x y z => (((KF.out.f3 g1 u v x).other g2).other g2).cellsD
                have KS2 : Hid (∀ y z, ((w3.setCell ⟨R2, 0, none⟩ y).setCell ⟨R2, 1, none⟩ z).drew.cell? ⟨F, 0, none⟩ = some (.int .i64 x1) ∧ ((w3.setCell ⟨R2, 0, none⟩ y).setCell ⟨R2, 1, none⟩ z).drew.cell? ⟨F, 1, none⟩ = some (.int .i64 a1)) := Lib.hid fun y z => ((KF.out.other g2).other g2).cellsD
                have KS6 : Hid (∀ u v x y z, (((((w3.setCell ⟨R2, 0, none⟩ y).setCell ⟨R2, 1, none⟩ z).setCell ⟨R, 0, none⟩ u).setCell ⟨R, 1, none⟩ v).setCell ⟨R, 2, none⟩ x).drew.cell? ⟨F, 0, none⟩ = some (.int .i64 x1) ∧ (((((w3.setCell ⟨R2, 0, none⟩ y).setCell ⟨R2, 1, none⟩ z).setCell ⟨R, 0, none⟩ u).setCell ⟨R, 1, none⟩ v).setCell ⟨R, 2, none⟩ x).drew.cell? ⟨F, 1, none⟩ = some (.int .i64 a1)) := Lib.hid fun u v x y z => (((KF.out.other g2).other g2).f3 g1 u v x).cellsD
                have d0 := K1.out.cell (i := 0) rfl
                have d1 := K1.out.cell (i := 1) rfl
                have d2 := K1.out.cell (i := 2) rfl
                have e0 := K2.out.cell (i := 0) rfl
                have e1 := K2.out.cell (i := 1) rfl
                have ff := K1.out.free
                have ff2 := K2.out.free
                go_region_held3 (fun W => W.cell? ⟨F, 0, none⟩ = some (.int .i64 x1) ∧ W.cell? ⟨F, 1, none⟩ = some (.int .i64 a1))
                  (first | with_reducible exact KEEP.out | with_reducible exact KS3.out _ _ _ | with_reducible exact KS5.out _ _ _ _ _ | with_reducible exact KS2.out _ _ | with_reducible exact KS6.out _ _ _ _ _ | fail)
                  (fail)
                all_goals
                  clear KEEP KS3 KS5 KS2 KS6 d0 d1 d2 e0 e1 ff ff2
                  have hx1 := ((K1.out.set (i := 0) (v := .bool false)).set (i := 1) (v := .slice none 0 0)).set (i := 2) (v := .slice none 0 0)
                  have hx2 := (K2.out.set (i := 0) (v := .int .i64 x1)).set (i := 1) (v := .int .i64 (a1))
                  go_wp2_with fail
                first
                  | (refine bodyPost_ret (results_row_row (p := 2) (u := 3) (ty := 25) (ty2 := 32) rfl _ _ R R2 25 32 _ _ _ _ _ _ rfl ((hx1.other h12).other h12).drew Tryz.underlying25 rfl (by kernel_rfl) rfl ((((K2.out.other h21).other h21).other h21).set.set).drew Tryz.underlying32 rfl (by kernel_rfl)) rfl ?_
                     exact ⟨_, _, _, rfl, ⟨0, HQ.out, fun c => absurd c HE.out, fun _ => rfl⟩, HR.out ▸ (((((HB.out.setCell (p := ⟨R, 0, none⟩) hle0 _).setCell (p := ⟨R, 1, none⟩) hle0 _).setCell (p := ⟨R, 2, none⟩) hle0 _).setCell (p := ⟨R2, 0, none⟩) hle1 _).setCell (p := ⟨R2, 1, none⟩) hle1 _).drew⟩)
                  | (refine bodyPost_ret (results_row_row (p := 2) (u := 3) (ty := 25) (ty2 := 32) rfl _ _ R R2 25 32 _ _ _ _ _ _ rfl ((((K1.out.other h12).other h12).set.set).set).drew Tryz.underlying25 rfl (by kernel_rfl) rfl (((hx2.other h21).other h21).other h21).drew Tryz.underlying32 rfl (by kernel_rfl)) rfl ?_
                     exact ⟨_, _, _, rfl, ⟨0, HQ.out, fun c => absurd c HE.out, fun _ => rfl⟩, HR.out ▸ (((((HB.out.setCell (p := ⟨R2, 0, none⟩) hle1 _).setCell (p := ⟨R2, 1, none⟩) hle1 _).setCell (p := ⟨R, 0, none⟩) hle0 _).setCell (p := ⟨R, 1, none⟩) hle0 _).setCell (p := ⟨R, 2, none⟩) hle0 _).drew⟩)
end Go.Proofs.YtbjaolmlnkliiaaGreatDoor

/- The walk of RatTexts: it returns true, and writes nothing that was there. Conditions as premises: the number reads, and the tables hold what their initialisers lay. -/
namespace Go.Proofs.YtbjaolmlnkliiaaGreatDoor
open Go.RowKit Go.Shelf
attribute [local go_sem ↓] Go.wp_at_zero Go.wp_at_succ

theorem refRatParse_any (s : ByteArray) (w : World) : Calls Tryz.prog 16 #[.string s] w (PRet w s) := by
  by_cases h1 : 20000 < s.size
  · refine (refRatParse_long s h1 w).mono ?_
    rintro e w' ⟨he, hb⟩
    exact ⟨_, _, _, he, ⟨0, .inl ⟨h1, rfl, rfl⟩, fun c => absurd c (by decide), fun _ => rfl⟩, hb⟩
  · exact refRatParse_rest s (by omega) w
theorem RqO.cast2 {w : World} {er : Int} {q r : Rat} {v : Value} (h : RqO w er q v) (e : er = 0 → q = r) : RqO w er r v := ⟨fun c => e c ▸ h.1 c, h.2⟩
theorem longT {w : World} (neg : Bool) (A A' : Option Addr) (n c m c' : Nat) (b : Bool) (h : lgB n m = b) :
    Calls Tryz.prog 11 #[.agg #[.bool neg, .slice A n c, .slice A' m c']] w fun e w' => e = .returned (.bool b) ∧ Below w.heap.size w w' := by
  have := longR_any (w := w) neg A A' n c m c'
  rw [h] at this
  exact this
set_option maxRecDepth 100000 in
set_option maxHeartbeats 16000000 in
theorem ratTexts_awake (b1 : Bool) (A1 A1' : Option Addr) (n1 c1 n1' c1' : Nat) (s : ByteArray) (w : World) (hT : Tabs w) (l1 : lgB n1 n1' = true ∨ (lgB n1 n1' = false ∧ ((500 < s.size ∧ s.size ≤ 9210) ∨ (9230 < s.size ∧ s.size ≤ 19990) ∨ 20010 < s.size))) :
    Calls Tryz.prog 3 #[.agg #[.bool b1, .slice A1 n1 c1, .slice A1' n1' c1'], .string s] w fun e w' => e = .returned (.bool true) ∧ Below w.heap.size w w' := by
  have hbb := below1 w (.cells #[.bool b1, .slice A1 n1 c1, .slice A1' n1' c1'] 25)
  have HX := Lib.hid hbb
  have KP1 := Lib.hid (Blk.new w #[.bool b1, .slice A1 n1 c1, .slice A1' n1' c1'] 25)
  have HT := Lib.hid hT
  clear hT hbb
  have d10 := KP1.out.cell (i := 0) rfl
  have d11 := KP1.out.cell (i := 1) rfl
  have d12 := KP1.out.cell (i := 2) rfl
  rcases l1 with hl | ⟨hl, ⟨h1, h2⟩ | ⟨h1, h2⟩ | h1⟩
  · have CL := Lib.hid fun w => longT (w := w) b1 A1 A1' n1 c1 n1' c1' true hl
    clear hl
    go_enter Tryz.func3, Tryz.ntmps3
    go_wp2_with fail
    refine (CL.out _).mono ?_
    rintro _ w3 ⟨rfl, hb⟩
    replace HX := Lib.hid (HX.out.trans (hb.mono HX.out.size))
    clear hb d10 d11 d12 KP1 CL
    go_wp2_with fail
    refine (awakeN (HT.out.below HX.out)).mono ?_
    rintro _ w5 ⟨rfl, hb⟩
    replace HX := Lib.hid (HX.out.trans (hb.mono HX.out.size))
    clear hb
    go_wp2_with fail
    go_ret
    exact ⟨rfl, HX.out⟩
  all_goals
    have CL := Lib.hid fun w => longT (w := w) b1 A1 A1' n1 c1 n1' c1' false hl
    clear hl
  · have i1 : (500 : Int) < (s.size : Int) := by omega
    have i2 : (s.size : Int) ≤ 9210 := by omega
    clear h1 h2
    go_enter Tryz.func3, Tryz.ntmps3
    go_wp2_with fail
    refine (CL.out _).mono ?_
    rintro _ w3 ⟨rfl, hb⟩
    replace HX := Lib.hid (HX.out.trans (hb.mono HX.out.size))
    clear hb d10 d11 d12 KP1 CL
    go_wp2_with fail
    refine (awakeN (HT.out.below HX.out)).mono ?_
    rintro _ w5 ⟨rfl, hb⟩
    replace HX := Lib.hid (HX.out.trans (hb.mono HX.out.size))
    clear hb
    go_wp2_with fail
    go_ret
    exact ⟨rfl, HX.out⟩
  · have i1 : (9230 : Int) < (s.size : Int) := by omega
    have i2 : (s.size : Int) ≤ 19990 := by omega
    clear h1 h2
    go_enter Tryz.func3, Tryz.ntmps3
    go_wp2_with fail
    refine (CL.out _).mono ?_
    rintro _ w3 ⟨rfl, hb⟩
    replace HX := Lib.hid (HX.out.trans (hb.mono HX.out.size))
    clear hb d10 d11 d12 KP1 CL
    go_wp2_with fail
    refine (awakeN (HT.out.below HX.out)).mono ?_
    rintro _ w5 ⟨rfl, hb⟩
    replace HX := Lib.hid (HX.out.trans (hb.mono HX.out.size))
    clear hb
    go_wp2_with fail
    go_ret
    exact ⟨rfl, HX.out⟩
  · have i1 : (20010 : Int) < (s.size : Int) := by omega
    clear h1
    go_enter Tryz.func3, Tryz.ntmps3
    go_wp2_with fail
    refine (CL.out _).mono ?_
    rintro _ w3 ⟨rfl, hb⟩
    replace HX := Lib.hid (HX.out.trans (hb.mono HX.out.size))
    clear hb d10 d11 d12 KP1 CL
    go_wp2_with fail
    refine (awakeN (HT.out.below HX.out)).mono ?_
    rintro _ w5 ⟨rfl, hb⟩
    replace HX := Lib.hid (HX.out.trans (hb.mono HX.out.size))
    clear hb
    go_wp2_with fail
    go_ret
    exact ⟨rfl, HX.out⟩

set_option maxRecDepth 100000 in
set_option maxHeartbeats 16000000 in
theorem ratTexts_main (b1 : Bool) (A1 A1' : Option Addr) (n1 c1 n1' c1' : Nat) (f1 g1 : Nat → Nat) (s : ByteArray) (w : World) (h : Raw w b1 A1 n1 c1 f1 A1' n1' c1' g1) (hT : Tabs w) (hP : Tab w) (l1 : ¬ Lg n1 n1') (hs : s.size ≤ 500 ∨ (9210 < s.size ∧ s.size ≤ 9230) ∨ (19990 < s.size ∧ s.size ≤ 20010)) :
    Calls Tryz.prog 3 #[.agg #[.bool b1, .slice A1 n1 c1, .slice A1' n1' c1'], .string s] w fun e w' => e = .returned (.bool true) ∧ Below w.heap.size w w' := by
  have hbb := below1 w (.cells #[.bool b1, .slice A1 n1 c1, .slice A1' n1' c1'] 25)
  have HX := Lib.hid hbb
  have KP1 := Lib.hid (Blk.new w #[.bool b1, .slice A1 n1 c1, .slice A1' n1' c1'] 25)
  have HA := Lib.hid h
  have HT := Lib.hid hT
  have HP := Lib.hid hP
  have CL := Lib.hid fun w => longT (w := w) b1 A1 A1' n1 c1 n1' c1' false (lgB_no l1)
  have hL1 := Lib.hid l1
  obtain ⟨EC, hEC⟩ : ∃ x, chkR b1 n1 f1 n1' g1 = x := ⟨_, rfl⟩
  have HEC := Lib.hid hEC
  clear h hT hP hbb l1 hEC
  have d10 := KP1.out.cell (i := 0) rfl
  have d11 := KP1.out.cell (i := 1) rfl
  have d12 := KP1.out.cell (i := 2) rfl
  have hs' : ((s.size : Int) ≤ 500) ∨ ((500 : Int) < s.size ∧ (9210 : Int) < s.size ∧ (s.size : Int) ≤ 9230) ∨ ((500 : Int) < s.size ∧ (9210 : Int) < s.size ∧ (9230 : Int) < s.size ∧ (19990 : Int) < s.size ∧ (s.size : Int) ≤ 20010) := by omega
  clear hs
  go_enter Tryz.func3, Tryz.ntmps3
  go_wp2_with fail
  refine (CL.out _).mono ?_
  rintro _ w3 ⟨rfl, hb⟩
  replace HX := Lib.hid (HX.out.trans (hb.mono HX.out.size))
  replace KP1 := Lib.hid (KP1.out.after hb)
  clear hb d10 d11 d12 CL
  have d10 := KP1.out.cell (i := 0) rfl
  have d11 := KP1.out.cell (i := 1) rfl
  have d12 := KP1.out.cell (i := 2) rfl
  rcases hs' with i1 | ⟨i1, i2, i3⟩ | ⟨i1, i2, i3, i4, i5⟩
  all_goals
    have C := ratTextO (HA.out.below HX.out) (HP.out.after HX.out) hL1.out
    rw [HEC.out] at C
    have CC := Lib.hid C
    clear C
    go_wp2_with fail
    refine CC.out.mono ?_
    rintro _ w4 ⟨t, rfl, ht, hb⟩
    have HT1 := Lib.hid ht
    replace HX := Lib.hid (HX.out.trans (hb.mono HX.out.size))
    replace KP1 := Lib.hid (KP1.out.after hb)
    clear hb ht CC d10 d11 d12
    have d10 := KP1.out.cell (i := 0) rfl
    have d11 := KP1.out.cell (i := 1) rfl
    have d12 := KP1.out.cell (i := 2) rfl
    have C := refRatTextO (HA.out.below HX.out) hL1.out
    rw [HEC.out] at C
    have CC := Lib.hid C
    clear C
    go_wp2_with fail
    refine CC.out.mono ?_
    rintro _ w5 ⟨u, rfl, hu, hb⟩
    obtain rfl := HT1.out.uniq hu
    replace HX := Lib.hid (HX.out.trans (hb.mono HX.out.size))
    clear hb hu CC d10 d11 d12 HT1 KP1
    have CP := Lib.hid (ratParse_any s w5 (HP.out.after HX.out) (HT.out.below HX.out))
    go_wp2_with fail
    refine CP.out.mono ?_
    rintro _ w6 ⟨X, er, a, rfl, ⟨q, hq, hX⟩, hb⟩
    obtain ⟨b2, A2, n2, c2, A2', n2', c2', rfl⟩ := hX.get
    have hba := below2 w6 (.cells #[.bool b2, .slice A2 n2 c2, .slice A2' n2' c2'] 25) (.cells #[.int .i64 er, .int .i64 a] 32)
    have hbb := hb.trans (hba.mono hb.size)
    replace HX := Lib.hid (HX.out.trans (hbb.mono HX.out.size))
    have RX := Lib.hid (hX.below hba)
    have HQ := Lib.hid hq
    have KP2 := Lib.hid ((Blk.new w6 #[.bool b2, .slice A2 n2 c2, .slice A2' n2' c2'] 25).alloc (.cells #[.int .i64 er, .int .i64 a] 32))
    have kp3 := Blk.new (w6.alloc (.cells #[.bool b2, .slice A2 n2 c2, .slice A2' n2' c2'] 25)) #[.int .i64 er, .int .i64 a] 32
    simp only [World.size_alloc] at kp3
    have KP3 := Lib.hid kp3
    clear hX hq hb hba hbb CP kp3
    go_upto_region 6 with fail
    generalize hP3 : w6.heap.size + 1 = P3 at *
    clear hP3
    generalize hP2 : w6.heap.size = P2 at *
    clear hP2
    generalize (w6.alloc (.cells #[.bool b2, .slice A2 n2 c2, .slice A2' n2' c2'] 25)).alloc (.cells #[.int .i64 er, .int .i64 a] 32) = v6 at *
    have CP := Lib.hid (refRatParse_any s v6)
    go_wp2_with fail
    refine CP.out.mono ?_
    rintro _ w7 ⟨X, er', a', rfl, ⟨q', hq, hX⟩, hb⟩
    obtain ⟨rfl, rfl, hqq⟩ := HQ.out.uniq hq
    obtain ⟨b3, A3, n3, c3, A3', n3', c3', rfl⟩ := hX.get
    have hba := below2 w7 (.cells #[.bool b3, .slice A3 n3 c3, .slice A3' n3' c3'] 25) (.cells #[.int .i64 er, .int .i64 a] 32)
    have hbb := hb.trans (hba.mono hb.size)
    replace HX := Lib.hid (HX.out.trans (hbb.mono HX.out.size))
    have SR := Lib.hid (sameRatO (RX.out.below hbb) ((hX.below hba).cast2 fun e => (hqq e).symm))
    replace KP2 := Lib.hid (KP2.out.after hbb)
    replace KP3 := Lib.hid (KP3.out.after hbb)
    have KP4 := Lib.hid ((Blk.new w7 #[.bool b3, .slice A3 n3 c3, .slice A3' n3' c3'] 25).alloc (.cells #[.int .i64 er, .int .i64 a] 32))
    have kp5 := Blk.new (w7.alloc (.cells #[.bool b3, .slice A3 n3 c3, .slice A3' n3' c3'] 25)) #[.int .i64 er, .int .i64 a] 32
    simp only [World.size_alloc] at kp5
    have KP5 := Lib.hid kp5
    clear hX hq hb hba hbb CP kp5 hqq HQ RX
    go_upto_region 7 with fail
    generalize hP5 : w7.heap.size + 1 = P5 at *
    clear hP5
    generalize hP4 : w7.heap.size = P4 at *
    clear hP4
    generalize (w7.alloc (.cells #[.bool b3, .slice A3 n3 c3, .slice A3' n3' c3'] 25)).alloc (.cells #[.int .i64 er, .int .i64 a] 32) = v7 at *
    have p0 := KP2.out.cell (i := 0) rfl
    have p1 := KP2.out.cell (i := 1) rfl
    have p2 := KP2.out.cell (i := 2) rfl
    have p3 := KP4.out.cell (i := 0) rfl
    have p4 := KP4.out.cell (i := 1) rfl
    have p5 := KP4.out.cell (i := 2) rfl
    go_wp2_with fail
    refine SR.out.mono ?_
    rintro _ w8 ⟨rfl, hb⟩
    replace HX := Lib.hid (HX.out.trans (hb.mono HX.out.size))
    replace KP3 := Lib.hid (KP3.out.after hb)
    replace KP5 := Lib.hid (KP5.out.after hb)
    clear hb p0 p1 p2 p3 p4 p5 SR KP2 KP4
    have p0 := KP3.out.cell (i := 0) rfl
    have p1 := KP3.out.cell (i := 1) rfl
    have p2 := KP5.out.cell (i := 0) rfl
    have p3 := KP5.out.cell (i := 1) rfl
    have CA := Lib.hid (awakeN (HT.out.below HX.out))
    go_wp2_with fail
    refine CA.out.mono ?_
    rintro _ w9 ⟨rfl, hb⟩
    replace HX := Lib.hid (HX.out.trans (hb.mono HX.out.size))
    clear hb p0 p1 p2 p3 CA
    go_wp2_with fail
    go_ret
    exact ⟨rfl, HX.out⟩
end Go.Proofs.YtbjaolmlnkliiaaGreatDoor

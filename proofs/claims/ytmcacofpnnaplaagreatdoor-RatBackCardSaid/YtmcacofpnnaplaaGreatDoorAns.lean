/- The contracts of fit, sum, Add and Sub of the program. Conditions as premises: the lists read. -/
import Derived.Test.YtmcacofpnnaplaaGreatDoorDiff
import Derived.Test.YtmcacofpnnaplaaGreatDoorAwake
namespace Go.Proofs.YtmcacofpnnaplaaGreatDoor
open Go.RowKit Go.Shelf

/-- how many limbs a number may have -/
@[irreducible] def NL : Nat := 1024
theorem NL_eq : NL = 1024 := by unfold NL; rfl
theorem one_lt_NL : 1 < LB ^ NL := Nat.one_lt_pow (by rw [NL_eq]; omega) (by rw [LB_eq]; omega)
/-- the error of a result that is too long -/
noncomputable def fitE (N : Nat) : Int := by
  classical exact if N < LB ^ NL then 0 else 5
theorem fitE_ok {N : Nat} (h : N < LB ^ NL) : fitE N = 0 := by unfold fitE; rw [if_pos h]
theorem fitE_over {N : Nat} (h : LB ^ NL ≤ N) : fitE N = 5 := by unfold fitE; rw [if_neg (Nat.not_lt.2 h)]
/-- the number that comes with an error -/
noncomputable def zr (er : Int) (N : Nat) : Nat := if er = 0 then N else 0
theorem zr_ok (N : Nat) : zr 0 N = N := by unfold zr; rw [if_pos rfl]
theorem zr_bad {er : Int} (h : er ≠ 0) (N : Nat) : zr er N = 0 := by unfold zr; rw [if_neg h]

/-- what a call that makes a number or finds an error leaves -/
def Ans (w : World) (er : Int) (N : Nat) (e : Ending) (w' : World) : Prop := ∃ v, e = .returned (.tuple #[v, .int .i64 er]) ∧ Made w (zr er N) v w'

theorem made_rs {w0 w : World} {n c : Nat} {A : Option Addr} {f : Nat → Nat} {N : Nat} (hr : Rs w w.heap.size A n c f) (hd : Dig n f N) (hb : Below w0.heap.size w0 w) : Made w0 N (.slice A n c) w := ⟨A, n, c, f, rfl, hr, hd, hb⟩
theorem Made.nil {w w' : World} (h : Below w.heap.size w w') : Made w 0 (.slice none 0 0) w' :=
  ⟨none, 0, 0, fun _ => 0, rfl, Rs.nil _ _ _, ⟨⟨fun j hj => by omega, fun h => by omega⟩, rfl⟩, h⟩
theorem Ans.bad {w w' : World} {er : Int} {N : Nat} (he : er ≠ 0) (hb : Below w.heap.size w w') : Ans w er N (.returned (.tuple #[.slice none 0 0, .int .i64 er])) w' :=
  ⟨_, rfl, by rw [zr_bad he]; exact Made.nil hb⟩
theorem Ans.after {w w1 w' : World} {er : Int} {N : Nat} {e : Ending} (hb : Below w.heap.size w w1) (h : Ans w1 er N e w') : Ans w er N e w' := by
  obtain ⟨v, he, hm⟩ := h; exact ⟨v, he, hm.after hb⟩

theorem Dig.len_iff {n N : Nat} {f : Nat → Nat} (h : Dig n f N) : (n ≤ 1024 → N < LB ^ NL) ∧ (1024 < n → LB ^ NL ≤ N) := by
  constructor
  · intro hn; rw [← h.eq]; exact Nat.lt_of_lt_of_le h.ok.lt (pow_le_of (by rw [NL_eq]; exact hn))
  · intro hn; rw [← h.eq]; exact Nat.le_trans (pow_le_of (by rw [NL_eq]; omega)) (h.ok.top_le (by omega))
theorem Dig.len_NL {n N : Nat} {f : Nat → Nat} (h : Dig n f N) (hN : N < LB ^ NL) : n ≤ 1024 := by
  have := h.len_le hN
  rw [NL_eq] at this; exact this

theorem fit_any {w0 w : World} {N : Nat} {v : Value} (h : Made w0 N v w) : Calls Tryz.prog 151 #[v] w fun e w' => Ans w0 (fitE N) N e w' := by
  obtain ⟨A, n, c, f, rfl, hr, hd, hb⟩ := h
  rcases Nat.lt_or_ge 1024 n with hn | hn
  · refine (fit_over A n c w hn).mono ?_
    rintro e w' ⟨rfl, rfl⟩
    rw [fitE_over (hd.len_iff.2 hn)]
    exact Ans.bad (by decide) hb
  · refine (fit_ok A n c w hn).mono ?_
    rintro e w' ⟨rfl, rfl⟩
    rw [fitE_ok (hd.len_iff.1 hn)]
    exact ⟨_, rfl, by rw [zr_ok]; exact ⟨A, n, c, f, rfl, hr, hd, hb⟩⟩

theorem sum_any (A1 A2 : Option Addr) (len1 cap1 len2 cap2 : Nat) (f g : Nat → Nat) (w : World) (hr1 : Rs w w.heap.size A1 len1 cap1 f) (hr2 : Rs w w.heap.size A2 len2 cap2 g)
    (hf : ∀ j, j < len1 → f j < LB) (hg : ∀ j, j < len2 → g j < LB) (hl1 : len1 ≤ 4096) (hl2 : len2 ≤ 4096) :
    Calls Tryz.prog 152 #[.slice A1 len1 cap1, .slice A2 len2 cap2] w fun e W' => ∃ v, e = .returned v ∧ Made w (nv f len1 + nv g len2) v W' := by
  rcases Nat.lt_or_ge len1 len2 with h | h
  · exact callsIn_wide.1 (sum_in2 A1 A2 len1 cap1 len2 cap2 f g w hr1 hr2 hf hg hl1 hl2 h)
  · exact callsIn_wide.1 (sum_in1 A1 A2 len1 cap1 len2 cap2 f g w hr1 hr2 hf hg hl1 hl2 h)

/-- the error of a sum -/
noncomputable def addE (n : Nat) (f : Nat → Nat) (m : Nat) (g : Nat → Nat) : Int := if chk2 n f m g = 0 then fitE (nv f n + nv g m) else chk2 n f m g

set_option maxRecDepth 100000 in
set_option maxHeartbeats 1600000 in
theorem natAdd_any (A A' : Option Addr) (n c m c' : Nat) (f g : Nat → Nat) (w : World) (hA : Rs w w.heap.size A n c f) (hB : Rs w w.heap.size A' m c' g) :
    Calls Tryz.prog 127 #[.slice A n c, .slice A' m c'] w fun e w' => Ans w (addE n f m g) (nv f n + nv g m) e w' := by
  have c1 := checkAll_call A A' n c m c' f g w hA hB
  have hb : Below w.heap.size w (w.alloc (.cells #[.slice A n c, .slice A' m c'] 23)) := (Below.refl _ _).alloc (Nat.le_refl _) _
  have HB := Lib.hid hb
  by_cases h : chk2 n f m g = 0
  · rw [show addE n f m g = fitE (nv f n + nv g m) by unfold addE; rw [if_pos h]]
    obtain ⟨h1, h2⟩ := chk2_zero h
    obtain ⟨hn, vf⟩ := chk_zero h1
    obtain ⟨hm, vg⟩ := chk_zero h2
    rw [h] at c1
    have C1 := Lib.hid c1
    have C2 := Lib.hid (sum_any A A' n c m c' f g (w.alloc (.cells #[.slice A n c, .slice A' m c'] 23)) ((hA.below hb).more hb.size) ((hB.below hb).more hb.size) vf.1 vg.1 (by omega) (by omega))
    clear c1 h h1 h2 vf vg hn hm hA hB hb
    go_enter Tryz.func127, Tryz.ntmps127
    go_wp2_with fail
    refine C1.out.mono ?_
    rintro e w' ⟨rfl, rfl⟩
    go_wp2_with fail
    refine C2.out.mono ?_
    rintro e w' ⟨v, rfl, hm⟩
    have HM := Lib.hid hm
    clear hm
    go_wp2_with fail
    refine (fit_any HM.out).mono ?_
    rintro e w2 ⟨u, rfl, hm⟩
    have HM2 := Lib.hid hm
    clear hm
    generalize hge : fitE (nv f n + nv g m) = er at *
    have HGE := Lib.hid hge
    clear hge
    go_wp2_with fail
    go_ret2
    exact ⟨u, by rw [HGE.out]; rfl, by rw [HGE.out]; exact HM2.out.after HB.out⟩
  · rw [show addE n f m g = chk2 n f m g by unfold addE; rw [if_neg h]]
    have h1 : (chk2 n f m g != 0) = true := by rw [bne_iff_ne]; exact h
    have h2 : (chk2 n f m g == 0) = false := by rw [beq_eq_false_iff_ne]; exact h
    have H := Lib.hid h
    have C1 := Lib.hid c1
    clear c1 h hA hB hb
    generalize chk2 n f m g = er at *
    go_enter Tryz.func127, Tryz.ntmps127
    go_wp2_with fail
    refine C1.out.mono ?_
    rintro e w' ⟨rfl, rfl⟩
    go_wp2_with fail
    go_ret2
    exact Ans.bad H.out HB.out

/-- the error of a difference -/
noncomputable def subE (n : Nat) (f : Nat → Nat) (m : Nat) (g : Nat → Nat) : Int := if chk2 n f m g = 0 then (if nv f n < nv g m then 2 else 0) else chk2 n f m g

theorem Below.drewN (w : World) (k : Nat) : Below w.heap.size w (w.drewN k) := ⟨rfl, rfl, rfl, Nat.le_refl _, fun _ _ => rfl⟩

set_option maxRecDepth 100000 in
set_option maxHeartbeats 1600000 in
theorem natSub_any (A A' : Option Addr) (n c m c' : Nat) (f g : Nat → Nat) (w : World) (hA : Rs w w.heap.size A n c f) (hB : Rs w w.heap.size A' m c' g) :
    Calls Tryz.prog 130 #[.slice A n c, .slice A' m c'] w fun e w' => Ans w (subE n f m g) (nv f n - nv g m) e w' := by
  have c1 := checkAll_call A A' n c m c' f g w hA hB
  have hb : Below w.heap.size w (w.alloc (.cells #[.slice A n c, .slice A' m c'] 23)) := (Below.refl _ _).alloc (Nat.le_refl _) _
  have HB := Lib.hid hb
  by_cases h : chk2 n f m g = 0
  · obtain ⟨h1, h2⟩ := chk2_zero h
    obtain ⟨hn, vf⟩ := chk_zero h1
    obtain ⟨hm, vg⟩ := chk_zero h2
    rw [h] at c1
    have C1 := Lib.hid c1
    have hA1 := (hA.below hb).more hb.size
    have hB1 := (hB.below hb).more hb.size
    have c2 := compare_any A A' n c m c' f g _ _ (w.alloc (.cells #[.slice A n c, .slice A' m c'] 23)) hA1 hB1 vf vg
    by_cases hlt : nv f n < nv g m
    · rw [show subE n f m g = 2 by unfold subE; rw [if_pos h, if_pos hlt]]
      rw [cn_lt hlt] at c2
      have C2 := Lib.hid c2
      clear c1 c2 h h1 h2 vf vg hn hm hA hB hb hA1 hB1 hlt
      go_enter Tryz.func130, Tryz.ntmps130
      go_wp2_with fail
      refine C1.out.mono ?_
      rintro e w' ⟨rfl, rfl⟩
      go_wp2_with fail
      refine C2.out.mono ?_
      rintro e w' ⟨rfl, d, rfl⟩
      go_wp2_with fail
      go_ret2
      exact Ans.bad (by decide) (HB.out.trans ((Below.drewN _ _).mono HB.out.size))
    · rw [show subE n f m g = 0 by unfold subE; rw [if_pos h, if_neg hlt]]
      have hml : m ≤ n := by
        rcases Nat.lt_or_ge n m with h3 | h3
        · exact absurd (vf.lt_of_len vg h3) hlt
        · exact h3
      have hcn : cn (nv f n) (nv g m) = 0 ∨ cn (nv f n) (nv g m) = 1 := by
        rcases Nat.eq_or_lt_of_le (Nat.not_lt.1 hlt) with e | e
        · exact .inl (cn_eq e.symm)
        · exact .inr (cn_gt e)
      have C2 := Lib.hid c2
      have C3 := Lib.hid fun d => callsIn_wide.1 (diff_in A A' n c m c' f g ((w.alloc (.cells #[.slice A n c, .slice A' m c'] 23)).drewN d) (hA1.drewN d) (hB1.drewN d) vf.1 vg.1 (by omega) (by omega) hml (Nat.not_lt.1 hlt))
      clear c1 c2 h h1 h2 vf vg hn hm hA hB hb hA1 hB1 hlt hml
      generalize cn (nv f n) (nv g m) = cc at *
      have hcc : ¬ cc < 0 := by rcases hcn with rfl | rfl <;> decide
      clear hcn
      go_enter Tryz.func130, Tryz.ntmps130
      go_wp2_with fail
      refine C1.out.mono ?_
      rintro e w' ⟨rfl, rfl⟩
      go_wp2_with fail
      refine C2.out.mono ?_
      rintro e w' ⟨rfl, d, rfl⟩
      go_wp2_with fail
      refine (C3.out d).mono ?_
      rintro e w' ⟨v, rfl, hm⟩
      have HM := Lib.hid hm
      clear hm
      go_wp2_with fail
      go_ret2
      exact ⟨_, rfl, by rw [zr_ok]; exact HM.out.after (HB.out.trans ((Below.drewN _ _).mono HB.out.size))⟩
  · rw [show subE n f m g = chk2 n f m g by unfold subE; rw [if_neg h]]
    have h1 : (chk2 n f m g != 0) = true := by rw [bne_iff_ne]; exact h
    have h2 : (chk2 n f m g == 0) = false := by rw [beq_eq_false_iff_ne]; exact h
    have H := Lib.hid h
    have C1 := Lib.hid c1
    clear c1 h hA hB hb
    generalize chk2 n f m g = er at *
    go_enter Tryz.func130, Tryz.ntmps130
    go_wp2_with fail
    refine C1.out.mono ?_
    rintro e w' ⟨rfl, rfl⟩
    go_wp2_with fail
    go_ret2
    exact Ans.bad H.out HB.out

/-- the error of a product -/
noncomputable def mulE (n : Nat) (f : Nat → Nat) (m : Nat) (g : Nat → Nat) : Int := if chk2 n f m g = 0 then fitE (nv f n * nv g m) else chk2 n f m g

/-- the error of a power -/
noncomputable def powE (n : Nat) (f : Nat → Nat) (e : Int) : Int := if chk n f = 0 then (if e < 0 ∨ 10000 < e then 2 else fitE (nv f n ^ e.toNat)) else chk n f

theorem powE_bad {n : Nat} {f : Nat → Nat} {e : Int} (h : chk n f ≠ 0) : powE n f e = chk n f := by unfold powE; rw [if_neg h]
theorem powE_range {n : Nat} {f : Nat → Nat} {e : Int} (h : chk n f = 0) (he : e < 0 ∨ 10000 < e) : powE n f e = 2 := by unfold powE; rw [if_pos h, if_pos he]
theorem powE_ok {n : Nat} {f : Nat → Nat} {k : Nat} (h : chk n f = 0) (he : k ≤ 10000) : powE n f (k : Int) = fitE (nv f n ^ k) := by
  unfold powE; rw [if_pos h, if_neg (by omega), Int.toNat_natCast]

theorem pow_mono {a i k : Nat} (ha : 2 ≤ a) (h : i ≤ k) : a ^ i ≤ a ^ k := Nat.pow_le_pow_right (by omega) h

end Go.Proofs.YtmcacofpnnaplaaGreatDoor

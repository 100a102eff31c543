/- The contracts of Mul at numbers of one limb, of Div by a number of one limb, of 'is', and of 'awake', which returns true. Conditions as premises. -/
import Derived.Test.YtmcacofpnnaplaaGreatDoorDivLimb
namespace Go.Proofs.YtmcacofpnnaplaaGreatDoor
open Go.RowKit

set_option maxHeartbeats 400000 in
theorem fit_ok (A : Option Addr) (n c : Nat) (w : World) (h : n ≤ 1024) :
    Calls Tryz.prog 151 #[.slice A n c] w fun e w' => e = .returned (.tuple #[.slice A n c, .int .i64 0]) ∧ w = w' := by
  have h' : ¬ 1024 < n := by omega
  go_enter Tryz.func151, Tryz.ntmps151
  go_wp2
  go_ret2
  exact ⟨rfl, rfl⟩

set_option maxHeartbeats 400000 in
theorem fit_over (A : Option Addr) (n c : Nat) (w : World) (h : 1024 < n) :
    Calls Tryz.prog 151 #[.slice A n c] w fun e w' => e = .returned (.tuple #[.slice none 0 0, .int .i64 5]) ∧ w = w' := by
  go_enter Tryz.func151, Tryz.ntmps151
  go_wp2
  go_ret2
  exact ⟨rfl, rfl⟩

theorem Dig.len_le {n k N : Nat} {f : Nat → Nat} (h : Dig n f N) (hN : N < LB ^ k) : n ≤ k := by
  rcases Nat.lt_or_ge k n with hk | hk
  · exfalso
    have h1 := h.ok.top_le (by omega)
    rw [h.eq] at h1
    have h2 : LB ^ k ≤ LB ^ (n - 1) := pow_le_of (by omega)
    omega
  · exact hk

set_option maxHeartbeats 800000 in
set_option maxRecDepth 100000 in
theorem multiply11_any (A A' : Option Addr) (c c' : Nat) (f g : Nat → Nat) (w : World) (hA : Rs w w.heap.size A 1 c f) (hB : Rs w w.heap.size A' 1 c' g) (hf : f 0 < LB) (hg : g 0 < LB) :
    Calls Tryz.prog 144 #[.slice A 1 c, .slice A' 1 c'] w fun e w' => ∃ v, e = .returned (.tuple #[v, .int .i64 0]) ∧ Made w (f 0 * g 0) v w' := by
  have HP := Lib.hid (product11_any A A' c c' f g w hA hB hf hg)
  have hlt : f 0 * g 0 < LB ^ 2 := by rw [Nat.pow_two]; exact Nat.mul_lt_mul'' hf hg
  have HL := Lib.hid hlt
  clear hlt hf hg
  go_enter Tryz.func144, Tryz.ntmps144
  go_wp2_with fail
  refine HP.out.mono ?_
  rintro e w' ⟨v, rfl, A2, n2, c2, f2, rfl, hr2, hd2, hb⟩
  have HD := Lib.hid hd2
  have HFT := Lib.hid (fit_ok A2 n2 c2 w' (by have := hd2.len_le HL.out; omega))
  clear hd2
  go_wp2_with fail
  refine HFT.out.mono ?_
  rintro e w' ⟨rfl, rfl⟩
  go_wp2_with fail
  go_ret2
  exact ⟨_, rfl, A2, n2, c2, f2, rfl, hr2, HD.out, hb⟩

/-- the call of checkAll as the functions of two lists make it -/
theorem checkAll_call (A A' : Option Addr) (n c m c' : Nat) (f g : Nat → Nat) (w : World) (hA : Rs w w.heap.size A n c f) (hB : Rs w w.heap.size A' m c' g) :
    Calls Tryz.prog 143 #[.slice (some ⟨w.heap.size, 0, none⟩) 2 2] (w.alloc (.cells #[.slice A n c, .slice A' m c'] 23)) fun e w' => e = .returned (.int .i64 (chk2 n f m g)) ∧ w.alloc (.cells #[.slice A n c, .slice A' m c'] 23) = w' :=
  checkAll_any w.heap.size A A' n c m c' f g _ _ (w.alloc (.cells #[.slice A n c, .slice A' m c'] 23)) (hA.alloc (Nat.le_refl _) _) (hB.alloc (Nat.le_refl _) _) (by rw [World.cell?_alloc_at _ _ _ _ rfl]; rfl) (by rw [World.cell?_alloc_at _ _ _ _ rfl]; rfl)

theorem chk2_ok {n m : Nat} {f g : Nat → Nat} (hn : n ≤ 1024) (hm : m ≤ 1024) (vf : Val n f) (vg : Val m g) : chk2 n f m g = 0 := by
  unfold chk2; rw [if_pos (chk_ok (by omega) vf)]; exact chk_ok (by omega) vg

theorem Made.after {w w1 w' : World} {N : Nat} {v : Value} (hb : Below w.heap.size w w1) (h : Made w1 N v w') : Made w N v w' := by
  obtain ⟨A, n, c, f, e, hr, hd, hb'⟩ := h
  exact ⟨A, n, c, f, e, hr, hd, hb.trans (hb'.mono hb.size)⟩

set_option maxHeartbeats 800000 in
set_option maxRecDepth 100000 in
theorem natMul11_any (A A' : Option Addr) (c c' : Nat) (f g : Nat → Nat) (w : World) (hA : Rs w w.heap.size A 1 c f) (hB : Rs w w.heap.size A' 1 c' g) (vf : Val 1 f) (vg : Val 1 g) :
    Calls Tryz.prog 111 #[.slice A 1 c, .slice A' 1 c'] w fun e w' => ∃ v, e = .returned (.tuple #[v, .int .i64 0]) ∧ Made w (f 0 * g 0) v w' := by
  have c1 := checkAll_call A A' 1 c 1 c' f g w hA hB
  rw [chk2_ok (by omega) (by omega) vf vg] at c1
  have hb : Below w.heap.size w (w.alloc (.cells #[.slice A 1 c, .slice A' 1 c'] 23)) := (Below.refl _ _).alloc (Nat.le_refl _) _
  have C2 := Lib.hid (multiply11_any A A' c c' f g (w.alloc (.cells #[.slice A 1 c, .slice A' 1 c'] 23)) ((hA.below hb).more hb.size) ((hB.below hb).more hb.size) (vf.1 0 (by omega)) (vg.1 0 (by omega)))
  have C1 := Lib.hid c1
  clear c1 vf vg
  go_enter Tryz.func111, Tryz.ntmps111
  go_wp2_with fail
  refine C1.out.mono ?_
  rintro e w' ⟨rfl, rfl⟩
  go_wp2_with fail
  refine C2.out.mono ?_
  rintro e w' ⟨v, rfl, hm⟩
  have HM := Lib.hid hm
  clear hm
  go_wp2_with fail
  go_ret2
  exact ⟨_, rfl, HM.out.after hb⟩

/-- what a call that makes two lists leaves -/
def Made2 (w : World) (N M : Nat) (v u : Value) (w' : World) : Prop :=
  ∃ A n c f A' n' c' f', v = .slice A n c ∧ Rs w' w'.heap.size A n c f ∧ Dig n f N ∧ u = .slice A' n' c' ∧ Rs w' w'.heap.size A' n' c' f' ∧ Dig n' f' M ∧ Below w.heap.size w w'
theorem Made2.after {w w1 w' : World} {N M : Nat} {v u : Value} (hb : Below w.heap.size w w1) (h : Made2 w1 N M v u w') : Made2 w N M v u w' := by
  obtain ⟨A, n, c, f, A', n', c', f', e, hr, hd, e', hr', hd', hb'⟩ := h
  exact ⟨A, n, c, f, A', n', c', f', e, hr, hd, e', hr', hd', hb.trans (hb'.mono hb.size)⟩
theorem Made2.of {w w1 w' : World} {N M : Nat} {v u : Value} (h : Made w N v w1) (k : Made w1 M u w') : Made2 w N M v u w' := by
  obtain ⟨A, n, c, f, e, hr, hd, hb⟩ := h
  obtain ⟨A', n', c', f', e', hr', hd', hb'⟩ := k
  exact ⟨A, n, c, f, A', n', c', f', e, (hr.below hb').more hb'.size, hd, e', hr', hd', hb.trans (hb'.mono hb.size)⟩
theorem Made2.fst {w w' : World} {N M : Nat} {v u : Value} (h : Made2 w N M v u w') : Made w N v w' := by
  obtain ⟨A, n, c, f, A', n', c', f', e, hr, hd, e', hr', hd', hb'⟩ := h
  exact ⟨A, n, c, f, e, hr, hd, hb'⟩
theorem Made2.snd {w w' : World} {N M : Nat} {v u : Value} (h : Made2 w N M v u w') : Made w M u w' := by
  obtain ⟨A, n, c, f, A', n', c', f', e, hr, hd, e', hr', hd', hb'⟩ := h
  exact ⟨A', n', c', f', e', hr', hd', hb'⟩

set_option maxHeartbeats 800000 in
set_option maxRecDepth 100000 in
theorem divide1_any (A A' : Option Addr) (n c c' : Nat) (f g : Nat → Nat) (w : World) (hA : Rs w w.heap.size A n c f) (hB : Rs w w.heap.size A' 1 c' g) (vf : Val n f) (vg : Val 1 g) (hn : 2 < n) (hn' : n ≤ 1024) :
    Calls Tryz.prog 165 #[.slice A n c, .slice A' 1 c'] w fun e w' => ∃ v u, e = .returned (.tuple #[v, u]) ∧ Made2 w (nv f n / nv g 1) (nv f n % nv g 1) v u w' := by
  have hcmp := compare_any A A' n c 1 c' f g _ _ w hA hB vf vg
  rw [cn_gt (vg.lt_of_len vf (by omega))] at hcmp
  have C1 := Lib.hid hcmp
  clear hcmp
  obtain ⟨b, off, rfl, hb, hc⟩ := hB.cell (by omega)
  have h0 := hc 0 (by omega)
  rw [Nat.add_zero] at h0
  have hg1 : nv g 1 = g 0 := by simp [nv]
  have hg0 : 0 < g 0 := by have := vg.2 (by omega); simp at this; omega
  have hgl := vg.1 0 (by omega)
  have HG0 := Lib.hid hg0
  have HGL := Lib.hid hgl
  have VF := Lib.hid vf
  rw [hg1]
  clear hc hg1 hg0 hgl vf vg
  go_enter Tryz.func165, Tryz.ntmps165
  go_wp2_with fail
  refine C1.out.mono ?_
  rintro e w' ⟨rfl, d, rfl⟩
  have C2 := Lib.hid (divideLimb_any A n c (g 0) f (w.drewN d) (hA.drewN d) VF.out.1 (by omega) HG0.out HGL.out)
  have hm1 : iv (nv f n % g 0) < 1000000000 := iv_limb (Nat.lt_trans (Nat.mod_lt _ HG0.out) HGL.out)
  have hm0 := iv_nonneg (nv f n % g 0)
  go_wp2_with fail
  refine C2.out.mono ?_
  rintro e w1 ⟨v, rfl, hm⟩
  have HM := Lib.hid hm
  clear hm
  generalize hgx : iv (nv f n % g 0) = x at *
  have HGX := Lib.hid hgx
  clear hgx
  go_wp2_with fail
  refine (fromWord_any _ hm0 (Big.mk (by omega)) _).mono ?_
  rintro e w2 ⟨u, rfl, hm2⟩
  have e2 : x.toNat = nv f n % g 0 := by rw [← HGX.out, iv_eq]; omega
  rw [e2] at hm2
  have HM2 := Lib.hid hm2
  clear hm2 e2
  go_wp2_with fail
  go_ret2
  exact ⟨_, _, rfl, Made2.after (Qt.n1 w d).below (Made2.of HM.out HM2.out)⟩

set_option maxHeartbeats 800000 in
set_option maxRecDepth 100000 in
theorem natDiv1_any (A A' : Option Addr) (n c c' : Nat) (f g : Nat → Nat) (w : World) (hA : Rs w w.heap.size A n c f) (hB : Rs w w.heap.size A' 1 c' g) (vf : Val n f) (vg : Val 1 g) (hn : 2 < n) (hn' : n ≤ 1024) :
    Calls Tryz.prog 153 #[.slice A n c, .slice A' 1 c'] w fun e w' => ∃ v u, e = .returned (.tuple #[v, u, .int .i64 0]) ∧ Made2 w (nv f n / nv g 1) (nv f n % nv g 1) v u w' := by
  have c1 := checkAll_call A A' n c 1 c' f g w hA hB
  rw [chk2_ok (by omega) (by omega) vf vg] at c1
  have hb : Below w.heap.size w (w.alloc (.cells #[.slice A n c, .slice A' 1 c'] 23)) := (Below.refl _ _).alloc (Nat.le_refl _) _
  have C2 := Lib.hid (divide1_any A A' n c c' f g (w.alloc (.cells #[.slice A n c, .slice A' 1 c'] 23)) ((hA.below hb).more hb.size) ((hB.below hb).more hb.size) vf vg hn hn')
  have C1 := Lib.hid c1
  clear c1 vf vg
  go_enter Tryz.func153, Tryz.ntmps153
  go_wp2_with fail
  refine C1.out.mono ?_
  rintro e w' ⟨rfl, rfl⟩
  go_wp2_with fail
  refine C2.out.mono ?_
  rintro e w' ⟨v, u, rfl, hm⟩
  have HM := Lib.hid hm
  clear hm
  go_wp2_with fail
  go_ret3
  exact ⟨_, _, rfl, HM.out.after hb⟩

end Go.Proofs.YtmcacofpnnaplaaGreatDoor

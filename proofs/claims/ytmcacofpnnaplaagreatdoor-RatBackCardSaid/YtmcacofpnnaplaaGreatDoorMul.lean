/- The contracts of multiply and Mul. Conditions as premises: the lists read. -/
import Derived.Test.YtmcacofpnnaplaaGreatDoorProduct
namespace Go.Proofs.YtmcacofpnnaplaaGreatDoor
open Go.RowKit Go.Shelf

theorem product_all (A A' : Option Addr) (n c m c' : Nat) (f g : Nat → Nat) (w : World) (hA : Rs w w.heap.size A n c f) (hB : Rs w w.heap.size A' m c' g) (hf : ∀ j, j < n → f j < LB) (hg : ∀ j, j < m → g j < LB) (hn : n ≤ 2000) (hm : m ≤ 2000) :
    Calls Tryz.prog 161 #[.slice A n c, .slice A' m c'] w fun e w' => ∃ v, e = .returned v ∧ Made w (nv f n * nv g m) v w' := by
  by_cases h : n = 1 ∧ m = 1
  · obtain ⟨rfl, rfl⟩ := h
    rw [show nv f 1 = f 0 by simp [nv], show nv g 1 = g 0 by simp [nv]]
    exact product11_any A A' c c' f g w hA hB (hf 0 (by omega)) (hg 0 (by omega))
  · exact product_any A A' n c m c' f g w hA hB hf hg hn hm h

set_option maxRecDepth 100000 in
set_option maxHeartbeats 1600000 in
theorem multiply_any (A A' : Option Addr) (n c m c' : Nat) (f g : Nat → Nat) (w : World) (hA : Rs w w.heap.size A n c f) (hB : Rs w w.heap.size A' m c' g) (vf : Val n f) (vg : Val m g) (hn : n ≤ 1024) (hm : m ≤ 1024) :
    Calls Tryz.prog 144 #[.slice A n c, .slice A' m c'] w fun e w' => Ans w (fitE (nv f n * nv g m)) (nv f n * nv g m) e w' := by
  by_cases h : 1024 < (n : Int) + (m : Int) - 1
  · have hge : LB ^ NL ≤ nv f n * nv g m := by
      have h1 := Nat.mul_le_mul (vf.top_le (by omega)) (vg.top_le (by omega))
      rw [← Nat.pow_add] at h1
      exact Nat.le_trans (pow_le_of (by rw [NL_eq]; omega)) h1
    rw [fitE_over hge]
    clear hge vf vg hA hB
    go_enter Tryz.func144, Tryz.ntmps144
    go_wp2_with fail
    go_ret2
    exact Ans.bad (by decide) (Below.refl _ _)
  · have C2 := Lib.hid (product_all A A' n c m c' f g w hA hB vf.1 vg.1 (by omega) (by omega))
    clear vf vg hA hB
    go_enter Tryz.func144, Tryz.ntmps144
    go_wp2_with fail
    refine C2.out.mono ?_
    rintro e w' ⟨v, rfl, hm⟩
    have HM := Lib.hid hm
    clear hm
    go_wp2_with fail
    refine (fit_any HM.out).mono ?_
    rintro e w2 ⟨u, rfl, hm⟩
    have HM2 := Lib.hid hm
    clear hm
    generalize hge : fitE (nv f n * nv g m) = er at *
    have HGE := Lib.hid hge
    clear hge
    go_wp2_with fail
    go_ret2
    exact ⟨u, by rw [HGE.out]; rfl, by rw [HGE.out]; exact HM2.out⟩

set_option maxRecDepth 100000 in
set_option maxHeartbeats 1600000 in
theorem natMul_any (A A' : Option Addr) (n c m c' : Nat) (f g : Nat → Nat) (w : World) (hA : Rs w w.heap.size A n c f) (hB : Rs w w.heap.size A' m c' g) :
    Calls Tryz.prog 111 #[.slice A n c, .slice A' m c'] w fun e w' => Ans w (mulE n f m g) (nv f n * nv g m) e w' := by
  have c1 := checkAll_call A A' n c m c' f g w hA hB
  have hb : Below w.heap.size w (w.alloc (.cells #[.slice A n c, .slice A' m c'] 23)) := (Below.refl _ _).alloc (Nat.le_refl _) _
  have HB := Lib.hid hb
  by_cases h : chk2 n f m g = 0
  · rw [show mulE n f m g = fitE (nv f n * nv g m) by unfold mulE; rw [if_pos h]]
    obtain ⟨h1, h2⟩ := chk2_zero h
    obtain ⟨hn, vf⟩ := chk_zero h1
    obtain ⟨hm, vg⟩ := chk_zero h2
    rw [h] at c1
    have C1 := Lib.hid c1
    have C2 := Lib.hid (multiply_any A A' n c m c' f g (w.alloc (.cells #[.slice A n c, .slice A' m c'] 23)) ((hA.below hb).more hb.size) ((hB.below hb).more hb.size) vf vg hn hm)
    clear c1 h h1 h2 vf vg hn hm hA hB hb
    go_enter Tryz.func111, Tryz.ntmps111
    go_wp2_with fail
    refine C1.out.mono ?_
    rintro e w' ⟨rfl, rfl⟩
    go_wp2_with fail
    refine C2.out.mono ?_
    rintro e w' ⟨u, rfl, hm⟩
    have HM2 := Lib.hid hm
    clear hm
    generalize hge : fitE (nv f n * nv g m) = er at *
    have HGE := Lib.hid hge
    clear hge
    go_wp2_with fail
    go_ret2
    exact ⟨u, by rw [HGE.out]; rfl, by rw [HGE.out]; exact HM2.out.after HB.out⟩
  · rw [show mulE n f m g = chk2 n f m g by unfold mulE; rw [if_neg h]]
    have h1 : (chk2 n f m g != 0) = true := by rw [bne_iff_ne]; exact h
    have h2 : (chk2 n f m g == 0) = false := by rw [beq_eq_false_iff_ne]; exact h
    have H := Lib.hid h
    have C1 := Lib.hid c1
    clear c1 h hA hB hb
    generalize chk2 n f m g = er at *
    go_enter Tryz.func111, Tryz.ntmps111
    go_wp2_with fail
    refine C1.out.mono ?_
    rintro e w' ⟨rfl, rfl⟩
    go_wp2_with fail
    go_ret2
    exact Ans.bad H.out HB.out

end Go.Proofs.YtmcacofpnnaplaaGreatDoor

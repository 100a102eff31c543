/- The contracts of Gcd and Lcm at numbers that fit machine words, and of the texts that NatKnown reads. Conditions as premises. -/
import Derived.Test.YtoonhjeiommhcaaDoorSmall
import Derived.Test.YtoonhjeiommhcaaDoorNrA
import Derived.Test.YtoonhjeiommhcaaDoorDoorTextsWalk
namespace Go.Proofs.YtoonhjeiommhcaaDoor
open Go.RowKit

theorem isN {w : World} {N : Nat} {v u : Value} (h : Nr w N v) (k : Nr w N u) :
    Calls Tryd.prog 26 #[v, .int .i64 0, u] w fun e w' => e = .returned (.bool true) ∧ Qt w w' := by
  obtain ⟨A, n, c, f, rfl, hr, hd⟩ := h
  obtain ⟨A', n', c', f', rfl, hr', hd'⟩ := k
  obtain ⟨rfl, he⟩ := hd.unique hd'
  exact is_true A A' n c c' f f' _ _ w hr hr' he

theorem nrl1 (w : World) (a : Nat) (x : Int) (h : (a : Int) = x) (ha : a < 1000000000) (h0 : a ≠ 0) : Nr (w.alloc (.cells #[.int .u32 x] 30)) a (.slice (some ⟨w.heap.size, 0, none⟩) 1 1) :=
  ⟨_, 1, 1, l1 a, rfl, (lit1 w a x h (by omega)).more (by simp), ⟨val_l1 ha h0, nv_l1 a⟩⟩
theorem nrl2 (w : World) (a b : Nat) (x y : Int) (h : (a : Int) = x) (k : (b : Int) = y) (ha : a < 1000000000) (hb : b < 1000000000) (h0 : b ≠ 0) : Nr (w.alloc (.cells #[.int .u32 x, .int .u32 y] 30)) (a + b * 1000000000) (.slice (some ⟨w.heap.size, 0, none⟩) 2 2) :=
  ⟨_, 2, 2, l2 a b, rfl, (lit2 w a b x y h k (by omega) (by omega)).more (by simp), ⟨val_l2 ha hb h0, nv_l2 a b⟩⟩
theorem bel1 (w : World) (o : Obj) : Below w.heap.size w (w.alloc o) := (Below.refl _ _).alloc (Nat.le_refl _) _
theorem pair11 (w : World) (a b : Nat) (x y : Int) (h : (a : Int) = x) (k : (b : Int) = y) (ha : a < 1000000000) (hb : b < 1000000000) (h0 : a ≠ 0) (h1 : b ≠ 0) :
    Nr ((w.alloc (.cells #[.int .u32 x] 30)).alloc (.cells #[.int .u32 y] 30)) a (.slice (some ⟨w.heap.size, 0, none⟩) 1 1) ∧
    Nr ((w.alloc (.cells #[.int .u32 x] 30)).alloc (.cells #[.int .u32 y] 30)) b (.slice (some ⟨w.heap.size + 1, 0, none⟩) 1 1) ∧
    Below w.heap.size w ((w.alloc (.cells #[.int .u32 x] 30)).alloc (.cells #[.int .u32 y] 30)) := by
  have h2 := nrl1 (w.alloc (.cells #[.int .u32 x] 30)) b y k hb h1
  rw [World.size_alloc w] at h2
  exact ⟨(nrl1 w a x h ha h0).below (bel1 _ _), h2, (bel1 w _).alloc (by simp) _⟩
theorem pair21 (w : World) (a a' b : Nat) (x x' y : Int) (h : (a : Int) = x) (h' : (a' : Int) = x') (k : (b : Int) = y) (ha : a < 1000000000) (ha' : a' < 1000000000) (hb : b < 1000000000) (h0 : a' ≠ 0) (h1 : b ≠ 0) :
    Nr ((w.alloc (.cells #[.int .u32 x, .int .u32 x'] 30)).alloc (.cells #[.int .u32 y] 30)) (a + a' * 1000000000) (.slice (some ⟨w.heap.size, 0, none⟩) 2 2) ∧
    Nr ((w.alloc (.cells #[.int .u32 x, .int .u32 x'] 30)).alloc (.cells #[.int .u32 y] 30)) b (.slice (some ⟨w.heap.size + 1, 0, none⟩) 1 1) ∧
    Below w.heap.size w ((w.alloc (.cells #[.int .u32 x, .int .u32 x'] 30)).alloc (.cells #[.int .u32 y] 30)) := by
  have h2 := nrl1 (w.alloc (.cells #[.int .u32 x, .int .u32 x'] 30)) b y k hb h1
  rw [World.size_alloc w] at h2
  exact ⟨(nrl2 w a a' x x' h h' ha ha' h0).below (bel1 _ _), h2, (bel1 w _).alloc (by simp) _⟩

theorem Dig.pos {n N : Nat} {f : Nat → Nat} (h : Dig n f N) (hN : 0 < N) : 0 < n := by
  rcases Nat.eq_zero_or_pos n with e | e
  · subst e; have := h.eq; rw [nv] at this; omega
  · exact e

set_option maxHeartbeats 800000 in
set_option maxRecDepth 100000 in
theorem gcd2N {w : World} {N M : Nat} {v u : Value} (h : Nr w N v) (k : Nr w M u) (hN : N < LB ^ 2) (hM : M < LB ^ 2) (hN0 : 0 < N) (hM0 : 0 < M) :
    Calls Tryd.prog 27 #[v, u] w fun e w' => ∃ x, e = .returned (.tuple #[x, .int .i64 0]) ∧ Nr w' (Nat.gcd N M) x ∧ Below w.heap.size w w' := by
  obtain ⟨A, n, c, f, rfl, hr, hd⟩ := h
  obtain ⟨A', m, c', g, rfl, hr', hd'⟩ := k
  have c1 := checkAll_call A A' n c m c' f g w hr hr'
  have hn := hd.len_le hN
  have hm := hd'.len_le hM
  rw [chk2_ok (by omega) (by omega) hd.ok hd'.ok] at c1
  have hb := bel1 w (.cells #[.slice A n c, .slice A' m c'] 23)
  have c2 := common_small A A' n c m c' f g (w.alloc (.cells #[.slice A n c, .slice A' m c'] 23)) ((hr.below hb).more hb.size) ((hr'.below hb).more hb.size) hd.ok hd'.ok hn hm (hd.pos hN0) (hd'.pos hM0)
  rw [hd.eq, hd'.eq] at c2
  have C1 := Lib.hid c1
  have C2 := Lib.hid c2
  have HB := Lib.hid hb
  clear c1 c2 hd hd' hr hr' hb hN hM
  go_enter Tryd.func27, Tryd.ntmps27
  go_wp2_with fail
  refine C1.out.mono ?_
  rintro _ _ ⟨rfl, rfl⟩
  go_wp2_with fail
  refine C2.out.mono ?_
  rintro _ w3 ⟨x, rfl, hx⟩
  have HX := Lib.hid (hx.after HB.out).nr
  clear hx
  go_wp2_with fail
  go_ret2
  exact ⟨_, rfl, HX.out⟩

set_option maxHeartbeats 800000 in
set_option maxRecDepth 100000 in
theorem lcm2N {w : World} {N M : Nat} {v u : Value} (h : Nr w N v) (k : Nr w M u) (hN : N < LB ^ 2) (hM : M < LB ^ 2) (hN0 : 0 < N) (hM0 : 0 < M) (hs : N / Nat.gcd N M * M < LB ^ NL) :
    Calls Tryd.prog 28 #[v, u] w fun e w' => ∃ x, e = .returned (.tuple #[x, .int .i64 0]) ∧ Nr w' (N / Nat.gcd N M * M) x ∧ Below w.heap.size w w' := by
  obtain ⟨A, n, c, f, rfl, hr, hd⟩ := h
  obtain ⟨A', m, c', g, rfl, hr', hd'⟩ := k
  have c1 := checkAll_call A A' n c m c' f g w hr hr'
  have hn := hd.len_le hN
  have hm := hd'.len_le hM
  rw [chk2_ok (by omega) (by omega) hd.ok hd'.ok] at c1
  have hb := bel1 w (.cells #[.slice A n c, .slice A' m c'] 23)
  have hr1 := (hr.below hb).more hb.size
  have hr1' := (hr'.below hb).more hb.size
  have c2 := common_small A A' n c m c' f g (w.alloc (.cells #[.slice A n c, .slice A' m c'] 23)) hr1 hr1' hd.ok hd'.ok hn hm (hd.pos hN0) (hd'.pos hM0)
  rw [hd.eq, hd'.eq] at c2
  have hnz : ((n : Int) == 0) = false := by rw [beq_eq_false_iff_ne]; have := hd.pos hN0; omega
  have hmz : ((m : Int) == 0) = false := by rw [beq_eq_false_iff_ne]; have := hd'.pos hM0; omega
  have C1 := Lib.hid c1
  have C2 := Lib.hid c2
  have HB := Lib.hid hb
  have HD := Lib.hid hd
  have HD' := Lib.hid hd'
  have HS := Big.mk hs
  clear c1 c2 hd hd' hr hr' hb hN hM hs
  go_enter Tryd.func28, Tryd.ntmps28
  go_wp2_with fail
  refine C1.out.mono ?_
  rintro _ _ ⟨rfl, rfl⟩
  go_wp2_with fail
  refine C2.out.mono ?_
  rintro _ w3 ⟨x, rfl, A3, n3, c3, f3, rfl, hr3, hd3, hb3⟩
  have hg0 : 0 < Nat.gcd N M := Nat.gcd_pos_of_pos_left _ hN0
  have c3 := divide_small A A3 n c n3 c3 f f3 w3 ((hr1.below hb3).more hb3.size) hr3 HD.out.ok hd3.ok hn (hd3.pos hg0) (by rw [HD.out.eq, hd3.eq]; exact Nat.gcd_le_left _ hN0)
  rw [HD.out.eq, hd3.eq] at c3
  have C3 := Lib.hid c3
  clear hd3 c3
  go_wp2_with fail
  refine C3.out.mono ?_
  rintro _ w4 ⟨q, r, rfl, hm4⟩
  obtain ⟨A5, n5, c5, f5, rfl, hr5, hd5, hb5⟩ := hm4.fst
  have hb35 := hb3.trans (hb5.mono hb3.size)
  have hmul := multiply_any A5 A' n5 c5 m c' f5 g w4 hr5 ((hr1'.below hb35).more hb35.size) hd5.ok HD'.out.ok (hd5.len_NL (Nat.lt_of_le_of_lt (Nat.le_trans (Nat.div_le_self _ _) (by have := HD.out.ok.lt; rw [HD.out.eq] at this; exact Nat.le_of_lt (Nat.lt_of_lt_of_le this (pow_le_of (show n ≤ 2 from hn))))) (Nat.pow_lt_pow_right (by rw [LB_eq]; omega) (by rw [NL_eq]; omega)))) (by omega)
  rw [hd5.eq, HD'.out.eq, fitE_ok HS.out] at hmul
  have HMU := Lib.hid hmul
  have HB5 := Lib.hid (HB.out.trans (hb35.mono HB.out.size))
  clear hmul hd5 hm4 hr5
  go_wp2_with fail
  refine HMU.out.mono ?_
  rintro _ w6 ⟨z, rfl, hz⟩
  rw [zr_ok] at hz
  have HZ := Lib.hid (hz.after HB5.out).nr
  clear hz
  go_wp2_with fail
  go_ret2
  exact ⟨_, rfl, HZ.out⟩

end Go.Proofs.YtoonhjeiommhcaaDoor

/- The contracts of the functions under the laws of package rat: DivLimb, Awake, Awake2, joined into one file. -/
import Derived.Test.YtbjaolmlnkliiaaGreatDoorNatC
import Derived.Deep.OwnRows
/- The contract of divideLimb: quotient and remainder of a list by one limb. Conditions as premises: the list reads, its limbs are below ten to the ninth, the divisor is not 0, the list has at most 4096 limbs. -/
namespace Go.Proofs.YtbjaolmlnkliiaaGreatDoor
open Go.RowKit

/-- Block b is a row of n limbs, limb i being f i. -/
def Row (w : World) (b n : Nat) (f : Nat → Nat) : Prop := w.rowIs b 40 n (fun i => .int .u32 (iv (f i)))
section
variable {w : World} {b n : Nat} {f : Nat → Nat}
theorem Row.cell (h : Row w b n f) {i : Nat} (hi : i < n) : w.cell? ⟨b, i, none⟩ = some (.int .u32 (iv (f i))) := World.rowIs.cell h hi
theorem Row.frozen (h : Row w b n f) (i : Nat) : w.frozen? ⟨b, i, none⟩ = false := World.rowIs.frozen h i
theorem Row.lt (h : Row w b n f) : b < w.heap.size := World.rowIs.lt h
theorem Row.set (h : Row w b n f) (i x : Nat) : Row (w.setCell ⟨b, i, none⟩ (.int .u32 (iv x))) b n (fun j => if j = i then x else f j) :=
  World.rowIs.congr (World.rowIs.set h i _) fun j _ => by by_cases e : j = i <;> simp [e]
theorem Row.made (w : World) (n : Nat) : Row (w.alloc (.cells (madeCells #[.int .u32 0] n) 40)) w.heap.size n (fun _ => 0) :=
  World.rowIs.congr (World.rowIs_made w (.int .u32 0) n _) fun j _ => by rw [iv_zero]
theorem Row.rs (h : Row w b n f) (hn : n ≤ 9223372036854775807) (hb : ∀ j, j < n → f j < 4294967296) : Rs w w.heap.size (some ⟨b, 0, none⟩) n n f :=
  ⟨Nat.le_refl _, hn, hb, fun _ => ⟨b, 0, rfl, h.lt, fun j hj => by rw [Nat.zero_add]; exact h.cell hj⟩⟩
end

theorem nv_hi_congr {f g : Nat → Nat} {n k : Nat} (h : ∀ j, k ≤ j → j < n → f j = g j) : hi f n k = hi g n k := by
  unfold hi; exact nv_congr _ fun j hj => h _ (by omega) (by omega)

/-- one step of the division by a limb -/
theorem divl_step {f q : Nat → Nat} {n k d x : Nat} (hk : k < n) (hd : 0 < d) (ih : hi q n (k + 1) = hi f n (k + 1) / d)
    (hx : x = hi f n (k + 1) % d * LB + f k) :
    hi (fun j => if j = k then x / d else q j) n k = hi f n k / d ∧ x % d = hi f n k % d := by
  have e1 : hi f n k = d * (hi f n (k + 1) / d * LB) + x := by
    rw [hi_step f n k hk, hx]
    conv => lhs; rw [← Nat.div_add_mod (hi f n (k + 1)) d]
    rw [Nat.add_mul, Nat.mul_assoc, Nat.add_assoc]
  constructor
  · rw [hi_step _ n k hk, nv_hi_congr (g := q) (k := k + 1) (fun j a _ => if_neg (by omega)), ih, e1, Nat.mul_add_div hd]
    simp
  · rw [e1, Nat.mul_add_mod]

theorem divl_lt {c y d : Nat} (hc : c < d) (hy : y < LB) : (c * LB + y) / d < LB := by
  rw [Nat.div_lt_iff_lt_mul (by omega)]
  have : (c + 1) * LB ≤ d * LB := Nat.mul_le_mul_right _ hc
  rw [Nat.add_mul] at this
  rw [Nat.mul_comm LB d]
  omega

theorem iv_divmod {c y d : Nat} : (iv c * 1000000000 + iv y) / iv d = iv ((c * LB + y) / d) ∧ (iv c * 1000000000 + iv y) % iv d = iv ((c * LB + y) % d) := by
  rw [iv_eq, iv_eq, iv_eq, iv_eq, iv_eq, LB_eq]
  constructor
  · rw [show ((c : Int) * 1000000000 + (y : Int)) = ((c * 1000000000 + y : Nat) : Int) by omega, Int.natCast_ediv]
  · rw [show ((c : Int) * 1000000000 + (y : Int)) = ((c * 1000000000 + y : Nat) : Int) by omega, Int.natCast_emod]

set_option maxHeartbeats 1600000 in
set_option maxRecDepth 100000 in
theorem divideLimb_any (A : Option Addr) (n c d : Nat) (f : Nat → Nat) (w : World) (h : Rs w w.heap.size A n c f) (hf : ∀ j, j < n → f j < LB) (hn : n ≤ 4096) (hd0 : 0 < d) (hd : d < LB) :
    Calls Tryz.prog 245 #[.slice A n c, .int .u32 (iv d)] w fun e w' => ∃ v, e = .returned (.tuple #[v, .int .u32 (iv (nv f n % d))]) ∧ Made w (nv f n / d) v w' := by
  have hmk := run_make_row' (P := Tryz.prog) 23 40 (.int .u32 0) 4 Tryz.underlying23 info32 rfl .i64 .i64 n (by omega) (by omega)
  have hrow := Row.made w n
  have hbel : Below w.heap.size w (w.alloc (.cells (madeCells #[.int .u32 0] n) 40)) := (Below.refl _ _).alloc (Nat.le_refl _) _
  have HF := Lib.hid hf
  have hdd0 := iv_pos (show d ≠ 0 by omega)
  have hdd1 := iv_limb hd
  have HD0 := Lib.hid hd0
  have HD := Lib.hid hd
  clear hf hd0 hd
  go_enter Tryz.func245, Tryz.ntmps245
  generalize hgd : iv d = dd at *
  have HGD := Lib.hid hgd
  clear hgd
  go_wp2
  clear hmk
  generalize hgw : w.alloc (.cells (madeCells #[.int .u32 0] n) 40) = w0 at *
  clear hgw
  go_loopw [7, 8] (fun u i wr => ∃ k : Nat, k ≤ n ∧ i = .int .i64 ((k : Int) - 1) ∧ u = .int .u64 (iv (hi f n k % d)) ∧ ∃ q, Row wr w.heap.size n q ∧ Hid (hi q n k = hi f n k / d ∧ ∀ j, k ≤ j → j < n → q j < LB) ∧ Below w.heap.size w wr) (fun _ i _ => (intOf i + 1).toNat)
  case atStart => exact ⟨n, Nat.le_refl _, rfl, by rw [hi_top, Nat.zero_mod, iv_zero], _, hrow, ⟨by rw [hi_top, hi_top, Nat.zero_div], fun j a b => by omega⟩, hbel⟩
  case round =>
    obtain ⟨k, hk, rfl, rfl, q, hrq, hq, hb⟩ := hrel
    by_cases hk0 : k = 0
    · subst hk0
      rw [hi_zero] at *
      have hql : ∀ j, j < n → q j < LB := fun j hj => hq.2 j (Nat.zero_le _) hj
      have hqe : nv q n = nv f n / d := by have := hq.1; rw [hi_zero] at this; exact this
      have HT := Lib.hid (trim_any (some ⟨w.heap.size, 0, none⟩) n n q _ wr (hrq.rs (by omega) (fun j hj => by have := hql j hj; rw [LB_eq] at this; omega)))
      have HQ := Lib.hid hql
      have HQE := Lib.hid hqe
      have hm1 : iv (nv f n % d) < 1000000000 := iv_limb (Nat.lt_trans (Nat.mod_lt _ HD0.out) HD.out)
      have hm0 := iv_nonneg (nv f n % d)
      generalize hgx : iv (nv f n % d) = x at *
      have HGX := Lib.hid hgx
      clear hgx hql hqe
      go_wp2_with fail
      refine HT.out.mono ?_
      rintro e w' ⟨⟨v, rfl, A2, m2, c2, rfl, hr2, htr⟩, rfl⟩
      have HTR := Lib.hid htr
      clear htr
      go_wp2_with fail
      go_ret2
      exact ⟨_, by rw [HGX.out]; rfl, A2, m2, c2, q, rfl, hr2, HTR.out.dig HQ.out HQE.out, hb⟩
    · obtain ⟨p, rfl⟩ : ∃ p, k = p + 1 := ⟨k - 1, by omega⟩
      rw [show (((p + 1 : Nat) : Int) - 1) = (p : Int) by omega]
      have hpn : p < n := by omega
      have hr := h.below hb
      obtain ⟨b, off, rfl, hbb, hc⟩ := hr.cell (by omega)
      have hck := hc p hpn
      clear hc
      have hcp := hrq.cell hpn
      have hfz := hrq.frozen p
      obtain ⟨ed, em⟩ := @iv_divmod (hi f n (p + 1) % d) (f p) d
      rw [HGD.out] at ed em
      have hc1 : hi f n (p + 1) % d < d := Nat.mod_lt _ HD0.out
      have hb1 : iv ((hi f n (p + 1) % d * LB + f p) / d) < 1000000000 := iv_limb (divl_lt hc1 (HF.out p hpn))
      have hb0 := iv_nonneg ((hi f n (p + 1) % d * LB + f p) / d)
      have hm1 : iv ((hi f n (p + 1) % d * LB + f p) % d) < 1000000000 := iv_limb (Nat.lt_trans (Nat.mod_lt _ HD0.out) HD.out)
      have hm0 := iv_nonneg ((hi f n (p + 1) % d * LB + f p) % d)
      have hx1 : iv (hi f n (p + 1) % d) < 1000000000 := iv_limb (Nat.lt_trans hc1 HD.out)
      have hx0 := iv_nonneg (hi f n (p + 1) % d)
      have hy1 := iv_limb (HF.out p hpn)
      have hy0 := iv_nonneg (f p)
      rw [← ed] at hb1 hb0
      rw [← em] at hm1 hm0
      have hnew := hrq.set p ((hi f n (p + 1) % d * LB + f p) / d)
      rw [← ed] at hnew
      have HS := Lib.hid (divl_step hpn HD0.out hq.1 rfl)
      have HED := Lib.hid ed
      have HEM := Lib.hid em
      clear ed em
      generalize hgx : iv (hi f n (p + 1) % d) = x at *
      generalize hgy : iv (f p) = y at *
      have HGX := Lib.hid hgx
      have HGY := Lib.hid hgy
      clear hgx hgy
      go_wp2
      go_roundw
      case rel => exact ⟨p, by omega, rfl, by rw [HEM.out, HS.out.2], _, hnew, ⟨HS.out.1, fun j a b => by
        by_cases e : j = p
        · subst e; simp; exact divl_lt hc1 (HF.out j hpn)
        · simp [e]; exact hq.2 j (by omega) b⟩, hb.setCell (p := ⟨w.heap.size, p, none⟩) (Nat.le_refl _) _⟩
      case measure => simp [intOf] <;> omega

end Go.Proofs.YtbjaolmlnkliiaaGreatDoor

/- The contracts of Mul at numbers of one limb, of Div by a number of one limb, of 'is', and of 'awake', which returns true. Conditions as premises. -/
namespace Go.Proofs.YtbjaolmlnkliiaaGreatDoor
open Go.RowKit

set_option maxHeartbeats 400000 in
theorem fit_ok (A : Option Addr) (n c : Nat) (w : World) (h : n ≤ 1024) :
    Calls Tryz.prog 206 #[.slice A n c] w fun e w' => e = .returned (.tuple #[.slice A n c, .int .i64 0]) ∧ w = w' := by
  have h' : ¬ 1024 < n := by omega
  go_enter Tryz.func206, Tryz.ntmps206
  go_wp2
  go_ret2
  exact ⟨rfl, rfl⟩

set_option maxHeartbeats 400000 in
theorem fit_over (A : Option Addr) (n c : Nat) (w : World) (h : 1024 < n) :
    Calls Tryz.prog 206 #[.slice A n c] w fun e w' => e = .returned (.tuple #[.slice none 0 0, .int .i64 5]) ∧ w = w' := by
  go_enter Tryz.func206, Tryz.ntmps206
  go_wp2
  go_ret2
  exact ⟨rfl, rfl⟩

theorem Dig.len_le {n k N : Nat} {f : Nat → Nat} (h : Dig n f N) (hN : N < LB ^ k) : n ≤ k := by
  rcases Nat.lt_or_ge k n with hk | hk
  · exfalso
    have h1 := h.ok.top_le (by omega)
    rw [h.eq] at h1
    have h2 : LB ^ k ≤ LB ^ (n - 1) := pow_le_of (by omega)
    omega
  · exact hk

set_option maxHeartbeats 800000 in
set_option maxRecDepth 100000 in
theorem multiply11_any (A A' : Option Addr) (c c' : Nat) (f g : Nat → Nat) (w : World) (hA : Rs w w.heap.size A 1 c f) (hB : Rs w w.heap.size A' 1 c' g) (hf : f 0 < LB) (hg : g 0 < LB) :
    Calls Tryz.prog 208 #[.slice A 1 c, .slice A' 1 c'] w fun e w' => ∃ v, e = .returned (.tuple #[v, .int .i64 0]) ∧ Made w (f 0 * g 0) v w' := by
  have HP := Lib.hid (product11_any A A' c c' f g w hA hB hf hg)
  have hlt : f 0 * g 0 < LB ^ 2 := by rw [Nat.pow_two]; exact Nat.mul_lt_mul'' hf hg
  have HL := Lib.hid hlt
  clear hlt hf hg
  go_enter Tryz.func208, Tryz.ntmps208
  go_wp2_with fail
  refine HP.out.mono ?_
  rintro e w' ⟨v, rfl, A2, n2, c2, f2, rfl, hr2, hd2, hb⟩
  have HD := Lib.hid hd2
  have HFT := Lib.hid (fit_ok A2 n2 c2 w' (by have := hd2.len_le HL.out; omega))
  clear hd2
  go_wp2_with fail
  refine HFT.out.mono ?_
  rintro e w' ⟨rfl, rfl⟩
  go_wp2_with fail
  go_ret2
  exact ⟨_, rfl, A2, n2, c2, f2, rfl, hr2, HD.out, hb⟩

/-- the call of checkAll as the functions of two lists make it -/
theorem checkAll_call (A A' : Option Addr) (n c m c' : Nat) (f g : Nat → Nat) (w : World) (hA : Rs w w.heap.size A n c f) (hB : Rs w w.heap.size A' m c' g) :
    Calls Tryz.prog 196 #[.slice (some ⟨w.heap.size, 0, none⟩) 2 2] (w.alloc (.cells #[.slice A n c, .slice A' m c'] 23)) fun e w' => e = .returned (.int .i64 (chk2 n f m g)) ∧ w.alloc (.cells #[.slice A n c, .slice A' m c'] 23) = w' :=
  checkAll_any w.heap.size A A' n c m c' f g _ _ (w.alloc (.cells #[.slice A n c, .slice A' m c'] 23)) (hA.alloc (Nat.le_refl _) _) (hB.alloc (Nat.le_refl _) _) (by rw [World.cell?_alloc_at _ _ _ _ rfl]; rfl) (by rw [World.cell?_alloc_at _ _ _ _ rfl]; rfl)

theorem chk2_ok {n m : Nat} {f g : Nat → Nat} (hn : n ≤ 1024) (hm : m ≤ 1024) (vf : Val n f) (vg : Val m g) : chk2 n f m g = 0 := by
  unfold chk2; rw [if_pos (chk_ok (by omega) vf)]; exact chk_ok (by omega) vg

theorem Made.after {w w1 w' : World} {N : Nat} {v : Value} (hb : Below w.heap.size w w1) (h : Made w1 N v w') : Made w N v w' := by
  obtain ⟨A, n, c, f, e, hr, hd, hb'⟩ := h
  exact ⟨A, n, c, f, e, hr, hd, hb.trans (hb'.mono hb.size)⟩

set_option maxHeartbeats 800000 in
set_option maxRecDepth 100000 in
theorem natMul11_any (A A' : Option Addr) (c c' : Nat) (f g : Nat → Nat) (w : World) (hA : Rs w w.heap.size A 1 c f) (hB : Rs w w.heap.size A' 1 c' g) (vf : Val 1 f) (vg : Val 1 g) :
    Calls Tryz.prog 169 #[.slice A 1 c, .slice A' 1 c'] w fun e w' => ∃ v, e = .returned (.tuple #[v, .int .i64 0]) ∧ Made w (f 0 * g 0) v w' := by
  have c1 := checkAll_call A A' 1 c 1 c' f g w hA hB
  rw [chk2_ok (by omega) (by omega) vf vg] at c1
  have hb : Below w.heap.size w (w.alloc (.cells #[.slice A 1 c, .slice A' 1 c'] 23)) := (Below.refl _ _).alloc (Nat.le_refl _) _
  have C2 := Lib.hid (multiply11_any A A' c c' f g (w.alloc (.cells #[.slice A 1 c, .slice A' 1 c'] 23)) ((hA.below hb).more hb.size) ((hB.below hb).more hb.size) (vf.1 0 (by omega)) (vg.1 0 (by omega)))
  have C1 := Lib.hid c1
  clear c1 vf vg
  go_enter Tryz.func169, Tryz.ntmps169
  go_wp2_with fail
  refine C1.out.mono ?_
  rintro e w' ⟨rfl, rfl⟩
  go_wp2_with fail
  refine C2.out.mono ?_
  rintro e w' ⟨v, rfl, hm⟩
  have HM := Lib.hid hm
  clear hm
  go_wp2_with fail
  go_ret2
  exact ⟨_, rfl, HM.out.after hb⟩

/-- what a call that makes two lists leaves -/
def Made2 (w : World) (N M : Nat) (v u : Value) (w' : World) : Prop :=
  ∃ A n c f A' n' c' f', v = .slice A n c ∧ Rs w' w'.heap.size A n c f ∧ Dig n f N ∧ u = .slice A' n' c' ∧ Rs w' w'.heap.size A' n' c' f' ∧ Dig n' f' M ∧ Below w.heap.size w w'
theorem Made2.after {w w1 w' : World} {N M : Nat} {v u : Value} (hb : Below w.heap.size w w1) (h : Made2 w1 N M v u w') : Made2 w N M v u w' := by
  obtain ⟨A, n, c, f, A', n', c', f', e, hr, hd, e', hr', hd', hb'⟩ := h
  exact ⟨A, n, c, f, A', n', c', f', e, hr, hd, e', hr', hd', hb.trans (hb'.mono hb.size)⟩
theorem Made2.of {w w1 w' : World} {N M : Nat} {v u : Value} (h : Made w N v w1) (k : Made w1 M u w') : Made2 w N M v u w' := by
  obtain ⟨A, n, c, f, e, hr, hd, hb⟩ := h
  obtain ⟨A', n', c', f', e', hr', hd', hb'⟩ := k
  exact ⟨A, n, c, f, A', n', c', f', e, (hr.below hb').more hb'.size, hd, e', hr', hd', hb.trans (hb'.mono hb.size)⟩
theorem Made2.fst {w w' : World} {N M : Nat} {v u : Value} (h : Made2 w N M v u w') : Made w N v w' := by
  obtain ⟨A, n, c, f, A', n', c', f', e, hr, hd, e', hr', hd', hb'⟩ := h
  exact ⟨A, n, c, f, e, hr, hd, hb'⟩
theorem Made2.snd {w w' : World} {N M : Nat} {v u : Value} (h : Made2 w N M v u w') : Made w M u w' := by
  obtain ⟨A, n, c, f, A', n', c', f', e, hr, hd, e', hr', hd', hb'⟩ := h
  exact ⟨A', n', c', f', e', hr', hd', hb'⟩

set_option maxHeartbeats 800000 in
set_option maxRecDepth 100000 in
theorem divide1_any (A A' : Option Addr) (n c c' : Nat) (f g : Nat → Nat) (w : World) (hA : Rs w w.heap.size A n c f) (hB : Rs w w.heap.size A' 1 c' g) (vf : Val n f) (vg : Val 1 g) (hn : 2 < n) (hn' : n ≤ 1024) :
    Calls Tryz.prog 232 #[.slice A n c, .slice A' 1 c'] w fun e w' => ∃ v u, e = .returned (.tuple #[v, u]) ∧ Made2 w (nv f n / nv g 1) (nv f n % nv g 1) v u w' := by
  have hcmp := compare_any A A' n c 1 c' f g _ _ w hA hB vf vg
  rw [cn_gt (vg.lt_of_len vf (by omega))] at hcmp
  have C1 := Lib.hid hcmp
  clear hcmp
  obtain ⟨b, off, rfl, hb, hc⟩ := hB.cell (by omega)
  have h0 := hc 0 (by omega)
  rw [Nat.add_zero] at h0
  have hg1 : nv g 1 = g 0 := by simp [nv]
  have hg0 : 0 < g 0 := by have := vg.2 (by omega); simp at this; omega
  have hgl := vg.1 0 (by omega)
  have HG0 := Lib.hid hg0
  have HGL := Lib.hid hgl
  have VF := Lib.hid vf
  rw [hg1]
  clear hc hg1 hg0 hgl vf vg
  go_enter Tryz.func232, Tryz.ntmps232
  go_wp2_with fail
  refine C1.out.mono ?_
  rintro e w' ⟨rfl, d, rfl⟩
  have C2 := Lib.hid (divideLimb_any A n c (g 0) f (w.drewN d) (hA.drewN d) VF.out.1 (by omega) HG0.out HGL.out)
  have hm1 : iv (nv f n % g 0) < 1000000000 := iv_limb (Nat.lt_trans (Nat.mod_lt _ HG0.out) HGL.out)
  have hm0 := iv_nonneg (nv f n % g 0)
  go_wp2_with fail
  refine C2.out.mono ?_
  rintro e w1 ⟨v, rfl, hm⟩
  have HM := Lib.hid hm
  clear hm
  generalize hgx : iv (nv f n % g 0) = x at *
  have HGX := Lib.hid hgx
  clear hgx
  go_wp2_with fail
  refine (fromWord_any _ hm0 (Big.mk (by omega)) _).mono ?_
  rintro e w2 ⟨u, rfl, hm2⟩
  have e2 : x.toNat = nv f n % g 0 := by rw [← HGX.out, iv_eq]; omega
  rw [e2] at hm2
  have HM2 := Lib.hid hm2
  clear hm2 e2
  go_wp2_with fail
  go_ret2
  exact ⟨_, _, rfl, Made2.after (Qt.n1 w d).below (Made2.of HM.out HM2.out)⟩

set_option maxHeartbeats 800000 in
set_option maxRecDepth 100000 in
theorem natDiv1_any (A A' : Option Addr) (n c c' : Nat) (f g : Nat → Nat) (w : World) (hA : Rs w w.heap.size A n c f) (hB : Rs w w.heap.size A' 1 c' g) (vf : Val n f) (vg : Val 1 g) (hn : 2 < n) (hn' : n ≤ 1024) :
    Calls Tryz.prog 210 #[.slice A n c, .slice A' 1 c'] w fun e w' => ∃ v u, e = .returned (.tuple #[v, u, .int .i64 0]) ∧ Made2 w (nv f n / nv g 1) (nv f n % nv g 1) v u w' := by
  have c1 := checkAll_call A A' n c 1 c' f g w hA hB
  rw [chk2_ok (by omega) (by omega) vf vg] at c1
  have hb : Below w.heap.size w (w.alloc (.cells #[.slice A n c, .slice A' 1 c'] 23)) := (Below.refl _ _).alloc (Nat.le_refl _) _
  have C2 := Lib.hid (divide1_any A A' n c c' f g (w.alloc (.cells #[.slice A n c, .slice A' 1 c'] 23)) ((hA.below hb).more hb.size) ((hB.below hb).more hb.size) vf vg hn hn')
  have C1 := Lib.hid c1
  clear c1 vf vg
  go_enter Tryz.func210, Tryz.ntmps210
  go_wp2_with fail
  refine C1.out.mono ?_
  rintro e w' ⟨rfl, rfl⟩
  go_wp2_with fail
  refine C2.out.mono ?_
  rintro e w' ⟨v, u, rfl, hm⟩
  have HM := Lib.hid hm
  clear hm
  go_wp2_with fail
  go_ret3
  exact ⟨_, _, rfl, HM.out.after hb⟩

end Go.Proofs.YtbjaolmlnkliiaaGreatDoor

/- The contract of 'awake': it returns true. No conditions. -/
namespace Go.Proofs.YtbjaolmlnkliiaaGreatDoor
open Go.RowKit

/-- a literal slice of one, two, three limbs as the walk writes it -/
theorem lit1 (w : World) (a : Nat) (x : Int) (h : (a : Int) = x) (ha : a < 4294967296) : Rs (w.alloc (.cells #[.int .u32 x] 40)) (w.heap.size + 1) (some ⟨w.heap.size, 0, none⟩) 1 1 (l1 a) := by
  have k := rs_l1 w a ha
  rw [iv_n a x h] at k
  exact k
theorem lit2 (w : World) (a b : Nat) (x y : Int) (h : (a : Int) = x) (k : (b : Int) = y) (ha : a < 4294967296) (hb : b < 4294967296) : Rs (w.alloc (.cells #[.int .u32 x, .int .u32 y] 40)) (w.heap.size + 1) (some ⟨w.heap.size, 0, none⟩) 2 2 (l2 a b) := by
  have k' := rs_l2 w a b ha hb
  rw [iv_n a x h, iv_n b y k] at k'
  exact k'
theorem lit3 (w : World) (a b c : Nat) (x y z : Int) (h : (a : Int) = x) (k : (b : Int) = y) (l : (c : Int) = z) (ha : a < 4294967296) (hb : b < 4294967296) (hc : c < 4294967296) :
    Rs (w.alloc (.cells #[.int .u32 x, .int .u32 y, .int .u32 z] 40)) (w.heap.size + 1) (some ⟨w.heap.size, 0, none⟩) 3 3 (l3 a b c) := by
  have k' := rs_l3 w a b c ha hb hc
  rw [iv_n a x h, iv_n b y k, iv_n c z l] at k'
  exact k'

theorem val_l1 {a : Nat} (h : a < 1000000000) (h0 : a ≠ 0) : Val 1 (l1 a) := ⟨fun j _ => by rw [LB_eq]; exact h, fun _ => h0⟩
theorem val_l2 {a b : Nat} (h : a < 1000000000) (k : b < 1000000000) (h0 : b ≠ 0) : Val 2 (l2 a b) := ⟨fun j _ => by rw [LB_eq]; unfold l2; split <;> assumption, fun _ => h0⟩
theorem val_l3 {a b c : Nat} (h : a < 1000000000) (k : b < 1000000000) (l : c < 1000000000) (h0 : c ≠ 0) : Val 3 (l3 a b c) := ⟨fun j _ => by rw [LB_eq]; unfold l3; split; assumption; split <;> assumption, fun _ => h0⟩
theorem nv_l1 (a : Nat) : nv (l1 a) 1 = a := by simp [nv, l1]
theorem nv_l2 (a b : Nat) : nv (l2 a b) 2 = a + b * 1000000000 := by simp [nv, l2, LB_eq]
theorem nv_l3 (a b c : Nat) : nv (l3 a b c) 3 = a + b * 1000000000 + c * 1000000000000000000 := by simp [nv, l3, LB_eq]

/-- a list that was made, as the literal list that it must be -/
theorem Made.as {w w' : World} {N m : Nat} {v : Value} {g : Nat → Nat} (h : Made w N v w') (hg : Dig m g N) : ∃ A c, v = .slice A m c ∧ Rs w' w'.heap.size A m c g ∧ Below w.heap.size w w' := by
  obtain ⟨A, n, c, f, rfl, hr, hd, hb⟩ := h
  obtain ⟨rfl, he⟩ := hd.unique hg
  exact ⟨A, c, rfl, hr.congr he, hb⟩

theorem awake_of (w : World) :
    Calls Tryz.prog 165 #[.int .i64 12345678901] w fun e w' => ∃ A c, e = .returned (.tuple #[.slice A 2 c, .int .i64 0]) ∧ Rs w' w'.heap.size A 2 c (l2 345678901 12) ∧ Below w.heap.size w w' := by
  refine (natOf_pos 12345678901 (by omega) (by omega) w).mono ?_
  rintro e w' ⟨v, rfl, hm⟩
  obtain ⟨A, c, rfl, hr, hb⟩ := hm.as (m := 2) (g := l2 345678901 12) ⟨val_l2 (by omega) (by omega) (by omega), by rw [nv_l2]; rfl⟩
  exact ⟨A, c, rfl, hr, hb⟩

theorem awake_mul (w : World) :
    Calls Tryz.prog 169 #[.slice (some ⟨w.heap.size, 0, none⟩) 1 1, .slice (some ⟨w.heap.size + 1, 0, none⟩) 1 1] ((w.alloc (.cells #[.int .u32 999999999] 40)).alloc (.cells #[.int .u32 999999999] 40))
      fun e w' => ∃ A c, e = .returned (.tuple #[.slice A 2 c, .int .i64 0]) ∧ Rs w' w'.heap.size A 2 c (l2 1 999999998) ∧ Below w.heap.size w w' := by
  have ha := lit1 w 999999999 999999999 rfl (by omega)
  have hb := lit1 (w.alloc (.cells #[.int .u32 999999999] 40)) 999999999 999999999 rfl (by omega)
  have hab := (ha.alloc (by simp) (.cells #[.int .u32 999999999] 40)).more (B' := ((w.alloc (.cells #[.int .u32 999999999] 40)).alloc (.cells #[.int .u32 999999999] 40)).heap.size) (by simp)
  have hbb := hb.more (B' := ((w.alloc (.cells #[.int .u32 999999999] 40)).alloc (.cells #[.int .u32 999999999] 40)).heap.size) (by simp)
  rw [World.size_alloc w] at hbb
  refine (natMul11_any _ _ 1 1 _ _ _ hab hbb (val_l1 (by omega) (by omega)) (val_l1 (by omega) (by omega))).mono ?_
  rintro e w' ⟨v, rfl, hm⟩
  obtain ⟨A, c, rfl, hr, hb⟩ := hm.as (m := 2) (g := l2 1 999999998) ⟨val_l2 (by omega) (by omega) (by omega), by rw [nv_l2]; rfl⟩
  exact ⟨A, c, rfl, hr, (((Below.refl _ _).alloc (Nat.le_refl _) _).alloc (by simp) _).trans (hb.mono (by simp; omega))⟩

theorem awake_div (w : World) :
    Calls Tryz.prog 210 #[.slice (some ⟨w.heap.size, 0, none⟩) 3 3, .slice (some ⟨w.heap.size + 1, 0, none⟩) 1 1] ((w.alloc (.cells #[.int .u32 0, .int .u32 0, .int .u32 1] 40)).alloc (.cells #[.int .u32 7] 40))
      fun e w' => ∃ A c A' c', e = .returned (.tuple #[.slice A 2 c, .slice A' 1 c', .int .i64 0]) ∧ Rs w' w'.heap.size A 2 c (l2 857142857 142857142) ∧ Rs w' w'.heap.size A' 1 c' (l1 1) ∧ Below w.heap.size w w' := by
  have ha := lit3 w 0 0 1 0 0 1 rfl rfl rfl (by omega) (by omega) (by omega)
  have hb := lit1 (w.alloc (.cells #[.int .u32 0, .int .u32 0, .int .u32 1] 40)) 7 7 rfl (by omega)
  have hab := (ha.alloc (by simp) (.cells #[.int .u32 7] 40)).more (B' := ((w.alloc (.cells #[.int .u32 0, .int .u32 0, .int .u32 1] 40)).alloc (.cells #[.int .u32 7] 40)).heap.size) (by simp)
  have hbb := hb.more (B' := ((w.alloc (.cells #[.int .u32 0, .int .u32 0, .int .u32 1] 40)).alloc (.cells #[.int .u32 7] 40)).heap.size) (by simp)
  rw [World.size_alloc w] at hbb
  refine (natDiv1_any _ _ 3 3 1 _ _ _ hab hbb (val_l3 (by omega) (by omega) (by omega) (by omega)) (val_l1 (by omega) (by omega)) (by omega) (by omega)).mono ?_
  rintro e w' ⟨v, u, rfl, hm⟩
  rw [nv_l3, nv_l1] at hm
  obtain ⟨A, c, rfl, hr, hb⟩ := hm.fst.as (m := 2) (g := l2 857142857 142857142) ⟨val_l2 (by omega) (by omega) (by omega), by rw [nv_l2]⟩
  obtain ⟨A', c', rfl, hr', _⟩ := hm.snd.as (m := 1) (g := l1 1) ⟨val_l1 (by omega) (by omega), by rw [nv_l1]⟩
  exact ⟨A, c, A', c', rfl, hr, hr', (((Below.refl _ _).alloc (Nat.le_refl _) _).alloc (by simp) _).trans (hb.mono (by simp; omega))⟩

end Go.Proofs.YtbjaolmlnkliiaaGreatDoor

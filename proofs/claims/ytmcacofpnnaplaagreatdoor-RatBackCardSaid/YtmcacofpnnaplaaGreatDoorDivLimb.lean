/- The contract of divideLimb: quotient and remainder of a list by one limb. Conditions as premises: the list reads, its limbs are below ten to the ninth, the divisor is not 0, the list has at most 4096 limbs. -/
import Derived.Test.YtmcacofpnnaplaaGreatDoorTrim
import Derived.Deep.OwnRows
namespace Go.Proofs.YtmcacofpnnaplaaGreatDoor
open Go.RowKit

/-- Block b is a row of n limbs, limb i being f i. -/
def Row (w : World) (b n : Nat) (f : Nat → Nat) : Prop := w.rowIs b 48 n (fun i => .int .u32 (iv (f i)))
section
variable {w : World} {b n : Nat} {f : Nat → Nat}
theorem Row.cell (h : Row w b n f) {i : Nat} (hi : i < n) : w.cell? ⟨b, i, none⟩ = some (.int .u32 (iv (f i))) := World.rowIs.cell h hi
theorem Row.frozen (h : Row w b n f) (i : Nat) : w.frozen? ⟨b, i, none⟩ = false := World.rowIs.frozen h i
theorem Row.lt (h : Row w b n f) : b < w.heap.size := World.rowIs.lt h
theorem Row.set (h : Row w b n f) (i x : Nat) : Row (w.setCell ⟨b, i, none⟩ (.int .u32 (iv x))) b n (fun j => if j = i then x else f j) :=
  World.rowIs.congr (World.rowIs.set h i _) fun j _ => by by_cases e : j = i <;> simp [e]
theorem Row.made (w : World) (n : Nat) : Row (w.alloc (.cells (madeCells #[.int .u32 0] n) 48)) w.heap.size n (fun _ => 0) :=
  World.rowIs.congr (World.rowIs_made w (.int .u32 0) n _) fun j _ => by rw [iv_zero]
theorem Row.rs (h : Row w b n f) (hn : n ≤ 9223372036854775807) (hb : ∀ j, j < n → f j < 4294967296) : Rs w w.heap.size (some ⟨b, 0, none⟩) n n f :=
  ⟨Nat.le_refl _, hn, hb, fun _ => ⟨b, 0, rfl, h.lt, fun j hj => by rw [Nat.zero_add]; exact h.cell hj⟩⟩
end

theorem nv_hi_congr {f g : Nat → Nat} {n k : Nat} (h : ∀ j, k ≤ j → j < n → f j = g j) : hi f n k = hi g n k := by
  unfold hi; exact nv_congr _ fun j hj => h _ (by omega) (by omega)

/-- one step of the division by a limb -/
theorem divl_step {f q : Nat → Nat} {n k d x : Nat} (hk : k < n) (hd : 0 < d) (ih : hi q n (k + 1) = hi f n (k + 1) / d)
    (hx : x = hi f n (k + 1) % d * LB + f k) :
    hi (fun j => if j = k then x / d else q j) n k = hi f n k / d ∧ x % d = hi f n k % d := by
  have e1 : hi f n k = d * (hi f n (k + 1) / d * LB) + x := by
    rw [hi_step f n k hk, hx]
    conv => lhs; rw [← Nat.div_add_mod (hi f n (k + 1)) d]
    rw [Nat.add_mul, Nat.mul_assoc, Nat.add_assoc]
  constructor
  · rw [hi_step _ n k hk, nv_hi_congr (g := q) (k := k + 1) (fun j a _ => if_neg (by omega)), ih, e1, Nat.mul_add_div hd]
    simp
  · rw [e1, Nat.mul_add_mod]

theorem divl_lt {c y d : Nat} (hc : c < d) (hy : y < LB) : (c * LB + y) / d < LB := by
  rw [Nat.div_lt_iff_lt_mul (by omega)]
  have : (c + 1) * LB ≤ d * LB := Nat.mul_le_mul_right _ hc
  rw [Nat.add_mul] at this
  rw [Nat.mul_comm LB d]
  omega

theorem iv_divmod {c y d : Nat} : (iv c * 1000000000 + iv y) / iv d = iv ((c * LB + y) / d) ∧ (iv c * 1000000000 + iv y) % iv d = iv ((c * LB + y) % d) := by
  rw [iv_eq, iv_eq, iv_eq, iv_eq, iv_eq, LB_eq]
  constructor
  · rw [show ((c : Int) * 1000000000 + (y : Int)) = ((c * 1000000000 + y : Nat) : Int) by omega, Int.natCast_ediv]
  · rw [show ((c : Int) * 1000000000 + (y : Int)) = ((c * 1000000000 + y : Nat) : Int) by omega, Int.natCast_emod]

set_option maxHeartbeats 1600000 in
set_option maxRecDepth 100000 in
theorem divideLimb_any (A : Option Addr) (n c d : Nat) (f : Nat → Nat) (w : World) (h : Rs w w.heap.size A n c f) (hf : ∀ j, j < n → f j < LB) (hn : n ≤ 4096) (hd0 : 0 < d) (hd : d < LB) :
    Calls Tryz.prog 183 #[.slice A n c, .int .u32 (iv d)] w fun e w' => ∃ v, e = .returned (.tuple #[v, .int .u32 (iv (nv f n % d))]) ∧ Made w (nv f n / d) v w' := by
  have hmk := run_make_row' (P := Tryz.prog) 23 48 (.int .u32 0) 4 Tryz.underlying23 info32 rfl .i64 .i64 n (by omega) (by omega)
  have hrow := Row.made w n
  have hbel : Below w.heap.size w (w.alloc (.cells (madeCells #[.int .u32 0] n) 48)) := (Below.refl _ _).alloc (Nat.le_refl _) _
  have HF := Lib.hid hf
  have hdd0 := iv_pos (show d ≠ 0 by omega)
  have hdd1 := iv_limb hd
  have HD0 := Lib.hid hd0
  have HD := Lib.hid hd
  clear hf hd0 hd
  go_enter Tryz.func183, Tryz.ntmps183
  generalize hgd : iv d = dd at *
  have HGD := Lib.hid hgd
  clear hgd
  go_wp2
  clear hmk
  generalize hgw : w.alloc (.cells (madeCells #[.int .u32 0] n) 48) = w0 at *
  clear hgw
  go_loopw [7, 8] (fun u i wr => ∃ k : Nat, k ≤ n ∧ i = .int .i64 ((k : Int) - 1) ∧ u = .int .u64 (iv (hi f n k % d)) ∧ ∃ q, Row wr w.heap.size n q ∧ Hid (hi q n k = hi f n k / d ∧ ∀ j, k ≤ j → j < n → q j < LB) ∧ Below w.heap.size w wr) (fun _ i _ => (intOf i + 1).toNat)
  case atStart => exact ⟨n, Nat.le_refl _, rfl, by rw [hi_top, Nat.zero_mod, iv_zero], _, hrow, ⟨by rw [hi_top, hi_top, Nat.zero_div], fun j a b => by omega⟩, hbel⟩
  case round =>
    obtain ⟨k, hk, rfl, rfl, q, hrq, hq, hb⟩ := hrel
    by_cases hk0 : k = 0
    · subst hk0
      rw [hi_zero] at *
      have hql : ∀ j, j < n → q j < LB := fun j hj => hq.2 j (Nat.zero_le _) hj
      have hqe : nv q n = nv f n / d := by have := hq.1; rw [hi_zero] at this; exact this
      have HT := Lib.hid (trim_any (some ⟨w.heap.size, 0, none⟩) n n q _ wr (hrq.rs (by omega) (fun j hj => by have := hql j hj; rw [LB_eq] at this; omega)))
      have HQ := Lib.hid hql
      have HQE := Lib.hid hqe
      have hm1 : iv (nv f n % d) < 1000000000 := iv_limb (Nat.lt_trans (Nat.mod_lt _ HD0.out) HD.out)
      have hm0 := iv_nonneg (nv f n % d)
      generalize hgx : iv (nv f n % d) = x at *
      have HGX := Lib.hid hgx
      clear hgx hql hqe
      go_wp2_with fail
      refine HT.out.mono ?_
      rintro e w' ⟨⟨v, rfl, A2, m2, c2, rfl, hr2, htr⟩, rfl⟩
      have HTR := Lib.hid htr
      clear htr
      go_wp2_with fail
      go_ret2
      exact ⟨_, by rw [HGX.out]; rfl, A2, m2, c2, q, rfl, hr2, HTR.out.dig HQ.out HQE.out, hb⟩
    · obtain ⟨p, rfl⟩ : ∃ p, k = p + 1 := ⟨k - 1, by omega⟩
      rw [show (((p + 1 : Nat) : Int) - 1) = (p : Int) by omega]
      have hpn : p < n := by omega
      have hr := h.below hb
      obtain ⟨b, off, rfl, hbb, hc⟩ := hr.cell (by omega)
      have hck := hc p hpn
      clear hc
      have hcp := hrq.cell hpn
      have hfz := hrq.frozen p
      obtain ⟨ed, em⟩ := @iv_divmod (hi f n (p + 1) % d) (f p) d
      rw [HGD.out] at ed em
      have hc1 : hi f n (p + 1) % d < d := Nat.mod_lt _ HD0.out
      have hb1 : iv ((hi f n (p + 1) % d * LB + f p) / d) < 1000000000 := iv_limb (divl_lt hc1 (HF.out p hpn))
      have hb0 := iv_nonneg ((hi f n (p + 1) % d * LB + f p) / d)
      have hm1 : iv ((hi f n (p + 1) % d * LB + f p) % d) < 1000000000 := iv_limb (Nat.lt_trans (Nat.mod_lt _ HD0.out) HD.out)
      have hm0 := iv_nonneg ((hi f n (p + 1) % d * LB + f p) % d)
      have hx1 : iv (hi f n (p + 1) % d) < 1000000000 := iv_limb (Nat.lt_trans hc1 HD.out)
      have hx0 := iv_nonneg (hi f n (p + 1) % d)
      have hy1 := iv_limb (HF.out p hpn)
      have hy0 := iv_nonneg (f p)
      rw [← ed] at hb1 hb0
      rw [← em] at hm1 hm0
      have hnew := hrq.set p ((hi f n (p + 1) % d * LB + f p) / d)
      rw [← ed] at hnew
      have HS := Lib.hid (divl_step hpn HD0.out hq.1 rfl)
      have HED := Lib.hid ed
      have HEM := Lib.hid em
      clear ed em
      generalize hgx : iv (hi f n (p + 1) % d) = x at *
      generalize hgy : iv (f p) = y at *
      have HGX := Lib.hid hgx
      have HGY := Lib.hid hgy
      clear hgx hgy
      go_wp2
      go_roundw
      case rel => exact ⟨p, by omega, rfl, by rw [HEM.out, HS.out.2], _, hnew, ⟨HS.out.1, fun j a b => by
        by_cases e : j = p
        · subst e; simp; exact divl_lt hc1 (HF.out j hpn)
        · simp [e]; exact hq.2 j (by omega) b⟩, hb.setCell (p := ⟨w.heap.size, p, none⟩) (Nat.le_refl _) _⟩
      case measure => simp [intOf] <;> omega

end Go.Proofs.YtmcacofpnnaplaaGreatDoor

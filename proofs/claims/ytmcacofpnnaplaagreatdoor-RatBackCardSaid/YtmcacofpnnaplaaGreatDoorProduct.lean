/- The contract of product. Conditions as premises: the lists read, their limbs are below ten to the ninth, and they are short enough. -/
import Derived.Test.YtmcacofpnnaplaaGreatDoorCol
namespace Go.Proofs.YtmcacofpnnaplaaGreatDoor
open Go.RowKit Go.Shelf

theorem w64 (z : Int) (h0 : -9223372036854775808 ≤ z) (h1 : z ≤ 9223372036854775807) : IntKind.i64.wrap z = z := by rw [IntKind.wrap_i64]; omega
/-- the sum of the products that stand at place k -/
theorem col_sum {f g : Nat → Nat} {n m k LO E : Nat} (hLO : LO = k + 1 - m) (hE : E = min (k + 1) n) (hLE : LO ≤ E) :
    cvn (pl f n) (pl g m) n k = sm (fun t => f (LO + t) * g (k - (LO + t))) (E - LO) := by
  unfold cvn
  have e : n = LO + ((E - LO) + (n - E)) := by omega
  generalize hn : (fun i => if i ≤ k then pl f n i * pl g m (k - i) else 0) = h
  have hh : ∀ i, h i = if i ≤ k then pl f n i * pl g m (k - i) else 0 := fun i => by rw [← hn]
  have h1 : sm h n = sm h (LO + ((E - LO) + (n - E))) := by rw [← e]
  rw [h1, sm_split, sm_split, sm_zero h LO fun j hj => by
      rw [hh, if_pos (by omega), pl_out (f := g) (by omega), Nat.mul_zero],
    sm_zero (fun t => h (LO + (E - LO + t))) (n - E) fun j hj => by
      show h _ = 0
      rw [hh, if_neg (by omega)],
    Nat.zero_add, Nat.add_zero]
  refine sm_congr _ fun t ht => ?_
  show h _ = _
  rw [hh, if_pos (by omega), pl_in (by omega), pl_in (by omega)]

theorem cross_step {f g : Nat → Nat} {LO x E' k H : Nat} (h1 : LO ≤ x) (h2 : x ≤ E') (h3 : E' ≤ k + 1) (hH : H = k - x + 1) :
    sm (fun t => f (LO + t) * g (k - (LO + t))) (E' - LO) = sm (fun t => f (LO + t) * g (k - (LO + t))) (x - LO) + sm (fun t => f (x + t) * g (H - 1 - t)) (E' - x) := by
  rw [show E' - LO = (x - LO) + (E' - x) by omega, sm_split]
  congr 1
  refine sm_congr _ fun t ht => ?_
  show f (LO + (x - LO + t)) * g (k - (LO + (x - LO + t))) = _
  rw [show LO + (x - LO + t) = x + t by omega, show k - (x + t) = H - 1 - t by omega]

theorem Rs.sub {w : World} {B b off n c lo hi : Nat} {f : Nat → Nat} (h : Rs w B (some ⟨b, off, none⟩) n c f) (hlo : lo ≤ hi) (hhi : hi ≤ n) : Rs w B (some ⟨b, off + lo, none⟩) (hi - lo) (c - lo) (fun j => f (lo + j)) :=
  ⟨by have := h.cap; omega, by have := h.max; omega, fun j hj => h.bd _ (by omega), fun h0 => by
    obtain ⟨b', off', e, hb, hc⟩ := h.cell (by omega)
    cases e
    exact ⟨b, off + lo, rfl, hb, fun j hj => by rw [Nat.add_assoc]; exact hc (lo + j) (by omega)⟩⟩

theorem product_done {f g q : Nat → Nat} {n m V : Nat} (hf : ∀ j, j < n → f j < LB) (hg : ∀ j, j < m → g j < LB) (e : nv q (n + m) + V * LB ^ (n + m) = cols (pl f n) (pl g m) n (n + m)) : nv q (n + m) = nv f n * nv g m := by
  rw [cols_eq (m := m) (fun j hj => pl_out hj) n (n + m) (Nat.le_refl _), nv_pl f n n (Nat.le_refl _), nv_pl g m m (Nat.le_refl _)] at e
  have h1 : nv f n * nv g m < LB ^ (n + m) := by
    rw [Nat.pow_add]
    exact Nat.mul_lt_mul'' (nv_lt n hf) (nv_lt m hg)
  rcases Nat.eq_zero_or_pos V with h0 | h0
  · subst h0; rw [Nat.zero_mul] at e; omega
  · have : 1 * LB ^ (n + m) ≤ V * LB ^ (n + m) := Nat.mul_le_mul_right _ h0
    omega

set_option maxRecDepth 100000 in
set_option maxHeartbeats 4000000 in
theorem product_any (A A' : Option Addr) (n c m c' : Nat) (f g : Nat → Nat) (w : World) (hA : Rs w w.heap.size A n c f) (hB : Rs w w.heap.size A' m c' g) (hf : ∀ j, j < n → f j < LB) (hg : ∀ j, j < m → g j < LB) (hn : n ≤ 2000) (hm : m ≤ 2000) (h11 : ¬ (n = 1 ∧ m = 1)) :
    Calls Tryz.prog 161 #[.slice A n c, .slice A' m c'] w fun e w' => ∃ v, e = .returned v ∧ Made w (nv f n * nv g m) v w' := by
  have hmk := run_make_row' (P := Tryz.prog) 23 48 (.int .u32 0) 4 Tryz.underlying23 info32 rfl .i64 .i64 (n + m) (by omega) (by omega)
  rw [show ((n + m : Nat) : Int) = (n : Int) + (m : Int) by omega] at hmk
  have HF := Lib.hid hf
  have HG := Lib.hid hg
  clear hf hg
  have HMK := Lib.hid hmk
  have hrow := Row.made w (n + m)
  have hbel : Below w.heap.size w (w.alloc (.cells (madeCells #[.int .u32 0] (n + m)) 48)) := (Below.refl _ _).alloc (Nat.le_refl _) _
  have hsz : (w.alloc (.cells (madeCells #[.int .u32 0] (n + m)) 48)).heap.size = w.heap.size + 1 := World.size_alloc _ _
  obtain ⟨w1, hw1⟩ : ∃ w1, w.alloc (.cells (madeCells #[.int .u32 0] (n + m)) 48) = w1 := ⟨_, rfl⟩
  replace hmk := hmk w
  rw [hw1] at hrow hbel hsz hmk
  have hcol : Col (w1.alloc (.cells #[.int .u64 0, .int .u64 0] 167)) (w.heap.size + 1) 0 := by
    have h := World.rowIs_alloc w1 #[.int .u64 0, .int .u64 0] 167 (fun _ => .int .u64 0) (fun i hi => by
      rcases (by simpa using hi : i < 2) with h
      rcases (by omega : i = 0 ∨ i = 1) with rfl | rfl <;> rfl)
    rw [hsz] at h
    refine World.rowIs.congr h fun j hj => ?_
    rw [Nat.zero_div, Nat.zero_mod, iv_zero]; split <;> rfl
  have hrow2 : Row (w1.alloc (.cells #[.int .u64 0, .int .u64 0] 167)) w.heap.size (n + m) (fun _ => 0) := hrow.keep (Below.heap_alloc _ _ _ (by omega))
  have hbel2 : Below w.heap.size w (w1.alloc (.cells #[.int .u64 0, .int .u64 0] 167)) := hbel.alloc (by omega) _
  clear hw1 hrow hbel HMK
  have hcond : (((n : Int) == 1) = true ∧ ((m : Int) == 1) = false) ∨ ((n : Int) == 1) = false := by
    by_cases e : n = 1
    · left; exact ⟨by rw [beq_iff_eq]; omega, by rw [beq_eq_false_iff_ne]; omega⟩
    · right; rw [beq_eq_false_iff_ne]; omega
  clear h11
  rcases hcond with ⟨hb1, hb2⟩ | hb1
  all_goals
    go_enter Tryz.func161, Tryz.ntmps161
    go_wp2_with fail
    generalize w1.alloc (.cells #[.int .u64 0, .int .u64 0] 167) = w2 at *
    clear hmk hsz
    go_loopw [7, 8, 9, 36] (fun _ _ _ idx wr => ∃ k : Nat, k ≤ n + m ∧ idx = .int .i64 k ∧ ∃ q V, Row wr w.heap.size (n + m) q ∧ Col wr (w.heap.size + 1) V ∧ Hid (nv q k + V * LB ^ k = cols (pl f n) (pl g m) n k ∧ (∀ j, q j < LB) ∧ V < 4722366482869645213696) ∧ Below w.heap.size w wr) (fun _ _ _ idx _ => n + m - (intOf idx).toNat)
    case atStart => exact ⟨0, Nat.zero_le _, rfl, _, 0, hrow2, hcol, ⟨by simp [nv, cols], fun _ => LB_pos, by omega⟩, hbel2⟩
    case round =>
      obtain ⟨k, hk, rfl, q, V, hrq, hcl, hq, hb⟩ := hrel
      by_cases hlt : k < n + m
      · obtain ⟨LO, hLO⟩ : ∃ LO, LO = k + 1 - m := ⟨_, rfl⟩
        obtain ⟨E, hE⟩ : ∃ E, E = min (k + 1) n := ⟨_, rfl⟩
        have hlo : max (0 : Int) ((k : Int) - (m : Int) + 1) = (LO : Int) := by omega
        have hend : min ((k : Int) + 1) (n : Int) = (E : Int) := by omega
        have hLE : LO ≤ E ∧ E ≤ n ∧ E ≤ k + 1 ∧ k + 1 ≤ LO + m := by omega
        have HLE := Lib.hid hLE
        have HLO := Lib.hid hLO
        have HEE := Lib.hid hE
        clear hLO hE hLE
        go_wp2_with fail
        have hltI : (k : Int) < (n : Int) + (m : Int) := by omega
        simp only [hltI, decide_true]
        go_loopw [9] (fun i wr2 => ∃ x V2 : Nat, i = .int .i64 x ∧ LO ≤ x ∧ x ≤ E + 17 ∧ Row wr2 w.heap.size (n + m) q ∧ Col wr2 (w.heap.size + 1) V2 ∧ Hid (V2 = V + sm (fun t => f (LO + t) * g (k - (LO + t))) (min x E - LO)) ∧ Below w.heap.size w wr2) (fun i _ => E + 18 - (intOf i).toNat)
        case atStart => exact ⟨LO, V, rfl, Nat.le_refl _, by have := HLE.out; omega, hrq, hcl, by rw [show min LO E - LO = 0 by omega, sm, Nat.add_zero]; exact Lib.hid rfl, hb⟩
        case round =>
          obtain ⟨x, V2, rfl, hx1, hx2, hrq2, hcl2, hV2, hb2⟩ := hrel
          by_cases hxE : x < E
          · obtain ⟨h1, h2, h3, h4⟩ := HLE.out
            obtain ⟨b1, off1, rfl, hb1', hcc1⟩ := (hA.below hb2).cell (by omega)
            obtain ⟨b2, off2, rfl, hb2', hcc2⟩ := (hB.below hb2).cell (by omega)
            obtain ⟨E', hE'⟩ : ∃ E', E' = min (x + 18) E := ⟨_, rfl⟩
            obtain ⟨H, hH⟩ : ∃ H, H = k - x + 1 := ⟨_, rfl⟩
            have hmin : min (IntKind.i64.wrap ((x : Int) + 18)) (E : Int) = (E' : Int) := by rw [w64 _ (by omega) (by omega)]; omega
            have hsub : IntKind.i64.wrap (IntKind.i64.wrap ((k : Int) - (x : Int)) + 1) = (H : Int) := by rw [w64 ((k : Int) - (x : Int)) (by omega) (by omega), w64 _ (by omega) (by omega)]; omega
            have hcapa := hA.cap
            have hcapb := hB.cap
            have hi1 : (E' : Int) ≤ (c : Int) := by omega
            have hi2 : x ≤ E' := by omega
            have hi3 : ¬ c = x := by omega
            have hi4 : (H : Int) ≤ (c' : Int) := by omega
            have hi5 : ¬ c' = 0 := by omega
            have HE' := Lib.hid hE'
            have HH := Lib.hid hH
            clear hcc1 hcc2 hE' hH
            go_wp2_with fail
            have hrq3 : Row wr.drew w.heap.size (n + m) q := hrq2
            have hcl3 : Col wr.drew (w.heap.size + 1) V2 := hcl2
            have hb3 : Below w.heap.size w wr.drew := hb2.drew
            have hA3 := (hA.below hb3).sub hi2 (by have := HE'.out; omega : E' ≤ n)
            have hB3 := (hB.below hb3).take (by have := HH.out; omega : H ≤ m)
            have HST := Lib.hid (cross_step (f := f) (g := g) (k := k) hx1 hi2 (by have := HE'.out; omega) HH.out)
            have hsl := sm_le (h := fun t => f (x + t) * g (H - 1 - t)) (E' - x) (B := 999999998000000001) fun j hj => (times_lt (HF.out (x + j) (by have := HE'.out; omega)) (HG.out (H - 1 - j) (by have := HH.out; omega)) LB_pos LB_pos).2
            have hsl2 : sm (fun t => f (x + t) * g (H - 1 - t)) (E' - x) ≤ 17999999964000000018 := Nat.le_trans hsl (Nat.le_trans (Nat.mul_le_mul_right _ (by have := HE'.out; omega : E' - x ≤ 18)) (by omega))
            have hsm := sm_le (h := fun t => f (LO + t) * g (k - (LO + t))) (x - LO) (B := 999999998000000001) fun j hj => (times_lt (HF.out (LO + j) (by omega)) (HG.out (k - (LO + j)) (by omega)) LB_pos LB_pos).2
            have hsm2 : sm (fun t => f (LO + t) * g (k - (LO + t))) (x - LO) ≤ 1999999996000000002000 := Nat.le_trans hsm (Nat.le_trans (Nat.mul_le_mul_right _ (by omega : x - LO ≤ 2000)) (by omega))
            have hmx : min x E - LO = x - LO := by omega
            have hV3 := hV2.out
            rw [hmx] at hV3
            have hqV := hq.out.2.2
            have HBV : Big (V2 + sm (fun t => f (x + t) * g (H - 1 - t)) (E' - x) < 18446744073709551616 * 18446744073709551616) := Big.mk (by omega)
            have HBS : Big (sm (fun t => f (x + t) * g (H - 1 - t)) (E' - x) < 18446744073709551616) := Big.mk (by omega)
            have HV3 := Lib.hid hV3
            have HFF : Hid (∀ j, j < E' - x → f (x + j) < LB) := Lib.hid fun j hj => HF.out _ (by have := HE'.out; omega)
            have HGG : Hid (∀ j, j < H → g j < LB) := Lib.hid fun j hj => HG.out _ (by have := HH.out; omega)
            clear hsl hsl2 hsm hsm2 hmx hqV hV3
            go_still_tail 13, (by kernel_rfl)
            change wpList _ _ _ _ _ wr.drew
            generalize wr.drew = w3 at *
            go_wp2_with fail
            refine (cross_any _ _ _ _ _ _ _ _ _ _ _ hA3 hB3 HFF.out HGG.out (by have := HE'.out; omega) (by have := HE'.out; have := HH.out; omega)).mono ?_
            rintro e w' ⟨rfl, d, rfl⟩
            generalize hgS : sm (fun t => f (x + t) * g (H - 1 - t)) (E' - x) = S at *
            have hrq4 : Row (w3.drewN d) w.heap.size (n + m) q := hrq3
            have hcl4 : Col (w3.drewN d) (w.heap.size + 1) V2 := hcl3
            have hb4 : Below w.heap.size w (w3.drewN d) := hb3.trans ((Below.drewN _ d).mono hb3.size)
            clear hrq3 hcl3 hb3 hA3 hB3 hrq2 hcl2 hb2
            generalize w3.drewN d = w4 at *
            go_wp2_with fail
            have hcl5 : Col (w4.alloc (.cells #[.int .u64 (iv S)] 142)) (w.heap.size + 1) V2 := hcl4.keep (Below.heap_alloc _ _ _ hcl4.lt)
            refine (collect_any (w.heap.size + 1) V2 w4.heap.size S _ hcl5 (cell_new1 _ _ rfl _ _) HBS HBV).mono ?_
            rintro e w5 ⟨rfl, hcl6, hg6⟩
            have hrq5 : Row (w4.alloc (.cells #[.int .u64 (iv S)] 142)) w.heap.size (n + m) q := hrq4.keep (Below.heap_alloc _ _ _ hrq4.lt)
            have hrq6 : Row w5 w.heap.size (n + m) q := hrq5.keep (hg6.block _ hrq5.lt (by simp))
            have hb6 : Below w.heap.size w w5 := (hb4.alloc hb4.size (.cells #[.int .u64 (iv S)] 142)).grown hg6 (by have := hb4.size; simp; omega) (fun j e => by cases e; omega)
            clear hcl5 hcl4 hrq5 hrq4 hb4 hg6 HBS HBV HFF HGG
            go_wp2_with fail
            go_roundw
            case rel => exact ⟨x + 18, _, by go_num, by omega, by omega, hrq6, hcl6, by rw [← HE'.out, HST.out, HV3.out, Nat.add_assoc]; exact Lib.hid rfl, hb6⟩
            case measure => simp [intOf]; omega
          · have hcv : V2 = V + cvn (pl f n) (pl g m) n k := by
              rw [col_sum HLO.out HEE.out HLE.out.1, hV2.out, show min x E = E by omega]
            have HCV := Lib.hid hcv
            have HEQ := Lib.hid (col_step (S := cvn (pl f n) (pl g m) n k) hq.out.1)
            have hcb : cvn (pl f n) (pl g m) n k ≤ 2000 * 999999998000000001 := by
              refine Nat.le_trans (sm_le (B := 999999998000000001) n fun j hj => ?_) (Nat.mul_le_mul_right _ hn)
              split
              · exact (times_lt (pl_lt HF.out j) (pl_lt HG.out _) LB_pos LB_pos).2
              · omega
            have hqV := hq.out.2.2
            have hVn : V2 / LB < 4722366482869645213696 := by rw [Nat.div_lt_iff_lt_mul LB_pos, LB_eq]; omega
            have HVN := Lib.hid hVn
            have HBV : Big (V2 < 18446744073709551616 * 18446744073709551616) := Big.mk (by omega)
            have HTK := Lib.hid (take_any (w.heap.size + 1) V2 wr hcl2 HBV)
            clear hcv hcb hqV hVn
            go_wp2_with fail
            refine HTK.out.mono ?_
            rintro e w6 ⟨rfl, hcl6, hg6⟩
            have hrq6 : Row w6 w.heap.size (n + m) q := hrq2.keep (hg6.block _ hrq2.lt (by simp))
            have hb6 : Below w.heap.size w w6 := hb2.grown hg6 hb2.size (fun j e => by cases e; omega)
            have hz := hrq6.cell hlt
            have hfz := hrq6.frozen k
            have HNEW := Lib.hid (hrq6.set k (V2 % LB))
            have HCL := Lib.hid (hcl6.keep (Below.heap_setCell w6 ⟨w.heap.size, k, none⟩ (.int .u32 (iv (V2 % LB))) (w.heap.size + 1) (by simp)))
            clear hrq2 hcl2 hb2 hg6 hcl6
            generalize hgz : iv (V2 % LB) = Z at *
            clear hgz
            go_wp2_with fail
            go_roundw
            case rel => exact ⟨k + 1, by omega, by go_num, _, _, HNEW.out, HCL.out, ⟨by rw [HCV.out]; exact HEQ.out, fun j => by show (if j = k then V2 % LB else q j) < LB; split; exact Nat.mod_lt _ LB_pos; exact hq.out.2.1 j, HVN.out⟩, hb6.setCell (p := ⟨w.heap.size, k, none⟩) (Nat.le_refl _) _⟩
            case measure => simp [intOf]; omega
      · obtain rfl : k = n + m := by omega
        have HE := Lib.hid (product_done HF.out HG.out hq.out.1)
        have HQ := Lib.hid hq.out.2.1
        have HT := Lib.hid (trim_any (some ⟨w.heap.size, 0, none⟩) (n + m) (n + m) q _ wr (hrq.rs (by omega) (fun j hj => by have := HQ.out j; rw [LB_eq] at this; omega)))
        go_wp2_with fail
        refine HT.out.mono ?_
        rintro e w' ⟨⟨v, rfl, ht⟩, rfl⟩
        have HM := Lib.hid (ht.made (fun j _ => HQ.out j) HE.out hb)
        clear ht
        go_wp2_with fail
        go_ret
        exact ⟨_, rfl, HM.out⟩

end Go.Proofs.YtmcacofpnnaplaaGreatDoor

/- The contracts of the reference's trim, Minus and Small, with the memory that they leave: what Minus returns lies in memory of its own. Conditions as premises: the lists read, and are valid. -/
import Derived.Test.YtoonhjeiommhcaaRefSub
import Derived.Test.YtoonhjeiommhcaaTimes
namespace Go.Proofs.Ytoonhjeiommhcaa
open Go.RowKit Go.Shelf

/-- Block g begins with n limbs, limb i being f i. -/
def Fx (w : World) (g n : Nat) (f : Nat → Nat) : Prop := ∃ cur : Array Value, w.heap[g]? = some (.cells cur 30 (0, 0)) ∧ ∀ j, j < n → cur[j]? = some (.int .u32 (iv (f j)))
section
variable {w w' : World} {g n : Nat} {f : Nat → Nat}
theorem Fx.cell (h : Fx w g n f) {i : Nat} (hi : i < n) : w.cell? ⟨g, i, none⟩ = some (.int .u32 (iv (f i))) := by
  obtain ⟨cur, h1, h2⟩ := h
  rw [cell_of_row w g i cur _ _ h1]; exact h2 i hi
theorem Fx.frozen (h : Fx w g n f) (i : Nat) : w.frozen? ⟨g, i, none⟩ = false := by
  obtain ⟨cur, h1, h2⟩ := h
  exact World.rowIs.frozen (n := cur.size) (f := fun i => cur[i]?.getD undef) ⟨cur, h1, rfl, fun i hi => by simp [hi]⟩ i
theorem Fx.lt (h : Fx w g n f) : g < w.heap.size := by
  obtain ⟨cur, h1, h2⟩ := h
  exact (Array.getElem?_eq_some_iff.1 h1).1
theorem Fx.keep (h : Fx w g n f) (e : w'.heap[g]? = w.heap[g]?) : Fx w' g n f := by unfold Fx at *; rw [e]; exact h
theorem Fx.set (h : Fx w g n f) (i x : Nat) : Fx (w.setCell ⟨g, i, none⟩ (.int .u32 (iv x))) g n (fun j => if j = i then x else f j) := by
  obtain ⟨cur, h1, h2⟩ := h
  refine ⟨cur.setIfInBounds i (.int .u32 (iv x)), ?_, fun j hj => ?_⟩
  · simp only [World.setCell, Array.getElem?_modify, h1]; simp
  · rw [Array.getElem?_setIfInBounds]
    by_cases e : i = j
    · subst e
      have hs : i < cur.size := (Array.getElem?_eq_some_iff.1 (h2 i hj)).1
      simp [hs]
    · rw [if_neg e]
      show _ = some (Value.int .u32 (iv (if j = i then x else f j)))
      rw [if_neg (Ne.symm e)]; exact h2 j hj
theorem Fx.congr {f' : Nat → Nat} (h : Fx w g n f) (e : ∀ j, j < n → f j = f' j) : Fx w g n f' := by
  obtain ⟨cur, h1, h2⟩ := h
  exact ⟨cur, h1, fun j hj => by rw [← e j hj]; exact h2 j hj⟩
theorem Fx.less (h : Fx w g n f) {m : Nat} (hm : m ≤ n) : Fx w g m f := by
  obtain ⟨cur, h1, h2⟩ := h
  exact ⟨cur, h1, fun j hj => h2 j (by omega)⟩
end

/-- what lies in memory that the call made: a slice of limbs from block 'base' on -/
def Fresh (base : Nat) (w : World) (A : Option Addr) (k : Nat) (S : Nat → Nat) : Prop := k = 0 ∨ ∃ g, A = some ⟨g, 0, none⟩ ∧ base ≤ g ∧ Fx w g k S

theorem Fresh.less {base : Nat} {w : World} {A : Option Addr} {k m : Nat} {S : Nat → Nat} (h : Fresh base w A k S) (hm : m ≤ k) : Fresh base w A m S := by
  rcases h with h | ⟨g, e, hg, hx⟩
  · exact .inl (by omega)
  · exact .inr ⟨g, e, hg, hx.less hm⟩

theorem Own.fresh {w : World} {base n : Nat} {v : Value} {f : Nat → Nat} (h : Own w base v n f) (hb : ∀ j, j < n → f j < 4294967296) :
    ∃ A c, v = .slice A n c ∧ Rs w w.heap.size A n c f ∧ Fresh base w A n f := by
  have h0 := h
  unfold Own at h
  rcases h.2 with ⟨rfl, rfl⟩ | ⟨g, cap, cur, rfl, hg, hh, hnc, hcm, hsz, htk⟩
  · exact ⟨none, 0, rfl, Rs.nil _ _ _, .inl rfl⟩
  · obtain ⟨A, c, e, hr⟩ := h0.rs hb
    cases e
    refine ⟨_, _, rfl, hr, .inr ⟨g, rfl, hg, cur, hh, fun j hj => ?_⟩⟩
    obtain ⟨b, off, e2, _, hc⟩ := hr.cell (by omega)
    cases e2
    have h3 := hc j hj
    rw [Nat.zero_add, cell_of_row w g j cur _ _ hh] at h3
    exact h3

set_option maxHeartbeats 800000 in
set_option maxRecDepth 100000 in
theorem refTrim_same (A : Option Addr) (n c : Nat) (f : Nat → Nat) (B : Nat) (w : World) (h : Rs w B A n c f) :
    Calls Try.prog 55 #[.slice A n c] w fun e w' => (∃ k, e = .returned (.slice A k c) ∧ Trim n f k) ∧ w = w' := by
  have hmax : n ≤ 9223372036854775807 := Nat.le_trans h.cap h.max
  have HM := Big.mk hmax
  clear hmax
  have hmax : (n : Int) ≤ 9223372036854775807 := by have := HM.out; omega
  go_enter Try.func55, Try.ntmps55
  go_wp2
  go_loop [0] (fun s => ∃ k : Nat, k ≤ n ∧ s = .slice A k c ∧ Hid (∀ j, k ≤ j → j < n → f j = 0)) (fun s => lenV s)
  case atStart => exact ⟨n, Nat.le_refl _, rfl, fun j a b => by omega⟩
  case round =>
    obtain ⟨k, hk, rfl, hz⟩ := hrel
    by_cases hk0 : k = 0
    · subst hk0
      go_wp2
      go_ret
      exact ⟨⟨0, rfl, by omega, hz, fun h => by omega⟩, rfl⟩
    · have hkp : 0 < k := by omega
      have hkp' : (0 : Int) < (k : Int) := by omega
      obtain ⟨b, off, rfl, hb, hc⟩ := h.cell (by omega)
      have hck := hc (k - 1) (by omega)
      have hcap : k ≤ c := by have := h.cap; omega
      clear hc hk0
      by_cases hf : f (k - 1) = 0
      · rw [hf, iv_zero] at hck
        have HF := Lib.hid hf
        clear hf
        go_wp2
        go_round
        case rel => exact ⟨k - 1, by omega, by go_num, fun j a b => by
          by_cases e : j = k - 1
          · subst e; exact HF.out
          · exact hz j (by omega) b⟩
        case measure => simp [lenV] <;> omega
      · have hfb : (iv (f (k - 1)) == 0) = false := by rw [beq_eq_false_iff_ne]; intro e; apply hf; rw [iv_eq] at e; omega
        have HF := Lib.hid hf
        clear hf
        generalize iv (f (k - 1)) = x at *
        go_wp2
        go_ret
        exact ⟨⟨k, rfl, hk, hz, fun _ => HF.out⟩, rfl⟩

set_option maxHeartbeats 800000 in
set_option maxRecDepth 100000 in
theorem refSmall_any (d : Nat) (hd : d < LB) (w : World) :
    Calls Try.prog 63 #[.int .u32 (iv d)] w fun e w' => ∃ v, e = .returned v ∧ Made w d v w' := by
  have hrs : Rs (w.alloc (.cells #[.int .u32 (iv d)] 30)) (w.heap.size + 1) (some ⟨w.heap.size, 0, none⟩) 1 1 (l1 d) := rs_l1 w d (by rw [LB_eq] at hd; omega)
  have HT := Lib.hid (refTrim_any _ 1 1 (l1 d) _ _ hrs)
  have hb : Below w.heap.size w (w.alloc (.cells #[.int .u32 (iv d)] 30)) := (Below.refl _ _).alloc (Nat.le_refl _) _
  have HD := Lib.hid hd
  have h0 := iv_nonneg d
  have h1 := iv_limb hd
  clear hd hrs
  go_enter Try.func63, Try.ntmps63
  go_wp2_with fail
  refine HT.out.mono ?_
  rintro e w' ⟨⟨v, rfl, ht⟩, rfl⟩
  have HM : Hid (Made w d v _) := Lib.hid (by
    obtain ⟨A, m, c, rfl, hr, htr⟩ := ht
    exact ⟨A, m, c, l1 d, rfl, hr.more (by simp), htr.dig (fun j _ => HD.out) (by simp [nv, l1]), hb⟩)
  clear ht
  go_wp2_with fail
  go_ret
  exact ⟨_, rfl, HM.out⟩

set_option maxRecDepth 100000 in
set_option maxHeartbeats 1600000 in
theorem refMinus_own (A A' : Option Addr) (n c m c' : Nat) (f g : Nat → Nat) (w : World) (hA : Rs w w.heap.size A n c f) (hB : Rs w w.heap.size A' m c' g) (vf : Val n f) (vg : Val m g) (hn : n ≤ 2000) (hle : nv g m ≤ nv f n) :
    Calls Try.prog 40 #[.slice A n c, .slice A' m c'] w fun e w' => ∃ A3 k c3 S, e = .returned (.slice A3 k c3) ∧ Rs w' w'.heap.size A3 k c3 S ∧ Dig k S (nv f n - nv g m) ∧ Below w.heap.size w w' ∧ Fresh w.heap.size w' A3 k S := by
  have HD := Lib.hid (minus_done vf vg hle)
  have HL : Hid (∀ j, dl (pl f n) (pl g m) j < LB) := Lib.hid fun j => dl_lt (pl_lt vf.1 j) (pl_lt vg.1 j)
  have HS : Hid (∀ k z, z = iv (pl f n k) - iv (bw (pl f n) (pl g m) k) - iv (pl g m k) → (z < 0 ∧ iv (dl (pl f n) (pl g m) k) = z + 1000000000 ∧ iv (bw (pl f n) (pl g m) (k + 1)) = 1) ∨ (¬ z < 0 ∧ iv (dl (pl f n) (pl g m) k) = z ∧ iv (bw (pl f n) (pl g m) (k + 1)) = 0)) :=
    Lib.hid fun k z hz => minus_step _ _ k (pl_lt vf.1 k) (pl_lt vg.1 k) z hz
  have VF := Lib.hid vf
  have VG := Lib.hid vg
  clear vf vg hle
  go_enter Try.func40, Try.ntmps40
  go_wp2
  go_loopw [5, 6, 7] (fun v u i wr => ∃ k : Nat, k ≤ n ∧ i = .int .i64 k ∧ u = .int .i64 (iv (bw (pl f n) (pl g m) k)) ∧ Own wr w.heap.size v k (dl (pl f n) (pl g m)) ∧ Below w.heap.size w wr) (fun _ _ i _ => n - (intOf i).toNat)
  case atStart => exact ⟨0, Nat.zero_le _, rfl, by rw [bw, iv_zero], Own.nil _ _ _, Below.refl _ _⟩
  case round =>
    obtain ⟨k, hk, rfl, rfl, hown, hbel⟩ := hrel
    by_cases ha : k < n
    · have hC0 := iv_nonneg (bw (pl f n) (pl g m) k)
      have hC1 : iv (bw (pl f n) (pl g m) k) ≤ 1 := by have := bw_le (pl f n) (pl g m) k; rw [iv_eq]; omega
      have hr1 := hA.below hbel
      have hr2 := hB.below hbel
      have hst := HS.out k
      have hx1 := iv_limb (VF.out.1 k ha)
      have hx0 := iv_nonneg (f k)
      obtain ⟨b1, off1, rfl, hb1, hcc1⟩ := hr1.cell (by omega)
      have hck1 := hcc1 k ha
      rw [pl_in ha] at hst
      clear hcc1
      by_cases hb : k < m
      · have hy1 := iv_limb (VG.out.1 k hb)
        have hy0 := iv_nonneg (g k)
        obtain ⟨b2, off2, rfl, hb2, hcc2⟩ := hr2.cell (by omega)
        have hck2 := hcc2 k hb
        rw [pl_in hb] at hst
        clear hcc2
        generalize iv (f k) = X at *
        generalize iv (g k) = Y at *
        generalize hgc : iv (bw (pl f n) (pl g m) k) = C at *
        clear hgc
        rcases hst _ rfl with ⟨hz, h1, h2⟩ | ⟨hz, h1, h2⟩
        · have H1 := Lib.hid h1
          have H2 := Lib.hid h2
          clear hst h1 h2
          go_wp2_with (at_builtin; refine app_own rfl (.tmp 37) (.tmp 40) rfl hown hbel rfl rfl H1.out (by omega) ?_; intro v' w1 hown1 hb1')
          go_roundw
          case rel => exact ⟨k + 1, by omega, by go_num, by rw [H2.out], hown1, hb1'⟩
          case measure => simp [intOf]; omega
        · have H1 := Lib.hid h1
          have H2 := Lib.hid h2
          clear hst h1 h2
          go_wp2_with (at_builtin; refine app_own rfl (.tmp 37) (.tmp 40) rfl hown hbel rfl rfl H1.out (by omega) ?_; intro v' w1 hown1 hb1')
          go_roundw
          case rel => exact ⟨k + 1, by omega, by go_num, by rw [H2.out], hown1, hb1'⟩
          case measure => simp [intOf]; omega
      · have hb' : m ≤ k := by omega
        rw [pl_out hb', iv_zero, Int.sub_zero] at hst
        generalize iv (f k) = X at *
        generalize hgc : iv (bw (pl f n) (pl g m) k) = C at *
        clear hgc
        rcases hst _ rfl with ⟨hz, h1, h2⟩ | ⟨hz, h1, h2⟩
        · have H1 := Lib.hid h1
          have H2 := Lib.hid h2
          clear hst h1 h2
          go_wp2_with (at_builtin; refine app_own rfl (.tmp 37) (.tmp 40) rfl hown hbel rfl rfl H1.out (by omega) ?_; intro v' w1 hown1 hb1')
          go_roundw
          case rel => exact ⟨k + 1, by omega, by go_num, by rw [H2.out], hown1, hb1'⟩
          case measure => simp [intOf]; omega
        · have H1 := Lib.hid h1
          have H2 := Lib.hid h2
          clear hst h1 h2
          go_wp2_with (at_builtin; refine app_own rfl (.tmp 37) (.tmp 40) rfl hown hbel rfl rfl H1.out (by omega) ?_; intro v' w1 hown1 hb1')
          go_roundw
          case rel => exact ⟨k + 1, by omega, by go_num, by rw [H2.out], hown1, hb1'⟩
          case measure => simp [intOf]; omega
    · obtain rfl : k = n := by omega
      obtain ⟨V, cap, rfl, hr, hfr⟩ := hown.fresh (fun j _ => by have := HL.out j; rw [LB_eq] at this; omega)
      have HT := Lib.hid (refTrim_same V k cap _ _ wr hr)
      have HR := Lib.hid hr
      have HFR := Lib.hid hfr
      clear hr hown hfr
      go_wp2_with fail
      refine HT.out.mono ?_
      rintro e w' ⟨⟨k2, rfl, ht⟩, rfl⟩
      have HTR := Lib.hid ht
      clear ht
      go_wp2_with fail
      go_ret
      exact ⟨V, k2, cap, _, rfl, HR.out.take HTR.out.le, HTR.out.dig (fun j _ => HL.out j) HD.out, hbel, HFR.out.less HTR.out.le⟩

end Go.Proofs.Ytoonhjeiommhcaa

/- The contracts of the functions under the laws of package rat: OwnMin, Over, OverWalk, RefGcd, RefA, RefMath, RefB, RefC, RefD, RefE, joined into one file. -/
import Derived.Test.YtbjaolmlnkliiaaGreatDoorNatE
import Derived.Test.YtbjaolmlnkliiaaGreatDoorNatG
import Derived.Test.YtbjaolmlnkliiaaGreatDoorNatF
import Derived.Test.YtbjaolmlnkliiaaGreatDoorNatH
import Derived.Test.YtbjaolmlnkliiaaGreatDoorRatFour
import Derived.Test.YtbjaolmlnkliiaaGreatDoorRatOne
import Derived.Deep.RegionHeld3
import Derived.Deep.DrawnRows
import Derived.Deep.DeepCutAuto
/- The contracts of the reference's trim, Minus and Small, with the memory that they leave: what Minus returns lies in memory of its own. Conditions as premises: the lists read, and are valid. -/
namespace Go.Proofs.YtbjaolmlnkliiaaGreatDoor
open Go.RowKit Go.Shelf

/-- Block g begins with n limbs, limb i being f i. -/
def Fx (w : World) (g n : Nat) (f : Nat → Nat) : Prop := ∃ cur : Array Value, w.heap[g]? = some (.cells cur 40 (0, 0)) ∧ ∀ j, j < n → cur[j]? = some (.int .u32 (iv (f j)))
section
variable {w w' : World} {g n : Nat} {f : Nat → Nat}
theorem Fx.cell (h : Fx w g n f) {i : Nat} (hi : i < n) : w.cell? ⟨g, i, none⟩ = some (.int .u32 (iv (f i))) := by
  obtain ⟨cur, h1, h2⟩ := h
  rw [cell_of_row w g i cur _ _ h1]; exact h2 i hi
theorem Fx.frozen (h : Fx w g n f) (i : Nat) : w.frozen? ⟨g, i, none⟩ = false := by
  obtain ⟨cur, h1, h2⟩ := h
  exact World.rowIs.frozen (n := cur.size) (f := fun i => cur[i]?.getD undef) ⟨cur, h1, rfl, fun i hi => by simp [hi]⟩ i
theorem Fx.lt (h : Fx w g n f) : g < w.heap.size := by
  obtain ⟨cur, h1, h2⟩ := h
  exact (Array.getElem?_eq_some_iff.1 h1).1
theorem Fx.keep (h : Fx w g n f) (e : w'.heap[g]? = w.heap[g]?) : Fx w' g n f := by unfold Fx at *; rw [e]; exact h
theorem Fx.set (h : Fx w g n f) (i x : Nat) : Fx (w.setCell ⟨g, i, none⟩ (.int .u32 (iv x))) g n (fun j => if j = i then x else f j) := by
  obtain ⟨cur, h1, h2⟩ := h
  refine ⟨cur.setIfInBounds i (.int .u32 (iv x)), ?_, fun j hj => ?_⟩
  · simp only [World.setCell, Array.getElem?_modify, h1]; simp
  · rw [Array.getElem?_setIfInBounds]
    by_cases e : i = j
    · subst e
      have hs : i < cur.size := (Array.getElem?_eq_some_iff.1 (h2 i hj)).1
      simp [hs]
    · rw [if_neg e]
      show _ = some (Value.int .u32 (iv (if j = i then x else f j)))
      rw [if_neg (Ne.symm e)]; exact h2 j hj
theorem Fx.congr {f' : Nat → Nat} (h : Fx w g n f) (e : ∀ j, j < n → f j = f' j) : Fx w g n f' := by
  obtain ⟨cur, h1, h2⟩ := h
  exact ⟨cur, h1, fun j hj => by rw [← e j hj]; exact h2 j hj⟩
theorem Fx.less (h : Fx w g n f) {m : Nat} (hm : m ≤ n) : Fx w g m f := by
  obtain ⟨cur, h1, h2⟩ := h
  exact ⟨cur, h1, fun j hj => h2 j (by omega)⟩
end

/-- what lies in memory that the call made: a slice of limbs from block 'base' on -/
def Fresh (base : Nat) (w : World) (A : Option Addr) (k : Nat) (S : Nat → Nat) : Prop := k = 0 ∨ ∃ g, A = some ⟨g, 0, none⟩ ∧ base ≤ g ∧ Fx w g k S

theorem Fresh.less {base : Nat} {w : World} {A : Option Addr} {k m : Nat} {S : Nat → Nat} (h : Fresh base w A k S) (hm : m ≤ k) : Fresh base w A m S := by
  rcases h with h | ⟨g, e, hg, hx⟩
  · exact .inl (by omega)
  · exact .inr ⟨g, e, hg, hx.less hm⟩

theorem Own.fresh {w : World} {base n : Nat} {v : Value} {f : Nat → Nat} (h : Own w base v n f) (hb : ∀ j, j < n → f j < 4294967296) :
    ∃ A c, v = .slice A n c ∧ Rs w w.heap.size A n c f ∧ Fresh base w A n f := by
  have h0 := h
  unfold Own at h
  rcases h.2 with ⟨rfl, rfl⟩ | ⟨g, cap, cur, rfl, hg, hh, hnc, hcm, hsz, htk⟩
  · exact ⟨none, 0, rfl, Rs.nil _ _ _, .inl rfl⟩
  · obtain ⟨A, c, e, hr⟩ := h0.rs hb
    cases e
    refine ⟨_, _, rfl, hr, .inr ⟨g, rfl, hg, cur, hh, fun j hj => ?_⟩⟩
    obtain ⟨b, off, e2, _, hc⟩ := hr.cell (by omega)
    cases e2
    have h3 := hc j hj
    rw [Nat.zero_add, cell_of_row w g j cur _ _ hh] at h3
    exact h3

set_option maxHeartbeats 800000 in
set_option maxRecDepth 100000 in
theorem refTrim_same (A : Option Addr) (n c : Nat) (f : Nat → Nat) (B : Nat) (w : World) (h : Rs w B A n c f) :
    Calls Tryz.prog 162 #[.slice A n c] w fun e w' => (∃ k, e = .returned (.slice A k c) ∧ Trim n f k) ∧ w = w' := by
  have hmax : n ≤ 9223372036854775807 := Nat.le_trans h.cap h.max
  have HM := Big.mk hmax
  clear hmax
  have hmax : (n : Int) ≤ 9223372036854775807 := by have := HM.out; omega
  go_enter Tryz.func162, Tryz.ntmps162
  go_wp2
  go_loop [0] (fun s => ∃ k : Nat, k ≤ n ∧ s = .slice A k c ∧ Hid (∀ j, k ≤ j → j < n → f j = 0)) (fun s => lenV s)
  case atStart => exact ⟨n, Nat.le_refl _, rfl, fun j a b => by omega⟩
  case round =>
    obtain ⟨k, hk, rfl, hz⟩ := hrel
    by_cases hk0 : k = 0
    · subst hk0
      go_wp2
      go_ret
      exact ⟨⟨0, rfl, by omega, hz, fun h => by omega⟩, rfl⟩
    · have hkp : 0 < k := by omega
      have hkp' : (0 : Int) < (k : Int) := by omega
      obtain ⟨b, off, rfl, hb, hc⟩ := h.cell (by omega)
      have hck := hc (k - 1) (by omega)
      have hcap : k ≤ c := by have := h.cap; omega
      clear hc hk0
      by_cases hf : f (k - 1) = 0
      · rw [hf, iv_zero] at hck
        have HF := Lib.hid hf
        clear hf
        go_wp2
        go_round
        case rel => exact ⟨k - 1, by omega, by go_num, fun j a b => by
          by_cases e : j = k - 1
          · subst e; exact HF.out
          · exact hz j (by omega) b⟩
        case measure => simp [lenV] <;> omega
      · have hfb : (iv (f (k - 1)) == 0) = false := by rw [beq_eq_false_iff_ne]; intro e; apply hf; rw [iv_eq] at e; omega
        have HF := Lib.hid hf
        clear hf
        generalize iv (f (k - 1)) = x at *
        go_wp2
        go_ret
        exact ⟨⟨k, rfl, hk, hz, fun _ => HF.out⟩, rfl⟩

set_option maxHeartbeats 800000 in
set_option maxRecDepth 100000 in
theorem refSmall_any (d : Nat) (hd : d < LB) (w : World) :
    Calls Tryz.prog 203 #[.int .u32 (iv d)] w fun e w' => ∃ v, e = .returned v ∧ Made w d v w' := by
  have hrs : Rs (w.alloc (.cells #[.int .u32 (iv d)] 40)) (w.heap.size + 1) (some ⟨w.heap.size, 0, none⟩) 1 1 (l1 d) := rs_l1 w d (by rw [LB_eq] at hd; omega)
  have HT := Lib.hid (refTrim_any _ 1 1 (l1 d) _ _ hrs)
  have hb : Below w.heap.size w (w.alloc (.cells #[.int .u32 (iv d)] 40)) := (Below.refl _ _).alloc (Nat.le_refl _) _
  have HD := Lib.hid hd
  have h0 := iv_nonneg d
  have h1 := iv_limb hd
  clear hd hrs
  go_enter Tryz.func203, Tryz.ntmps203
  go_wp2_with fail
  refine HT.out.mono ?_
  rintro e w' ⟨⟨v, rfl, ht⟩, rfl⟩
  have HM : Hid (Made w d v _) := Lib.hid (by
    obtain ⟨A, m, c, rfl, hr, htr⟩ := ht
    exact ⟨A, m, c, l1 d, rfl, hr.more (by simp), htr.dig (fun j _ => HD.out) (by simp [nv, l1]), hb⟩)
  clear ht
  go_wp2_with fail
  go_ret
  exact ⟨_, rfl, HM.out⟩

set_option maxRecDepth 100000 in
set_option maxHeartbeats 1600000 in
theorem refMinus_own (A A' : Option Addr) (n c m c' : Nat) (f g : Nat → Nat) (w : World) (hA : Rs w w.heap.size A n c f) (hB : Rs w w.heap.size A' m c' g) (vf : Val n f) (vg : Val m g) (hn : n ≤ 2000) (hle : nv g m ≤ nv f n) :
    Calls Tryz.prog 148 #[.slice A n c, .slice A' m c'] w fun e w' => ∃ A3 k c3 S, e = .returned (.slice A3 k c3) ∧ Rs w' w'.heap.size A3 k c3 S ∧ Dig k S (nv f n - nv g m) ∧ Below w.heap.size w w' ∧ Fresh w.heap.size w' A3 k S := by
  have HD := Lib.hid (minus_done vf vg hle)
  have HL : Hid (∀ j, dl (pl f n) (pl g m) j < LB) := Lib.hid fun j => dl_lt (pl_lt vf.1 j) (pl_lt vg.1 j)
  have HS : Hid (∀ k z, z = iv (pl f n k) - iv (bw (pl f n) (pl g m) k) - iv (pl g m k) → (z < 0 ∧ iv (dl (pl f n) (pl g m) k) = z + 1000000000 ∧ iv (bw (pl f n) (pl g m) (k + 1)) = 1) ∨ (¬ z < 0 ∧ iv (dl (pl f n) (pl g m) k) = z ∧ iv (bw (pl f n) (pl g m) (k + 1)) = 0)) :=
    Lib.hid fun k z hz => minus_step _ _ k (pl_lt vf.1 k) (pl_lt vg.1 k) z hz
  have VF := Lib.hid vf
  have VG := Lib.hid vg
  clear vf vg hle
  go_enter Tryz.func148, Tryz.ntmps148
  go_wp2
  go_loopw [5, 6, 7] (fun v u i wr => ∃ k : Nat, k ≤ n ∧ i = .int .i64 k ∧ u = .int .i64 (iv (bw (pl f n) (pl g m) k)) ∧ Own wr w.heap.size v k (dl (pl f n) (pl g m)) ∧ Below w.heap.size w wr) (fun _ _ i _ => n - (intOf i).toNat)
  case atStart => exact ⟨0, Nat.zero_le _, rfl, by rw [bw, iv_zero], Own.nil _ _ _, Below.refl _ _⟩
  case round =>
    obtain ⟨k, hk, rfl, rfl, hown, hbel⟩ := hrel
    by_cases ha : k < n
    · have hC0 := iv_nonneg (bw (pl f n) (pl g m) k)
      have hC1 : iv (bw (pl f n) (pl g m) k) ≤ 1 := by have := bw_le (pl f n) (pl g m) k; rw [iv_eq]; omega
      have hr1 := hA.below hbel
      have hr2 := hB.below hbel
      have hst := HS.out k
      have hx1 := iv_limb (VF.out.1 k ha)
      have hx0 := iv_nonneg (f k)
      obtain ⟨b1, off1, rfl, hb1, hcc1⟩ := hr1.cell (by omega)
      have hck1 := hcc1 k ha
      rw [pl_in ha] at hst
      clear hcc1
      by_cases hb : k < m
      · have hy1 := iv_limb (VG.out.1 k hb)
        have hy0 := iv_nonneg (g k)
        obtain ⟨b2, off2, rfl, hb2, hcc2⟩ := hr2.cell (by omega)
        have hck2 := hcc2 k hb
        rw [pl_in hb] at hst
        clear hcc2
        generalize iv (f k) = X at *
        generalize iv (g k) = Y at *
        generalize hgc : iv (bw (pl f n) (pl g m) k) = C at *
        clear hgc
        rcases hst _ rfl with ⟨hz, h1, h2⟩ | ⟨hz, h1, h2⟩
        · have H1 := Lib.hid h1
          have H2 := Lib.hid h2
          clear hst h1 h2
          go_wp2_with (at_builtin; refine app_own rfl (.tmp 37) (.tmp 40) rfl hown hbel rfl rfl H1.out (by omega) ?_; intro v' w1 hown1 hb1')
          go_roundw
          case rel => exact ⟨k + 1, by omega, by go_num, by rw [H2.out], hown1, hb1'⟩
          case measure => simp [intOf]; omega
        · have H1 := Lib.hid h1
          have H2 := Lib.hid h2
          clear hst h1 h2
          go_wp2_with (at_builtin; refine app_own rfl (.tmp 37) (.tmp 40) rfl hown hbel rfl rfl H1.out (by omega) ?_; intro v' w1 hown1 hb1')
          go_roundw
          case rel => exact ⟨k + 1, by omega, by go_num, by rw [H2.out], hown1, hb1'⟩
          case measure => simp [intOf]; omega
      · have hb' : m ≤ k := by omega
        rw [pl_out hb', iv_zero, Int.sub_zero] at hst
        generalize iv (f k) = X at *
        generalize hgc : iv (bw (pl f n) (pl g m) k) = C at *
        clear hgc
        rcases hst _ rfl with ⟨hz, h1, h2⟩ | ⟨hz, h1, h2⟩
        · have H1 := Lib.hid h1
          have H2 := Lib.hid h2
          clear hst h1 h2
          go_wp2_with (at_builtin; refine app_own rfl (.tmp 37) (.tmp 40) rfl hown hbel rfl rfl H1.out (by omega) ?_; intro v' w1 hown1 hb1')
          go_roundw
          case rel => exact ⟨k + 1, by omega, by go_num, by rw [H2.out], hown1, hb1'⟩
          case measure => simp [intOf]; omega
        · have H1 := Lib.hid h1
          have H2 := Lib.hid h2
          clear hst h1 h2
          go_wp2_with (at_builtin; refine app_own rfl (.tmp 37) (.tmp 40) rfl hown hbel rfl rfl H1.out (by omega) ?_; intro v' w1 hown1 hb1')
          go_roundw
          case rel => exact ⟨k + 1, by omega, by go_num, by rw [H2.out], hown1, hb1'⟩
          case measure => simp [intOf]; omega
    · obtain rfl : k = n := by omega
      obtain ⟨V, cap, rfl, hr, hfr⟩ := hown.fresh (fun j _ => by have := HL.out j; rw [LB_eq] at this; omega)
      have HT := Lib.hid (refTrim_same V k cap _ _ wr hr)
      have HR := Lib.hid hr
      have HFR := Lib.hid hfr
      clear hr hown hfr
      go_wp2_with fail
      refine HT.out.mono ?_
      rintro e w' ⟨⟨k2, rfl, ht⟩, rfl⟩
      have HTR := Lib.hid ht
      clear ht
      go_wp2_with fail
      go_ret
      exact ⟨V, k2, cap, _, rfl, HR.out.take HTR.out.le, HTR.out.dig (fun j _ => HL.out j) HD.out, hbel, HFR.out.less HTR.out.le⟩

end Go.Proofs.YtbjaolmlnkliiaaGreatDoor

/- The contract of the reference's Over: long division. Conditions as premises: the lists read, and are valid; the divisor is not 0. -/
namespace Go.Proofs.YtbjaolmlnkliiaaGreatDoor
open Go.RowKit Go.Shelf

/-- a whole list behind one limb -/
theorem app_cons {w : World} {ops : Array Oper} {rest : List Oper} {o : Oper} {a : Act} {Q : Exit → Act → World → Prop} (hgd : o.guard = none) (s x : Operand)
    (ho : o.op = .call { callee := .builtin .append, args := #[s, x], argTypes := #[23, 23] }) {A : Option Addr} {n c B y : Nat} {f : Nat → Nat} (hr : Rs w B A n c f) (hB : B ≤ w.heap.size) (hn : n ≤ 4096) (hy : y < 4294967296)
    (hs : a.eval s = .slice (some ⟨w.heap.size, 0, none⟩) 1 1) (hx : a.eval x = .slice A n c)
    (h : ∀ A' c' w', Rs w' w'.heap.size A' (1 + n) c' (fun j => if j = 0 then y else f (j - 1)) → Below w.heap.size w w' → wpList Tryz.prog ops Q rest (a.put o.dst (.slice A' (1 + n) c')) w') :
    wpList Tryz.prog ops Q (o :: rest) a (w.alloc (.cells #[.int .u32 (iv y)] 40)) := by
  have hb0 : Below w.heap.size w (w.alloc (.cells #[.int .u32 (iv y)] 40)) := (Below.refl _ _).alloc (Nat.le_refl _) _
  have hrow : (w.alloc (.cells #[.int .u32 (iv y)] 40)).ownsRow w.heap.size 40 1 (.slice (some ⟨w.heap.size, 0, none⟩) 1 1) 1 [.int .u32 (iv y)] :=
    ⟨rfl, .inr ⟨w.heap.size, 1, #[.int .u32 (iv y)], rfl, Nat.le_refl _, heap_alloc_new _ _, Nat.le_refl _, by unfold maxLen; omega, rfl, rfl⟩⟩
  obtain ⟨i0, hi, hz0, hz1, hz2⟩ := info_parts info32
  have hus : us (fun j => if j = 0 then y else f (j - 1)) (1 + n) = [.int .u32 (iv y)] ++ us f n := by
    unfold us
    rw [Nat.add_comm, List.range_succ_eq_map]
    simp [Function.comp_def]
  have fin : ∀ v' w', w'.ownsRow w.heap.size 40 1 v' (1 + n) ([.int .u32 (iv y)] ++ us f n) → (w.alloc (.cells #[.int .u32 (iv y)] 40)).grownBy w' (some w.heap.size) → wpList Tryz.prog ops Q rest (a.put o.dst v') w' := fun v' w' h1 h2 => by
    rw [← hus] at h1
    obtain ⟨A', c', rfl, hr'⟩ := Go.Proofs.YtbjaolmlnkliiaaGreatDoor.Own.rs (f := fun j => if j = 0 then y else f (j - 1)) h1 (fun j hj => by
      by_cases e : j = 0
      · simp [e, hy]
      · simp [e]; exact hr.bd _ (by omega))
    exact h A' c' w' hr' (((Below.refl _ w).alloc (Nat.le_refl _) _).grown h2 (by simp) (fun j hj => by cases hj; exact Nat.le_refl _))
  rcases Nat.eq_zero_or_pos n with e | e
  · subst e
    have hrun : (Builtin.append_ #[23, 23] o.type #[.slice (some ⟨w.heap.size, 0, none⟩) 1 1, .slice A 0 c]).run Tryz.prog (w.alloc (.cells #[.int .u32 (iv y)] 40)) = .ok (.slice (some ⟨w.heap.size, 0, none⟩) 1 1) (w.alloc (.cells #[.int .u32 (iv y)] 40)) := by
      rcases A with _ | a0 <;> simp [Builtin.append_, run_underlying Tryz.underlying23, sizeOf, typeInfo, hi, hz1, Builtin.lenOf, Builtin.firstCells, loadCells, loadCellsFrom, storeCells, Sem.run_bind, Sem.run_pure, Result.andThen]
    refine wpList_plain hgd fun K hK => ?_
    unfold Oper.wp execOp
    simp only [ho, resolve, invoke, builtin, Sem.run_bind, Sem.run_pure, Result.andThen_ok, List.map_toArray, List.map_cons, List.map_nil, hs, hx, hrun]
    refine hK _ _ (fin _ _ ?_ ⟨rfl, rfl, rfl, Nat.le_refl _, fun _ _ _ => rfl⟩)
    simpa [us] using hrow
  · obtain ⟨b, off, rfl, hb, hc⟩ := hr.cell e
    refine wpList_append_own_at _ hgd s x 23 ho w.heap.size 40 i0 (.int .u32 0) 1 4 Tryz.underlying23 hi hz0 hz1 hz2 rfl (by decide) _ 1 _ hs hrow ⟨b, off, none⟩ n c (us f n) hx (by rw [us_length, Nat.mul_one]) ?_ ?_ (by unfold maxLen; omega) (by omega) (by simp)
      (fun v' w' h1 h2 _ _ => fin v' w' h1 h2)
    · intro j u hj
      obtain ⟨hjn, rfl⟩ := us_mem hj
      rw [add_addr, hb0.cell (p := ⟨b, off + j, none⟩) (by show b < _; omega)]
      exact hc j hjn
    · intro u hu
      obtain ⟨j, hj⟩ := List.mem_iff_getElem?.1 hu
      obtain ⟨_, rfl⟩ := us_mem hj
      rfl

/-- what the loop of Over keeps -/
structure Ov (x : Nat → Nat) (N J D : Nat) (q : Nat → Nat) (R k : Nat) : Prop where
  eq : hi x N k = D * hi q J k + R
  lt : R < D
  ql : ∀ i, q i < LB

theorem Ov.start {x v : Nat → Nat} {N J s D : Nat} (hx : ∀ j, j < N → x j < LB) (hv : Val s v) (hs : 1 ≤ s) (hJ : J + s = N + 1) (hD : nv v s = D) : Ov x N J D (fun _ => 0) (hi x N J) J := by
  refine ⟨by rw [hi_top, Nat.mul_zero, Nat.zero_add], ?_, fun _ => LB_pos⟩
  have h1 : hi x N J < LB ^ (N - J) := nv_lt _ fun j hj => hx _ (by omega)
  have h2 := hv.top_le (by omega)
  rw [show N - J = s - 1 by omega] at h1
  omega

/-- a round: the rest with one limb more, its quotient and what is left -/
theorem Ov.step {x q : Nat → Nat} {N J D R p : Nat} (h : Ov x N J D q R (p + 1)) (hx : ∀ j, j < N → x j < LB) (hp : p < J) (hJN : J ≤ N) :
    R * LB + x p < D * LB ∧ (R * LB + x p) / D < LB ∧ Ov x N J D (fun j => if j = p then (R * LB + x p) / D else q j) ((R * LB + x p) % D) p := by
  have hD : 0 < D := Nat.lt_of_le_of_lt (Nat.zero_le _) h.lt
  have h1 : R * LB + x p < D * LB := by
    have h2 : (R + 1) * LB ≤ D * LB := Nat.mul_le_mul_right _ h.lt
    rw [Nat.add_mul, Nat.one_mul] at h2
    have := hx p (by omega)
    omega
  have h2 : (R * LB + x p) / D < LB := by rw [Nat.div_lt_iff_lt_mul hD, Nat.mul_comm LB D]; exact h1
  refine ⟨h1, h2, ?_, Nat.mod_lt _ hD, fun i => by
    show (if i = p then _ else q i) < LB
    split
    · exact h2
    · exact h.ql i⟩
  rw [hi_step x N p (by omega), h.eq, hi_step _ J p hp, nv_hi_congr (g := q) (k := p + 1) (fun j a _ => if_neg (by omega))]
  have e2 := Nat.div_add_mod (R * LB + x p) D
  simp only [↓reduceIte]
  rw [Nat.mul_add, Nat.add_mul, Nat.mul_assoc D]
  omega

theorem Ov.done {x q : Nat → Nat} {N J D R n m F : Nat} (h : Ov x N J D q R 0) (hx : nv x N = n * F) (hD : D = m * F) (hF : 0 < F) (hm : 0 < m) : nv q J = n / m ∧ R / F = n % m := by
  have h1 := h.eq
  rw [hi_zero, hi_zero, hx, hD] at h1
  have h2 := h.lt
  rw [hD] at h2
  have h4 : R / F < m := by rw [Nat.div_lt_iff_lt_mul hF]; exact h2
  have h3 : n = m * nv q J + R / F := by
    have h5 : n = n * F / F := (Nat.mul_div_cancel _ hF).symm
    rw [h1, show m * F * nv q J = F * (m * nv q J) by ac_rfl, Nat.mul_add_div hF] at h5
    exact h5
  rw [h3, Nat.mul_add_div hm, Nat.div_eq_of_lt h4, Nat.add_zero, Nat.mul_add_mod, Nat.mod_eq_of_lt h4]
  exact ⟨rfl, rfl⟩

/-- the first limbs tell a digit of the quotient from above -/
theorem lead_ge {v : Nat → Nat} {R1 D L s : Nat} (hs : 1 ≤ s) (hD : nv v s = D) (hv : v (s - 1) ≠ 0) (hL : L = R1 / LB ^ (s - 1)) : R1 / D ≤ L / v (s - 1) := by
  obtain ⟨t, rfl⟩ : ∃ t, s = t + 1 := ⟨s - 1, by omega⟩
  simp only [Nat.add_sub_cancel] at *
  rw [Nat.le_div_iff_mul_le (by omega)]
  have hp : 0 < LB ^ t := Nat.pow_pos LB_pos
  have h1 : v t * LB ^ t ≤ D := by rw [← hD, nv]; omega
  have h2 : R1 / D * D ≤ R1 := Nat.div_mul_le_self _ _
  have h3 : R1 / D * (v t * LB ^ t) ≤ R1 := Nat.le_trans (Nat.mul_le_mul_left _ h1) h2
  rw [← Nat.mul_assoc] at h3
  have h4 := (Nat.le_div_iff_mul_le hp).2 h3
  omega

theorem lead_lt {R1 D s : Nat} {v : Nat → Nat} (hs : 1 ≤ s) (hv : ∀ j, j < s → v j < LB) (hD : nv v s = D) (h : R1 < D * LB) : R1 / LB ^ (s - 1) < LB * LB := by
  have hp : 0 < LB ^ (s - 1) := Nat.pow_pos LB_pos
  rw [Nat.div_lt_iff_lt_mul hp]
  have h1 := nv_lt s hv
  rw [hD, show s = s - 1 + 1 by omega, Nat.pow_succ] at h1
  have h2 : D * LB ≤ LB ^ (s - 1) * LB * LB := Nat.mul_le_mul_right _ (Nat.le_of_lt h1)
  have e : LB * LB * LB ^ (s - 1) = LB ^ (s - 1) * LB * LB := by ac_rfl
  omega

theorem hi_div {f : Nat → Nat} {k s : Nat} (hf : ∀ j, j < k → f j < LB) (h : s ≤ k) : hi f k s = nv f k / LB ^ s := by
  have h1 := hi_split f k s h
  have h2 := nv_lt s (f := f) (fun j hj => hf j (by omega))
  rw [h1, Nat.mul_comm, Nat.add_comm, Nat.mul_add_div (Nat.pow_pos LB_pos), Nat.div_eq_of_lt h2, Nat.add_zero]

end Go.Proofs.YtbjaolmlnkliiaaGreatDoor

/- The walk of the reference's Over. Conditions as premises: the lists read, and are valid; the divisor is not 0. -/
namespace Go.Proofs.YtbjaolmlnkliiaaGreatDoor
open Go.RowKit Go.Shelf

theorem ite_true_of {b : Bool} {p q : Prop} (h : b = true) (hp : p) : if b = true then p else q := by rw [if_pos h]; exact hp
theorem w64i (z : Int) (h0 : -9223372036854775808 ≤ z) (h1 : z ≤ 9223372036854775807) : IntKind.i64.wrap z = z := by rw [IntKind.wrap_i64]; omega

set_option maxRecDepth 100000 in
set_option maxHeartbeats 800000 in
theorem refOver_less (A A' : Option Addr) (n c m c' : Nat) (f g : Nat → Nat) (w : World) (hA : Rs w w.heap.size A n c f) (hB : Rs w w.heap.size A' m c' g) (vf : Val n f) (vg : Val m g) (hlt : nv f n < nv g m) :
    Calls Tryz.prog 163 #[.slice A n c, .slice A' m c'] w fun e w' => ∃ v u, e = .returned (.tuple #[v, u]) ∧ Made2 w (nv f n / nv g m) (nv f n % nv g m) v u w' := by
  have hcmp := order_any A A' n c m c' f g _ _ w hA hB vf vg
  rw [cn_lt hlt] at hcmp
  rw [Nat.div_eq_of_lt hlt, Nat.mod_eq_of_lt hlt]
  have C1 := Lib.hid hcmp
  have VF := Lib.hid vf
  clear hcmp hlt vf vg
  go_enter Tryz.func163, Tryz.ntmps163
  go_wp2_with fail
  refine C1.out.mono ?_
  rintro e w' ⟨rfl, d, rfl⟩
  go_wp2_with fail
  go_ret2
  exact ⟨_, _, rfl, Made2.after (Qt.n1 w d).below (Made2.of (Made.nil (Below.refl _ _)) (made_rs (hA.drewN d) ⟨VF.out, rfl⟩ (Below.refl _ _)))⟩

theorem app_nil_run (ty : TypeId) {w : World} {A : Option Addr} {n c B : Nat} {f : Nat → Nat} (hr : Rs w B A n c f) (hn : n ≤ 4096) :
    ∃ A' c' w', (Builtin.append_ #[23, 23] ty #[.slice none 0 0, .slice A n c]).run Tryz.prog w = .ok (.slice A' n c') w' ∧ Rs w' w'.heap.size A' n c' f ∧ Below w.heap.size w w' := by
  obtain ⟨i0, hi, hz0, hz1, hz2⟩ := info_parts info32
  rcases Nat.eq_zero_or_pos n with e | e
  · subst e
    refine ⟨none, 0, w, ?_, Rs.zero _ _ _ _, Below.refl _ _⟩
    rcases A with _ | a0 <;> simp [Builtin.append_, run_underlying Tryz.underlying23, sizeOf, typeInfo, hi, hz1, Builtin.lenOf, Builtin.firstCells, loadCells, loadCellsFrom, Sem.run_bind, Sem.run_pure, Result.andThen]
  · obtain ⟨b, off, rfl, hb, hc⟩ := hr.cell e
    obtain ⟨v', w', hrun, h2, h3, h4, h5⟩ := run_append_own_at (P := Tryz.prog) w w.heap.size 23 ty 40 i0 (.int .u32 0) 1 4 Tryz.underlying23 hi hz0 hz1 hz2 rfl (by decide) (.slice none 0 0) 0 [] (World.ownsRow_nil _ _ _ _) ⟨b, off, none⟩ n c (us f n) (by rw [us_length, Nat.mul_one])
      (fun j u hj => by
        obtain ⟨hjn, rfl⟩ := us_mem hj
        rw [add_addr]; exact hc j hjn)
      (fun u hu => by
        obtain ⟨j, hj⟩ := List.mem_iff_getElem?.1 hu
        obtain ⟨_, rfl⟩ := us_mem hj
        rfl) (by unfold maxLen; omega) (by omega) (Nat.le_refl _)
    rw [Nat.zero_add, List.nil_append] at h2
    obtain ⟨A', c', rfl, hr'⟩ := Go.Proofs.YtbjaolmlnkliiaaGreatDoor.Own.rs (f := f) h2 hr.bd
    exact ⟨A', c', w', hrun, hr', (Below.refl _ w).grown h3 (Nat.le_refl _) (fun j hj => by cases hj)⟩

/-- a store into an elder block leaves what is fresh -/
theorem Rs.setFar {w : World} {B base n c Q i : Nat} {A : Option Addr} {S : Nat → Nat} {u : Value} (h : Rs w B A n c S) (hf : Fresh base w A n S) (hQ : Q < base) :
    Rs (w.setCell ⟨Q, i, none⟩ u) (w.setCell ⟨Q, i, none⟩ u).heap.size A n c S ∧ Fresh base (w.setCell ⟨Q, i, none⟩ u) A n S := by
  rcases hf with e | ⟨g, rfl, hg, hx⟩
  · subst e
    exact ⟨⟨Nat.zero_le _, h.max, fun j hj => by omega, fun hj => by omega⟩, .inl rfl⟩
  · have hk := hx.keep (w' := w.setCell ⟨Q, i, none⟩ u) (Below.heap_setCell w ⟨Q, i, none⟩ u g (by show g ≠ Q; omega))
    refine ⟨⟨h.cap, h.max, h.bd, fun _ => ⟨g, 0, rfl, hk.lt, fun j hj => by rw [Nat.zero_add]; exact hk.cell hj⟩⟩, .inr ⟨g, rfl, hg, hk⟩⟩
theorem Fresh.mono {base base' n : Nat} {w : World} {A : Option Addr} {S : Nat → Nat} (h : Fresh base w A n S) (hb : base' ≤ base) : Fresh base' w A n S := by
  rcases h with e | ⟨g, e, hg, hx⟩
  · exact .inl e
  · exact .inr ⟨g, e, by omega, hx⟩

theorem wpAny_named {P : Program} {md : Region.Mode} {ops : Array Oper} {Q : Exit → Act → World → Prop} {fuel : Nat} {listed : Array Bool} {a : Act} {w : World}
    (h : ∀ a' : Act, a' = a → wpAny P md ops Q fuel listed a' w) : wpAny P md ops Q fuel listed a w := h a rfl
/-- a slice of limbs is made, as one operation -/
theorem wp_make {w : World} {o : Oper} {a : Act} {K : Act → World → Prop} {Q : Exit → Act → World → Prop} (s x : Operand) (J : Nat) (hJ : J ≤ 4096)
    (ho : o.op = .makeSlice 23 s x) (hs : a.eval s = .int .i64 (J : Int)) (hx : a.eval x = .int .i64 (J : Int))
    (h : K (a.put o.dst (.slice (some ⟨w.heap.size, 0, none⟩) J J)) (w.alloc (.cells (madeCells #[.int .u32 0] J) 40))) : o.wp Tryz.prog a w K Q := by
  have hmk := run_make_row' (P := Tryz.prog) 23 40 (.int .u32 0) 4 Tryz.underlying23 info32 rfl .i64 .i64 J (by omega) (by omega)
  unfold Oper.wp execOp
  simp only [ho, Sem.run_bind, Sem.run_pure, Result.andThen_ok, hs, hx, hmk]
  exact h

/-- a whole list behind nil, as one operation -/
theorem wp_append_nil {w : World} {o : Oper} {a : Act} {K : Act → World → Prop} {Q : Exit → Act → World → Prop} (s x : Operand)
    (ho : o.op = .call { callee := .builtin .append, args := #[s, x], argTypes := #[23, 23] }) {A : Option Addr} {n c B : Nat} {f : Nat → Nat} (hr : Rs w B A n c f) (hn : n ≤ 4096)
    (hs : a.eval s = .slice none 0 0) (hx : a.eval x = .slice A n c)
    (h : ∀ A' c' w', Rs w' w'.heap.size A' n c' f → Below w.heap.size w w' → K (a.put o.dst (.slice A' n c')) w') : o.wp Tryz.prog a w K Q := by
  obtain ⟨A', c', w', hrun, hr', hb⟩ := app_nil_run o.type hr hn
  unfold Oper.wp execOp
  simp only [ho, resolve, invoke, builtin, Sem.run_bind, Sem.run_pure, Result.andThen_ok, List.map_toArray, List.map_cons, List.map_nil, hs, hx, hrun]
  exact h A' c' w' hr' hb

set_option maxRecDepth 100000 in
set_option maxHeartbeats 2000000 in
theorem refOver_main (A A' : Option Addr) (n c m c' : Nat) (f g : Nat → Nat) (w : World) (hA : Rs w w.heap.size A n c f) (hB : Rs w w.heap.size A' m c' g) (vf : Val n f) (vg : Val m g) (hn : n ≤ 1024) (hm0 : 0 < m) (hle : nv g m ≤ nv f n) :
    Calls Tryz.prog 163 #[.slice A n c, .slice A' m c'] w fun e w' => ∃ v u, e = .returned (.tuple #[v, u]) ∧ Made2 w (nv f n / nv g m) (nv f n % nv g m) v u w' := by
  have hcmp := order_any A A' n c m c' f g _ _ w hA hB vf vg
  have hcc : ¬ cn (nv f n) (nv g m) < 0 := by
    rcases Nat.eq_or_lt_of_le hle with e | e
    · rw [cn_eq e.symm]; decide
    · rw [cn_gt e]; decide
  have hmn : m ≤ n := by
    rcases Nat.lt_or_ge n m with h3 | h3
    · have := vf.lt_of_len vg h3; omega
    · omega
  have C := Lib.hid hcmp
  clear hcmp
  generalize cn (nv f n) (nv g m) = cc at *
  -- the factor
  obtain ⟨F, hF⟩ : ∃ F, F = LB / (g (m - 1) + 1) := ⟨_, rfl⟩
  have htB := vg.1 (m - 1) (by omega)
  have htz := vg.2 hm0
  obtain ⟨_, hF1, _, hF2⟩ := scale_norm (t := g (m - 1)) (by omega) htB hF
  have hfi : 1000000000 / (iv (g (m - 1)) + 1) = iv F := by rw [hF]; simp only [iv_eq]; rw [LB_eq, Int.natCast_ediv, Int.natCast_add]; rfl
  have hg0 := iv_nonneg (g (m - 1))
  have hg1 := iv_limb htB
  have hF3 := iv_limb hF2
  have hF4 := iv_nonneg F
  have HFI := Lib.hid hfi
  have HF1 := Lib.hid hF1
  have HF2 := Lib.hid hF2
  have VF := Lib.hid vf
  have VG := Lib.hid vg
  have HLE := Lib.hid hle
  clear hF hfi hF1 hF2 vf vg hle htB htz
  obtain ⟨bg, og, rfl, hbg, hcg⟩ := hB.cell (by omega)
  have htop := fun d => (hB.drewN d).cell (by omega)
  have hck := hcg (m - 1) (by omega)
  clear hcg htop
  go_enter Tryz.func163, Tryz.ntmps163
  go_wp2_with fail
  refine C.out.mono ?_
  rintro _ _ ⟨rfl, d0, rfl⟩
  have hck' : (w.drewN d0).cell? ⟨bg, og + (m - 1), none⟩ = some (.int .u32 (iv (g (m - 1)))) := hck
  have hA0 := hA.drewN d0
  have hB0 := hB.drewN d0
  have hb0 := Below.drewN w d0
  have hsz0 : (w.drewN d0).heap.size = w.heap.size := rfl
  rw [← hsz0] at hA0 hB0
  clear hsz0
  generalize w.drewN d0 = w0 at *
  go_wp2_with fail
  rw [HFI.out, show iv F % 4294967296 = iv F from Int.emod_eq_of_lt hF4 (by omega)]
  refine (refSmall_any F HF2.out w0).mono ?_
  rintro _ w1 ⟨v, rfl, hm1⟩
  obtain ⟨lF, cF, rfl, hrF, hbF⟩ := hm1.as (m := 1) (g := l1 F) ⟨⟨fun j _ => HF2.out, fun _ => by show F ≠ 0; have := HF1.out; omega⟩, by simp [nv, l1]⟩
  have hA1 := (hA0.below hbF).more hbF.size
  have hB1 := (hB0.below hbF).more hbF.size
  have hb1 := hb0.trans (hbF.mono hb0.size)
  clear hm1 hA0 hB0 hb0 hbF hA hB hck hck'
  go_wp2_with fail
  refine (refTimes_any A lF n c 1 cF f (l1 F) w1 hA1 hrF VF.out.1 (fun j _ => HF2.out) (by omega) (by omega)).mono ?_
  rintro _ w2 ⟨v, rfl, hm2⟩
  rw [show nv (l1 F) 1 = F by simp [nv, l1]] at hm2
  obtain ⟨lX, N, cX, x, rfl, hrX, hdX, hbX⟩ := hm2
  have hB2 := (hB1.below hbX).more hbX.size
  have hF2' := (hrF.below hbX).more hbX.size
  have hb2 := hb1.trans (hbX.mono hb1.size)
  clear hbX hB1 hrF hb1 hA1
  have HDX := Lib.hid hdX
  clear hdX
  go_wp2_with fail
  refine (refTimes_any _ lF m c' 1 cF g (l1 F) w2 hB2 hF2' VG.out.1 (fun j _ => HF2.out) (by omega) (by omega)).mono ?_
  rintro _ w3 ⟨v, rfl, hm3⟩
  rw [show nv (l1 F) 1 = F by simp [nv, l1]] at hm3
  obtain ⟨lV, s, cV, v, rfl, hrV, hdV, hbV⟩ := hm3
  have hX3 := (hrX.below hbV).more hbV.size
  have hF3' := (hF2'.below hbV).more hbV.size
  have hb3 := hb2.trans (hbV.mono hb2.size)
  clear hbV hB2 hrX hF2' hb2
  have HDV := Lib.hid hdV
  -- the lengths
  have hDpos : 0 < nv g m * F := Nat.mul_pos (VG.out.pos hm0) HF1.out
  have hs0 : 1 ≤ s := by
    rcases Nat.eq_zero_or_pos s with e | e
    · exact absurd hdV.eq (by rw [e]; simp [nv]; omega)
    · exact e
  have hsN : s ≤ N := by
    rcases Nat.lt_or_ge N s with h | h
    · have h1 := HDX.out.ok.lt_of_len hdV.ok h
      rw [HDX.out.eq, hdV.eq] at h1
      have := Nat.mul_le_mul_right F HLE.out
      omega
    · exact h
  have hNl : N ≤ n + 1 := by
    rcases Nat.lt_or_ge (n + 1) N with h | h
    · have h1 := HDX.out.ok.top_le (by omega)
      have h2 : nv f n * F < LB ^ n * LB := Nat.mul_lt_mul'' VF.out.lt HF2.out
      rw [HDX.out.eq] at h1
      have h3 : LB ^ (n + 1) ≤ LB ^ (N - 1) := pow_le_of (by omega)
      rw [Nat.pow_succ] at h3
      omega
    · exact h
  obtain ⟨J, hJ⟩ : ∃ J, J = N - s + 1 := ⟨_, rfl⟩
  have HJ := Lib.hid hJ
  have hJ1 : 1 ≤ J ∧ J ≤ 1026 := by omega
  have hJI : (N : Int) - (s : Int) + 1 = (J : Int) := by omega
  have hJN : J ≤ N := by omega
  obtain ⟨bv, ov, rfl, hbv, hcv⟩ := hrV.cell (by omega)
  have hckv := hcv (s - 1) (by omega)
  have hvt1 := iv_limb (HDV.out.ok.1 (s - 1) (by omega))
  have hvt0 := iv_nonneg (v (s - 1))
  clear hcv hJ hdV
  go_wp2_with fail
  obtain ⟨bX, oX, rfl, hbX, _⟩ := hX3.cell (by omega)
  have hcapX := hX3.cap
  have hlo : (J : Int) ≤ (cX : Int) := by omega
  have hw1 : IntKind.i64.wrap ((N : Int) - (s : Int)) = (N : Int) - (s : Int) := w64i _ (by omega) (by omega)
  have hw2 : IntKind.i64.wrap (J : Int) = (J : Int) := w64i _ (by omega) (by omega)
  have hle1 : (0 : Int) ≤ (J : Int) := by omega
  have hle2 : (J : Int) ≤ (N : Int) := by omega
  have hsub : ∃ aR, (if cX = J then some (⟨bX, oX, none⟩ : Addr) else some ⟨bX, oX + J, none⟩) = some aR ∧ Rs w3 w3.heap.size (some aR) (N - J) (cX - J) (fun j => x (J + j)) := by
    by_cases e : cX = J
    · rw [if_pos e, show N - J = 0 by omega, show cX - J = 0 by omega]
      exact ⟨_, rfl, Rs.zero _ _ _ _⟩
    · rw [if_neg e]
      exact ⟨_, rfl, hX3.sub (lo := J) (hi := N) hJN (Nat.le_refl _)⟩
  obtain ⟨aR, haR, hR0⟩ := hsub
  refine wp_region_any (by kernel_rfl) ?_
  change wpAny _ _ _ _ _ _ _ (World.drew _)
  refine wpAny_take (i := 0) (v := ?_) rfl (by kernel_rfl) (by kernel_rfl) (by kernel_rfl) (fun _ _ _ h => h) (Or.inl ⟨by rfl, ?_⟩) ?_
  rotate_left 1
  · intro w; go_simp; try with_reducible rfl
  refine wpAny_take (i := 1) (v := ?_) rfl (by kernel_rfl) (by kernel_rfl) (by kernel_rfl) (fun _ _ _ h => h) (Or.inl ⟨by rfl, ?_⟩) ?_
  rotate_left 1
  · intro w; go_simp; try with_reducible rfl
  refine wpAny_take (i := 2) (v := ?_) rfl (by kernel_rfl) (by kernel_rfl) (by kernel_rfl) (fun _ _ _ h => h) (Or.inl ⟨by rfl, ?_⟩) ?_
  rotate_left 1
  · intro w; go_simp; try with_reducible rfl
  refine wpAny_take (i := 3) (v := ?_) rfl (by kernel_rfl) (by kernel_rfl) (by kernel_rfl) (fun _ _ _ h => h) (Or.inl ⟨by rfl, ?_⟩) ?_
  rotate_left 1
  · intro w; go_simp; try with_reducible rfl
  refine wpAny_take (i := 4) (v := ?_) rfl (by kernel_rfl) (by kernel_rfl) (by kernel_rfl) (fun _ _ _ h => h) (Or.inl ⟨by rfl, ?_⟩) ?_
  rotate_left 1
  · intro w; go_simp; try with_reducible rfl
  refine wpAny_take (i := 6) (v := ?_) rfl (by kernel_rfl) (by kernel_rfl) (by kernel_rfl) (fun _ _ _ h => h) (Or.inl ⟨by rfl, ?_⟩) ?_
  rotate_left 1
  · intro w; go_simp; try with_reducible rfl
  refine wpAny_take (i := 7) (v := ?_) rfl (by kernel_rfl) (by kernel_rfl) (by kernel_rfl) (fun _ _ _ h => h) (Or.inl ⟨by rfl, ?_⟩) ?_
  rotate_left 1
  · intro w; go_simp; try with_reducible rfl
  refine wpAny_take (i := 8) (v := ?_) rfl (by kernel_rfl) (by kernel_rfl) (by kernel_rfl) (fun _ _ _ h => h) (Or.inl ⟨by rfl, ?_⟩) ?_
  rotate_left 1
  · intro w; go_simp; try with_reducible rfl
  refine wpAny_take (i := 9) (v := ?_) rfl (by kernel_rfl) (by kernel_rfl) (by kernel_rfl) (fun _ _ _ h => h) (Or.inl ⟨by rfl, ?_⟩) ?_
  rotate_left 1
  · intro w; go_simp; try with_reducible rfl
  refine wpAny_take (i := 10) (v := ?_) rfl (by kernel_rfl) (by kernel_rfl) (by kernel_rfl) (fun _ _ _ h => h) (Or.inl ⟨by rfl, ?_⟩) ?_
  rotate_left 1
  · intro w; go_simp; try with_reducible rfl
  refine wpAny_take (i := 11) (v := ?_) rfl (by kernel_rfl) (by kernel_rfl) (by kernel_rfl) (fun _ _ _ h => h) (Or.inl ⟨by rfl, ?_⟩) ?_
  rotate_left 1
  · intro w; go_simp; try with_reducible rfl
  refine wpAny_take (i := 12) (v := ?_) rfl (by kernel_rfl) (by kernel_rfl) (by kernel_rfl) (fun _ _ _ h => h) (Or.inl ⟨by rfl, ?_⟩) ?_
  rotate_left 1
  · intro w; go_simp; try with_reducible rfl
  refine wpAny_take (i := 13) (v := ?_) rfl (by kernel_rfl) (by kernel_rfl) (by kernel_rfl) (fun _ _ _ h => h) (Or.inl ⟨by rfl, ?_⟩) ?_
  rotate_left 1
  · intro w; go_simp; try with_reducible rfl
  have hbd : Below w3.heap.size w3 w3.drew := (Below.refl _ _).drew
  have hX4 := (hX3.below hbd).more hbd.size
  have hR4 := (hR0.below hbd).more hbd.size
  have hV4 := (hrV.below hbd).more hbd.size
  have hF4' := (hF3'.below hbd).more hbd.size
  have hb4 := hb3.trans (hbd.mono hb3.size)
  clear hX3 hR0 hrV hF3' hb3 hckv
  generalize w3.drew = w4 at *
  clear hbd
  refine wpAny_named ?_
  intro act hact
  have e50 : act.eval (.tmp 50) = .int .i64 (J : Int) := by rw [hact]; kernel_rfl
  have e52 : act.eval (.tmp 52) = .slice none 0 0 := by rw [hact]; kernel_rfl
  have e59 : act.eval (.tmp 59) = .slice (some aR) (N - J) (cX - J) := by rw [hact]; kernel_rfl
  have HACT := Lib.hid hact
  clear hact
  refine wpAny_ready (rs := [5, 14]) (by kernel_rfl) (by simp) ?_
  refine AllReady.cons rfl (fun K hK => ?b1) (AllReady.cons rfl (fun K hK => ?b2) AllReady.nil)
  case' b1 =>
    refine ite_true_of (by kernel_rfl) ?_
    refine wp_make (.tmp 50) (.tmp 50) J (by omega) rfl e50 e50 ?_
    refine hK _ _ ?_
    clear hK K
    have hb5 : Below w4.heap.size w4 (w4.alloc (.cells (madeCells #[.int .u32 0] J) 40)) := (Below.refl _ _).alloc (Nat.le_refl _) _
    have hq5 := Row.made w4 J
    have hR5 := hR4.below hb5
    have f52 : (act.put (some 51) (.slice (some ⟨w4.heap.size, 0, none⟩) J J)).eval (.tmp 52) = .slice none 0 0 := by rw [HACT.out]; kernel_rfl
    have f59 : (act.put (some 51) (.slice (some ⟨w4.heap.size, 0, none⟩) J J)).eval (.tmp 59) = .slice (some aR) (N - J) (cX - J) := by rw [HACT.out]; kernel_rfl
    refine wpAny_ready (rs := [14]) (by kernel_rfl) (by simp) ?_
    refine AllReady.cons rfl (fun K hK => ?_) AllReady.nil
    refine ite_true_of (by kernel_rfl) ?_
    refine wp_append_nil (.tmp 52) (.tmp 59) rfl hR5 (by omega) f52 f59 ?_
    intro A6 c6 w6 hr6 hb6
    refine hK _ _ ?_
    clear hK K f52 f59
    have hq6 : Row w6 w4.heap.size J (fun _ => 0) := hq5.keep (hb6.block _ hq5.lt)
    have hbw : Below w4.heap.size w4 w6 := hb5.trans (hb6.mono hb5.size)
    have hQ1 : w4.heap.size ≤ w4.heap.size := Nat.le_refl _
    have hQ2 : w4.heap.size < w6.heap.size := hq6.lt
    clear hb5 hb6 hq5 hR5 hR4
    obtain ⟨Qb, hQb⟩ : ∃ Qb, Qb = w4.heap.size := ⟨_, rfl⟩
    have hQ3 : w4.heap.size ≤ Qb := by rw [hQb]; exact Nat.le_refl _
    rw [← hQb] at hq6 hQ2 ⊢
    clear hQb hQ1
  case' b2 =>
    refine ite_true_of (by kernel_rfl) ?_
    refine wp_append_nil (.tmp 52) (.tmp 59) rfl hR4 (by omega) e52 e59 ?_
    intro A6 c6 w5 hr5 hb5
    refine hK _ _ ?_
    clear hK K
    have f50 : (act.put (some 60) (.slice A6 (N - J) c6)).eval (.tmp 50) = .int .i64 (J : Int) := by rw [HACT.out]; kernel_rfl
    refine wpAny_ready (rs := [5]) (by kernel_rfl) (by simp) ?_
    refine AllReady.cons rfl (fun K hK => ?_) AllReady.nil
    refine ite_true_of (by kernel_rfl) ?_
    refine wp_make (.tmp 50) (.tmp 50) J (by omega) rfl f50 f50 ?_
    refine hK _ _ ?_
    clear hK K f50
    have hq6 := Row.made w5 J
    have hb6 : Below w5.heap.size w5 (w5.alloc (.cells (madeCells #[.int .u32 0] J) 40)) := (Below.refl _ _).alloc (Nat.le_refl _) _
    have hr6 := (hr5.below hb6).more hb6.size
    have hbw := hb5.trans (hb6.mono hb5.size)
    have hQ1 : w4.heap.size ≤ w5.heap.size := hb5.size
    have hQ2 : w5.heap.size < (w5.alloc (.cells (madeCells #[.int .u32 0] J) 40)).heap.size := hq6.lt
    clear hb5 hb6 hr5 hR4
    obtain ⟨Qb, hQb⟩ : ∃ Qb, Qb = w5.heap.size := ⟨_, rfl⟩
    have hQ3 : w4.heap.size ≤ Qb := by rw [hQb]; exact hQ1
    rw [← hQb] at hq6 hQ2 ⊢
    clear hQb hQ1
    generalize w5.alloc (.cells (madeCells #[.int .u32 0] J) 40) = w6 at *
  all_goals
    rw [HACT.out]
    clear HACT e50 e52 e59
    refine wpAny_take (i := 15) (v := ?_) rfl (by kernel_rfl) (by kernel_rfl) (by kernel_rfl) (fun _ _ _ h => h) (Or.inl ⟨by rfl, ?_⟩) ?_
    rotate_left 1
    · intro w; go_simp; try with_reducible rfl
    refine wpAny_take (i := 16) (v := ?_) rfl (by kernel_rfl) (by kernel_rfl) (by kernel_rfl) (fun _ _ _ h => h) (Or.inl ⟨by rfl, ?_⟩) ?_
    rotate_left 1
    · intro w; go_simp; try with_reducible rfl
    refine wpAny_done (by kernel_rfl) ?_ _
    go_wp2_with fail
    have hOv0 := Ov.start (x := x) (v := v) HDX.out.ok.1 HDV.out.ok (by omega) (show J + s = N + 1 by have := HJ.out; omega) HDV.out.eq
    have hnr0 : nv (fun j => x (J + j)) (N - J) = hi x N J := by
      unfold hi; exact nv_congr _ fun j _ => by simp only [Nat.add_comm]
    rw [← hnr0] at hOv0
    have HOV0 := Lib.hid hOv0
    clear hOv0 hnr0 haR
    go_loopw [5, 9, 10, 11, 12] (fun r i _ _ _ wr => ∃ (k : Nat) (rA : Option Addr) (rn rc : Nat) (rf q : Nat → Nat), k ≤ J ∧ i = .int .i64 ((k : Int) - 1) ∧ r = .slice rA rn rc ∧ Rs wr wr.heap.size rA rn rc rf ∧ Row wr Qb J q ∧ Below w4.heap.size w4 wr ∧ w6.heap.size ≤ wr.heap.size ∧ rn ≤ 1030 ∧
      Hid ((∀ j, j < rn → rf j < LB) ∧ Ov x N J (nv g m * F) q (nv rf rn) k ∧ (k < J → Val rn rf ∧ Fresh w6.heap.size wr rA rn rf))) (fun _ i _ _ _ _ => (intOf i + 1).toNat)
    case atStart => exact ⟨J, A6, N - J, c6, _, _, Nat.le_refl _, by congr 1; omega, rfl, hr6, hq6, hbw, Nat.le_refl _, by omega, ⟨fun j hj => HDX.out.ok.1 _ (by omega), HOV0.out, fun h => absurd h (Nat.lt_irrefl _)⟩⟩
    case round =>
      obtain ⟨k, rA, rn, rc, rf, q, hk, rfl, rfl, hr, hq, hb, hsz, hrn, hh⟩ := hrel
      clear hr6 hq6 hbw
      by_cases hk0 : k = 0
      · subst hk0
        obtain ⟨hrl, hov, hfr⟩ := hh.out
        obtain ⟨hval, hfr⟩ := hfr (by omega)
        obtain ⟨hqe, hre⟩ := hov.done HDX.out.eq rfl HF1.out (VG.out.pos hm0)
        have hbw4 := hb4.trans (hb.mono hb4.size)
        obtain ⟨bF, oF, rfl, hbF, hcF⟩ := hF4'.cell (by omega)
        have hF0 : ∀ wx, Below w4.heap.size w4 wx → wx.cell? ⟨bF, oF, none⟩ = some (.int .u32 (iv F)) := fun wx hx => by
          have h := ((hF4'.below hx).cell (by omega))
          obtain ⟨_, _, e1, _, h2⟩ := h
          cases e1
          have h3 := h2 0 (by omega)
          rw [Nat.add_zero] at h3
          exact h3
        have HF0 := Lib.hid hF0
        have HQE := Lib.hid hqe
        have HRE := Lib.hid hre
        have HRL := Lib.hid hrl
        have HQL := Lib.hid hov.ql
        have HVAL := Lib.hid hval
        clear hF0 hqe hre hrl hov hh hcF hval
        rcases hfr with e0 | ⟨gb, rfl, hgb, hx⟩
        · subst e0
          have hT1 := refTrim_any (some ⟨Qb, 0, none⟩) J J q _ wr (hq.rs (by omega) (fun j _ => by have := HQL.out j; rw [LB_eq] at this; omega))
          have hT2 := refTrim_any rA 0 rc rf _ wr hr
          have HT1 := Lib.hid hT1
          have HT2 := Lib.hid hT2
          clear hT1 hT2
          go_wp2_with fail
          refine wp_loop_rounds 1 ?_
          rw [rounds_succ]
          go_wp2_with fail
          refine HT1.out.mono ?_
          rintro _ _ ⟨⟨_, rfl, AT, mT, cT, rfl, hrT, htT⟩, rfl⟩
          have HDT := Lib.hid (htT.dig (fun j _ => HQL.out j) HQE.out)
          have HRT := Lib.hid hrT
          clear hrT htT
          go_wp2_with fail
          refine HT2.out.mono ?_
          rintro _ _ ⟨⟨_, rfl, AU, mU, cU, rfl, hrU, htU⟩, rfl⟩
          have HDU := Lib.hid (htU.dig (fun j hj => by omega) rfl)
          have HRU := Lib.hid hrU
          clear hrU htU
          go_wp2_with fail
          go_ret2
          refine ⟨_, _, rfl, AT, mT, cT, q, AU, mU, cU, rf, rfl, HRT.out, HDT.out, rfl, HRU.out, ?_, hbw4⟩
          have h := HDU.out
          have h2 := HRE.out
          simp only [nv, Nat.zero_div] at h2
          rw [← h2]; exact h
        · have hF4p := iv_pos (show F ≠ 0 by have := HF1.out; omega)
          have hFb : (iv F == 0) = false := by rw [beq_eq_false_iff_ne]; omega
          go_wp2_with fail
          rename World => w8
          go_loopw [13, 14] (fun rest i wr3 => ∃ (k : Nat) (S : Nat → Nat), k ≤ rn ∧ i = .int .i64 ((k : Int) - 1) ∧ rest = .int .u64 (iv (hi rf rn k % F)) ∧ Fx wr3 gb rn S ∧ Hid (hi S rn k = hi rf rn k / F ∧ (∀ j, j < k → S j = rf j) ∧ (∀ j, j < rn → S j < LB)) ∧ Below w6.heap.size w8 wr3) (fun _ i _ => (intOf i + 1).toNat)
          case atStart => exact ⟨rn, rf, Nat.le_refl _, by first | rfl | (congr 1; unfold wrap64; omega), by rw [hi_top, Nat.zero_mod, iv_zero], hx, ⟨by rw [hi_top, Nat.zero_div], fun _ _ => rfl, HRL.out⟩, Below.refl _ _⟩
          case round =>
            obtain ⟨k, S, hk, rfl, rfl, hxS, hS, hb3'⟩ := hrel
            have hbl3 := hb.trans (hb3'.mono (by omega : w4.heap.size ≤ w6.heap.size))
            by_cases hk0 : k = 0
            · subst hk0
              have hq3 : Row wr Qb J q := hq.keep (hb3'.block _ hQ2)
              have hrs3 : Rs wr wr.heap.size (some ⟨gb, 0, none⟩) rn rc S := ⟨hr.cap, hr.max, fun j hj => by have := hS.out.2.2 j hj; rw [LB_eq] at this; omega, fun _ => ⟨gb, 0, rfl, hxS.lt, fun j hj => by rw [Nat.zero_add]; exact hxS.cell hj⟩⟩
              have HT1 := Lib.hid (refTrim_any (some ⟨Qb, 0, none⟩) J J q _ wr (hq3.rs (by omega) (fun j _ => by have := HQL.out j; rw [LB_eq] at this; omega)))
              have HT2 := Lib.hid (refTrim_any (some ⟨gb, 0, none⟩) rn rc S _ wr hrs3)
              have hSn : nv S rn = nv f n % nv g m := by
                have h := hS.out.1
                rw [hi_zero, hi_zero] at h
                rw [h]; exact HRE.out
              have HSN := Lib.hid hSn
              have HSL := Lib.hid hS.out.2.2
              have hbw5 := hbw4.trans (hb3'.mono (Nat.le_trans hb4.size (by omega)))
              clear hSn hq3 hrs3 hS hxS
              go_wp2_with fail
              refine HT1.out.mono ?_
              rintro _ _ ⟨⟨_, rfl, AT, mT, cT, rfl, hrT, htT⟩, rfl⟩
              have HDT := Lib.hid (htT.dig (fun j _ => HQL.out j) HQE.out)
              have HRT := Lib.hid hrT
              clear hrT htT
              go_wp2_with fail
              refine HT2.out.mono ?_
              rintro _ _ ⟨⟨_, rfl, AU, mU, cU, rfl, hrU, htU⟩, rfl⟩
              have HDU := Lib.hid (htU.dig HSL.out HSN.out)
              have HRU := Lib.hid hrU
              clear hrU htU
              go_wp2_with fail
              go_ret2
              exact ⟨_, _, rfl, AT, mT, cT, q, AU, mU, cU, S, rfl, HRT.out, HDT.out, rfl, HRU.out, HDU.out, hbw5⟩
            · obtain ⟨p, rfl⟩ : ∃ p, k = p + 1 := ⟨k - 1, by omega⟩
              rw [show (((p + 1 : Nat) : Int) - 1) = (p : Int) by omega]
              have hpr : p < rn := by omega
              have hcS := hxS.cell hpr
              rw [hS.out.2.1 p (by omega)] at hcS
              have hfz := hxS.frozen p
              have hcF1 := HF0.out wr hbl3
              have hcF2 : ∀ u, (wr.setCell ⟨gb, p, none⟩ u).cell? ⟨bF, oF, none⟩ = some (.int .u32 (iv F)) := fun u => HF0.out _ (hbl3.setCell (p := ⟨gb, p, none⟩) (by show w4.heap.size ≤ gb; omega) u)
              have hne : bF ≠ gb := by omega
              have hne2 : gb ≠ bF := by omega
              obtain ⟨ed, em⟩ := @iv_divmod (hi rf rn (p + 1) % F) (rf p) F
              have hc1 : hi rf rn (p + 1) % F < F := Nat.mod_lt _ HF1.out
              have hb1 : iv ((hi rf rn (p + 1) % F * LB + rf p) / F) < 1000000000 := iv_limb (divl_lt hc1 (HRL.out p hpr))
              have hb0 := iv_nonneg ((hi rf rn (p + 1) % F * LB + rf p) / F)
              have hm1 : iv ((hi rf rn (p + 1) % F * LB + rf p) % F) < 1000000000 := iv_limb (Nat.lt_trans (Nat.mod_lt _ HF1.out) HF2.out)
              have hm0' := iv_nonneg ((hi rf rn (p + 1) % F * LB + rf p) % F)
              have hx1 : iv (hi rf rn (p + 1) % F) < 1000000000 := iv_limb (Nat.lt_trans hc1 HF2.out)
              have hx0 := iv_nonneg (hi rf rn (p + 1) % F)
              have hy1 := iv_limb (HRL.out p hpr)
              have hy0 := iv_nonneg (rf p)
              rw [← ed] at hb1 hb0
              rw [← em] at hm1 hm0'
              have hnew := hxS.set p ((hi rf rn (p + 1) % F * LB + rf p) / F)
              rw [← ed] at hnew
              have HS := Lib.hid (divl_step hpr HF1.out hS.out.1 rfl)
              have hlt2 : ∀ j, j < rn → (if j = p then (hi rf rn (p + 1) % F * LB + rf p) / F else S j) < LB := fun j hj => by
                by_cases e : j = p
                · rw [if_pos e]; exact divl_lt hc1 (HRL.out p hpr)
                · rw [if_neg e]; exact hS.out.2.2 j hj
              have HLT2 := Lib.hid hlt2
              have HED := Lib.hid ed
              have HEM := Lib.hid em
              have HNEW := Lib.hid hnew
              have HBB := Lib.hid (hb3'.setCell (p := ⟨gb, p, none⟩) hgb (.int .u32 ((iv (hi rf rn (p + 1) % F) * 1000000000 + iv (rf p)) / iv F)))
              clear ed em hnew hlt2 hc1
              generalize hgx : iv (hi rf rn (p + 1) % F) = X1 at *
              generalize hgy : iv (rf p) = Y1 at *
              clear hgx hgy
              go_wp2_with fail
              go_roundw
              case rel => exact ⟨p, _, by omega, rfl, by rw [HEM.out, HS.out.2], HNEW.out, ⟨HS.out.1, fun j hj => by rw [if_neg (by omega)]; exact hS.out.2.1 j (by omega), HLT2.out⟩, HBB.out⟩
              case measure => simp [intOf] <;> omega
      · obtain ⟨p, rfl⟩ : ∃ p, k = p + 1 := ⟨k - 1, by omega⟩
        rw [show (((p + 1 : Nat) : Int) - 1) = (p : Int) by omega]
        obtain ⟨hrl, hov, _⟩ := hh.out
        have hpN : p < N := by omega
        obtain ⟨hst1, hst2, hst3⟩ := hov.step HDX.out.ok.1 (show p < J by omega) hJN
        have HST1 := Lib.hid hst1
        have HST2 := Lib.hid hst2
        have HST3 := Lib.hid hst3
        have hX := hX4.below hb
        obtain ⟨_, _, e1, _, hcx⟩ := hX.cell (by omega)
        cases e1
        have hckx := hcx p hpN
        have hxl := HDX.out.ok.1 p hpN
        have hxu : x p < 4294967296 := by rw [LB_eq] at hxl; omega
        have HXL := Lib.hid hxl
        have HRL := Lib.hid hrl
        clear hh hov hst1 hst2 hst3 hcx hX hxl hrl
        go_wp2_with (at_builtin; refine app_cons rfl (.tmp 73) (.tmp 74) rfl hr (Nat.le_refl _) (by omega) hxu rfl rfl ?_; intro rA1 rc1 w7 hr7 hb7)
        obtain ⟨f1, hf1⟩ : ∃ f1, f1 = (fun j => if j = 0 then x p else rf (j - 1)) := ⟨_, rfl⟩
        rw [← hf1] at hr7
        have hf1l : ∀ j, j < 1 + rn → f1 j < LB := fun j hj => by
          rw [hf1]
          show (if j = 0 then x p else rf (j - 1)) < LB
          by_cases e : j = 0
          · rw [if_pos e]; exact HXL.out
          · rw [if_neg e]; exact HRL.out _ (by omega)
        have hf1n : nv f1 (1 + rn) = nv rf rn * LB + x p := by
          rw [Nat.add_comm 1 rn, nv_low, hf1]
          simp only [↓reduceIte, Nat.add_sub_cancel, Nat.add_one_ne_zero]
          rw [Nat.mul_comm, Nat.add_comm]
        obtain ⟨R1, hR1⟩ : ∃ R1, R1 = nv rf rn * LB + x p := ⟨_, rfl⟩
        rw [← hR1] at hf1n HST1 HST2 HST3
        have HF1L := Lib.hid hf1l
        have HF1N := Lib.hid hf1n
        have hb7' := hb.trans (hb7.mono hb.size)
        have hq7 : Row w7 Qb J q := hq.keep (hb7.block _ hq.lt)
        have hsz7 : w6.heap.size ≤ w7.heap.size := Nat.le_trans hsz hb7.size
        clear hf1 hf1l hf1n hR1 HXL HRL hckx hr hq hb hb7 hxu
        refine (refTrim_same rA1 (1 + rn) rc1 _ _ w7 hr7).mono ?_
        rintro _ _ ⟨⟨k1, rfl, htr⟩, rfl⟩
        have hdg := htr.dig HF1L.out HF1N.out
        have hr8 := hr7.take htr.le
        have hk1l : k1 ≤ 1031 := by have := htr.le; omega
        clear hr7 htr
        have hlead : ∀ t, s - 1 ≤ t → t ≤ k1 → hi f1 k1 t < 1000000000000000000 := fun t h1 h2 => by
          have h3 := lead_lt (R1 := R1) hs0 HDV.out.ok.1 HDV.out.eq HST1.out
          rw [hi_div hdg.ok.1 h2, hdg.eq]
          have h4 : R1 / LB ^ t ≤ R1 / LB ^ (s - 1) := Nat.div_le_div_left (pow_le_of h1) (Nat.pow_pos LB_pos)
          have h5 : LB * LB = 1000000000000000000 := by rw [LB_eq]
          omega
        have hleq : ∀ t, (s - 1 ≤ t ∨ t = k1) → t ≤ k1 → t ≤ s - 1 → hi f1 k1 t = R1 / LB ^ (s - 1) := fun t h1 h2 h3 => by
          rcases h1 with h1 | h1
          · obtain rfl : t = s - 1 := by omega
            rw [hi_div hdg.ok.1 h2, hdg.eq]
          · subst h1
            rw [hi_top]
            have h4 := hdg.ok.lt
            rw [hdg.eq] at h4
            exact (Nat.div_eq_of_lt (Nat.lt_of_lt_of_le h4 (pow_le_of h3))).symm
        have HDG := Lib.hid hdg
        have HLEAD := Lib.hid hlead
        have HLEQ := Lib.hid hleq
        have HL0 : Hid (iv (hi f1 k1 k1) = 0) := Lib.hid (by rw [hi_top, iv_zero])
        clear hdg hlead hleq
        go_wp2_with fail
        go_loop [10, 11] (fun lead j => ∃ t : Nat, t ≤ k1 ∧ (s - 1 ≤ t ∨ t = k1) ∧ j = .int .i64 ((t : Int) - 1) ∧ lead = .int .u64 (iv (hi f1 k1 t))) (fun _ j => (intOf j + 1).toNat)
        case atStart => exact ⟨k1, Nat.le_refl _, .inr rfl, by first | rfl | (congr 1; unfold wrap64; omega), by rw [HL0.out]⟩
        case round =>
          obtain ⟨t, htk, htc, rfl, rfl⟩ := hrel
          by_cases hts : s ≤ t
          · obtain ⟨t', rfl⟩ : ∃ t', t = t' + 1 := ⟨t - 1, by omega⟩
            rw [show (((t' + 1 : Nat) : Int) - 1) = (t' : Int) by omega]
            obtain ⟨_, _, rfl, _, hc8⟩ := hr8.cell (by omega)
            have hck8 := hc8 t' (by omega)
            have hhi := hi_iv f1 k1 t' (by omega)
            have hl1 : iv (hi f1 k1 t') < 1000000000000000000 := by rw [iv_eq]; have := HLEAD.out t' (by omega) (by omega); omega
            have hl0 := iv_nonneg (hi f1 k1 t')
            have hl2 := iv_nonneg (hi f1 k1 (t' + 1))
            have hl3 : iv (hi f1 k1 (t' + 1)) < 1000000000000000000 := by rw [iv_eq]; have := HLEAD.out (t' + 1) (by omega) (by omega); omega
            have hx0 := iv_nonneg (f1 t')
            have hge : (s : Int) - 1 ≤ (t' : Int) := by omega
            have hl4 := hl1
            rw [← hhi] at hl4
            have hlt8 : t' < k1 := by omega
            have HHI := Lib.hid hhi
            clear hc8 hhi hl1 hl0
            generalize iv (hi f1 k1 (t' + 1)) = LL at *
            generalize iv (f1 t') = XX at *
            go_wp2_with fail
            go_round
            case rel => exact ⟨t', by omega, .inl (by omega), rfl, by rw [HHI.out]⟩
            case measure => simp [intOf] <;> omega
          · have hge : ¬ (s : Int) - 1 ≤ (t : Int) - 1 := by omega
            have hL := HLEQ.out t htc htk (by omega)
            rw [hL]
            clear hL
            have hvz := HDV.out.ok.2 (by omega)
            have hLb := lead_lt (R1 := R1) hs0 HDV.out.ok.1 HDV.out.eq HST1.out
            have hQL := lead_ge (R1 := R1) hs0 HDV.out.eq hvz rfl
            have hLb2 : R1 / LB ^ (s - 1) < 1000000000000000000 := by
              have h5 : LB * LB = 1000000000000000000 := by rw [LB_eq]
              omega
            generalize R1 / LB ^ (s - 1) = L at *
            have hvp := iv_pos hvz
            have hvb : (iv (v (s - 1)) == 0) = false := by rw [beq_eq_false_iff_ne]; omega
            have hL0 := iv_nonneg L
            have hL1 : iv L < 1000000000000000000 := by rw [iv_eq]; omega
            obtain ⟨_, hdiv⟩ := iv_mod' L (v (s - 1))
            have hqL : L / v (s - 1) ≤ L := Nat.div_le_self _ _
            have hq0 : 0 ≤ iv L / iv (v (s - 1)) := by rw [hdiv]; exact iv_nonneg _
            have hq1 : iv L / iv (v (s - 1)) < 1000000000000000000 := by rw [hdiv, iv_eq]; omega
            obtain ⟨D0, hD0⟩ : ∃ D0, D0 = min (L / v (s - 1)) 999999999 := ⟨_, rfl⟩
            have hmin : min (iv L / iv (v (s - 1))) 999999999 = iv D0 := by rw [hdiv, hD0]; simp only [iv_eq]; omega
            have hD0l : D0 < LB := by rw [LB_eq, hD0]; omega
            have hD0g : R1 / (nv g m * F) ≤ D0 := by have := HST2.out; rw [LB_eq] at this; rw [hD0]; omega
            have HD0 := Lib.hid (And.intro hD0l hD0g)
            clear hD0 hD0l hD0g hqL hLb hQL hLb2 hvz hdiv
            go_wp2_with fail
            try rw [hmin]
            clear hmin
            have hV7 := hV4.below hb7'
            go_loopw [12] (fun d wr2 => ∃ dd, d = .int .u64 (iv dd) ∧ Hid (dd < LB ∧ R1 / (nv g m * F) ≤ dd) ∧ Below w7.heap.size w7 wr2) (fun d _ => (intOf d).toNat)
            case atStart => exact ⟨D0, rfl, HD0, Below.refl _ _⟩
            case round =>
              obtain ⟨dd, rfl, hdd, hb9⟩ := hrel
              have hd0 := iv_nonneg dd
              have hd1 := iv_limb hdd.out.1
              have hmo : iv dd % 4294967296 = iv dd := Int.emod_eq_of_lt hd0 (by omega)
              have hV9 := ((hV7.more hb7'.size).below hb9).more hb9.size
              have hr9 := (hr8.below hb9).more hb9.size
              go_wp2_with fail
              first | rw [hmo] | skip
              refine (refSmall_any dd hdd.out.1 _).mono ?_
              rintro _ w10 ⟨_, rfl, hm10⟩
              obtain ⟨lD, nD, cD, fD, rfl, hrD, hdD, hbD⟩ := hm10
              have hnD : nD ≤ 1 := by
                rcases Nat.lt_or_ge 1 nD with h | h
                · have h1 := hdD.ok.top_le (by omega)
                  rw [hdD.eq] at h1
                  have h2 : LB ^ 1 ≤ LB ^ (nD - 1) := pow_le_of (by omega)
                  rw [Nat.pow_one] at h2
                  have := hdd.out.1
                  omega
                · exact h
              have HDD := Lib.hid hdD
              have hV10 := (hV9.below hbD).more hbD.size
              have hr10 := (hr9.below hbD).more hbD.size
              have hb10 := hb9.trans (hbD.mono hb9.size)
              clear hdD hV9 hr9 hb9 hbD
              go_wp2_with fail
              refine (refTimes_any _ lD s cV nD cD v fD w10 hV10 hrD HDV.out.ok.1 HDD.out.ok.1 (by omega) (by omega)).mono ?_
              rintro _ w11 ⟨_, rfl, hm11⟩
              rw [HDV.out.eq, HDD.out.eq] at hm11
              obtain ⟨lP, nP, cP, fP, rfl, hrP, hdP, hbP⟩ := hm11
              have hr11 := (hr10.below hbP).more hbP.size
              have hb11 := hb10.trans (hbP.mono hb10.size)
              have hord := order_any lP rA1 nP cP k1 rc1 fP f1 _ _ w11 hrP hr11 hdP.ok HDG.out.ok
              rw [hdP.eq, HDG.out.eq] at hord
              have HORD := Lib.hid hord
              clear hord hrD hrP hdP hV10 hr10 hb10 hbP hr11
              by_cases hgt : R1 < nv g m * F * dd
              · rw [cn_gt hgt] at HORD
                have hdn : 1 ≤ dd ∧ R1 / (nv g m * F) ≤ dd - 1 := by
                  have h1 : R1 / (nv g m * F) < dd := by rw [Nat.div_lt_iff_lt_mul hDpos, Nat.mul_comm]; exact hgt
                  exact ⟨Nat.lt_of_le_of_lt (Nat.zero_le _) h1, Nat.le_sub_one_of_lt h1⟩
                have hdm : iv (dd - 1) = iv dd - 1 := by simp only [iv_eq]; omega
                have hd2 : 1 ≤ iv dd := by rw [iv_eq]; omega
                have HDN := Lib.hid hdn
                have HDM := Lib.hid hdm
                clear hgt hdn hdm
                go_wp2_with fail
                refine HORD.out.mono ?_
                rintro _ _ ⟨rfl, d9, rfl⟩
                go_wp2_with fail
                go_roundw
                case rel => exact ⟨dd - 1, by rw [HDM.out], ⟨by have := hdd.out.1; omega, HDN.out.2⟩, hb11.trans ((Below.drewN _ d9).mono hb11.size)⟩
                case measure => simp [intOf] <;> omega
              · have hcn : cn (nv g m * F * dd) R1 ≤ 0 := by
                  rcases Nat.lt_or_ge (nv g m * F * dd) R1 with h | h
                  · rw [cn_lt h]; decide
                  · rw [cn_eq (by omega)]; decide
                have hdq : dd = R1 / (nv g m * F) := by
                  have h1 : dd ≤ R1 / (nv g m * F) := by rw [Nat.le_div_iff_mul_le hDpos, Nat.mul_comm]; omega
                  have := hdd.out.2
                  omega
                have HDQ := Lib.hid hdq
                have hcn' : ¬ 0 < cn (nv g m * F * dd) R1 := by omega
                clear hgt hdq hcn
                generalize cn (nv g m * F * dd) R1 = c9 at *
                go_wp2_with fail
                refine HORD.out.mono ?_
                rintro _ _ ⟨rfl, d9, rfl⟩
                go_wp2_with fail
                have hb12 := hb11.trans ((Below.drewN w11 d9).mono hb11.size)
                generalize w11.drewN d9 = w12 at *
                clear hb11 HORD HDD
                have hV12 := ((hV7.more hb7'.size).below hb12).more hb12.size
                have hr12 := (hr8.below hb12).more hb12.size
                refine (refSmall_any dd hdd.out.1 w12).mono ?_
                rintro _ w13 ⟨_, rfl, hm13⟩
                obtain ⟨lE, nE, cE, fE, rfl, hrE, hdE, hbE⟩ := hm13
                have hnE : nE ≤ 1 := by
                  rcases Nat.lt_or_ge 1 nE with h | h
                  · have h1 := hdE.ok.top_le (by omega)
                    rw [hdE.eq] at h1
                    have h2 : LB ^ 1 ≤ LB ^ (nE - 1) := pow_le_of (by omega)
                    rw [Nat.pow_one] at h2
                    have := hdd.out.1
                    omega
                  · exact h
                have HDE := Lib.hid hdE
                have hV13 := (hV12.below hbE).more hbE.size
                have hr13 := (hr12.below hbE).more hbE.size
                have hb13 := hb12.trans (hbE.mono hb12.size)
                clear hdE hV12 hr12 hb12 hbE
                go_wp2_with fail
                refine (refTimes_any _ lE s cV nE cE v fE w13 hV13 hrE HDV.out.ok.1 HDE.out.ok.1 (by omega) (by omega)).mono ?_
                rintro _ w14 ⟨_, rfl, hm14⟩
                rw [HDV.out.eq, HDE.out.eq] at hm14
                obtain ⟨lM, nM, cM, fM, rfl, hrM, hdM, hbM⟩ := hm14
                have hr14 := (hr13.below hbM).more hbM.size
                have hb14 := hb13.trans (hbM.mono hb13.size)
                have hDq : nv g m * F * dd ≤ R1 := by rw [HDQ.out]; exact Nat.mul_div_le _ _
                have hMi := refMinus_own rA1 lM k1 rc1 nM cM f1 fM w14 hr14 hrM HDG.out.ok hdM.ok (by omega) (by rw [hdM.eq, HDG.out.eq]; exact hDq)
                rw [hdM.eq, HDG.out.eq] at hMi
                have HMI := Lib.hid hMi
                have hrem : R1 - nv g m * F * dd = R1 % (nv g m * F) := by
                  rw [HDQ.out]
                  have := Nat.div_add_mod R1 (nv g m * F)
                  omega
                have HREM := Lib.hid hrem
                clear hMi hrE hrM hdM hV13 hr13 hb13 hbM hr14 hDq hrem
                go_wp2_with fail
                refine HMI.out.mono ?_
                rintro _ w15 ⟨rA2, k2, rc2, S2, rfl, hr15, hd15, hb15, hfr15⟩
                have hb15' := hb14.trans (hb15.mono hb14.size)
                have hq15 : Row w15 Qb J q := hq7.keep (hb15'.block _ hq7.lt)
                have hfz := hq15.frozen p
                have hcq := hq15.cell (show p < J by omega)
                have hset := hq15.set p dd
                have hfr15' : Fresh w6.heap.size w15 rA2 k2 S2 := hfr15.mono (Nat.le_trans hsz7 hb14.size)
                have hfar := hr15.setFar (i := p) (u := .int .u32 (iv dd)) hfr15' hQ2
                have hbz := (hb7'.trans (hb15'.mono hb7'.size)).setCell (p := ⟨Qb, p, none⟩) hQ3 (.int .u32 (iv dd))
                have hk2 : k2 ≤ 1030 := by
                  have h1 : R1 - nv g m * F * dd < LB ^ s := by
                    rw [HREM.out]
                    exact Nat.lt_trans (Nat.mod_lt _ hDpos) (by rw [← HDV.out.eq]; exact HDV.out.ok.lt)
                  rcases Nat.lt_or_ge s k2 with h | h
                  · have h2 := hd15.ok.top_le (by omega)
                    rw [hd15.eq] at h2
                    have h3 : LB ^ s ≤ LB ^ (k2 - 1) := pow_le_of (by omega)
                    omega
                  · omega
                have hszz : w6.heap.size ≤ (w15.setCell ⟨Qb, p, none⟩ (.int .u32 (iv dd))).heap.size := by
                  rw [show (w15.setCell ⟨Qb, p, none⟩ (.int .u32 (iv dd))).heap.size = w15.heap.size by simp [World.setCell]]
                  exact Nat.le_trans hsz7 (Nat.le_trans hb14.size hb15.size)
                have hfin := HST3.out
                rw [← HDQ.out, ← HREM.out, ← hd15.eq] at hfin
                have HFIN : Hid ((∀ j, j < k2 → S2 j < LB) ∧ Ov x N J (nv g m * F) (fun j => if j = p then dd else q j) (nv S2 k2) p ∧ (p < J → Val k2 S2 ∧ Fresh w6.heap.size (w15.setCell ⟨Qb, p, none⟩ (.int .u32 (iv dd))) rA2 k2 S2)) :=
                  Lib.hid ⟨hd15.ok.1, hfin, fun _ => ⟨hd15.ok, hfar.2⟩⟩
                have HFAR := Lib.hid hfar.1
                have HSET := Lib.hid hset
                have HBZ := Lib.hid hbz
                have HSZ := Lib.hid hszz
                clear hr15 hd15 hb15 hfr15 hb15' hfr15' hfar hbz hset hfin hszz hb14 HMI HREM
                generalize hgd : iv dd = dv at *
                clear hgd
                go_wp2_with fail
                go_roundw
                case rel => exact ⟨p, rA2, k2, rc2, S2, _, by omega, rfl, rfl, HFAR.out, HSET.out, HBZ.out, HSZ.out, hk2, HFIN.out⟩
                case measure => simp [intOf] <;> omega

end Go.Proofs.YtbjaolmlnkliiaaGreatDoor

/- The contracts of the reference's Common, Div, Gcd and Lcm. Conditions as premises: the lists read. -/
namespace Go.Proofs.YtbjaolmlnkliiaaGreatDoor
open Go.RowKit Go.Shelf

theorem refOver_any (A A' : Option Addr) (n c m c' : Nat) (f g : Nat → Nat) (w : World) (hA : Rs w w.heap.size A n c f) (hB : Rs w w.heap.size A' m c' g) (vf : Val n f) (vg : Val m g) (hn : n ≤ 1024) (hm0 : 0 < m) :
    Calls Tryz.prog 163 #[.slice A n c, .slice A' m c'] w fun e w' => ∃ v u, e = .returned (.tuple #[v, u]) ∧ Made2 w (nv f n / nv g m) (nv f n % nv g m) v u w' := by
  rcases Nat.lt_or_ge (nv f n) (nv g m) with hlt | hle
  · exact refOver_less A A' n c m c' f g w hA hB vf vg hlt
  · exact refOver_main A A' n c m c' f g w hA hB vf vg hn hm0 hle

set_option maxRecDepth 100000 in
set_option maxHeartbeats 1600000 in
theorem refCommon_any (A A' : Option Addr) (n c m c' : Nat) (f g : Nat → Nat) (w : World) (hA : Rs w w.heap.size A n c f) (hB : Rs w w.heap.size A' m c' g) (vf : Val n f) (vg : Val m g) (hn : n ≤ 1024) (hm : m ≤ 1024) :
    Calls Tryz.prog 153 #[.slice A n c, .slice A' m c'] w fun e w' => ∃ v, e = .returned v ∧ Made w (Nat.gcd (nv f n) (nv g m)) v w' := by
  have hF : nv f n < LB ^ NL := Nat.lt_of_lt_of_le vf.lt (pow_le_of (by rw [NL_eq]; exact hn))
  have hG : nv g m < LB ^ NL := Nat.lt_of_lt_of_le vg.lt (pow_le_of (by rw [NL_eq]; exact hm))
  have hnf : Nr w (nv f n) (.slice A n c) := ⟨_, _, _, _, rfl, hA, ⟨vf, rfl⟩⟩
  have hng : Nr w (nv g m) (.slice A' m c') := ⟨_, _, _, _, rfl, hB, ⟨vg, rfl⟩⟩
  obtain ⟨K0, hK0⟩ : ∃ K0, K0 = nv g m := ⟨_, rfl⟩
  rw [← hK0] at hng hG
  have hst : Hid (nv f n < LB ^ NL ∧ K0 < LB ^ NL ∧ Nat.gcd (nv f n) K0 = Nat.gcd (nv f n) (nv g m)) := Lib.hid ⟨hF, hG, by rw [hK0]⟩
  clear hF hG vf vg hA hB hK0
  generalize Nat.gcd (nv f n) (nv g m) = G at *
  go_enter Tryz.func153, Tryz.ntmps153
  go_wp2_with fail
  go_loopg [0, 1, 5, 6] K0 (fun k a b _ _ wr => ∃ N, Nr wr N a ∧ Nr wr k b ∧ Hid (N < LB ^ NL ∧ k < LB ^ NL ∧ Nat.gcd N k = G) ∧ Below w.heap.size w wr)
  case atStart => exact ⟨_, hnf, hng, hst, Below.refl _ _⟩
  case round =>
    clear hst hnf hng
    obtain ⟨N, ha, hb, hgl, hbl⟩ := hrel
    obtain ⟨lA, na, cA, xA, rfl, hrA, vA, eA, hnA⟩ := nr_slice ha hgl.out.1
    obtain ⟨lB, nb, cB, xB, rfl, hrB, vB, eB, hnB⟩ := nr_slice hb hgl.out.2.1
    have EA := Lib.hid eA
    have EB := Lib.hid eB
    clear eA eB
    by_cases h0 : 0 < nb
    · have h0' : (0 : Int) < (nb : Int) := by omega
      have HO := Lib.hid (refOver_any lA lB na cA nb cB xA xB wr hrA hrB vA vB hnA h0)
      have hpos : 0 < gk := by rw [← EB.out]; exact vB.pos h0
      have VB := Lib.hid vB
      clear vA vB
      go_wp2_with fail
      refine HO.out.mono ?_
      rintro _ w4 ⟨v, u, rfl, hm2⟩
      have hm := hm2.snd
      rw [EA.out, EB.out] at hm
      have hnr := Made.nr hm
      have hbn : Nr w4 gk (.slice lB nb cB) := ⟨_, _, _, _, rfl, (hrB.below hnr.2).more hnr.2.size, ⟨VB.out, EB.out⟩⟩
      have hbl4 := hbl.trans (hnr.2.mono hbl.size)
      have hlt : N % gk < gk := Nat.mod_lt _ hpos
      have hg2 : Hid (gk < LB ^ NL ∧ N % gk < LB ^ NL ∧ Nat.gcd gk (N % gk) = G) := Lib.hid ⟨hgl.out.2.1, Nat.lt_trans hlt hgl.out.2.1, by rw [Nat.gcd_comm gk, ← Nat.gcd_rec, Nat.gcd_comm]; exact hgl.out.2.2⟩
      have HN := Lib.hid hnr.1
      have HLT := Lib.hid hlt
      clear hm2 hm hnr HO hlt hpos
      go_wp2_with fail
      go_roundg (N % gk)
      case measure => exact HLT.out
      case rel => exact ⟨gk, hbn, HN.out, hg2, hbl4⟩
    · obtain rfl : nb = 0 := by omega
      have hgN : N = G := by
        have h1 := hgl.out.2.2
        rw [← EB.out] at h1
        rw [← h1]
        exact (Nat.gcd_zero_right N).symm
      have HM : Hid (Made w G (.slice lA na cA) wr) := Lib.hid (made_rs hrA ⟨vA, by rw [EA.out]; exact hgN⟩ hbl)
      clear hgN hgl vA vB
      go_wp2_with fail
      go_ret
      exact ⟨_, rfl, HM.out⟩

/-- a common divisor is short enough -/
theorem gcd_short {N M : Nat} (hN : N < LB ^ NL) (hM : M < LB ^ NL) : Nat.gcd N M < LB ^ NL := by
  rcases Nat.eq_zero_or_pos N with e | e
  · subst e; rw [Nat.gcd_zero_left]; exact hM
  · exact Nat.lt_of_le_of_lt (Nat.gcd_le_left _ e) hN

end Go.Proofs.YtbjaolmlnkliiaaGreatDoor

/- The contracts of the reference's functions on natural numbers, over numbers. Conditions as premises: the numbers read, and are short enough. -/
namespace Go.Proofs.YtbjaolmlnkliiaaGreatDoor
open Go.RowKit

theorem refCommonN {w : World} {N M : Nat} {v u : Value} (h : Nr w N v) (k : Nr w M u) (hN : N < LB ^ NL) (hM : M < LB ^ NL) :
    Calls Tryz.prog 153 #[v, u] w fun e w' => ∃ x, e = .returned x ∧ Nr w' (Nat.gcd N M) x ∧ Below w.heap.size w w' := by
  obtain ⟨A, n, c, f, rfl, hr, hd⟩ := h
  obtain ⟨A', n', c', f', rfl, hr', hd'⟩ := k
  refine (refCommon_any A A' n c n' c' f f' w hr hr' hd.ok hd'.ok (hd.len_NL hN) (hd'.len_NL hM)).mono ?_
  rintro e w' ⟨x, he, hm⟩
  rw [hd.eq, hd'.eq] at hm
  exact ⟨x, he, hm.nr⟩

theorem refOverN {w : World} {N M : Nat} {v u : Value} (h : Nr w N v) (k : Nr w M u) (hN : N < LB ^ NL) (hM0 : 0 < M) :
    Calls Tryz.prog 163 #[v, u] w fun e w' => ∃ x y, e = .returned (.tuple #[x, y]) ∧ Nr w' (N / M) x ∧ Nr w' (N % M) y ∧ Below w.heap.size w w' := by
  obtain ⟨A, n, c, f, rfl, hr, hd⟩ := h
  obtain ⟨A', n', c', f', rfl, hr', hd'⟩ := k
  have hn0 : 0 < n' := by
    rcases Nat.eq_zero_or_pos n' with e | e
    · subst e; have := hd'.eq; simp [nv] at this; omega
    · exact e
  refine (refOver_any A A' n c n' c' f f' w hr hr' hd.ok hd'.ok (hd.len_NL hN) hn0).mono ?_
  rintro e w' ⟨x, y, he, hm⟩
  rw [hd.eq, hd'.eq] at hm
  exact ⟨x, y, he, hm.fst.nr.1, hm.snd.nr⟩

theorem refTimesN {w : World} {N M : Nat} {v u : Value} (h : Nr w N v) (k : Nr w M u) (hN : N < LB ^ NL) (hM : M < LB ^ NL) :
    Calls Tryz.prog 146 #[v, u] w fun e w' => ∃ x, e = .returned x ∧ Nr w' (N * M) x ∧ Below w.heap.size w w' := by
  obtain ⟨A, n, c, f, rfl, hr, hd⟩ := h
  obtain ⟨A', n', c', f', rfl, hr', hd'⟩ := k
  refine (refTimes_any A A' n c n' c' f f' w hr hr' hd.ok.1 hd'.ok.1 (by have := hd.len_NL hN; omega) (by have := hd'.len_NL hM; omega)).mono ?_
  rintro e w' ⟨x, he, hm⟩
  rw [hd.eq, hd'.eq] at hm
  exact ⟨x, he, hm.nr⟩

theorem refPlusN {w : World} {N M : Nat} {v u : Value} (h : Nr w N v) (k : Nr w M u) (hN : N < LB ^ NL) (hM : M < LB ^ NL) :
    Calls Tryz.prog 147 #[v, u] w fun e w' => ∃ x, e = .returned x ∧ Nr w' (N + M) x ∧ Below w.heap.size w w' := by
  obtain ⟨A, n, c, f, rfl, hr, hd⟩ := h
  obtain ⟨A', n', c', f', rfl, hr', hd'⟩ := k
  refine (refPlus_any A A' n c n' c' f f' w hr hr' hd.ok hd'.ok (by have := hd.len_NL hN; omega) (by have := hd'.len_NL hM; omega)).mono ?_
  rintro e w' ⟨x, he, hm⟩
  rw [hd.eq, hd'.eq] at hm
  exact ⟨x, he, hm.nr⟩

theorem refMinusN {w : World} {N M : Nat} {v u : Value} (h : Nr w N v) (k : Nr w M u) (hN : N < LB ^ NL) (hle : M ≤ N) :
    Calls Tryz.prog 148 #[v, u] w fun e w' => ∃ x, e = .returned x ∧ Nr w' (N - M) x ∧ Below w.heap.size w w' := by
  obtain ⟨A, n, c, f, rfl, hr, hd⟩ := h
  obtain ⟨A', n', c', f', rfl, hr', hd'⟩ := k
  refine (refMinus_any A A' n c n' c' f f' w hr hr' hd.ok hd'.ok (by have := hd.len_NL hN; omega) (by rw [hd.eq, hd'.eq]; exact hle)).mono ?_
  rintro e w' ⟨x, he, hm⟩
  rw [hd.eq, hd'.eq] at hm
  exact ⟨x, he, hm.nr⟩

theorem refOrderN {w : World} {N M : Nat} {v u : Value} (h : Nr w N v) (k : Nr w M u) :
    Calls Tryz.prog 80 #[v, u] w fun e w' => e = .returned (.int .i64 (cn N M)) ∧ Below w.heap.size w w' := by
  obtain ⟨A, n, c, f, rfl, hr, hd⟩ := h
  obtain ⟨A', n', c', f', rfl, hr', hd'⟩ := k
  refine (order_any A A' n c n' c' f f' _ _ w hr hr' hd.ok hd'.ok).mono ?_
  rintro e w' ⟨he, hm⟩
  rw [hd.eq, hd'.eq] at he
  exact ⟨he, hm.below⟩

theorem refFitsN {w : World} {N : Nat} {v : Value} (h : Nr w N v) (hN : N < LB ^ NL) :
    Calls Tryz.prog 184 #[v] w fun e w' => ∃ x, e = .returned (.tuple #[x, .int .i64 0]) ∧ Nr w' N x ∧ Below w.heap.size w w' := by
  obtain ⟨A, n, c, f, rfl, hr, hd⟩ := h
  refine (refFits_any (w0 := w) (w := w) (N := N) ⟨A, n, c, f, rfl, hr, hd, Below.refl _ _⟩).mono ?_
  rintro e w' ⟨x, he, hm⟩
  rw [fitE_ok hN] at he
  rw [fitE_ok hN, zr_ok] at hm
  exact ⟨x, he, hm.nr⟩
end Go.Proofs.YtbjaolmlnkliiaaGreatDoor

/- Plain facts on rational numbers: the sums, products, quotients, orders and integer parts that the reference computes from the parts. No conditions. -/
namespace Go.Proofs.YtbjaolmlnkliiaaGreatDoor

theorem sn_mulN (s : Bool) (N M : Nat) : sn s (N * M) = sn s N * (M : Int) := by
  unfold sn; cases s <;> simp [Int.neg_mul]
theorem plus_same (a b : Rat) (h : decide (a.num < 0) = decide (b.num < 0)) :
    mkRat (sn (decide (a.num < 0)) (a.num.natAbs * b.den + b.num.natAbs * a.den)) (a.den * b.den) = a + b := by
  rw [Rat.add_def']
  congr 1
  have e1 := sn_mulN (decide (a.num < 0)) a.num.natAbs b.den
  have e2 := sn_mulN (decide (b.num < 0)) b.num.natAbs a.den
  rw [sn_num] at e1 e2
  rw [← e1, ← e2, ← h]
  generalize a.num.natAbs * b.den = x
  generalize b.num.natAbs * a.den = y
  unfold sn; split <;> omega
theorem plus_ge (a b : Rat) (h : decide (a.num < 0) ≠ decide (b.num < 0)) (hle : b.num.natAbs * a.den ≤ a.num.natAbs * b.den) :
    mkRat (sn (decide (a.num < 0)) (a.num.natAbs * b.den - b.num.natAbs * a.den)) (a.den * b.den) = a + b := by
  rw [Rat.add_def']
  congr 1
  have e1 := sn_mulN (decide (a.num < 0)) a.num.natAbs b.den
  have e2 := sn_mulN (decide (b.num < 0)) b.num.natAbs a.den
  rw [sn_num] at e1 e2
  rw [← e1, ← e2]
  generalize decide (a.num < 0) = s at *
  generalize decide (b.num < 0) = t at *
  generalize a.num.natAbs * b.den = x at *
  generalize b.num.natAbs * a.den = y at *
  unfold sn; cases s <;> cases t <;> simp at * <;> omega
theorem plus_lt (a b : Rat) (h : decide (a.num < 0) ≠ decide (b.num < 0)) (hle : a.num.natAbs * b.den ≤ b.num.natAbs * a.den) :
    mkRat (sn (decide (b.num < 0)) (b.num.natAbs * a.den - a.num.natAbs * b.den)) (a.den * b.den) = a + b := by
  rw [Rat.add_def']
  congr 1
  have e1 := sn_mulN (decide (a.num < 0)) a.num.natAbs b.den
  have e2 := sn_mulN (decide (b.num < 0)) b.num.natAbs a.den
  rw [sn_num] at e1 e2
  rw [← e1, ← e2]
  generalize decide (a.num < 0) = s at *
  generalize decide (b.num < 0) = t at *
  generalize a.num.natAbs * b.den = x at *
  generalize b.num.natAbs * a.den = y at *
  unfold sn; cases s <;> cases t <;> simp at * <;> omega
theorem sn_xor (s t : Bool) (N M : Nat) : sn (s != t) (N * M) = sn s N * sn t M := by
  unfold sn; cases s <;> cases t <;> simp [Int.neg_mul, Int.mul_neg]
theorem times_eq (a b : Rat) : mkRat (sn (decide (a.num < 0) != decide (b.num < 0)) (a.num.natAbs * b.num.natAbs)) (a.den * b.den) = a * b := by
  rw [Rat.mul_def', sn_xor, sn_num, sn_num]
theorem inv_num (b : Rat) (h : b ≠ 0) : b⁻¹ = mkRat (sn (decide (b.num < 0)) b.den) b.num.natAbs := by
  have hn : b.num ≠ 0 := fun e => h (Rat.num_eq_zero.1 e)
  have hd := b.den_pos
  have e : b⁻¹ = mkRat b⁻¹.num b⁻¹.den := (Rat.mkRat_self _).symm
  rw [e, Rat.num_inv, Rat.den_inv, if_neg hn]
  congr 1
  unfold sn
  by_cases h0 : b.num < 0
  · rw [decide_eq_true h0, if_pos rfl, Int.sign_eq_neg_one_of_neg h0]; omega
  · rw [decide_eq_false h0, if_neg (by simp), Int.sign_eq_one_of_pos (by omega)]; omega
theorem over_eq (a b : Rat) (h : b ≠ 0) : mkRat (sn (decide (a.num < 0) != decide (b.num < 0)) (a.num.natAbs * b.den)) (a.den * b.num.natAbs) = a / b := by
  rw [Rat.div_def, inv_num b h, sn_xor, sn_num, ← Rat.mkRat_mul_mkRat, Rat.mkRat_self]
theorem order_eq (a b : Rat) : cq a b = if (a + -b).num = 0 then 0 else if (a + -b).num < 0 then -1 else 1 := by
  rcases tri a b with h | h | h
  · rw [cq_lt h]
    have h1 : a + -b < 0 := by grind
    have h2 : (a + -b).num < 0 := by have := mt Rat.num_nonneg.1 (Rat.not_le.2 h1); omega
    rw [if_neg (by omega), if_pos h2]
  · subst h
    rw [cq_eq, Rat.add_neg_cancel]; rfl
  · rw [cq_gt h]
    have h1 : 0 < a + -b := by grind
    have h2 : 0 < (a + -b).num := by
      have h3 := Rat.num_nonneg.2 (Rat.le_of_lt h1)
      have h4 : (a + -b).num ≠ 0 := fun e => by rw [Rat.num_eq_zero.1 e] at h1; exact Rat.lt_irrefl h1
      omega
    rw [if_neg (by omega), if_neg (by omega)]
theorem down_eq (a : Rat) : mkRat (sn (decide (a.num < 0)) (if a.num < 0 ∧ 0 < a.num.natAbs % a.den then a.num.natAbs / a.den + 1 else a.num.natAbs / a.den)) 1 = (a.floor : Rat) := by
  rw [Rat.floor_def]
  have hd : (0 : Int) < a.den := by have := a.den_pos; omega
  have key : sn (decide (a.num < 0)) (if a.num < 0 ∧ 0 < a.num.natAbs % a.den then a.num.natAbs / a.den + 1 else a.num.natAbs / a.den) = a.num / (a.den : Int) := by
    obtain ⟨n, hn⟩ : ∃ n : Nat, a.num.natAbs = n := ⟨_, rfl⟩
    generalize a.den = d at *
    generalize a.num = z at *
    by_cases h : z < 0
    · obtain rfl : z = -(n : Int) := by omega
      rw [decide_eq_true h, hn]
      unfold sn
      rw [if_pos rfl]
      have h1 := Nat.div_add_mod n d
      have h2 := Nat.mod_lt n (show 0 < d by omega)
      by_cases h0 : 0 < n % d
      · rw [if_pos ⟨h, h0⟩]
        symm
        rw [Int.ediv_eq_iff_of_pos hd]
        have : (n : Int) = d * (n / d : Nat) + (n % d : Nat) := by exact_mod_cast h1.symm
        generalize n / d = q at *
        generalize n % d = r at *
        push_cast
        constructor <;> grind
      · rw [if_neg (fun c => h0 c.2)]
        symm
        rw [Int.ediv_eq_iff_of_pos hd]
        have : (n : Int) = d * (n / d : Nat) + (n % d : Nat) := by exact_mod_cast h1.symm
        generalize n / d = q at *
        generalize n % d = r at *
        constructor <;> grind
    · obtain rfl : z = (n : Int) := by omega
      rw [decide_eq_false h, hn, if_neg (fun c => h c.1)]
      unfold sn
      rw [if_neg (by simp)]
      exact Int.natCast_ediv n d
  rw [key]
  exact Rat.mkRat_one _
theorem minus_neg (a : Rat) : decide ((-a).num < 0) = (!decide (a.num < 0) && decide (0 < a.num.natAbs)) := by
  rw [Rat.neg_num]
  by_cases h : a.num < 0
  · rw [decide_eq_true h, decide_eq_false (by omega)]; rfl
  · rw [decide_eq_false h, Bool.not_false, Bool.true_and]; exact decide_eq_decide.2 (by omega)
end Go.Proofs.YtbjaolmlnkliiaaGreatDoor

/- The contracts of the reference's functions on rational numbers. Conditions as premises: the numbers read, and are short enough. -/
namespace Go.Proofs.YtbjaolmlnkliiaaGreatDoor
open Go.RowKit Go.Shelf
attribute [local go_sem ↓] Go.wp_at_zero Go.wp_at_succ

theorem Blk.other3 {w : World} {g h : Nat} {t : TypeId} {cs : Array Value} (k : Blk w g t cs) (hne : g ≠ h) (u v x : Value) : Blk (((w.setCell ⟨h, 0, none⟩ u).setCell ⟨h, 1, none⟩ v).setCell ⟨h, 2, none⟩ x) g t cs := ((k.other hne).other hne).other hne
theorem cn_ge {x y : Nat} (h : y ≤ x) : 0 ≤ cn x y := by rw [cn_ci]; unfold ci; split <;> (try split) <;> omega
theorem cn_lt' {x y : Nat} (h : ¬ y ≤ x) : ¬ 0 ≤ cn x y := by rw [cn_ci]; unfold ci; rw [if_pos (by omega)]; omega

set_option maxRecDepth 100000 in
set_option maxHeartbeats 8000000 in
theorem refLowestQ {w : World} {N D : Nat} {v u : Value} (neg : Bool) (h : Nr w N v) (k : Nr w D u) (hN : N < LB ^ NL) (hDl : D < LB ^ NL) (hD : D ≠ 0) :
    Calls Tryz.prog 88 #[.bool neg, v, u] w fun e w' => ∃ x, e = .returned x ∧ Rq w' (mkRat (sn neg N) D) x ∧ Below w.heap.size w w' := by
  obtain ⟨A1, n1, c1, rfl, hz1⟩ := h.len
  obtain ⟨A2, n2, c2, rfl, hz2⟩ := k.len
  have hb0 := below1 w (.cells #[.bool false, .slice none 0 0, .slice none 0 0] 25)
  have HB := Lib.hid hb0
  have H := Lib.hid (h.below hb0)
  have K := Lib.hid (k.below hb0)
  have X := Lib.hid (Blk.new w #[.bool false, .slice none 0 0, .slice none 0 0] 25)
  by_cases hN0 : N = 0
  · obtain rfl := hz1.2 hN0
    have hb1 := below2 w (.cells #[.bool false, .slice none 0 0, .slice (some ⟨w.heap.size + 1, 0, none⟩) 1 1] 25) (.cells #[.int .u32 1] 40)
    have ho := nr_one (w.alloc (.cells #[.bool false, .slice none 0 0, .slice (some ⟨w.heap.size + 1, 0, none⟩) 1 1] 25))
    rw [World.size_alloc] at ho
    have HO := Lib.hid ho
    have HB1 := Lib.hid hb1
    clear h k hb0 hb1 ho H K HB X hz1 hz2
    go_enter Tryz.func88, Tryz.ntmps88
    go_wp2_with fail
    refine bodyPost_ret (results_cell_row (p := 6) (ty := 25) rfl _ _ w.heap.size 25 _ _ _ rfl ((Blk.new w #[.bool false, .slice none 0 0, .slice (some ⟨w.heap.size + 1, 0, none⟩) 1 1] 25).alloc (.cells #[.int .u32 1] 40)) Tryz.underlying25 rfl (by kernel_rfl)) rfl ?_
    refine ⟨_, rfl, Rq.mk ?_ ?_ ?_ (Nr.zero _) HO.out, HB1.out⟩
    all_goals rw [hN0, sn_zero, Rat.zero_mkRat]; rfl
  · have hlen : ((n1 : Int) == 0) = false := by rw [beq_eq_false_iff_ne]; intro e; exact hN0 (hz1.1 (by omega))
    have hg : 0 < Nat.gcd N D := gcd_pos_r hD
    have C1 := Lib.hid (refCommonN H.out K.out hN hDl)
    clear h k hb0 hz1 hz2
    go_enter Tryz.func88, Tryz.ntmps88
    go_wp2_with fail
    refine C1.out.mono ?_
    rintro _ w1 ⟨x, rfl, hx, hb⟩
    obtain ⟨A3, n3, c3, rfl⟩ := hx.shape
    replace HB := Lib.hid (HB.out.trans (hb.mono HB.out.size))
    replace X := Lib.hid (X.out.after hb)
    replace K := Lib.hid (K.out.below hb)
    have G := Lib.hid hx
    have C2 := Lib.hid (refOverN (H.out.below hb) hx hN hg)
    clear hx hb C1 H
    go_wp2_with fail
    refine C2.out.mono ?_
    rintro _ w2 ⟨x, y, rfl, hx, hy, hb⟩
    obtain ⟨A4, n4, c4, rfl⟩ := hx.shape
    obtain ⟨A5, n5, c5, rfl⟩ := hy.shape
    replace HB := Lib.hid (HB.out.trans (hb.mono HB.out.size))
    replace X := Lib.hid (X.out.after hb)
    have C3 := Lib.hid (refOverN (K.out.below hb) (G.out.below hb) hDl hg)
    have Q := Lib.hid hx
    clear hx hy hb C2 K G
    go_wp2_with fail
    refine C3.out.mono ?_
    rintro _ w3 ⟨x, y, rfl, hx, hy, hb⟩
    obtain ⟨A6, n6, c6, rfl⟩ := hx.shape
    obtain ⟨A7, n7, c7, rfl⟩ := hy.shape
    replace HB := Lib.hid (HB.out.trans (hb.mono HB.out.size))
    replace X := Lib.hid (X.out.after hb)
    replace Q := Lib.hid (Q.out.below hb)
    have P := Lib.hid hx
    have z4 : w.heap.size < w3.heap.size := X.out.lt
    have d0 := X.out.cell (i := 0) rfl
    have d1 := X.out.cell (i := 1) rfl
    have d2 := X.out.cell (i := 2) rfl
    have ff := X.out.free
    clear hx hy hb C3
    go_wp2_with fail
    refine bodyPost_ret (results_cell_row (p := 6) (ty := 25) rfl _ _ w.heap.size 25 _ _ _ rfl X.out.set.set.set Tryz.underlying25 rfl (by kernel_rfl)) rfl ?_
    obtain ⟨_, q2, q3⟩ := mkRat_red (sn neg N) D hD
    rw [sn_abs] at q2 q3
    refine ⟨_, rfl, Rq.mk ?_ q2 q3 (Q.out.put3 X.out (hnoR _ _ _ _ _ _ _)) (P.out.put3 X.out (hnoR _ _ _ _ _ _ _)), ((HB.out.setCell (Nat.le_refl _) _).setCell (Nat.le_refl _) _).setCell (Nat.le_refl _) _⟩
    exact (sn_lt neg N hN0).symm.trans (decide_eq_decide.2 (mkRat_neg_iff _ _ hD).symm)

end Go.Proofs.YtbjaolmlnkliiaaGreatDoor

/- The contracts of the reference's functions on rational numbers. Conditions as premises: the numbers read, and are short enough. -/
namespace Go.Proofs.YtbjaolmlnkliiaaGreatDoor
open Go.RowKit Go.Shelf
attribute [local go_sem ↓] Go.wp_at_zero Go.wp_at_succ


set_option maxRecDepth 100000 in
set_option maxHeartbeats 8000000 in
theorem refTimesQ {w : World} {i j : Nat} {a b : Rat} {v u : Value} (ha : Rq w a v) (hb : Rq w b u) (sa : Sz i a) (sb : Sz j b) (hij : i + j ≤ 1024) :
    Calls Tryz.prog 69 #[v, u] w fun e w' => ∃ t, e = .returned t ∧ Rq w' (a * b) t ∧ Below w.heap.size w w' := by
  obtain ⟨b1, A1, n1, c1, A1', n1', c1', rfl, h1, h2, e1⟩ := ha.get
  obtain ⟨b2, A2, n2, c2, A2', n2', c2', rfl, h3, h4, e2⟩ := hb.get
  have hbb : Below w.heap.size w (((w.alloc (.cells #[.bool b1, .slice A1 n1 c1, .slice A1' n1' c1'] 25)).alloc (.cells #[.bool b2, .slice A2 n2 c2, .slice A2' n2' c2'] 25)).alloc (.cells #[.bool false, .slice none 0 0, .slice none 0 0] 25)) := (below2 w _ _).alloc (by simp; omega) _
  have k1 := ((Blk.new w #[.bool b1, .slice A1 n1 c1, .slice A1' n1' c1'] 25).alloc (.cells #[.bool b2, .slice A2 n2 c2, .slice A2' n2' c2'] 25)).alloc (.cells #[.bool false, .slice none 0 0, .slice none 0 0] 25)
  have k2 := (Blk.new (w.alloc (.cells #[.bool b1, .slice A1 n1 c1, .slice A1' n1' c1'] 25)) #[.bool b2, .slice A2 n2 c2, .slice A2' n2' c2'] 25).alloc (.cells #[.bool false, .slice none 0 0, .slice none 0 0] 25)
  have k3 := Blk.new ((w.alloc (.cells #[.bool b1, .slice A1 n1 c1, .slice A1' n1' c1'] 25)).alloc (.cells #[.bool b2, .slice A2 n2 c2, .slice A2' n2' c2'] 25)) #[.bool false, .slice none 0 0, .slice none 0 0] 25
  simp only [World.size_alloc] at k2 k3
  have H1 := Lib.hid (h1.below hbb)
  have H2 := Lib.hid (h2.below hbb)
  have H3 := Lib.hid (h3.below hbb)
  have H4 := Lib.hid (h4.below hbb)
  have HB := Lib.hid hbb
  have KP1 := Lib.hid k1
  have KP2 := Lib.hid k2
  have KP3 := Lib.hid k3
  clear ha hb h1 h2 h3 h4 hbb k1 k2 k3
  have L : Hid (a.num.natAbs < LB ^ i ∧ a.den < LB ^ i ∧ b.num.natAbs < LB ^ j ∧ b.den < LB ^ j ∧ i + j ≤ 1024) := Lib.hid ⟨sa.1, sa.2, sb.1, sb.2, hij⟩
  clear sa sb hij
  go_enter Tryz.func69, Tryz.ntmps69
  go_upto_region 1 with fail
  generalize (((w.alloc (.cells #[.bool b1, .slice A1 n1 c1, .slice A1' n1' c1'] 25)).alloc (.cells #[.bool b2, .slice A2 n2 c2, .slice A2' n2' c2'] 25)).alloc (.cells #[.bool false, .slice none 0 0, .slice none 0 0] 25)) = wb at *
  have LN : Hid (a.num.natAbs * b.num.natAbs < LB ^ NL) := Lib.hid (lt_NL (mul_lt L.out.1 L.out.2.2.1) L.out.2.2.2.2)
  have LD : Hid (a.den * b.den < LB ^ NL) := Lib.hid (lt_NL (mul_lt L.out.2.1 L.out.2.2.2.1) L.out.2.2.2.2)
  have LZ : Hid (a.den * b.den ≠ 0) := Lib.hid (Nat.mul_ne_zero a.den_nz b.den_nz)
  have EQ : Hid (mkRat (sn (b1 != b2) (a.num.natAbs * b.num.natAbs)) (a.den * b.den) = a * b) := Lib.hid (by rw [e1.out, e2.out]; exact times_eq a b)
  clear e1 e2
  have KEEP : Hid (∀ W, Below wb.heap.size wb W → (W.cell? ⟨w.heap.size, 0, none⟩ = some (.bool b1) ∧ W.cell? ⟨w.heap.size, 1, none⟩ = some (.slice A1 n1 c1) ∧ W.cell? ⟨w.heap.size, 2, none⟩ = some (.slice A1' n1' c1') ∧ W.cell? ⟨w.heap.size + 1, 0, none⟩ = some (.bool b2) ∧ W.cell? ⟨w.heap.size + 1, 1, none⟩ = some (.slice A2 n2 c2) ∧ W.cell? ⟨w.heap.size + 1, 2, none⟩ = some (.slice A2' n2' c2'))) := Lib.hid fun W h1 => ⟨(KP1.out.after h1).cell rfl, (KP1.out.after h1).cell rfl, (KP1.out.after h1).cell rfl, (KP2.out.after h1).cell rfl, (KP2.out.after h1).cell rfl, (KP2.out.after h1).cell rfl⟩
  have KEEP3 : Hid (∀ W u v x, Below wb.heap.size wb W → ((((W.setCell ⟨w.heap.size + 1 + 1, 0, none⟩ u).setCell ⟨w.heap.size + 1 + 1, 1, none⟩ v).setCell ⟨w.heap.size + 1 + 1, 2, none⟩ x).cell? ⟨w.heap.size, 0, none⟩ = some (.bool b1) ∧ (((W.setCell ⟨w.heap.size + 1 + 1, 0, none⟩ u).setCell ⟨w.heap.size + 1 + 1, 1, none⟩ v).setCell ⟨w.heap.size + 1 + 1, 2, none⟩ x).cell? ⟨w.heap.size, 1, none⟩ = some (.slice A1 n1 c1) ∧ (((W.setCell ⟨w.heap.size + 1 + 1, 0, none⟩ u).setCell ⟨w.heap.size + 1 + 1, 1, none⟩ v).setCell ⟨w.heap.size + 1 + 1, 2, none⟩ x).cell? ⟨w.heap.size, 2, none⟩ = some (.slice A1' n1' c1') ∧ (((W.setCell ⟨w.heap.size + 1 + 1, 0, none⟩ u).setCell ⟨w.heap.size + 1 + 1, 1, none⟩ v).setCell ⟨w.heap.size + 1 + 1, 2, none⟩ x).cell? ⟨w.heap.size + 1, 0, none⟩ = some (.bool b2) ∧ (((W.setCell ⟨w.heap.size + 1 + 1, 0, none⟩ u).setCell ⟨w.heap.size + 1 + 1, 1, none⟩ v).setCell ⟨w.heap.size + 1 + 1, 2, none⟩ x).cell? ⟨w.heap.size + 1, 1, none⟩ = some (.slice A2 n2 c2) ∧ (((W.setCell ⟨w.heap.size + 1 + 1, 0, none⟩ u).setCell ⟨w.heap.size + 1 + 1, 1, none⟩ v).setCell ⟨w.heap.size + 1 + 1, 2, none⟩ x).cell? ⟨w.heap.size + 1, 2, none⟩ = some (.slice A2' n2' c2'))) := Lib.hid fun W u v x h1 => ⟨(((KP1.out.after h1).other3 (by omega) u v x)).cell rfl, (((KP1.out.after h1).other3 (by omega) u v x)).cell rfl, (((KP1.out.after h1).other3 (by omega) u v x)).cell rfl, (((KP2.out.after h1).other3 (by omega) u v x)).cell rfl, (((KP2.out.after h1).other3 (by omega) u v x)).cell rfl, (((KP2.out.after h1).other3 (by omega) u v x)).cell rfl⟩
  have hdrew : Below wb.heap.size wb wb.drew := (Below.refl _ _).drew
  go_region_held3 (fun W => W.cell? ⟨w.heap.size, 0, none⟩ = some (.bool b1) ∧ W.cell? ⟨w.heap.size, 1, none⟩ = some (.slice A1 n1 c1) ∧ W.cell? ⟨w.heap.size, 2, none⟩ = some (.slice A1' n1' c1') ∧ W.cell? ⟨w.heap.size + 1, 0, none⟩ = some (.bool b2) ∧ W.cell? ⟨w.heap.size + 1, 1, none⟩ = some (.slice A2 n2 c2) ∧ W.cell? ⟨w.heap.size + 1, 2, none⟩ = some (.slice A2' n2' c2'))
    (first | with_reducible exact KEEP.out wq3 hk3 | with_reducible exact KEEP.out wq2 hk2 | with_reducible exact KEEP.out wq1 hk1 | with_reducible exact KEEP.out wb.drew hdrew | with_reducible exact KEEP3.out wq3 _ _ _ hk3 | go_keep)
    (first
      | (go_at_call 146; (with_reducible refine (refTimesN (H1.out.below hdrew) (H3.out.below hdrew) (lt_NL L.out.1 (by have := L.out.2.2.2.2; omega)) (lt_NL L.out.2.2.1 (by have := L.out.2.2.2.2; omega))).mono ?_); rintro _ wq1 ⟨x1, rfl, hx1, hb1⟩; have hk1 := hdrew.trans (hb1.mono hdrew.size); obtain ⟨X1, m1, e1, rfl⟩ := hx1.shape; have HX1 := Lib.hid hx1; clear hx1)
      | (go_at_call 146; (with_reducible refine (refTimesN (H2.out.below hk1) (H4.out.below hk1) (lt_NL L.out.2.1 (by have := L.out.2.2.2.2; omega)) (lt_NL L.out.2.2.2.1 (by have := L.out.2.2.2.2; omega))).mono ?_); rintro _ wq2 ⟨x2, rfl, hx2, hb2⟩; have hk2 := hk1.trans (hb2.mono hk1.size); obtain ⟨X2, m2, e2, rfl⟩ := hx2.shape; have HX2 := Lib.hid hx2; clear hx2)
      | (go_at_call 88; (with_reducible refine (refLowestQ _ (HX1.out.below hb2) HX2.out LN.out LD.out LZ.out).mono ?_); rintro _ wq3 ⟨xL, rfl, hxL, hb3⟩; have hk3 := hk2.trans (hb3.mono hk2.size); have hxM := hxL; obtain ⟨bL, AL, nL, cL, AL', nL', cL', rfl, _, _, _⟩ := hxL.get; have HXL := Lib.hid hxM; clear hxL hxM; have hzz : w.heap.size + 1 + 1 < wq3.heap.size := (KP3.out.after hk3).lt; have d0 := (KP3.out.after hk3).cell (i := 0) rfl; have d1 := (KP3.out.after hk3).cell (i := 1) rfl; have d2 := (KP3.out.after hk3).cell (i := 2) rfl; have ff := (KP3.out.after hk3).free))
  replace HXL := Lib.hid (HXL.out.cast EQ.out)
  have KK := KP3.out.after hk3
  have hbc := HB.out.trans (hk3.mono HB.out.size)
  go_wp2_with fail
  refine bodyPost_ret (results_cell_row (p := 4) (ty := 25) rfl _ _ (w.heap.size + 1 + 1) 25 _ _ _ rfl KK.set.set.set Tryz.underlying25 rfl (by kernel_rfl)) rfl ?_
  obtain ⟨g1, g2, g3⟩ := HXL.out.inv
  exact ⟨_, rfl, Rq.mk g3 rfl rfl (g1.put3 KK (hnoR _ _ _ _ _ _ _)) (g2.put3 KK (hnoR _ _ _ _ _ _ _)), ((hbc.setCell (by simp; omega) _).setCell (by simp; omega) _).setCell (by simp; omega) _⟩

end Go.Proofs.YtbjaolmlnkliiaaGreatDoor

/- The contracts of the reference's functions on rational numbers. Conditions as premises: the numbers read, and are short enough. -/
namespace Go.Proofs.YtbjaolmlnkliiaaGreatDoor
open Go.RowKit Go.Shelf
attribute [local go_sem ↓] Go.wp_at_zero Go.wp_at_succ


set_option maxRecDepth 100000 in
set_option maxHeartbeats 8000000 in
theorem refMinusQ {w : World} {a : Rat} {v : Value} (ha : Rq w a v) :
    Calls Tryz.prog 72 #[v] w fun e w' => ∃ x, e = .returned x ∧ (∀ W, Rq W a v → Rq W (-a) x) ∧ Below w.heap.size w w' := by
  obtain ⟨b1, A1, n1, c1, A1', n1', c1', rfl, h1, h2, e1⟩ := ha.get
  have hbb := below2 w (.cells #[.bool b1, .slice A1 n1 c1, .slice A1' n1' c1'] 25) (.cells #[.bool false, .slice none 0 0, .slice none 0 0] 25)
  have k1 := (Blk.new w #[.bool b1, .slice A1 n1 c1, .slice A1' n1' c1'] 25).alloc (.cells #[.bool false, .slice none 0 0, .slice none 0 0] 25)
  have k2 := Blk.new (w.alloc (.cells #[.bool b1, .slice A1 n1 c1, .slice A1' n1' c1'] 25)) #[.bool false, .slice none 0 0, .slice none 0 0] 25
  simp only [World.size_alloc] at k2
  have HB := Lib.hid hbb
  have K1 := Lib.hid k1
  have K2 := Lib.hid k2
  have hn := h1.nz
  have E1 : Hid (∀ b, b = decide ((-a).num < 0) → ∀ W, Rq W a (.agg #[.bool b1, .slice A1 n1 c1, .slice A1' n1' c1']) → Rq W (-a) (.agg #[.bool b, .slice A1 n1 c1, .slice A1' n1' c1'])) := Lib.hid fun b hb W hW => by
    obtain ⟨g1, g2, _⟩ := hW.inv
    exact Rq.mk hb (by rw [Rat.neg_num, Int.natAbs_neg]) rfl g1 g2
  have E2 : Hid (decide ((-a).num < 0) = (!b1 && decide (0 < a.num.natAbs))) := Lib.hid (by rw [e1.out]; exact minus_neg a)
  have d0 := k1.cell (i := 0) rfl
  have d1 := k1.cell (i := 1) rfl
  have d2 := k1.cell (i := 2) rfl
  have f0 := k1.free
  have x0 := k2.cell (i := 0) rfl
  have x1 := k2.cell (i := 1) rfl
  have x2 := k2.cell (i := 2) rfl
  have f1 := k2.free
  clear ha h1 h2 k1 k2 hbb e1
  rcases b1 with _ | _
  · by_cases h0 : n1 = 0
    · have h3 := hn.1 h0
      subst h0
      have E3 : Hid (false = decide ((-a).num < 0)) := Lib.hid (by rw [E2.out, h3]; rfl)
      clear hn h3
      go_enter Tryz.func72, Tryz.ntmps72
      go_wp2_with fail
      refine bodyPost_ret (results_cell_row (p := 2) (ty := 25) rfl _ _ (w.heap.size + 1) 25 _ _ _ rfl (heap_alloc2_new _ _ _) Tryz.underlying25 rfl (by kernel_rfl)) rfl ?_
      exact ⟨_, rfl, E1.out _ E3.out, below2 w _ _⟩
    · have E3 : Hid (true = decide ((-a).num < 0)) := Lib.hid (by rw [E2.out, decide_eq_true (show 0 < a.num.natAbs by omega)]; rfl)
      have hp : (0 : Int) < (n1 : Int) := by omega
      clear hn h0
      go_enter Tryz.func72, Tryz.ntmps72
      go_wp2_with fail
      refine bodyPost_ret (results_cell_row (p := 2) (ty := 25) rfl _ _ (w.heap.size + 1) 25 _ _ _ rfl (heap_alloc2_new _ _ _) Tryz.underlying25 rfl (by kernel_rfl)) rfl ?_
      exact ⟨_, rfl, E1.out _ (Eq.trans (by simp <;> omega) E3.out), below2 w _ _⟩
  · have E3 : Hid (false = decide ((-a).num < 0)) := Lib.hid (by rw [E2.out]; rfl)
    clear hn
    go_enter Tryz.func72, Tryz.ntmps72
    go_wp2_with fail
    refine bodyPost_ret (results_cell_row (p := 2) (ty := 25) rfl _ _ (w.heap.size + 1) 25 _ _ _ rfl (heap_alloc2_new _ _ _) Tryz.underlying25 rfl (by kernel_rfl)) rfl ?_
    exact ⟨_, rfl, E1.out _ E3.out, below2 w _ _⟩

end Go.Proofs.YtbjaolmlnkliiaaGreatDoor

/- The contracts of the reference's functions on rational numbers. Conditions as premises: the numbers read, and are short enough. -/
namespace Go.Proofs.YtbjaolmlnkliiaaGreatDoor
open Go.RowKit Go.Shelf
attribute [local go_sem ↓] Go.wp_at_zero Go.wp_at_succ


set_option maxRecDepth 100000 in
set_option maxHeartbeats 8000000 in
theorem refPlusQ {w : World} {i j : Nat} {a b : Rat} {v u : Value} (ha : Rq w a v) (hb : Rq w b u) (sa : Sz i a) (sb : Sz j b) (hij : i + j ≤ 1023) :
    Calls Tryz.prog 68 #[v, u] w fun e w' => ∃ t, e = .returned t ∧ Rq w' (a + b) t ∧ Below w.heap.size w w' := by
  obtain ⟨b1, A1, n1, c1, A1', n1', c1', rfl, h1, h2, e1⟩ := ha.get
  obtain ⟨b2, A2, n2, c2, A2', n2', c2', rfl, h3, h4, e2⟩ := hb.get
  have hbb : Below w.heap.size w (((w.alloc (.cells #[.bool b1, .slice A1 n1 c1, .slice A1' n1' c1'] 25)).alloc (.cells #[.bool b2, .slice A2 n2 c2, .slice A2' n2' c2'] 25)).alloc (.cells #[.bool false, .slice none 0 0, .slice none 0 0] 25)) := (below2 w _ _).alloc (by simp; omega) _
  have k1 := ((Blk.new w #[.bool b1, .slice A1 n1 c1, .slice A1' n1' c1'] 25).alloc (.cells #[.bool b2, .slice A2 n2 c2, .slice A2' n2' c2'] 25)).alloc (.cells #[.bool false, .slice none 0 0, .slice none 0 0] 25)
  have k2 := (Blk.new (w.alloc (.cells #[.bool b1, .slice A1 n1 c1, .slice A1' n1' c1'] 25)) #[.bool b2, .slice A2 n2 c2, .slice A2' n2' c2'] 25).alloc (.cells #[.bool false, .slice none 0 0, .slice none 0 0] 25)
  have k3 := Blk.new ((w.alloc (.cells #[.bool b1, .slice A1 n1 c1, .slice A1' n1' c1'] 25)).alloc (.cells #[.bool b2, .slice A2 n2 c2, .slice A2' n2' c2'] 25)) #[.bool false, .slice none 0 0, .slice none 0 0] 25
  simp only [World.size_alloc] at k2 k3
  have H1 := Lib.hid (h1.below hbb)
  have H2 := Lib.hid (h2.below hbb)
  have H3 := Lib.hid (h3.below hbb)
  have H4 := Lib.hid (h4.below hbb)
  have HB := Lib.hid hbb
  have KP1 := Lib.hid k1
  have KP2 := Lib.hid k2
  have KP3 := Lib.hid k3
  clear ha hb h1 h2 h3 h4 hbb k1 k2 k3
  have L : Hid (a.num.natAbs < LB ^ i ∧ a.den < LB ^ i ∧ b.num.natAbs < LB ^ j ∧ b.den < LB ^ j ∧ i + j ≤ 1023) := Lib.hid ⟨sa.1, sa.2, sb.1, sb.2, hij⟩
  clear sa sb hij
  go_enter Tryz.func68, Tryz.ntmps68
  go_upto_region 1 with fail
  generalize (((w.alloc (.cells #[.bool b1, .slice A1 n1 c1, .slice A1' n1' c1'] 25)).alloc (.cells #[.bool b2, .slice A2 n2 c2, .slice A2' n2' c2'] 25)).alloc (.cells #[.bool false, .slice none 0 0, .slice none 0 0] 25)) = wb at *
  have LX : Hid (a.num.natAbs * b.den < LB ^ (i + j)) := Lib.hid (mul_lt L.out.1 L.out.2.2.2.1)
  have LY : Hid (b.num.natAbs * a.den < LB ^ (i + j)) := Lib.hid (by have := mul_lt L.out.2.2.1 L.out.2.1; rwa [Nat.add_comm] at this)
  have LD : Hid (a.den * b.den < LB ^ NL) := Lib.hid (lt_NL (mul_lt L.out.2.1 L.out.2.2.2.1) (by have := L.out.2.2.2.2; omega))
  have LZ : Hid (a.den * b.den ≠ 0) := Lib.hid (Nat.mul_ne_zero a.den_nz b.den_nz)
  have E1 : Hid (b1 = b2 → mkRat (sn b1 (a.num.natAbs * b.den + b.num.natAbs * a.den)) (a.den * b.den) = a + b) := Lib.hid fun h => by
    rw [e1.out, e2.out] at h; rw [e1.out]; exact plus_same a b h
  have E2 : Hid (b1 ≠ b2 → b.num.natAbs * a.den ≤ a.num.natAbs * b.den → mkRat (sn b1 (a.num.natAbs * b.den - b.num.natAbs * a.den)) (a.den * b.den) = a + b) := Lib.hid fun h k => by
    rw [e1.out, e2.out] at h; rw [e1.out]; exact plus_ge a b h k
  have E3 : Hid (b1 ≠ b2 → a.num.natAbs * b.den ≤ b.num.natAbs * a.den → mkRat (sn b2 (b.num.natAbs * a.den - a.num.natAbs * b.den)) (a.den * b.den) = a + b) := Lib.hid fun h k => by
    rw [e1.out, e2.out] at h; rw [e2.out]; exact plus_lt a b h k
  clear e1 e2
  have KEEP : Hid (∀ W, Below wb.heap.size wb W → (W.cell? ⟨w.heap.size, 0, none⟩ = some (.bool b1) ∧ W.cell? ⟨w.heap.size, 1, none⟩ = some (.slice A1 n1 c1) ∧ W.cell? ⟨w.heap.size, 2, none⟩ = some (.slice A1' n1' c1') ∧ W.cell? ⟨w.heap.size + 1, 0, none⟩ = some (.bool b2) ∧ W.cell? ⟨w.heap.size + 1, 1, none⟩ = some (.slice A2 n2 c2) ∧ W.cell? ⟨w.heap.size + 1, 2, none⟩ = some (.slice A2' n2' c2'))) := Lib.hid fun W h1 => ⟨(KP1.out.after h1).cell rfl, (KP1.out.after h1).cell rfl, (KP1.out.after h1).cell rfl, (KP2.out.after h1).cell rfl, (KP2.out.after h1).cell rfl, (KP2.out.after h1).cell rfl⟩
  have hdrew : Below wb.heap.size wb wb.drew := (Below.refl _ _).drew
  go_region_held3 (fun W => W.cell? ⟨w.heap.size, 0, none⟩ = some (.bool b1) ∧ W.cell? ⟨w.heap.size, 1, none⟩ = some (.slice A1 n1 c1) ∧ W.cell? ⟨w.heap.size, 2, none⟩ = some (.slice A1' n1' c1') ∧ W.cell? ⟨w.heap.size + 1, 0, none⟩ = some (.bool b2) ∧ W.cell? ⟨w.heap.size + 1, 1, none⟩ = some (.slice A2 n2 c2) ∧ W.cell? ⟨w.heap.size + 1, 2, none⟩ = some (.slice A2' n2' c2'))
    (first | with_reducible exact KEEP.out wq3 hk3 | with_reducible exact KEEP.out wq2 hk2 | with_reducible exact KEEP.out wq1 hk1 | with_reducible exact KEEP.out wb.drew hdrew | go_keep)
    (first
      | (go_at_call 146; (with_reducible refine (refTimesN (H1.out.below hdrew) (H4.out.below hdrew) (lt_NL L.out.1 (by have := L.out.2.2.2.2; omega)) (lt_NL L.out.2.2.2.1 (by have := L.out.2.2.2.2; omega))).mono ?_); rintro _ wq1 ⟨x1, rfl, hx1, hb1⟩; have hk1 := hdrew.trans (hb1.mono hdrew.size); obtain ⟨X1, m1, e1, rfl⟩ := hx1.shape; have HX1 := Lib.hid hx1; clear hx1)
      | (go_at_call 146; (with_reducible refine (refTimesN (H3.out.below hk1) (H2.out.below hk1) (lt_NL L.out.2.2.1 (by have := L.out.2.2.2.2; omega)) (lt_NL L.out.2.1 (by have := L.out.2.2.2.2; omega))).mono ?_); rintro _ wq2 ⟨x2, rfl, hx2, hb2⟩; have hk2 := hk1.trans (hb2.mono hk1.size); obtain ⟨X2, m2, e2, rfl⟩ := hx2.shape; have HX2 := Lib.hid hx2; clear hx2)
      | (go_at_call 146; (with_reducible refine (refTimesN (H2.out.below hk2) (H4.out.below hk2) (lt_NL L.out.2.1 (by have := L.out.2.2.2.2; omega)) (lt_NL L.out.2.2.2.1 (by have := L.out.2.2.2.2; omega))).mono ?_); rintro _ wq3 ⟨x3, rfl, hx3, hb3⟩; have hk3 := hk2.trans (hb3.mono hk2.size); obtain ⟨X3, m3, e3, rfl⟩ := hx3.shape; have HX3 := Lib.hid hx3; clear hx3))
  have X1' := Lib.hid ((HX1.out.below hb2).below hb3)
  have X2' := Lib.hid (HX2.out.below hb3)
  have X3' := HX3
  replace HB := Lib.hid (HB.out.trans (hk3.mono HB.out.size))
  replace KP1 := Lib.hid (KP1.out.after hk3)
  replace KP2 := Lib.hid (KP2.out.after hk3)
  replace KP3 := Lib.hid (KP3.out.after hk3)
  clear KEEP hdrew hk1 hk2 hk3 hb1 hb2 hb3 HX1 HX2 HX3 H1 H2 H3 H4
  have d10 := KP1.out.cell (i := 0) rfl
  have d20 := KP2.out.cell (i := 0) rfl

  by_cases hs : b1 = b2
  · have hs' : (b1 == b2) = true := by rw [beq_iff_eq]; exact hs
    have F1 := Lib.hid (E1.out hs)
    clear hs
    clear E1 E2 E3
    go_upto_region 3 with fail
    generalize wq3 = w3 at *
    clear d10 d20
    have KEEP : Hid (∀ W, Below w3.heap.size w3 W → (W.cell? ⟨w.heap.size, 0, none⟩ = some (.bool b1) ∧ W.cell? ⟨w.heap.size, 1, none⟩ = some (.slice A1 n1 c1) ∧ W.cell? ⟨w.heap.size, 2, none⟩ = some (.slice A1' n1' c1') ∧ W.cell? ⟨w.heap.size + 1, 0, none⟩ = some (.bool b2) ∧ W.cell? ⟨w.heap.size + 1, 1, none⟩ = some (.slice A2 n2 c2) ∧ W.cell? ⟨w.heap.size + 1, 2, none⟩ = some (.slice A2' n2' c2'))) := Lib.hid fun W h1 => ⟨(KP1.out.after h1).cell rfl, (KP1.out.after h1).cell rfl, (KP1.out.after h1).cell rfl, (KP2.out.after h1).cell rfl, (KP2.out.after h1).cell rfl, (KP2.out.after h1).cell rfl⟩
    have KEEP3 : Hid (∀ W u v x, Below w3.heap.size w3 W → ((((W.setCell ⟨w.heap.size + 1 + 1, 0, none⟩ u).setCell ⟨w.heap.size + 1 + 1, 1, none⟩ v).setCell ⟨w.heap.size + 1 + 1, 2, none⟩ x).cell? ⟨w.heap.size, 0, none⟩ = some (.bool b1) ∧ (((W.setCell ⟨w.heap.size + 1 + 1, 0, none⟩ u).setCell ⟨w.heap.size + 1 + 1, 1, none⟩ v).setCell ⟨w.heap.size + 1 + 1, 2, none⟩ x).cell? ⟨w.heap.size, 1, none⟩ = some (.slice A1 n1 c1) ∧ (((W.setCell ⟨w.heap.size + 1 + 1, 0, none⟩ u).setCell ⟨w.heap.size + 1 + 1, 1, none⟩ v).setCell ⟨w.heap.size + 1 + 1, 2, none⟩ x).cell? ⟨w.heap.size, 2, none⟩ = some (.slice A1' n1' c1') ∧ (((W.setCell ⟨w.heap.size + 1 + 1, 0, none⟩ u).setCell ⟨w.heap.size + 1 + 1, 1, none⟩ v).setCell ⟨w.heap.size + 1 + 1, 2, none⟩ x).cell? ⟨w.heap.size + 1, 0, none⟩ = some (.bool b2) ∧ (((W.setCell ⟨w.heap.size + 1 + 1, 0, none⟩ u).setCell ⟨w.heap.size + 1 + 1, 1, none⟩ v).setCell ⟨w.heap.size + 1 + 1, 2, none⟩ x).cell? ⟨w.heap.size + 1, 1, none⟩ = some (.slice A2 n2 c2) ∧ (((W.setCell ⟨w.heap.size + 1 + 1, 0, none⟩ u).setCell ⟨w.heap.size + 1 + 1, 1, none⟩ v).setCell ⟨w.heap.size + 1 + 1, 2, none⟩ x).cell? ⟨w.heap.size + 1, 2, none⟩ = some (.slice A2' n2' c2'))) := Lib.hid fun W u v x h1 => ⟨(((KP1.out.after h1).other3 (by omega) u v x)).cell rfl, (((KP1.out.after h1).other3 (by omega) u v x)).cell rfl, (((KP1.out.after h1).other3 (by omega) u v x)).cell rfl, (((KP2.out.after h1).other3 (by omega) u v x)).cell rfl, (((KP2.out.after h1).other3 (by omega) u v x)).cell rfl, (((KP2.out.after h1).other3 (by omega) u v x)).cell rfl⟩
    have hdrew : Below w3.heap.size w3 w3.drew := (Below.refl _ _).drew
    go_region_held3 (fun W => W.cell? ⟨w.heap.size, 0, none⟩ = some (.bool b1) ∧ W.cell? ⟨w.heap.size, 1, none⟩ = some (.slice A1 n1 c1) ∧ W.cell? ⟨w.heap.size, 2, none⟩ = some (.slice A1' n1' c1') ∧ W.cell? ⟨w.heap.size + 1, 0, none⟩ = some (.bool b2) ∧ W.cell? ⟨w.heap.size + 1, 1, none⟩ = some (.slice A2 n2 c2) ∧ W.cell? ⟨w.heap.size + 1, 2, none⟩ = some (.slice A2' n2' c2'))
      (first | with_reducible exact KEEP.out wq2 hk2 | with_reducible exact KEEP.out wq1 hk1 | with_reducible exact KEEP.out w3.drew hdrew | with_reducible exact KEEP3.out wq2 _ _ _ hk2 | go_keep)
      (first
        | (go_at_call 147; (with_reducible refine (refPlusN (X1'.out.below hdrew) (X2'.out.below hdrew) (lt_NL LX.out (by have := L.out.2.2.2.2; omega)) (lt_NL LY.out (by have := L.out.2.2.2.2; omega))).mono ?_); rintro _ wq1 ⟨x7, rfl, hx7, hb1⟩; have hk1 := hdrew.trans (hb1.mono hdrew.size); obtain ⟨X7, m7, e7, rfl⟩ := hx7.shape; have HX7 := Lib.hid hx7; clear hx7)
        | (go_at_call 88; (with_reducible refine (refLowestQ _ HX7.out (X3'.out.below hk1) (lt_NL (add_lt LX.out LY.out) (by have := L.out.2.2.2.2; omega)) LD.out LZ.out).mono ?_); rintro _ wq2 ⟨xL, rfl, hxL, hb2⟩; have hk2 := hk1.trans (hb2.mono hk1.size); have hxM := hxL; obtain ⟨bL, AL, nL, cL, AL', nL', cL', rfl, _, _, _⟩ := hxL.get; have HXL := Lib.hid hxM; clear hxL hxM; have hzz : w.heap.size + 1 + 1 < wq2.heap.size := (KP3.out.after hk2).lt; have d0 := (KP3.out.after hk2).cell (i := 0) rfl; have d1 := (KP3.out.after hk2).cell (i := 1) rfl; have d2 := (KP3.out.after hk2).cell (i := 2) rfl; have ff := (KP3.out.after hk2).free))
    replace HXL := Lib.hid (HXL.out.cast (F1.out))
    have KK := KP3.out.after hk2
    have hbc := HB.out.trans (hk2.mono HB.out.size)
    go_wp2_with fail
    refine bodyPost_ret (results_cell_row (p := 4) (ty := 25) rfl _ _ (w.heap.size + 1 + 1) 25 _ _ _ rfl KK.set.set.set Tryz.underlying25 rfl (by kernel_rfl)) rfl ?_
    obtain ⟨g1, g2, g3⟩ := HXL.out.inv
    exact ⟨_, rfl, Rq.mk g3 rfl rfl (g1.put3 KK (hnoR _ _ _ _ _ _ _)) (g2.put3 KK (hnoR _ _ _ _ _ _ _)), ((hbc.setCell (by simp; omega) _).setCell (by simp; omega) _).setCell (by simp; omega) _⟩
  · have F2 := Lib.hid (E2.out hs)
    have F3 := Lib.hid (E3.out hs)
    have hs' : (b1 == b2) = false := by rw [beq_eq_false_iff_ne]; exact hs
    clear E1 E2 E3 hs
    go_wp2_with fail
    refine (refOrderN X1'.out X2'.out).mono ?_
    rintro _ w3 ⟨rfl, hb⟩
    replace HB := Lib.hid (HB.out.trans (hb.mono HB.out.size))
    replace KP1 := Lib.hid (KP1.out.after hb)
    replace KP2 := Lib.hid (KP2.out.after hb)
    replace KP3 := Lib.hid (KP3.out.after hb)
    replace X1' := Lib.hid (X1'.out.below hb)
    replace X2' := Lib.hid (X2'.out.below hb)
    replace X3' := Lib.hid (X3'.out.below hb)
    clear hb d10 d20
    by_cases hle : b.num.natAbs * a.den ≤ a.num.natAbs * b.den
    · have hc := cn_ge hle
      generalize cn (a.num.natAbs * b.den) (b.num.natAbs * a.den) = C at *
      go_upto_region 5 with fail
      have HLE := Lib.hid hle
      clear hc hle
      have KEEP : Hid (∀ W, Below w3.heap.size w3 W → (W.cell? ⟨w.heap.size, 0, none⟩ = some (.bool b1) ∧ W.cell? ⟨w.heap.size, 1, none⟩ = some (.slice A1 n1 c1) ∧ W.cell? ⟨w.heap.size, 2, none⟩ = some (.slice A1' n1' c1') ∧ W.cell? ⟨w.heap.size + 1, 0, none⟩ = some (.bool b2) ∧ W.cell? ⟨w.heap.size + 1, 1, none⟩ = some (.slice A2 n2 c2) ∧ W.cell? ⟨w.heap.size + 1, 2, none⟩ = some (.slice A2' n2' c2'))) := Lib.hid fun W h1 => ⟨(KP1.out.after h1).cell rfl, (KP1.out.after h1).cell rfl, (KP1.out.after h1).cell rfl, (KP2.out.after h1).cell rfl, (KP2.out.after h1).cell rfl, (KP2.out.after h1).cell rfl⟩
      have KEEP3 : Hid (∀ W u v x, Below w3.heap.size w3 W → ((((W.setCell ⟨w.heap.size + 1 + 1, 0, none⟩ u).setCell ⟨w.heap.size + 1 + 1, 1, none⟩ v).setCell ⟨w.heap.size + 1 + 1, 2, none⟩ x).cell? ⟨w.heap.size, 0, none⟩ = some (.bool b1) ∧ (((W.setCell ⟨w.heap.size + 1 + 1, 0, none⟩ u).setCell ⟨w.heap.size + 1 + 1, 1, none⟩ v).setCell ⟨w.heap.size + 1 + 1, 2, none⟩ x).cell? ⟨w.heap.size, 1, none⟩ = some (.slice A1 n1 c1) ∧ (((W.setCell ⟨w.heap.size + 1 + 1, 0, none⟩ u).setCell ⟨w.heap.size + 1 + 1, 1, none⟩ v).setCell ⟨w.heap.size + 1 + 1, 2, none⟩ x).cell? ⟨w.heap.size, 2, none⟩ = some (.slice A1' n1' c1') ∧ (((W.setCell ⟨w.heap.size + 1 + 1, 0, none⟩ u).setCell ⟨w.heap.size + 1 + 1, 1, none⟩ v).setCell ⟨w.heap.size + 1 + 1, 2, none⟩ x).cell? ⟨w.heap.size + 1, 0, none⟩ = some (.bool b2) ∧ (((W.setCell ⟨w.heap.size + 1 + 1, 0, none⟩ u).setCell ⟨w.heap.size + 1 + 1, 1, none⟩ v).setCell ⟨w.heap.size + 1 + 1, 2, none⟩ x).cell? ⟨w.heap.size + 1, 1, none⟩ = some (.slice A2 n2 c2) ∧ (((W.setCell ⟨w.heap.size + 1 + 1, 0, none⟩ u).setCell ⟨w.heap.size + 1 + 1, 1, none⟩ v).setCell ⟨w.heap.size + 1 + 1, 2, none⟩ x).cell? ⟨w.heap.size + 1, 2, none⟩ = some (.slice A2' n2' c2'))) := Lib.hid fun W u v x h1 => ⟨(((KP1.out.after h1).other3 (by omega) u v x)).cell rfl, (((KP1.out.after h1).other3 (by omega) u v x)).cell rfl, (((KP1.out.after h1).other3 (by omega) u v x)).cell rfl, (((KP2.out.after h1).other3 (by omega) u v x)).cell rfl, (((KP2.out.after h1).other3 (by omega) u v x)).cell rfl, (((KP2.out.after h1).other3 (by omega) u v x)).cell rfl⟩
      have hdrew : Below w3.heap.size w3 w3.drew := (Below.refl _ _).drew
      go_region_held3 (fun W => W.cell? ⟨w.heap.size, 0, none⟩ = some (.bool b1) ∧ W.cell? ⟨w.heap.size, 1, none⟩ = some (.slice A1 n1 c1) ∧ W.cell? ⟨w.heap.size, 2, none⟩ = some (.slice A1' n1' c1') ∧ W.cell? ⟨w.heap.size + 1, 0, none⟩ = some (.bool b2) ∧ W.cell? ⟨w.heap.size + 1, 1, none⟩ = some (.slice A2 n2 c2) ∧ W.cell? ⟨w.heap.size + 1, 2, none⟩ = some (.slice A2' n2' c2'))
        (first | with_reducible exact KEEP.out wq2 hk2 | with_reducible exact KEEP.out wq1 hk1 | with_reducible exact KEEP.out w3.drew hdrew | with_reducible exact KEEP3.out wq2 _ _ _ hk2 | go_keep)
        (first
          | (go_at_call 148; (with_reducible refine (refMinusN (X1'.out.below hdrew) (X2'.out.below hdrew) (lt_NL LX.out (by have := L.out.2.2.2.2; omega)) HLE.out).mono ?_); rintro _ wq1 ⟨x7, rfl, hx7, hb1⟩; have hk1 := hdrew.trans (hb1.mono hdrew.size); obtain ⟨X7, m7, e7, rfl⟩ := hx7.shape; have HX7 := Lib.hid hx7; clear hx7)
          | (go_at_call 88; (with_reducible refine (refLowestQ _ HX7.out (X3'.out.below hk1) (lt_NL (Nat.lt_of_le_of_lt (Nat.sub_le _ _) LX.out) (by have := L.out.2.2.2.2; omega)) LD.out LZ.out).mono ?_); rintro _ wq2 ⟨xL, rfl, hxL, hb2⟩; have hk2 := hk1.trans (hb2.mono hk1.size); have hxM := hxL; obtain ⟨bL, AL, nL, cL, AL', nL', cL', rfl, _, _, _⟩ := hxL.get; have HXL := Lib.hid hxM; clear hxL hxM; have hzz : w.heap.size + 1 + 1 < wq2.heap.size := (KP3.out.after hk2).lt; have d0 := (KP3.out.after hk2).cell (i := 0) rfl; have d1 := (KP3.out.after hk2).cell (i := 1) rfl; have d2 := (KP3.out.after hk2).cell (i := 2) rfl; have ff := (KP3.out.after hk2).free))
      replace HXL := Lib.hid (HXL.out.cast (F2.out HLE.out))
      have KK := KP3.out.after hk2
      have hbc := HB.out.trans (hk2.mono HB.out.size)
      go_wp2_with fail
      refine bodyPost_ret (results_cell_row (p := 4) (ty := 25) rfl _ _ (w.heap.size + 1 + 1) 25 _ _ _ rfl KK.set.set.set Tryz.underlying25 rfl (by kernel_rfl)) rfl ?_
      obtain ⟨g1, g2, g3⟩ := HXL.out.inv
      exact ⟨_, rfl, Rq.mk g3 rfl rfl (g1.put3 KK (hnoR _ _ _ _ _ _ _)) (g2.put3 KK (hnoR _ _ _ _ _ _ _)), ((hbc.setCell (by simp; omega) _).setCell (by simp; omega) _).setCell (by simp; omega) _⟩
    · have hc := cn_lt' hle
      generalize cn (a.num.natAbs * b.den) (b.num.natAbs * a.den) = C at *
      go_upto_region 6 with fail
      have HLE := Lib.hid hle
      clear hc hle
      have KEEP : Hid (∀ W, Below w3.heap.size w3 W → (W.cell? ⟨w.heap.size, 0, none⟩ = some (.bool b1) ∧ W.cell? ⟨w.heap.size, 1, none⟩ = some (.slice A1 n1 c1) ∧ W.cell? ⟨w.heap.size, 2, none⟩ = some (.slice A1' n1' c1') ∧ W.cell? ⟨w.heap.size + 1, 0, none⟩ = some (.bool b2) ∧ W.cell? ⟨w.heap.size + 1, 1, none⟩ = some (.slice A2 n2 c2) ∧ W.cell? ⟨w.heap.size + 1, 2, none⟩ = some (.slice A2' n2' c2'))) := Lib.hid fun W h1 => ⟨(KP1.out.after h1).cell rfl, (KP1.out.after h1).cell rfl, (KP1.out.after h1).cell rfl, (KP2.out.after h1).cell rfl, (KP2.out.after h1).cell rfl, (KP2.out.after h1).cell rfl⟩
      have KEEP3 : Hid (∀ W u v x, Below w3.heap.size w3 W → ((((W.setCell ⟨w.heap.size + 1 + 1, 0, none⟩ u).setCell ⟨w.heap.size + 1 + 1, 1, none⟩ v).setCell ⟨w.heap.size + 1 + 1, 2, none⟩ x).cell? ⟨w.heap.size, 0, none⟩ = some (.bool b1) ∧ (((W.setCell ⟨w.heap.size + 1 + 1, 0, none⟩ u).setCell ⟨w.heap.size + 1 + 1, 1, none⟩ v).setCell ⟨w.heap.size + 1 + 1, 2, none⟩ x).cell? ⟨w.heap.size, 1, none⟩ = some (.slice A1 n1 c1) ∧ (((W.setCell ⟨w.heap.size + 1 + 1, 0, none⟩ u).setCell ⟨w.heap.size + 1 + 1, 1, none⟩ v).setCell ⟨w.heap.size + 1 + 1, 2, none⟩ x).cell? ⟨w.heap.size, 2, none⟩ = some (.slice A1' n1' c1') ∧ (((W.setCell ⟨w.heap.size + 1 + 1, 0, none⟩ u).setCell ⟨w.heap.size + 1 + 1, 1, none⟩ v).setCell ⟨w.heap.size + 1 + 1, 2, none⟩ x).cell? ⟨w.heap.size + 1, 0, none⟩ = some (.bool b2) ∧ (((W.setCell ⟨w.heap.size + 1 + 1, 0, none⟩ u).setCell ⟨w.heap.size + 1 + 1, 1, none⟩ v).setCell ⟨w.heap.size + 1 + 1, 2, none⟩ x).cell? ⟨w.heap.size + 1, 1, none⟩ = some (.slice A2 n2 c2) ∧ (((W.setCell ⟨w.heap.size + 1 + 1, 0, none⟩ u).setCell ⟨w.heap.size + 1 + 1, 1, none⟩ v).setCell ⟨w.heap.size + 1 + 1, 2, none⟩ x).cell? ⟨w.heap.size + 1, 2, none⟩ = some (.slice A2' n2' c2'))) := Lib.hid fun W u v x h1 => ⟨(((KP1.out.after h1).other3 (by omega) u v x)).cell rfl, (((KP1.out.after h1).other3 (by omega) u v x)).cell rfl, (((KP1.out.after h1).other3 (by omega) u v x)).cell rfl, (((KP2.out.after h1).other3 (by omega) u v x)).cell rfl, (((KP2.out.after h1).other3 (by omega) u v x)).cell rfl, (((KP2.out.after h1).other3 (by omega) u v x)).cell rfl⟩
      have hdrew : Below w3.heap.size w3 w3.drew := (Below.refl _ _).drew
      go_region_held3 (fun W => W.cell? ⟨w.heap.size, 0, none⟩ = some (.bool b1) ∧ W.cell? ⟨w.heap.size, 1, none⟩ = some (.slice A1 n1 c1) ∧ W.cell? ⟨w.heap.size, 2, none⟩ = some (.slice A1' n1' c1') ∧ W.cell? ⟨w.heap.size + 1, 0, none⟩ = some (.bool b2) ∧ W.cell? ⟨w.heap.size + 1, 1, none⟩ = some (.slice A2 n2 c2) ∧ W.cell? ⟨w.heap.size + 1, 2, none⟩ = some (.slice A2' n2' c2'))
        (first | with_reducible exact KEEP.out wq2 hk2 | with_reducible exact KEEP.out wq1 hk1 | with_reducible exact KEEP.out w3.drew hdrew | with_reducible exact KEEP3.out wq2 _ _ _ hk2 | go_keep)
        (first
          | (go_at_call 148; (with_reducible refine (refMinusN (X2'.out.below hdrew) (X1'.out.below hdrew) (lt_NL LY.out (by have := L.out.2.2.2.2; omega)) (by have := HLE.out; omega)).mono ?_); rintro _ wq1 ⟨x7, rfl, hx7, hb1⟩; have hk1 := hdrew.trans (hb1.mono hdrew.size); obtain ⟨X7, m7, e7, rfl⟩ := hx7.shape; have HX7 := Lib.hid hx7; clear hx7)
          | (go_at_call 88; (with_reducible refine (refLowestQ _ HX7.out (X3'.out.below hk1) (lt_NL (Nat.lt_of_le_of_lt (Nat.sub_le _ _) LY.out) (by have := L.out.2.2.2.2; omega)) LD.out LZ.out).mono ?_); rintro _ wq2 ⟨xL, rfl, hxL, hb2⟩; have hk2 := hk1.trans (hb2.mono hk1.size); have hxM := hxL; obtain ⟨bL, AL, nL, cL, AL', nL', cL', rfl, _, _, _⟩ := hxL.get; have HXL := Lib.hid hxM; clear hxL hxM; have hzz : w.heap.size + 1 + 1 < wq2.heap.size := (KP3.out.after hk2).lt; have d0 := (KP3.out.after hk2).cell (i := 0) rfl; have d1 := (KP3.out.after hk2).cell (i := 1) rfl; have d2 := (KP3.out.after hk2).cell (i := 2) rfl; have ff := (KP3.out.after hk2).free))
      replace HXL := Lib.hid (HXL.out.cast (F3.out (by have := HLE.out; omega)))
      have KK := KP3.out.after hk2
      have hbc := HB.out.trans (hk2.mono HB.out.size)
      go_wp2_with fail
      refine bodyPost_ret (results_cell_row (p := 4) (ty := 25) rfl _ _ (w.heap.size + 1 + 1) 25 _ _ _ rfl KK.set.set.set Tryz.underlying25 rfl (by kernel_rfl)) rfl ?_
      obtain ⟨g1, g2, g3⟩ := HXL.out.inv
      exact ⟨_, rfl, Rq.mk g3 rfl rfl (g1.put3 KK (hnoR _ _ _ _ _ _ _)) (g2.put3 KK (hnoR _ _ _ _ _ _ _)), ((hbc.setCell (by simp; omega) _).setCell (by simp; omega) _).setCell (by simp; omega) _⟩
end Go.Proofs.YtbjaolmlnkliiaaGreatDoor

/- The walk of the reference's Over. Conditions as premises: the lists read, and are valid; the divisor is not 0. -/
import Derived.Test.YtoonhjeiommhcaaOver
import Derived.Test.YtoonhjeiommhcaaSmall
namespace Go.Proofs.Ytoonhjeiommhcaa
open Go.RowKit Go.Shelf

theorem ite_true_of {b : Bool} {p q : Prop} (h : b = true) (hp : p) : if b = true then p else q := by rw [if_pos h]; exact hp
theorem w64i (z : Int) (h0 : -9223372036854775808 ≤ z) (h1 : z ≤ 9223372036854775807) : IntKind.i64.wrap z = z := by rw [IntKind.wrap_i64]; omega

set_option maxRecDepth 100000 in
set_option maxHeartbeats 800000 in
theorem refOver_less (A A' : Option Addr) (n c m c' : Nat) (f g : Nat → Nat) (w : World) (hA : Rs w w.heap.size A n c f) (hB : Rs w w.heap.size A' m c' g) (vf : Val n f) (vg : Val m g) (hlt : nv f n < nv g m) :
    Calls Try.prog 48 #[.slice A n c, .slice A' m c'] w fun e w' => ∃ v u, e = .returned (.tuple #[v, u]) ∧ Made2 w (nv f n / nv g m) (nv f n % nv g m) v u w' := by
  have hcmp := order_any A A' n c m c' f g _ _ w hA hB vf vg
  rw [cn_lt hlt] at hcmp
  rw [Nat.div_eq_of_lt hlt, Nat.mod_eq_of_lt hlt]
  have C1 := Lib.hid hcmp
  have VF := Lib.hid vf
  clear hcmp hlt vf vg
  go_enter Try.func48, Try.ntmps48
  go_wp2_with fail
  refine C1.out.mono ?_
  rintro e w' ⟨rfl, d, rfl⟩
  go_wp2_with fail
  go_ret2
  exact ⟨_, _, rfl, Made2.after (Qt.n1 w d).below (Made2.of (Made.nil (Below.refl _ _)) (made_rs (hA.drewN d) ⟨VF.out, rfl⟩ (Below.refl _ _)))⟩

theorem app_nil_run (ty : TypeId) {w : World} {A : Option Addr} {n c B : Nat} {f : Nat → Nat} (hr : Rs w B A n c f) (hn : n ≤ 4096) :
    ∃ A' c' w', (Builtin.append_ #[23, 23] ty #[.slice none 0 0, .slice A n c]).run Try.prog w = .ok (.slice A' n c') w' ∧ Rs w' w'.heap.size A' n c' f ∧ Below w.heap.size w w' := by
  obtain ⟨i0, hi, hz0, hz1, hz2⟩ := info_parts info32
  rcases Nat.eq_zero_or_pos n with e | e
  · subst e
    refine ⟨none, 0, w, ?_, Rs.zero _ _ _ _, Below.refl _ _⟩
    rcases A with _ | a0 <;> simp [Builtin.append_, run_underlying Try.underlying23, sizeOf, typeInfo, hi, hz1, Builtin.lenOf, Builtin.firstCells, loadCells, loadCellsFrom, Sem.run_bind, Sem.run_pure, Result.andThen]
  · obtain ⟨b, off, rfl, hb, hc⟩ := hr.cell e
    obtain ⟨v', w', hrun, h2, h3, h4, h5⟩ := run_append_own_at (P := Try.prog) w w.heap.size 23 ty 30 i0 (.int .u32 0) 1 4 Try.underlying23 hi hz0 hz1 hz2 rfl (by decide) (.slice none 0 0) 0 [] (World.ownsRow_nil _ _ _ _) ⟨b, off, none⟩ n c (us f n) (by rw [us_length, Nat.mul_one])
      (fun j u hj => by
        obtain ⟨hjn, rfl⟩ := us_mem hj
        rw [add_addr]; exact hc j hjn)
      (fun u hu => by
        obtain ⟨j, hj⟩ := List.mem_iff_getElem?.1 hu
        obtain ⟨_, rfl⟩ := us_mem hj
        rfl) (by unfold maxLen; omega) (by omega) (Nat.le_refl _)
    rw [Nat.zero_add, List.nil_append] at h2
    obtain ⟨A', c', rfl, hr'⟩ := Go.Proofs.Ytoonhjeiommhcaa.Own.rs (f := f) h2 hr.bd
    exact ⟨A', c', w', hrun, hr', (Below.refl _ w).grown h3 (Nat.le_refl _) (fun j hj => by cases hj)⟩

/-- a store into an elder block leaves what is fresh -/
theorem Rs.setFar {w : World} {B base n c Q i : Nat} {A : Option Addr} {S : Nat → Nat} {u : Value} (h : Rs w B A n c S) (hf : Fresh base w A n S) (hQ : Q < base) :
    Rs (w.setCell ⟨Q, i, none⟩ u) (w.setCell ⟨Q, i, none⟩ u).heap.size A n c S ∧ Fresh base (w.setCell ⟨Q, i, none⟩ u) A n S := by
  rcases hf with e | ⟨g, rfl, hg, hx⟩
  · subst e
    exact ⟨⟨Nat.zero_le _, h.max, fun j hj => by omega, fun hj => by omega⟩, .inl rfl⟩
  · have hk := hx.keep (w' := w.setCell ⟨Q, i, none⟩ u) (Below.heap_setCell w ⟨Q, i, none⟩ u g (by show g ≠ Q; omega))
    refine ⟨⟨h.cap, h.max, h.bd, fun _ => ⟨g, 0, rfl, hk.lt, fun j hj => by rw [Nat.zero_add]; exact hk.cell hj⟩⟩, .inr ⟨g, rfl, hg, hk⟩⟩
theorem Fresh.mono {base base' n : Nat} {w : World} {A : Option Addr} {S : Nat → Nat} (h : Fresh base w A n S) (hb : base' ≤ base) : Fresh base' w A n S := by
  rcases h with e | ⟨g, e, hg, hx⟩
  · exact .inl e
  · exact .inr ⟨g, e, by omega, hx⟩

theorem wpAny_named {P : Program} {md : Region.Mode} {ops : Array Oper} {Q : Exit → Act → World → Prop} {fuel : Nat} {listed : Array Bool} {a : Act} {w : World}
    (h : ∀ a' : Act, a' = a → wpAny P md ops Q fuel listed a' w) : wpAny P md ops Q fuel listed a w := h a rfl
/-- a slice of limbs is made, as one operation -/
theorem wp_make {w : World} {o : Oper} {a : Act} {K : Act → World → Prop} {Q : Exit → Act → World → Prop} (s x : Operand) (J : Nat) (hJ : J ≤ 4096)
    (ho : o.op = .makeSlice 23 s x) (hs : a.eval s = .int .i64 (J : Int)) (hx : a.eval x = .int .i64 (J : Int))
    (h : K (a.put o.dst (.slice (some ⟨w.heap.size, 0, none⟩) J J)) (w.alloc (.cells (madeCells #[.int .u32 0] J) 30))) : o.wp Try.prog a w K Q := by
  have hmk := run_make_row' (P := Try.prog) 23 30 (.int .u32 0) 4 Try.underlying23 info32 rfl .i64 .i64 J (by omega) (by omega)
  unfold Oper.wp execOp
  simp only [ho, Sem.run_bind, Sem.run_pure, Result.andThen_ok, hs, hx, hmk]
  exact h

/-- a whole list behind nil, as one operation -/
theorem wp_append_nil {w : World} {o : Oper} {a : Act} {K : Act → World → Prop} {Q : Exit → Act → World → Prop} (s x : Operand)
    (ho : o.op = .call { callee := .builtin .append, args := #[s, x], argTypes := #[23, 23] }) {A : Option Addr} {n c B : Nat} {f : Nat → Nat} (hr : Rs w B A n c f) (hn : n ≤ 4096)
    (hs : a.eval s = .slice none 0 0) (hx : a.eval x = .slice A n c)
    (h : ∀ A' c' w', Rs w' w'.heap.size A' n c' f → Below w.heap.size w w' → K (a.put o.dst (.slice A' n c')) w') : o.wp Try.prog a w K Q := by
  obtain ⟨A', c', w', hrun, hr', hb⟩ := app_nil_run o.type hr hn
  unfold Oper.wp execOp
  simp only [ho, resolve, invoke, builtin, Sem.run_bind, Sem.run_pure, Result.andThen_ok, List.map_toArray, List.map_cons, List.map_nil, hs, hx, hrun]
  exact h A' c' w' hr' hb

set_option maxRecDepth 100000 in
set_option maxHeartbeats 2000000 in
theorem refOver_main (A A' : Option Addr) (n c m c' : Nat) (f g : Nat → Nat) (w : World) (hA : Rs w w.heap.size A n c f) (hB : Rs w w.heap.size A' m c' g) (vf : Val n f) (vg : Val m g) (hn : n ≤ 1024) (hm0 : 0 < m) (hle : nv g m ≤ nv f n) :
    Calls Try.prog 48 #[.slice A n c, .slice A' m c'] w fun e w' => ∃ v u, e = .returned (.tuple #[v, u]) ∧ Made2 w (nv f n / nv g m) (nv f n % nv g m) v u w' := by
  have hcmp := order_any A A' n c m c' f g _ _ w hA hB vf vg
  have hcc : ¬ cn (nv f n) (nv g m) < 0 := by
    rcases Nat.eq_or_lt_of_le hle with e | e
    · rw [cn_eq e.symm]; decide
    · rw [cn_gt e]; decide
  have hmn : m ≤ n := by
    rcases Nat.lt_or_ge n m with h3 | h3
    · have := vf.lt_of_len vg h3; omega
    · omega
  have C := Lib.hid hcmp
  clear hcmp
  generalize cn (nv f n) (nv g m) = cc at *
  -- the factor
  obtain ⟨F, hF⟩ : ∃ F, F = LB / (g (m - 1) + 1) := ⟨_, rfl⟩
  have htB := vg.1 (m - 1) (by omega)
  have htz := vg.2 hm0
  obtain ⟨_, hF1, _, hF2⟩ := scale_norm (t := g (m - 1)) (by omega) htB hF
  have hfi : 1000000000 / (iv (g (m - 1)) + 1) = iv F := by rw [hF]; simp only [iv_eq]; rw [LB_eq, Int.natCast_ediv, Int.natCast_add]; rfl
  have hg0 := iv_nonneg (g (m - 1))
  have hg1 := iv_limb htB
  have hF3 := iv_limb hF2
  have hF4 := iv_nonneg F
  have HFI := Lib.hid hfi
  have HF1 := Lib.hid hF1
  have HF2 := Lib.hid hF2
  have VF := Lib.hid vf
  have VG := Lib.hid vg
  have HLE := Lib.hid hle
  clear hF hfi hF1 hF2 vf vg hle htB htz
  obtain ⟨bg, og, rfl, hbg, hcg⟩ := hB.cell (by omega)
  have htop := fun d => (hB.drewN d).cell (by omega)
  have hck := hcg (m - 1) (by omega)
  clear hcg htop
  go_enter Try.func48, Try.ntmps48
  go_wp2_with fail
  refine C.out.mono ?_
  rintro _ _ ⟨rfl, d0, rfl⟩
  have hck' : (w.drewN d0).cell? ⟨bg, og + (m - 1), none⟩ = some (.int .u32 (iv (g (m - 1)))) := hck
  have hA0 := hA.drewN d0
  have hB0 := hB.drewN d0
  have hb0 := Below.drewN w d0
  have hsz0 : (w.drewN d0).heap.size = w.heap.size := rfl
  rw [← hsz0] at hA0 hB0
  clear hsz0
  generalize w.drewN d0 = w0 at *
  go_wp2_with fail
  rw [HFI.out, show iv F % 4294967296 = iv F from Int.emod_eq_of_lt hF4 (by omega)]
  refine (refSmall_any F HF2.out w0).mono ?_
  rintro _ w1 ⟨v, rfl, hm1⟩
  obtain ⟨lF, cF, rfl, hrF, hbF⟩ := hm1.as (m := 1) (g := l1 F) ⟨⟨fun j _ => HF2.out, fun _ => by show F ≠ 0; have := HF1.out; omega⟩, by simp [nv, l1]⟩
  have hA1 := (hA0.below hbF).more hbF.size
  have hB1 := (hB0.below hbF).more hbF.size
  have hb1 := hb0.trans (hbF.mono hb0.size)
  clear hm1 hA0 hB0 hb0 hbF hA hB hck hck'
  go_wp2_with fail
  refine (refTimes_any A lF n c 1 cF f (l1 F) w1 hA1 hrF VF.out.1 (fun j _ => HF2.out) (by omega) (by omega)).mono ?_
  rintro _ w2 ⟨v, rfl, hm2⟩
  rw [show nv (l1 F) 1 = F by simp [nv, l1]] at hm2
  obtain ⟨lX, N, cX, x, rfl, hrX, hdX, hbX⟩ := hm2
  have hB2 := (hB1.below hbX).more hbX.size
  have hF2' := (hrF.below hbX).more hbX.size
  have hb2 := hb1.trans (hbX.mono hb1.size)
  clear hbX hB1 hrF hb1 hA1
  have HDX := Lib.hid hdX
  clear hdX
  go_wp2_with fail
  refine (refTimes_any _ lF m c' 1 cF g (l1 F) w2 hB2 hF2' VG.out.1 (fun j _ => HF2.out) (by omega) (by omega)).mono ?_
  rintro _ w3 ⟨v, rfl, hm3⟩
  rw [show nv (l1 F) 1 = F by simp [nv, l1]] at hm3
  obtain ⟨lV, s, cV, v, rfl, hrV, hdV, hbV⟩ := hm3
  have hX3 := (hrX.below hbV).more hbV.size
  have hF3' := (hF2'.below hbV).more hbV.size
  have hb3 := hb2.trans (hbV.mono hb2.size)
  clear hbV hB2 hrX hF2' hb2
  have HDV := Lib.hid hdV
  -- the lengths
  have hDpos : 0 < nv g m * F := Nat.mul_pos (VG.out.pos hm0) HF1.out
  have hs0 : 1 ≤ s := by
    rcases Nat.eq_zero_or_pos s with e | e
    · exact absurd hdV.eq (by rw [e]; simp [nv]; omega)
    · exact e
  have hsN : s ≤ N := by
    rcases Nat.lt_or_ge N s with h | h
    · have h1 := HDX.out.ok.lt_of_len hdV.ok h
      rw [HDX.out.eq, hdV.eq] at h1
      have := Nat.mul_le_mul_right F HLE.out
      omega
    · exact h
  have hNl : N ≤ n + 1 := by
    rcases Nat.lt_or_ge (n + 1) N with h | h
    · have h1 := HDX.out.ok.top_le (by omega)
      have h2 : nv f n * F < LB ^ n * LB := Nat.mul_lt_mul'' VF.out.lt HF2.out
      rw [HDX.out.eq] at h1
      have h3 : LB ^ (n + 1) ≤ LB ^ (N - 1) := pow_le_of (by omega)
      rw [Nat.pow_succ] at h3
      omega
    · exact h
  obtain ⟨J, hJ⟩ : ∃ J, J = N - s + 1 := ⟨_, rfl⟩
  have HJ := Lib.hid hJ
  have hJ1 : 1 ≤ J ∧ J ≤ 1026 := by omega
  have hJI : (N : Int) - (s : Int) + 1 = (J : Int) := by omega
  have hJN : J ≤ N := by omega
  obtain ⟨bv, ov, rfl, hbv, hcv⟩ := hrV.cell (by omega)
  have hckv := hcv (s - 1) (by omega)
  have hvt1 := iv_limb (HDV.out.ok.1 (s - 1) (by omega))
  have hvt0 := iv_nonneg (v (s - 1))
  clear hcv hJ hdV
  go_wp2_with fail
  obtain ⟨bX, oX, rfl, hbX, _⟩ := hX3.cell (by omega)
  have hcapX := hX3.cap
  have hlo : (J : Int) ≤ (cX : Int) := by omega
  have hw1 : IntKind.i64.wrap ((N : Int) - (s : Int)) = (N : Int) - (s : Int) := w64i _ (by omega) (by omega)
  have hw2 : IntKind.i64.wrap (J : Int) = (J : Int) := w64i _ (by omega) (by omega)
  have hle1 : (0 : Int) ≤ (J : Int) := by omega
  have hle2 : (J : Int) ≤ (N : Int) := by omega
  have hsub : ∃ aR, (if cX = J then some (⟨bX, oX, none⟩ : Addr) else some ⟨bX, oX + J, none⟩) = some aR ∧ Rs w3 w3.heap.size (some aR) (N - J) (cX - J) (fun j => x (J + j)) := by
    by_cases e : cX = J
    · rw [if_pos e, show N - J = 0 by omega, show cX - J = 0 by omega]
      exact ⟨_, rfl, Rs.zero _ _ _ _⟩
    · rw [if_neg e]
      exact ⟨_, rfl, hX3.sub (lo := J) (hi := N) hJN (Nat.le_refl _)⟩
  obtain ⟨aR, haR, hR0⟩ := hsub
  refine wp_region_any (by kernel_rfl) ?_
  change wpAny _ _ _ _ _ _ _ (World.drew _)
  refine wpAny_take (i := 0) (v := ?_) rfl (by kernel_rfl) (by kernel_rfl) (by kernel_rfl) (fun _ _ _ h => h) (Or.inl ⟨by rfl, ?_⟩) ?_
  rotate_left 1
  · intro w; go_simp; try with_reducible rfl
  refine wpAny_take (i := 1) (v := ?_) rfl (by kernel_rfl) (by kernel_rfl) (by kernel_rfl) (fun _ _ _ h => h) (Or.inl ⟨by rfl, ?_⟩) ?_
  rotate_left 1
  · intro w; go_simp; try with_reducible rfl
  refine wpAny_take (i := 2) (v := ?_) rfl (by kernel_rfl) (by kernel_rfl) (by kernel_rfl) (fun _ _ _ h => h) (Or.inl ⟨by rfl, ?_⟩) ?_
  rotate_left 1
  · intro w; go_simp; try with_reducible rfl
  refine wpAny_take (i := 3) (v := ?_) rfl (by kernel_rfl) (by kernel_rfl) (by kernel_rfl) (fun _ _ _ h => h) (Or.inl ⟨by rfl, ?_⟩) ?_
  rotate_left 1
  · intro w; go_simp; try with_reducible rfl
  refine wpAny_take (i := 4) (v := ?_) rfl (by kernel_rfl) (by kernel_rfl) (by kernel_rfl) (fun _ _ _ h => h) (Or.inl ⟨by rfl, ?_⟩) ?_
  rotate_left 1
  · intro w; go_simp; try with_reducible rfl
  refine wpAny_take (i := 6) (v := ?_) rfl (by kernel_rfl) (by kernel_rfl) (by kernel_rfl) (fun _ _ _ h => h) (Or.inl ⟨by rfl, ?_⟩) ?_
  rotate_left 1
  · intro w; go_simp; try with_reducible rfl
  refine wpAny_take (i := 7) (v := ?_) rfl (by kernel_rfl) (by kernel_rfl) (by kernel_rfl) (fun _ _ _ h => h) (Or.inl ⟨by rfl, ?_⟩) ?_
  rotate_left 1
  · intro w; go_simp; try with_reducible rfl
  refine wpAny_take (i := 8) (v := ?_) rfl (by kernel_rfl) (by kernel_rfl) (by kernel_rfl) (fun _ _ _ h => h) (Or.inl ⟨by rfl, ?_⟩) ?_
  rotate_left 1
  · intro w; go_simp; try with_reducible rfl
  refine wpAny_take (i := 9) (v := ?_) rfl (by kernel_rfl) (by kernel_rfl) (by kernel_rfl) (fun _ _ _ h => h) (Or.inl ⟨by rfl, ?_⟩) ?_
  rotate_left 1
  · intro w; go_simp; try with_reducible rfl
  refine wpAny_take (i := 10) (v := ?_) rfl (by kernel_rfl) (by kernel_rfl) (by kernel_rfl) (fun _ _ _ h => h) (Or.inl ⟨by rfl, ?_⟩) ?_
  rotate_left 1
  · intro w; go_simp; try with_reducible rfl
  refine wpAny_take (i := 11) (v := ?_) rfl (by kernel_rfl) (by kernel_rfl) (by kernel_rfl) (fun _ _ _ h => h) (Or.inl ⟨by rfl, ?_⟩) ?_
  rotate_left 1
  · intro w; go_simp; try with_reducible rfl
  refine wpAny_take (i := 12) (v := ?_) rfl (by kernel_rfl) (by kernel_rfl) (by kernel_rfl) (fun _ _ _ h => h) (Or.inl ⟨by rfl, ?_⟩) ?_
  rotate_left 1
  · intro w; go_simp; try with_reducible rfl
  refine wpAny_take (i := 13) (v := ?_) rfl (by kernel_rfl) (by kernel_rfl) (by kernel_rfl) (fun _ _ _ h => h) (Or.inl ⟨by rfl, ?_⟩) ?_
  rotate_left 1
  · intro w; go_simp; try with_reducible rfl
  have hbd : Below w3.heap.size w3 w3.drew := (Below.refl _ _).drew
  have hX4 := (hX3.below hbd).more hbd.size
  have hR4 := (hR0.below hbd).more hbd.size
  have hV4 := (hrV.below hbd).more hbd.size
  have hF4' := (hF3'.below hbd).more hbd.size
  have hb4 := hb3.trans (hbd.mono hb3.size)
  clear hX3 hR0 hrV hF3' hb3 hckv
  generalize w3.drew = w4 at *
  clear hbd
  refine wpAny_named ?_
  intro act hact
  have e50 : act.eval (.tmp 50) = .int .i64 (J : Int) := by rw [hact]; kernel_rfl
  have e52 : act.eval (.tmp 52) = .slice none 0 0 := by rw [hact]; kernel_rfl
  have e59 : act.eval (.tmp 59) = .slice (some aR) (N - J) (cX - J) := by rw [hact]; kernel_rfl
  have HACT := Lib.hid hact
  clear hact
  refine wpAny_ready (rs := [5, 14]) (by kernel_rfl) (by simp) ?_
  refine AllReady.cons rfl (fun K hK => ?b1) (AllReady.cons rfl (fun K hK => ?b2) AllReady.nil)
  case' b1 =>
    refine ite_true_of (by kernel_rfl) ?_
    refine wp_make (.tmp 50) (.tmp 50) J (by omega) rfl e50 e50 ?_
    refine hK _ _ ?_
    clear hK K
    have hb5 : Below w4.heap.size w4 (w4.alloc (.cells (madeCells #[.int .u32 0] J) 30)) := (Below.refl _ _).alloc (Nat.le_refl _) _
    have hq5 := Row.made w4 J
    have hR5 := hR4.below hb5
    have f52 : (act.put (some 51) (.slice (some ⟨w4.heap.size, 0, none⟩) J J)).eval (.tmp 52) = .slice none 0 0 := by rw [HACT.out]; kernel_rfl
    have f59 : (act.put (some 51) (.slice (some ⟨w4.heap.size, 0, none⟩) J J)).eval (.tmp 59) = .slice (some aR) (N - J) (cX - J) := by rw [HACT.out]; kernel_rfl
    refine wpAny_ready (rs := [14]) (by kernel_rfl) (by simp) ?_
    refine AllReady.cons rfl (fun K hK => ?_) AllReady.nil
    refine ite_true_of (by kernel_rfl) ?_
    refine wp_append_nil (.tmp 52) (.tmp 59) rfl hR5 (by omega) f52 f59 ?_
    intro A6 c6 w6 hr6 hb6
    refine hK _ _ ?_
    clear hK K f52 f59
    have hq6 : Row w6 w4.heap.size J (fun _ => 0) := hq5.keep (hb6.block _ hq5.lt)
    have hbw : Below w4.heap.size w4 w6 := hb5.trans (hb6.mono hb5.size)
    have hQ1 : w4.heap.size ≤ w4.heap.size := Nat.le_refl _
    have hQ2 : w4.heap.size < w6.heap.size := hq6.lt
    clear hb5 hb6 hq5 hR5 hR4
    obtain ⟨Qb, hQb⟩ : ∃ Qb, Qb = w4.heap.size := ⟨_, rfl⟩
    have hQ3 : w4.heap.size ≤ Qb := by rw [hQb]; exact Nat.le_refl _
    rw [← hQb] at hq6 hQ2 ⊢
    clear hQb hQ1
  case' b2 =>
    refine ite_true_of (by kernel_rfl) ?_
    refine wp_append_nil (.tmp 52) (.tmp 59) rfl hR4 (by omega) e52 e59 ?_
    intro A6 c6 w5 hr5 hb5
    refine hK _ _ ?_
    clear hK K
    have f50 : (act.put (some 60) (.slice A6 (N - J) c6)).eval (.tmp 50) = .int .i64 (J : Int) := by rw [HACT.out]; kernel_rfl
    refine wpAny_ready (rs := [5]) (by kernel_rfl) (by simp) ?_
    refine AllReady.cons rfl (fun K hK => ?_) AllReady.nil
    refine ite_true_of (by kernel_rfl) ?_
    refine wp_make (.tmp 50) (.tmp 50) J (by omega) rfl f50 f50 ?_
    refine hK _ _ ?_
    clear hK K f50
    have hq6 := Row.made w5 J
    have hb6 : Below w5.heap.size w5 (w5.alloc (.cells (madeCells #[.int .u32 0] J) 30)) := (Below.refl _ _).alloc (Nat.le_refl _) _
    have hr6 := (hr5.below hb6).more hb6.size
    have hbw := hb5.trans (hb6.mono hb5.size)
    have hQ1 : w4.heap.size ≤ w5.heap.size := hb5.size
    have hQ2 : w5.heap.size < (w5.alloc (.cells (madeCells #[.int .u32 0] J) 30)).heap.size := hq6.lt
    clear hb5 hb6 hr5 hR4
    obtain ⟨Qb, hQb⟩ : ∃ Qb, Qb = w5.heap.size := ⟨_, rfl⟩
    have hQ3 : w4.heap.size ≤ Qb := by rw [hQb]; exact hQ1
    rw [← hQb] at hq6 hQ2 ⊢
    clear hQb hQ1
    generalize w5.alloc (.cells (madeCells #[.int .u32 0] J) 30) = w6 at *
  all_goals
    rw [HACT.out]
    clear HACT e50 e52 e59
    refine wpAny_take (i := 15) (v := ?_) rfl (by kernel_rfl) (by kernel_rfl) (by kernel_rfl) (fun _ _ _ h => h) (Or.inl ⟨by rfl, ?_⟩) ?_
    rotate_left 1
    · intro w; go_simp; try with_reducible rfl
    refine wpAny_take (i := 16) (v := ?_) rfl (by kernel_rfl) (by kernel_rfl) (by kernel_rfl) (fun _ _ _ h => h) (Or.inl ⟨by rfl, ?_⟩) ?_
    rotate_left 1
    · intro w; go_simp; try with_reducible rfl
    refine wpAny_done (by kernel_rfl) ?_ _
    go_wp2_with fail
    have hOv0 := Ov.start (x := x) (v := v) HDX.out.ok.1 HDV.out.ok (by omega) (show J + s = N + 1 by have := HJ.out; omega) HDV.out.eq
    have hnr0 : nv (fun j => x (J + j)) (N - J) = hi x N J := by
      unfold hi; exact nv_congr _ fun j _ => by simp only [Nat.add_comm]
    rw [← hnr0] at hOv0
    have HOV0 := Lib.hid hOv0
    clear hOv0 hnr0 haR
    go_loopw [5, 9, 10, 11, 12] (fun r i _ _ _ wr => ∃ (k : Nat) (rA : Option Addr) (rn rc : Nat) (rf q : Nat → Nat), k ≤ J ∧ i = .int .i64 ((k : Int) - 1) ∧ r = .slice rA rn rc ∧ Rs wr wr.heap.size rA rn rc rf ∧ Row wr Qb J q ∧ Below w4.heap.size w4 wr ∧ w6.heap.size ≤ wr.heap.size ∧ rn ≤ 1030 ∧
      Hid ((∀ j, j < rn → rf j < LB) ∧ Ov x N J (nv g m * F) q (nv rf rn) k ∧ (k < J → Val rn rf ∧ Fresh w6.heap.size wr rA rn rf))) (fun _ i _ _ _ _ => (intOf i + 1).toNat)
    case atStart => exact ⟨J, A6, N - J, c6, _, _, Nat.le_refl _, by congr 1; omega, rfl, hr6, hq6, hbw, Nat.le_refl _, by omega, ⟨fun j hj => HDX.out.ok.1 _ (by omega), HOV0.out, fun h => absurd h (Nat.lt_irrefl _)⟩⟩
    case round =>
      obtain ⟨k, rA, rn, rc, rf, q, hk, rfl, rfl, hr, hq, hb, hsz, hrn, hh⟩ := hrel
      clear hr6 hq6 hbw
      by_cases hk0 : k = 0
      · subst hk0
        obtain ⟨hrl, hov, hfr⟩ := hh.out
        obtain ⟨hval, hfr⟩ := hfr (by omega)
        obtain ⟨hqe, hre⟩ := hov.done HDX.out.eq rfl HF1.out (VG.out.pos hm0)
        have hbw4 := hb4.trans (hb.mono hb4.size)
        obtain ⟨bF, oF, rfl, hbF, hcF⟩ := hF4'.cell (by omega)
        have hF0 : ∀ wx, Below w4.heap.size w4 wx → wx.cell? ⟨bF, oF, none⟩ = some (.int .u32 (iv F)) := fun wx hx => by
          have h := ((hF4'.below hx).cell (by omega))
          obtain ⟨_, _, e1, _, h2⟩ := h
          cases e1
          have h3 := h2 0 (by omega)
          rw [Nat.add_zero] at h3
          exact h3
        have HF0 := Lib.hid hF0
        have HQE := Lib.hid hqe
        have HRE := Lib.hid hre
        have HRL := Lib.hid hrl
        have HQL := Lib.hid hov.ql
        have HVAL := Lib.hid hval
        clear hF0 hqe hre hrl hov hh hcF hval
        rcases hfr with e0 | ⟨gb, rfl, hgb, hx⟩
        · subst e0
          have hT1 := refTrim_any (some ⟨Qb, 0, none⟩) J J q _ wr (hq.rs (by omega) (fun j _ => by have := HQL.out j; rw [LB_eq] at this; omega))
          have hT2 := refTrim_any rA 0 rc rf _ wr hr
          have HT1 := Lib.hid hT1
          have HT2 := Lib.hid hT2
          clear hT1 hT2
          go_wp2_with fail
          refine wp_loop_rounds 1 ?_
          rw [rounds_succ]
          go_wp2_with fail
          refine HT1.out.mono ?_
          rintro _ _ ⟨⟨_, rfl, AT, mT, cT, rfl, hrT, htT⟩, rfl⟩
          have HDT := Lib.hid (htT.dig (fun j _ => HQL.out j) HQE.out)
          have HRT := Lib.hid hrT
          clear hrT htT
          go_wp2_with fail
          refine HT2.out.mono ?_
          rintro _ _ ⟨⟨_, rfl, AU, mU, cU, rfl, hrU, htU⟩, rfl⟩
          have HDU := Lib.hid (htU.dig (fun j hj => by omega) rfl)
          have HRU := Lib.hid hrU
          clear hrU htU
          go_wp2_with fail
          go_ret2
          refine ⟨_, _, rfl, AT, mT, cT, q, AU, mU, cU, rf, rfl, HRT.out, HDT.out, rfl, HRU.out, ?_, hbw4⟩
          have h := HDU.out
          have h2 := HRE.out
          simp only [nv, Nat.zero_div] at h2
          rw [← h2]; exact h
        · have hF4p := iv_pos (show F ≠ 0 by have := HF1.out; omega)
          have hFb : (iv F == 0) = false := by rw [beq_eq_false_iff_ne]; omega
          go_wp2_with fail
          rename World => w8
          go_loopw [13, 14] (fun rest i wr3 => ∃ (k : Nat) (S : Nat → Nat), k ≤ rn ∧ i = .int .i64 ((k : Int) - 1) ∧ rest = .int .u64 (iv (hi rf rn k % F)) ∧ Fx wr3 gb rn S ∧ Hid (hi S rn k = hi rf rn k / F ∧ (∀ j, j < k → S j = rf j) ∧ (∀ j, j < rn → S j < LB)) ∧ Below w6.heap.size w8 wr3) (fun _ i _ => (intOf i + 1).toNat)
          case atStart => exact ⟨rn, rf, Nat.le_refl _, by first | rfl | (congr 1; unfold wrap64; omega), by rw [hi_top, Nat.zero_mod, iv_zero], hx, ⟨by rw [hi_top, Nat.zero_div], fun _ _ => rfl, HRL.out⟩, Below.refl _ _⟩
          case round =>
            obtain ⟨k, S, hk, rfl, rfl, hxS, hS, hb3'⟩ := hrel
            have hbl3 := hb.trans (hb3'.mono (by omega : w4.heap.size ≤ w6.heap.size))
            by_cases hk0 : k = 0
            · subst hk0
              have hq3 : Row wr Qb J q := hq.keep (hb3'.block _ hQ2)
              have hrs3 : Rs wr wr.heap.size (some ⟨gb, 0, none⟩) rn rc S := ⟨hr.cap, hr.max, fun j hj => by have := hS.out.2.2 j hj; rw [LB_eq] at this; omega, fun _ => ⟨gb, 0, rfl, hxS.lt, fun j hj => by rw [Nat.zero_add]; exact hxS.cell hj⟩⟩
              have HT1 := Lib.hid (refTrim_any (some ⟨Qb, 0, none⟩) J J q _ wr (hq3.rs (by omega) (fun j _ => by have := HQL.out j; rw [LB_eq] at this; omega)))
              have HT2 := Lib.hid (refTrim_any (some ⟨gb, 0, none⟩) rn rc S _ wr hrs3)
              have hSn : nv S rn = nv f n % nv g m := by
                have h := hS.out.1
                rw [hi_zero, hi_zero] at h
                rw [h]; exact HRE.out
              have HSN := Lib.hid hSn
              have HSL := Lib.hid hS.out.2.2
              have hbw5 := hbw4.trans (hb3'.mono (Nat.le_trans hb4.size (by omega)))
              clear hSn hq3 hrs3 hS hxS
              go_wp2_with fail
              refine HT1.out.mono ?_
              rintro _ _ ⟨⟨_, rfl, AT, mT, cT, rfl, hrT, htT⟩, rfl⟩
              have HDT := Lib.hid (htT.dig (fun j _ => HQL.out j) HQE.out)
              have HRT := Lib.hid hrT
              clear hrT htT
              go_wp2_with fail
              refine HT2.out.mono ?_
              rintro _ _ ⟨⟨_, rfl, AU, mU, cU, rfl, hrU, htU⟩, rfl⟩
              have HDU := Lib.hid (htU.dig HSL.out HSN.out)
              have HRU := Lib.hid hrU
              clear hrU htU
              go_wp2_with fail
              go_ret2
              exact ⟨_, _, rfl, AT, mT, cT, q, AU, mU, cU, S, rfl, HRT.out, HDT.out, rfl, HRU.out, HDU.out, hbw5⟩
            · obtain ⟨p, rfl⟩ : ∃ p, k = p + 1 := ⟨k - 1, by omega⟩
              rw [show (((p + 1 : Nat) : Int) - 1) = (p : Int) by omega]
              have hpr : p < rn := by omega
              have hcS := hxS.cell hpr
              rw [hS.out.2.1 p (by omega)] at hcS
              have hfz := hxS.frozen p
              have hcF1 := HF0.out wr hbl3
              have hcF2 : ∀ u, (wr.setCell ⟨gb, p, none⟩ u).cell? ⟨bF, oF, none⟩ = some (.int .u32 (iv F)) := fun u => HF0.out _ (hbl3.setCell (p := ⟨gb, p, none⟩) (by show w4.heap.size ≤ gb; omega) u)
              have hne : bF ≠ gb := by omega
              have hne2 : gb ≠ bF := by omega
              obtain ⟨ed, em⟩ := @iv_divmod (hi rf rn (p + 1) % F) (rf p) F
              have hc1 : hi rf rn (p + 1) % F < F := Nat.mod_lt _ HF1.out
              have hb1 : iv ((hi rf rn (p + 1) % F * LB + rf p) / F) < 1000000000 := iv_limb (divl_lt hc1 (HRL.out p hpr))
              have hb0 := iv_nonneg ((hi rf rn (p + 1) % F * LB + rf p) / F)
              have hm1 : iv ((hi rf rn (p + 1) % F * LB + rf p) % F) < 1000000000 := iv_limb (Nat.lt_trans (Nat.mod_lt _ HF1.out) HF2.out)
              have hm0' := iv_nonneg ((hi rf rn (p + 1) % F * LB + rf p) % F)
              have hx1 : iv (hi rf rn (p + 1) % F) < 1000000000 := iv_limb (Nat.lt_trans hc1 HF2.out)
              have hx0 := iv_nonneg (hi rf rn (p + 1) % F)
              have hy1 := iv_limb (HRL.out p hpr)
              have hy0 := iv_nonneg (rf p)
              rw [← ed] at hb1 hb0
              rw [← em] at hm1 hm0'
              have hnew := hxS.set p ((hi rf rn (p + 1) % F * LB + rf p) / F)
              rw [← ed] at hnew
              have HS := Lib.hid (divl_step hpr HF1.out hS.out.1 rfl)
              have hlt2 : ∀ j, j < rn → (if j = p then (hi rf rn (p + 1) % F * LB + rf p) / F else S j) < LB := fun j hj => by
                by_cases e : j = p
                · rw [if_pos e]; exact divl_lt hc1 (HRL.out p hpr)
                · rw [if_neg e]; exact hS.out.2.2 j hj
              have HLT2 := Lib.hid hlt2
              have HED := Lib.hid ed
              have HEM := Lib.hid em
              have HNEW := Lib.hid hnew
              have HBB := Lib.hid (hb3'.setCell (p := ⟨gb, p, none⟩) hgb (.int .u32 ((iv (hi rf rn (p + 1) % F) * 1000000000 + iv (rf p)) / iv F)))
              clear ed em hnew hlt2 hc1
              generalize hgx : iv (hi rf rn (p + 1) % F) = X1 at *
              generalize hgy : iv (rf p) = Y1 at *
              clear hgx hgy
              go_wp2_with fail
              go_roundw
              case rel => exact ⟨p, _, by omega, rfl, by rw [HEM.out, HS.out.2], HNEW.out, ⟨HS.out.1, fun j hj => by rw [if_neg (by omega)]; exact hS.out.2.1 j (by omega), HLT2.out⟩, HBB.out⟩
              case measure => simp [intOf] <;> omega
      · obtain ⟨p, rfl⟩ : ∃ p, k = p + 1 := ⟨k - 1, by omega⟩
        rw [show (((p + 1 : Nat) : Int) - 1) = (p : Int) by omega]
        obtain ⟨hrl, hov, _⟩ := hh.out
        have hpN : p < N := by omega
        obtain ⟨hst1, hst2, hst3⟩ := hov.step HDX.out.ok.1 (show p < J by omega) hJN
        have HST1 := Lib.hid hst1
        have HST2 := Lib.hid hst2
        have HST3 := Lib.hid hst3
        have hX := hX4.below hb
        obtain ⟨_, _, e1, _, hcx⟩ := hX.cell (by omega)
        cases e1
        have hckx := hcx p hpN
        have hxl := HDX.out.ok.1 p hpN
        have hxu : x p < 4294967296 := by rw [LB_eq] at hxl; omega
        have HXL := Lib.hid hxl
        have HRL := Lib.hid hrl
        clear hh hov hst1 hst2 hst3 hcx hX hxl hrl
        go_wp2_with (at_builtin; refine app_cons rfl (.tmp 73) (.tmp 74) rfl hr (Nat.le_refl _) (by omega) hxu rfl rfl ?_; intro rA1 rc1 w7 hr7 hb7)
        obtain ⟨f1, hf1⟩ : ∃ f1, f1 = (fun j => if j = 0 then x p else rf (j - 1)) := ⟨_, rfl⟩
        rw [← hf1] at hr7
        have hf1l : ∀ j, j < 1 + rn → f1 j < LB := fun j hj => by
          rw [hf1]
          show (if j = 0 then x p else rf (j - 1)) < LB
          by_cases e : j = 0
          · rw [if_pos e]; exact HXL.out
          · rw [if_neg e]; exact HRL.out _ (by omega)
        have hf1n : nv f1 (1 + rn) = nv rf rn * LB + x p := by
          rw [Nat.add_comm 1 rn, nv_low, hf1]
          simp only [↓reduceIte, Nat.add_sub_cancel, Nat.add_one_ne_zero]
          rw [Nat.mul_comm, Nat.add_comm]
        obtain ⟨R1, hR1⟩ : ∃ R1, R1 = nv rf rn * LB + x p := ⟨_, rfl⟩
        rw [← hR1] at hf1n HST1 HST2 HST3
        have HF1L := Lib.hid hf1l
        have HF1N := Lib.hid hf1n
        have hb7' := hb.trans (hb7.mono hb.size)
        have hq7 : Row w7 Qb J q := hq.keep (hb7.block _ hq.lt)
        have hsz7 : w6.heap.size ≤ w7.heap.size := Nat.le_trans hsz hb7.size
        clear hf1 hf1l hf1n hR1 HXL HRL hckx hr hq hb hb7 hxu
        refine (refTrim_same rA1 (1 + rn) rc1 _ _ w7 hr7).mono ?_
        rintro _ _ ⟨⟨k1, rfl, htr⟩, rfl⟩
        have hdg := htr.dig HF1L.out HF1N.out
        have hr8 := hr7.take htr.le
        have hk1l : k1 ≤ 1031 := by have := htr.le; omega
        clear hr7 htr
        have hlead : ∀ t, s - 1 ≤ t → t ≤ k1 → hi f1 k1 t < 1000000000000000000 := fun t h1 h2 => by
          have h3 := lead_lt (R1 := R1) hs0 HDV.out.ok.1 HDV.out.eq HST1.out
          rw [hi_div hdg.ok.1 h2, hdg.eq]
          have h4 : R1 / LB ^ t ≤ R1 / LB ^ (s - 1) := Nat.div_le_div_left (pow_le_of h1) (Nat.pow_pos LB_pos)
          have h5 : LB * LB = 1000000000000000000 := by rw [LB_eq]
          omega
        have hleq : ∀ t, (s - 1 ≤ t ∨ t = k1) → t ≤ k1 → t ≤ s - 1 → hi f1 k1 t = R1 / LB ^ (s - 1) := fun t h1 h2 h3 => by
          rcases h1 with h1 | h1
          · obtain rfl : t = s - 1 := by omega
            rw [hi_div hdg.ok.1 h2, hdg.eq]
          · subst h1
            rw [hi_top]
            have h4 := hdg.ok.lt
            rw [hdg.eq] at h4
            exact (Nat.div_eq_of_lt (Nat.lt_of_lt_of_le h4 (pow_le_of h3))).symm
        have HDG := Lib.hid hdg
        have HLEAD := Lib.hid hlead
        have HLEQ := Lib.hid hleq
        have HL0 : Hid (iv (hi f1 k1 k1) = 0) := Lib.hid (by rw [hi_top, iv_zero])
        clear hdg hlead hleq
        go_wp2_with fail
        go_loop [10, 11] (fun lead j => ∃ t : Nat, t ≤ k1 ∧ (s - 1 ≤ t ∨ t = k1) ∧ j = .int .i64 ((t : Int) - 1) ∧ lead = .int .u64 (iv (hi f1 k1 t))) (fun _ j => (intOf j + 1).toNat)
        case atStart => exact ⟨k1, Nat.le_refl _, .inr rfl, by first | rfl | (congr 1; unfold wrap64; omega), by rw [HL0.out]⟩
        case round =>
          obtain ⟨t, htk, htc, rfl, rfl⟩ := hrel
          by_cases hts : s ≤ t
          · obtain ⟨t', rfl⟩ : ∃ t', t = t' + 1 := ⟨t - 1, by omega⟩
            rw [show (((t' + 1 : Nat) : Int) - 1) = (t' : Int) by omega]
            obtain ⟨_, _, rfl, _, hc8⟩ := hr8.cell (by omega)
            have hck8 := hc8 t' (by omega)
            have hhi := hi_iv f1 k1 t' (by omega)
            have hl1 : iv (hi f1 k1 t') < 1000000000000000000 := by rw [iv_eq]; have := HLEAD.out t' (by omega) (by omega); omega
            have hl0 := iv_nonneg (hi f1 k1 t')
            have hl2 := iv_nonneg (hi f1 k1 (t' + 1))
            have hl3 : iv (hi f1 k1 (t' + 1)) < 1000000000000000000 := by rw [iv_eq]; have := HLEAD.out (t' + 1) (by omega) (by omega); omega
            have hx0 := iv_nonneg (f1 t')
            have hge : (s : Int) - 1 ≤ (t' : Int) := by omega
            have hl4 := hl1
            rw [← hhi] at hl4
            have hlt8 : t' < k1 := by omega
            have HHI := Lib.hid hhi
            clear hc8 hhi hl1 hl0
            generalize iv (hi f1 k1 (t' + 1)) = LL at *
            generalize iv (f1 t') = XX at *
            go_wp2_with fail
            go_round
            case rel => exact ⟨t', by omega, .inl (by omega), rfl, by rw [HHI.out]⟩
            case measure => simp [intOf] <;> omega
          · have hge : ¬ (s : Int) - 1 ≤ (t : Int) - 1 := by omega
            have hL := HLEQ.out t htc htk (by omega)
            rw [hL]
            clear hL
            have hvz := HDV.out.ok.2 (by omega)
            have hLb := lead_lt (R1 := R1) hs0 HDV.out.ok.1 HDV.out.eq HST1.out
            have hQL := lead_ge (R1 := R1) hs0 HDV.out.eq hvz rfl
            have hLb2 : R1 / LB ^ (s - 1) < 1000000000000000000 := by
              have h5 : LB * LB = 1000000000000000000 := by rw [LB_eq]
              omega
            generalize R1 / LB ^ (s - 1) = L at *
            have hvp := iv_pos hvz
            have hvb : (iv (v (s - 1)) == 0) = false := by rw [beq_eq_false_iff_ne]; omega
            have hL0 := iv_nonneg L
            have hL1 : iv L < 1000000000000000000 := by rw [iv_eq]; omega
            obtain ⟨_, hdiv⟩ := iv_mod' L (v (s - 1))
            have hqL : L / v (s - 1) ≤ L := Nat.div_le_self _ _
            have hq0 : 0 ≤ iv L / iv (v (s - 1)) := by rw [hdiv]; exact iv_nonneg _
            have hq1 : iv L / iv (v (s - 1)) < 1000000000000000000 := by rw [hdiv, iv_eq]; omega
            obtain ⟨D0, hD0⟩ : ∃ D0, D0 = min (L / v (s - 1)) 999999999 := ⟨_, rfl⟩
            have hmin : min (iv L / iv (v (s - 1))) 999999999 = iv D0 := by rw [hdiv, hD0]; simp only [iv_eq]; omega
            have hD0l : D0 < LB := by rw [LB_eq, hD0]; omega
            have hD0g : R1 / (nv g m * F) ≤ D0 := by have := HST2.out; rw [LB_eq] at this; rw [hD0]; omega
            have HD0 := Lib.hid (And.intro hD0l hD0g)
            clear hD0 hD0l hD0g hqL hLb hQL hLb2 hvz hdiv
            go_wp2_with fail
            try rw [hmin]
            clear hmin
            have hV7 := hV4.below hb7'
            go_loopw [12] (fun d wr2 => ∃ dd, d = .int .u64 (iv dd) ∧ Hid (dd < LB ∧ R1 / (nv g m * F) ≤ dd) ∧ Below w7.heap.size w7 wr2) (fun d _ => (intOf d).toNat)
            case atStart => exact ⟨D0, rfl, HD0, Below.refl _ _⟩
            case round =>
              obtain ⟨dd, rfl, hdd, hb9⟩ := hrel
              have hd0 := iv_nonneg dd
              have hd1 := iv_limb hdd.out.1
              have hmo : iv dd % 4294967296 = iv dd := Int.emod_eq_of_lt hd0 (by omega)
              have hV9 := ((hV7.more hb7'.size).below hb9).more hb9.size
              have hr9 := (hr8.below hb9).more hb9.size
              go_wp2_with fail
              first | rw [hmo] | skip
              refine (refSmall_any dd hdd.out.1 _).mono ?_
              rintro _ w10 ⟨_, rfl, hm10⟩
              obtain ⟨lD, nD, cD, fD, rfl, hrD, hdD, hbD⟩ := hm10
              have hnD : nD ≤ 1 := by
                rcases Nat.lt_or_ge 1 nD with h | h
                · have h1 := hdD.ok.top_le (by omega)
                  rw [hdD.eq] at h1
                  have h2 : LB ^ 1 ≤ LB ^ (nD - 1) := pow_le_of (by omega)
                  rw [Nat.pow_one] at h2
                  have := hdd.out.1
                  omega
                · exact h
              have HDD := Lib.hid hdD
              have hV10 := (hV9.below hbD).more hbD.size
              have hr10 := (hr9.below hbD).more hbD.size
              have hb10 := hb9.trans (hbD.mono hb9.size)
              clear hdD hV9 hr9 hb9 hbD
              go_wp2_with fail
              refine (refTimes_any _ lD s cV nD cD v fD w10 hV10 hrD HDV.out.ok.1 HDD.out.ok.1 (by omega) (by omega)).mono ?_
              rintro _ w11 ⟨_, rfl, hm11⟩
              rw [HDV.out.eq, HDD.out.eq] at hm11
              obtain ⟨lP, nP, cP, fP, rfl, hrP, hdP, hbP⟩ := hm11
              have hr11 := (hr10.below hbP).more hbP.size
              have hb11 := hb10.trans (hbP.mono hb10.size)
              have hord := order_any lP rA1 nP cP k1 rc1 fP f1 _ _ w11 hrP hr11 hdP.ok HDG.out.ok
              rw [hdP.eq, HDG.out.eq] at hord
              have HORD := Lib.hid hord
              clear hord hrD hrP hdP hV10 hr10 hb10 hbP hr11
              by_cases hgt : R1 < nv g m * F * dd
              · rw [cn_gt hgt] at HORD
                have hdn : 1 ≤ dd ∧ R1 / (nv g m * F) ≤ dd - 1 := by
                  have h1 : R1 / (nv g m * F) < dd := by rw [Nat.div_lt_iff_lt_mul hDpos, Nat.mul_comm]; exact hgt
                  exact ⟨Nat.lt_of_le_of_lt (Nat.zero_le _) h1, Nat.le_sub_one_of_lt h1⟩
                have hdm : iv (dd - 1) = iv dd - 1 := by simp only [iv_eq]; omega
                have hd2 : 1 ≤ iv dd := by rw [iv_eq]; omega
                have HDN := Lib.hid hdn
                have HDM := Lib.hid hdm
                clear hgt hdn hdm
                go_wp2_with fail
                refine HORD.out.mono ?_
                rintro _ _ ⟨rfl, d9, rfl⟩
                go_wp2_with fail
                go_roundw
                case rel => exact ⟨dd - 1, by rw [HDM.out], ⟨by have := hdd.out.1; omega, HDN.out.2⟩, hb11.trans ((Below.drewN _ d9).mono hb11.size)⟩
                case measure => simp [intOf] <;> omega
              · have hcn : cn (nv g m * F * dd) R1 ≤ 0 := by
                  rcases Nat.lt_or_ge (nv g m * F * dd) R1 with h | h
                  · rw [cn_lt h]; decide
                  · rw [cn_eq (by omega)]; decide
                have hdq : dd = R1 / (nv g m * F) := by
                  have h1 : dd ≤ R1 / (nv g m * F) := by rw [Nat.le_div_iff_mul_le hDpos, Nat.mul_comm]; omega
                  have := hdd.out.2
                  omega
                have HDQ := Lib.hid hdq
                have hcn' : ¬ 0 < cn (nv g m * F * dd) R1 := by omega
                clear hgt hdq hcn
                generalize cn (nv g m * F * dd) R1 = c9 at *
                go_wp2_with fail
                refine HORD.out.mono ?_
                rintro _ _ ⟨rfl, d9, rfl⟩
                go_wp2_with fail
                have hb12 := hb11.trans ((Below.drewN w11 d9).mono hb11.size)
                generalize w11.drewN d9 = w12 at *
                clear hb11 HORD HDD
                have hV12 := ((hV7.more hb7'.size).below hb12).more hb12.size
                have hr12 := (hr8.below hb12).more hb12.size
                refine (refSmall_any dd hdd.out.1 w12).mono ?_
                rintro _ w13 ⟨_, rfl, hm13⟩
                obtain ⟨lE, nE, cE, fE, rfl, hrE, hdE, hbE⟩ := hm13
                have hnE : nE ≤ 1 := by
                  rcases Nat.lt_or_ge 1 nE with h | h
                  · have h1 := hdE.ok.top_le (by omega)
                    rw [hdE.eq] at h1
                    have h2 : LB ^ 1 ≤ LB ^ (nE - 1) := pow_le_of (by omega)
                    rw [Nat.pow_one] at h2
                    have := hdd.out.1
                    omega
                  · exact h
                have HDE := Lib.hid hdE
                have hV13 := (hV12.below hbE).more hbE.size
                have hr13 := (hr12.below hbE).more hbE.size
                have hb13 := hb12.trans (hbE.mono hb12.size)
                clear hdE hV12 hr12 hb12 hbE
                go_wp2_with fail
                refine (refTimes_any _ lE s cV nE cE v fE w13 hV13 hrE HDV.out.ok.1 HDE.out.ok.1 (by omega) (by omega)).mono ?_
                rintro _ w14 ⟨_, rfl, hm14⟩
                rw [HDV.out.eq, HDE.out.eq] at hm14
                obtain ⟨lM, nM, cM, fM, rfl, hrM, hdM, hbM⟩ := hm14
                have hr14 := (hr13.below hbM).more hbM.size
                have hb14 := hb13.trans (hbM.mono hb13.size)
                have hDq : nv g m * F * dd ≤ R1 := by rw [HDQ.out]; exact Nat.mul_div_le _ _
                have hMi := refMinus_own rA1 lM k1 rc1 nM cM f1 fM w14 hr14 hrM HDG.out.ok hdM.ok (by omega) (by rw [hdM.eq, HDG.out.eq]; exact hDq)
                rw [hdM.eq, HDG.out.eq] at hMi
                have HMI := Lib.hid hMi
                have hrem : R1 - nv g m * F * dd = R1 % (nv g m * F) := by
                  rw [HDQ.out]
                  have := Nat.div_add_mod R1 (nv g m * F)
                  omega
                have HREM := Lib.hid hrem
                clear hMi hrE hrM hdM hV13 hr13 hb13 hbM hr14 hDq hrem
                go_wp2_with fail
                refine HMI.out.mono ?_
                rintro _ w15 ⟨rA2, k2, rc2, S2, rfl, hr15, hd15, hb15, hfr15⟩
                have hb15' := hb14.trans (hb15.mono hb14.size)
                have hq15 : Row w15 Qb J q := hq7.keep (hb15'.block _ hq7.lt)
                have hfz := hq15.frozen p
                have hcq := hq15.cell (show p < J by omega)
                have hset := hq15.set p dd
                have hfr15' : Fresh w6.heap.size w15 rA2 k2 S2 := hfr15.mono (Nat.le_trans hsz7 hb14.size)
                have hfar := hr15.setFar (i := p) (u := .int .u32 (iv dd)) hfr15' hQ2
                have hbz := (hb7'.trans (hb15'.mono hb7'.size)).setCell (p := ⟨Qb, p, none⟩) hQ3 (.int .u32 (iv dd))
                have hk2 : k2 ≤ 1030 := by
                  have h1 : R1 - nv g m * F * dd < LB ^ s := by
                    rw [HREM.out]
                    exact Nat.lt_trans (Nat.mod_lt _ hDpos) (by rw [← HDV.out.eq]; exact HDV.out.ok.lt)
                  rcases Nat.lt_or_ge s k2 with h | h
                  · have h2 := hd15.ok.top_le (by omega)
                    rw [hd15.eq] at h2
                    have h3 : LB ^ s ≤ LB ^ (k2 - 1) := pow_le_of (by omega)
                    omega
                  · omega
                have hszz : w6.heap.size ≤ (w15.setCell ⟨Qb, p, none⟩ (.int .u32 (iv dd))).heap.size := by
                  rw [show (w15.setCell ⟨Qb, p, none⟩ (.int .u32 (iv dd))).heap.size = w15.heap.size by simp [World.setCell]]
                  exact Nat.le_trans hsz7 (Nat.le_trans hb14.size hb15.size)
                have hfin := HST3.out
                rw [← HDQ.out, ← HREM.out, ← hd15.eq] at hfin
                have HFIN : Hid ((∀ j, j < k2 → S2 j < LB) ∧ Ov x N J (nv g m * F) (fun j => if j = p then dd else q j) (nv S2 k2) p ∧ (p < J → Val k2 S2 ∧ Fresh w6.heap.size (w15.setCell ⟨Qb, p, none⟩ (.int .u32 (iv dd))) rA2 k2 S2)) :=
                  Lib.hid ⟨hd15.ok.1, hfin, fun _ => ⟨hd15.ok, hfar.2⟩⟩
                have HFAR := Lib.hid hfar.1
                have HSET := Lib.hid hset
                have HBZ := Lib.hid hbz
                have HSZ := Lib.hid hszz
                clear hr15 hd15 hb15 hfr15 hb15' hfr15' hfar hbz hset hfin hszz hb14 HMI HREM
                generalize hgd : iv dd = dv at *
                clear hgd
                go_wp2_with fail
                go_roundw
                case rel => exact ⟨p, rA2, k2, rc2, S2, _, by omega, rfl, rfl, HFAR.out, HSET.out, HBZ.out, HSZ.out, hk2, HFIN.out⟩
                case measure => simp [intOf] <;> omega

end Go.Proofs.Ytoonhjeiommhcaa

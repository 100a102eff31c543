/- The contract of the reference's Over: long division. Conditions as premises: the lists read, and are valid; the divisor is not 0. -/
import Derived.Test.YtoonhjeiommhcaaOwnMin
import Derived.Test.YtoonhjeiommhcaaDivLong
import Derived.Test.YtoonhjeiommhcaaNrA
namespace Go.Proofs.Ytoonhjeiommhcaa
open Go.RowKit Go.Shelf

/-- a whole list behind one limb -/
theorem app_cons {w : World} {ops : Array Oper} {rest : List Oper} {o : Oper} {a : Act} {Q : Exit → Act → World → Prop} (hgd : o.guard = none) (s x : Operand)
    (ho : o.op = .call { callee := .builtin .append, args := #[s, x], argTypes := #[23, 23] }) {A : Option Addr} {n c B y : Nat} {f : Nat → Nat} (hr : Rs w B A n c f) (hB : B ≤ w.heap.size) (hn : n ≤ 4096) (hy : y < 4294967296)
    (hs : a.eval s = .slice (some ⟨w.heap.size, 0, none⟩) 1 1) (hx : a.eval x = .slice A n c)
    (h : ∀ A' c' w', Rs w' w'.heap.size A' (1 + n) c' (fun j => if j = 0 then y else f (j - 1)) → Below w.heap.size w w' → wpList Try.prog ops Q rest (a.put o.dst (.slice A' (1 + n) c')) w') :
    wpList Try.prog ops Q (o :: rest) a (w.alloc (.cells #[.int .u32 (iv y)] 30)) := by
  have hb0 : Below w.heap.size w (w.alloc (.cells #[.int .u32 (iv y)] 30)) := (Below.refl _ _).alloc (Nat.le_refl _) _
  have hrow : (w.alloc (.cells #[.int .u32 (iv y)] 30)).ownsRow w.heap.size 30 1 (.slice (some ⟨w.heap.size, 0, none⟩) 1 1) 1 [.int .u32 (iv y)] :=
    ⟨rfl, .inr ⟨w.heap.size, 1, #[.int .u32 (iv y)], rfl, Nat.le_refl _, heap_alloc_new _ _, Nat.le_refl _, by unfold maxLen; omega, rfl, rfl⟩⟩
  obtain ⟨i0, hi, hz0, hz1, hz2⟩ := info_parts info32
  have hus : us (fun j => if j = 0 then y else f (j - 1)) (1 + n) = [.int .u32 (iv y)] ++ us f n := by
    unfold us
    rw [Nat.add_comm, List.range_succ_eq_map]
    simp [Function.comp_def]
  have fin : ∀ v' w', w'.ownsRow w.heap.size 30 1 v' (1 + n) ([.int .u32 (iv y)] ++ us f n) → (w.alloc (.cells #[.int .u32 (iv y)] 30)).grownBy w' (some w.heap.size) → wpList Try.prog ops Q rest (a.put o.dst v') w' := fun v' w' h1 h2 => by
    rw [← hus] at h1
    obtain ⟨A', c', rfl, hr'⟩ := Go.Proofs.Ytoonhjeiommhcaa.Own.rs (f := fun j => if j = 0 then y else f (j - 1)) h1 (fun j hj => by
      by_cases e : j = 0
      · simp [e, hy]
      · simp [e]; exact hr.bd _ (by omega))
    exact h A' c' w' hr' (((Below.refl _ w).alloc (Nat.le_refl _) _).grown h2 (by simp) (fun j hj => by cases hj; exact Nat.le_refl _))
  rcases Nat.eq_zero_or_pos n with e | e
  · subst e
    have hrun : (Builtin.append_ #[23, 23] o.type #[.slice (some ⟨w.heap.size, 0, none⟩) 1 1, .slice A 0 c]).run Try.prog (w.alloc (.cells #[.int .u32 (iv y)] 30)) = .ok (.slice (some ⟨w.heap.size, 0, none⟩) 1 1) (w.alloc (.cells #[.int .u32 (iv y)] 30)) := by
      rcases A with _ | a0 <;> simp [Builtin.append_, run_underlying Try.underlying23, sizeOf, typeInfo, hi, hz1, Builtin.lenOf, Builtin.firstCells, loadCells, loadCellsFrom, storeCells, Sem.run_bind, Sem.run_pure, Result.andThen]
    refine wpList_plain hgd fun K hK => ?_
    unfold Oper.wp execOp
    simp only [ho, resolve, invoke, builtin, Sem.run_bind, Sem.run_pure, Result.andThen_ok, List.map_toArray, List.map_cons, List.map_nil, hs, hx, hrun]
    refine hK _ _ (fin _ _ ?_ ⟨rfl, rfl, rfl, Nat.le_refl _, fun _ _ _ => rfl⟩)
    simpa [us] using hrow
  · obtain ⟨b, off, rfl, hb, hc⟩ := hr.cell e
    refine wpList_append_own_at _ hgd s x 23 ho w.heap.size 30 i0 (.int .u32 0) 1 4 Try.underlying23 hi hz0 hz1 hz2 rfl (by decide) _ 1 _ hs hrow ⟨b, off, none⟩ n c (us f n) hx (by rw [us_length, Nat.mul_one]) ?_ ?_ (by unfold maxLen; omega) (by omega) (by simp)
      (fun v' w' h1 h2 _ _ => fin v' w' h1 h2)
    · intro j u hj
      obtain ⟨hjn, rfl⟩ := us_mem hj
      rw [add_addr, hb0.cell (p := ⟨b, off + j, none⟩) (by show b < _; omega)]
      exact hc j hjn
    · intro u hu
      obtain ⟨j, hj⟩ := List.mem_iff_getElem?.1 hu
      obtain ⟨_, rfl⟩ := us_mem hj
      rfl

/-- what the loop of Over keeps -/
structure Ov (x : Nat → Nat) (N J D : Nat) (q : Nat → Nat) (R k : Nat) : Prop where
  eq : hi x N k = D * hi q J k + R
  lt : R < D
  ql : ∀ i, q i < LB

theorem Ov.start {x v : Nat → Nat} {N J s D : Nat} (hx : ∀ j, j < N → x j < LB) (hv : Val s v) (hs : 1 ≤ s) (hJ : J + s = N + 1) (hD : nv v s = D) : Ov x N J D (fun _ => 0) (hi x N J) J := by
  refine ⟨by rw [hi_top, Nat.mul_zero, Nat.zero_add], ?_, fun _ => LB_pos⟩
  have h1 : hi x N J < LB ^ (N - J) := nv_lt _ fun j hj => hx _ (by omega)
  have h2 := hv.top_le (by omega)
  rw [show N - J = s - 1 by omega] at h1
  omega

/-- a round: the rest with one limb more, its quotient and what is left -/
theorem Ov.step {x q : Nat → Nat} {N J D R p : Nat} (h : Ov x N J D q R (p + 1)) (hx : ∀ j, j < N → x j < LB) (hp : p < J) (hJN : J ≤ N) :
    R * LB + x p < D * LB ∧ (R * LB + x p) / D < LB ∧ Ov x N J D (fun j => if j = p then (R * LB + x p) / D else q j) ((R * LB + x p) % D) p := by
  have hD : 0 < D := Nat.lt_of_le_of_lt (Nat.zero_le _) h.lt
  have h1 : R * LB + x p < D * LB := by
    have h2 : (R + 1) * LB ≤ D * LB := Nat.mul_le_mul_right _ h.lt
    rw [Nat.add_mul, Nat.one_mul] at h2
    have := hx p (by omega)
    omega
  have h2 : (R * LB + x p) / D < LB := by rw [Nat.div_lt_iff_lt_mul hD, Nat.mul_comm LB D]; exact h1
  refine ⟨h1, h2, ?_, Nat.mod_lt _ hD, fun i => by
    show (if i = p then _ else q i) < LB
    split
    · exact h2
    · exact h.ql i⟩
  rw [hi_step x N p (by omega), h.eq, hi_step _ J p hp, nv_hi_congr (g := q) (k := p + 1) (fun j a _ => if_neg (by omega))]
  have e2 := Nat.div_add_mod (R * LB + x p) D
  simp only [↓reduceIte]
  rw [Nat.mul_add, Nat.add_mul, Nat.mul_assoc D]
  omega

theorem Ov.done {x q : Nat → Nat} {N J D R n m F : Nat} (h : Ov x N J D q R 0) (hx : nv x N = n * F) (hD : D = m * F) (hF : 0 < F) (hm : 0 < m) : nv q J = n / m ∧ R / F = n % m := by
  have h1 := h.eq
  rw [hi_zero, hi_zero, hx, hD] at h1
  have h2 := h.lt
  rw [hD] at h2
  have h4 : R / F < m := by rw [Nat.div_lt_iff_lt_mul hF]; exact h2
  have h3 : n = m * nv q J + R / F := by
    have h5 : n = n * F / F := (Nat.mul_div_cancel _ hF).symm
    rw [h1, show m * F * nv q J = F * (m * nv q J) by ac_rfl, Nat.mul_add_div hF] at h5
    exact h5
  rw [h3, Nat.mul_add_div hm, Nat.div_eq_of_lt h4, Nat.add_zero, Nat.mul_add_mod, Nat.mod_eq_of_lt h4]
  exact ⟨rfl, rfl⟩

/-- the first limbs tell a digit of the quotient from above -/
theorem lead_ge {v : Nat → Nat} {R1 D L s : Nat} (hs : 1 ≤ s) (hD : nv v s = D) (hv : v (s - 1) ≠ 0) (hL : L = R1 / LB ^ (s - 1)) : R1 / D ≤ L / v (s - 1) := by
  obtain ⟨t, rfl⟩ : ∃ t, s = t + 1 := ⟨s - 1, by omega⟩
  simp only [Nat.add_sub_cancel] at *
  rw [Nat.le_div_iff_mul_le (by omega)]
  have hp : 0 < LB ^ t := Nat.pow_pos LB_pos
  have h1 : v t * LB ^ t ≤ D := by rw [← hD, nv]; omega
  have h2 : R1 / D * D ≤ R1 := Nat.div_mul_le_self _ _
  have h3 : R1 / D * (v t * LB ^ t) ≤ R1 := Nat.le_trans (Nat.mul_le_mul_left _ h1) h2
  rw [← Nat.mul_assoc] at h3
  have h4 := (Nat.le_div_iff_mul_le hp).2 h3
  omega

theorem lead_lt {R1 D s : Nat} {v : Nat → Nat} (hs : 1 ≤ s) (hv : ∀ j, j < s → v j < LB) (hD : nv v s = D) (h : R1 < D * LB) : R1 / LB ^ (s - 1) < LB * LB := by
  have hp : 0 < LB ^ (s - 1) := Nat.pow_pos LB_pos
  rw [Nat.div_lt_iff_lt_mul hp]
  have h1 := nv_lt s hv
  rw [hD, show s = s - 1 + 1 by omega, Nat.pow_succ] at h1
  have h2 : D * LB ≤ LB ^ (s - 1) * LB * LB := Nat.mul_le_mul_right _ (Nat.le_of_lt h1)
  have e : LB * LB * LB ^ (s - 1) = LB ^ (s - 1) * LB * LB := by ac_rfl
  omega

theorem hi_div {f : Nat → Nat} {k s : Nat} (hf : ∀ j, j < k → f j < LB) (h : s ≤ k) : hi f k s = nv f k / LB ^ s := by
  have h1 := hi_split f k s h
  have h2 := nv_lt s (f := f) (fun j hj => hf j (by omega))
  rw [h1, Nat.mul_comm, Nat.add_comm, Nat.mul_add_div (Nat.pow_pos LB_pos), Nat.div_eq_of_lt h2, Nat.add_zero]

end Go.Proofs.Ytoonhjeiommhcaa

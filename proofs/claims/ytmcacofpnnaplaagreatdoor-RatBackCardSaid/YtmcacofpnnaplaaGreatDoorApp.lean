/- Appends to lists of limbs of the call's own: one limb; a whole list onto an empty one. Conditions as premises. -/
import Derived.Test.YtmcacofpnnaplaaGreatDoorAns
namespace Go.Proofs.YtmcacofpnnaplaaGreatDoor
open Go.RowKit Go.Shelf

theorem Rs.zero (w : World) (B : Nat) (A : Option Addr) (f : Nat → Nat) : Rs w B A 0 0 f := ⟨Nat.le_refl _, by omega, fun j h => by omega, fun h => by omega⟩
/-- one limb behind an own list -/
theorem app_own {w0 wr : World} {ops : Array Oper} {rest : List Oper} {o : Oper} {a : Act} {Q : Exit → Act → World → Prop} (hgd : o.guard = none) (s x : Operand)
    (ho : o.op = .call { callee := .builtin .append, args := #[s, x], argTypes := #[23, 23] }) {v : Value} {k : Nat} {f : Nat → Nat} {y : Int} (hown : Own wr w0.heap.size v k f) (hb : Below w0.heap.size w0 wr)
    (hs : a.eval s = v) (hx : a.eval x = .slice (some ⟨wr.heap.size, 0, none⟩) 1 1) (hy : iv (f k) = y) (hk : k < 5000)
    (h : ∀ v' w', Own w' w0.heap.size v' (k + 1) f → Below w0.heap.size w0 w' → wpList Tryz.prog ops Q rest (a.put o.dst v') w') :
    wpList Tryz.prog ops Q (o :: rest) a (wr.alloc (.cells #[.int .u32 y] 48)) := by
  obtain ⟨i0, hi, hz0, hz1, hz2⟩ := info_parts info32
  have hsz := hb.size
  refine wpList_append_own_at _ hgd s x 23 ho w0.heap.size 48 i0 (.int .u32 0) 1 4 Tryz.underlying23 hi hz0 hz1 hz2 rfl (by decide) v k _ hs (World.ownsRow.alloc hown _) ⟨wr.heap.size, 0, none⟩ 1 1 [.int .u32 y] hx rfl ?_ ?_ ?_ ?_ ?_
    (fun v' w' h1 h2 _ _ => h v' w' (Own.snoc (by rw [hy]; exact h1) rfl) (snoc_below hown hb (Nat.le_refl _) hsz h2))
  · intro j u hj
    rcases j with _ | j
    · simp at hj; subst hj; exact cell_new1 _ _ rfl _ _
    · simp at hj
  · intro u hu; simp at hu; subst hu; rfl
  · unfold maxLen; omega
  · omega
  · simp only [World.size_alloc]; omega

theorem us_mem {f : Nat → Nat} {n j : Nat} {u : Value} (h : (us f n)[j]? = some u) : j < n ∧ u = .int .u32 (iv (f j)) := by
  have hj : j < n := by
    have h2 := List.getElem?_eq_some_iff.1 h
    rw [← us_length f n]; exact h2.1
  rw [us_get f n j hj] at h
  exact ⟨hj, by injection h with h; exact h.symm⟩

theorem add_addr (b off j : Nat) : (⟨b, off, none⟩ : Addr).add j = ⟨b, off + j, none⟩ := by
  by_cases e : j = 0
  · subst e; simp [Addr.add]
  · simp [Addr.add, e]

theorem run_append_none (ty : TypeId) (g : Addr) (A : Option Addr) (c : Nat) (w : World) : (Builtin.append_ #[23, 23] ty #[.slice (some g) 0 0, .slice A 0 c]).run Tryz.prog w = .ok (.slice (some g) 0 0) w := by
  obtain ⟨i0, hi, hz0, hz1, hz2⟩ := info_parts info32
  rcases A with _ | a0 <;> simp [Builtin.append_, run_underlying Tryz.underlying23, sizeOf, typeInfo, hi, hz1, Builtin.lenOf, Builtin.firstCells, loadCells, loadCellsFrom, storeCells, Sem.run_bind, Sem.run_pure, Result.andThen]
/-- a whole list behind an empty one -/
theorem app_all {w : World} {ops : Array Oper} {rest : List Oper} {o : Oper} {a : Act} {Q : Exit → Act → World → Prop} (hgd : o.guard = none) (s x : Operand)
    (ho : o.op = .call { callee := .builtin .append, args := #[s, x], argTypes := #[23, 23] }) {A : Option Addr} {n c B : Nat} {f : Nat → Nat} (hr : Rs w B A n c f) (hB : B ≤ w.heap.size) (hn : n ≤ 4096)
    (hs : a.eval s = .slice (some ⟨w.heap.size, 0, none⟩) 0 0) (hx : a.eval x = .slice A n c)
    (h : ∀ A' c' w', Rs w' w'.heap.size A' n c' f → Below w.heap.size w w' → wpList Tryz.prog ops Q rest (a.put o.dst (.slice A' n c')) w') :
    wpList Tryz.prog ops Q (o :: rest) a (w.alloc (.cells #[] 48)) := by
  have hb0 : Below w.heap.size w (w.alloc (.cells #[] 48)) := (Below.refl _ _).alloc (Nat.le_refl _) _
  have hrow : (w.alloc (.cells #[] 48)).ownsRow w.heap.size 48 1 (.slice (some ⟨w.heap.size, 0, none⟩) 0 0) 0 [] :=
    World.ownsRow_made (base := w.heap.size) (e := 48) (size := 1) w #[] 0 (Nat.le_refl _) (by unfold maxLen; omega) rfl
  rcases Nat.eq_zero_or_pos n with e | e
  · subst e
    have hk := h (some ⟨w.heap.size, 0, none⟩) 0 _ (Rs.zero _ _ _ _) hb0
    have hrun := run_append_none o.type (⟨w.heap.size, 0, none⟩) A c (w.alloc (.cells #[] 48))
    refine wpList_plain hgd fun K hK => ?_
    unfold Oper.wp execOp
    simp only [ho, resolve, invoke, builtin, Sem.run_bind, Sem.run_pure, Result.andThen_ok, List.map_toArray, List.map_cons, List.map_nil, hs, hx, hrun]
    exact hK _ _ hk
  · obtain ⟨b, off, rfl, hb, hc⟩ := hr.cell e
    obtain ⟨i0, hi, hz0, hz1, hz2⟩ := info_parts info32
    refine wpList_append_own_at _ hgd s x 23 ho w.heap.size 48 i0 (.int .u32 0) 1 4 Tryz.underlying23 hi hz0 hz1 hz2 rfl (by decide) _ 0 _ hs hrow ⟨b, off, none⟩ n c (us f n) hx (by rw [us_length, Nat.mul_one]) ?_ ?_ (by unfold maxLen; omega) (by omega) (by simp)
      (fun v' w' h1 h2 _ _ => ?_)
    · intro j u hj
      obtain ⟨hjn, rfl⟩ := us_mem hj
      rw [add_addr, hb0.cell (p := ⟨b, off + j, none⟩) (by show b < _; omega)]
      exact hc j hjn
    · intro u hu
      obtain ⟨j, hj⟩ := List.mem_iff_getElem?.1 hu
      obtain ⟨_, rfl⟩ := us_mem hj
      rfl
    · rw [Nat.zero_add, List.nil_append] at h1
      obtain ⟨A', c', rfl, hr'⟩ := Go.Proofs.YtmcacofpnnaplaaGreatDoor.Own.rs (f := f) h1 hr.bd
      exact h A' c' w' hr' (((Below.refl _ w).alloc (Nat.le_refl _) _).grown h2 (by simp) (fun j hj => by have := (World.ownsRow.lt hrow j hj).1; omega))

end Go.Proofs.YtmcacofpnnaplaaGreatDoor

/- Contracts over numbers: what Add, Sub, Mul, Pow and Alike make of lists that stand for numbers. Conditions as premises: the results are short enough. -/
import Derived.Test.YtmcacofpnnaplaaGreatDoorPow
import Derived.Test.YtmcacofpnnaplaaGreatDoorAwake2
namespace Go.Proofs.YtmcacofpnnaplaaGreatDoor
open Go.RowKit

theorem one_dig : Dig 1 (l1 1) 1 := ⟨val_l1 (by omega) (by omega), nv_l1 1⟩
/-- the value v is a valid list of the number N in the world w -/
def Nr (w : World) (N : Nat) (v : Value) : Prop := ∃ A n c f, v = .slice A n c ∧ Rs w w.heap.size A n c f ∧ Dig n f N
theorem Nr.below {w w' : World} {N : Nat} {v : Value} (h : Nr w N v) (hb : Below w.heap.size w w') : Nr w' N v := by
  obtain ⟨A, n, c, f, e, hr, hd⟩ := h; exact ⟨A, n, c, f, e, (hr.below hb).more hb.size, hd⟩
theorem Made.nr {w w' : World} {N : Nat} {v : Value} (h : Made w N v w') : Nr w' N v ∧ Below w.heap.size w w' := by
  obtain ⟨A, n, c, f, e, hr, hd, hb⟩ := h; exact ⟨⟨A, n, c, f, e, hr, hd⟩, hb⟩
theorem Nr.chk {N : Nat} {n : Nat} {f : Nat → Nat} (hd : Dig n f N) (hN : N < LB ^ NL) : chk n f = 0 := chk_ok (by have := hd.len_NL hN; omega) hd.ok

theorem alikeN {w : World} {N : Nat} {v u : Value} (h : Nr w N v) (k : Nr w N u) :
    Calls Tryz.prog 52 #[v, u] w fun e w' => e = .returned (.bool true) ∧ Qt w w' := by
  obtain ⟨A, n, c, f, rfl, hr, hd⟩ := h
  obtain ⟨A', n', c', f', rfl, hr', hd'⟩ := k
  obtain ⟨rfl, he⟩ := hd.unique hd'
  exact alike_true A A' n c c' f f' _ _ w hr hr' he

theorem addN {w : World} {N M : Nat} {v u : Value} (h : Nr w N v) (k : Nr w M u) (hN : N < LB ^ NL) (hM : M < LB ^ NL) (hs : N + M < LB ^ NL) :
    Calls Tryz.prog 127 #[v, u] w fun e w' => ∃ x, e = .returned (.tuple #[x, .int .i64 0]) ∧ Nr w' (N + M) x ∧ Below w.heap.size w w' := by
  obtain ⟨A, n, c, f, rfl, hr, hd⟩ := h
  obtain ⟨A', n', c', f', rfl, hr', hd'⟩ := k
  refine (natAdd_any A A' n c n' c' f f' w hr hr').mono ?_
  rintro e w' ⟨x, he, hm⟩
  have h2 : chk2 n f n' f' = 0 := by unfold chk2; rw [if_pos (Nr.chk hd hN)]; exact Nr.chk hd' hM
  rw [show addE n f n' f' = 0 by unfold addE; rw [if_pos h2, hd.eq, hd'.eq]; exact fitE_ok hs, zr_ok, hd.eq, hd'.eq] at hm
  rw [show addE n f n' f' = 0 by unfold addE; rw [if_pos h2, hd.eq, hd'.eq]; exact fitE_ok hs] at he
  exact ⟨x, he, hm.nr⟩

theorem subN {w : World} {N M : Nat} {v u : Value} (h : Nr w N v) (k : Nr w M u) (hN : N < LB ^ NL) (hM : M < LB ^ NL) (hs : M ≤ N) :
    Calls Tryz.prog 130 #[v, u] w fun e w' => ∃ x, e = .returned (.tuple #[x, .int .i64 0]) ∧ Nr w' (N - M) x ∧ Below w.heap.size w w' := by
  obtain ⟨A, n, c, f, rfl, hr, hd⟩ := h
  obtain ⟨A', n', c', f', rfl, hr', hd'⟩ := k
  refine (natSub_any A A' n c n' c' f f' w hr hr').mono ?_
  rintro e w' ⟨x, he, hm⟩
  have h2 : chk2 n f n' f' = 0 := by unfold chk2; rw [if_pos (Nr.chk hd hN)]; exact Nr.chk hd' hM
  have h3 : subE n f n' f' = 0 := by unfold subE; rw [if_pos h2, hd.eq, hd'.eq, if_neg (by omega)]
  rw [h3, zr_ok, hd.eq, hd'.eq] at hm
  rw [h3] at he
  exact ⟨x, he, hm.nr⟩

theorem mulN {w : World} {N M : Nat} {v u : Value} (h : Nr w N v) (k : Nr w M u) (hN : N < LB ^ NL) (hM : M < LB ^ NL) (hs : N * M < LB ^ NL) :
    Calls Tryz.prog 111 #[v, u] w fun e w' => ∃ x, e = .returned (.tuple #[x, .int .i64 0]) ∧ Nr w' (N * M) x ∧ Below w.heap.size w w' := by
  obtain ⟨A, n, c, f, rfl, hr, hd⟩ := h
  obtain ⟨A', n', c', f', rfl, hr', hd'⟩ := k
  refine (natMul_any A A' n c n' c' f f' w hr hr').mono ?_
  rintro e w' ⟨x, he, hm⟩
  have h2 : chk2 n f n' f' = 0 := by unfold chk2; rw [if_pos (Nr.chk hd hN)]; exact Nr.chk hd' hM
  have h3 : mulE n f n' f' = 0 := by unfold mulE; rw [if_pos h2, hd.eq, hd'.eq]; exact fitE_ok hs
  rw [h3, zr_ok, hd.eq, hd'.eq] at hm
  rw [h3] at he
  exact ⟨x, he, hm.nr⟩

theorem Nr.cast {w : World} {N M : Nat} {v : Value} (h : Nr w N v) (e : N = M) : Nr w M v := e ▸ h
theorem one_lt : Big (1 < LB ^ NL) := Big.mk one_lt_NL
theorem nr_one (w : World) : Nr (w.alloc (.cells #[.int .u32 1] 48)) 1 (.slice (some ⟨w.heap.size, 0, none⟩) 1 1) :=
  ⟨_, 1, 1, l1 1, rfl, (lit1 w 1 1 rfl (by omega)).more (by simp), one_dig⟩


end Go.Proofs.YtmcacofpnnaplaaGreatDoor

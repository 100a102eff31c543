/- Contracts over numbers: what the calls of the laws make of lists that stand for numbers. Conditions as premises: the results are short enough. -/
import Derived.Test.YtoonhjeiommhcaaLawKit
import Derived.Test.YtoonhjeiommhcaaLimbs
import Derived.Test.YtoonhjeiommhcaaAwake2
namespace Go.Proofs.Ytoonhjeiommhcaa
open Go.RowKit

/-- the value v is a valid list of the number N in the world w -/
def Nr (w : World) (N : Nat) (v : Value) : Prop := ∃ A n c f, v = .slice A n c ∧ Rs w w.heap.size A n c f ∧ Dig n f N
theorem Nr.below {w w' : World} {N : Nat} {v : Value} (h : Nr w N v) (hb : Below w.heap.size w w') : Nr w' N v := by
  obtain ⟨A, n, c, f, e, hr, hd⟩ := h; exact ⟨A, n, c, f, e, (hr.below hb).more hb.size, hd⟩
theorem Made.nr {w w' : World} {N : Nat} {v : Value} (h : Made w N v w') : Nr w' N v ∧ Below w.heap.size w w' := by
  obtain ⟨A, n, c, f, e, hr, hd, hb⟩ := h; exact ⟨⟨A, n, c, f, e, hr, hd⟩, hb⟩
theorem Nr.chk {N : Nat} {n : Nat} {f : Nat → Nat} (hd : Dig n f N) (hN : N < LB ^ NL) : chk n f = 0 := chk_ok (by have := hd.len_NL hN; omega) hd.ok

theorem alikeN {w : World} {N : Nat} {v u : Value} (h : Nr w N v) (k : Nr w N u) :
    Calls Try.prog 11 #[v, u] w fun e w' => e = .returned (.bool true) ∧ Qt w w' := by
  obtain ⟨A, n, c, f, rfl, hr, hd⟩ := h
  obtain ⟨A', n', c', f', rfl, hr', hd'⟩ := k
  obtain ⟨rfl, he⟩ := hd.unique hd'
  exact alike_true A A' n c c' f f' _ _ w hr hr' he

theorem addN {w : World} {N M : Nat} {v u : Value} (h : Nr w N v) (k : Nr w M u) (hN : N < LB ^ NL) (hM : M < LB ^ NL) (hs : N + M < LB ^ NL) :
    Calls Try.prog 9 #[v, u] w fun e w' => ∃ x, e = .returned (.tuple #[x, .int .i64 0]) ∧ Nr w' (N + M) x ∧ Below w.heap.size w w' := by
  obtain ⟨A, n, c, f, rfl, hr, hd⟩ := h
  obtain ⟨A', n', c', f', rfl, hr', hd'⟩ := k
  refine (natAdd_any A A' n c n' c' f f' w hr hr').mono ?_
  rintro e w' ⟨x, he, hm⟩
  have h2 : chk2 n f n' f' = 0 := by unfold chk2; rw [if_pos (Nr.chk hd hN)]; exact Nr.chk hd' hM
  rw [show addE n f n' f' = 0 by unfold addE; rw [if_pos h2, hd.eq, hd'.eq]; exact fitE_ok hs, zr_ok, hd.eq, hd'.eq] at hm
  rw [show addE n f n' f' = 0 by unfold addE; rw [if_pos h2, hd.eq, hd'.eq]; exact fitE_ok hs] at he
  exact ⟨x, he, hm.nr⟩

theorem subN {w : World} {N M : Nat} {v u : Value} (h : Nr w N v) (k : Nr w M u) (hN : N < LB ^ NL) (hM : M < LB ^ NL) (hs : M ≤ N) :
    Calls Try.prog 12 #[v, u] w fun e w' => ∃ x, e = .returned (.tuple #[x, .int .i64 0]) ∧ Nr w' (N - M) x ∧ Below w.heap.size w w' := by
  obtain ⟨A, n, c, f, rfl, hr, hd⟩ := h
  obtain ⟨A', n', c', f', rfl, hr', hd'⟩ := k
  refine (natSub_any A A' n c n' c' f f' w hr hr').mono ?_
  rintro e w' ⟨x, he, hm⟩
  have h2 : chk2 n f n' f' = 0 := by unfold chk2; rw [if_pos (Nr.chk hd hN)]; exact Nr.chk hd' hM
  have h3 : subE n f n' f' = 0 := by unfold subE; rw [if_pos h2, hd.eq, hd'.eq, if_neg (by omega)]
  rw [h3, zr_ok, hd.eq, hd'.eq] at hm
  rw [h3] at he
  exact ⟨x, he, hm.nr⟩

theorem mulN {w : World} {N M : Nat} {v u : Value} (h : Nr w N v) (k : Nr w M u) (hN : N < LB ^ NL) (hM : M < LB ^ NL) (hs : N * M < LB ^ NL) :
    Calls Try.prog 14 #[v, u] w fun e w' => ∃ x, e = .returned (.tuple #[x, .int .i64 0]) ∧ Nr w' (N * M) x ∧ Below w.heap.size w w' := by
  obtain ⟨A, n, c, f, rfl, hr, hd⟩ := h
  obtain ⟨A', n', c', f', rfl, hr', hd'⟩ := k
  refine (natMul_any A A' n c n' c' f f' w hr hr').mono ?_
  rintro e w' ⟨x, he, hm⟩
  have h2 : chk2 n f n' f' = 0 := by unfold chk2; rw [if_pos (Nr.chk hd hN)]; exact Nr.chk hd' hM
  have h3 : mulE n f n' f' = 0 := by unfold mulE; rw [if_pos h2, hd.eq, hd'.eq]; exact fitE_ok hs
  rw [h3, zr_ok, hd.eq, hd'.eq] at hm
  rw [h3] at he
  exact ⟨x, he, hm.nr⟩

theorem powN {w : World} {N k : Nat} {v : Value} (h : Nr w N v) (hN : N < LB ^ NL) (hk : k ≤ 10000) (hs : N ^ k < LB ^ NL) :
    Calls Try.prog 16 #[v, .int .i64 k] w fun e w' => ∃ x, e = .returned (.tuple #[x, .int .i64 0]) ∧ Nr w' (N ^ k) x ∧ Below w.heap.size w w' := by
  obtain ⟨A, n, c, f, rfl, hr, hd⟩ := h
  refine (natPow_any A n c f k w hr).mono ?_
  rintro e w' ⟨x, he, hm⟩
  have h3 : powE n f (k : Int) = 0 := by rw [powE_ok (Nr.chk hd hN) hk, hd.eq]; exact fitE_ok hs
  rw [h3, zr_ok, hd.eq, Int.toNat_natCast] at hm
  rw [h3] at he
  exact ⟨x, he, hm.nr⟩

set_option maxHeartbeats 400000 in
theorem sumN {w : World} {N M : Nat} {v u : Value} (h : Nr w N v) (k : Nr w M u) (hN : N < LB ^ NL) (hM : M < LB ^ NL) (hs : N + M < LB ^ NL) :
    Calls Try.prog 25 #[v, u] w fun e w' => ∃ x, e = .returned x ∧ Nr w' (N + M) x ∧ Below w.heap.size w w' := by
  have C := Lib.hid (addN h k hN hM hs)
  clear h k hN hM hs
  go_enter Try.func25, Try.ntmps25
  go_wp2_with fail
  refine C.out.mono ?_
  rintro _ w' ⟨x, rfl, hx⟩
  have H := Lib.hid hx
  clear hx
  go_wp2_with fail
  go_ret
  exact ⟨x, rfl, H.out⟩

set_option maxHeartbeats 400000 in
theorem productN {w : World} {N M : Nat} {v u : Value} (h : Nr w N v) (k : Nr w M u) (hN : N < LB ^ NL) (hM : M < LB ^ NL) (hs : N * M < LB ^ NL) :
    Calls Try.prog 26 #[v, u] w fun e w' => ∃ x, e = .returned x ∧ Nr w' (N * M) x ∧ Below w.heap.size w w' := by
  have C := Lib.hid (mulN h k hN hM hs)
  clear h k hN hM hs
  go_enter Try.func26, Try.ntmps26
  go_wp2_with fail
  refine C.out.mono ?_
  rintro _ w' ⟨x, rfl, hx⟩
  have H := Lib.hid hx
  clear hx
  go_wp2_with fail
  go_ret
  exact ⟨x, rfl, H.out⟩

set_option maxHeartbeats 400000 in
theorem mod21_any (x : Int) (h0 : -9223372036854775808 ≤ x) (h1 : x ≤ 9223372036854775807) (w : World) :
    Calls Try.prog 27 #[.int .i64 x, .int .i64 21] w fun e w' => e = .returned (.int .i64 (x % 21)) ∧ w = w' := by
  have hem : x.tmod 21 = if 0 ≤ x then x % 21 else -((-x) % 21) := by
    by_cases h : 0 ≤ x
    · rw [if_pos h, Int.tmod_eq_emod_of_nonneg h]
    · have h2 := Int.neg_tmod (-x) 21
      rw [Int.neg_neg] at h2
      rw [if_neg h, h2, Int.tmod_eq_emod_of_nonneg (by omega)]
  by_cases hx : x.tmod 21 < 0
  · have he : x.tmod 21 + 21 = x % 21 := by rw [hem] at hx ⊢; split at hx <;> split <;> omega
    have HE := Lib.hid he
    clear he
    have hb : -21 < x.tmod 21 := by rw [hem]; split <;> omega
    clear hem
    go_enter Try.func27, Try.ntmps27
    go_wp2
    go_ret
    exact ⟨ret_int HE.out, rfl⟩
  · have he : x.tmod 21 = x % 21 := by rw [hem] at hx ⊢; split at hx <;> split <;> omega
    clear hem
    have HE := Lib.hid he
    clear he
    go_enter Try.func27, Try.ntmps27
    go_wp2
    go_ret
    exact ⟨ret_int HE.out, rfl⟩

theorem limbsN {A : Option Addr} {n c : Nat} {f : Nat → Nat} {w : World} (h : Rs w w.heap.size A n c f) (hn : n ≤ 1000) :
    Calls Try.prog 24 #[.slice A n c] w fun e w' => ∃ x N, e = .returned x ∧ Nr w' N x ∧ N < LB ^ n ∧ Below w.heap.size w w' := by
  refine (limbs_any A n c f w h hn).mono ?_
  rintro e w' ⟨A', m, c', g, he, hr, hv, hm, hb⟩
  exact ⟨_, nv g m, he, ⟨A', m, c', g, rfl, hr, ⟨hv, rfl⟩⟩, Nat.lt_of_lt_of_le hv.lt (pow_le_of hm), hb⟩

end Go.Proofs.Ytoonhjeiommhcaa

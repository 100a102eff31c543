/- Contracts over numbers: what the calls of the laws make of lists that stand for numbers. Conditions as premises: the results are short enough. -/
import Derived.Test.YtoonhjeiommhcaaLawKit
import Derived.Test.YtoonhjeiommhcaaNrA
import Derived.Test.YtoonhjeiommhcaaLimbs
import Derived.Test.YtoonhjeiommhcaaAwake2
namespace Go.Proofs.Ytoonhjeiommhcaa
open Go.RowKit

set_option maxHeartbeats 400000 in
theorem sumN {w : World} {N M : Nat} {v u : Value} (h : Nr w N v) (k : Nr w M u) (hN : N < LB ^ NL) (hM : M < LB ^ NL) (hs : N + M < LB ^ NL) :
    Calls Try.prog 25 #[v, u] w fun e w' => ∃ x, e = .returned x ∧ Nr w' (N + M) x ∧ Below w.heap.size w w' := by
  have C := Lib.hid (addN h k hN hM hs)
  clear h k hN hM hs
  go_enter Try.func25, Try.ntmps25
  go_wp2_with fail
  refine C.out.mono ?_
  rintro _ w' ⟨x, rfl, hx⟩
  have H := Lib.hid hx
  clear hx
  go_wp2_with fail
  go_ret
  exact ⟨x, rfl, H.out⟩

set_option maxHeartbeats 400000 in
theorem productN {w : World} {N M : Nat} {v u : Value} (h : Nr w N v) (k : Nr w M u) (hN : N < LB ^ NL) (hM : M < LB ^ NL) (hs : N * M < LB ^ NL) :
    Calls Try.prog 26 #[v, u] w fun e w' => ∃ x, e = .returned x ∧ Nr w' (N * M) x ∧ Below w.heap.size w w' := by
  have C := Lib.hid (mulN h k hN hM hs)
  clear h k hN hM hs
  go_enter Try.func26, Try.ntmps26
  go_wp2_with fail
  refine C.out.mono ?_
  rintro _ w' ⟨x, rfl, hx⟩
  have H := Lib.hid hx
  clear hx
  go_wp2_with fail
  go_ret
  exact ⟨x, rfl, H.out⟩

set_option maxHeartbeats 400000 in
theorem mod21_any (x : Int) (h0 : -9223372036854775808 ≤ x) (h1 : x ≤ 9223372036854775807) (w : World) :
    Calls Try.prog 27 #[.int .i64 x, .int .i64 21] w fun e w' => e = .returned (.int .i64 (x % 21)) ∧ w = w' := by
  have hem : x.tmod 21 = if 0 ≤ x then x % 21 else -((-x) % 21) := by
    by_cases h : 0 ≤ x
    · rw [if_pos h, Int.tmod_eq_emod_of_nonneg h]
    · have h2 := Int.neg_tmod (-x) 21
      rw [Int.neg_neg] at h2
      rw [if_neg h, h2, Int.tmod_eq_emod_of_nonneg (by omega)]
  by_cases hx : x.tmod 21 < 0
  · have he : x.tmod 21 + 21 = x % 21 := by rw [hem] at hx ⊢; split at hx <;> split <;> omega
    have HE := Lib.hid he
    clear he
    have hb : -21 < x.tmod 21 := by rw [hem]; split <;> omega
    clear hem
    go_enter Try.func27, Try.ntmps27
    go_wp2
    go_ret
    exact ⟨ret_int HE.out, rfl⟩
  · have he : x.tmod 21 = x % 21 := by rw [hem] at hx ⊢; split at hx <;> split <;> omega
    clear hem
    have HE := Lib.hid he
    clear he
    go_enter Try.func27, Try.ntmps27
    go_wp2
    go_ret
    exact ⟨ret_int HE.out, rfl⟩

theorem limbsN {A : Option Addr} {n c : Nat} {f : Nat → Nat} {w : World} (h : Rs w w.heap.size A n c f) (hn : n ≤ 1000) :
    Calls Try.prog 24 #[.slice A n c] w fun e w' => ∃ x N, e = .returned x ∧ Nr w' N x ∧ N < LB ^ n ∧ Below w.heap.size w w' := by
  refine (limbs_any A n c f w h hn).mono ?_
  rintro e w' ⟨A', m, c', g, he, hr, hv, hm, hb⟩
  exact ⟨_, nv g m, he, ⟨A', m, c', g, rfl, hr, ⟨hv, rfl⟩⟩, Nat.lt_of_lt_of_le hv.lt (pow_le_of hm), hb⟩

end Go.Proofs.Ytoonhjeiommhcaa

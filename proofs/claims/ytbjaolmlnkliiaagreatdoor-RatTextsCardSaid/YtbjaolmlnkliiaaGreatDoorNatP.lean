/- The contract of pairs: an iterator over the limbs of two lists at once. Conditions as premises: the lists read, and their limbs are below ten to the ninth. -/
import Derived.RangeFuncNested
import Derived.RangeFuncBound
import Derived.RangeFuncCalls
import Derived.RangeFuncLeaves
import Derived.RangeFuncBox
import Derived.Shelf.Abstract
import Derived.Shelf.RegionOpen
import Derived.OwnWalkIn
import Derived.TacticsInMore
import Derived.LoopNIn
import Derived.LoopIn
import Derived.Maps.AppendAt
import Derived.Test.YtbjaolmlnkliiaaGreatDoorNatC
import Derived.Test.YtbjaolmlnkliiaaGreatDoorRows
namespace Go.Proofs.YtbjaolmlnkliiaaGreatDoor
open Go.RowKit Go.Shelf
attribute [local go_sem] Oper.semAt_some

/-- two limbs at once -/
abbrev Limb2 := { p : Nat × Nat // p.1 < LB ∧ p.2 < LB }
def enc2 (x : Limb2) : Array Value := #[.int .u32 (iv x.1.1), .int .u32 (iv x.1.2)]
/-- limb j of a list of n, or 0 -/
def pl (f : Nat → Nat) (n j : Nat) : Nat := if j < n then f j else 0
theorem pl_lt {f : Nat → Nat} {n : Nat} (h : ∀ j, j < n → f j < LB) (j : Nat) : pl f n j < LB := by
  unfold pl; split
  · exact h j (by assumption)
  · exact LB_pos
def prs (f g : Nat → Nat) (n m : Nat) (hf : ∀ j, j < n → f j < LB) (hg : ∀ j, j < m → g j < LB) (j : Nat) : Limb2 := ⟨(pl f n j, pl g m j), pl_lt hf j, pl_lt hg j⟩
def upto {α : Type} (f : Nat → α) (k : Nat) : List α := (List.range k).map f
theorem upto_succ {α : Type} (f : Nat → α) (k : Nat) : upto f (k + 1) = upto f k ++ [f k] := by simp [upto, List.range_succ]
theorem upto_length {α : Type} (f : Nat → α) (k : Nat) : (upto f k).length = k := by simp [upto]
theorem upto_get {α : Type} (f : Nat → α) (k j : Nat) (h : j < k) : (upto f k)[j]? = some (f j) := by simp [upto, h]

/-- what a round keeps: what lay below n₀, and the two boxes of the iterator -/
def KpB (n₀ B1 B2 : Nat) (W W' : World) : Prop := Below n₀ W W' ∧ (∀ v, Boxed W B1 23 v → Boxed W' B1 23 v) ∧ (∀ v, Boxed W B2 23 v → Boxed W' B2 23 v)
theorem kpB_t {n₀ B1 B2 : Nat} {A B C : World} (h : KpB n₀ B1 B2 A B) (k : KpB n₀ B1 B2 B C) : KpB n₀ B1 B2 A C := ⟨h.1.trans k.1, fun v hv => k.2.1 v (h.2.1 v hv), fun v hv => k.2.2 v (h.2.2 v hv)⟩
theorem boxed_putObj {W : World} {l : Nat} {o o' : Obj} (h : W.heap[l]? = some o) (hc : o.isCells = false) {B : Nat} {t : TypeId} {v : Value} (hv : Boxed W B t v) : Boxed (W.putObj l o') B t v :=
  hv.kept (grownBy_putObj' W l o') (fun e => by
    obtain rfl : B = l := by injection e
    rw [show W.heap[B]? = _ from hv] at h
    cases h; cases hc)
theorem kpB_b {n₀ B1 B2 : Nat} {w : World} (hn : n₀ ≤ w.heap.size) (W : World) (l : Nat) (o o' : Obj) (hl : w.heap.size ≤ l) (h : W.heap[l]? = some o) (hc : o.isCells = false) (hw : o.isWalk = false) : KpB n₀ B1 B2 W (W.putObj l o') :=
  ⟨belowK_b hn W l o o' hl h hc hw, fun _ hv => boxed_putObj h hc hv, fun _ hv => boxed_putObj h hc hv⟩

set_option maxRecDepth 100000 in
set_option maxHeartbeats 4000000 in
theorem pairs1_in (n : Nat) (hn : 1 ≤ n) (l B1 B2 n₀ len1 cap1 len2 cap2 : Nat) (A1 A2 : Option Addr) (f g : Nat → Nat) (hf : ∀ j, j < len1 → f j < LB) (hg : ∀ j, j < len2 → g j < LB) (hl1 : len1 ≤ 4096) (hl2 : len2 ≤ 4096)
    (J Jx : List Limb2 → World → Prop)
    (hY : ∀ pre x W, J pre W → pre.length < max len1 len2 → YieldAt Fence.wide (n - 1) Tryz.prog l (enc2 x) W fun e W' =>
      (e = .returned (.bool true) ∧ J (pre ++ [x]) W' ∧ KpB n₀ B1 B2 W W') ∨ (e = .returned (.bool false) ∧ Jx (pre ++ [x]) W'))
    (W : World) (hB1 : Boxed W B1 23 (.slice A1 len1 cap1)) (hB2 : Boxed W B2 23 (.slice A2 len2 cap2)) (hr1 : Rs W n₀ A1 len1 cap1 f) (hr2 : Rs W n₀ A2 len2 cap2 g) (h0 : J [] W) :
    CallsIn Fence.wide n Tryz.prog 241 #[.func (.yield l) #[] #[], .pointer (some ⟨B1, 0, none⟩), .pointer (some ⟨B2, 0, none⟩)] W fun e W' => (∃ v, e = .returned v) ∧
      ((∃ ys, ys = upto (prs f g len1 len2 hf hg) (max len1 len2) ∧ J ys W') ∨ (∃ pre, (∃ k, k ≤ max len1 len2 ∧ pre = upto (prs f g len1 len2 hf hg) k) ∧ Jx pre W')) := by
  have hc1 := hB1.cell
  have hc2 := hB2.cell
  obtain ⟨N, hN⟩ : ∃ N, N = max len1 len2 := ⟨_, rfl⟩
  have HN := Lib.hid hN
  rw [← hN]
  rw [← hN] at hY
  refine callsIn_of_wp Tryz.func241 rfl trivial ?_ rfl
  simp only [Tryz.ntmps241, List.size_toArray, List.length_cons, List.length_nil, Nat.reduceAdd, Nat.reduceSub, Array.replicate_succ, Array.replicate_zero, List.push_toArray, List.append_toArray, List.nil_append, List.cons_append]
  clear hN
  gi_wp2
  all_goals
    gi_loopw [12] (fun i wr => ∃ k : Nat, k ≤ N ∧ i = .int .i64 k ∧ J (upto (prs f g len1 len2 hf hg) k) wr ∧ KpB n₀ B1 B2 W wr) (fun i _ => N - (intOf i).toNat)
    case atStart => exact ⟨0, Nat.zero_le _, rfl, h0, Below.refl _ _, fun _ h => h, fun _ h => h⟩
    case round =>
      obtain ⟨k, hk, rfl, hJs, hkp⟩ := hrel
      have hcb1 := (hkp.2.1 _ hB1).cell
      have hcb2 := (hkp.2.2 _ hB2).cell
      have hr1' := hr1.below hkp.1
      have hr2' := hr2.below hkp.1
      by_cases ha : k < len1
      · obtain ⟨b1, off1, rfl, hb1, hcc1⟩ := hr1'.cell (by omega)
        have hck1 := hcc1 k ha
        clear hcc1
        by_cases hb : k < len2
        · obtain ⟨b2, off2, rfl, hb2, hcc2⟩ := hr2'.cell (by omega)
          have hck2 := hcc2 k hb
          clear hcc2
          have hx : (prs f g len1 len2 hf hg k).1.1 = f k := by show pl f len1 k = _; unfold pl; rw [if_pos ha]
          have hy' : (prs f g len1 len2 hf hg k).1.2 = g k := by show pl g len2 k = _; unfold pl; rw [if_pos hb]
          obtain ⟨fn, tmps, assign, body, hy, hR⟩ := hY _ (prs f g len1 len2 hf hg k) wr hJs (by rw [upto_length]; have := HN.out; omega)
          unfold enc2 at hy
          rw [hx, hy'] at hy
          skip
          have HX := Lib.hid hx
          have HY' := Lib.hid hy'
          clear hx hy'
          gi_wp2
          refine hR.mono ?_
          rintro e W3 (⟨rfl, hJ3, hk3⟩ | ⟨rfl, hJx3⟩)
          · have hc1' := (hkp.2.1 _ hB1 |> hk3.2.1 _).cell
            have hc2' := (hkp.2.2 _ hB2 |> hk3.2.2 _).cell
            gi_wp2
            go_roundw
            case rel => exact ⟨k + 1, by have := HN.out; omega, by go_num, by rw [upto_succ]; exact hJ3, kpB_t hkp hk3⟩
            case measure => simp [intOf]; have := HN.out; omega
          · gi_wp2
            refine bodyPost_ret (results_none rfl _ _ _) rfl ?_
            exact ⟨⟨_, rfl⟩, .inr ⟨_, ⟨k + 1, by have := HN.out; omega, (upto_succ _ _).symm⟩, hJx3⟩⟩
        · have hb' : len2 ≤ k := by omega
          first
          | (exfalso; omega)
          | (have hx : (prs f g len1 len2 hf hg k).1.1 = f k := by show pl f len1 k = _; unfold pl; rw [if_pos ha]
             have hy' : (prs f g len1 len2 hf hg k).1.2 = 0 := by show pl g len2 k = _; unfold pl; rw [if_neg hb]
             obtain ⟨fn, tmps, assign, body, hy, hR⟩ := hY _ (prs f g len1 len2 hf hg k) wr hJs (by rw [upto_length]; have := HN.out; omega)
             unfold enc2 at hy
             rw [hx, hy'] at hy
             rw [iv_zero] at hy
             have HX := Lib.hid hx
             have HY' := Lib.hid hy'
             clear hx hy'
             gi_wp2
             refine hR.mono ?_
             rintro e W3 (⟨rfl, hJ3, hk3⟩ | ⟨rfl, hJx3⟩)
             · have hc1' := (hkp.2.1 _ hB1 |> hk3.2.1 _).cell
               have hc2' := (hkp.2.2 _ hB2 |> hk3.2.2 _).cell
               gi_wp2
               go_roundw
               case rel => exact ⟨k + 1, by have := HN.out; omega, by go_num, by rw [upto_succ]; exact hJ3, kpB_t hkp hk3⟩
               case measure => simp [intOf]; have := HN.out; omega
             · gi_wp2
               refine bodyPost_ret (results_none rfl _ _ _) rfl ?_
               exact ⟨⟨_, rfl⟩, .inr ⟨_, ⟨k + 1, by have := HN.out; omega, (upto_succ _ _).symm⟩, hJx3⟩⟩)
      · by_cases hb : k < len2
        · have hq0 : 0 < len2 := by omega
          obtain ⟨b2, off2, rfl, hb2, hcc2⟩ := hr2'.cell hq0; have hck2 := hcc2 k hb; clear hcc2
          first
          | (exfalso; omega)
          | (have hx : (prs f g len1 len2 hf hg k).1.1 = 0 := by show pl f len1 k = _; unfold pl; rw [if_neg ha]
             have hy' : (prs f g len1 len2 hf hg k).1.2 = g k := by show pl g len2 k = _; unfold pl; rw [if_pos hb]
             obtain ⟨fn, tmps, assign, body, hy, hR⟩ := hY _ (prs f g len1 len2 hf hg k) wr hJs (by rw [upto_length]; have := HN.out; omega)
             unfold enc2 at hy
             rw [hx, hy'] at hy
             rw [iv_zero] at hy
             have HX := Lib.hid hx
             have HY' := Lib.hid hy'
             clear hx hy'
             gi_wp2
             refine hR.mono ?_
             rintro e W3 (⟨rfl, hJ3, hk3⟩ | ⟨rfl, hJx3⟩)
             · have hc1' := (hkp.2.1 _ hB1 |> hk3.2.1 _).cell
               have hc2' := (hkp.2.2 _ hB2 |> hk3.2.2 _).cell
               gi_wp2
               go_roundw
               case rel => exact ⟨k + 1, by have := HN.out; omega, by go_num, by rw [upto_succ]; exact hJ3, kpB_t hkp hk3⟩
               case measure => simp [intOf]; have := HN.out; omega
             · gi_wp2
               refine bodyPost_ret (results_none rfl _ _ _) rfl ?_
               exact ⟨⟨_, rfl⟩, .inr ⟨_, ⟨k + 1, by have := HN.out; omega, (upto_succ _ _).symm⟩, hJx3⟩⟩)
        · obtain rfl : k = N := by have := HN.out; omega
          gi_wp2
          go_end0
          exact ⟨⟨_, rfl⟩, .inl ⟨_, rfl, hJs⟩⟩

theorem pl_in {f : Nat → Nat} {n k : Nat} (h : k < n) : pl f n k = f k := by unfold pl; rw [if_pos h]
theorem pl_out {f : Nat → Nat} {n k : Nat} (h : n ≤ k) : pl f n k = 0 := by unfold pl; rw [if_neg (by omega)]

end Go.Proofs.YtbjaolmlnkliiaaGreatDoor

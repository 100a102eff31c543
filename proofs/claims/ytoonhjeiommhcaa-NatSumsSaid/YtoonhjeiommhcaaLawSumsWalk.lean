/- The walk of NatSums: it returns true, and writes nothing that was there. Conditions as premises: the two lists read. -/
import Derived.Test.YtoonhjeiommhcaaLawKit
import Derived.Test.YtoonhjeiommhcaaAwake2
namespace Go.Proofs.Ytoonhjeiommhcaa
open Go.RowKit

set_option maxRecDepth 100000 in
set_option maxHeartbeats 4000000 in
theorem natSums_awake (A A' : Option Addr) (n c m c' : Nat) (e : Int) (w : World) (h : lng n 60 = true ∨ (lng n 60 = false ∧ lng m 60 = true) ∨ (lng n 60 = false ∧ lng m 60 = false ∧ 0 < e ∧ e ≤ 10000 ∧ 2000 < e * (n : Int) ∧ n ≤ 1100)) :
    Calls Try.prog 3 #[.slice A n c, .slice A' m c', .int .i64 e] w fun r w' => r = .returned (.bool true) ∧ Below w.heap.size w w' := by
  have C1 := Lib.hid (long_any A n c 60 w)
  have C2 := Lib.hid (long_any A' m c' 60 w)
  rcases h with h | ⟨h, k⟩ | ⟨h, k, h0, h1, h2, hn⟩
  · rw [h] at C1
    go_enter Try.func3, Try.ntmps3
    go_wp2_with fail
    refine C1.out.mono ?_
    rintro _ _ ⟨rfl, rfl⟩
    go_wp2_with fail
    refine (awake_any _).mono ?_
    rintro _ _ ⟨rfl, hb⟩
    go_wp2_with fail
    go_ret
    exact ⟨rfl, hb⟩
  · rw [h] at C1
    rw [k] at C2
    go_enter Try.func3, Try.ntmps3
    go_wp2_with fail
    refine C1.out.mono ?_
    rintro _ _ ⟨rfl, rfl⟩
    go_wp2_with fail
    refine C2.out.mono ?_
    rintro _ _ ⟨rfl, rfl⟩
    go_wp2_with fail
    refine (awake_any _).mono ?_
    rintro _ _ ⟨rfl, hb⟩
    go_wp2_with fail
    go_ret
    exact ⟨rfl, hb⟩
  · rw [h] at C1
    rw [k] at C2
    have h3 : e * (n : Int) ≤ 10000 * 1100 := Int.mul_le_mul h1 (by omega) (by omega) (by omega)
    go_enter Try.func3, Try.ntmps3
    go_wp2_with fail
    refine C1.out.mono ?_
    rintro _ _ ⟨rfl, rfl⟩
    go_wp2_with fail
    refine C2.out.mono ?_
    rintro _ _ ⟨rfl, rfl⟩
    go_wp2_with fail
    refine (awake_any _).mono ?_
    rintro _ _ ⟨rfl, hb⟩
    go_wp2_with fail
    go_ret
    exact ⟨rfl, hb⟩


set_option maxRecDepth 100000 in
set_option maxHeartbeats 8000000 in
theorem natSums_main (A A' : Option Addr) (n c m c' : Nat) (f g : Nat → Nat) (e : Int) (w : World) (hA : Rs w w.heap.size A n c f) (hB : Rs w w.heap.size A' m c' g)
    (h : lng n 60 = false) (k : lng m 60 = false) (hn : n ≤ 1100) (hm : m ≤ 1100) (he : e ≤ 0 ∨ (0 < e ∧ 10000 < e) ∨ (0 < e ∧ e ≤ 10000 ∧ e * (n : Int) ≤ 2000)) :
    Calls Try.prog 3 #[.slice A n c, .slice A' m c', .int .i64 e] w fun r w' => r = .returned (.bool true) ∧ Below w.heap.size w w' := by
  have C1 := Lib.hid (long_any A n c 60 w)
  have C2 := Lib.hid (long_any A' m c' 60 w)
  rw [h] at C1
  rw [k] at C2
  have N1 := Lib.hid fun w O oc O' oc' hA hB => natAdd_any O O' n oc m oc' f g w hA hB
  have R1 := Lib.hid fun w hA hB => refAdd_any A A' n c m c' f g w hA hB
  have N2 := Lib.hid fun w O oc O' oc' hA hB => natSub_any O O' n oc m oc' f g w hA hB
  have R2 := Lib.hid fun w hA hB => refSub_any A A' n c m c' f g w hA hB
  have N3 := Lib.hid fun w O oc O' oc' hA hB => natMul_any O O' n oc m oc' f g w hA hB
  have R3 := Lib.hid fun w hA hB => refMul_any A A' n c m c' f g w hA hB
  have N4 := Lib.hid fun w O oc hA => natPow_any O n oc f e w hA
  have R4 := Lib.hid fun w hA => refPow_any A n c f e w hA
  generalize addE n f m g = e1 at *
  generalize subE n f m g = e2 at *
  generalize mulE n f m g = e3 at *
  generalize powE n f e = e4 at *
  have hover : 0 < e → e ≤ 10000 → 0 ≤ e * (n : Int) := fun h1 _ => Int.mul_nonneg (by omega) (by omega)
  rcases he with he | ⟨he, he2⟩ | ⟨he, he2, he3⟩
  all_goals
    try replace hover := hover (by omega) (by omega)
    go_enter Try.func3, Try.ntmps3
    go_wp2_with fail
    refine C1.out.mono ?_
    rintro _ _ ⟨rfl, rfl⟩
    go_wp2_with fail
    refine C2.out.mono ?_
    rintro _ _ ⟨rfl, rfl⟩
    go_wp2_with (first
      | (at_builtin; refine app_all rfl (.tmp 35) (.tmp 36) rfl hA (Nat.le_refl _) (by omega) rfl rfl ?_; intro O oc w1 hr1 hb1)
      | (at_builtin; refine app_all rfl (.tmp 38) (.tmp 39) rfl (hB.below hb1) hb1.size (by omega) rfl rfl ?_; intro O' oc' w2 hr2 hb2))
    have F : Four w w2 A n c f A' m c' g O oc O' oc' := ⟨((hA.below hb1).more hb1.size |>.below hb2).more hb2.size, ((hB.below hb1).more hb1.size |>.below hb2).more hb2.size, (hr1.below hb2).more hb2.size, hr2, hb1.trans (hb2.mono hb1.size)⟩
    clear hr1 hr2 hb1 hb2
    refine (N1.out _ _ _ _ _ F.o F.p).mono ?_
    rintro _ w3 ⟨x1, rfl, hq⟩
    replace F := F.made hq
    have M := Lib.hid hq
    clear hq
    go_wp2_with fail
    refine (R1.out _ F.a F.b).mono ?_
    rintro _ w4 ⟨y1, rfl, hq⟩
    replace F := F.made hq
    have C := Lib.hid (made_alike M.out hq)
    clear hq M
    go_wp2_with fail
    refine C.out.mono ?_
    rintro _ _ ⟨rfl, d1, rfl⟩
    replace F := F.next (Below.drewN _ d1)
    generalize w4.drewN d1 = w5 at *
    clear C
    go_wp2_with fail
    refine (N2.out _ _ _ _ _ F.o F.p).mono ?_
    rintro _ w3 ⟨x2, rfl, hq⟩
    replace F := F.made hq
    have M := Lib.hid hq
    clear hq
    go_wp2_with fail
    refine (R2.out _ F.a F.b).mono ?_
    rintro _ w4 ⟨y2, rfl, hq⟩
    replace F := F.made hq
    have C := Lib.hid (made_alike M.out hq)
    clear hq M
    go_wp2_with fail
    refine C.out.mono ?_
    rintro _ _ ⟨rfl, d2, rfl⟩
    replace F := F.next (Below.drewN _ d2)
    generalize w4.drewN d2 = w5 at *
    clear C
    go_wp2_with fail
    refine (N3.out _ _ _ _ _ F.o F.p).mono ?_
    rintro _ w3 ⟨x3, rfl, hq⟩
    replace F := F.made hq
    have M := Lib.hid hq
    clear hq
    go_wp2_with fail
    refine (R3.out _ F.a F.b).mono ?_
    rintro _ w4 ⟨y3, rfl, hq⟩
    replace F := F.made hq
    have C := Lib.hid (made_alike M.out hq)
    clear hq M
    go_wp2_with fail
    refine C.out.mono ?_
    rintro _ _ ⟨rfl, d3, rfl⟩
    replace F := F.next (Below.drewN _ d3)
    generalize w4.drewN d3 = w5 at *
    clear C
    go_wp2_with fail
    refine (N4.out _ _ _ F.o).mono ?_
    rintro _ w3 ⟨x4, rfl, hq⟩
    replace F := F.made hq
    have M := Lib.hid hq
    clear hq
    go_wp2_with fail
    refine (R4.out _ F.a).mono ?_
    rintro _ w4 ⟨y4, rfl, hq⟩
    replace F := F.made hq
    have C := Lib.hid (made_alike M.out hq)
    clear hq M
    go_wp2_with fail
    refine C.out.mono ?_
    rintro _ _ ⟨rfl, d4, rfl⟩
    replace F := F.next (Below.drewN _ d4)
    generalize w4.drewN d4 = w5 at *
    clear C
    go_wp2_with fail
    have C5 := Lib.hid (alike_true O A n oc c f f _ _ _ F.o F.a fun _ _ => rfl)
    refine C5.out.mono ?_
    rintro _ _ ⟨rfl, d5, rfl⟩
    replace F := F.next (Below.drewN _ d5)
    generalize w5.drewN d5 = w6 at *
    clear C5
    go_wp2_with fail
    have C6 := Lib.hid (alike_true O' A' m oc' c' g g _ _ _ F.p F.b fun _ _ => rfl)
    refine C6.out.mono ?_
    rintro _ _ ⟨rfl, d6, rfl⟩
    replace F := F.next (Below.drewN _ d6)
    generalize w6.drewN d6 = w7 at *
    clear C6
    go_wp2_with fail
    refine (awake_any _).mono ?_
    rintro _ _ ⟨rfl, hb9⟩
    replace F := F.next hb9
    clear hb9
    go_wp2_with fail
    go_ret
    exact ⟨rfl, F.bel⟩

theorem lng_false {n : Nat} {m : Int} (h : lng n m = false) (_ : m ≤ 1100) : n ≤ 1100 := by
  unfold lng at h
  have := of_decide_eq_false h
  omega

theorem natSums_any (A A' : Option Addr) (n c m c' : Nat) (f g : Nat → Nat) (e : Int) (w : World) (hA : Rs w w.heap.size A n c f) (hB : Rs w w.heap.size A' m c' g) :
    Calls Try.prog 3 #[.slice A n c, .slice A' m c', .int .i64 e] w fun r w' => r = .returned (.bool true) ∧ Below w.heap.size w w' := by
  cases h : lng n 60
  · cases k : lng m 60
    · have hn := lng_false h (by omega)
      have hm := lng_false k (by omega)
      by_cases h1 : 0 < e
      · by_cases h2 : e ≤ 10000
        · by_cases h3 : 2000 < e * (n : Int)
          · exact natSums_awake A A' n c m c' e w (.inr (.inr ⟨h, k, h1, h2, h3, hn⟩))
          · exact natSums_main A A' n c m c' f g e w hA hB h k hn hm (.inr (.inr ⟨h1, h2, by omega⟩))
        · exact natSums_main A A' n c m c' f g e w hA hB h k hn hm (.inr (.inl ⟨h1, by omega⟩))
      · exact natSums_main A A' n c m c' f g e w hA hB h k hn hm (.inl (by omega))
    · exact natSums_awake A A' n c m c' e w (.inr (.inl ⟨h, k⟩))
  · exact natSums_awake A A' n c m c' e w (.inl h)

end Go.Proofs.Ytoonhjeiommhcaa

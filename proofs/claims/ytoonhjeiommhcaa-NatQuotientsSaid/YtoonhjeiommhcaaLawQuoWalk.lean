/- The walk of NatQuotients: it returns true, and writes nothing that was there. Conditions as premises: the two lists read. -/
import Derived.Test.YtoonhjeiommhcaaLawKit
import Derived.Test.YtoonhjeiommhcaaRefGcd
import Derived.Test.YtoonhjeiommhcaaAwake2
namespace Go.Proofs.Ytoonhjeiommhcaa
open Go.RowKit

set_option maxRecDepth 100000 in
set_option maxHeartbeats 4000000 in
theorem natQuotients_awake (A A' : Option Addr) (n c m c' : Nat) (w : World) (h : lng n 30 = true ∨ (lng n 30 = false ∧ lng m 30 = true)) :
    Calls Try.prog 4 #[.slice A n c, .slice A' m c'] w fun r w' => r = .returned (.bool true) ∧ Below w.heap.size w w' := by
  have C1 := Lib.hid (long_any A n c 30 w)
  have C2 := Lib.hid (long_any A' m c' 30 w)
  rcases h with h | ⟨h, k⟩
  · rw [h] at C1
    go_enter Try.func4, Try.ntmps4
    go_wp2_with fail
    refine C1.out.mono ?_
    rintro _ _ ⟨rfl, rfl⟩
    go_wp2_with fail
    refine (awake_any _).mono ?_
    rintro _ _ ⟨rfl, hb⟩
    go_wp2_with fail
    go_ret
    exact ⟨rfl, hb⟩
  · rw [h] at C1
    rw [k] at C2
    go_enter Try.func4, Try.ntmps4
    go_wp2_with fail
    refine C1.out.mono ?_
    rintro _ _ ⟨rfl, rfl⟩
    go_wp2_with fail
    refine C2.out.mono ?_
    rintro _ _ ⟨rfl, rfl⟩
    go_wp2_with fail
    refine (awake_any _).mono ?_
    rintro _ _ ⟨rfl, hb⟩
    go_wp2_with fail
    go_ret
    exact ⟨rfl, hb⟩

theorem lng30_false {n : Nat} {m : Int} (h : lng n m = false) (_ : m ≤ 1100) : n ≤ 1100 := by
  unfold lng at h
  have := of_decide_eq_false h
  omega

set_option maxRecDepth 100000 in
set_option maxHeartbeats 8000000 in
theorem natQuotients_main (A A' : Option Addr) (n c m c' : Nat) (f g : Nat → Nat) (w : World) (hA : Rs w w.heap.size A n c f) (hB : Rs w w.heap.size A' m c' g)
    (h : lng n 30 = false) (k : lng m 30 = false) (hn : n ≤ 1100) (hm : m ≤ 1100) :
    Calls Try.prog 4 #[.slice A n c, .slice A' m c'] w fun r w' => r = .returned (.bool true) ∧ Below w.heap.size w w' := by
  have C1 := Lib.hid (long_any A n c 30 w)
  have C2 := Lib.hid (long_any A' m c' 30 w)
  rw [h] at C1
  rw [k] at C2
  have N1 := Lib.hid fun w O oc O' oc' hA hB => natDiv_all O O' n oc m oc' f g w hA hB
  have R1 := Lib.hid fun w hA hB => refDiv_all A A' n c m c' f g w hA hB
  have N2 := Lib.hid fun w O oc O' oc' hA hB => natGcd_any O O' n oc m oc' f g w hA hB
  have R2 := Lib.hid fun w hA hB => refGcd_any A A' n c m c' f g w hA hB
  have N3 := Lib.hid fun w O oc O' oc' hA hB => natLcm_any O O' n oc m oc' f g w hA hB
  have R3 := Lib.hid fun w hA hB => refLcm_any A A' n c m c' f g w hA hB
  generalize divE n f m g = e1 at *
  generalize chk2 n f m g = e2 at *
  generalize lcmE n f m g = e3 at *
  go_enter Try.func4, Try.ntmps4
  go_wp2_with fail
  refine C1.out.mono ?_
  rintro _ _ ⟨rfl, rfl⟩
  go_wp2_with fail
  refine C2.out.mono ?_
  rintro _ _ ⟨rfl, rfl⟩
  go_wp2_with (first
    | (at_builtin; refine app_all rfl (.tmp 20) (.tmp 21) rfl hA (Nat.le_refl _) (by omega) rfl rfl ?_; intro O oc w1 hr1 hb1)
    | (at_builtin; refine app_all rfl (.tmp 23) (.tmp 24) rfl (hB.below hb1) hb1.size (by omega) rfl rfl ?_; intro O' oc' w2 hr2 hb2))
  have F : Four w w2 A n c f A' m c' g O oc O' oc' := ⟨((hA.below hb1).more hb1.size |>.below hb2).more hb2.size, ((hB.below hb1).more hb1.size |>.below hb2).more hb2.size, (hr1.below hb2).more hb2.size, hr2, hb1.trans (hb2.mono hb1.size)⟩
  clear hr1 hr2 hb1 hb2
  refine (N1.out _ _ _ _ _ F.o F.p).mono ?_
  rintro _ w3 ⟨x1, z1, rfl, hq⟩
  replace F := F.made hq.fst
  have M := Lib.hid hq
  clear hq
  go_wp2_with fail
  refine (R1.out _ F.a F.b).mono ?_
  rintro _ w4 ⟨y1, u1, rfl, hq⟩
  replace F := F.made hq.fst
  have C := Lib.hid (alikeN (M.out.fst.nr.1.below hq.fst.nr.2) hq.fst.nr.1)
  have K1 := Lib.hid (And.intro (M.out.snd.nr.1.below hq.fst.nr.2) hq.snd.nr.1)
  clear hq M
  go_wp2_with fail
  refine C.out.mono ?_
  rintro _ _ ⟨rfl, d1, rfl⟩
  replace F := F.next (Below.drewN _ d1)
  have D := Lib.hid (alikeN (K1.out.1.below (Below.drewN _ d1)) (K1.out.2.below (Below.drewN _ d1)))
  generalize w4.drewN d1 = w5 at *
  clear C K1
  go_wp2_with fail
  refine D.out.mono ?_
  rintro _ _ ⟨rfl, d2, rfl⟩
  replace F := F.next (Below.drewN _ d2)
  generalize w5.drewN d2 = w6 at *
  clear D
  go_wp2_with fail
  refine (N2.out _ _ _ _ _ F.o F.p).mono ?_
  rintro _ w3 ⟨x2, rfl, hq⟩
  replace F := F.made hq
  have M := Lib.hid hq
  clear hq
  go_wp2_with fail
  refine (R2.out _ F.a F.b).mono ?_
  rintro _ w4 ⟨y2, rfl, hq⟩
  replace F := F.made hq
  have C := Lib.hid (made_alike M.out hq)
  clear hq M
  go_wp2_with fail
  refine C.out.mono ?_
  rintro _ _ ⟨rfl, d2, rfl⟩
  replace F := F.next (Below.drewN _ d2)
  generalize w4.drewN d2 = w5 at *
  clear C
  go_wp2_with fail
  refine (N3.out _ _ _ _ _ F.o F.p).mono ?_
  rintro _ w3 ⟨x3, rfl, hq⟩
  replace F := F.made hq
  have M := Lib.hid hq
  clear hq
  go_wp2_with fail
  refine (R3.out _ F.a F.b).mono ?_
  rintro _ w4 ⟨y3, rfl, hq⟩
  replace F := F.made hq
  have C := Lib.hid (made_alike M.out hq)
  clear hq M
  go_wp2_with fail
  refine C.out.mono ?_
  rintro _ _ ⟨rfl, d3, rfl⟩
  replace F := F.next (Below.drewN _ d3)
  generalize w4.drewN d3 = w5 at *
  clear C
  go_wp2_with fail
  have C5 := Lib.hid (alike_true O A n oc c f f _ _ _ F.o F.a fun _ _ => rfl)
  refine C5.out.mono ?_
  rintro _ _ ⟨rfl, d5, rfl⟩
  replace F := F.next (Below.drewN _ d5)
  generalize w5.drewN d5 = w6 at *
  clear C5
  go_wp2_with fail
  have C6 := Lib.hid (alike_true O' A' m oc' c' g g _ _ _ F.p F.b fun _ _ => rfl)
  refine C6.out.mono ?_
  rintro _ _ ⟨rfl, d6, rfl⟩
  replace F := F.next (Below.drewN _ d6)
  generalize w6.drewN d6 = w7 at *
  clear C6
  go_wp2_with fail
  refine (awake_any _).mono ?_
  rintro _ _ ⟨rfl, hb9⟩
  replace F := F.next hb9
  clear hb9
  go_wp2_with fail
  go_ret
  exact ⟨rfl, F.bel⟩

theorem natQuotients_any (A A' : Option Addr) (n c m c' : Nat) (f g : Nat → Nat) (w : World) (hA : Rs w w.heap.size A n c f) (hB : Rs w w.heap.size A' m c' g) :
    Calls Try.prog 4 #[.slice A n c, .slice A' m c'] w fun r w' => r = .returned (.bool true) ∧ Below w.heap.size w w' := by
  cases h : lng n 30
  · cases k : lng m 30
    · exact natQuotients_main A A' n c m c' f g w hA hB h k (lng30_false h (by omega)) (lng30_false k (by omega))
    · exact natQuotients_awake A A' n c m c' w (.inr ⟨h, k⟩)
  · exact natQuotients_awake A A' n c m c' w (.inl h)

end Go.Proofs.Ytoonhjeiommhcaa

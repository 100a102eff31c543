/- The walk of NatKnown: it returns true, and writes nothing that was there. Condition as a premise: the table of powers of ten holds what its initialiser lays. -/
import Derived.Test.YtoonhjeiommhcaaDoorDoorKnown
namespace Go.Proofs.YtoonhjeiommhcaaDoor
open Go.RowKit

theorem sm_2 {x : Nat} (h : x < 1000000000000000000) : x < LB ^ 2 := by rw [Nat.pow_two, LB_eq]; omega
theorem sm_NL {x : Nat} (h : x < 1000000000000000000) : x < LB ^ NL := Nat.lt_of_lt_of_le (sm_2 h) (pow_le_of (by rw [NL_eq]; omega))
theorem nil_nr (w : World) : Nr w 0 (.slice none 0 0) := (Made.nil (Below.refl w.heap.size w)).nr.1

theorem digits10 {v : Value} (h : DigitsV 2 (l2 0 1) v) : v = .tuple #[.int .i64 10, .int .i64 0] := by
  rcases h with ⟨_, L, hL, rfl⟩ | ⟨h, _⟩
  · rw [nv_l2] at hL
    have h10 : IsLen (0 + 1 * 1000000000) 10 := ⟨by omega, by decide, fun _ => by decide⟩
    rw [hL.unique h10]; rfl
  · exact absurd (chk_ok (by omega) (val_l2 (by omega) (by omega) (by omega))) h

theorem parse007 {w w' : World} {v : Value} {x y : Int} (h : ParseV { data := #[48, 48, 55] } w v x y w') : x = 11 ∧ y = 0 := by
  rcases h with ⟨h, _⟩ | ⟨_, i, hi, hg, _⟩ | ⟨_, _, _, _, rfl, rfl⟩ | ⟨_, _, hn, _⟩
  · exact absurd h (by decide)
  · have hi' : i < 3 := hi
    rcases (by omega : i = 0 ∨ i = 1 ∨ i = 2) with rfl | rfl | rfl <;> exact absurd ⟨by decide, by decide⟩ hg
  · exact ⟨rfl, rfl⟩
  · exact absurd (Or.inr ⟨by decide, by decide⟩) hn
theorem parseNil {w w' : World} {v : Value} {x y : Int} (h : ParseV { data := #[] } w v x y w') : x = 11 ∧ y = 0 := by
  rcases h with ⟨h, _⟩ | ⟨_, i, hi, hg, _⟩ | ⟨_, _, _, _, rfl, rfl⟩ | ⟨_, _, hn, _⟩
  · exact absurd h (by decide)
  · exact absurd hi (Nat.not_lt_zero _)
  · exact ⟨rfl, rfl⟩
  · exact absurd (Or.inl rfl) hn
theorem parse12a {w w' : World} {v : Value} {x y : Int} (h : ParseV { data := #[49, 50, 97] } w v x y w') : x = 11 ∧ y = 2 := by
  have hbad : ¬ good { data := #[49, 50, 97] } 2 := fun hg => absurd hg.2 (by decide)
  rcases h with ⟨h, _⟩ | ⟨_, i, hi, hg, _, _, rfl, rfl⟩ | ⟨_, hg, _⟩ | ⟨_, hg, _⟩
  · exact absurd h (by decide)
  · have hi' : i < 3 := hi
    rcases (by omega : i = 0 ∨ i = 1 ∨ i = 2) with rfl | rfl | rfl
    · exact absurd ⟨by decide, by decide⟩ hg
    · exact absurd ⟨by decide, by decide⟩ hg
    · exact ⟨rfl, rfl⟩
  · exact absurd (hg 2 (by decide)) hbad
  · exact absurd (hg 2 (by decide)) hbad
theorem parse1e9 {w w' : World} {v : Value} {x y : Int} (h : ParseV { data := #[49, 48, 48, 48, 48, 48, 48, 48, 48, 48] } w v x y w') : x = 0 ∧ y = 0 ∧ Made w (0 + 1 * 1000000000) v w' := by
  rcases h with ⟨h, _⟩ | ⟨_, i, hi, hg, _⟩ | ⟨_, _, h | ⟨_, h⟩, _⟩ | ⟨_, _, _, rfl, rfl, hm⟩
  · exact absurd h (by decide)
  · have hi' : i < 10 := hi
    rcases (by omega : i = 0 ∨ i = 1 ∨ i = 2 ∨ i = 3 ∨ i = 4 ∨ i = 5 ∨ i = 6 ∨ i = 7 ∨ i = 8 ∨ i = 9) with rfl | rfl | rfl | rfl | rfl | rfl | rfl | rfl | rfl | rfl <;> exact absurd ⟨by decide, by decide⟩ hg
  · exact absurd h (by decide)
  · exact absurd h (by decide)
  · rw [show pnum { data := #[49, 48, 48, 48, 48, 48, 48, 48, 48, 48] } = 0 + 1 * 1000000000 by decide] at hm
    exact ⟨rfl, rfl, hm⟩

/-- a fault lies in block B -/
structure Fa (w : World) (B : Nat) (x y : Int) : Prop where
  err : w.cell? ⟨B, 0, none⟩ = some (.int .i64 x)
  at_ : w.cell? ⟨B, 1, none⟩ = some (.int .i64 y)
  lt : B < w.heap.size
theorem Fa.below {w w' : World} {B : Nat} {x y : Int} (h : Fa w B x y) (hb : Below w.heap.size w w') : Fa w' B x y :=
  ⟨(hb.cell (p := ⟨B, 0, none⟩) h.lt).trans h.err, (hb.cell (p := ⟨B, 1, none⟩) h.lt).trans h.at_, Nat.lt_of_lt_of_le h.lt hb.size⟩
theorem fa_new (w : World) (x y : Int) : Fa (w.alloc (.cells #[.int .i64 x, .int .i64 y] 39)) w.heap.size x y :=
  ⟨by rw [World.cell?_alloc_at _ _ _ _ rfl]; rfl, by rw [World.cell?_alloc_at _ _ _ _ rfl]; rfl, by simp⟩

set_option maxRecDepth 100000 in
set_option maxHeartbeats 8000000 in
theorem natKnown_main (w : World) (ht : Tab w) :
    Calls Tryd.prog 5 #[] w fun r w' => r = .returned (.bool true) ∧ Below w.heap.size w w' := by
  have TAB := Lib.hid ht
  have BEL := Lib.hid (Below.refl w.heap.size w)
  clear ht
  go_enter Tryd.func5, Tryd.ntmps5
  go_wp2_with fail
  refine (natOf_pos 0 (by omega) (by omega) w).mono ?_
  rintro _ w1 ⟨a, rfl, hm⟩
  obtain ⟨hx, hb⟩ := hm.nr
  replace TAB := Lib.hid (TAB.out.after hb)
  replace BEL := Lib.hid (BEL.out.trans (hb.mono BEL.out.size))
  have Ha := Lib.hid (show Nr w1 0 a from hx)
  clear hm hx hb
  go_wp2_with fail
  refine (natOf_neg (-1) (by omega) w1).mono ?_
  rintro _ _ ⟨rfl, rfl⟩
  go_wp2_with fail
  obtain ⟨q1, q2, hb⟩ := pair11 w1 999999999 1 999999999 1 rfl rfl (by omega) (by omega) (by omega) (by omega)
  have Q1 := Lib.hid q1
  have Q2 := Lib.hid q2
  replace Ha := Lib.hid (Ha.out.below hb)
  replace TAB := Lib.hid (TAB.out.after hb)
  replace BEL := Lib.hid (BEL.out.trans (hb.mono BEL.out.size))
  clear hb q1 q2
  refine (addN Q1.out Q2.out (sm_NL (by omega)) (sm_NL (by omega)) (sm_NL (by omega))).mono ?_
  rintro _ w2 ⟨b, rfl, hx, hb⟩
  replace Ha := Lib.hid (Ha.out.below hb)
  replace TAB := Lib.hid (TAB.out.after hb)
  replace BEL := Lib.hid (BEL.out.trans (hb.mono BEL.out.size))
  have Hb := Lib.hid (hx.cast (M := 0 + 1 * 1000000000) (by decide))
  clear hx hb
  go_wp2_with fail
  clear Q1 Q2
  obtain ⟨q1, q2, hb⟩ := pair21 w2 0 1 1 0 1 1 rfl rfl rfl (by omega) (by omega) (by omega) (by omega) (by omega)
  have Q1 := Lib.hid q1
  have Q2 := Lib.hid q2
  replace Ha := Lib.hid (Ha.out.below hb)
  replace Hb := Lib.hid (Hb.out.below hb)
  replace TAB := Lib.hid (TAB.out.after hb)
  replace BEL := Lib.hid (BEL.out.trans (hb.mono BEL.out.size))
  clear hb q1 q2
  refine (subN Q1.out Q2.out (sm_NL (by omega)) (sm_NL (by omega)) (by omega)).mono ?_
  rintro _ w3 ⟨c, rfl, hx, hb⟩
  replace Ha := Lib.hid (Ha.out.below hb)
  replace Hb := Lib.hid (Hb.out.below hb)
  replace TAB := Lib.hid (TAB.out.after hb)
  replace BEL := Lib.hid (BEL.out.trans (hb.mono BEL.out.size))
  have Hc := Lib.hid (hx.cast (M := 999999999) (by decide))
  clear hx hb
  go_wp2_with fail
  clear Q1 Q2
  refine (isN Ha.out (nil_nr _)).mono ?_
  rintro _ _ ⟨rfl, d, rfl⟩
  replace Ha := Lib.hid (Ha.out.below (Below.drewN _ d))
  replace Hb := Lib.hid (Hb.out.below (Below.drewN _ d))
  replace Hc := Lib.hid (Hc.out.below (Below.drewN _ d))
  replace TAB := Lib.hid (TAB.out.after (Below.drewN _ d))
  replace BEL := Lib.hid (BEL.out.trans ((Below.drewN _ d).mono BEL.out.size))
  generalize w3.drewN d = w4 at *
  go_wp2_with fail
  have q1 := nrl2 w4 0 1 0 1 rfl rfl (by omega) (by omega) (by omega)
  have Q1 := Lib.hid q1
  clear q1
  replace Ha := Lib.hid (Ha.out.below (bel1 w4 (.cells #[.int .u32 0, .int .u32 1] 30)))
  replace Hb := Lib.hid (Hb.out.below (bel1 w4 (.cells #[.int .u32 0, .int .u32 1] 30)))
  replace Hc := Lib.hid (Hc.out.below (bel1 w4 (.cells #[.int .u32 0, .int .u32 1] 30)))
  replace TAB := Lib.hid (TAB.out.after (bel1 w4 (.cells #[.int .u32 0, .int .u32 1] 30)))
  replace BEL := Lib.hid (BEL.out.trans ((bel1 w4 (.cells #[.int .u32 0, .int .u32 1] 30)).mono BEL.out.size))
  refine (isN Hb.out Q1.out).mono ?_
  rintro _ _ ⟨rfl, d, rfl⟩
  replace Ha := Lib.hid (Ha.out.below (Below.drewN _ d))
  replace Hb := Lib.hid (Hb.out.below (Below.drewN _ d))
  replace Hc := Lib.hid (Hc.out.below (Below.drewN _ d))
  replace TAB := Lib.hid (TAB.out.after (Below.drewN _ d))
  replace BEL := Lib.hid (BEL.out.trans ((Below.drewN _ d).mono BEL.out.size))
  generalize (w4.alloc (.cells #[.int .u32 0, .int .u32 1] 30)).drewN d = w5 at *
  clear Q1
  go_wp2_with fail
  have q1 := nrl1 w5 999999999 999999999 rfl (by omega) (by omega)
  have Q1 := Lib.hid q1
  clear q1
  replace Ha := Lib.hid (Ha.out.below (bel1 w5 (.cells #[.int .u32 999999999] 30)))
  replace Hb := Lib.hid (Hb.out.below (bel1 w5 (.cells #[.int .u32 999999999] 30)))
  replace Hc := Lib.hid (Hc.out.below (bel1 w5 (.cells #[.int .u32 999999999] 30)))
  replace TAB := Lib.hid (TAB.out.after (bel1 w5 (.cells #[.int .u32 999999999] 30)))
  replace BEL := Lib.hid (BEL.out.trans ((bel1 w5 (.cells #[.int .u32 999999999] 30)).mono BEL.out.size))
  refine (isN Hc.out Q1.out).mono ?_
  rintro _ _ ⟨rfl, d, rfl⟩
  replace Ha := Lib.hid (Ha.out.below (Below.drewN _ d))
  replace Hb := Lib.hid (Hb.out.below (Below.drewN _ d))
  replace Hc := Lib.hid (Hc.out.below (Below.drewN _ d))
  replace TAB := Lib.hid (TAB.out.after (Below.drewN _ d))
  replace BEL := Lib.hid (BEL.out.trans ((Below.drewN _ d).mono BEL.out.size))
  generalize (w5.alloc (.cells #[.int .u32 999999999] 30)).drewN d = w6 at *
  clear Q1
  go_wp2_with fail
  clear Ha Hb Hc
  obtain ⟨q1, q2, hb⟩ := pair11 w6 12 18 12 18 rfl rfl (by omega) (by omega) (by omega) (by omega)
  have Q1 := Lib.hid q1
  have Q2 := Lib.hid q2
  replace TAB := Lib.hid (TAB.out.after hb)
  replace BEL := Lib.hid (BEL.out.trans (hb.mono BEL.out.size))
  clear hb q1 q2
  refine (gcd2N Q1.out Q2.out (sm_2 (by omega)) (sm_2 (by omega)) (by omega) (by omega)).mono ?_
  rintro _ w7 ⟨a, rfl, hx, hb⟩
  replace TAB := Lib.hid (TAB.out.after hb)
  replace BEL := Lib.hid (BEL.out.trans (hb.mono BEL.out.size))
  have Ha := Lib.hid (hx.cast (M := 6) (by decide))
  clear hx hb
  go_wp2_with fail
  clear Q1 Q2
  obtain ⟨q1, q2, hb⟩ := pair11 w7 4 6 4 6 rfl rfl (by omega) (by omega) (by omega) (by omega)
  have Q1 := Lib.hid q1
  have Q2 := Lib.hid q2
  replace Ha := Lib.hid (Ha.out.below hb)
  replace TAB := Lib.hid (TAB.out.after hb)
  replace BEL := Lib.hid (BEL.out.trans (hb.mono BEL.out.size))
  clear hb q1 q2
  refine (lcm2N Q1.out Q2.out (sm_2 (by omega)) (sm_2 (by omega)) (by omega) (by omega) (sm_NL (by decide))).mono ?_
  rintro _ w8 ⟨b, rfl, hx, hb⟩
  replace Ha := Lib.hid (Ha.out.below hb)
  replace TAB := Lib.hid (TAB.out.after hb)
  replace BEL := Lib.hid (BEL.out.trans (hb.mono BEL.out.size))
  have Hb := Lib.hid (hx.cast (M := 12) (by decide))
  clear hx hb
  go_wp2_with fail
  clear Q1 Q2
  have q1 := nrl1 w8 10 10 rfl (by omega) (by omega)
  have Q1 := Lib.hid q1
  clear q1
  replace Ha := Lib.hid (Ha.out.below (bel1 w8 (.cells #[.int .u32 10] 30)))
  replace Hb := Lib.hid (Hb.out.below (bel1 w8 (.cells #[.int .u32 10] 30)))
  replace TAB := Lib.hid (TAB.out.after (bel1 w8 (.cells #[.int .u32 10] 30)))
  replace BEL := Lib.hid (BEL.out.trans ((bel1 w8 (.cells #[.int .u32 10] 30)).mono BEL.out.size))
  have q2 := powN (k := 9) Q1.out (sm_NL (by omega)) (by omega) (sm_NL (by decide))
  rw [show ((9 : Nat) : Int) = 9 from rfl] at q2
  have Q2 := Lib.hid q2
  clear q2
  refine (Q2.out).mono ?_
  rintro _ w9 ⟨c, rfl, hx, hb⟩
  replace Ha := Lib.hid (Ha.out.below hb)
  replace Hb := Lib.hid (Hb.out.below hb)
  replace TAB := Lib.hid (TAB.out.after hb)
  replace BEL := Lib.hid (BEL.out.trans (hb.mono BEL.out.size))
  have Hc := Lib.hid (hx.cast (M := 0 + 1 * 1000000000) (by decide))
  clear hx hb
  go_wp2_with fail
  clear Q1 Q2
  have q1 := lit2 w9 0 1 0 1 rfl rfl (by omega) (by omega)
  replace Ha := Lib.hid (Ha.out.below (bel1 w9 (.cells #[.int .u32 0, .int .u32 1] 30)))
  replace Hb := Lib.hid (Hb.out.below (bel1 w9 (.cells #[.int .u32 0, .int .u32 1] 30)))
  replace Hc := Lib.hid (Hc.out.below (bel1 w9 (.cells #[.int .u32 0, .int .u32 1] 30)))
  replace TAB := Lib.hid (TAB.out.after (bel1 w9 (.cells #[.int .u32 0, .int .u32 1] 30)))
  replace BEL := Lib.hid (BEL.out.trans ((bel1 w9 (.cells #[.int .u32 0, .int .u32 1] 30)).mono BEL.out.size))
  refine (natDigits_any _ 2 2 _ _ (q1.more (by simp)) TAB.out).mono ?_
  rintro _ _ ⟨⟨v, rfl, hv⟩, rfl⟩
  obtain rfl := digits10 hv
  clear hv q1
  generalize w9.alloc (.cells #[.int .u32 0, .int .u32 1] 30) = w10 at *
  go_wp2_with fail
  have q1 := nrl1 w10 6 6 rfl (by omega) (by omega)
  have Q1 := Lib.hid q1
  clear q1
  replace Ha := Lib.hid (Ha.out.below (bel1 w10 (.cells #[.int .u32 6] 30)))
  replace Hb := Lib.hid (Hb.out.below (bel1 w10 (.cells #[.int .u32 6] 30)))
  replace Hc := Lib.hid (Hc.out.below (bel1 w10 (.cells #[.int .u32 6] 30)))
  replace TAB := Lib.hid (TAB.out.after (bel1 w10 (.cells #[.int .u32 6] 30)))
  replace BEL := Lib.hid (BEL.out.trans ((bel1 w10 (.cells #[.int .u32 6] 30)).mono BEL.out.size))
  refine (isN Ha.out Q1.out).mono ?_
  rintro _ _ ⟨rfl, d, rfl⟩
  replace Ha := Lib.hid (Ha.out.below (Below.drewN _ d))
  replace Hb := Lib.hid (Hb.out.below (Below.drewN _ d))
  replace Hc := Lib.hid (Hc.out.below (Below.drewN _ d))
  replace TAB := Lib.hid (TAB.out.after (Below.drewN _ d))
  replace BEL := Lib.hid (BEL.out.trans ((Below.drewN _ d).mono BEL.out.size))
  generalize (w10.alloc (.cells #[.int .u32 6] 30)).drewN d = w11 at *
  clear Q1
  go_wp2_with fail
  have q1 := nrl1 w11 12 12 rfl (by omega) (by omega)
  have Q1 := Lib.hid q1
  clear q1
  replace Ha := Lib.hid (Ha.out.below (bel1 w11 (.cells #[.int .u32 12] 30)))
  replace Hb := Lib.hid (Hb.out.below (bel1 w11 (.cells #[.int .u32 12] 30)))
  replace Hc := Lib.hid (Hc.out.below (bel1 w11 (.cells #[.int .u32 12] 30)))
  replace TAB := Lib.hid (TAB.out.after (bel1 w11 (.cells #[.int .u32 12] 30)))
  replace BEL := Lib.hid (BEL.out.trans ((bel1 w11 (.cells #[.int .u32 12] 30)).mono BEL.out.size))
  refine (isN Hb.out Q1.out).mono ?_
  rintro _ _ ⟨rfl, d, rfl⟩
  replace Ha := Lib.hid (Ha.out.below (Below.drewN _ d))
  replace Hb := Lib.hid (Hb.out.below (Below.drewN _ d))
  replace Hc := Lib.hid (Hc.out.below (Below.drewN _ d))
  replace TAB := Lib.hid (TAB.out.after (Below.drewN _ d))
  replace BEL := Lib.hid (BEL.out.trans ((Below.drewN _ d).mono BEL.out.size))
  generalize (w11.alloc (.cells #[.int .u32 12] 30)).drewN d = w12 at *
  clear Q1
  go_wp2_with fail
  have q1 := nrl2 w12 0 1 0 1 rfl rfl (by omega) (by omega) (by omega)
  have Q1 := Lib.hid q1
  clear q1
  replace Ha := Lib.hid (Ha.out.below (bel1 w12 (.cells #[.int .u32 0, .int .u32 1] 30)))
  replace Hb := Lib.hid (Hb.out.below (bel1 w12 (.cells #[.int .u32 0, .int .u32 1] 30)))
  replace Hc := Lib.hid (Hc.out.below (bel1 w12 (.cells #[.int .u32 0, .int .u32 1] 30)))
  replace TAB := Lib.hid (TAB.out.after (bel1 w12 (.cells #[.int .u32 0, .int .u32 1] 30)))
  replace BEL := Lib.hid (BEL.out.trans ((bel1 w12 (.cells #[.int .u32 0, .int .u32 1] 30)).mono BEL.out.size))
  refine (isN Hc.out Q1.out).mono ?_
  rintro _ _ ⟨rfl, d, rfl⟩
  replace Ha := Lib.hid (Ha.out.below (Below.drewN _ d))
  replace Hb := Lib.hid (Hb.out.below (Below.drewN _ d))
  replace Hc := Lib.hid (Hc.out.below (Below.drewN _ d))
  replace TAB := Lib.hid (TAB.out.after (Below.drewN _ d))
  replace BEL := Lib.hid (BEL.out.trans ((Below.drewN _ d).mono BEL.out.size))
  generalize (w12.alloc (.cells #[.int .u32 0, .int .u32 1] 30)).drewN d = w13 at *
  clear Q1
  go_wp2_with fail
  clear Ha Hb Hc
  refine (natParse_any _ w13 TAB.out).mono ?_
  rintro _ w14 ⟨v1, x, y, rfl, hv, hb⟩
  replace TAB := Lib.hid (TAB.out.after hb)
  replace BEL := Lib.hid (BEL.out.trans (hb.mono BEL.out.size))
  obtain ⟨rfl, rfl⟩ := parse007 hv
  clear hv hb
  go_wp2_with fail
  have q := fa_new w14 11 0
  replace TAB := Lib.hid (TAB.out.after (bel1 w14 (.cells #[.int .i64 11, .int .i64 0] 39)))
  replace BEL := Lib.hid (BEL.out.trans ((bel1 w14 (.cells #[.int .i64 11, .int .i64 0] 39)).mono BEL.out.size))
  have F1 := Lib.hid q
  clear q
  generalize hgw : w14.alloc (.cells #[.int .i64 11, .int .i64 0] 39) = w15 at *
  clear hgw
  refine (natParse_any _ w15 TAB.out).mono ?_
  rintro _ w16 ⟨v2, x, y, rfl, hv, hb⟩
  replace F1 := Lib.hid (F1.out.below hb)
  replace TAB := Lib.hid (TAB.out.after hb)
  replace BEL := Lib.hid (BEL.out.trans (hb.mono BEL.out.size))
  obtain ⟨rfl, rfl, hm⟩ := parse1e9 hv
  have Hv2 := Lib.hid hm.nr.1
  clear hm
  clear hv hb
  go_wp2_with fail
  have q := fa_new w16 0 0
  replace Hv2 := Lib.hid (Hv2.out.below (bel1 w16 (.cells #[.int .i64 0, .int .i64 0] 39)))
  replace F1 := Lib.hid (F1.out.below (bel1 w16 (.cells #[.int .i64 0, .int .i64 0] 39)))
  replace TAB := Lib.hid (TAB.out.after (bel1 w16 (.cells #[.int .i64 0, .int .i64 0] 39)))
  replace BEL := Lib.hid (BEL.out.trans ((bel1 w16 (.cells #[.int .i64 0, .int .i64 0] 39)).mono BEL.out.size))
  have F2 := Lib.hid q
  clear q
  generalize hgw : w16.alloc (.cells #[.int .i64 0, .int .i64 0] 39) = w17 at *
  clear hgw
  refine (natParse_any _ w17 TAB.out).mono ?_
  rintro _ w18 ⟨v3, x, y, rfl, hv, hb⟩
  replace Hv2 := Lib.hid (Hv2.out.below hb)
  replace F1 := Lib.hid (F1.out.below hb)
  replace F2 := Lib.hid (F2.out.below hb)
  replace TAB := Lib.hid (TAB.out.after hb)
  replace BEL := Lib.hid (BEL.out.trans (hb.mono BEL.out.size))
  obtain ⟨rfl, rfl⟩ := parse12a hv
  clear hv hb
  go_wp2_with fail
  have q := fa_new w18 11 2
  replace Hv2 := Lib.hid (Hv2.out.below (bel1 w18 (.cells #[.int .i64 11, .int .i64 2] 39)))
  replace F1 := Lib.hid (F1.out.below (bel1 w18 (.cells #[.int .i64 11, .int .i64 2] 39)))
  replace F2 := Lib.hid (F2.out.below (bel1 w18 (.cells #[.int .i64 11, .int .i64 2] 39)))
  replace TAB := Lib.hid (TAB.out.after (bel1 w18 (.cells #[.int .i64 11, .int .i64 2] 39)))
  replace BEL := Lib.hid (BEL.out.trans ((bel1 w18 (.cells #[.int .i64 11, .int .i64 2] 39)).mono BEL.out.size))
  have F3 := Lib.hid q
  clear q
  generalize hgw : w18.alloc (.cells #[.int .i64 11, .int .i64 2] 39) = w19 at *
  clear hgw
  refine (natParse_any _ w19 TAB.out).mono ?_
  rintro _ w20 ⟨v4, x, y, rfl, hv, hb⟩
  replace Hv2 := Lib.hid (Hv2.out.below hb)
  replace F1 := Lib.hid (F1.out.below hb)
  replace F2 := Lib.hid (F2.out.below hb)
  replace F3 := Lib.hid (F3.out.below hb)
  replace TAB := Lib.hid (TAB.out.after hb)
  replace BEL := Lib.hid (BEL.out.trans (hb.mono BEL.out.size))
  obtain ⟨rfl, rfl⟩ := parseNil hv
  clear hv hb
  have f1a := F1.out.err
  have f1b := F1.out.at_
  have f1l := F1.out.lt
  have f2a := F2.out.err
  have f2b := F2.out.at_
  have f2l := F2.out.lt
  have f3a := F3.out.err
  have f3b := F3.out.at_
  have f3l := F3.out.lt
  go_wp2_with fail
  clear f1a f1b f1l f2a f2b f2l f3a f3b f3l
  have q4 := fa_new w20 11 0
  have q5 := fa_new (w20.alloc (.cells #[.int .i64 11, .int .i64 0] 39)) 11 0
  have q1 := nrl2 ((w20.alloc (.cells #[.int .i64 11, .int .i64 0] 39)).alloc (.cells #[.int .i64 11, .int .i64 0] 39)) 0 1 0 1 rfl rfl (by omega) (by omega) (by omega)
  have hb : Below w20.heap.size w20 (((w20.alloc (.cells #[.int .i64 11, .int .i64 0] 39)).alloc (.cells #[.int .i64 11, .int .i64 0] 39)).alloc (.cells #[.int .u32 0, .int .u32 1] 30)) := ((bel1 w20 (.cells #[.int .i64 11, .int .i64 0] 39)).alloc (by simp) _).alloc (by simp; omega) _
  replace q4 := (q4.below (bel1 _ (.cells #[.int .i64 11, .int .i64 0] 39))).below (bel1 _ (.cells #[.int .u32 0, .int .u32 1] 30))
  replace q5 := q5.below (bel1 _ (.cells #[.int .u32 0, .int .u32 1] 30))
  rw [World.size_alloc w20] at q5
  rw [World.size_alloc, World.size_alloc w20] at q1
  replace Hv2 := Lib.hid (Hv2.out.below hb)
  replace F1 := Lib.hid (F1.out.below hb)
  replace F2 := Lib.hid (F2.out.below hb)
  replace F3 := Lib.hid (F3.out.below hb)
  replace TAB := Lib.hid (TAB.out.after hb)
  replace BEL := Lib.hid (BEL.out.trans (hb.mono BEL.out.size))
  generalize (((w20.alloc (.cells #[.int .i64 11, .int .i64 0] 39)).alloc (.cells #[.int .i64 11, .int .i64 0] 39)).alloc (.cells #[.int .u32 0, .int .u32 1] 30)) = w21 at *
  have F4 := Lib.hid q4
  have F5 := Lib.hid q5
  have Q1 := Lib.hid q1
  clear q4 q5 q1 hb
  refine (isN Hv2.out Q1.out).mono ?_
  rintro _ _ ⟨rfl, d, rfl⟩
  clear Q1 Hv2
  replace F1 := Lib.hid (F1.out.below (Below.drewN _ d))
  replace F2 := Lib.hid (F2.out.below (Below.drewN _ d))
  replace F3 := Lib.hid (F3.out.below (Below.drewN _ d))
  replace F4 := Lib.hid (F4.out.below (Below.drewN _ d))
  replace F5 := Lib.hid (F5.out.below (Below.drewN _ d))
  replace TAB := Lib.hid (TAB.out.after (Below.drewN _ d))
  replace BEL := Lib.hid (BEL.out.trans ((Below.drewN _ d).mono BEL.out.size))
  generalize w21.drewN d = w22 at *
  have f3a := F3.out.err
  have f3b := F3.out.at_
  have f3l := F3.out.lt
  have f4a := F4.out.err
  have f4b := F4.out.at_
  have f4l := F4.out.lt
  have f5a := F5.out.err
  have f5b := F5.out.at_
  have f5l := F5.out.lt
  go_wp2_with fail
  clear f3a f3b f3l f4a f4b f4l f5a f5b f5l F1 F2 F3 F4 F5
  have q1 := check_any (some ⟨w22.heap.size, 0, none⟩) 1 1 (l1 1000000000) _ _ (lit1 w22 1000000000 1000000000 rfl (by omega))
  rw [chk_bad (by omega) (fun hv => absurd (hv.1 0 (by omega)) (by rw [LB_eq]; decide))] at q1
  refine q1.mono ?_
  clear q1
  rintro _ _ ⟨rfl, rfl⟩
  replace TAB := Lib.hid (TAB.out.after (bel1 w22 (.cells #[.int .u32 1000000000] 30)))
  replace BEL := Lib.hid (BEL.out.trans ((bel1 w22 (.cells #[.int .u32 1000000000] 30)).mono BEL.out.size))
  generalize w22.alloc (.cells #[.int .u32 1000000000] 30) = w23 at *
  go_wp2_with fail
  have q1 := check_any (some ⟨w23.heap.size, 0, none⟩) 2 2 (l2 1 0) _ _ (lit2 w23 1 0 1 0 rfl rfl (by omega) (by omega))
  rw [chk_bad (by omega) (fun hv => absurd rfl (hv.2 (by omega)))] at q1
  refine q1.mono ?_
  clear q1
  rintro _ _ ⟨rfl, rfl⟩
  replace TAB := Lib.hid (TAB.out.after (bel1 w23 (.cells #[.int .u32 1, .int .u32 0] 30)))
  replace BEL := Lib.hid (BEL.out.trans ((bel1 w23 (.cells #[.int .u32 1, .int .u32 0] 30)).mono BEL.out.size))
  generalize w23.alloc (.cells #[.int .u32 1, .int .u32 0] 30) = w24 at *
  go_wp2_with fail
  refine (awake_any _).mono ?_
  rintro _ _ ⟨rfl, hb⟩
  replace BEL := Lib.hid (BEL.out.trans (hb.mono BEL.out.size))
  clear hb
  go_wp2_with fail
  go_ret
  exact ⟨rfl, BEL.out⟩

end Go.Proofs.YtoonhjeiommhcaaDoor

/- The contract of the reference's Parse. No conditions. -/
import Derived.Test.YtoonhjeiommhcaaDoorDoorParse
import Derived.Test.YtoonhjeiommhcaaDoorLimbs
namespace Go.Proofs.YtoonhjeiommhcaaDoor
open Go.RowKit

theorem snocB {B base n : Nat} {a wr w1 : World} {v : Value} {f : Nat → Nat} {o : Obj} (hown : Own wr base v n f) (hb : Below B a wr) (hbase : B ≤ base) (hsz : B ≤ wr.heap.size) (hg : (wr.alloc o).grownBy w1 v.ownBlock) : Below B a w1 :=
  (hb.alloc hsz o).grown hg (by simp; omega) (fun j hj => by have := (World.ownsRow.lt hown j hj).1; omega)

/-- one step of reading a limb from its highest digit down -/
theorem ref_step {s : ByteArray} {j i E : Nat} (hg : ∀ i, i < s.size → good s i) (hE : s.size - 9 * j = E) (hk : i < s.size) (hi : i < E) (h9 : E ≤ i + 9) :
    10 * iv (hd (fun r => sd s (9 * j + r)) 9 (E - i)) + (((s[i]'hk).toNat : Int) - 48) = iv (hd (fun r => sd s (9 * j + r)) 9 (E - (i + 1))) ∧
    10 * iv (hd (fun r => sd s (9 * j + r)) 9 (E - i)) + (((s[i]'hk).toNat : Int) - 48) ≤ 999999999 := by
  have hgk := hg i hk
  have he := sb_eq s i hk
  have h1 := hd_step (fun r => sd s (9 * j + r)) 9 (E - (i + 1)) (by omega)
  rw [show E - (i + 1) + 1 = E - i by omega] at h1
  have h2 : sd s (9 * j + (E - (i + 1))) = sb s i - 48 := by
    unfold sd; rw [if_pos (by omega), show s.size - 1 - (9 * j + (E - (i + 1))) = i by omega]
  have h3 := hd_lt (f := fun r => sd s (9 * j + r)) (fun p => sd_lt hg _) 9 (E - (i + 1))
  have h4 : 10 ^ (9 - (E - (i + 1))) ≤ 10 ^ 9 := ten_le (by omega)
  have h5 : (10 : Nat) ^ 9 = 1000000000 := by decide
  simp only [h2] at h1
  rw [he, iv_eq, iv_eq]
  unfold good at hgk
  omega

set_option maxHeartbeats 800000 in
set_option maxRecDepth 100000 in
theorem refParse_long (s : ByteArray) (w : World) (h : 9216 < s.size) :
    Calls Tryd.prog 23 #[.string s] w fun e w' => e = .returned (.tuple #[.slice none 0 0, .agg #[.int .i64 4, .int .i64 9216]]) ∧ Below w.heap.size w w' := by
  have h' : (9216 : Int) < (s.size : Int) := by omega
  go_enter Tryd.func23, Tryd.ntmps23
  go_wp2
  exact bodyPost_ret (v := .tuple #[.slice none 0 0, .agg #[.int .i64 4, .int .i64 9216]]) (by simp [results, Tryd.results23, go_sem]) rfl ⟨rfl, (Below.refl _ _).alloc (Nat.le_refl _) _⟩

set_option maxHeartbeats 1600000 in
set_option maxRecDepth 100000 in
theorem refParse_rest (s : ByteArray) (w : World) (h : s.size ≤ 9216) :
    Calls Tryd.prog 23 #[.string s] w fun e w' => ∃ v x a, e = .returned (.tuple #[v, .agg #[.int .i64 x, .int .i64 a]]) ∧ ParseV s w v x a w' ∧ Below w.heap.size w w' := by
  have h' : (s.size : Int) ≤ 9216 := by omega
  go_enter Tryd.func23, Tryd.ntmps23
  go_wp2
  go_loop [4] (fun i => ∃ k : Nat, k ≤ s.size ∧ i = .int .i64 k ∧ Hid (∀ j, j < k → good s j)) (fun i => s.size - (intOf i).toNat)
  case atStart => exact ⟨0, Nat.zero_le _, rfl, fun j a => by omega⟩
  case round =>
    obtain ⟨k, hk, rfl, hg⟩ := hrel
    by_cases hlt : k < s.size
    · have he := sb_eq s k hlt
      by_cases hgood : good s k
      · have h1 : (48 : Int) ≤ ((s[k]'hlt).toNat : Int) := by unfold good at hgood; omega
        have h2 : ((s[k]'hlt).toNat : Int) ≤ 57 := by unfold good at hgood; omega
        have HG := Lib.hid hgood
        clear he hgood
        go_wp2
        go_round
        case rel => exact ⟨k + 1, by omega, by go_num, fun j hj => by
          by_cases e : j = k
          · subst e; exact HG.out
          · exact hg j (by omega)⟩
        case measure => simp [intOf] <;> omega
      · have HG := Lib.hid hgood
        by_cases hl : sb s k < 48
        · have h1 : ((s[k]'hlt).toNat : Int) < 48 := by omega
          clear he hgood
          go_wp2
          exact bodyPost_ret (v := .tuple #[.slice none 0 0, .agg #[.int .i64 11, .int .i64 (k : Int)]]) (by simp [results, Tryd.results23, go_sem]) rfl ⟨_, _, _, rfl, .inr (.inl ⟨h, k, hlt, HG.out, hg, rfl, rfl, rfl⟩), (Below.refl _ _).alloc (Nat.le_refl _) _⟩
        · have h1 : ¬ ((s[k]'hlt).toNat : Int) < 48 := by omega
          have h2 : (57 : Int) < ((s[k]'hlt).toNat : Int) := by unfold good at hgood; omega
          clear he hgood
          go_wp2
          exact bodyPost_ret (v := .tuple #[.slice none 0 0, .agg #[.int .i64 11, .int .i64 (k : Int)]]) (by simp [results, Tryd.results23, go_sem]) rfl ⟨_, _, _, rfl, .inr (.inl ⟨h, k, hlt, HG.out, hg, rfl, rfl, rfl⟩), (Below.refl _ _).alloc (Nat.le_refl _) _⟩
    · obtain rfl : k = s.size := by omega
      by_cases h0 : s.size = 0
      · have h0' : ((s.size : Int) == 0) = true := by rw [h0]; rfl
        have H0 := Lib.hid h0
        clear h0
        go_wp2
        exact bodyPost_ret (v := .tuple #[.slice none 0 0, .agg #[.int .i64 11, .int .i64 0]]) (by simp [results, Tryd.results23, go_sem]) rfl ⟨_, _, _, rfl, .inr (.inr (.inl ⟨h, hg, .inl H0.out, rfl, rfl, rfl⟩)), (Below.refl _ _).alloc (Nat.le_refl _) _⟩
      · have h0' : ((s.size : Int) == 0) = false := by rw [beq_eq_false_iff_ne]; omega
        have h0p : 0 < s.size := by omega
        have he := sb_eq s 0 h0p
        by_cases h1 : 1 < s.size
        · have h1' : (1 : Int) < (s.size : Int) := by omega
          by_cases hz : sb s 0 = 48
          · have hzb : (((s[0]'h0p).toNat : Int) == 48) = true := by rw [he, hz]; rfl
            have HZ := Lib.hid hz
            clear hz he h0
            go_wp2
            exact bodyPost_ret (v := .tuple #[.slice none 0 0, .agg #[.int .i64 11, .int .i64 0]]) (by simp [results, Tryd.results23, go_sem]) rfl ⟨_, _, _, rfl, .inr (.inr (.inl ⟨h, hg, .inr ⟨h1, HZ.out⟩, rfl, rfl, rfl⟩)), (Below.refl _ _).alloc (Nat.le_refl _) _⟩
          · have hzb : (((s[0]'h0p).toNat : Int) == 48) = false := by rw [he, beq_eq_false_iff_ne]; omega
            have HZ := Lib.hid hz
            clear hz he h0
            go_wp2_with fail
            go_loopw [5, 6, 7, 8] (fun v z _ _ wr => ∃ j : Nat, j ≤ 1025 ∧ z = .int .i64 ((s.size : Int) - 9 * (j : Int)) ∧ Own wr (w.heap.size + 1) v j (lim (sd s)) ∧ Hid (9 * j ≤ s.size + 8) ∧ Below (w.heap.size + 1) (w.alloc (.cells #[.int .i64 0, .int .i64 0] 39)) wr) (fun _ z _ _ _ => (intOf z).toNat)
            case atStart => exact ⟨0, by omega, by go_num, Own.nil _ _ _, by show 9 * 0 ≤ s.size + 8; omega, Below.refl _ _⟩
            case round =>
              obtain ⟨j, hj, rfl, hown, hjl, hbel⟩ := hrel
              by_cases hlt : 9 * j < s.size
              · obtain ⟨wo, rfl⟩ : ∃ wo : World, wo = wr := ⟨_, rfl⟩
                obtain ⟨E, hE⟩ : ∃ E, s.size - 9 * j = E := ⟨_, rfl⟩
                have hzE : ((s.size : Int) - 9 * (j : Int)) = (E : Int) := by omega
                rw [hzE]
                have hEp : 0 < E := by omega
                have hEs : E ≤ s.size := by omega
                have HE := Lib.hid hE
                have HZE := Lib.hid hzE
                have hx0 : iv (hd (fun r => sd s (9 * j + r)) 9 (E - (E - 9))) = 0 := by
                  rw [hd_zeros, iv_zero]
                  intro p h1 h2
                  exact sd_top (by omega)
                have HX0 := Lib.hid hx0
                have hsz := hbel.size
                rw [World.size_alloc] at hsz
                clear hE hx0 hzE
                go_wp2_with fail
                all_goals
                  go_loop [7, 8] (fun x i => ∃ q : Nat, E - 9 ≤ q ∧ q ≤ E ∧ i = .int .i64 q ∧ x = .int .u32 (iv (hd (fun r => sd s (9 * j + r)) 9 (E - q)))) (fun _ i => E - (intOf i).toNat)
                  case atStart => exact ⟨E - 9, by omega, by omega, by first | go_num | (congr 1; omega), by rw [HX0.out]⟩
                  case round =>
                    obtain ⟨q, hq1, hq2, rfl, rfl⟩ := hrel
                    by_cases hqE : q < E
                    · have hqs : q < s.size := by omega
                      obtain ⟨s1, s2⟩ := ref_step (j := j) hg.out HE.out hqs hqE (by omega)
                      have hgk := hg.out q hqs
                      have he := sb_eq s q hqs
                      have b1 : (48 : Int) ≤ ((s[q]'hqs).toNat : Int) := by unfold good at hgk; omega
                      have b2 : ((s[q]'hqs).toNat : Int) ≤ 57 := by unfold good at hgk; omega
                      have hx0 := iv_nonneg (hd (fun r => sd s (9 * j + r)) 9 (E - q))
                      have hqi : (q : Int) < (s.size : Int) := by omega
                      have HS1 := Lib.hid s1
                      clear s1 hgk he
                      generalize hgx : iv (hd (fun r => sd s (9 * j + r)) 9 (E - q)) = x at *
                      have HGX := Lib.hid hgx
                      clear hgx
                      go_wp2_with fail
                      go_round
                      case rel => exact ⟨q + 1, by omega, by omega, by go_num, by rw [HS1.out]⟩
                      case measure => simp [intOf] <;> omega
                    · obtain rfl : q = E := by omega
                      rw [Nat.sub_self, hd_zero, show nt (fun r => sd s (9 * j + r)) 9 = lim (sd s) j from rfl]
                      have hl0 := iv_nonneg (lim (sd s) j)
                      have hl1 := iv_limb (lim_lt (sd_lt hg.out) j)
                      generalize hgx : iv (lim (sd s) j) = x at *
                      have HGX := Lib.hid hgx
                      clear hgx
                      obtain ⟨i0, hi, hz0, hz1, hz2⟩ := info_parts info32
                      go_wp2_with (at_builtin; refine wpList_append_own _ rfl (.tmp 67) (.tmp 69) 23 rfl (w.heap.size + 1) 30 i0 (.int .u32 0) 1 4 Tryd.underlying23 hi hz0 hz1 hz2 rfl (by decide) _ _ _ rfl (World.ownsRow.alloc hown _) ⟨wo.heap.size, 0, none⟩ 1 1 [.int .u32 x] rfl rfl (cell_one_new _ _ _) (oneCell_u32 _) (by unfold maxLen; omega) (by omega) (size_one hsz _) ?_)
                      intro v' w1 hown' hgrow _
                      have hb1 := snocB hown hbel (Nat.le_refl _) hsz hgrow
                      rw [← HGX.out] at hown'
                      have hown1 := Own.snoc hown' rfl
                      clear hown' hgrow hown hbel
                      go_wp2_with fail
                      go_roundw
                      case rel => exact ⟨j + 1, by omega, by have := HZE.out; congr 1; omega, hown1, by show 9 * (j + 1) ≤ s.size + 8; have := HE.out; omega, hb1⟩
                      case measure => simp [intOf] <;> omega
              · have hneg : ¬ (0 : Int) < (s.size : Int) - 9 * (j : Int) := by omega
                have hlim := lim_lt (sd_lt hg.out)
                obtain ⟨V, c, rfl, hr⟩ := hown.rs (fun j _ => by have := hlim j; rw [LB_eq] at this; omega)
                have HT := Lib.hid (refTrim_any V j c _ _ wr hr)
                have HD : Hid (∀ m, Trim j (lim (sd s)) m → Dig m (lim (sd s)) (pnum s)) := fun m hm => hm.dig (fun j _ => hlim j) (by rw [nv_lim, nt_top (fun p hp => sd_top hp) (by omega)]; rfl)
                have f0 : wr.cell? ⟨w.heap.size, 0, none⟩ = some (.int .i64 0) := (hbel.cell (p := ⟨w.heap.size, 0, none⟩) (Nat.lt_succ_self _)).trans (by rw [World.cell?_alloc_at _ _ _ _ rfl]; rfl)
                have f1 : wr.cell? ⟨w.heap.size, 1, none⟩ = some (.int .i64 0) := (hbel.cell (p := ⟨w.heap.size, 1, none⟩) (Nat.lt_succ_self _)).trans (by rw [World.cell?_alloc_at _ _ _ _ rfl]; rfl)
                have z0 : wr.frozen? ⟨w.heap.size, 0, none⟩ = false := (hbel.frozen (p := ⟨w.heap.size, 0, none⟩) (Nat.lt_succ_self _)).trans (World.frozen?_alloc_at _ _ _ _ rfl)
                have z1 : wr.frozen? ⟨w.heap.size, 1, none⟩ = false := (hbel.frozen (p := ⟨w.heap.size, 1, none⟩) (Nat.lt_succ_self _)).trans (World.frozen?_alloc_at _ _ _ _ rfl)
                clear hown hr hlim
                go_wp2_with fail
                refine HT.out.mono ?_
                rintro e w' ⟨⟨v, rfl, A2, m2, c2, rfl, hr2, htr⟩, rfl⟩
                have HTR := Lib.hid htr
                clear htr
                go_wp2_with fail
                have hbf : Below w.heap.size w ((wr.setCell ⟨w.heap.size, 0, none⟩ (.int .i64 0)).setCell ⟨w.heap.size, 1, none⟩ (.int .i64 0)) :=
                  ((((Below.refl _ _).alloc (Nat.le_refl _) _).trans (hbel.mono (by omega))).setCell (p := ⟨w.heap.size, 0, none⟩) (Nat.le_refl _) _).setCell (p := ⟨w.heap.size, 1, none⟩) (Nat.le_refl _) _
                have hr3 : Rs ((wr.setCell ⟨w.heap.size, 0, none⟩ (.int .i64 0)).setCell ⟨w.heap.size, 1, none⟩ (.int .i64 0)) wr.heap.size A2 m2 c2 (lim (sd s)) := hr2.keep fun p _ => (cell_set_id (by rw [cell_set_id f0]; exact f1) p).trans (cell_set_id f0 p)
                exact bodyPost_ret (v := .tuple #[.slice A2 m2 c2, .agg #[.int .i64 0, .int .i64 0]]) (by simp [results, Tryd.results23, go_sem, f0, f1]) rfl ⟨_, _, _, rfl, .inr (.inr (.inr ⟨h, hg.out, by
                  rintro (e | ⟨e1, e2⟩)
                  · omega
                  · first | exact HZ.out e2 | omega, rfl, rfl, A2, m2, c2, _, rfl, hr3.more (by simp [World.setCell]), HD.out _ HTR.out, hbf⟩)), hbf⟩
        · have h1' : ¬ (1 : Int) < (s.size : Int) := by omega
          clear he h0
          go_wp2_with fail
          go_loopw [5, 6, 7, 8] (fun v z _ _ wr => ∃ j : Nat, j ≤ 1025 ∧ z = .int .i64 ((s.size : Int) - 9 * (j : Int)) ∧ Own wr (w.heap.size + 1) v j (lim (sd s)) ∧ Hid (9 * j ≤ s.size + 8) ∧ Below (w.heap.size + 1) (w.alloc (.cells #[.int .i64 0, .int .i64 0] 39)) wr) (fun _ z _ _ _ => (intOf z).toNat)
          case atStart => exact ⟨0, by omega, by go_num, Own.nil _ _ _, by show 9 * 0 ≤ s.size + 8; omega, Below.refl _ _⟩
          case round =>
            obtain ⟨j, hj, rfl, hown, hjl, hbel⟩ := hrel
            by_cases hlt : 9 * j < s.size
            · obtain ⟨wo, rfl⟩ : ∃ wo : World, wo = wr := ⟨_, rfl⟩
              obtain ⟨E, hE⟩ : ∃ E, s.size - 9 * j = E := ⟨_, rfl⟩
              have hzE : ((s.size : Int) - 9 * (j : Int)) = (E : Int) := by omega
              rw [hzE]
              have hEp : 0 < E := by omega
              have hEs : E ≤ s.size := by omega
              have HE := Lib.hid hE
              have HZE := Lib.hid hzE
              have hx0 : iv (hd (fun r => sd s (9 * j + r)) 9 (E - (E - 9))) = 0 := by
                rw [hd_zeros, iv_zero]
                intro p h1 h2
                exact sd_top (by omega)
              have HX0 := Lib.hid hx0
              have hsz := hbel.size
              rw [World.size_alloc] at hsz
              clear hE hx0 hzE
              go_wp2_with fail
              all_goals
                go_loop [7, 8] (fun x i => ∃ q : Nat, E - 9 ≤ q ∧ q ≤ E ∧ i = .int .i64 q ∧ x = .int .u32 (iv (hd (fun r => sd s (9 * j + r)) 9 (E - q)))) (fun _ i => E - (intOf i).toNat)
                case atStart => exact ⟨E - 9, by omega, by omega, by first | go_num | (congr 1; omega), by rw [HX0.out]⟩
                case round =>
                  obtain ⟨q, hq1, hq2, rfl, rfl⟩ := hrel
                  by_cases hqE : q < E
                  · have hqs : q < s.size := by omega
                    obtain ⟨s1, s2⟩ := ref_step (j := j) hg.out HE.out hqs hqE (by omega)
                    have hgk := hg.out q hqs
                    have he := sb_eq s q hqs
                    have b1 : (48 : Int) ≤ ((s[q]'hqs).toNat : Int) := by unfold good at hgk; omega
                    have b2 : ((s[q]'hqs).toNat : Int) ≤ 57 := by unfold good at hgk; omega
                    have hx0 := iv_nonneg (hd (fun r => sd s (9 * j + r)) 9 (E - q))
                    have hqi : (q : Int) < (s.size : Int) := by omega
                    have HS1 := Lib.hid s1
                    clear s1 hgk he
                    generalize hgx : iv (hd (fun r => sd s (9 * j + r)) 9 (E - q)) = x at *
                    have HGX := Lib.hid hgx
                    clear hgx
                    go_wp2_with fail
                    go_round
                    case rel => exact ⟨q + 1, by omega, by omega, by go_num, by rw [HS1.out]⟩
                    case measure => simp [intOf] <;> omega
                  · obtain rfl : q = E := by omega
                    rw [Nat.sub_self, hd_zero, show nt (fun r => sd s (9 * j + r)) 9 = lim (sd s) j from rfl]
                    have hl0 := iv_nonneg (lim (sd s) j)
                    have hl1 := iv_limb (lim_lt (sd_lt hg.out) j)
                    generalize hgx : iv (lim (sd s) j) = x at *
                    have HGX := Lib.hid hgx
                    clear hgx
                    obtain ⟨i0, hi, hz0, hz1, hz2⟩ := info_parts info32
                    go_wp2_with (at_builtin; refine wpList_append_own _ rfl (.tmp 67) (.tmp 69) 23 rfl (w.heap.size + 1) 30 i0 (.int .u32 0) 1 4 Tryd.underlying23 hi hz0 hz1 hz2 rfl (by decide) _ _ _ rfl (World.ownsRow.alloc hown _) ⟨wo.heap.size, 0, none⟩ 1 1 [.int .u32 x] rfl rfl (cell_one_new _ _ _) (oneCell_u32 _) (by unfold maxLen; omega) (by omega) (size_one hsz _) ?_)
                    intro v' w1 hown' hgrow _
                    have hb1 := snocB hown hbel (Nat.le_refl _) hsz hgrow
                    rw [← HGX.out] at hown'
                    have hown1 := Own.snoc hown' rfl
                    clear hown' hgrow hown hbel
                    go_wp2_with fail
                    go_roundw
                    case rel => exact ⟨j + 1, by omega, by have := HZE.out; congr 1; omega, hown1, by show 9 * (j + 1) ≤ s.size + 8; have := HE.out; omega, hb1⟩
                    case measure => simp [intOf] <;> omega
            · have hneg : ¬ (0 : Int) < (s.size : Int) - 9 * (j : Int) := by omega
              have hlim := lim_lt (sd_lt hg.out)
              obtain ⟨V, c, rfl, hr⟩ := hown.rs (fun j _ => by have := hlim j; rw [LB_eq] at this; omega)
              have HT := Lib.hid (refTrim_any V j c _ _ wr hr)
              have HD : Hid (∀ m, Trim j (lim (sd s)) m → Dig m (lim (sd s)) (pnum s)) := fun m hm => hm.dig (fun j _ => hlim j) (by rw [nv_lim, nt_top (fun p hp => sd_top hp) (by omega)]; rfl)
              have f0 : wr.cell? ⟨w.heap.size, 0, none⟩ = some (.int .i64 0) := (hbel.cell (p := ⟨w.heap.size, 0, none⟩) (Nat.lt_succ_self _)).trans (by rw [World.cell?_alloc_at _ _ _ _ rfl]; rfl)
              have f1 : wr.cell? ⟨w.heap.size, 1, none⟩ = some (.int .i64 0) := (hbel.cell (p := ⟨w.heap.size, 1, none⟩) (Nat.lt_succ_self _)).trans (by rw [World.cell?_alloc_at _ _ _ _ rfl]; rfl)
              have z0 : wr.frozen? ⟨w.heap.size, 0, none⟩ = false := (hbel.frozen (p := ⟨w.heap.size, 0, none⟩) (Nat.lt_succ_self _)).trans (World.frozen?_alloc_at _ _ _ _ rfl)
              have z1 : wr.frozen? ⟨w.heap.size, 1, none⟩ = false := (hbel.frozen (p := ⟨w.heap.size, 1, none⟩) (Nat.lt_succ_self _)).trans (World.frozen?_alloc_at _ _ _ _ rfl)
              clear hown hr hlim
              go_wp2_with fail
              refine HT.out.mono ?_
              rintro e w' ⟨⟨v, rfl, A2, m2, c2, rfl, hr2, htr⟩, rfl⟩
              have HTR := Lib.hid htr
              clear htr
              go_wp2_with fail
              have hbf : Below w.heap.size w ((wr.setCell ⟨w.heap.size, 0, none⟩ (.int .i64 0)).setCell ⟨w.heap.size, 1, none⟩ (.int .i64 0)) :=
                ((((Below.refl _ _).alloc (Nat.le_refl _) _).trans (hbel.mono (by omega))).setCell (p := ⟨w.heap.size, 0, none⟩) (Nat.le_refl _) _).setCell (p := ⟨w.heap.size, 1, none⟩) (Nat.le_refl _) _
              have hr3 : Rs ((wr.setCell ⟨w.heap.size, 0, none⟩ (.int .i64 0)).setCell ⟨w.heap.size, 1, none⟩ (.int .i64 0)) wr.heap.size A2 m2 c2 (lim (sd s)) := hr2.keep fun p _ => (cell_set_id (by rw [cell_set_id f0]; exact f1) p).trans (cell_set_id f0 p)
              exact bodyPost_ret (v := .tuple #[.slice A2 m2 c2, .agg #[.int .i64 0, .int .i64 0]]) (by simp [results, Tryd.results23, go_sem, f0, f1]) rfl ⟨_, _, _, rfl, .inr (.inr (.inr ⟨h, hg.out, by
                rintro (e | ⟨e1, e2⟩)
                · omega
                · first | exact HZ.out e2 | omega, rfl, rfl, A2, m2, c2, _, rfl, hr3.more (by simp [World.setCell]), HD.out _ HTR.out, hbf⟩)), hbf⟩

end Go.Proofs.YtoonhjeiommhcaaDoor

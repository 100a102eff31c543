/- The contracts of the reference's Text and Digits. Conditions as premises: the list reads. -/
import Derived.Test.YtoonhjeiommhcaaDoorDoorRefText
namespace Go.Proofs.YtoonhjeiommhcaaDoor
open Go.RowKit

/-- the bytes lowest first, of which q at each end have been exchanged -/
def rv (N m q j : Nat) : Nat := if j < q ∨ m - 1 - j < q then lb N (m - 1 - j) else lb N j

theorem rv_step {N m q r : Nat} (h : q + r + 1 = m) (hlt : q < r) : ∀ j, j < m → (if j = r then lb N q else if j = q then lb N r else rv N m q j) = rv N m (q + 1) j := by
  intro j hj
  unfold rv
  by_cases e1 : j = r
  · subst e1
    rw [if_pos rfl, if_pos (by omega), show m - 1 - j = q by omega]
  · rw [if_neg e1]
    by_cases e2 : j = q
    · subst e2
      rw [if_pos rfl, if_pos (by omega), show m - 1 - j = r by omega]
    · rw [if_neg e2]
      by_cases e3 : j < q ∨ m - 1 - j < q
      · rw [if_pos e3, if_pos (by omega)]
      · rw [if_neg e3, if_neg (by omega)]

theorem rv_done {N m q r : Nat} (h : q + r + 1 = m) (hlt : ¬ q < r) : ∀ j, j < m → rv N m q j = lb N (m - 1 - j) := by
  intro j hj
  unfold rv
  by_cases e3 : j < q ∨ m - 1 - j < q
  · rw [if_pos e3]
  · rw [if_neg e3, show m - 1 - j = j by omega]

theorem txt_zero : txt 0 1 = ⟨#[48]⟩ := by
  unfold txt
  rw [show (List.range 1).map (fun i => iv (tb 0 1 i)) = [48] by simp [tb, iv_n 48 48 rfl]]
  rfl

theorem lb_48 {N j : Nat} : lb N j = 48 ↔ N / 10 ^ j % 10 = 0 := by unfold lb; omega

set_option maxHeartbeats 8000000 in
set_option maxRecDepth 100000 in
theorem refText_ok (A : Option Addr) (n c : Nat) (f : Nat → Nat) (w : World) (h : Rs w w.heap.size A n c f) (hn : n ≤ 1024) (hv : Val n f) :
    Calls Tryd.prog 21 #[.slice A n c] w fun e w' => (∃ L, e = .returned (.tuple #[.string (txt (nv f n) L), .int .i64 0]) ∧ IsLen (nv f n) L) ∧ Below w.heap.size w w' := by
  have c1 := refCheck_any A n c f _ w h
  rw [chk_ok (by omega) hv] at c1
  have C1 := Lib.hid c1
  have HV := Lib.hid hv
  clear c1 hv
  go_enter Tryd.func21, Tryd.ntmps21
  go_wp2_with fail
  refine C1.out.mono ?_
  rintro e w' ⟨rfl, rfl⟩
  go_wp2_with fail
  go_loopw [5, 6, 7, 8] (fun v i _ _ wr => ∃ k : Nat, k ≤ n ∧ i = .int .i64 k ∧ Own8 wr w.heap.size v (9 * k) (lb (nv f n)) ∧ Below w.heap.size w wr) (fun _ i _ _ _ => n - (intOf i).toNat)
  case atStart => exact ⟨0, Nat.zero_le _, rfl, Own8.nil _ _ _, Below.refl _ _⟩
  case round =>
    obtain ⟨k, hk, rfl, hown, hbel⟩ := hrel
    by_cases hlt : k < n
    · obtain ⟨wo, rfl⟩ : ∃ wo : World, wo = wr := ⟨_, rfl⟩
      have hr := h.below hbel
      obtain ⟨b, off, rfl, hb, hc⟩ := hr.cell (by omega)
      have hck := hc k hlt
      have hfk := HV.out.1 k hlt
      have HFK := Lib.hid hfk
      clear hc hfk
      go_wp2_with fail
      go_loopw [5, 7, 8] (fun v x j wr => ∃ q : Nat, q ≤ 9 ∧ j = .int .i64 q ∧ x = .int .u32 (iv (f k / 10 ^ q)) ∧ Own8 wr w.heap.size v (9 * k + q) (lb (nv f n)) ∧ Below w.heap.size w wr) (fun _ _ j _ => 9 - (intOf j).toNat)
      case atStart => exact ⟨0, Nat.zero_le _, rfl, by simp, hown, hbel⟩
      case round =>
        obtain ⟨q, hq, rfl, rfl, hown2, hbel2⟩ := hrel
        clear hown hbel
        by_cases hq9 : q < 9
        · have hx0 := iv_nonneg (f k / 10 ^ q)
          have hx1 : iv (f k / 10 ^ q) < 1000000000 := iv_limb (Nat.lt_of_le_of_lt (Nat.div_le_self _ _) HFK.out)
          have HL := Lib.hid (lb_limb HV.out hlt hq9)
          have HD := Lib.hid (div_ten (f k) q)
          have hsz := hbel2.size
          generalize hgx : iv (f k / 10 ^ q) = x at *
          have HGX := Lib.hid hgx
          clear hgx
          obtain ⟨i0, hi, hz0, hz1, hz2⟩ := info_parts info8
          go_wp2_with (at_builtin; refine wpList_append_own _ rfl (.tmp 30) (.tmp 35) 56 rfl w.heap.size 5 i0 (.int .u8 0) 1 1 Tryd.underlying56 hi hz0 hz1 hz2 rfl (by decide) _ _ _ rfl (World.ownsRow.alloc hown2 _) ⟨wr.heap.size, 0, none⟩ 1 1 [.int .u8 (48 + x % 10)] rfl rfl (cell_one_new _ _ _) ?c2 ?c3 ?c4 ?c5 ?_)
          case c2 => intro u hu; simp at hu; subst hu; rfl
          case c3 => unfold maxLen; omega
          case c4 => omega
          case c5 => simp; omega
          intro v' w1 hown' hgrow _
          have hb1 := snoc8_below hown2 hbel2 (Nat.le_refl _) hsz hgrow
          rw [HL.out] at hown'
          have hown1 := Own8.snoc hown' rfl
          clear hown' hgrow hown2 hbel2
          go_wp2_with fail
          go_roundw
          case rel => exact ⟨q + 1, by omega, by go_num, by rw [HD.out], hown1, hb1⟩
          case measure => simp [intOf] <;> omega
        · obtain rfl : q = 9 := by omega
          go_wp2_with fail
          go_roundw
          case rel => exact ⟨k + 1, by omega, by go_num, hown2, hbel2⟩
          case measure => simp [intOf] <;> omega
    · obtain rfl : k = n := by omega
      obtain ⟨wo, rfl⟩ : ∃ wo : World, wo = wr := ⟨_, rfl⟩
      obtain ⟨V, cap, rfl, hcapn, hcapm, hform⟩ := hown.form
      have HF := Lib.hid hform
      have HN : Hid (nv f k < 10 ^ (9 * k)) := by have := nv_lt k HV.out.1; rw [LB_pow] at this; exact this
      have HN0 : Hid ((∀ j, 0 ≤ j → j < 9 * k → lb (nv f k) j = 48) → nv f k = 0) := fun hh => by
        have := (len_of_trim HN.out (Nat.zero_le _) (fun j a b => lb_48.1 (hh j a b)) (fun h => by omega)).1
        omega
      have hcapm' : (cap : Int) ≤ 9223372036854775807 := by omega
      clear hform hown hcapm
      go_wp2_with fail
      go_loop [5] (fun s => ∃ m : Nat, m ≤ 9 * k ∧ s = .slice V m cap ∧ Hid (∀ j, m ≤ j → j < 9 * k → lb (nv f k) j = 48)) (fun s => lenV s)
      case atStart => exact ⟨_, Nat.le_refl _, rfl, fun j a b => by omega⟩
      case round =>
        obtain ⟨m, hm, rfl, hz⟩ := hrel
        by_cases hm0 : m = 0
        · subst hm0
          go_wp2_with fail
          go_ret2
          exact ⟨⟨1, by rw [HN0.out (fun j a b => hz j (by omega) b), txt_zero]; rfl, by rw [HN0.out (fun j a b => hz j (by omega) b)]; exact len_zero⟩, hbel⟩
        · have hmp : 0 < m := by omega
          have hmp' : (0 : Int) < (m : Int) := by omega
          have hmb : ((m : Int) == 0) = false := by rw [beq_eq_false_iff_ne]; omega
          obtain ⟨g, rfl, hg, hP⟩ := HF.out (by omega)
          have hcm := hP.cell (j := m - 1) (by omega)
          have hmc : m ≤ cap := by omega
          by_cases hl : lb (nv f k) (m - 1) = 48
          · rw [hl, iv_n 48 48 rfl] at hcm
            have HL := Lib.hid hl
            clear hl hm0
            go_wp2_with fail
            go_round
            case rel => exact ⟨m - 1, by omega, by go_num, fun j a b => by
              by_cases e : j = m - 1
              · subst e; exact HL.out
              · exact hz j (by omega) b⟩
            case measure => simp [lenV] <;> omega
          · have hlb : (iv (lb (nv f k) (m - 1)) == 48) = false := by rw [beq_eq_false_iff_ne]; intro e; apply hl; rw [iv_eq] at e; omega
            have HL := Lib.hid hl
            have hP0 := (hP.take hm).congr (f' := rv (nv f k) m 0) (fun j _ => by unfold rv; rw [if_neg (by omega)])
            generalize iv (lb (nv f k) (m - 1)) = x at *
            clear hl hm0
            go_wp2_with fail
            go_loopw [9, 10] (fun i j wr => ∃ q r : Nat, i = .int .i64 q ∧ j = .int .i64 r ∧ Hid (q + r + 1 = m) ∧ q ≤ r + 1 ∧ r < m ∧ P8 wr g cap m (rv (nv f k) m q) ∧ Below w.heap.size w wr) (fun i j _ => ((intOf j) + 1 - (intOf i)).toNat)
            case atStart => exact ⟨0, m - 1, rfl, by go_num, by show 0 + (m - 1) + 1 = m; omega, by omega, by omega, hP0, hbel⟩
            case round =>
              obtain ⟨q, r, rfl, rfl, hqr, hle, hrm, hPq, hb2⟩ := hrel
              by_cases hlt2 : q < r
              · have hq := hPq.cell (j := q) (by omega)
                have hr' := hPq.cell (j := r) hrm
                have fq := hPq.frozen q
                have fr := hPq.frozen r
                have e1 : rv (nv f k) m q q = lb (nv f k) q := by unfold rv; have := hqr.out; rw [if_neg (by omega)]
                have e2 : rv (nv f k) m q r = lb (nv f k) r := by unfold rv; have := hqr.out; rw [if_neg (by omega)]
                rw [e1] at hq
                rw [e2] at hr'
                have hqi : (q : Int) < (m : Int) := by omega
                have hri : (r : Int) < (m : Int) := by omega
                have hne : q ≠ r := by omega
                have hne' : r ≠ q := by omega
                clear e1 e2
                go_wp2_with fail
                go_region
                go_wp2_with fail
                go_roundw
                case rel => exact ⟨q + 1, r - 1, by go_num, by go_num, (show q + 1 + (r - 1) + 1 = m by have := hqr.out; omega), by omega, by omega, (((hPq.set q _).set r _).congr (rv_step hqr.out hlt2)).drew, ((hb2.setCell (p := ⟨g, q, none⟩) hg _).setCell (p := ⟨g, r, none⟩) hg _).drew⟩
                case measure => simp [intOf] <;> omega
              · have hconv := conv_P8 (hPq.congr (rv_done hqr.out hlt2))
                go_wp2_with fail
                go_ret2
                exact ⟨⟨m, rfl, by
                  obtain ⟨h1, h2⟩ := len_of_trim HN.out hm (fun j a b => lb_48.1 (hz j a b)) (fun _ e => HL.out (lb_48.2 e))
                  exact ⟨hmp, h1, fun _ => h2 hmp⟩⟩, hb2⟩

end Go.Proofs.YtoonhjeiommhcaaDoor

/- The contract of Limbs: it makes a valid list of at most as many limbs. Conditions as premises: the list reads, and has at most 1000 limbs. -/
import Derived.Test.YtoonhjeiommhcaaTrim
namespace Go.Proofs.Ytoonhjeiommhcaa
open Go.RowKit

theorem oneCell_u32 (x : Int) : ∀ u ∈ [Value.int .u32 x], u.oneCell' = true := by intro u hu; simp at hu; subst hu; rfl
theorem size_one {w : World} {B : Nat} (h : B ≤ w.heap.size) (o : Obj) : B ≤ (w.alloc o).heap.size := by simp; omega

set_option maxHeartbeats 1600000 in
set_option maxRecDepth 100000 in
theorem limbs_any (A : Option Addr) (n c : Nat) (f : Nat → Nat) (w : World) (h : Rs w w.heap.size A n c f) (hn : n ≤ 1000) :
    Calls Try.prog 24 #[.slice A n c] w fun e w' => ∃ A' m c' g, e = .returned (.slice A' m c') ∧ Rs w' w'.heap.size A' m c' g ∧ Val m g ∧ m ≤ n ∧ Below w.heap.size w w' := by
  go_enter Try.func24, Try.ntmps24
  go_wp2_with fail
  go_loopw [3, 4] (fun v i wr => ∃ k : Nat, k ≤ n ∧ i = .int .i64 k ∧ Own wr w.heap.size v k (fun j => f j % LB) ∧ Below w.heap.size w wr) (fun _ i _ => n - (intOf i).toNat)
  case atStart => exact ⟨0, Nat.zero_le _, rfl, Own.nil _ _ _, Below.refl _ _⟩
  case round =>
    obtain ⟨k, hk, rfl, hown, hbel⟩ := hrel
    by_cases hlt : k < n
    · have hr := h.below hbel
      obtain ⟨b, off, rfl, hb, hc⟩ := hr.cell (by omega)
      have hck := hc k hlt
      have hx0 := iv_nonneg (f k)
      have hmod : iv (f k) % 1000000000 = iv (f k % LB) := by rw [iv_eq, iv_eq, LB_eq]; rfl
      have HM := Lib.hid hmod
      have hsz := hbel.size
      clear hc hmod
      generalize hgx : iv (f k) = x at *
      have HGX := Lib.hid hgx
      clear hgx
      obtain ⟨i0, hi, hz0, hz1, hz2⟩ := info_parts info32
      go_wp2_with (at_builtin; refine wpList_append_own _ rfl (.tmp 11) (.tmp 17) 23 rfl w.heap.size 30 i0 (.int .u32 0) 1 4 Try.underlying23 hi hz0 hz1 hz2 rfl (by decide) _ _ _ rfl (World.ownsRow.alloc hown _) ⟨wr.heap.size, 0, none⟩ 1 1 [.int .u32 (x % 1000000000)] rfl rfl (cell_one_new _ _ _) (oneCell_u32 _) (by unfold maxLen; omega) (by omega) (size_one hsz _) ?_)
      intro v' w1 hown' hgrow _
      have hb1 := snoc_below hown hbel (Nat.le_refl _) hsz hgrow
      rw [HM.out] at hown'
      have hown1 := Own.snoc hown' rfl
      clear hown' hgrow hown hbel
      go_wp2_with fail
      go_roundw
      case rel => exact ⟨k + 1, by omega, by go_num, hown1, hb1⟩
      case measure => simp [intOf] <;> omega
    · obtain rfl : k = n := by omega
      obtain ⟨wo, rfl⟩ : ∃ wo : World, wo = wr := ⟨_, rfl⟩
      have hlb : ∀ j, f j % LB < LB := fun j => Nat.mod_lt _ LB_pos
      obtain ⟨V, cap, rfl, hr⟩ := hown.rs (fun j _ => by have := hlb j; rw [LB_eq] at this ⊢; omega)
      have HR := Lib.hid hr
      have hcap := hr.cap
      have hcm : (cap : Int) ≤ 9223372036854775807 := by have := hr.max; omega
      clear hown hr hlb
      go_wp2_with fail
      go_loop [3] (fun s => ∃ m : Nat, m ≤ k ∧ s = .slice V m cap) (fun s => lenV s)
      case atStart => exact ⟨_, Nat.le_refl _, rfl⟩
      case round =>
        obtain ⟨m, hm, rfl⟩ := hrel
        by_cases hm0 : m = 0
        · subst hm0
          go_wp2_with fail
          go_ret
          exact ⟨_, 0, _, rfl, _, HR.out.take (by omega), ⟨fun j hj => by omega, fun h => by omega⟩, by omega, hbel⟩
        · have hmp : 0 < m := by omega
          have hmp' : (0 : Int) < (m : Int) := by omega
          have hmc : m ≤ cap := by omega
          obtain ⟨g, off, rfl, hg, hcell⟩ := HR.out.cell (by omega)
          have hcm := hcell (m - 1) (by omega)
          clear hm0 hcell
          by_cases hl : f (m - 1) % LB = 0
          · rw [hl, iv_zero] at hcm
            clear hl
            go_wp2_with fail
            go_round
            case rel => exact ⟨m - 1, by omega, by go_num⟩
            case measure => simp [lenV] <;> omega
          · have hlb : (iv (f (m - 1) % LB) == 0) = false := by rw [beq_eq_false_iff_ne]; intro e; apply hl; rw [iv_eq] at e; omega
            have HL := Lib.hid hl
            generalize iv (f (m - 1) % LB) = x at *
            clear hl
            go_wp2_with fail
            go_ret
            exact ⟨_, m, _, rfl, _, HR.out.take hm, ⟨fun j _ => Nat.mod_lt _ LB_pos, fun _ => HL.out⟩, hm, hbel⟩

end Go.Proofs.Ytoonhjeiommhcaa

/- The contracts of countDigits and Digits, of the program. Conditions as premises: the list reads, and the table of powers holds what its initialiser lays. -/
import Derived.Test.YtoonhjeiommhcaaDoorTen
import Derived.Test.YtoonhjeiommhcaaDoorDivLimb
import Derived.Laws.Rows
namespace Go.Proofs.YtoonhjeiommhcaaDoor
open Go.RowKit

/-- the table of the powers of ten -/
def tab9 : Array Value := #[.int .u32 1, .int .u32 10, .int .u32 100, .int .u32 1000, .int .u32 10000, .int .u32 100000, .int .u32 1000000, .int .u32 10000000, .int .u32 100000000]
def Tab (w : World) : Prop := ∃ t fr, w.heap[0]? = some (.cells tab9 t fr)

theorem tab9_get : ∀ k, k < 9 → tab9[k]? = some (.int .u32 (iv (10 ^ k)))
  | 0, _ => by rw [iv_eq]; rfl
  | 1, _ => by rw [iv_eq]; rfl
  | 2, _ => by rw [iv_eq]; rfl
  | 3, _ => by rw [iv_eq]; rfl
  | 4, _ => by rw [iv_eq]; rfl
  | 5, _ => by rw [iv_eq]; rfl
  | 6, _ => by rw [iv_eq]; rfl
  | 7, _ => by rw [iv_eq]; rfl
  | 8, _ => by rw [iv_eq]; rfl
  | k + 9, h => by omega

theorem Tab.cell {w : World} (h : Tab w) {k : Nat} (hk : k < 9) : w.cell? ⟨0, k, none⟩ = some (.int .u32 (iv (10 ^ k))) := by
  obtain ⟨t, fr, h⟩ := h
  rw [← tab9_get k hk]
  simp [World.cell?, h]
theorem Tab.lt {w : World} (h : Tab w) : 0 < w.heap.size := by
  obtain ⟨t, fr, h⟩ := h
  obtain ⟨hlt, _⟩ := Array.getElem?_eq_some_iff.1 h
  exact hlt
theorem Tab.below {w w' : World} {B : Nat} (h : Tab w) (hb : Below B w w') (hB : 0 < B) : Tab w' := by
  obtain ⟨t, fr, h⟩ := h
  exact ⟨t, fr, (hb.block _ hB).trans h⟩
theorem Tab.after {w w' : World} (h : Tab w) (hb : Below w.heap.size w w') : Tab w' := h.below hb h.lt

theorem index_tab (k : Nat) (hk : k < 9) (w : World) : (Instr.index 58 (.agg tab9) (.int .i64 (k : Int))).run Tryd.prog w = .ok (.int .u32 (iv (10 ^ k))) w := by
  match k, hk with
  | 0, _ => exact (show _ = Result.ok (.int .u32 1) w by kernel_rfl).trans (by rw [iv_n _ 1 rfl])
  | 1, _ => exact (show _ = Result.ok (.int .u32 10) w by kernel_rfl).trans (by rw [iv_n _ 10 rfl])
  | 2, _ => exact (show _ = Result.ok (.int .u32 100) w by kernel_rfl).trans (by rw [iv_n _ 100 rfl])
  | 3, _ => exact (show _ = Result.ok (.int .u32 1000) w by kernel_rfl).trans (by rw [iv_n _ 1000 rfl])
  | 4, _ => exact (show _ = Result.ok (.int .u32 10000) w by kernel_rfl).trans (by rw [iv_n _ 10000 rfl])
  | 5, _ => exact (show _ = Result.ok (.int .u32 100000) w by kernel_rfl).trans (by rw [iv_n _ 100000 rfl])
  | 6, _ => exact (show _ = Result.ok (.int .u32 1000000) w by kernel_rfl).trans (by rw [iv_n _ 1000000 rfl])
  | 7, _ => exact (show _ = Result.ok (.int .u32 10000000) w by kernel_rfl).trans (by rw [iv_n _ 10000000 rfl])
  | 8, _ => exact (show _ = Result.ok (.int .u32 100000000) w by kernel_rfl).trans (by rw [iv_n _ 100000000 rfl])

set_option maxHeartbeats 1600000 in
set_option maxRecDepth 100000 in
theorem countDigits_any (A : Option Addr) (n c : Nat) (f : Nat → Nat) (B : Nat) (w : World) (h : Rs w B A n c f) (hv : Val n f) (hn : n ≤ 1024) (ht : Tab w) :
    Calls Tryd.prog 39 #[.slice A n c] w fun e w' => (∃ L : Nat, e = .returned (.int .i64 (L : Int)) ∧ IsLen (nv f n) L) ∧ w = w' := by
  by_cases h0 : 0 < n
  · obtain ⟨b, off, rfl, hb, hc⟩ := h.cell h0
    have hct := hc (n - 1) (by omega)
    obtain ⟨t, fr, hg⟩ := ht
    have hlen := Lib.hid (len_of_val hv h0)
    have hnz : ((n : Int) == 0) = false := by rw [beq_eq_false_iff_ne]; omega
    have hix := Lib.hid index_tab
    generalize hgt : f (n - 1) = top at *
    clear hc hv hgt
    go_enter Tryd.func39, Tryd.ntmps39
    go_wp2_with (refine wpList_load_row rfl 58 _ rfl 0 rfl t _ fr _ hg Tryd.underlying58 rfl (by kernel_rfl) ?_)
    generalize hgtab : tab9 = tab at *
    clear hgtab hg
    go_loop [4, 6, 21] (fun d _ i => ∃ k : Nat, k ≤ 9 ∧ i = .int .i64 k ∧ d = .int .i64 ((9 : Int) * ((n : Int) - 1) + (cnt top k : Int))) (fun _ _ i => 9 - (intOf i).toNat)
    case atStart => exact ⟨0, by omega, rfl, by simp [cnt]⟩
    case round =>
      obtain ⟨k, hk, rfl, rfl⟩ := hrel
      have hcl := cnt_le top k
      by_cases hlt : k < 9
      · have hik := hix.out k hlt
        have hst : cnt top (k + 1) = cnt top k + (if 10 ^ k ≤ top then 1 else 0) := rfl
        by_cases hle : 10 ^ k ≤ top
        · have hle' : iv (10 ^ k) ≤ iv top := by rw [iv_eq, iv_eq]; omega
          rw [if_pos hle] at hst
          have HS := Lib.hid hst
          clear hst hle
          generalize iv (10 ^ k) = x at *
          generalize iv top = y at *
          go_wp2
          go_round
          case rel => exact ⟨k + 1, by omega, by go_num, by rw [HS.out]; congr 1; omega⟩
          case measure => simp [intOf] <;> omega
        · have hle' : ¬ iv (10 ^ k) ≤ iv top := by rw [iv_eq, iv_eq]; omega
          rw [if_neg hle] at hst
          have HS := Lib.hid hst
          clear hst hle
          generalize iv (10 ^ k) = x at *
          generalize iv top = y at *
          go_wp2
          go_round
          case rel => exact ⟨k + 1, by omega, by go_num, by rw [HS.out]; congr 1⟩
          case measure => simp [intOf] <;> omega
      · obtain rfl : k = 9 := by omega
        go_wp2
        go_ret
        exact ⟨⟨_, ret_int (by omega), hlen.out⟩, rfl⟩
  · obtain rfl : n = 0 := by omega
    go_enter Tryd.func39, Tryd.ntmps39
    go_wp2
    go_ret
    exact ⟨⟨1, rfl, len_zero⟩, rfl⟩

end Go.Proofs.YtoonhjeiommhcaaDoor

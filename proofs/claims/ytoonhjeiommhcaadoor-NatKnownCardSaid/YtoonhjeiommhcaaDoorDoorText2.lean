/- The contracts of Text and Digits of the program. Conditions as premises: the list reads, and the table of powers holds what its initialiser lays. -/
import Derived.Test.YtoonhjeiommhcaaDoorDoorText
namespace Go.Proofs.YtoonhjeiommhcaaDoor
open Go.RowKit

/-- the L decimal digits of N as bytes, the highest first -/
def tb (N L i : Nat) : Nat := 48 + N / 10 ^ (L - 1 - i) % 10
def txt (N L : Nat) : ByteArray := strOfNums ((List.range L).map fun i => iv (tb N L i))

theorem tb_lt (N L i : Nat) : tb N L i < 256 := by unfold tb; omega

/-- what Text says of a list: the text, then the error -/
noncomputable def TextV (n : Nat) (f : Nat → Nat) (v : Value) : Prop :=
  (chk n f = 0 ∧ ∃ L, IsLen (nv f n) L ∧ v = .tuple #[.string (txt (nv f n) L), .int .i64 0]) ∨ (chk n f ≠ 0 ∧ v = .tuple #[.string ⟨#[]⟩, .int .i64 (chk n f)])

theorem conv_row8 {w : World} {b n : Nat} {g : Nat → Nat} (h : Row8 w b n g) (cap : Nat) :
    (convert 56 9 (.slice (some ⟨b, 0, none⟩) n cap)).run Tryd.prog w = .ok (.string (strOfNums ((List.range n).map fun i => iv (g i)))) w :=
  run_convert_bytes_arg w 56 5 Tryd.underlying56 Tryd.underlying5 b 0 n cap _ (by simp) (fun i hi => by
    rw [Nat.zero_add, h.cell hi]; simp [List.getD, hi]) 9 Tryd.underlying9

set_option maxHeartbeats 1600000 in
set_option maxRecDepth 100000 in
theorem natText_any (A : Option Addr) (n c : Nat) (f : Nat → Nat) (w : World) (h : Rs w w.heap.size A n c f) (ht : Tab w) :
    Calls Tryd.prog 20 #[.slice A n c] w fun e w' => (∃ v, e = .returned v ∧ TextV n f v) ∧ Below w.heap.size w w' := by
  have c1 := check_any A n c f _ w h
  by_cases hk : chk n f = 0
  · obtain ⟨hn, hv⟩ := chk_zero hk
    rw [hk] at c1
    have C1 := Lib.hid c1
    have HK := Lib.hid hk
    have C2 := Lib.hid (countDigits_any A n c f _ w h hv hn ht)
    have HV := Lib.hid hv
    clear c1 hk hv
    go_enter Tryd.func20, Tryd.ntmps20
    go_wp2_with fail
    refine C1.out.mono ?_
    rintro e w' ⟨rfl, rfl⟩
    go_wp2_with fail
    refine C2.out.mono ?_
    rintro e w' ⟨⟨L, rfl, hL⟩, rfl⟩
    have hL1 : L ≤ 9 * 1024 := by
      rcases Nat.lt_or_ge (9 * 1024) L with hh | hh
      · exfalso
        have h1 := hL.ge (by omega)
        have h2 := nv_lt n HV.out.1
        rw [LB_pow] at h2
        have h3 : 10 ^ (9 * n) ≤ 10 ^ (L - 1) := ten_le (by omega)
        omega
      · exact hh
    have HL := Lib.hid hL
    clear hL
    have hmk := run_make_row' (P := Tryd.prog) 56 5 (.int .u8 0) 1 Tryd.underlying56 info8 rfl .i64 .i64 L (by omega) (by omega)
    have hrow := Row8.made w L
    have hbel : Below w.heap.size w (w.alloc (.cells (madeCells #[.int .u8 0] L) 5)) := (Below.refl _ _).alloc (Nat.le_refl _) _
    go_wp2_with fail
    clear hmk
    generalize hgw : w.alloc (.cells (madeCells #[.int .u8 0] L) 5) = w0 at *
    clear hgw
    go_loopw [6, 17] (fun _ i wr => ∃ k : Nat, k ≤ L ∧ i = .int .i64 k ∧ ∃ g, Row8 wr w.heap.size L g ∧ Hid (∀ j, j < k → g j = tb (nv f n) L j) ∧ Below w.heap.size w wr) (fun _ i _ => L - (intOf i).toNat)
    case atStart => exact ⟨0, Nat.zero_le _, rfl, _, hrow, fun j a => by omega, hbel⟩
    case round =>
      obtain ⟨k, hk, rfl, g, hrg, hg, hb⟩ := hrel
      by_cases hlt : k < L
      · have C3 := Lib.hid (digit_any A n c (L - 1 - k) f w.heap.size wr (h.below hb) HV.out (by omega) (ht.after hb))
        have hcp := hrg.cell hlt
        have hfz := hrg.frozen k
        have hnew := hrg.set k (tb (nv f n) L k)
        have hd0 := iv_nonneg (nv f n / 10 ^ (L - 1 - k) % 10)
        have hd1 : iv (nv f n / 10 ^ (L - 1 - k) % 10) < 10 := by rw [iv_eq]; omega
        have hde : 48 + iv (nv f n / 10 ^ (L - 1 - k) % 10) = iv (tb (nv f n) L k) := by unfold tb; rw [iv_eq, iv_eq]; omega
        rw [← hde] at hnew
        have HS := Lib.hid hde
        clear hde
        go_wp2_with fail
        rw [show ((L : Int) - 1 - (k : Int)) = ((L - 1 - k : Nat) : Int) by omega]
        refine C3.out.mono ?_
        rintro e w' ⟨rfl, d, rfl⟩
        generalize iv (nv f n / 10 ^ (L - 1 - k) % 10) = x at *
        go_wp2_with fail
        go_roundw
        case rel => exact ⟨k + 1, by omega, by go_num, _, hnew, fun j a => by
          by_cases e : j = k
          · simp [e]
          · simp [e]; exact hg j (by omega), below_drewN (hb.setCell (p := ⟨w.heap.size, k, none⟩) (Nat.le_refl _) _) d⟩
        case measure => simp [intOf] <;> omega
      · obtain rfl : k = L := by omega
        have hconv := conv_row8 hrg k
        go_wp2_with fail
        go_ret2
        exact ⟨⟨_, rfl, .inl ⟨HK.out, k, HL.out, by
          unfold txt
          rw [List.map_congr_left (fun j hj => by rw [hg j (List.mem_range.1 hj)])]; rfl⟩⟩, hb⟩
  · have h1 : (chk n f != 0) = true := by rw [bne_iff_ne]; exact hk
    have h2 : (chk n f == 0) = false := by rw [beq_eq_false_iff_ne]; exact hk
    have C1 := Lib.hid c1
    have HK := Lib.hid hk
    clear c1 hk
    go_enter Tryd.func20, Tryd.ntmps20
    go_wp2_with fail
    refine C1.out.mono ?_
    rintro e w' ⟨rfl, rfl⟩
    go_wp2_with fail
    go_ret2
    exact ⟨⟨_, rfl, .inr ⟨HK.out, rfl⟩⟩, Below.refl _ _⟩

/-- what Digits says of a list -/
noncomputable def DigitsV (n : Nat) (f : Nat → Nat) (v : Value) : Prop :=
  (chk n f = 0 ∧ ∃ L : Nat, IsLen (nv f n) L ∧ v = .tuple #[.int .i64 (L : Int), .int .i64 0]) ∨ (chk n f ≠ 0 ∧ v = .tuple #[.int .i64 0, .int .i64 (chk n f)])

set_option maxHeartbeats 400000 in
theorem natDigits_any (A : Option Addr) (n c : Nat) (f : Nat → Nat) (w : World) (h : Rs w w.heap.size A n c f) (ht : Tab w) :
    Calls Tryd.prog 18 #[.slice A n c] w fun e w' => (∃ v, e = .returned v ∧ DigitsV n f v) ∧ w = w' := by
  have c1 := check_any A n c f _ w h
  by_cases hk : chk n f = 0
  · obtain ⟨hn, hv⟩ := chk_zero hk
    rw [hk] at c1
    have C1 := Lib.hid c1
    have HK := Lib.hid hk
    have C2 := Lib.hid (countDigits_any A n c f _ w h hv hn ht)
    clear c1 hk hv
    go_enter Tryd.func18, Tryd.ntmps18
    go_wp2_with fail
    refine C1.out.mono ?_
    rintro e w' ⟨rfl, rfl⟩
    go_wp2_with fail
    refine C2.out.mono ?_
    rintro e w' ⟨⟨L, rfl, hL⟩, rfl⟩
    have HL := Lib.hid hL
    clear hL
    go_wp2_with fail
    go_ret2
    exact ⟨⟨_, rfl, .inl ⟨HK.out, L, HL.out, rfl⟩⟩, rfl⟩
  · have h1 : (chk n f != 0) = true := by rw [bne_iff_ne]; exact hk
    have h2 : (chk n f == 0) = false := by rw [beq_eq_false_iff_ne]; exact hk
    have C1 := Lib.hid c1
    have HK := Lib.hid hk
    clear c1 hk
    go_enter Tryd.func18, Tryd.ntmps18
    go_wp2_with fail
    refine C1.out.mono ?_
    rintro e w' ⟨rfl, rfl⟩
    go_wp2_with fail
    go_ret2
    exact ⟨⟨_, rfl, .inr ⟨HK.out, rfl⟩⟩, rfl⟩

end Go.Proofs.YtoonhjeiommhcaaDoor

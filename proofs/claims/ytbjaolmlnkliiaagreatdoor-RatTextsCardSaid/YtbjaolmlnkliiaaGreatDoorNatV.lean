/- The contracts of Clone, divide and Div for all valid lists. Conditions as premises: the lists read. -/
import Derived.Test.YtbjaolmlnkliiaaGreatDoorNatG
import Derived.Test.YtbjaolmlnkliiaaGreatDoorNatE
import Derived.Lib.SliceRun
namespace Go.Proofs.YtbjaolmlnkliiaaGreatDoor
open Go.RowKit Go.Shelf

set_option maxRecDepth 100000 in
set_option maxHeartbeats 800000 in
theorem clone_any (A : Option Addr) (n c : Nat) (f : Nat → Nat) (w : World) (hr : Rs w w.heap.size A n c f) (vf : Val n f) (hn : n ≤ 4096) :
    Calls Tryz.prog 215 #[.slice A n c] w fun e w' => ∃ v, e = .returned v ∧ Made w (nv f n) v w' := by
  rcases A with _ | a
  · have hn0 : n = 0 := by
      rcases Nat.eq_zero_or_pos n with h | h
      · exact h
      · obtain ⟨b, off, e, _⟩ := hr.cell h; cases e
    subst hn0
    have he := fun w => Lib.run_eql_slice_nil (P := Tryz.prog) w 23 40 none 0 c 0 0 Tryz.underlying23
    go_enter Tryz.func215, Tryz.ntmps215
    go_wp2_with fail
    go_ret
    exact ⟨_, rfl, Made.nil (Below.refl _ _)⟩
  · have VF := Lib.hid vf
    clear vf
    have he := fun w => Lib.run_eql_slice_nil (P := Tryz.prog) w 23 40 (some a) n c 0 0 Tryz.underlying23
    go_enter Tryz.func215, Tryz.ntmps215
    go_wp2_with (at_builtin; refine app_all rfl (.tmp 5) (.tmp 6) rfl hr (Nat.le_refl _) (by omega) rfl rfl ?_; intro A' c' w' hr' hb')
    go_ret
    exact ⟨_, rfl, made_rs hr' ⟨VF.out, rfl⟩ hb'⟩

set_option maxRecDepth 100000 in
set_option maxHeartbeats 1600000 in
theorem divide_less (A A' : Option Addr) (n c m c' : Nat) (f g : Nat → Nat) (w : World) (hA : Rs w w.heap.size A n c f) (hB : Rs w w.heap.size A' m c' g) (vf : Val n f) (vg : Val m g) (hn : n ≤ 1024) (hlt : nv f n < nv g m) :
    Calls Tryz.prog 232 #[.slice A n c, .slice A' m c'] w fun e w' => ∃ v u, e = .returned (.tuple #[v, u]) ∧ Made2 w (nv f n / nv g m) (nv f n % nv g m) v u w' := by
  have hcmp := compare_any A A' n c m c' f g _ _ w hA hB vf vg
  rw [cn_lt hlt] at hcmp
  rw [Nat.div_eq_of_lt hlt, Nat.mod_eq_of_lt hlt]
  have C1 := Lib.hid hcmp
  have C2 := Lib.hid fun d => clone_any A n c f (w.drewN d) (hA.drewN d) vf (by omega)
  clear hcmp hlt vf vg
  go_enter Tryz.func232, Tryz.ntmps232
  go_wp2_with fail
  refine C1.out.mono ?_
  rintro e w' ⟨rfl, d, rfl⟩
  go_wp2_with fail
  refine (C2.out d).mono ?_
  rintro e w2 ⟨u, rfl, hm⟩
  have HM := Lib.hid hm
  clear hm
  go_wp2_with fail
  go_ret2
  exact ⟨_, _, rfl, Made2.after (Qt.n1 w d).below (Made2.of (Made.nil (Below.refl _ _)) HM.out)⟩

set_option maxRecDepth 100000 in
set_option maxHeartbeats 1600000 in
theorem divide_long (A A' : Option Addr) (n c m c' : Nat) (f g : Nat → Nat) (w : World) (hA : Rs w w.heap.size A n c f) (hB : Rs w w.heap.size A' m c' g) (vf : Val n f) (vg : Val m g) (hn : n ≤ 1024) (hn2 : 2 < n) (hm : 2 ≤ m) (hle : nv g m ≤ nv f n) :
    Calls Tryz.prog 232 #[.slice A n c, .slice A' m c'] w fun e w' => ∃ v u, e = .returned (.tuple #[v, u]) ∧ Made2 w (nv f n / nv g m) (nv f n % nv g m) v u w' := by
  have hcmp := compare_any A A' n c m c' f g _ _ w hA hB vf vg
  have hcc : ¬ cn (nv f n) (nv g m) < 0 := by
    rcases Nat.eq_or_lt_of_le hle with e | e
    · rw [cn_eq e.symm]; decide
    · rw [cn_gt e]; decide
  have hmn : m ≤ n := by
    rcases Nat.lt_or_ge n m with h3 | h3
    · have := vf.lt_of_len vg h3; omega
    · omega
  have C1 := Lib.hid hcmp
  have C2 := Lib.hid fun d => divideLong_any A A' n c m c' f g (w.drewN d) (hA.drewN d) (hB.drewN d) vf.1 vg.1 hm hmn (by omega) (vg.2 (by omega))
  have h2 : ¬ (n : Int) ≤ 2 := by omega
  have h3 : ((m : Int) == 1) = false := by rw [beq_eq_false_iff_ne]; omega
  clear hcmp hle vf vg hmn
  generalize cn (nv f n) (nv g m) = cc at *
  go_enter Tryz.func232, Tryz.ntmps232
  go_wp2_with fail
  refine C1.out.mono ?_
  rintro e w' ⟨rfl, d, rfl⟩
  go_wp2_with fail
  refine (C2.out d).mono ?_
  rintro e w2 ⟨v, u, rfl, hm2⟩
  have HM := Lib.hid hm2
  clear hm2
  go_wp2_with fail
  go_ret2
  exact ⟨_, _, rfl, HM.out.after (Qt.n1 w d).below⟩

theorem divide_any (A A' : Option Addr) (n c m c' : Nat) (f g : Nat → Nat) (w : World) (hA : Rs w w.heap.size A n c f) (hB : Rs w w.heap.size A' m c' g) (vf : Val n f) (vg : Val m g) (hn : n ≤ 1024) (hm0 : 0 < m) :
    Calls Tryz.prog 232 #[.slice A n c, .slice A' m c'] w fun e w' => ∃ v u, e = .returned (.tuple #[v, u]) ∧ Made2 w (nv f n / nv g m) (nv f n % nv g m) v u w' := by
  rcases Nat.lt_or_ge (nv f n) (nv g m) with hlt | hle
  · exact divide_less A A' n c m c' f g w hA hB vf vg hn hlt
  rcases Nat.lt_or_ge 2 n with h2 | h2
  · rcases Nat.lt_or_ge 1 m with h1 | h1
    · exact divide_long A A' n c m c' f g w hA hB vf vg hn h2 h1 hle
    · obtain rfl : m = 1 := by omega
      exact divide1_any A A' n c c' f g w hA hB vf vg h2 hn
  · exact divide_small A A' n c m c' f g w hA hB vf vg h2 hm0 hle

/-- the error of a division -/
noncomputable def divE (n : Nat) (f : Nat → Nat) (m : Nat) (g : Nat → Nat) : Int := if chk2 n f m g = 0 then (if m = 0 then 6 else 0) else chk2 n f m g
/-- what a call that makes two numbers or finds an error leaves -/
def Ans2 (w : World) (er : Int) (N M : Nat) (e : Ending) (w' : World) : Prop := ∃ v u, e = .returned (.tuple #[v, u, .int .i64 er]) ∧ Made2 w (zr er N) (zr er M) v u w'
theorem Ans2.bad {w w' : World} {er : Int} {N M : Nat} (he : er ≠ 0) (hb : Below w.heap.size w w') : Ans2 w er N M (.returned (.tuple #[.slice none 0 0, .slice none 0 0, .int .i64 er])) w' :=
  ⟨_, _, rfl, by rw [zr_bad he, zr_bad he]; exact (Made2.of (Made.nil (Below.refl _ _)) (Made.nil hb))⟩

set_option maxRecDepth 100000 in
set_option maxHeartbeats 1600000 in
theorem natDiv_all (A A' : Option Addr) (n c m c' : Nat) (f g : Nat → Nat) (w : World) (hA : Rs w w.heap.size A n c f) (hB : Rs w w.heap.size A' m c' g) :
    Calls Tryz.prog 210 #[.slice A n c, .slice A' m c'] w fun e w' => Ans2 w (divE n f m g) (nv f n / nv g m) (nv f n % nv g m) e w' := by
  have c1 := checkAll_call A A' n c m c' f g w hA hB
  have hb : Below w.heap.size w (w.alloc (.cells #[.slice A n c, .slice A' m c'] 23)) := (Below.refl _ _).alloc (Nat.le_refl _) _
  have HB := Lib.hid hb
  by_cases h : chk2 n f m g = 0
  · obtain ⟨h1, h2⟩ := chk2_zero h
    obtain ⟨hn, vf⟩ := chk_zero h1
    obtain ⟨hm, vg⟩ := chk_zero h2
    have he : divE n f m g = if m = 0 then 6 else 0 := by unfold divE; rw [if_pos h]
    rw [h] at c1
    have C1 := Lib.hid c1
    by_cases hm0 : m = 0
    · rw [he, if_pos hm0]
      subst hm0
      clear c1 h h1 h2 vf vg hn hm hA hB hb he
      go_enter Tryz.func210, Tryz.ntmps210
      go_wp2_with fail
      refine C1.out.mono ?_
      rintro e w' ⟨rfl, rfl⟩
      go_wp2_with fail
      go_ret3
      exact Ans2.bad (by decide) HB.out
    · rw [he, if_neg hm0]
      have C2 := Lib.hid (divide_any A A' n c m c' f g (w.alloc (.cells #[.slice A n c, .slice A' m c'] 23)) ((hA.below hb).more hb.size) ((hB.below hb).more hb.size) vf vg hn (by omega))
      have hmb : ((m : Int) == 0) = false := by rw [beq_eq_false_iff_ne]; omega
      clear c1 h h1 h2 vf vg hn hm hA hB hb he hm0
      go_enter Tryz.func210, Tryz.ntmps210
      go_wp2_with fail
      refine C1.out.mono ?_
      rintro e w' ⟨rfl, rfl⟩
      go_wp2_with fail
      refine C2.out.mono ?_
      rintro e w' ⟨v, u, rfl, hm⟩
      have HM := Lib.hid hm
      clear hm
      go_wp2_with fail
      go_ret3
      exact ⟨v, u, rfl, by rw [zr_ok, zr_ok]; exact HM.out.after HB.out⟩
  · rw [show divE n f m g = chk2 n f m g by unfold divE; rw [if_neg h]]
    have h1 : (chk2 n f m g != 0) = true := by rw [bne_iff_ne]; exact h
    have h2 : (chk2 n f m g == 0) = false := by rw [beq_eq_false_iff_ne]; exact h
    have H := Lib.hid h
    have C1 := Lib.hid c1
    clear c1 h hA hB hb
    generalize chk2 n f m g = er at *
    go_enter Tryz.func210, Tryz.ntmps210
    go_wp2_with fail
    refine C1.out.mono ?_
    rintro e w' ⟨rfl, rfl⟩
    go_wp2_with fail
    go_ret3
    exact Ans2.bad H.out HB.out

end Go.Proofs.YtbjaolmlnkliiaaGreatDoor

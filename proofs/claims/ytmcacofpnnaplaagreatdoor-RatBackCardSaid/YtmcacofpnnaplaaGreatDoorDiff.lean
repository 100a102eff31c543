/- The contract of difference. Conditions as premises: the two lists read, their limbs are below ten to the ninth, they have at most 4096 limbs, the second is not longer and not greater than the first. -/
import Derived.Test.YtmcacofpnnaplaaGreatDoorSum
namespace Go.Proofs.YtmcacofpnnaplaaGreatDoor
open Go.RowKit Go.Shelf
attribute [local go_sem] Oper.semAt_some

theorem diff_next (pre : List Limb2) (x : Limb2) {c : Nat} (hc : bw (fa pre) (fb pre) pre.length = c) :
    us (dl (fa (pre ++ [x])) (fb (pre ++ [x]))) (pre.length + 1) = us (dl (fa pre) (fb pre)) pre.length ++ [.int .u32 (iv (if x.1.1 < x.1.2 + c then x.1.1 + LB - (x.1.2 + c) else x.1.1 - (x.1.2 + c)))] ∧
    bw (fa (pre ++ [x])) (fb (pre ++ [x])) (pre.length + 1) = if x.1.1 < x.1.2 + c then 1 else 0 := by
  have h := fun j (hj : j < pre.length) => fab_old pre x j hj
  have hn := fab_new pre x
  have e : bw (fa (pre ++ [x])) (fb (pre ++ [x])) pre.length = c := by rw [← hc]; exact (bw_congr _ h).symm
  refine ⟨?_, ?_⟩
  · rw [us_succ]
    congr 1
    · exact us_congr fun j hj => (dl_congr h j hj).symm
    · unfold dl; rw [e, hn.1, hn.2]
  · rw [bw, e, hn.1, hn.2]

theorem diff_limb {a b c : Nat} (hc : c ≤ 1) (ha : a < LB) (hb : b < LB) :
    ((iv a < iv b + iv c ∧ iv (if a < b + c then a + LB - (b + c) else a - (b + c)) = iv a + 1000000000 - (iv b + iv c) ∧ iv (if a < b + c then 1 else 0) = 1) ∨
     (¬ iv a < iv b + iv c ∧ iv (if a < b + c then a + LB - (b + c) else a - (b + c)) = iv a - (iv b + iv c) ∧ iv (if a < b + c then 1 else 0) = 0)) := by
  have e := LB_eq
  by_cases h : a < b + c
  · left; rw [if_pos h, if_pos h]; simp only [iv_eq]; rw [e] at ha hb; rw [e]; omega
  · right; rw [if_neg h, if_neg h]; simp only [iv_eq]; omega

theorem diff_upto (f g : Nat → Nat) (n m : Nat) (hf : ∀ j, j < n → f j < LB) (hg : ∀ j, j < m → g j < LB) (hle : nv g m ≤ nv f n) :
    nv (dl (fa (upto (prs f g n m hf hg) (max n m))) (fb (upto (prs f g n m hf hg) (max n m)))) (max n m) = nv f n - nv g m := by
  have h := diff_eq (f := fa (upto (prs f g n m hf hg) (max n m))) (g := fb (upto (prs f g n m hf hg) (max n m))) (max n m) (fun j _ => fab_lt _ j)
  have hl := nv_lt (f := dl (fa (upto (prs f g n m hf hg) (max n m))) (fb (upto (prs f g n m hf hg) (max n m)))) (max n m) (fun j _ => dl_lt (fab_lt _ j).1 (fab_lt _ j).2)
  have hb := bw_le (fa (upto (prs f g n m hf hg) (max n m))) (fb (upto (prs f g n m hf hg) (max n m))) (max n m)
  rw [nv_congr (f := fa _) (g := pl f n) _ fun j hj => (fab_upto hj).1, nv_congr (f := fb _) (g := pl g m) _ fun j hj => (fab_upto hj).2, nv_pl f n _ (by omega), nv_pl g m _ (by omega)] at h
  generalize bw (fa (upto (prs f g n m hf hg) (max n m))) (fb (upto (prs f g n m hf hg) (max n m))) (max n m) = b at *
  rcases (by omega : b = 0 ∨ b = 1) with rfl | rfl
  · rw [Nat.zero_mul] at h; omega
  · rw [Nat.one_mul] at h; omega

set_option maxRecDepth 100000 in
set_option maxHeartbeats 4000000 in
theorem diff_in (A1 A2 : Option Addr) (len1 cap1 len2 cap2 : Nat) (f g : Nat → Nat) (w : World) (hr1 : Rs w w.heap.size A1 len1 cap1 f) (hr2 : Rs w w.heap.size A2 len2 cap2 g)
    (hf : ∀ j, j < len1 → f j < LB) (hg : ∀ j, j < len2 → g j < LB) (hl1 : len1 ≤ 4096) (hl2 : len2 ≤ 4096) (hq : len2 ≤ len1) (hle : nv g len2 ≤ nv f len1) :
    CallsIn Fence.wide 3 Tryz.prog 154 #[.slice A1 len1 cap1, .slice A2 len2 cap2] w fun e W' => ∃ v, e = .returned v ∧ Made w (nv f len1 - nv g len2) v W' := by
  have hmk : ∀ w : World, (Instr.makeSlice 23 (.int .i64 0) (.int .i64 (len1 : Int))).run Tryz.prog w = .ok (.slice (some ⟨w.heap.size, 0, none⟩) 0 len1) (w.alloc (.cells (madeCells #[.int .u32 0] len1) 48)) := fun w => by
    obtain ⟨i0, hi, hz0, hz1, hz2⟩ := info_parts info32
    have h := run_make (P := Tryz.prog) w 23 48 i0 (.int .u32 0) Tryz.underlying23 hi hz0 .i64 .i64 0 (len1 : Int) (by omega) (by omega) (by rw [hz2]; omega) (by omega)
    rw [hz1, show (len1 : Int).toNat = len1 by omega, Nat.mul_one] at h
    exact h
  have hmax : max len1 len2 = len1 := by omega
  have HMAX := Lib.hid hmax
  have h1n : (1 : Nat) ≤ 3 := by omega
  obtain ⟨W0, hW0⟩ : ∃ W0, ((w.alloc (.cells (madeCells #[.int .u32 0] len1) 48)).alloc (.cells #[.slice (some ⟨w.heap.size, 0, none⟩) 0 len1] 23)).alloc (.cells #[.int .u32 0] 48) = W0 := ⟨_, rfl⟩
  have hs0 : w.heap.size + 3 ≤ W0.heap.size := by rw [← hW0]; simp
  have hB0 : Below w.heap.size w W0 := by rw [← hW0]; exact (((Below.refl _ w).alloc (Nat.le_refl _) _).alloc (by simp) _).alloc (by simp; omega) _
  have bO : Boxed W0 (w.heap.size + 1) 23 (.slice (some ⟨w.heap.size, 0, none⟩) 0 len1) := by
    rw [← hW0]
    have h := (Boxed.new (w.alloc (.cells (madeCells #[.int .u32 0] len1) 48)) 23 (.slice (some ⟨w.heap.size, 0, none⟩) 0 len1)).alloc (.cells #[.int .u32 0] 48)
    rw [World.size_alloc w] at h
    exact h
  have bC : Boxed W0 (w.heap.size + 1 + 1) 48 (.int .u32 0) := by
    rw [← hW0]
    have h := Boxed.new ((w.alloc (.cells (madeCells #[.int .u32 0] len1) 48)).alloc (.cells #[.slice (some ⟨w.heap.size, 0, none⟩) 0 len1] 23)) 48 (.int .u32 0)
    rw [World.size_alloc, World.size_alloc] at h
    exact h
  have hrow0 : W0.ownsRow w.heap.size 48 1 (.slice (some ⟨w.heap.size, 0, none⟩) 0 len1) 0 [] := by
    rw [← hW0]
    exact ((World.ownsRow_made (base := w.heap.size) (e := 48) (size := 1) w (madeCells #[.int .u32 0] len1) len1 (Nat.le_refl _) (by unfold maxLen; omega) (by rw [size_madeCells, Nat.mul_one])).alloc _).alloc _
  have HW0 := Lib.hid hW0
  clear hmax
  refine callsIn_of_wp_marks Tryz.func154 rfl trivial ?_ rfl
  simp only [Tryz.ntmps154, List.size_toArray, List.length_cons, List.length_nil, Nat.reduceAdd, Nat.reduceSub, Array.replicate_succ, Array.replicate_zero, List.push_toArray, List.append_toArray, List.nil_append, List.cons_append]
  clear hW0
  gi_wp2
  rw [HW0.out]
  refine ⟨trivial, ?_⟩
  refine (callsIn_wide.2 (pairs_make _ _ _ _ _ _ _)).mono ?_
  rintro e w' ⟨rfl, rfl⟩
  gi_wp2
  have bA := (Boxed.new W0 23 (.slice A1 len1 cap1)).alloc (.cells #[.slice A2 len2 cap2] 23)
  have bB := Boxed.new (W0.alloc (.cells #[.slice A1 len1 cap1] 23)) 23 (.slice A2 len2 cap2)
  rw [World.size_alloc] at bB
  have hB1 : Below w.heap.size w ((W0.alloc (.cells #[.slice A1 len1 cap1] 23)).alloc (.cells #[.slice A2 len2 cap2] 23)) := (hB0.alloc (by omega) _).alloc (by simp; omega) _
  refine wpIn_rangeFunc_ownG rfl h1n (gf := 185) (lb := #[.pointer (some ⟨W0.heap.size, 0, none⟩), .pointer (some ⟨W0.heap.size + 1, 0, none⟩)]) rfl trivial (enters_of Tryz.func185 (by kernel_rfl) rfl)
    (pairs_stops (3 - 1) (by omega) W0.heap.size (W0.heap.size + 1) w.heap.size len1 cap1 len2 cap2 A1 A2 f g hf hg hl1 hl2 _ bA bB (by simp; omega) (hr1.below hB1) (hr2.below hB1)) kpB_t (kpB_b (by simp; omega)) (Below.refl _ _) (fun _ => rfl)
    (fun pre W => ((∃ v, Boxed W (w.heap.size + 1) 23 v ∧ W.ownsRow w.heap.size 48 1 v pre.length (us (dl (fa pre) (fb pre)) pre.length) ∧ v.ownBlock ≠ some (w.heap.size + 1 + 1)) ∧ Boxed W (w.heap.size + 1 + 1) 48 (.int .u32 (iv (bw (fa pre) (fb pre) pre.length)))) ∧ Below w.heap.size w W)
    (fun _ _ _ => False)
    (OwnFrom.and (OwnFrom.and (Own.from (holdsRow_own w.heap.size (w.heap.size + 1) 23 48 1 (fun pre : List Limb2 => pre.length) (fun pre => us (dl (fa pre) (fb pre)) pre.length) (fun _ v => v.ownBlock ≠ some (w.heap.size + 1 + 1))) _) (Own.from (boxed_own (w.heap.size + 1 + 1) 48 (fun pre : List Limb2 => .int .u32 (iv (bw (fa pre) (fb pre) pre.length)))) _)) (ownFrom_below (Nat.le_refl _) (by simp; omega)))
    (fun _ _ _ _ _ hs _ _ => hs)
    ⟨⟨⟨_, (bO.alloc _).alloc _, (hrow0.alloc _).alloc _, by simp [Value.ownBlock]; omega⟩, by simp only [bw, iv_zero, List.length_nil]; exact (bC.alloc _).alloc _⟩, hB1⟩
    (fun x => { tmps := #[.slice A1 len1 cap1, .slice A2 len2 cap2, undef, undef, .slice none 0 0, .pointer (some ⟨w.heap.size + 1, 0, none⟩), .pointer (some ⟨w.heap.size + 1 + 1, 0, none⟩), .int .u32 (iv x.1.1), .int .u32 (iv x.1.2), .slice A1 len1 cap1, .int .i64 len1, .slice (some ⟨w.heap.size, 0, none⟩) 0 len1, .slice A1 len1 cap1, .slice A2 len2 cap2, .func (.func 185) #[] #[.pointer (some ⟨W0.heap.size, 0, none⟩), .pointer (some ⟨W0.heap.size + 1, 0, none⟩)], .int .u32 (iv x.1.1), .int .u32 (iv x.1.2), undef, undef, undef, undef, undef, undef, undef, undef, undef, undef, undef, undef, undef, undef, undef, undef], defers := [] }) ?assign ?body ?done ?stop
  case assign =>
    intro l x W K hK
    gi_wp2
    exact hK
  case body =>
    rintro l pre x W ⟨⟨⟨v, hv, hrow, hne⟩, hcar⟩, hB⟩ hlt
    have hl' : pre.length < len1 := by rw [← HMAX.out]; exact hlt
    have hcl : bw (fa pre) (fb pre) pre.length ≤ 1 := bw_le _ _ _
    have hrs := RS.start hv hcar hrow hne (by have := hB.size; omega)
    have hrs1 := hrs.carry (by omega) (by omega) (.int .u32 0)
    have hrs2 := hrs1.carry (by omega) (by omega) (.int .u32 1)
    have hc1 := hv.cell
    have hcc := hcar.cell
    have hcf := hcar.frozen
    have hcc1 := hrs1.out.cell
    have hcf1 := hrs1.car.frozen
    have hcc2 := hrs2.out.cell
    clear hlt hcar hv hrow
    have hnx := fun c hgc => diff_next pre x (c := c) hgc
    generalize hgc : bw (fa pre) (fb pre) pre.length = c at *
    have HN := Lib.hid (hnx c rfl)
    clear hnx
    have hl := diff_limb hcl x.2.1 x.2.2
    have hx1 := iv_limb x.2.1
    have hx0 := iv_nonneg x.1.1
    have hy1 := iv_limb x.2.2
    have hy0 := iv_nonneg x.1.2
    have hc0 := iv_nonneg c
    have hc2 : iv c ≤ 1 := by rw [iv_eq]; omega
    clear hgc hcl
    rcases hl with ⟨hlim, he1, he2⟩ | ⟨hlim, he1, he2⟩
    · have HN := Lib.hid (And.intro (he1 ▸ HN.out.1) (HN.out.2.symm ▸ he2))
      clear he1 he2
      generalize iv x.1.1 = X at *
      generalize iv x.1.2 = Y at *
      generalize iv c = C at *
      gi_wp2_with (gi_at_builtin; refine append_u32 rfl (.tmp 25) (.tmp 29) rfl w.heap.size _ _ _ rfl (hrs2.row.alloc _) W.heap.size (X + 1000000000 - (Y + C)) rfl (cell_new1 _ _ (by simp [World.setCell]) _ _) (by omega) (by have := hrs2.sz; simp only [World.size_alloc]; omega) ?_; intro v' w1 hown' hgrow hat; obtain ⟨gg, cp, rfl⟩ := ownsRow_succ hown'; obtain ⟨hb1, hr3⟩ := hrs2.append (by omega) (by omega) hown' hgrow hat; have hb1c := hb1.cell; have hb1f := hb1.frozen; clear hgrow hat hown')
      gi_wp2
      refine ⟨hr3.ko.from _, ⟨hr3.be, fun y => hr3.bx _ y (by omega) (by omega), fun y => hr3.bx _ y (by omega) (by omega)⟩, ⟨⟨_, hr3.out, ?_, hr3.ne⟩, ?_⟩, hB.trans hr3.be⟩
      · rw [show (pre ++ [x]).length = pre.length + 1 by simp, HN.out.1]; exact hr3.row
      · rw [show (pre ++ [x]).length = pre.length + 1 by simp, HN.out.2]; exact hr3.car
    · have HN := Lib.hid (And.intro (he1 ▸ HN.out.1) (HN.out.2.symm ▸ he2))
      clear he1 he2
      generalize iv x.1.1 = X at *
      generalize iv x.1.2 = Y at *
      generalize iv c = C at *
      gi_wp2_with (gi_at_builtin; refine append_u32 rfl (.tmp 25) (.tmp 29) rfl w.heap.size _ _ _ rfl (hrs1.row.alloc _) W.heap.size (X - (Y + C)) rfl (cell_new1 _ _ (by simp [World.setCell]) _ _) (by omega) (by have := hrs1.sz; simp only [World.size_alloc]; omega) ?_; intro v' w1 hown' hgrow hat; obtain ⟨gg, cp, rfl⟩ := ownsRow_succ hown'; obtain ⟨hb1, hr3⟩ := hrs1.append (by omega) (by omega) hown' hgrow hat; have hb1c := hb1.cell; have hb1f := hb1.frozen; clear hgrow hat hown')
      gi_wp2
      refine ⟨hr3.ko.from _, ⟨hr3.be, fun y => hr3.bx _ y (by omega) (by omega), fun y => hr3.bx _ y (by omega) (by omega)⟩, ⟨⟨_, hr3.out, ?_, hr3.ne⟩, ?_⟩, hB.trans hr3.be⟩
      · rw [show (pre ++ [x]).length = pre.length + 1 by simp, HN.out.1]; exact hr3.row
      · rw [show (pre ++ [x]).length = pre.length + 1 by simp, HN.out.2]; exact hr3.car
  case done =>
    rintro D ys W hD rfl ⟨⟨⟨v, hv, hrow, hne⟩, hcar⟩, hB⟩ hK
    have hnum := diff_upto f g len1 len2 hf hg hle
    have hsl : ∀ j, dl (fa (upto (prs f g len1 len2 hf hg) (max len1 len2))) (fb (upto (prs f g len1 len2 hf hg) (max len1 len2))) j < LB := fun j => dl_lt (fab_lt _ j).1 (fab_lt _ j).2
    rw [upto_length] at hrow hcar
    rw [HMAX.out] at hrow hcar hnum hsl
    generalize dl (fa (upto (prs f g len1 len2 hf hg) len1)) (fb (upto (prs f g len1 len2 hf hg) len1)) = S at *
    have HNUM := Lib.hid hnum
    have HSL := Lib.hid hsl
    obtain ⟨A9, c9, rfl, hr9⟩ := Go.Proofs.YtmcacofpnnaplaaGreatDoor.Own.rs (f := S) hrow (fun j _ => by have := hsl j; rw [LB_eq] at this; omega)
    clear hnum hsl hrow
    have hc := hv.cell
    have hsz := hB.size
    gi_wp2
    refine ⟨trivial, ?_⟩
    refine (callsIn_wide.2 (trim_any _ _ _ _ _ _ hr9)).mono ?_
    rintro e w' ⟨⟨v, rfl, ht⟩, rfl⟩
    have hm := ht.made (N := nv f len1 - nv g len2) (fun j _ => HSL.out j) HNUM.out hB
    have HM := Lib.hid (hm.putObj hK rfl (by simp at hD; omega) (.deferred none))
    clear ht hr9 hm
    gi_wp2
    refine ⟨by simp, .inl ⟨_, _, rfl, run_takeDeferred hK, ?_⟩⟩
    exact ⟨_, results_tmp rfl _ _ _, v, rfl, HM.out⟩
  case stop =>
    rintro D c pre W _ _ h _
    exact h.elim


end Go.Proofs.YtmcacofpnnaplaaGreatDoor

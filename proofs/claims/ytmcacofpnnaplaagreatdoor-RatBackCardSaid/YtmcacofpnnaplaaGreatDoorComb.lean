/- The contract of combine. Conditions as premises: the two lists read, the sum of their multiples is a number that is not longer, the factors are below two to the 31st. -/
import Derived.Test.YtmcacofpnnaplaaGreatDoorSum
import Derived.Test.YtmcacofpnnaplaaGreatDoorLehmer
import Derived.Test.YtmcacofpnnaplaaGreatDoorAwake
namespace Go.Proofs.YtmcacofpnnaplaaGreatDoor
open Go.RowKit Go.Shelf
attribute [local go_sem] Oper.semAt_some

/-- the carry of a sum of multiples, and its limbs -/
def cb (p q : Int) (F G : Nat → Nat) : Nat → Int
  | 0 => 0
  | k + 1 => (cb p q F G k + (p * iv (F k) + q * iv (G k))) / 1000000000
def cl (p q : Int) (F G : Nat → Nat) (k : Nat) : Nat := ((cb p q F G k + (p * iv (F k) + q * iv (G k))) % 1000000000).toNat
theorem cl_lt (p q : Int) (F G : Nat → Nat) (k : Nat) : cl p q F G k < LB := by unfold cl; rw [LB_eq]; omega
theorem cl_iv (p q : Int) (F G : Nat → Nat) (k : Nat) : iv (cl p q F G k) = (cb p q F G k + (p * iv (F k) + q * iv (G k))) % 1000000000 := by unfold cl; rw [iv_eq]; omega
theorem cb_congr {p q : Int} {F G F' G' : Nat → Nat} : ∀ k, (∀ j, j < k → F j = F' j ∧ G j = G' j) → cb p q F G k = cb p q F' G' k
  | 0, _ => rfl
  | k + 1, h => by rw [cb, cb, cb_congr k (fun j hj => h j (by omega)), (h k (by omega)).1, (h k (by omega)).2]
theorem cl_congr {p q : Int} {F G F' G' : Nat → Nat} {k : Nat} (h : ∀ j, j < k → F j = F' j ∧ G j = G' j) (j : Nat) (hj : j < k) : cl p q F G j = cl p q F' G' j := by
  unfold cl; rw [cb_congr j (fun i hi => h i (by omega)), (h j hj).1, (h j hj).2]

theorem cb_eq (p q : Int) (F G : Nat → Nat) : ∀ k, (nv (cl p q F G) k : Int) + cb p q F G k * ((LB ^ k : Nat) : Int) = p * (nv F k : Nat) + q * (nv G k : Nat)
  | 0 => by simp [nv, cb]
  | k + 1 => by
    have h := cb_eq p q F G k
    have e1 : (nv (cl p q F G) (k + 1) : Int) = nv (cl p q F G) k + iv (cl p q F G k) * ((LB ^ k : Nat) : Int) := by rw [nv, iv_eq, Int.natCast_add, Int.natCast_mul]
    have e2 : (nv F (k + 1) : Int) = nv F k + iv (F k) * ((LB ^ k : Nat) : Int) := by rw [nv, iv_eq, Int.natCast_add, Int.natCast_mul]
    have e3 : (nv G (k + 1) : Int) = nv G k + iv (G k) * ((LB ^ k : Nat) : Int) := by rw [nv, iv_eq, Int.natCast_add, Int.natCast_mul]
    have e4 : ((LB ^ (k + 1) : Nat) : Int) = 1000000000 * ((LB ^ k : Nat) : Int) := by rw [Nat.pow_succ, Nat.mul_comm, Int.natCast_mul, LB_eq]; rfl
    rw [e1, e2, e3, e4, cl_iv, cb]
    have hdm := Int.mul_ediv_add_emod (cb p q F G k + (p * iv (F k) + q * iv (G k))) 1000000000
    generalize hz : cb p q F G k + (p * iv (F k) + q * iv (G k)) = z at *
    generalize ((LB ^ k : Nat) : Int) = U at *
    have h2 := congrArg (· * U) hdm
    have h3 := congrArg (· * U) hz
    simp only [Int.add_mul] at h2 h3
    rw [Int.mul_add, Int.mul_add, ← Int.mul_assoc p, ← Int.mul_assoc q, ← Int.mul_assoc (z / 1000000000), Int.mul_comm (z / 1000000000)]
    omega

theorem prod_le {p x : Int} (hp : -2147483648 < p ∧ p < 2147483648) (h0 : 0 ≤ x) (h1 : x < 1000000000) : -2147483645852516353 ≤ p * x ∧ p * x ≤ 2147483645852516353 := by
  have a1 : p * x ≤ 2147483647 * x := Int.mul_le_mul_of_nonneg_right (by omega) h0
  have a2 : -2147483647 * x ≤ p * x := Int.mul_le_mul_of_nonneg_right (by omega) h0
  omega

theorem cb_le {p q : Int} {F G : Nat → Nat} (hp : -2147483648 < p ∧ p < 2147483648) (hq : -2147483648 < q ∧ q < 2147483648) : ∀ k, (∀ j, j < k → F j < LB ∧ G j < LB) → -4294967297 ≤ cb p q F G k ∧ cb p q F G k ≤ 4294967297
  | 0, _ => by simp [cb]
  | k + 1, h => by
    have ih := cb_le hp hq k (fun j hj => h j (by omega))
    have h1 := prod_le hp (iv_nonneg (F k)) (iv_limb (h k (by omega)).1)
    have h2 := prod_le hq (iv_nonneg (G k)) (iv_limb (h k (by omega)).2)
    rw [cb]; omega

/-- the limb and the carry, as the code finds them -/
theorem comb_limb (z : Int) : (z.tmod 1000000000 < 0 ∧ z.tmod 1000000000 + 1000000000 = z % 1000000000 ∧ z.tdiv 1000000000 - 1 = z / 1000000000) ∨
    (¬ z.tmod 1000000000 < 0 ∧ z.tmod 1000000000 = z % 1000000000 ∧ z.tdiv 1000000000 = z / 1000000000) := by
  rcases Int.lt_trichotomy z 0 with h | h | h
  · have e1 : z.tmod 1000000000 = -((-z) % 1000000000) := by
      rw [← Int.tmod_eq_emod_of_nonneg (show 0 ≤ -z by omega), Int.neg_tmod, Int.neg_neg]
    have e2 : z.tdiv 1000000000 = -((-z) / 1000000000) := by
      rw [← Int.tdiv_eq_ediv_of_nonneg (show 0 ≤ -z by omega), Int.neg_tdiv, Int.neg_neg]
    rw [e1, e2]; omega
  · subst h; right; decide
  · right
    rw [Int.tmod_eq_emod_of_nonneg (by omega), Int.tdiv_eq_ediv_of_nonneg (by omega)]; omega

theorem comb_next (p q : Int) (pre : List Limb2) (x : Limb2) {c : Int} (hc : cb p q (fa pre) (fb pre) pre.length = c) :
    us (cl p q (fa (pre ++ [x])) (fb (pre ++ [x]))) (pre.length + 1) = us (cl p q (fa pre) (fb pre)) pre.length ++ [.int .u32 ((c + (p * iv x.1.1 + q * iv x.1.2)) % 1000000000)] ∧
    cb p q (fa (pre ++ [x])) (fb (pre ++ [x])) (pre.length + 1) = (c + (p * iv x.1.1 + q * iv x.1.2)) / 1000000000 := by
  have h := fun j (hj : j < pre.length) => fab_old pre x j hj
  have hn := fab_new pre x
  have e : cb p q (fa (pre ++ [x])) (fb (pre ++ [x])) pre.length = c := by rw [← hc]; exact (cb_congr _ h).symm
  refine ⟨?_, ?_⟩
  · rw [us_succ, cl_iv, e, hn.1, hn.2]
    congr 1
    exact us_congr fun j hj => (cl_congr h j hj).symm
  · rw [cb, e, hn.1, hn.2]

theorem comb_upto (p q : Int) (f g : Nat → Nat) (n m X : Nat) (hf : ∀ j, j < n → f j < LB) (hg : ∀ j, j < m → g j < LB) (hX : p * (nv f n : Nat) + q * (nv g m : Nat) = X) (hlt : X < LB ^ (max n m)) :
    nv (cl p q (fa (upto (prs f g n m hf hg) (max n m))) (fb (upto (prs f g n m hf hg) (max n m)))) (max n m) = X := by
  have h := cb_eq p q (fa (upto (prs f g n m hf hg) (max n m))) (fb (upto (prs f g n m hf hg) (max n m))) (max n m)
  have hl := nv_lt (f := cl p q (fa (upto (prs f g n m hf hg) (max n m))) (fb (upto (prs f g n m hf hg) (max n m)))) (max n m) (fun j _ => cl_lt _ _ _ _ j)
  rw [nv_congr (f := fa _) (g := pl f n) _ fun j hj => (fab_upto hj).1, nv_congr (f := fb _) (g := pl g m) _ fun j hj => (fab_upto hj).2, nv_pl f n _ (by omega), nv_pl g m _ (by omega), hX] at h
  generalize cb p q (fa (upto (prs f g n m hf hg) (max n m))) (fb (upto (prs f g n m hf hg) (max n m))) (max n m) = b at *
  generalize nv (cl p q (fa (upto (prs f g n m hf hg) (max n m))) (fb (upto (prs f g n m hf hg) (max n m)))) (max n m) = V at *
  generalize LB ^ (max n m) = U at *
  rcases Int.lt_trichotomy b 0 with h0 | h0 | h0
  · exfalso
    have : b * (U : Int) ≤ -1 * (U : Int) := Int.mul_le_mul_of_nonneg_right (by omega) (by omega)
    omega
  · subst h0; omega
  · exfalso
    have : 1 * (U : Int) ≤ b * (U : Int) := Int.mul_le_mul_of_nonneg_right (by omega) (by omega)
    omega

/-- What a round has left so far: the box of the list, the box of the carry, the row of the list. -/
structure RT (s bo bc : Nat) (W W2 : World) (v u : Value) (k : Nat) (xs : List Value) : Prop where
  out : Boxed W2 bo 23 v
  car : Boxed W2 bc 2 u
  row : W2.ownsRow s 48 1 v k xs
  ne : v.ownBlock ≠ some bc
  ko : KeepsOthers W W2
  be : Below s W W2
  bx : ∀ B x, B ≠ bo → B ≠ bc → Boxed W B 23 x → Boxed W2 B 23 x
  sz : s ≤ W2.heap.size

theorem RT.start {s bo bc : Nat} {W : World} {v u : Value} {k : Nat} {xs : List Value} (h1 : Boxed W bo 23 v) (h2 : Boxed W bc 2 u) (h3 : W.ownsRow s 48 1 v k xs) (h4 : v.ownBlock ≠ some bc) (h5 : s ≤ W.heap.size) : RT s bo bc W W v u k xs :=
  ⟨h1, h2, h3, h4, KeepsOthers.refl _, Below.refl _ _, fun _ _ _ _ h => h, h5⟩

theorem RT.carry {s bo bc : Nat} {W W2 : World} {v u : Value} {k : Nat} {xs : List Value} (h : RT s bo bc W W2 v u k xs) (hob : bo ≠ bc) (hs : s ≤ bc) (u' : Value) : RT s bo bc W (W2.setCell ⟨bc, 0, none⟩ u') v u' k xs :=
  ⟨h.out.other hob _, h.car.set u', h.row.kept (grownBy_setCell' W2 bc u') (.inr h.ne), h.ne, h.ko.trans (KeepsOthers.setCell _ _ _), h.be.setCell (p := ⟨bc, 0, none⟩) hs _,
    fun B x h1 h2 h3 => (h.bx B x h1 h2 h3).other h2 _, by simpa [World.setCell] using h.sz⟩

theorem RT.append {s bo bc : Nat} {W W2 w1 : World} {v u v' : Value} {k m : Nat} {xs ys : List Value} {tmp : Obj} (h : RT s bo bc W W2 v u k xs) (hob : bo ≠ bc) (hs : s ≤ bo)
    (hown' : w1.ownsRow s 48 1 v' m ys) (hgrow : (W2.alloc tmp).grownBy w1 v.ownBlock) (hat : v'.ownBlock = v.ownBlock ∨ v'.ownBlock = some (W2.alloc tmp).heap.size) :
    Boxed w1 bo 23 v ∧ RT s bo bc W (w1.setCell ⟨bo, 0, none⟩ v') v' u m ys := by
  obtain ⟨q1, q2, q3, q4, q5⟩ := h.out.appended (by decide) h.row h.sz hs hown' hgrow
  refine ⟨q1, q2, ?_, q3, ?_, h.ko.trans q4, h.be.trans q5, fun B x h1 h2 h3 => ?_, Nat.le_trans h.sz q5.size⟩
  · exact ((h.car.alloc tmp).kept hgrow (fun e => h.ne e.symm)).other (fun e => hob e.symm) _
  · rcases hat with e | e
    · rw [e]; exact h.ne
    · rw [e]
      intro e2
      have := h.car.lt
      simp at e2
      omega
  · have hb := h.bx B x h1 h2 h3
    exact ((hb.alloc tmp).kept hgrow (hb.not_row (by decide) h.row)).other h1 _

theorem below_boxed {s B : Nat} {W W' : World} {t : TypeId} {v : Value} (h : Boxed W B t v) (hb : Below s W W') (hs : B < s) : Boxed W' B t v := by
  have := hb.block B hs
  unfold Boxed at *; rw [this]; exact h

set_option maxRecDepth 100000 in
set_option maxHeartbeats 4000000 in
theorem comb_in (A1 A2 : Option Addr) (len1 cap1 len2 cap2 : Nat) (f g : Nat → Nat) (p q : Int) (X : Nat) (w : World) (hr1 : Rs w w.heap.size A1 len1 cap1 f) (hr2 : Rs w w.heap.size A2 len2 cap2 g)
    (hf : ∀ j, j < len1 → f j < LB) (hg : ∀ j, j < len2 → g j < LB) (hl1 : len1 ≤ 4096) (hl2 : len2 ≤ 4096) (hp : -2147483648 < p ∧ p < 2147483648) (hq : -2147483648 < q ∧ q < 2147483648)
    (hX : p * (nv f len1 : Nat) + q * (nv g len2 : Nat) = X) (hlt : X < LB ^ (max len1 len2)) :
    CallsIn Fence.wide 3 Tryz.prog 166 #[.slice A1 len1 cap1, .slice A2 len2 cap2, .int .i64 p, .int .i64 q] w fun e W' => ∃ v, e = .returned v ∧ Made w X v W' := by
  obtain ⟨N, hN⟩ : ∃ N, N = max len1 len2 := ⟨_, rfl⟩
  have hmk : ∀ w : World, (Instr.makeSlice 23 (.int .i64 0) (.int .i64 (max (len1 : Int) (len2 : Int)))).run Tryz.prog w = .ok (.slice (some ⟨w.heap.size, 0, none⟩) 0 N) (w.alloc (.cells (madeCells #[.int .u32 0] N) 48)) := fun w => by
    obtain ⟨i0, hi, hz0, hz1, hz2⟩ := info_parts info32
    have h := run_make (P := Tryz.prog) w 23 48 i0 (.int .u32 0) Tryz.underlying23 hi hz0 .i64 .i64 0 (max (len1 : Int) (len2 : Int)) (by omega) (by omega) (by rw [hz2]; omega) (by omega)
    rw [hz1, show (max (len1 : Int) (len2 : Int)).toNat = N by omega, Nat.mul_one] at h
    exact h
  obtain ⟨V, hV⟩ : ∃ V, (w.alloc (.cells #[.int .i64 p] 2)).alloc (.cells #[.int .i64 q] 2) = V := ⟨_, rfl⟩
  have hVs : V.heap.size = w.heap.size + 1 + 1 := by rw [← hV]; simp
  have hVb : Below w.heap.size w V := by rw [← hV]; exact ((Below.refl _ w).alloc (Nat.le_refl _) _).alloc (by simp) _
  have bP : Boxed V w.heap.size 2 (.int .i64 p) := by rw [← hV]; exact (Boxed.new w 2 (.int .i64 p)).alloc _
  have bQ : Boxed V (w.heap.size + 1) 2 (.int .i64 q) := by
    rw [← hV]
    have h := Boxed.new (w.alloc (.cells #[.int .i64 p] 2)) 2 (.int .i64 q)
    rw [World.size_alloc] at h
    exact h
  have HV := Lib.hid hV
  have h1n : (1 : Nat) ≤ 3 := by omega
  have hNl : N ≤ 4096 := by omega
  obtain ⟨W0, hW0⟩ : ∃ W0, ((V.alloc (.cells (madeCells #[.int .u32 0] N) 48)).alloc (.cells #[.slice (some ⟨V.heap.size, 0, none⟩) 0 N] 23)).alloc (.cells #[.int .i64 0] 2) = W0 := ⟨_, rfl⟩
  have hs0 : V.heap.size + 3 ≤ W0.heap.size := by rw [← hW0]; simp
  have hB0 : Below V.heap.size V W0 := by rw [← hW0]; exact (((Below.refl _ V).alloc (Nat.le_refl _) _).alloc (by simp) _).alloc (by simp; omega) _
  have bO : Boxed W0 (V.heap.size + 1) 23 (.slice (some ⟨V.heap.size, 0, none⟩) 0 N) := by
    rw [← hW0]
    have h := (Boxed.new (V.alloc (.cells (madeCells #[.int .u32 0] N) 48)) 23 (.slice (some ⟨V.heap.size, 0, none⟩) 0 N)).alloc (.cells #[.int .i64 0] 2)
    rw [World.size_alloc V] at h
    exact h
  have bC : Boxed W0 (V.heap.size + 1 + 1) 2 (.int .i64 0) := by
    rw [← hW0]
    have h := Boxed.new ((V.alloc (.cells (madeCells #[.int .u32 0] N) 48)).alloc (.cells #[.slice (some ⟨V.heap.size, 0, none⟩) 0 N] 23)) 2 (.int .i64 0)
    rw [World.size_alloc, World.size_alloc] at h
    exact h
  have hrow0 : W0.ownsRow V.heap.size 48 1 (.slice (some ⟨V.heap.size, 0, none⟩) 0 N) 0 [] := by
    rw [← hW0]
    exact ((World.ownsRow_made (base := V.heap.size) (e := 48) (size := 1) V (madeCells #[.int .u32 0] N) N (Nat.le_refl _) (by unfold maxLen; omega) (by rw [size_madeCells, Nat.mul_one])).alloc _).alloc _
  have HW0 := Lib.hid hW0
  have HN := Lib.hid hN
  have HVS := Lib.hid hVs
  have HX := Lib.hid hX
  have HLT := Lib.hid hlt
  have hr1 := (hr1.below hVb).more hVb.size
  have hr2 := (hr2.below hVb).more hVb.size
  clear hN hW0 hVs hX hlt
  refine callsIn_of_wp_marks Tryz.func166 rfl trivial ?_ rfl
  simp only [Tryz.ntmps166, List.size_toArray, List.length_cons, List.length_nil, Nat.reduceAdd, Nat.reduceSub, Array.replicate_succ, Array.replicate_zero, List.push_toArray, List.append_toArray, List.nil_append, List.cons_append]
  gi_wp2
  rw [HW0.out]
  refine ⟨trivial, ?_⟩
  clear hmk hV
  refine (callsIn_wide.2 (pairs_make _ _ _ _ _ _ _)).mono ?_
  rintro e w' ⟨rfl, rfl⟩
  gi_wp2
  have bA := (Boxed.new W0 23 (.slice A1 len1 cap1)).alloc (.cells #[.slice A2 len2 cap2] 23)
  have bB := Boxed.new (W0.alloc (.cells #[.slice A1 len1 cap1] 23)) 23 (.slice A2 len2 cap2)
  rw [World.size_alloc] at bB
  have hB1 : Below V.heap.size V ((W0.alloc (.cells #[.slice A1 len1 cap1] 23)).alloc (.cells #[.slice A2 len2 cap2] 23)) := (hB0.alloc (by omega) _).alloc (by simp; omega) _
  have hVw : w.heap.size + 1 < V.heap.size := by have := HVS.out; omega
  refine wpIn_rangeFunc_ownG rfl h1n (gf := 185) (lb := #[.pointer (some ⟨W0.heap.size, 0, none⟩), .pointer (some ⟨W0.heap.size + 1, 0, none⟩)]) rfl trivial (enters_of Tryz.func185 (by kernel_rfl) rfl)
    (pairs_stops (3 - 1) (by omega) W0.heap.size (W0.heap.size + 1) V.heap.size len1 cap1 len2 cap2 A1 A2 f g hf hg hl1 hl2 _ bA bB (by simp; omega) (hr1.below hB1) (hr2.below hB1)) kpB_t (kpB_b (by simp; omega)) (Below.refl _ _) (fun _ => rfl)
    (fun pre W => ((∃ v, Boxed W (V.heap.size + 1) 23 v ∧ W.ownsRow V.heap.size 48 1 v pre.length (us (cl p q (fa pre) (fb pre)) pre.length) ∧ v.ownBlock ≠ some (V.heap.size + 1 + 1)) ∧ Boxed W (V.heap.size + 1 + 1) 2 (.int .i64 (cb p q (fa pre) (fb pre) pre.length))) ∧ Below V.heap.size V W)
    (fun _ _ _ => False)
    (OwnFrom.and (OwnFrom.and (Own.from (holdsRow_own V.heap.size (V.heap.size + 1) 23 48 1 (fun pre : List Limb2 => pre.length) (fun pre => us (cl p q (fa pre) (fb pre)) pre.length) (fun _ v => v.ownBlock ≠ some (V.heap.size + 1 + 1))) _) (Own.from (boxed_own (V.heap.size + 1 + 1) 2 (fun pre : List Limb2 => .int .i64 (cb p q (fa pre) (fb pre) pre.length))) _)) (ownFrom_below (Nat.le_refl _) (by simp; omega)))
    (fun _ _ _ _ _ hs _ _ => hs)
    ⟨⟨⟨_, (bO.alloc _).alloc _, (hrow0.alloc _).alloc _, by simp [Value.ownBlock]; omega⟩, by simp only [cb, List.length_nil]; exact (bC.alloc _).alloc _⟩, hB1⟩
    (fun x => { tmps := #[.slice A1 len1 cap1, .slice A2 len2 cap2, .int .i64 p, .int .i64 q, undef, undef, .pointer (some ⟨w.heap.size, 0, none⟩), .pointer (some ⟨w.heap.size + 1, 0, none⟩), .slice none 0 0, .pointer (some ⟨V.heap.size + 1, 0, none⟩), .pointer (some ⟨V.heap.size + 1 + 1, 0, none⟩), .int .u32 (iv x.1.1), .int .u32 (iv x.1.2), undef, .slice A1 len1 cap1, .int .i64 len1, .slice A2 len2 cap2, .int .i64 len2, .int .i64 (max (len1 : Int) (len2 : Int)), .slice (some ⟨V.heap.size, 0, none⟩) 0 N, .slice A1 len1 cap1, .slice A2 len2 cap2, .func (.func 185) #[] #[.pointer (some ⟨W0.heap.size, 0, none⟩), .pointer (some ⟨W0.heap.size + 1, 0, none⟩)], .int .u32 (iv x.1.1), .int .u32 (iv x.1.2), undef, undef, undef, undef, undef, undef, undef, undef, undef, undef, undef, undef, undef, undef, undef, undef, undef, undef, undef, undef, undef, undef, undef, undef, undef, undef, undef, undef], defers := [] }) ?assign ?body ?done ?stop
  case assign =>
    intro l x W K hK
    gi_wp2
    exact hK
  case body =>
    rintro l pre x W ⟨⟨⟨v, hv, hrow, hne⟩, hcar⟩, hB⟩ hlt
    have hl' : pre.length < N := by rw [HN.out]; exact hlt
    have hcb := cb_le (F := fa pre) (G := fb pre) hp hq pre.length (fun j _ => fab_lt pre j)
    have hnx := fun c hgc => comb_next p q pre x (c := c) hgc
    generalize hgc : cb p q (fa pre) (fb pre) pre.length = c at *
    have HNX := Lib.hid (hnx c rfl)
    have hx1 := iv_limb x.2.1
    have hx0 := iv_nonneg x.1.1
    have hy1 := iv_limb x.2.2
    have hy0 := iv_nonneg x.1.2
    have hpx := prod_le hp hx0 hx1
    have hqy := prod_le hq hy0 hy1
    clear hnx hgc
    have hP := (below_boxed bP hB (by omega)).cell
    have hQ := (below_boxed bQ hB (by omega)).cell
    have hrs := RT.start hv hcar hrow hne (by have := hB.size; omega)
    have hc1 := hv.cell
    have hcc := hcar.cell
    have hcf := hcar.frozen
    clear hlt hcar hv hrow
    generalize iv x.1.1 = X1 at *
    generalize iv x.1.2 = Y1 at *
    have hl := comb_limb (c + (p * X1 + q * Y1))
    have hzl : -4294967296000000003 ≤ c + (p * X1 + q * Y1) ∧ c + (p * X1 + q * Y1) ≤ 4294967296000000003 := by omega
    have hdv : -4294967299 ≤ (c + (p * X1 + q * Y1)).tdiv 1000000000 ∧ (c + (p * X1 + q * Y1)).tdiv 1000000000 ≤ 4294967299 := by
      rcases hl with h | h <;> omega
    obtain ⟨M, hM⟩ : ∃ M, (c + (p * X1 + q * Y1)).tmod 1000000000 = M := ⟨_, rfl⟩
    obtain ⟨D, hD⟩ : ∃ D, (c + (p * X1 + q * Y1)).tdiv 1000000000 = D := ⟨_, rfl⟩
    rw [hM, hD] at hl
    rw [hD] at hdv
    have hrs1 := hrs.carry (by omega) (by omega) (.int .i64 (c + (p * X1 + q * Y1)))
    have hrs2 := hrs1.carry (by omega) (by omega) (.int .i64 D)
    have hrs3 := hrs2.carry (by omega) (by omega) (.int .i64 (D - 1))
    have hcc1 := hrs1.car.cell
    have hcf1 := hrs1.car.frozen
    have hcc2 := hrs2.car.cell
    have hcf2 := hrs2.car.frozen
    have hco2 := hrs2.out.cell
    have hco3 := hrs3.out.cell
    rcases hl with ⟨hneg, e1, e2⟩ | ⟨hneg, e1, e2⟩
    · have HN := Lib.hid HNX.out
      have hm0 : 0 ≤ M + 1000000000 ∧ M + 1000000000 < 1000000000 := by omega
      rw [← e1, ← e2] at HN
      clear HNX e1 e2
      gi_wp2_with (gi_at_builtin; refine append_u32 rfl (.tmp 46) (.tmp 49) rfl V.heap.size _ _ _ rfl (hrs3.row.alloc _) W.heap.size (M + 1000000000) rfl (cell_new1 _ _ (by simp [World.setCell]) _ _) (by omega) (by have := hrs3.sz; simp only [World.size_alloc]; omega) ?_; intro v' w1 hown' hgrow hat; obtain ⟨gg, cp, rfl⟩ := ownsRow_succ hown'; obtain ⟨hb1, hr3⟩ := hrs3.append (by omega) (by omega) hown' hgrow hat; have hb1c := hb1.cell; have hb1f := hb1.frozen; clear hgrow hat hown')
      gi_wp2
      refine ⟨hr3.ko.from _, ⟨hr3.be, fun y => hr3.bx _ y (by omega) (by omega), fun y => hr3.bx _ y (by omega) (by omega)⟩, ⟨⟨_, hr3.out, ?_, hr3.ne⟩, ?_⟩, hB.trans hr3.be⟩
      · rw [show (pre ++ [x]).length = pre.length + 1 by simp, HN.out.1]; exact hr3.row
      · rw [show (pre ++ [x]).length = pre.length + 1 by simp, HN.out.2]; exact hr3.car
    · have HN := Lib.hid HNX.out
      have hm0 : 0 ≤ M ∧ M < 1000000000 := by omega
      rw [← e1, ← e2] at HN
      clear HNX e1 e2
      gi_wp2_with (gi_at_builtin; refine append_u32 rfl (.tmp 46) (.tmp 49) rfl V.heap.size _ _ _ rfl (hrs2.row.alloc _) W.heap.size M rfl (cell_new1 _ _ (by simp [World.setCell]) _ _) (by omega) (by have := hrs2.sz; simp only [World.size_alloc]; omega) ?_; intro v' w1 hown' hgrow hat; obtain ⟨gg, cp, rfl⟩ := ownsRow_succ hown'; obtain ⟨hb1, hr3⟩ := hrs2.append (by omega) (by omega) hown' hgrow hat; have hb1c := hb1.cell; have hb1f := hb1.frozen; clear hgrow hat hown')
      gi_wp2
      refine ⟨hr3.ko.from _, ⟨hr3.be, fun y => hr3.bx _ y (by omega) (by omega), fun y => hr3.bx _ y (by omega) (by omega)⟩, ⟨⟨_, hr3.out, ?_, hr3.ne⟩, ?_⟩, hB.trans hr3.be⟩
      · rw [show (pre ++ [x]).length = pre.length + 1 by simp, HN.out.1]; exact hr3.row
      · rw [show (pre ++ [x]).length = pre.length + 1 by simp, HN.out.2]; exact hr3.car
  case done =>
    rintro D ys W hD rfl ⟨⟨⟨v, hv, hrow, hne⟩, hcar⟩, hB⟩ hK
    have hnum := comb_upto p q f g len1 len2 X hf hg HX.out HLT.out
    have hsl : ∀ j, cl p q (fa (upto (prs f g len1 len2 hf hg) (max len1 len2))) (fb (upto (prs f g len1 len2 hf hg) (max len1 len2))) j < LB := fun j => cl_lt _ _ _ _ j
    rw [upto_length] at hrow hcar
    rw [← HN.out] at hrow hcar hnum hsl
    generalize cl p q (fa (upto (prs f g len1 len2 hf hg) N)) (fb (upto (prs f g len1 len2 hf hg) N)) = S at *
    have HNUM := Lib.hid hnum
    have HSL := Lib.hid hsl
    obtain ⟨A9, c9, rfl, hr9⟩ := Go.Proofs.YtmcacofpnnaplaaGreatDoor.Own.rs (f := S) hrow (fun j _ => by have := hsl j; rw [LB_eq] at this; omega)
    clear hnum hsl hrow
    have hc := hv.cell
    have hsz := hB.size
    gi_wp2
    refine ⟨trivial, ?_⟩
    refine (callsIn_wide.2 (trim_any _ _ _ _ _ _ hr9)).mono ?_
    rintro e w' ⟨⟨v, rfl, ht⟩, rfl⟩
    have hm := ht.made (N := X) (fun j _ => HSL.out j) HNUM.out hB
    have HM := Lib.hid ((hm.putObj hK rfl (by simp at hD; omega) (.deferred none)).after hVb)
    clear ht hr9 hm
    gi_wp2
    refine ⟨by simp, .inl ⟨_, _, rfl, run_takeDeferred hK, ?_⟩⟩
    exact ⟨_, results_tmp rfl _ _ _, v, rfl, HM.out⟩
  case stop =>
    rintro D c pre W _ _ h _
    exact h.elim

end Go.Proofs.YtmcacofpnnaplaaGreatDoor

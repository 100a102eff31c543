/- The contracts of the functions under the laws of package rat: Sum, Diff, Ans, App, RefSum, RefSub, Times, joined into one file. -/
import Derived.Test.YtbjaolmlnkliiaaGreatDoorNatP
import Derived.Test.YtbjaolmlnkliiaaGreatDoorNatA
import Derived.Test.YtbjaolmlnkliiaaGreatDoorNatD
import Derived.Maps.OwnIn
/- The contract of sum. Conditions as premises: the two lists read, their limbs are below ten to the ninth, and they have at most 4096 limbs. -/
namespace Go.Proofs.YtbjaolmlnkliiaaGreatDoor
open Go.RowKit Go.Shelf
attribute [local go_sem] Oper.semAt_some

theorem pairs_make (A1 A2 : Option Addr) (n1 c1 n2 c2 : Nat) (w : World) :
    Calls Tryz.prog 230 #[.slice A1 n1 c1, .slice A2 n2 c2] w fun e w' => e = .returned (.func (.func 241) #[] #[.pointer (some ⟨w.heap.size, 0, none⟩), .pointer (some ⟨w.heap.size + 1, 0, none⟩)]) ∧ (w.alloc (.cells #[.slice A1 n1 c1] 23)).alloc (.cells #[.slice A2 n2 c2] 23) = w' := by
  have hmf : ∀ (fn : Fn) (first cap : Array Value) (w : World), (Instr.makeFunc fn first cap).run Tryz.prog w = .ok (.func fn first cap) w := fun _ _ _ _ => rfl
  go_enter Tryz.func230, Tryz.ntmps230
  go_wp2
  go_ret
  exact ⟨rfl, rfl⟩

theorem pairs_stops (n : Nat) (hn : 1 ≤ n) (B1 B2 n₀ len1 cap1 len2 cap2 : Nat) (A1 A2 : Option Addr) (f g : Nat → Nat) (hf : ∀ j, j < len1 → f j < LB) (hg : ∀ j, j < len2 → g j < LB) (hl1 : len1 ≤ 4096) (hl2 : len2 ≤ 4096)
    (w : World) (hB1 : Boxed w B1 23 (.slice A1 len1 cap1)) (hB2 : Boxed w B2 23 (.slice A2 len2 cap2)) (hn₀ : n₀ ≤ w.heap.size) (hr1 : Rs w n₀ A1 len1 cap1 f) (hr2 : Rs w n₀ A2 len2 cap2 g) :
    SeqStopsK Fence.wide n Tryz.prog 241 #[.pointer (some ⟨B1, 0, none⟩), .pointer (some ⟨B2, 0, none⟩)] (fun x : Limb2 => #[.int .u32 (iv x.1.1), .int .u32 (iv x.1.2)]) (KpB n₀ B1 B2)
      (fun ys => ys = upto (prs f g len1 len2 hf hg) (max len1 len2)) (fun pre => ∃ k, k ≤ max len1 len2 ∧ pre = upto (prs f g len1 len2 hf hg) k) (max len1 len2) w := fun l J Jx W hW _ _ hY h0 => by
  have hb1 : Boxed W B1 23 (.slice A1 len1 cap1) := (hW.block B1 hB1.lt).trans hB1
  have hb2 : Boxed W B2 23 (.slice A2 len2 cap2) := (hW.block B2 hB2.lt).trans hB2
  exact pairs1_in n hn l B1 B2 n₀ len1 cap1 len2 cap2 A1 A2 f g hf hg hl1 hl2 J Jx hY W hb1 hb2 (hr1.below (hW.mono hn₀)) (hr2.below (hW.mono hn₀)) h0

/-- first and second limbs of what has come -/
def fa (pre : List Limb2) (j : Nat) : Nat := (pre[j]?.map (·.1.1)).getD 0
def fb (pre : List Limb2) (j : Nat) : Nat := (pre[j]?.map (·.1.2)).getD 0
theorem fab_lt (pre : List Limb2) (j : Nat) : fa pre j < LB ∧ fb pre j < LB := by
  unfold fa fb
  cases pre[j]? with
  | none => exact ⟨LB_pos, LB_pos⟩
  | some x => exact x.2
theorem fab_old (pre : List Limb2) (x : Limb2) (j : Nat) (h : j < pre.length) : fa pre j = fa (pre ++ [x]) j ∧ fb pre j = fb (pre ++ [x]) j := by
  unfold fa fb; rw [List.getElem?_append_left h]; exact ⟨rfl, rfl⟩
theorem fab_new (pre : List Limb2) (x : Limb2) : fa (pre ++ [x]) pre.length = x.1.1 ∧ fb (pre ++ [x]) pre.length = x.1.2 := by
  unfold fa fb; simp
theorem fab_upto {f g : Nat → Nat} {n m : Nat} {hf : ∀ j, j < n → f j < LB} {hg : ∀ j, j < m → g j < LB} {k j : Nat} (h : j < k) : fa (upto (prs f g n m hf hg) k) j = pl f n j ∧ fb (upto (prs f g n m hf hg) k) j = pl g m j := by
  unfold fa fb; rw [upto_get _ _ _ h]; exact ⟨rfl, rfl⟩
theorem nv_pl (f : Nat → Nat) (n k : Nat) (h : n ≤ k) : nv (pl f n) k = nv f n := by
  rw [show nv f n = nv (pl f n) n from nv_congr n fun j hj => by unfold pl; rw [if_pos hj]]
  obtain ⟨d, rfl⟩ : ∃ d, k = n + d := ⟨k - n, by omega⟩
  clear h
  induction d with
  | zero => rfl
  | succ d ih => rw [← Nat.add_assoc, nv, ih]; unfold pl; rw [if_neg (by omega), Nat.zero_mul, Nat.add_zero]

/-- What a round has left so far: the box of the list, the box of the carry, the row of the list. -/
structure RS (s bo bc : Nat) (W W2 : World) (v u : Value) (k : Nat) (xs : List Value) : Prop where
  out : Boxed W2 bo 23 v
  car : Boxed W2 bc 40 u
  row : W2.ownsRow s 40 1 v k xs
  ne : v.ownBlock ≠ some bc
  ko : KeepsOthers W W2
  be : Below s W W2
  bx : ∀ B x, B ≠ bo → B ≠ bc → Boxed W B 23 x → Boxed W2 B 23 x
  sz : s ≤ W2.heap.size

theorem RS.start {s bo bc : Nat} {W : World} {v u : Value} {k : Nat} {xs : List Value} (h1 : Boxed W bo 23 v) (h2 : Boxed W bc 40 u) (h3 : W.ownsRow s 40 1 v k xs) (h4 : v.ownBlock ≠ some bc) (h5 : s ≤ W.heap.size) : RS s bo bc W W v u k xs :=
  ⟨h1, h2, h3, h4, KeepsOthers.refl _, Below.refl _ _, fun _ _ _ _ h => h, h5⟩

theorem RS.carry {s bo bc : Nat} {W W2 : World} {v u : Value} {k : Nat} {xs : List Value} (h : RS s bo bc W W2 v u k xs) (hob : bo ≠ bc) (hs : s ≤ bc) (u' : Value) : RS s bo bc W (W2.setCell ⟨bc, 0, none⟩ u') v u' k xs :=
  ⟨h.out.other hob _, h.car.set u', h.row.kept (grownBy_setCell' W2 bc u') (.inr h.ne), h.ne, h.ko.trans (KeepsOthers.setCell _ _ _), h.be.setCell (p := ⟨bc, 0, none⟩) hs _,
    fun B x h1 h2 h3 => (h.bx B x h1 h2 h3).other h2 _, by simpa [World.setCell] using h.sz⟩

theorem RS.append {s bo bc : Nat} {W W2 w1 : World} {v u v' : Value} {k m : Nat} {xs ys : List Value} {tmp : Obj} (h : RS s bo bc W W2 v u k xs) (hob : bo ≠ bc) (hs : s ≤ bo)
    (hown' : w1.ownsRow s 40 1 v' m ys) (hgrow : (W2.alloc tmp).grownBy w1 v.ownBlock) (hat : v'.ownBlock = v.ownBlock ∨ v'.ownBlock = some (W2.alloc tmp).heap.size) :
    Boxed w1 bo 23 v ∧ RS s bo bc W (w1.setCell ⟨bo, 0, none⟩ v') v' u m ys := by
  obtain ⟨q1, q2, q3, q4, q5⟩ := h.out.appended (by decide) h.row h.sz hs hown' hgrow
  refine ⟨q1, q2, ?_, q3, ?_, h.ko.trans q4, h.be.trans q5, fun B x h1 h2 h3 => ?_, Nat.le_trans h.sz q5.size⟩
  · exact ((h.car.alloc tmp).kept hgrow (fun e => h.ne e.symm)).other (fun e => hob e.symm) _
  · rcases hat with e | e
    · rw [e]; exact h.ne
    · rw [e]
      intro e2
      have := h.car.lt
      simp at e2
      omega
  · have hb := h.bx B x h1 h2 h3
    exact ((hb.alloc tmp).kept hgrow (hb.not_row (by decide) h.row)).other h1 _

theorem sum_next (pre : List Limb2) (x : Limb2) {c : Nat} (hc : cy (fa pre) (fb pre) pre.length = c) :
    us (sl (fa (pre ++ [x])) (fb (pre ++ [x]))) (pre.length + 1) = us (sl (fa pre) (fb pre)) pre.length ++ [.int .u32 (iv ((x.1.1 + x.1.2 + c) % LB))] ∧
    cy (fa (pre ++ [x])) (fb (pre ++ [x])) (pre.length + 1) = (x.1.1 + x.1.2 + c) / LB := by
  have h := fun j (hj : j < pre.length) => fab_old pre x j hj
  have hn := fab_new pre x
  have e : cy (fa (pre ++ [x])) (fb (pre ++ [x])) pre.length = c := by rw [← hc]; exact (cy_congr _ h).symm
  refine ⟨?_, ?_⟩
  · rw [us_succ]
    congr 1
    · exact us_congr fun j hj => (sl_congr h j hj).symm
    · unfold sl; rw [e, hn.1, hn.2]
  · rw [cy, e, hn.1, hn.2]

theorem sum_limb {a b c : Nat} (hc : c ≤ 1) (ha : a < LB) (hb : b < LB) :
    ((1000000000 ≤ iv a + iv b + iv c ∧ iv ((a + b + c) % LB) = iv a + iv b + iv c - 1000000000 ∧ iv ((a + b + c) / LB) = 1) ∨
     (¬ 1000000000 ≤ iv a + iv b + iv c ∧ iv ((a + b + c) % LB) = iv a + iv b + iv c ∧ iv ((a + b + c) / LB) = 0)) := by
  have e := LB_eq
  simp only [iv_eq]; rw [e] at ha hb; rw [e]; omega

theorem cell_new1 (W : World) (b : Nat) (hb : b = W.heap.size) (x : Value) (t : TypeId) : (W.alloc (.cells #[x] t)).cell? ⟨b, 0, none⟩ = some x := by
  subst hb; rw [World.cell?_alloc_at _ _ _ _ rfl]; rfl
/-- one limb behind a row of limbs, within a fence -/
theorem append_u32 {F : Fence} {nF : Nat} {w : World} {ops : Array Oper} {rest : List Oper} {o : Oper} {a : Act} {Q : Exit → Act → World → Prop} (hgd : o.guard = none) (s x : Operand)
    (ho : o.op = .call { callee := .builtin .append, args := #[s, x], argTypes := #[23, 23] }) (base : Nat) (v : Value) (k : Nat) (xs : List Value) (hs : a.eval s = v) (hown : w.ownsRow base 40 1 v k xs)
    (b : Nat) (y : Int) (hx : a.eval x = .slice (some ⟨b, 0, none⟩) 1 1) (hc : w.cell? ⟨b, 0, none⟩ = some (.int .u32 y)) (hk : k < 5000) (hbase : base ≤ w.heap.size)
    (h : ∀ v' w', w'.ownsRow base 40 1 v' (k + 1) (xs ++ [.int .u32 y]) → w.grownBy w' v.ownBlock → (v'.ownBlock = v.ownBlock ∨ v'.ownBlock = some w.heap.size) → wpListIn F nF Tryz.prog ops Q rest (a.put o.dst v') w') :
    wpListIn F nF Tryz.prog ops Q (o :: rest) a w := by
  obtain ⟨i0, hi, hz0, hz1, hz2⟩ := info_parts info32
  refine wpListIn_append_own_at _ hgd s x 23 ho base 40 i0 (.int .u32 0) 1 4 Tryz.underlying23 hi hz0 hz1 hz2 rfl (by decide) v k xs hs hown ⟨b, 0, none⟩ 1 1 [.int .u32 y] hx rfl ?_ ?_ ?_ ?_ hbase (fun v' w' h1 h2 _ h4 => h v' w' h1 h2 h4)
  · intro j u hj
    rcases j with _ | j
    · simp at hj; subst hj; exact hc
    · simp at hj
  · intro u hu; simp at hu; subst hu; rfl
  · unfold maxLen; omega
  · omega

theorem sum_upto (f g : Nat → Nat) (n m : Nat) (hf : ∀ j, j < n → f j < LB) (hg : ∀ j, j < m → g j < LB) :
    nv (sl (fa (upto (prs f g n m hf hg) (max n m))) (fb (upto (prs f g n m hf hg) (max n m)))) (max n m) + cy (fa (upto (prs f g n m hf hg) (max n m))) (fb (upto (prs f g n m hf hg) (max n m))) (max n m) * LB ^ (max n m) = nv f n + nv g m := by
  rw [sum_eq, nv_congr (g := pl f n) _ fun j hj => (fab_upto hj).1, nv_congr (f := fb _) (g := pl g m) _ fun j hj => (fab_upto hj).2, nv_pl f n _ (by omega), nv_pl g m _ (by omega)]

theorem Rs.putObj {W : World} {B n c D : Nat} {A : Option Addr} {f : Nat → Nat} {o : Obj} (h : Rs W B A n c f) (hD : W.heap[D]? = some o) (hc : o.isCells = false) (o' : Obj) : Rs (W.putObj D o') B A n c f :=
  ⟨h.cap, h.max, h.bd, fun hn => by
    obtain ⟨b, off, e, hb, hcell⟩ := h.cell hn
    exact ⟨b, off, e, hb, fun j hj => cell_kept (hcell j hj) (grownBy_putObj' W D o') (fun r e => by cases e; exact ⟨o, hD, hc⟩)⟩⟩

theorem Made.putObj {w W : World} {N D : Nat} {v : Value} {o : Obj} (h : Made w N v W) (hD : W.heap[D]? = some o) (hc : o.isCells = false) (hle : w.heap.size ≤ D) (o' : Obj) : Made w N v (W.putObj D o') := by
  obtain ⟨A, n, c, f, rfl, hr, hd, hb⟩ := h
  refine ⟨A, n, c, f, rfl, (hr.putObj hD hc o').more (by simp), hd, ?_⟩
  have hlt := (Array.getElem?_eq_some_iff.1 hD).1
  exact hb.grown (grownBy_putObj' W D o') (by omega) (fun j e => by cases e; exact hle)

theorem Trimd.made {w W : World} {n N : Nat} {f : Nat → Nat} {v : Value} (h : Trimd W W.heap.size n f v) (hb : ∀ j, j < n → f j < LB) (he : nv f n = N) (hB : Below w.heap.size w W) : Made w N v W := by
  obtain ⟨A, m, c, rfl, hr, ht⟩ := h
  exact ⟨A, m, c, f, rfl, hr, ht.dig hb he, hB⟩

/-- a row of limbs with one more behind it -/
theorem row_more {W : World} {base k y : Nat} {v : Value} {S : Nat → Nat} (h : W.ownsRow base 40 1 v (k + 1) (us S k ++ [.int .u32 (iv y)])) (hS : ∀ j, S j < LB) (hy : y < LB) :
    ∃ A c, v = .slice A (k + 1) c ∧ Rs W W.heap.size A (k + 1) c (fun j => if j < k then S j else y) := by
  have h2 : Own W base v (k + 1) (fun j => if j < k then S j else y) := Own.snoc (by
    rw [us_congr (g := S) fun j hj => if_pos hj]; exact h) (by simp)
  exact h2.rs (fun j _ => by rw [LB_eq] at hy; have := hS j; rw [LB_eq] at this; split <;> omega)

theorem row_keeps {W w1 : World} {base k D : Nat} {v : Value} {e : TypeId} {size : Nat} {xs : List Value} {o tmp : Obj} (hrow : W.ownsRow base e size v k xs) (hgrow : (W.alloc tmp).grownBy w1 v.ownBlock) (hD : W.heap[D]? = some o) (hc : o.isCells = false) : w1.heap[D]? = some o := by
  refine ((KeepsOthers.alloc W tmp).trans (KeepsOthers.of_grownBy hgrow fun j o ej hj => ?_)).same D o hD hc
  rcases (hrow.alloc tmp).2 with ⟨rfl, _⟩ | ⟨g, cap, cur, rfl, _, hgb, _⟩
  · simp [Value.ownBlock] at ej
  · obtain rfl : g = j := by simpa [Value.ownBlock] using ej
    rw [hgb] at hj; cases hj; rfl


set_option maxRecDepth 100000 in
set_option maxHeartbeats 4000000 in
theorem sum_in1 (A1 A2 : Option Addr) (len1 cap1 len2 cap2 : Nat) (f g : Nat → Nat) (w : World) (hr1 : Rs w w.heap.size A1 len1 cap1 f) (hr2 : Rs w w.heap.size A2 len2 cap2 g)
    (hf : ∀ j, j < len1 → f j < LB) (hg : ∀ j, j < len2 → g j < LB) (hl1 : len1 ≤ 4096) (hl2 : len2 ≤ 4096) (hq : len2 ≤ len1) :
    CallsIn Fence.wide 3 Tryz.prog 207 #[.slice A1 len1 cap1, .slice A2 len2 cap2] w fun e W' => ∃ v, e = .returned v ∧ Made w (nv f len1 + nv g len2) v W' := by
  have hmk : ∀ w : World, (Instr.makeSlice 23 (.int .i64 0) (.int .i64 ((len1 : Int) + 1))).run Tryz.prog w = .ok (.slice (some ⟨w.heap.size, 0, none⟩) 0 (len1 + 1)) (w.alloc (.cells (madeCells #[.int .u32 0] (len1 + 1)) 40)) := fun w => by
    obtain ⟨i0, hi, hz0, hz1, hz2⟩ := info_parts info32
    have h := run_make (P := Tryz.prog) w 23 40 i0 (.int .u32 0) Tryz.underlying23 hi hz0 .i64 .i64 0 ((len1 : Int) + 1) (by omega) (by omega) (by rw [hz2]; omega) (by omega)
    rw [hz1, show ((len1 : Int) + 1).toNat = len1 + 1 by omega, Nat.mul_one] at h
    exact h
  have hmax : max len1 len2 = len1 := by omega
  have HMAX := Lib.hid hmax
  have h1n : (1 : Nat) ≤ 3 := by omega
  obtain ⟨W0, hW0⟩ : ∃ W0, ((w.alloc (.cells (madeCells #[.int .u32 0] (len1 + 1)) 40)).alloc (.cells #[.slice (some ⟨w.heap.size, 0, none⟩) 0 (len1 + 1)] 23)).alloc (.cells #[.int .u32 0] 40) = W0 := ⟨_, rfl⟩
  have hs0 : w.heap.size + 3 ≤ W0.heap.size := by rw [← hW0]; simp
  have hB0 : Below w.heap.size w W0 := by rw [← hW0]; exact (((Below.refl _ w).alloc (Nat.le_refl _) _).alloc (by simp) _).alloc (by simp; omega) _
  have bO : Boxed W0 (w.heap.size + 1) 23 (.slice (some ⟨w.heap.size, 0, none⟩) 0 (len1 + 1)) := by
    rw [← hW0]
    have h := (Boxed.new (w.alloc (.cells (madeCells #[.int .u32 0] (len1 + 1)) 40)) 23 (.slice (some ⟨w.heap.size, 0, none⟩) 0 (len1 + 1))).alloc (.cells #[.int .u32 0] 40)
    rw [World.size_alloc w] at h
    exact h
  have bC : Boxed W0 (w.heap.size + 1 + 1) 40 (.int .u32 0) := by
    rw [← hW0]
    have h := Boxed.new ((w.alloc (.cells (madeCells #[.int .u32 0] (len1 + 1)) 40)).alloc (.cells #[.slice (some ⟨w.heap.size, 0, none⟩) 0 (len1 + 1)] 23)) 40 (.int .u32 0)
    rw [World.size_alloc, World.size_alloc] at h
    exact h
  have hrow0 : W0.ownsRow w.heap.size 40 1 (.slice (some ⟨w.heap.size, 0, none⟩) 0 (len1 + 1)) 0 [] := by
    rw [← hW0]
    exact ((World.ownsRow_made (base := w.heap.size) (e := 40) (size := 1) w (madeCells #[.int .u32 0] (len1 + 1)) (len1 + 1) (Nat.le_refl _) (by unfold maxLen; omega) (by rw [size_madeCells, Nat.mul_one])).alloc _).alloc _
  have HW0 := Lib.hid hW0
  clear hmax
  refine callsIn_of_wp_marks Tryz.func207 rfl trivial ?_ rfl
  simp only [Tryz.ntmps207, List.size_toArray, List.length_cons, List.length_nil, Nat.reduceAdd, Nat.reduceSub, Array.replicate_succ, Array.replicate_zero, List.push_toArray, List.append_toArray, List.nil_append, List.cons_append]
  clear hW0
  gi_wp2
  rw [HW0.out]
  refine ⟨trivial, ?_⟩
  refine (callsIn_wide.2 (pairs_make _ _ _ _ _ _ _)).mono ?_
  rintro e w' ⟨rfl, rfl⟩
  gi_wp2
  have bA := (Boxed.new W0 23 (.slice A1 len1 cap1)).alloc (.cells #[.slice A2 len2 cap2] 23)
  have bB := Boxed.new (W0.alloc (.cells #[.slice A1 len1 cap1] 23)) 23 (.slice A2 len2 cap2)
  rw [World.size_alloc] at bB
  have hB1 : Below w.heap.size w ((W0.alloc (.cells #[.slice A1 len1 cap1] 23)).alloc (.cells #[.slice A2 len2 cap2] 23)) := (hB0.alloc (by omega) _).alloc (by simp; omega) _
  refine wpIn_rangeFunc_ownG rfl h1n (gf := 241) (lb := #[.pointer (some ⟨W0.heap.size, 0, none⟩), .pointer (some ⟨W0.heap.size + 1, 0, none⟩)]) rfl trivial (enters_of Tryz.func241 (by kernel_rfl) rfl)
    (pairs_stops (3 - 1) (by omega) W0.heap.size (W0.heap.size + 1) w.heap.size len1 cap1 len2 cap2 A1 A2 f g hf hg hl1 hl2 _ bA bB (by simp; omega) (hr1.below hB1) (hr2.below hB1)) kpB_t (kpB_b (by simp; omega)) (Below.refl _ _) (fun _ => rfl)
    (fun pre W => ((∃ v, Boxed W (w.heap.size + 1) 23 v ∧ W.ownsRow w.heap.size 40 1 v pre.length (us (sl (fa pre) (fb pre)) pre.length) ∧ v.ownBlock ≠ some (w.heap.size + 1 + 1)) ∧ Boxed W (w.heap.size + 1 + 1) 40 (.int .u32 (iv (cy (fa pre) (fb pre) pre.length)))) ∧ Below w.heap.size w W)
    (fun _ _ _ => False)
    (OwnFrom.and (OwnFrom.and (Own.from (holdsRow_own w.heap.size (w.heap.size + 1) 23 40 1 (fun pre : List Limb2 => pre.length) (fun pre => us (sl (fa pre) (fb pre)) pre.length) (fun _ v => v.ownBlock ≠ some (w.heap.size + 1 + 1))) _) (Own.from (boxed_own (w.heap.size + 1 + 1) 40 (fun pre : List Limb2 => .int .u32 (iv (cy (fa pre) (fb pre) pre.length)))) _)) (ownFrom_below (Nat.le_refl _) (by simp; omega)))
    (fun _ _ _ _ _ hs _ _ => hs)
    ⟨⟨⟨_, (bO.alloc _).alloc _, (hrow0.alloc _).alloc _, by simp [Value.ownBlock]; omega⟩, by simp only [cy, iv_zero, List.length_nil]; exact (bC.alloc _).alloc _⟩, hB1⟩
    (fun x => { tmps := #[.slice A1 len1 cap1, .slice A2 len2 cap2, undef, undef, .slice none 0 0, .pointer (some ⟨w.heap.size + 1, 0, none⟩), .pointer (some ⟨w.heap.size + 1 + 1, 0, none⟩), .int .u32 (iv x.1.1), .int .u32 (iv x.1.2), undef, .slice A1 len1 cap1, .int .i64 len1, .slice A2 len2 cap2, .int .i64 len2, .int .i64 len1, .int .i64 ((len1 : Int) + 1), .slice (some ⟨w.heap.size, 0, none⟩) 0 (len1 + 1), .slice A1 len1 cap1, .slice A2 len2 cap2, .func (.func 241) #[] #[.pointer (some ⟨W0.heap.size, 0, none⟩), .pointer (some ⟨W0.heap.size + 1, 0, none⟩)], .int .u32 (iv x.1.1), .int .u32 (iv x.1.2), undef, undef, undef, undef, undef, undef, undef, undef, undef, undef, undef, undef, undef, undef, undef, undef, undef, undef], defers := [] }) ?assign ?body ?done ?stop
  case assign =>
    intro l x W K hK
    gi_wp2
    exact hK
  case body =>
    rintro l pre x W ⟨⟨⟨v, hv, hrow, hne⟩, hcar⟩, hB⟩ hlt
    have hl' : pre.length < len1 := by rw [← HMAX.out]; exact hlt
    have hcl : cy (fa pre) (fb pre) pre.length ≤ 1 := cy_le _ (fun j _ => fab_lt pre j)
    have hrs := RS.start hv hcar hrow hne (by have := hB.size; omega)
    have hrs1 := hrs.carry (by omega) (by omega) (.int .u32 0)
    have hrs2 := hrs1.carry (by omega) (by omega) (.int .u32 1)
    have hc1 := hv.cell
    have hcc := hcar.cell
    have hcf := hcar.frozen
    have hcc1 := hrs1.out.cell
    have hcf1 := hrs1.car.frozen
    have hcc2 := hrs2.out.cell
    clear hlt hcar hv hrow
    have hnx := fun c hgc => sum_next pre x (c := c) hgc
    generalize hgc : cy (fa pre) (fb pre) pre.length = c at *
    have HN := Lib.hid (hnx c rfl)
    clear hnx
    have hl := sum_limb hcl x.2.1 x.2.2
    have hx1 := iv_limb x.2.1
    have hx0 := iv_nonneg x.1.1
    have hy1 := iv_limb x.2.2
    have hy0 := iv_nonneg x.1.2
    have hc0 := iv_nonneg c
    have hc2 : iv c ≤ 1 := by rw [iv_eq]; omega
    clear hgc hcl
    rcases hl with ⟨hlim, he1, he2⟩ | ⟨hlim, he1, he2⟩
    · have HN := Lib.hid (And.intro (he1 ▸ HN.out.1) (HN.out.2.symm ▸ he2))
      clear he1 he2
      generalize iv x.1.1 = X at *
      generalize iv x.1.2 = Y at *
      generalize iv c = C at *
      gi_wp2_with (gi_at_builtin; refine append_u32 rfl (.tmp 31) (.tmp 33) rfl w.heap.size _ _ _ rfl (hrs2.row.alloc _) W.heap.size (X + Y + C - 1000000000) rfl (cell_new1 _ _ (by simp [World.setCell]) _ _) (by omega) (by have := hrs2.sz; simp only [World.size_alloc]; omega) ?_; intro v' w1 hown' hgrow hat; obtain ⟨gg, cp, rfl⟩ := ownsRow_succ hown'; obtain ⟨hb1, hr3⟩ := hrs2.append (by omega) (by omega) hown' hgrow hat; have hb1c := hb1.cell; have hb1f := hb1.frozen; clear hgrow hat hown')
      gi_wp2
      refine ⟨hr3.ko.from _, ⟨hr3.be, fun y => hr3.bx _ y (by omega) (by omega), fun y => hr3.bx _ y (by omega) (by omega)⟩, ⟨⟨_, hr3.out, ?_, hr3.ne⟩, ?_⟩, hB.trans hr3.be⟩
      · rw [show (pre ++ [x]).length = pre.length + 1 by simp, HN.out.1]; exact hr3.row
      · rw [show (pre ++ [x]).length = pre.length + 1 by simp, HN.out.2]; exact hr3.car
    · have HN := Lib.hid (And.intro (he1 ▸ HN.out.1) (HN.out.2.symm ▸ he2))
      clear he1 he2
      generalize iv x.1.1 = X at *
      generalize iv x.1.2 = Y at *
      generalize iv c = C at *
      gi_wp2_with (gi_at_builtin; refine append_u32 rfl (.tmp 31) (.tmp 33) rfl w.heap.size _ _ _ rfl (hrs1.row.alloc _) W.heap.size (X + Y + C) rfl (cell_new1 _ _ (by simp [World.setCell]) _ _) (by omega) (by have := hrs1.sz; simp only [World.size_alloc]; omega) ?_; intro v' w1 hown' hgrow hat; obtain ⟨gg, cp, rfl⟩ := ownsRow_succ hown'; obtain ⟨hb1, hr3⟩ := hrs1.append (by omega) (by omega) hown' hgrow hat; have hb1c := hb1.cell; have hb1f := hb1.frozen; clear hgrow hat hown')
      gi_wp2
      refine ⟨hr3.ko.from _, ⟨hr3.be, fun y => hr3.bx _ y (by omega) (by omega), fun y => hr3.bx _ y (by omega) (by omega)⟩, ⟨⟨_, hr3.out, ?_, hr3.ne⟩, ?_⟩, hB.trans hr3.be⟩
      · rw [show (pre ++ [x]).length = pre.length + 1 by simp, HN.out.1]; exact hr3.row
      · rw [show (pre ++ [x]).length = pre.length + 1 by simp, HN.out.2]; exact hr3.car
  case done =>
    rintro D ys W hD rfl ⟨⟨⟨v, hv, hrow, hne⟩, hcar⟩, hB⟩ hK
    have hnum := sum_upto f g len1 len2 hf hg
    rw [upto_length] at hrow hcar
    rw [HMAX.out] at hrow hcar hnum
    have hsl : ∀ j, sl (fa (upto (prs f g len1 len2 hf hg) len1)) (fb (upto (prs f g len1 len2 hf hg) len1)) j < LB := fun j => sl_lt _ _ j
    have hcl : cy (fa (upto (prs f g len1 len2 hf hg) len1)) (fb (upto (prs f g len1 len2 hf hg) len1)) len1 < LB := Nat.lt_of_le_of_lt (cy_le _ (fun j _ => fab_lt _ j)) (by rw [LB_eq]; omega)
    generalize sl (fa (upto (prs f g len1 len2 hf hg) len1)) (fb (upto (prs f g len1 len2 hf hg) len1)) = S at *
    generalize cy (fa (upto (prs f g len1 len2 hf hg) len1)) (fb (upto (prs f g len1 len2 hf hg) len1)) len1 = c at *
    have HNUM := Lib.hid hnum
    have HSL := Lib.hid hsl
    have HCL := Lib.hid hcl
    clear hnum hsl hcl
    have hc := hv.cell
    have hcc := hcar.cell
    have hsz := hB.size
    gi_wp2_with (gi_at_builtin; refine append_u32 rfl (.tmp 35) (.tmp 37) rfl w.heap.size _ _ _ rfl (hrow.alloc _) W.heap.size (iv c) rfl (cell_new1 _ _ rfl _ _) (by omega) (by simp only [World.size_alloc]; omega) ?_; intro v' w1 hown' hgrow hat; clear hat; have hK1 := row_keeps hrow hgrow hK rfl; have hB1 := snoc_below (f := S) hrow hB (Nat.le_refl _) hsz hgrow; obtain ⟨A9, c9, rfl, hr9⟩ := row_more hown' HSL.out HCL.out; clear hown' hgrow)
    refine ⟨trivial, ?_⟩
    refine (callsIn_wide.2 (trim_any _ _ _ _ _ _ hr9)).mono ?_
    rintro e w' ⟨⟨v, rfl, ht⟩, rfl⟩
    have hm := ht.made (N := nv f len1 + nv g len2) (fun j _ => by have := HSL.out j; have := HCL.out; split <;> assumption) (by rw [nv, nv_congr (g := S) len1 fun j hj => if_pos hj, if_neg (by omega), HNUM.out]) hB1
    have HM := Lib.hid (hm.putObj hK1 rfl (by simp at hD; omega) (.deferred none))
    clear ht hr9 hm
    gi_wp2
    refine ⟨by simp, .inl ⟨_, _, rfl, run_takeDeferred hK1, ?_⟩⟩
    exact ⟨_, results_tmp rfl _ _ _, v, rfl, HM.out⟩
  case stop =>
    rintro D c pre W _ _ h _
    exact h.elim

set_option maxRecDepth 100000 in
set_option maxHeartbeats 4000000 in
theorem sum_in2 (A1 A2 : Option Addr) (len1 cap1 len2 cap2 : Nat) (f g : Nat → Nat) (w : World) (hr1 : Rs w w.heap.size A1 len1 cap1 f) (hr2 : Rs w w.heap.size A2 len2 cap2 g)
    (hf : ∀ j, j < len1 → f j < LB) (hg : ∀ j, j < len2 → g j < LB) (hl1 : len1 ≤ 4096) (hl2 : len2 ≤ 4096) (hq : len1 < len2) :
    CallsIn Fence.wide 3 Tryz.prog 207 #[.slice A1 len1 cap1, .slice A2 len2 cap2] w fun e W' => ∃ v, e = .returned v ∧ Made w (nv f len1 + nv g len2) v W' := by
  have hmk : ∀ w : World, (Instr.makeSlice 23 (.int .i64 0) (.int .i64 ((len2 : Int) + 1))).run Tryz.prog w = .ok (.slice (some ⟨w.heap.size, 0, none⟩) 0 (len2 + 1)) (w.alloc (.cells (madeCells #[.int .u32 0] (len2 + 1)) 40)) := fun w => by
    obtain ⟨i0, hi, hz0, hz1, hz2⟩ := info_parts info32
    have h := run_make (P := Tryz.prog) w 23 40 i0 (.int .u32 0) Tryz.underlying23 hi hz0 .i64 .i64 0 ((len2 : Int) + 1) (by omega) (by omega) (by rw [hz2]; omega) (by omega)
    rw [hz1, show ((len2 : Int) + 1).toNat = len2 + 1 by omega, Nat.mul_one] at h
    exact h
  have hmax : max len1 len2 = len2 := by omega
  have HMAX := Lib.hid hmax
  have h1n : (1 : Nat) ≤ 3 := by omega
  obtain ⟨W0, hW0⟩ : ∃ W0, ((w.alloc (.cells (madeCells #[.int .u32 0] (len2 + 1)) 40)).alloc (.cells #[.slice (some ⟨w.heap.size, 0, none⟩) 0 (len2 + 1)] 23)).alloc (.cells #[.int .u32 0] 40) = W0 := ⟨_, rfl⟩
  have hs0 : w.heap.size + 3 ≤ W0.heap.size := by rw [← hW0]; simp
  have hB0 : Below w.heap.size w W0 := by rw [← hW0]; exact (((Below.refl _ w).alloc (Nat.le_refl _) _).alloc (by simp) _).alloc (by simp; omega) _
  have bO : Boxed W0 (w.heap.size + 1) 23 (.slice (some ⟨w.heap.size, 0, none⟩) 0 (len2 + 1)) := by
    rw [← hW0]
    have h := (Boxed.new (w.alloc (.cells (madeCells #[.int .u32 0] (len2 + 1)) 40)) 23 (.slice (some ⟨w.heap.size, 0, none⟩) 0 (len2 + 1))).alloc (.cells #[.int .u32 0] 40)
    rw [World.size_alloc w] at h
    exact h
  have bC : Boxed W0 (w.heap.size + 1 + 1) 40 (.int .u32 0) := by
    rw [← hW0]
    have h := Boxed.new ((w.alloc (.cells (madeCells #[.int .u32 0] (len2 + 1)) 40)).alloc (.cells #[.slice (some ⟨w.heap.size, 0, none⟩) 0 (len2 + 1)] 23)) 40 (.int .u32 0)
    rw [World.size_alloc, World.size_alloc] at h
    exact h
  have hrow0 : W0.ownsRow w.heap.size 40 1 (.slice (some ⟨w.heap.size, 0, none⟩) 0 (len2 + 1)) 0 [] := by
    rw [← hW0]
    exact ((World.ownsRow_made (base := w.heap.size) (e := 40) (size := 1) w (madeCells #[.int .u32 0] (len2 + 1)) (len2 + 1) (Nat.le_refl _) (by unfold maxLen; omega) (by rw [size_madeCells, Nat.mul_one])).alloc _).alloc _
  have HW0 := Lib.hid hW0
  clear hmax
  refine callsIn_of_wp_marks Tryz.func207 rfl trivial ?_ rfl
  simp only [Tryz.ntmps207, List.size_toArray, List.length_cons, List.length_nil, Nat.reduceAdd, Nat.reduceSub, Array.replicate_succ, Array.replicate_zero, List.push_toArray, List.append_toArray, List.nil_append, List.cons_append]
  clear hW0
  gi_wp2
  rw [HW0.out]
  refine ⟨trivial, ?_⟩
  refine (callsIn_wide.2 (pairs_make _ _ _ _ _ _ _)).mono ?_
  rintro e w' ⟨rfl, rfl⟩
  gi_wp2
  have bA := (Boxed.new W0 23 (.slice A1 len1 cap1)).alloc (.cells #[.slice A2 len2 cap2] 23)
  have bB := Boxed.new (W0.alloc (.cells #[.slice A1 len1 cap1] 23)) 23 (.slice A2 len2 cap2)
  rw [World.size_alloc] at bB
  have hB1 : Below w.heap.size w ((W0.alloc (.cells #[.slice A1 len1 cap1] 23)).alloc (.cells #[.slice A2 len2 cap2] 23)) := (hB0.alloc (by omega) _).alloc (by simp; omega) _
  refine wpIn_rangeFunc_ownG rfl h1n (gf := 241) (lb := #[.pointer (some ⟨W0.heap.size, 0, none⟩), .pointer (some ⟨W0.heap.size + 1, 0, none⟩)]) rfl trivial (enters_of Tryz.func241 (by kernel_rfl) rfl)
    (pairs_stops (3 - 1) (by omega) W0.heap.size (W0.heap.size + 1) w.heap.size len1 cap1 len2 cap2 A1 A2 f g hf hg hl1 hl2 _ bA bB (by simp; omega) (hr1.below hB1) (hr2.below hB1)) kpB_t (kpB_b (by simp; omega)) (Below.refl _ _) (fun _ => rfl)
    (fun pre W => ((∃ v, Boxed W (w.heap.size + 1) 23 v ∧ W.ownsRow w.heap.size 40 1 v pre.length (us (sl (fa pre) (fb pre)) pre.length) ∧ v.ownBlock ≠ some (w.heap.size + 1 + 1)) ∧ Boxed W (w.heap.size + 1 + 1) 40 (.int .u32 (iv (cy (fa pre) (fb pre) pre.length)))) ∧ Below w.heap.size w W)
    (fun _ _ _ => False)
    (OwnFrom.and (OwnFrom.and (Own.from (holdsRow_own w.heap.size (w.heap.size + 1) 23 40 1 (fun pre : List Limb2 => pre.length) (fun pre => us (sl (fa pre) (fb pre)) pre.length) (fun _ v => v.ownBlock ≠ some (w.heap.size + 1 + 1))) _) (Own.from (boxed_own (w.heap.size + 1 + 1) 40 (fun pre : List Limb2 => .int .u32 (iv (cy (fa pre) (fb pre) pre.length)))) _)) (ownFrom_below (Nat.le_refl _) (by simp; omega)))
    (fun _ _ _ _ _ hs _ _ => hs)
    ⟨⟨⟨_, (bO.alloc _).alloc _, (hrow0.alloc _).alloc _, by simp [Value.ownBlock]; omega⟩, by simp only [cy, iv_zero, List.length_nil]; exact (bC.alloc _).alloc _⟩, hB1⟩
    (fun x => { tmps := #[.slice A1 len1 cap1, .slice A2 len2 cap2, undef, undef, .slice none 0 0, .pointer (some ⟨w.heap.size + 1, 0, none⟩), .pointer (some ⟨w.heap.size + 1 + 1, 0, none⟩), .int .u32 (iv x.1.1), .int .u32 (iv x.1.2), undef, .slice A1 len1 cap1, .int .i64 len1, .slice A2 len2 cap2, .int .i64 len2, .int .i64 len2, .int .i64 ((len2 : Int) + 1), .slice (some ⟨w.heap.size, 0, none⟩) 0 (len2 + 1), .slice A1 len1 cap1, .slice A2 len2 cap2, .func (.func 241) #[] #[.pointer (some ⟨W0.heap.size, 0, none⟩), .pointer (some ⟨W0.heap.size + 1, 0, none⟩)], .int .u32 (iv x.1.1), .int .u32 (iv x.1.2), undef, undef, undef, undef, undef, undef, undef, undef, undef, undef, undef, undef, undef, undef, undef, undef, undef, undef], defers := [] }) ?assign ?body ?done ?stop
  case assign =>
    intro l x W K hK
    gi_wp2
    exact hK
  case body =>
    rintro l pre x W ⟨⟨⟨v, hv, hrow, hne⟩, hcar⟩, hB⟩ hlt
    have hl' : pre.length < len2 := by rw [← HMAX.out]; exact hlt
    have hcl : cy (fa pre) (fb pre) pre.length ≤ 1 := cy_le _ (fun j _ => fab_lt pre j)
    have hrs := RS.start hv hcar hrow hne (by have := hB.size; omega)
    have hrs1 := hrs.carry (by omega) (by omega) (.int .u32 0)
    have hrs2 := hrs1.carry (by omega) (by omega) (.int .u32 1)
    have hc1 := hv.cell
    have hcc := hcar.cell
    have hcf := hcar.frozen
    have hcc1 := hrs1.out.cell
    have hcf1 := hrs1.car.frozen
    have hcc2 := hrs2.out.cell
    clear hlt hcar hv hrow
    have hnx := fun c hgc => sum_next pre x (c := c) hgc
    generalize hgc : cy (fa pre) (fb pre) pre.length = c at *
    have HN := Lib.hid (hnx c rfl)
    clear hnx
    have hl := sum_limb hcl x.2.1 x.2.2
    have hx1 := iv_limb x.2.1
    have hx0 := iv_nonneg x.1.1
    have hy1 := iv_limb x.2.2
    have hy0 := iv_nonneg x.1.2
    have hc0 := iv_nonneg c
    have hc2 : iv c ≤ 1 := by rw [iv_eq]; omega
    clear hgc hcl
    rcases hl with ⟨hlim, he1, he2⟩ | ⟨hlim, he1, he2⟩
    · have HN := Lib.hid (And.intro (he1 ▸ HN.out.1) (HN.out.2.symm ▸ he2))
      clear he1 he2
      generalize iv x.1.1 = X at *
      generalize iv x.1.2 = Y at *
      generalize iv c = C at *
      gi_wp2_with (gi_at_builtin; refine append_u32 rfl (.tmp 31) (.tmp 33) rfl w.heap.size _ _ _ rfl (hrs2.row.alloc _) W.heap.size (X + Y + C - 1000000000) rfl (cell_new1 _ _ (by simp [World.setCell]) _ _) (by omega) (by have := hrs2.sz; simp only [World.size_alloc]; omega) ?_; intro v' w1 hown' hgrow hat; obtain ⟨gg, cp, rfl⟩ := ownsRow_succ hown'; obtain ⟨hb1, hr3⟩ := hrs2.append (by omega) (by omega) hown' hgrow hat; have hb1c := hb1.cell; have hb1f := hb1.frozen; clear hgrow hat hown')
      gi_wp2
      refine ⟨hr3.ko.from _, ⟨hr3.be, fun y => hr3.bx _ y (by omega) (by omega), fun y => hr3.bx _ y (by omega) (by omega)⟩, ⟨⟨_, hr3.out, ?_, hr3.ne⟩, ?_⟩, hB.trans hr3.be⟩
      · rw [show (pre ++ [x]).length = pre.length + 1 by simp, HN.out.1]; exact hr3.row
      · rw [show (pre ++ [x]).length = pre.length + 1 by simp, HN.out.2]; exact hr3.car
    · have HN := Lib.hid (And.intro (he1 ▸ HN.out.1) (HN.out.2.symm ▸ he2))
      clear he1 he2
      generalize iv x.1.1 = X at *
      generalize iv x.1.2 = Y at *
      generalize iv c = C at *
      gi_wp2_with (gi_at_builtin; refine append_u32 rfl (.tmp 31) (.tmp 33) rfl w.heap.size _ _ _ rfl (hrs1.row.alloc _) W.heap.size (X + Y + C) rfl (cell_new1 _ _ (by simp [World.setCell]) _ _) (by omega) (by have := hrs1.sz; simp only [World.size_alloc]; omega) ?_; intro v' w1 hown' hgrow hat; obtain ⟨gg, cp, rfl⟩ := ownsRow_succ hown'; obtain ⟨hb1, hr3⟩ := hrs1.append (by omega) (by omega) hown' hgrow hat; have hb1c := hb1.cell; have hb1f := hb1.frozen; clear hgrow hat hown')
      gi_wp2
      refine ⟨hr3.ko.from _, ⟨hr3.be, fun y => hr3.bx _ y (by omega) (by omega), fun y => hr3.bx _ y (by omega) (by omega)⟩, ⟨⟨_, hr3.out, ?_, hr3.ne⟩, ?_⟩, hB.trans hr3.be⟩
      · rw [show (pre ++ [x]).length = pre.length + 1 by simp, HN.out.1]; exact hr3.row
      · rw [show (pre ++ [x]).length = pre.length + 1 by simp, HN.out.2]; exact hr3.car
  case done =>
    rintro D ys W hD rfl ⟨⟨⟨v, hv, hrow, hne⟩, hcar⟩, hB⟩ hK
    have hnum := sum_upto f g len1 len2 hf hg
    rw [upto_length] at hrow hcar
    rw [HMAX.out] at hrow hcar hnum
    have hsl : ∀ j, sl (fa (upto (prs f g len1 len2 hf hg) len2)) (fb (upto (prs f g len1 len2 hf hg) len2)) j < LB := fun j => sl_lt _ _ j
    have hcl : cy (fa (upto (prs f g len1 len2 hf hg) len2)) (fb (upto (prs f g len1 len2 hf hg) len2)) len2 < LB := Nat.lt_of_le_of_lt (cy_le _ (fun j _ => fab_lt _ j)) (by rw [LB_eq]; omega)
    generalize sl (fa (upto (prs f g len1 len2 hf hg) len2)) (fb (upto (prs f g len1 len2 hf hg) len2)) = S at *
    generalize cy (fa (upto (prs f g len1 len2 hf hg) len2)) (fb (upto (prs f g len1 len2 hf hg) len2)) len2 = c at *
    have HNUM := Lib.hid hnum
    have HSL := Lib.hid hsl
    have HCL := Lib.hid hcl
    clear hnum hsl hcl
    have hc := hv.cell
    have hcc := hcar.cell
    have hsz := hB.size
    gi_wp2_with (gi_at_builtin; refine append_u32 rfl (.tmp 35) (.tmp 37) rfl w.heap.size _ _ _ rfl (hrow.alloc _) W.heap.size (iv c) rfl (cell_new1 _ _ rfl _ _) (by omega) (by simp only [World.size_alloc]; omega) ?_; intro v' w1 hown' hgrow hat; clear hat; have hK1 := row_keeps hrow hgrow hK rfl; have hB1 := snoc_below (f := S) hrow hB (Nat.le_refl _) hsz hgrow; obtain ⟨A9, c9, rfl, hr9⟩ := row_more hown' HSL.out HCL.out; clear hown' hgrow)
    refine ⟨trivial, ?_⟩
    refine (callsIn_wide.2 (trim_any _ _ _ _ _ _ hr9)).mono ?_
    rintro e w' ⟨⟨v, rfl, ht⟩, rfl⟩
    have hm := ht.made (N := nv f len1 + nv g len2) (fun j _ => by have := HSL.out j; have := HCL.out; split <;> assumption) (by rw [nv, nv_congr (g := S) len2 fun j hj => if_pos hj, if_neg (by omega), HNUM.out]) hB1
    have HM := Lib.hid (hm.putObj hK1 rfl (by simp at hD; omega) (.deferred none))
    clear ht hr9 hm
    gi_wp2
    refine ⟨by simp, .inl ⟨_, _, rfl, run_takeDeferred hK1, ?_⟩⟩
    exact ⟨_, results_tmp rfl _ _ _, v, rfl, HM.out⟩
  case stop =>
    rintro D c pre W _ _ h _
    exact h.elim

end Go.Proofs.YtbjaolmlnkliiaaGreatDoor

/- The contract of difference. Conditions as premises: the two lists read, their limbs are below ten to the ninth, they have at most 4096 limbs, the second is not longer and not greater than the first. -/
namespace Go.Proofs.YtbjaolmlnkliiaaGreatDoor
open Go.RowKit Go.Shelf
attribute [local go_sem] Oper.semAt_some

theorem diff_next (pre : List Limb2) (x : Limb2) {c : Nat} (hc : bw (fa pre) (fb pre) pre.length = c) :
    us (dl (fa (pre ++ [x])) (fb (pre ++ [x]))) (pre.length + 1) = us (dl (fa pre) (fb pre)) pre.length ++ [.int .u32 (iv (if x.1.1 < x.1.2 + c then x.1.1 + LB - (x.1.2 + c) else x.1.1 - (x.1.2 + c)))] ∧
    bw (fa (pre ++ [x])) (fb (pre ++ [x])) (pre.length + 1) = if x.1.1 < x.1.2 + c then 1 else 0 := by
  have h := fun j (hj : j < pre.length) => fab_old pre x j hj
  have hn := fab_new pre x
  have e : bw (fa (pre ++ [x])) (fb (pre ++ [x])) pre.length = c := by rw [← hc]; exact (bw_congr _ h).symm
  refine ⟨?_, ?_⟩
  · rw [us_succ]
    congr 1
    · exact us_congr fun j hj => (dl_congr h j hj).symm
    · unfold dl; rw [e, hn.1, hn.2]
  · rw [bw, e, hn.1, hn.2]

theorem diff_limb {a b c : Nat} (hc : c ≤ 1) (ha : a < LB) (hb : b < LB) :
    ((iv a < iv b + iv c ∧ iv (if a < b + c then a + LB - (b + c) else a - (b + c)) = iv a + 1000000000 - (iv b + iv c) ∧ iv (if a < b + c then 1 else 0) = 1) ∨
     (¬ iv a < iv b + iv c ∧ iv (if a < b + c then a + LB - (b + c) else a - (b + c)) = iv a - (iv b + iv c) ∧ iv (if a < b + c then 1 else 0) = 0)) := by
  have e := LB_eq
  by_cases h : a < b + c
  · left; rw [if_pos h, if_pos h]; simp only [iv_eq]; rw [e] at ha hb; rw [e]; omega
  · right; rw [if_neg h, if_neg h]; simp only [iv_eq]; omega

theorem diff_upto (f g : Nat → Nat) (n m : Nat) (hf : ∀ j, j < n → f j < LB) (hg : ∀ j, j < m → g j < LB) (hle : nv g m ≤ nv f n) :
    nv (dl (fa (upto (prs f g n m hf hg) (max n m))) (fb (upto (prs f g n m hf hg) (max n m)))) (max n m) = nv f n - nv g m := by
  have h := diff_eq (f := fa (upto (prs f g n m hf hg) (max n m))) (g := fb (upto (prs f g n m hf hg) (max n m))) (max n m) (fun j _ => fab_lt _ j)
  have hl := nv_lt (f := dl (fa (upto (prs f g n m hf hg) (max n m))) (fb (upto (prs f g n m hf hg) (max n m)))) (max n m) (fun j _ => dl_lt (fab_lt _ j).1 (fab_lt _ j).2)
  have hb := bw_le (fa (upto (prs f g n m hf hg) (max n m))) (fb (upto (prs f g n m hf hg) (max n m))) (max n m)
  rw [nv_congr (f := fa _) (g := pl f n) _ fun j hj => (fab_upto hj).1, nv_congr (f := fb _) (g := pl g m) _ fun j hj => (fab_upto hj).2, nv_pl f n _ (by omega), nv_pl g m _ (by omega)] at h
  generalize bw (fa (upto (prs f g n m hf hg) (max n m))) (fb (upto (prs f g n m hf hg) (max n m))) (max n m) = b at *
  rcases (by omega : b = 0 ∨ b = 1) with rfl | rfl
  · rw [Nat.zero_mul] at h; omega
  · rw [Nat.one_mul] at h; omega

set_option maxRecDepth 100000 in
set_option maxHeartbeats 4000000 in
theorem diff_in (A1 A2 : Option Addr) (len1 cap1 len2 cap2 : Nat) (f g : Nat → Nat) (w : World) (hr1 : Rs w w.heap.size A1 len1 cap1 f) (hr2 : Rs w w.heap.size A2 len2 cap2 g)
    (hf : ∀ j, j < len1 → f j < LB) (hg : ∀ j, j < len2 → g j < LB) (hl1 : len1 ≤ 4096) (hl2 : len2 ≤ 4096) (hq : len2 ≤ len1) (hle : nv g len2 ≤ nv f len1) :
    CallsIn Fence.wide 3 Tryz.prog 211 #[.slice A1 len1 cap1, .slice A2 len2 cap2] w fun e W' => ∃ v, e = .returned v ∧ Made w (nv f len1 - nv g len2) v W' := by
  have hmk : ∀ w : World, (Instr.makeSlice 23 (.int .i64 0) (.int .i64 (len1 : Int))).run Tryz.prog w = .ok (.slice (some ⟨w.heap.size, 0, none⟩) 0 len1) (w.alloc (.cells (madeCells #[.int .u32 0] len1) 40)) := fun w => by
    obtain ⟨i0, hi, hz0, hz1, hz2⟩ := info_parts info32
    have h := run_make (P := Tryz.prog) w 23 40 i0 (.int .u32 0) Tryz.underlying23 hi hz0 .i64 .i64 0 (len1 : Int) (by omega) (by omega) (by rw [hz2]; omega) (by omega)
    rw [hz1, show (len1 : Int).toNat = len1 by omega, Nat.mul_one] at h
    exact h
  have hmax : max len1 len2 = len1 := by omega
  have HMAX := Lib.hid hmax
  have h1n : (1 : Nat) ≤ 3 := by omega
  obtain ⟨W0, hW0⟩ : ∃ W0, ((w.alloc (.cells (madeCells #[.int .u32 0] len1) 40)).alloc (.cells #[.slice (some ⟨w.heap.size, 0, none⟩) 0 len1] 23)).alloc (.cells #[.int .u32 0] 40) = W0 := ⟨_, rfl⟩
  have hs0 : w.heap.size + 3 ≤ W0.heap.size := by rw [← hW0]; simp
  have hB0 : Below w.heap.size w W0 := by rw [← hW0]; exact (((Below.refl _ w).alloc (Nat.le_refl _) _).alloc (by simp) _).alloc (by simp; omega) _
  have bO : Boxed W0 (w.heap.size + 1) 23 (.slice (some ⟨w.heap.size, 0, none⟩) 0 len1) := by
    rw [← hW0]
    have h := (Boxed.new (w.alloc (.cells (madeCells #[.int .u32 0] len1) 40)) 23 (.slice (some ⟨w.heap.size, 0, none⟩) 0 len1)).alloc (.cells #[.int .u32 0] 40)
    rw [World.size_alloc w] at h
    exact h
  have bC : Boxed W0 (w.heap.size + 1 + 1) 40 (.int .u32 0) := by
    rw [← hW0]
    have h := Boxed.new ((w.alloc (.cells (madeCells #[.int .u32 0] len1) 40)).alloc (.cells #[.slice (some ⟨w.heap.size, 0, none⟩) 0 len1] 23)) 40 (.int .u32 0)
    rw [World.size_alloc, World.size_alloc] at h
    exact h
  have hrow0 : W0.ownsRow w.heap.size 40 1 (.slice (some ⟨w.heap.size, 0, none⟩) 0 len1) 0 [] := by
    rw [← hW0]
    exact ((World.ownsRow_made (base := w.heap.size) (e := 40) (size := 1) w (madeCells #[.int .u32 0] len1) len1 (Nat.le_refl _) (by unfold maxLen; omega) (by rw [size_madeCells, Nat.mul_one])).alloc _).alloc _
  have HW0 := Lib.hid hW0
  clear hmax
  refine callsIn_of_wp_marks Tryz.func211 rfl trivial ?_ rfl
  simp only [Tryz.ntmps211, List.size_toArray, List.length_cons, List.length_nil, Nat.reduceAdd, Nat.reduceSub, Array.replicate_succ, Array.replicate_zero, List.push_toArray, List.append_toArray, List.nil_append, List.cons_append]
  clear hW0
  gi_wp2
  rw [HW0.out]
  refine ⟨trivial, ?_⟩
  refine (callsIn_wide.2 (pairs_make _ _ _ _ _ _ _)).mono ?_
  rintro e w' ⟨rfl, rfl⟩
  gi_wp2
  have bA := (Boxed.new W0 23 (.slice A1 len1 cap1)).alloc (.cells #[.slice A2 len2 cap2] 23)
  have bB := Boxed.new (W0.alloc (.cells #[.slice A1 len1 cap1] 23)) 23 (.slice A2 len2 cap2)
  rw [World.size_alloc] at bB
  have hB1 : Below w.heap.size w ((W0.alloc (.cells #[.slice A1 len1 cap1] 23)).alloc (.cells #[.slice A2 len2 cap2] 23)) := (hB0.alloc (by omega) _).alloc (by simp; omega) _
  refine wpIn_rangeFunc_ownG rfl h1n (gf := 241) (lb := #[.pointer (some ⟨W0.heap.size, 0, none⟩), .pointer (some ⟨W0.heap.size + 1, 0, none⟩)]) rfl trivial (enters_of Tryz.func241 (by kernel_rfl) rfl)
    (pairs_stops (3 - 1) (by omega) W0.heap.size (W0.heap.size + 1) w.heap.size len1 cap1 len2 cap2 A1 A2 f g hf hg hl1 hl2 _ bA bB (by simp; omega) (hr1.below hB1) (hr2.below hB1)) kpB_t (kpB_b (by simp; omega)) (Below.refl _ _) (fun _ => rfl)
    (fun pre W => ((∃ v, Boxed W (w.heap.size + 1) 23 v ∧ W.ownsRow w.heap.size 40 1 v pre.length (us (dl (fa pre) (fb pre)) pre.length) ∧ v.ownBlock ≠ some (w.heap.size + 1 + 1)) ∧ Boxed W (w.heap.size + 1 + 1) 40 (.int .u32 (iv (bw (fa pre) (fb pre) pre.length)))) ∧ Below w.heap.size w W)
    (fun _ _ _ => False)
    (OwnFrom.and (OwnFrom.and (Own.from (holdsRow_own w.heap.size (w.heap.size + 1) 23 40 1 (fun pre : List Limb2 => pre.length) (fun pre => us (dl (fa pre) (fb pre)) pre.length) (fun _ v => v.ownBlock ≠ some (w.heap.size + 1 + 1))) _) (Own.from (boxed_own (w.heap.size + 1 + 1) 40 (fun pre : List Limb2 => .int .u32 (iv (bw (fa pre) (fb pre) pre.length)))) _)) (ownFrom_below (Nat.le_refl _) (by simp; omega)))
    (fun _ _ _ _ _ hs _ _ => hs)
    ⟨⟨⟨_, (bO.alloc _).alloc _, (hrow0.alloc _).alloc _, by simp [Value.ownBlock]; omega⟩, by simp only [bw, iv_zero, List.length_nil]; exact (bC.alloc _).alloc _⟩, hB1⟩
    (fun x => { tmps := #[.slice A1 len1 cap1, .slice A2 len2 cap2, undef, undef, .slice none 0 0, .pointer (some ⟨w.heap.size + 1, 0, none⟩), .pointer (some ⟨w.heap.size + 1 + 1, 0, none⟩), .int .u32 (iv x.1.1), .int .u32 (iv x.1.2), .slice A1 len1 cap1, .int .i64 len1, .slice (some ⟨w.heap.size, 0, none⟩) 0 len1, .slice A1 len1 cap1, .slice A2 len2 cap2, .func (.func 241) #[] #[.pointer (some ⟨W0.heap.size, 0, none⟩), .pointer (some ⟨W0.heap.size + 1, 0, none⟩)], .int .u32 (iv x.1.1), .int .u32 (iv x.1.2), undef, undef, undef, undef, undef, undef, undef, undef, undef, undef, undef, undef, undef, undef, undef, undef], defers := [] }) ?assign ?body ?done ?stop
  case assign =>
    intro l x W K hK
    gi_wp2
    exact hK
  case body =>
    rintro l pre x W ⟨⟨⟨v, hv, hrow, hne⟩, hcar⟩, hB⟩ hlt
    have hl' : pre.length < len1 := by rw [← HMAX.out]; exact hlt
    have hcl : bw (fa pre) (fb pre) pre.length ≤ 1 := bw_le _ _ _
    have hrs := RS.start hv hcar hrow hne (by have := hB.size; omega)
    have hrs1 := hrs.carry (by omega) (by omega) (.int .u32 0)
    have hrs2 := hrs1.carry (by omega) (by omega) (.int .u32 1)
    have hc1 := hv.cell
    have hcc := hcar.cell
    have hcf := hcar.frozen
    have hcc1 := hrs1.out.cell
    have hcf1 := hrs1.car.frozen
    have hcc2 := hrs2.out.cell
    clear hlt hcar hv hrow
    have hnx := fun c hgc => diff_next pre x (c := c) hgc
    generalize hgc : bw (fa pre) (fb pre) pre.length = c at *
    have HN := Lib.hid (hnx c rfl)
    clear hnx
    have hl := diff_limb hcl x.2.1 x.2.2
    have hx1 := iv_limb x.2.1
    have hx0 := iv_nonneg x.1.1
    have hy1 := iv_limb x.2.2
    have hy0 := iv_nonneg x.1.2
    have hc0 := iv_nonneg c
    have hc2 : iv c ≤ 1 := by rw [iv_eq]; omega
    clear hgc hcl
    rcases hl with ⟨hlim, he1, he2⟩ | ⟨hlim, he1, he2⟩
    · have HN := Lib.hid (And.intro (he1 ▸ HN.out.1) (HN.out.2.symm ▸ he2))
      clear he1 he2
      generalize iv x.1.1 = X at *
      generalize iv x.1.2 = Y at *
      generalize iv c = C at *
      gi_wp2_with (gi_at_builtin; refine append_u32 rfl (.tmp 25) (.tmp 29) rfl w.heap.size _ _ _ rfl (hrs2.row.alloc _) W.heap.size (X + 1000000000 - (Y + C)) rfl (cell_new1 _ _ (by simp [World.setCell]) _ _) (by omega) (by have := hrs2.sz; simp only [World.size_alloc]; omega) ?_; intro v' w1 hown' hgrow hat; obtain ⟨gg, cp, rfl⟩ := ownsRow_succ hown'; obtain ⟨hb1, hr3⟩ := hrs2.append (by omega) (by omega) hown' hgrow hat; have hb1c := hb1.cell; have hb1f := hb1.frozen; clear hgrow hat hown')
      gi_wp2
      refine ⟨hr3.ko.from _, ⟨hr3.be, fun y => hr3.bx _ y (by omega) (by omega), fun y => hr3.bx _ y (by omega) (by omega)⟩, ⟨⟨_, hr3.out, ?_, hr3.ne⟩, ?_⟩, hB.trans hr3.be⟩
      · rw [show (pre ++ [x]).length = pre.length + 1 by simp, HN.out.1]; exact hr3.row
      · rw [show (pre ++ [x]).length = pre.length + 1 by simp, HN.out.2]; exact hr3.car
    · have HN := Lib.hid (And.intro (he1 ▸ HN.out.1) (HN.out.2.symm ▸ he2))
      clear he1 he2
      generalize iv x.1.1 = X at *
      generalize iv x.1.2 = Y at *
      generalize iv c = C at *
      gi_wp2_with (gi_at_builtin; refine append_u32 rfl (.tmp 25) (.tmp 29) rfl w.heap.size _ _ _ rfl (hrs1.row.alloc _) W.heap.size (X - (Y + C)) rfl (cell_new1 _ _ (by simp [World.setCell]) _ _) (by omega) (by have := hrs1.sz; simp only [World.size_alloc]; omega) ?_; intro v' w1 hown' hgrow hat; obtain ⟨gg, cp, rfl⟩ := ownsRow_succ hown'; obtain ⟨hb1, hr3⟩ := hrs1.append (by omega) (by omega) hown' hgrow hat; have hb1c := hb1.cell; have hb1f := hb1.frozen; clear hgrow hat hown')
      gi_wp2
      refine ⟨hr3.ko.from _, ⟨hr3.be, fun y => hr3.bx _ y (by omega) (by omega), fun y => hr3.bx _ y (by omega) (by omega)⟩, ⟨⟨_, hr3.out, ?_, hr3.ne⟩, ?_⟩, hB.trans hr3.be⟩
      · rw [show (pre ++ [x]).length = pre.length + 1 by simp, HN.out.1]; exact hr3.row
      · rw [show (pre ++ [x]).length = pre.length + 1 by simp, HN.out.2]; exact hr3.car
  case done =>
    rintro D ys W hD rfl ⟨⟨⟨v, hv, hrow, hne⟩, hcar⟩, hB⟩ hK
    have hnum := diff_upto f g len1 len2 hf hg hle
    have hsl : ∀ j, dl (fa (upto (prs f g len1 len2 hf hg) (max len1 len2))) (fb (upto (prs f g len1 len2 hf hg) (max len1 len2))) j < LB := fun j => dl_lt (fab_lt _ j).1 (fab_lt _ j).2
    rw [upto_length] at hrow hcar
    rw [HMAX.out] at hrow hcar hnum hsl
    generalize dl (fa (upto (prs f g len1 len2 hf hg) len1)) (fb (upto (prs f g len1 len2 hf hg) len1)) = S at *
    have HNUM := Lib.hid hnum
    have HSL := Lib.hid hsl
    obtain ⟨A9, c9, rfl, hr9⟩ := Go.Proofs.YtbjaolmlnkliiaaGreatDoor.Own.rs (f := S) hrow (fun j _ => by have := hsl j; rw [LB_eq] at this; omega)
    clear hnum hsl hrow
    have hc := hv.cell
    have hsz := hB.size
    gi_wp2
    refine ⟨trivial, ?_⟩
    refine (callsIn_wide.2 (trim_any _ _ _ _ _ _ hr9)).mono ?_
    rintro e w' ⟨⟨v, rfl, ht⟩, rfl⟩
    have hm := ht.made (N := nv f len1 - nv g len2) (fun j _ => HSL.out j) HNUM.out hB
    have HM := Lib.hid (hm.putObj hK rfl (by simp at hD; omega) (.deferred none))
    clear ht hr9 hm
    gi_wp2
    refine ⟨by simp, .inl ⟨_, _, rfl, run_takeDeferred hK, ?_⟩⟩
    exact ⟨_, results_tmp rfl _ _ _, v, rfl, HM.out⟩
  case stop =>
    rintro D c pre W _ _ h _
    exact h.elim


end Go.Proofs.YtbjaolmlnkliiaaGreatDoor

/- The contracts of fit, sum, Add and Sub of the program. Conditions as premises: the lists read. -/
namespace Go.Proofs.YtbjaolmlnkliiaaGreatDoor
open Go.RowKit Go.Shelf

/-- how many limbs a number may have -/
@[irreducible] def NL : Nat := 1024
theorem NL_eq : NL = 1024 := by unfold NL; rfl
theorem one_lt_NL : 1 < LB ^ NL := Nat.one_lt_pow (by rw [NL_eq]; omega) (by rw [LB_eq]; omega)
/-- the error of a result that is too long -/
noncomputable def fitE (N : Nat) : Int := by
  classical exact if N < LB ^ NL then 0 else 5
theorem fitE_ok {N : Nat} (h : N < LB ^ NL) : fitE N = 0 := by unfold fitE; rw [if_pos h]
theorem fitE_over {N : Nat} (h : LB ^ NL ≤ N) : fitE N = 5 := by unfold fitE; rw [if_neg (Nat.not_lt.2 h)]
/-- the number that comes with an error -/
noncomputable def zr (er : Int) (N : Nat) : Nat := if er = 0 then N else 0
theorem zr_ok (N : Nat) : zr 0 N = N := by unfold zr; rw [if_pos rfl]
theorem zr_bad {er : Int} (h : er ≠ 0) (N : Nat) : zr er N = 0 := by unfold zr; rw [if_neg h]

/-- what a call that makes a number or finds an error leaves -/
def Ans (w : World) (er : Int) (N : Nat) (e : Ending) (w' : World) : Prop := ∃ v, e = .returned (.tuple #[v, .int .i64 er]) ∧ Made w (zr er N) v w'

theorem made_rs {w0 w : World} {n c : Nat} {A : Option Addr} {f : Nat → Nat} {N : Nat} (hr : Rs w w.heap.size A n c f) (hd : Dig n f N) (hb : Below w0.heap.size w0 w) : Made w0 N (.slice A n c) w := ⟨A, n, c, f, rfl, hr, hd, hb⟩
theorem Made.nil {w w' : World} (h : Below w.heap.size w w') : Made w 0 (.slice none 0 0) w' :=
  ⟨none, 0, 0, fun _ => 0, rfl, Rs.nil _ _ _, ⟨⟨fun j hj => by omega, fun h => by omega⟩, rfl⟩, h⟩
theorem Ans.bad {w w' : World} {er : Int} {N : Nat} (he : er ≠ 0) (hb : Below w.heap.size w w') : Ans w er N (.returned (.tuple #[.slice none 0 0, .int .i64 er])) w' :=
  ⟨_, rfl, by rw [zr_bad he]; exact Made.nil hb⟩
theorem Ans.after {w w1 w' : World} {er : Int} {N : Nat} {e : Ending} (hb : Below w.heap.size w w1) (h : Ans w1 er N e w') : Ans w er N e w' := by
  obtain ⟨v, he, hm⟩ := h; exact ⟨v, he, hm.after hb⟩

theorem Dig.len_iff {n N : Nat} {f : Nat → Nat} (h : Dig n f N) : (n ≤ 1024 → N < LB ^ NL) ∧ (1024 < n → LB ^ NL ≤ N) := by
  constructor
  · intro hn; rw [← h.eq]; exact Nat.lt_of_lt_of_le h.ok.lt (pow_le_of (by rw [NL_eq]; exact hn))
  · intro hn; rw [← h.eq]; exact Nat.le_trans (pow_le_of (by rw [NL_eq]; omega)) (h.ok.top_le (by omega))
theorem Dig.len_NL {n N : Nat} {f : Nat → Nat} (h : Dig n f N) (hN : N < LB ^ NL) : n ≤ 1024 := by
  have := h.len_le hN
  rw [NL_eq] at this; exact this

theorem fit_any {w0 w : World} {N : Nat} {v : Value} (h : Made w0 N v w) : Calls Tryz.prog 206 #[v] w fun e w' => Ans w0 (fitE N) N e w' := by
  obtain ⟨A, n, c, f, rfl, hr, hd, hb⟩ := h
  rcases Nat.lt_or_ge 1024 n with hn | hn
  · refine (fit_over A n c w hn).mono ?_
    rintro e w' ⟨rfl, rfl⟩
    rw [fitE_over (hd.len_iff.2 hn)]
    exact Ans.bad (by decide) hb
  · refine (fit_ok A n c w hn).mono ?_
    rintro e w' ⟨rfl, rfl⟩
    rw [fitE_ok (hd.len_iff.1 hn)]
    exact ⟨_, rfl, by rw [zr_ok]; exact ⟨A, n, c, f, rfl, hr, hd, hb⟩⟩

theorem sum_any (A1 A2 : Option Addr) (len1 cap1 len2 cap2 : Nat) (f g : Nat → Nat) (w : World) (hr1 : Rs w w.heap.size A1 len1 cap1 f) (hr2 : Rs w w.heap.size A2 len2 cap2 g)
    (hf : ∀ j, j < len1 → f j < LB) (hg : ∀ j, j < len2 → g j < LB) (hl1 : len1 ≤ 4096) (hl2 : len2 ≤ 4096) :
    Calls Tryz.prog 207 #[.slice A1 len1 cap1, .slice A2 len2 cap2] w fun e W' => ∃ v, e = .returned v ∧ Made w (nv f len1 + nv g len2) v W' := by
  rcases Nat.lt_or_ge len1 len2 with h | h
  · exact callsIn_wide.1 (sum_in2 A1 A2 len1 cap1 len2 cap2 f g w hr1 hr2 hf hg hl1 hl2 h)
  · exact callsIn_wide.1 (sum_in1 A1 A2 len1 cap1 len2 cap2 f g w hr1 hr2 hf hg hl1 hl2 h)

/-- the error of a sum -/
noncomputable def addE (n : Nat) (f : Nat → Nat) (m : Nat) (g : Nat → Nat) : Int := if chk2 n f m g = 0 then fitE (nv f n + nv g m) else chk2 n f m g

set_option maxRecDepth 100000 in
set_option maxHeartbeats 1600000 in
theorem natAdd_any (A A' : Option Addr) (n c m c' : Nat) (f g : Nat → Nat) (w : World) (hA : Rs w w.heap.size A n c f) (hB : Rs w w.heap.size A' m c' g) :
    Calls Tryz.prog 166 #[.slice A n c, .slice A' m c'] w fun e w' => Ans w (addE n f m g) (nv f n + nv g m) e w' := by
  have c1 := checkAll_call A A' n c m c' f g w hA hB
  have hb : Below w.heap.size w (w.alloc (.cells #[.slice A n c, .slice A' m c'] 23)) := (Below.refl _ _).alloc (Nat.le_refl _) _
  have HB := Lib.hid hb
  by_cases h : chk2 n f m g = 0
  · rw [show addE n f m g = fitE (nv f n + nv g m) by unfold addE; rw [if_pos h]]
    obtain ⟨h1, h2⟩ := chk2_zero h
    obtain ⟨hn, vf⟩ := chk_zero h1
    obtain ⟨hm, vg⟩ := chk_zero h2
    rw [h] at c1
    have C1 := Lib.hid c1
    have C2 := Lib.hid (sum_any A A' n c m c' f g (w.alloc (.cells #[.slice A n c, .slice A' m c'] 23)) ((hA.below hb).more hb.size) ((hB.below hb).more hb.size) vf.1 vg.1 (by omega) (by omega))
    clear c1 h h1 h2 vf vg hn hm hA hB hb
    go_enter Tryz.func166, Tryz.ntmps166
    go_wp2_with fail
    refine C1.out.mono ?_
    rintro e w' ⟨rfl, rfl⟩
    go_wp2_with fail
    refine C2.out.mono ?_
    rintro e w' ⟨v, rfl, hm⟩
    have HM := Lib.hid hm
    clear hm
    go_wp2_with fail
    refine (fit_any HM.out).mono ?_
    rintro e w2 ⟨u, rfl, hm⟩
    have HM2 := Lib.hid hm
    clear hm
    generalize hge : fitE (nv f n + nv g m) = er at *
    have HGE := Lib.hid hge
    clear hge
    go_wp2_with fail
    go_ret2
    exact ⟨u, by rw [HGE.out]; rfl, by rw [HGE.out]; exact HM2.out.after HB.out⟩
  · rw [show addE n f m g = chk2 n f m g by unfold addE; rw [if_neg h]]
    have h1 : (chk2 n f m g != 0) = true := by rw [bne_iff_ne]; exact h
    have h2 : (chk2 n f m g == 0) = false := by rw [beq_eq_false_iff_ne]; exact h
    have H := Lib.hid h
    have C1 := Lib.hid c1
    clear c1 h hA hB hb
    generalize chk2 n f m g = er at *
    go_enter Tryz.func166, Tryz.ntmps166
    go_wp2_with fail
    refine C1.out.mono ?_
    rintro e w' ⟨rfl, rfl⟩
    go_wp2_with fail
    go_ret2
    exact Ans.bad H.out HB.out

/-- the error of a difference -/
noncomputable def subE (n : Nat) (f : Nat → Nat) (m : Nat) (g : Nat → Nat) : Int := if chk2 n f m g = 0 then (if nv f n < nv g m then 2 else 0) else chk2 n f m g

theorem Below.drewN (w : World) (k : Nat) : Below w.heap.size w (w.drewN k) := ⟨rfl, rfl, rfl, Nat.le_refl _, fun _ _ => rfl⟩

set_option maxRecDepth 100000 in
set_option maxHeartbeats 1600000 in
theorem natSub_any (A A' : Option Addr) (n c m c' : Nat) (f g : Nat → Nat) (w : World) (hA : Rs w w.heap.size A n c f) (hB : Rs w w.heap.size A' m c' g) :
    Calls Tryz.prog 176 #[.slice A n c, .slice A' m c'] w fun e w' => Ans w (subE n f m g) (nv f n - nv g m) e w' := by
  have c1 := checkAll_call A A' n c m c' f g w hA hB
  have hb : Below w.heap.size w (w.alloc (.cells #[.slice A n c, .slice A' m c'] 23)) := (Below.refl _ _).alloc (Nat.le_refl _) _
  have HB := Lib.hid hb
  by_cases h : chk2 n f m g = 0
  · obtain ⟨h1, h2⟩ := chk2_zero h
    obtain ⟨hn, vf⟩ := chk_zero h1
    obtain ⟨hm, vg⟩ := chk_zero h2
    rw [h] at c1
    have C1 := Lib.hid c1
    have hA1 := (hA.below hb).more hb.size
    have hB1 := (hB.below hb).more hb.size
    have c2 := compare_any A A' n c m c' f g _ _ (w.alloc (.cells #[.slice A n c, .slice A' m c'] 23)) hA1 hB1 vf vg
    by_cases hlt : nv f n < nv g m
    · rw [show subE n f m g = 2 by unfold subE; rw [if_pos h, if_pos hlt]]
      rw [cn_lt hlt] at c2
      have C2 := Lib.hid c2
      clear c1 c2 h h1 h2 vf vg hn hm hA hB hb hA1 hB1 hlt
      go_enter Tryz.func176, Tryz.ntmps176
      go_wp2_with fail
      refine C1.out.mono ?_
      rintro e w' ⟨rfl, rfl⟩
      go_wp2_with fail
      refine C2.out.mono ?_
      rintro e w' ⟨rfl, d, rfl⟩
      go_wp2_with fail
      go_ret2
      exact Ans.bad (by decide) (HB.out.trans ((Below.drewN _ _).mono HB.out.size))
    · rw [show subE n f m g = 0 by unfold subE; rw [if_pos h, if_neg hlt]]
      have hml : m ≤ n := by
        rcases Nat.lt_or_ge n m with h3 | h3
        · exact absurd (vf.lt_of_len vg h3) hlt
        · exact h3
      have hcn : cn (nv f n) (nv g m) = 0 ∨ cn (nv f n) (nv g m) = 1 := by
        rcases Nat.eq_or_lt_of_le (Nat.not_lt.1 hlt) with e | e
        · exact .inl (cn_eq e.symm)
        · exact .inr (cn_gt e)
      have C2 := Lib.hid c2
      have C3 := Lib.hid fun d => callsIn_wide.1 (diff_in A A' n c m c' f g ((w.alloc (.cells #[.slice A n c, .slice A' m c'] 23)).drewN d) (hA1.drewN d) (hB1.drewN d) vf.1 vg.1 (by omega) (by omega) hml (Nat.not_lt.1 hlt))
      clear c1 c2 h h1 h2 vf vg hn hm hA hB hb hA1 hB1 hlt hml
      generalize cn (nv f n) (nv g m) = cc at *
      have hcc : ¬ cc < 0 := by rcases hcn with rfl | rfl <;> decide
      clear hcn
      go_enter Tryz.func176, Tryz.ntmps176
      go_wp2_with fail
      refine C1.out.mono ?_
      rintro e w' ⟨rfl, rfl⟩
      go_wp2_with fail
      refine C2.out.mono ?_
      rintro e w' ⟨rfl, d, rfl⟩
      go_wp2_with fail
      refine (C3.out d).mono ?_
      rintro e w' ⟨v, rfl, hm⟩
      have HM := Lib.hid hm
      clear hm
      go_wp2_with fail
      go_ret2
      exact ⟨_, rfl, by rw [zr_ok]; exact HM.out.after (HB.out.trans ((Below.drewN _ _).mono HB.out.size))⟩
  · rw [show subE n f m g = chk2 n f m g by unfold subE; rw [if_neg h]]
    have h1 : (chk2 n f m g != 0) = true := by rw [bne_iff_ne]; exact h
    have h2 : (chk2 n f m g == 0) = false := by rw [beq_eq_false_iff_ne]; exact h
    have H := Lib.hid h
    have C1 := Lib.hid c1
    clear c1 h hA hB hb
    generalize chk2 n f m g = er at *
    go_enter Tryz.func176, Tryz.ntmps176
    go_wp2_with fail
    refine C1.out.mono ?_
    rintro e w' ⟨rfl, rfl⟩
    go_wp2_with fail
    go_ret2
    exact Ans.bad H.out HB.out

/-- the error of a product -/
noncomputable def mulE (n : Nat) (f : Nat → Nat) (m : Nat) (g : Nat → Nat) : Int := if chk2 n f m g = 0 then fitE (nv f n * nv g m) else chk2 n f m g

/-- the error of a power -/
noncomputable def powE (n : Nat) (f : Nat → Nat) (e : Int) : Int := if chk n f = 0 then (if e < 0 ∨ 10000 < e then 2 else fitE (nv f n ^ e.toNat)) else chk n f

theorem powE_bad {n : Nat} {f : Nat → Nat} {e : Int} (h : chk n f ≠ 0) : powE n f e = chk n f := by unfold powE; rw [if_neg h]
theorem powE_range {n : Nat} {f : Nat → Nat} {e : Int} (h : chk n f = 0) (he : e < 0 ∨ 10000 < e) : powE n f e = 2 := by unfold powE; rw [if_pos h, if_pos he]
theorem powE_ok {n : Nat} {f : Nat → Nat} {k : Nat} (h : chk n f = 0) (he : k ≤ 10000) : powE n f (k : Int) = fitE (nv f n ^ k) := by
  unfold powE; rw [if_pos h, if_neg (by omega), Int.toNat_natCast]

theorem pow_mono {a i k : Nat} (ha : 2 ≤ a) (h : i ≤ k) : a ^ i ≤ a ^ k := Nat.pow_le_pow_right (by omega) h

end Go.Proofs.YtbjaolmlnkliiaaGreatDoor

/- Appends to lists of limbs of the call's own: one limb; a whole list onto an empty one. Conditions as premises. -/
namespace Go.Proofs.YtbjaolmlnkliiaaGreatDoor
open Go.RowKit Go.Shelf

theorem Rs.zero (w : World) (B : Nat) (A : Option Addr) (f : Nat → Nat) : Rs w B A 0 0 f := ⟨Nat.le_refl _, by omega, fun j h => by omega, fun h => by omega⟩
/-- one limb behind an own list -/
theorem app_own {w0 wr : World} {ops : Array Oper} {rest : List Oper} {o : Oper} {a : Act} {Q : Exit → Act → World → Prop} (hgd : o.guard = none) (s x : Operand)
    (ho : o.op = .call { callee := .builtin .append, args := #[s, x], argTypes := #[23, 23] }) {v : Value} {k : Nat} {f : Nat → Nat} {y : Int} (hown : Own wr w0.heap.size v k f) (hb : Below w0.heap.size w0 wr)
    (hs : a.eval s = v) (hx : a.eval x = .slice (some ⟨wr.heap.size, 0, none⟩) 1 1) (hy : iv (f k) = y) (hk : k < 5000)
    (h : ∀ v' w', Own w' w0.heap.size v' (k + 1) f → Below w0.heap.size w0 w' → wpList Tryz.prog ops Q rest (a.put o.dst v') w') :
    wpList Tryz.prog ops Q (o :: rest) a (wr.alloc (.cells #[.int .u32 y] 40)) := by
  obtain ⟨i0, hi, hz0, hz1, hz2⟩ := info_parts info32
  have hsz := hb.size
  refine wpList_append_own_at _ hgd s x 23 ho w0.heap.size 40 i0 (.int .u32 0) 1 4 Tryz.underlying23 hi hz0 hz1 hz2 rfl (by decide) v k _ hs (World.ownsRow.alloc hown _) ⟨wr.heap.size, 0, none⟩ 1 1 [.int .u32 y] hx rfl ?_ ?_ ?_ ?_ ?_
    (fun v' w' h1 h2 _ _ => h v' w' (Own.snoc (by rw [hy]; exact h1) rfl) (snoc_below hown hb (Nat.le_refl _) hsz h2))
  · intro j u hj
    rcases j with _ | j
    · simp at hj; subst hj; exact cell_new1 _ _ rfl _ _
    · simp at hj
  · intro u hu; simp at hu; subst hu; rfl
  · unfold maxLen; omega
  · omega
  · simp only [World.size_alloc]; omega

theorem us_mem {f : Nat → Nat} {n j : Nat} {u : Value} (h : (us f n)[j]? = some u) : j < n ∧ u = .int .u32 (iv (f j)) := by
  have hj : j < n := by
    have h2 := List.getElem?_eq_some_iff.1 h
    rw [← us_length f n]; exact h2.1
  rw [us_get f n j hj] at h
  exact ⟨hj, by injection h with h; exact h.symm⟩

theorem add_addr (b off j : Nat) : (⟨b, off, none⟩ : Addr).add j = ⟨b, off + j, none⟩ := by
  by_cases e : j = 0
  · subst e; simp [Addr.add]
  · simp [Addr.add, e]

theorem run_append_none (ty : TypeId) (g : Addr) (A : Option Addr) (c : Nat) (w : World) : (Builtin.append_ #[23, 23] ty #[.slice (some g) 0 0, .slice A 0 c]).run Tryz.prog w = .ok (.slice (some g) 0 0) w := by
  obtain ⟨i0, hi, hz0, hz1, hz2⟩ := info_parts info32
  rcases A with _ | a0 <;> simp [Builtin.append_, run_underlying Tryz.underlying23, sizeOf, typeInfo, hi, hz1, Builtin.lenOf, Builtin.firstCells, loadCells, loadCellsFrom, storeCells, Sem.run_bind, Sem.run_pure, Result.andThen]
/-- a whole list behind an empty one -/
theorem app_all {w : World} {ops : Array Oper} {rest : List Oper} {o : Oper} {a : Act} {Q : Exit → Act → World → Prop} (hgd : o.guard = none) (s x : Operand)
    (ho : o.op = .call { callee := .builtin .append, args := #[s, x], argTypes := #[23, 23] }) {A : Option Addr} {n c B : Nat} {f : Nat → Nat} (hr : Rs w B A n c f) (hB : B ≤ w.heap.size) (hn : n ≤ 4096)
    (hs : a.eval s = .slice (some ⟨w.heap.size, 0, none⟩) 0 0) (hx : a.eval x = .slice A n c)
    (h : ∀ A' c' w', Rs w' w'.heap.size A' n c' f → Below w.heap.size w w' → wpList Tryz.prog ops Q rest (a.put o.dst (.slice A' n c')) w') :
    wpList Tryz.prog ops Q (o :: rest) a (w.alloc (.cells #[] 40)) := by
  have hb0 : Below w.heap.size w (w.alloc (.cells #[] 40)) := (Below.refl _ _).alloc (Nat.le_refl _) _
  have hrow : (w.alloc (.cells #[] 40)).ownsRow w.heap.size 40 1 (.slice (some ⟨w.heap.size, 0, none⟩) 0 0) 0 [] :=
    World.ownsRow_made (base := w.heap.size) (e := 40) (size := 1) w #[] 0 (Nat.le_refl _) (by unfold maxLen; omega) rfl
  rcases Nat.eq_zero_or_pos n with e | e
  · subst e
    have hk := h (some ⟨w.heap.size, 0, none⟩) 0 _ (Rs.zero _ _ _ _) hb0
    have hrun := run_append_none o.type (⟨w.heap.size, 0, none⟩) A c (w.alloc (.cells #[] 40))
    refine wpList_plain hgd fun K hK => ?_
    unfold Oper.wp execOp
    simp only [ho, resolve, invoke, builtin, Sem.run_bind, Sem.run_pure, Result.andThen_ok, List.map_toArray, List.map_cons, List.map_nil, hs, hx, hrun]
    exact hK _ _ hk
  · obtain ⟨b, off, rfl, hb, hc⟩ := hr.cell e
    obtain ⟨i0, hi, hz0, hz1, hz2⟩ := info_parts info32
    refine wpList_append_own_at _ hgd s x 23 ho w.heap.size 40 i0 (.int .u32 0) 1 4 Tryz.underlying23 hi hz0 hz1 hz2 rfl (by decide) _ 0 _ hs hrow ⟨b, off, none⟩ n c (us f n) hx (by rw [us_length, Nat.mul_one]) ?_ ?_ (by unfold maxLen; omega) (by omega) (by simp)
      (fun v' w' h1 h2 _ _ => ?_)
    · intro j u hj
      obtain ⟨hjn, rfl⟩ := us_mem hj
      rw [add_addr, hb0.cell (p := ⟨b, off + j, none⟩) (by show b < _; omega)]
      exact hc j hjn
    · intro u hu
      obtain ⟨j, hj⟩ := List.mem_iff_getElem?.1 hu
      obtain ⟨_, rfl⟩ := us_mem hj
      rfl
    · rw [Nat.zero_add, List.nil_append] at h1
      obtain ⟨A', c', rfl, hr'⟩ := Go.Proofs.YtbjaolmlnkliiaaGreatDoor.Own.rs (f := f) h1 hr.bd
      exact h A' c' w' hr' (((Below.refl _ w).alloc (Nat.le_refl _) _).grown h2 (by simp) (fun j hj => by have := (World.ownsRow.lt hrow j hj).1; omega))

end Go.Proofs.YtbjaolmlnkliiaaGreatDoor

/- The contracts of the reference's Fits, Plus, Minus. Conditions as premises: the lists read, and are valid. -/
namespace Go.Proofs.YtbjaolmlnkliiaaGreatDoor
open Go.RowKit Go.Shelf


set_option maxHeartbeats 800000 in
theorem refFits_any {w0 w : World} {N : Nat} {v : Value} (h : Made w0 N v w) : Calls Tryz.prog 184 #[v] w fun e w' => Ans w0 (fitE N) N e w' := by
  obtain ⟨A, n, c, f, rfl, hr, hd, hb⟩ := h
  have HD := Lib.hid hd
  have HB := Lib.hid hb
  rcases Nat.lt_or_ge 1024 n with hn | hn
  · rw [fitE_over (hd.len_iff.2 hn)]
    clear hd hb
    go_enter Tryz.func184, Tryz.ntmps184
    go_wp2
    go_ret2
    exact Ans.bad (by decide) HB.out
  · rw [fitE_ok (hd.len_iff.1 hn)]
    have h' : ¬ 1024 < n := by omega
    clear hd hb
    go_enter Tryz.func184, Tryz.ntmps184
    go_wp2_with (at_builtin; refine app_all rfl (.tmp 7) (.tmp 8) rfl hr (Nat.le_refl _) (by omega) rfl rfl ?_; intro A' c' w' hr' hb')
    go_ret2
    exact ⟨_, rfl, by rw [zr_ok]; exact made_rs hr' HD.out (HB.out.trans (hb'.mono HB.out.size))⟩

/-- a limb and a carry of a sum -/
theorem plus_step (F G : Nat → Nat) (k : Nat) (z : Int) (hz : z = iv (cy F G k) + iv (F k) + iv (G k)) : iv (sl F G k) = z % 1000000000 ∧ z / 1000000000 = iv (cy F G (k + 1)) := by
  have e := LB_eq
  subst hz
  rw [cy]; unfold sl; simp only [iv_eq]; rw [e]; omega

theorem Val.of_ge {n : Nat} {f : Nat → Nat} (hb : ∀ j, j < n → f j < LB) (h : 0 < n → LB ^ (n - 1) ≤ nv f n) : Val n f := by
  refine ⟨hb, fun h0 e => ?_⟩
  obtain ⟨m, rfl⟩ : ∃ m, n = m + 1 := ⟨n - 1, by omega⟩
  have h1 := h h0
  rw [Nat.add_sub_cancel] at h1 e
  have h2 := nv_lt m (fun j hj => hb j (by omega))
  rw [nv, e, Nat.zero_mul] at h1
  omega

/-- what the loop leaves is the valid list of the sum -/
theorem plus_done {n m k : Nat} {f g : Nat → Nat} (vf : Val n f) (vg : Val m g) (hn : n ≤ k) (hm : m ≤ k) (hc : cy (pl f n) (pl g m) k = 0)
    (hk : k = 0 ∨ k - 1 < n ∨ k - 1 < m ∨ cy (pl f n) (pl g m) (k - 1) ≠ 0) : Dig k (sl (pl f n) (pl g m)) (nv f n + nv g m) := by
  have he : nv (sl (pl f n) (pl g m)) k = nv f n + nv g m := by
    have := sum_eq (pl f n) (pl g m) k
    rw [hc, Nat.zero_mul, nv_pl f n k hn, nv_pl g m k hm] at this
    omega
  refine ⟨Val.of_ge (fun j _ => sl_lt _ _ _) fun h0 => ?_, he⟩
  rw [he]
  rcases hk with h | h | h | h
  · omega
  · have hk1 : k = n := by omega
    subst hk1
    have := vf.top_le h0; omega
  · have hk1 : k = m := by omega
    subst hk1
    have := vg.top_le h0; omega
  · by_cases h1 : n ≤ k - 1 ∧ m ≤ k - 1
    · have := sum_eq (pl f n) (pl g m) (k - 1)
      rw [nv_pl f n _ h1.1, nv_pl g m _ h1.2] at this
      have h2 : 1 * LB ^ (k - 1) ≤ cy (pl f n) (pl g m) (k - 1) * LB ^ (k - 1) := Nat.mul_le_mul_right _ (by omega)
      omega
    · rcases (by omega : k = n ∨ k = m) with e | e
      · subst e; have := vf.top_le h0; omega
      · subst e; have := vg.top_le h0; omega

set_option maxRecDepth 100000 in
set_option maxHeartbeats 1600000 in
theorem refPlus_any (A A' : Option Addr) (n c m c' : Nat) (f g : Nat → Nat) (w : World) (hA : Rs w w.heap.size A n c f) (hB : Rs w w.heap.size A' m c' g) (vf : Val n f) (vg : Val m g) (hn : n ≤ 2000) (hm : m ≤ 2000) :
    Calls Tryz.prog 147 #[.slice A n c, .slice A' m c'] w fun e w' => ∃ v, e = .returned v ∧ Made w (nv f n + nv g m) v w' := by
  have VF := Lib.hid vf
  have VG := Lib.hid vg
  clear vf vg
  go_enter Tryz.func147, Tryz.ntmps147
  go_wp2
  go_loopw [5, 6, 7] (fun v u i wr => ∃ k : Nat, i = .int .i64 k ∧ u = .int .u32 (iv (cy (pl f n) (pl g m) k)) ∧ Own wr w.heap.size v k (sl (pl f n) (pl g m)) ∧ Below w.heap.size w wr ∧ Hid (k ≤ n + m ∨ (k ≤ n + m + 1 ∧ cy (pl f n) (pl g m) k = 0)) ∧ Hid (k = 0 ∨ k - 1 < n ∨ k - 1 < m ∨ cy (pl f n) (pl g m) (k - 1) ≠ 0)) (fun _ _ i _ => n + m + 2 - (intOf i).toNat)
  case atStart => exact ⟨0, rfl, by rw [cy, iv_zero], Own.nil _ _ _, Below.refl _ _, .inl (by omega), .inl rfl⟩
  case round =>
    obtain ⟨k, rfl, rfl, hown, hbel, hkb, hkp⟩ := hrel
    have hc1 : cy (pl f n) (pl g m) k ≤ 1 := cy_le _ (fun j _ => ⟨pl_lt VF.out.1 j, pl_lt VG.out.1 j⟩)
    have hst := plus_step (pl f n) (pl g m) k
    have hC0 := iv_nonneg (cy (pl f n) (pl g m) k)
    have hC1 : iv (cy (pl f n) (pl g m) k) ≤ 1 := by rw [iv_eq]; omega
    have hkl : k ≤ 4001 := by have := hkb.out; omega
    have hr1 := hA.below hbel
    have hr2 := hB.below hbel
    have hkb' : k < n ∨ k < m ∨ iv (cy (pl f n) (pl g m) k) ≠ 0 → k ≤ n + m := by
      intro h
      rcases hkb.out with h2 | ⟨h2, h3⟩
      · exact h2
      · rcases h with h | h | h
        · omega
        · omega
        · exact absurd (by rw [h3, iv_zero]) h
    have HKB := Lib.hid hkb'
    clear hkb'
    generalize hgc : iv (cy (pl f n) (pl g m) k) = C at *
    have HGC := Lib.hid hgc
    clear hgc hc1
    by_cases ha : k < n
    · have hx1 := iv_limb (VF.out.1 k ha)
      have hx0 := iv_nonneg (f k)
      obtain ⟨b1, off1, rfl, hb1, hcc1⟩ := hr1.cell (by omega)
      have hck1 := hcc1 k ha
      rw [pl_in ha] at hst
      clear hcc1
      generalize iv (f k) = X at *
      by_cases hb : k < m
      · have hy1 := iv_limb (VG.out.1 k hb)
        have hy0 := iv_nonneg (g k)
        obtain ⟨b2, off2, rfl, hb2, hcc2⟩ := hr2.cell (by omega)
        have hck2 := hcc2 k hb
        rw [pl_in hb] at hst
        clear hcc2
        generalize iv (g k) = Y at *
        have HST := Lib.hid (hst _ rfl)
        clear hst
        go_wp2_with (at_builtin; refine app_own rfl (.tmp 44) (.tmp 47) rfl hown hbel rfl rfl HST.out.1 (by omega) ?_; intro v' w1 hown1 hb1')
        go_roundw
        case rel => exact ⟨k + 1, by go_num, by rw [HST.out.2], hown1, hb1', .inl (by omega), .inr (.inl (by omega))⟩
        case measure => simp [intOf]; omega
      · have hb' : m ≤ k := by omega
        rw [pl_out hb', iv_zero, Int.add_zero] at hst
        have HST := Lib.hid (hst _ rfl)
        clear hst
        go_wp2_with (at_builtin; refine app_own rfl (.tmp 44) (.tmp 47) rfl hown hbel rfl rfl HST.out.1 (by omega) ?_; intro v' w1 hown1 hb1')
        go_roundw
        case rel => exact ⟨k + 1, by go_num, by rw [HST.out.2], hown1, hb1', .inl (by omega), .inr (.inl (by omega))⟩
        case measure => simp [intOf]; omega
    · have ha' : n ≤ k := by omega
      rw [pl_out ha', iv_zero, Int.add_zero] at hst
      by_cases hb : k < m
      · have hy1 := iv_limb (VG.out.1 k hb)
        have hy0 := iv_nonneg (g k)
        obtain ⟨b2, off2, rfl, hb2, hcc2⟩ := hr2.cell (by omega)
        have hck2 := hcc2 k hb
        rw [pl_in hb] at hst
        clear hcc2
        generalize iv (g k) = Y at *
        have HST := Lib.hid (hst _ rfl)
        clear hst
        go_wp2_with (at_builtin; refine app_own rfl (.tmp 44) (.tmp 47) rfl hown hbel rfl rfl HST.out.1 (by omega) ?_; intro v' w1 hown1 hb1')
        go_roundw
        case rel => exact ⟨k + 1, by go_num, by rw [HST.out.2], hown1, hb1', .inl (by omega), .inr (.inr (.inl (by omega)))⟩
        case measure => simp [intOf]; omega
      · have hb' : m ≤ k := by omega
        rw [pl_out hb', iv_zero, Int.add_zero] at hst
        have HST := Lib.hid (hst _ rfl)
        clear hst
        by_cases hc : 0 < C
        · have hkm : k ≤ n + m := HKB.out (.inr (.inr (by omega)))
          have hC : C = 1 := by omega
          subst hC
          go_wp2_with (at_builtin; refine app_own rfl (.tmp 44) (.tmp 47) rfl hown hbel rfl rfl HST.out.1 (by omega) ?_; intro v' w1 hown1 hb1')
          go_roundw
          case rel => exact ⟨k + 1, by go_num, by rw [← HST.out.2]; rfl, hown1, hb1', .inr ⟨by omega, by have h9 := HST.out.2; rw [iv_eq] at h9; omega⟩, .inr (.inr (.inr (by have h9 := HGC.out; rw [iv_eq] at h9; simp; omega)))⟩
          case measure => simp [intOf]; omega
        · go_wp2
          go_ret
          have hz : cy (pl f n) (pl g m) k = 0 := by have h9 := HGC.out; rw [iv_eq] at h9; omega
          obtain ⟨V, cap, rfl, hr⟩ := hown.rs (fun j _ => by have := sl_lt (pl f n) (pl g m) j; rw [LB_eq] at this; omega)
          exact ⟨_, rfl, made_rs hr (plus_done VF.out VG.out ha' hb' hz hkp.out) hbel⟩

end Go.Proofs.YtbjaolmlnkliiaaGreatDoor

/- The contracts of the reference's Minus, Add and Sub. Conditions as premises: the lists read, and are valid where the numbers are asked. -/
namespace Go.Proofs.YtbjaolmlnkliiaaGreatDoor
open Go.RowKit Go.Shelf

theorem minus_step (F G : Nat → Nat) (k : Nat) (hF : F k < LB) (hG : G k < LB) (z : Int) (hz : z = iv (F k) - iv (bw F G k) - iv (G k)) :
    (z < 0 ∧ iv (dl F G k) = z + 1000000000 ∧ iv (bw F G (k + 1)) = 1) ∨ (¬ z < 0 ∧ iv (dl F G k) = z ∧ iv (bw F G (k + 1)) = 0) := by
  have e := LB_eq
  have hb := bw_le F G k
  subst hz
  rw [bw]; unfold dl
  by_cases h : F k < G k + bw F G k
  · left; rw [if_pos h, if_pos h]; simp only [iv_eq]; rw [e] at hF hG; rw [e]; omega
  · right; rw [if_neg h, if_neg h]; simp only [iv_eq]; omega

theorem minus_done {n m : Nat} {f g : Nat → Nat} (vf : Val n f) (vg : Val m g) (hle : nv g m ≤ nv f n) : nv (dl (pl f n) (pl g m)) n = nv f n - nv g m := by
  have hml : m ≤ n := by
    rcases Nat.lt_or_ge n m with h3 | h3
    · have := vf.lt_of_len vg h3; omega
    · exact h3
  have h := diff_eq (f := pl f n) (g := pl g m) n (fun j _ => ⟨pl_lt vf.1 j, pl_lt vg.1 j⟩)
  have hl := nv_lt (f := dl (pl f n) (pl g m)) n (fun j _ => dl_lt (pl_lt vf.1 j) (pl_lt vg.1 j))
  have hb := bw_le (pl f n) (pl g m) n
  rw [nv_pl f n n (Nat.le_refl _), nv_pl g m n hml] at h
  generalize bw (pl f n) (pl g m) n = b at *
  rcases (by omega : b = 0 ∨ b = 1) with rfl | rfl
  · rw [Nat.zero_mul] at h; omega
  · rw [Nat.one_mul] at h; omega

set_option maxRecDepth 100000 in
set_option maxHeartbeats 1600000 in
theorem refMinus_any (A A' : Option Addr) (n c m c' : Nat) (f g : Nat → Nat) (w : World) (hA : Rs w w.heap.size A n c f) (hB : Rs w w.heap.size A' m c' g) (vf : Val n f) (vg : Val m g) (hn : n ≤ 2000) (hle : nv g m ≤ nv f n) :
    Calls Tryz.prog 148 #[.slice A n c, .slice A' m c'] w fun e w' => ∃ v, e = .returned v ∧ Made w (nv f n - nv g m) v w' := by
  have HD := Lib.hid (minus_done vf vg hle)
  have HL : Hid (∀ j, dl (pl f n) (pl g m) j < LB) := Lib.hid fun j => dl_lt (pl_lt vf.1 j) (pl_lt vg.1 j)
  have HS : Hid (∀ k z, z = iv (pl f n k) - iv (bw (pl f n) (pl g m) k) - iv (pl g m k) → (z < 0 ∧ iv (dl (pl f n) (pl g m) k) = z + 1000000000 ∧ iv (bw (pl f n) (pl g m) (k + 1)) = 1) ∨ (¬ z < 0 ∧ iv (dl (pl f n) (pl g m) k) = z ∧ iv (bw (pl f n) (pl g m) (k + 1)) = 0)) :=
    Lib.hid fun k z hz => minus_step _ _ k (pl_lt vf.1 k) (pl_lt vg.1 k) z hz
  have VF := Lib.hid vf
  have VG := Lib.hid vg
  clear vf vg hle
  go_enter Tryz.func148, Tryz.ntmps148
  go_wp2
  go_loopw [5, 6, 7] (fun v u i wr => ∃ k : Nat, k ≤ n ∧ i = .int .i64 k ∧ u = .int .i64 (iv (bw (pl f n) (pl g m) k)) ∧ Own wr w.heap.size v k (dl (pl f n) (pl g m)) ∧ Below w.heap.size w wr) (fun _ _ i _ => n - (intOf i).toNat)
  case atStart => exact ⟨0, Nat.zero_le _, rfl, by rw [bw, iv_zero], Own.nil _ _ _, Below.refl _ _⟩
  case round =>
    obtain ⟨k, hk, rfl, rfl, hown, hbel⟩ := hrel
    by_cases ha : k < n
    · have hC0 := iv_nonneg (bw (pl f n) (pl g m) k)
      have hC1 : iv (bw (pl f n) (pl g m) k) ≤ 1 := by have := bw_le (pl f n) (pl g m) k; rw [iv_eq]; omega
      have hr1 := hA.below hbel
      have hr2 := hB.below hbel
      have hst := HS.out k
      have hx1 := iv_limb (VF.out.1 k ha)
      have hx0 := iv_nonneg (f k)
      obtain ⟨b1, off1, rfl, hb1, hcc1⟩ := hr1.cell (by omega)
      have hck1 := hcc1 k ha
      rw [pl_in ha] at hst
      clear hcc1
      by_cases hb : k < m
      · have hy1 := iv_limb (VG.out.1 k hb)
        have hy0 := iv_nonneg (g k)
        obtain ⟨b2, off2, rfl, hb2, hcc2⟩ := hr2.cell (by omega)
        have hck2 := hcc2 k hb
        rw [pl_in hb] at hst
        clear hcc2
        generalize iv (f k) = X at *
        generalize iv (g k) = Y at *
        generalize hgc : iv (bw (pl f n) (pl g m) k) = C at *
        clear hgc
        rcases hst _ rfl with ⟨hz, h1, h2⟩ | ⟨hz, h1, h2⟩
        · have H1 := Lib.hid h1
          have H2 := Lib.hid h2
          clear hst h1 h2
          go_wp2_with (at_builtin; refine app_own rfl (.tmp 37) (.tmp 40) rfl hown hbel rfl rfl H1.out (by omega) ?_; intro v' w1 hown1 hb1')
          go_roundw
          case rel => exact ⟨k + 1, by omega, by go_num, by rw [H2.out], hown1, hb1'⟩
          case measure => simp [intOf]; omega
        · have H1 := Lib.hid h1
          have H2 := Lib.hid h2
          clear hst h1 h2
          go_wp2_with (at_builtin; refine app_own rfl (.tmp 37) (.tmp 40) rfl hown hbel rfl rfl H1.out (by omega) ?_; intro v' w1 hown1 hb1')
          go_roundw
          case rel => exact ⟨k + 1, by omega, by go_num, by rw [H2.out], hown1, hb1'⟩
          case measure => simp [intOf]; omega
      · have hb' : m ≤ k := by omega
        rw [pl_out hb', iv_zero, Int.sub_zero] at hst
        generalize iv (f k) = X at *
        generalize hgc : iv (bw (pl f n) (pl g m) k) = C at *
        clear hgc
        rcases hst _ rfl with ⟨hz, h1, h2⟩ | ⟨hz, h1, h2⟩
        · have H1 := Lib.hid h1
          have H2 := Lib.hid h2
          clear hst h1 h2
          go_wp2_with (at_builtin; refine app_own rfl (.tmp 37) (.tmp 40) rfl hown hbel rfl rfl H1.out (by omega) ?_; intro v' w1 hown1 hb1')
          go_roundw
          case rel => exact ⟨k + 1, by omega, by go_num, by rw [H2.out], hown1, hb1'⟩
          case measure => simp [intOf]; omega
        · have H1 := Lib.hid h1
          have H2 := Lib.hid h2
          clear hst h1 h2
          go_wp2_with (at_builtin; refine app_own rfl (.tmp 37) (.tmp 40) rfl hown hbel rfl rfl H1.out (by omega) ?_; intro v' w1 hown1 hb1')
          go_roundw
          case rel => exact ⟨k + 1, by omega, by go_num, by rw [H2.out], hown1, hb1'⟩
          case measure => simp [intOf]; omega
    · obtain rfl : k = n := by omega
      obtain ⟨V, cap, rfl, hr⟩ := hown.rs (fun j _ => by have := HL.out j; rw [LB_eq] at this; omega)
      have HT := Lib.hid (refTrim_any V k cap _ _ wr hr)
      clear hr hown
      go_wp2_with fail
      refine HT.out.mono ?_
      rintro e w' ⟨⟨v, rfl, ht⟩, rfl⟩
      have HM := Lib.hid (ht.made (fun j _ => HL.out j) HD.out hbel)
      clear ht
      go_wp2_with fail
      go_ret
      exact ⟨_, rfl, HM.out⟩

end Go.Proofs.YtbjaolmlnkliiaaGreatDoor

/- The contract of the reference's Times. Conditions as premises: the lists read, their limbs are below ten to the ninth, and they are short enough. -/
namespace Go.Proofs.YtbjaolmlnkliiaaGreatDoor
open Go.RowKit Go.Shelf

theorem Row.drewN {w : World} {b n : Nat} {f : Nat → Nat} (h : Row w b n f) (k : Nat) : Row (w.drewN k) b n f := h
theorem iv_muladd {c q a b : Nat} : (iv c + iv q + iv a * iv b) / 1000000000 = iv ((c + q + a * b) / LB) ∧ (iv c + iv q + iv a * iv b) % 1000000000 = iv ((c + q + a * b) % LB) := by
  have e := LB_eq
  simp only [iv_eq]
  rw [e, ← Int.natCast_mul]; omega

set_option maxRecDepth 100000 in
set_option maxHeartbeats 4000000 in
theorem refTimes_any (A A' : Option Addr) (n c m c' : Nat) (f g : Nat → Nat) (w : World) (hA : Rs w w.heap.size A n c f) (hB : Rs w w.heap.size A' m c' g) (hf : ∀ j, j < n → f j < LB) (hg : ∀ j, j < m → g j < LB) (hn : n ≤ 2000) (hm : m ≤ 2000) :
    Calls Tryz.prog 146 #[.slice A n c, .slice A' m c'] w fun e w' => ∃ v, e = .returned v ∧ Made w (nv f n * nv g m) v w' := by
  have hmk := run_make_row' (P := Tryz.prog) 23 40 (.int .u32 0) 4 Tryz.underlying23 info32 rfl .i64 .i64 (n + m) (by omega) (by omega)
  rw [show ((n + m : Nat) : Int) = (n : Int) + (m : Int) by omega] at hmk
  have hrow := Row.made w (n + m)
  have hbel : Below w.heap.size w (w.alloc (.cells (madeCells #[.int .u32 0] (n + m)) 40)) := (Below.refl _ _).alloc (Nat.le_refl _) _
  have HF := Lib.hid hf
  have HG := Lib.hid hg
  clear hf hg
  go_enter Tryz.func146, Tryz.ntmps146
  go_wp2
  clear hmk
  generalize hgw : w.alloc (.cells (madeCells #[.int .u32 0] (n + m)) 40) = w0 at *
  clear hgw
  go_loopw [6, 7, 8] (fun i u v wr => ∃ k : Nat, k ≤ n ∧ i = .int .i64 k ∧ ∃ q, Row wr w.heap.size (n + m) q ∧ Hid (nv q (n + m) = nv f k * nv g m ∧ (∀ j, q j < LB) ∧ ∀ j, k + m ≤ j → q j = 0) ∧ Below w.heap.size w wr) (fun i _ _ _ => n - (intOf i).toNat)
  case atStart => exact ⟨0, Nat.zero_le _, rfl, _, hrow, ⟨by rw [nv, Nat.zero_mul, nv_zero], fun j => LB_pos, fun j _ => rfl⟩, hbel⟩
  case round =>
    obtain ⟨k, hk, rfl, q, hrq, hq, hb⟩ := hrel
    by_cases hlt : k < n
    · go_wp2
      go_loopw [7, 8] (fun u i wr2 => ∃ j C : Nat, j ≤ m ∧ i = .int .i64 j ∧ u = .int .u64 (iv C) ∧ ∃ q2, Row wr2 w.heap.size (n + m) q2 ∧ Hid (nv q2 (n + m) + C * LB ^ (k + j) = nv f k * nv g m + f k * LB ^ k * nv g j ∧ C < LB ∧ (∀ t, q2 t < LB) ∧ ∀ t, k + m ≤ t → q2 t = 0) ∧ Below w.heap.size w wr2) (fun _ i _ => m - (intOf i).toNat)
      case atStart => exact ⟨0, 0, Nat.zero_le _, rfl, by rw [iv_zero], q, hrq, ⟨by rw [hq.out.1, nv, Nat.zero_mul, Nat.mul_zero], LB_pos, hq.out.2.1, hq.out.2.2⟩, hb⟩
      case round =>
        obtain ⟨j, C, hj, rfl, rfl, q2, hrq2, hq2, hb2⟩ := hrel
        obtain ⟨he, hC, hql, hqz⟩ := hq2.out
        have hC1 := iv_limb hC
        have hC0 := iv_nonneg C
        by_cases hjm : j < m
        · have hpn : k + j < n + m := by omega
          have hcp := hrq2.cell hpn
          have hfz := hrq2.frozen (k + j)
          have hq1 := iv_limb (hql (k + j))
          have hq0 := iv_nonneg (q2 (k + j))
          obtain ⟨b1, off1, rfl, hb1, hcc1⟩ := (hA.below hb2).cell (by omega)
          have hck1 := hcc1 k hlt
          obtain ⟨b3, off3, rfl, hb3, hcc3⟩ := (hB.below hb2).cell (by omega)
          have hck3 := hcc3 j hjm
          have hx1 := iv_limb (HF.out k hlt)
          have hx0 := iv_nonneg (f k)
          have hy1 := iv_limb (HG.out j hjm)
          have hy0 := iv_nonneg (g j)
          obtain ⟨hd, hab⟩ := times_lt (HF.out k hlt) (HG.out j hjm) hC (hql (k + j))
          obtain ⟨ed, em⟩ := @iv_muladd C (q2 (k + j)) (f k) (g j)
          have hp0 : 0 ≤ iv (f k) * iv (g j) := Int.mul_nonneg hx0 hy0
          have hp1 : iv (f k) * iv (g j) ≤ 999999998000000001 := by
            have := iv_eq (f k * g j)
            have h4 := iv_le hab
            rw [this, Int.natCast_mul, ← iv_eq, ← iv_eq] at h4
            exact h4
          have hdl := iv_limb hd
          have hml := iv_limb (Nat.mod_lt (C + q2 (k + j) + f k * g j) LB_pos)
          have hd0 := iv_nonneg ((C + q2 (k + j) + f k * g j) / LB)
          have hm0 := iv_nonneg ((C + q2 (k + j) + f k * g j) % LB)
          rw [← ed] at hdl hd0
          rw [← em] at hml hm0
          have hnew := fun d => (hrq2.drewN d).set (k + j) ((C + q2 (k + j) + f k * g j) % LB)
          rw [← em] at hnew
          have HNEW := Lib.hid hnew
          have HN := Lib.hid (And.intro (times_step (a := f k) (b := g j) (G := nv g j) hpn he) (And.intro hd (And.intro (show ∀ t, (if t = k + j then (C + q2 (k + j) + f k * g j) % LB else q2 t) < LB from fun t => by split; exact Nat.mod_lt _ LB_pos; exact hql t) (show ∀ t, k + m ≤ t → (if t = k + j then (C + q2 (k + j) + f k * g j) % LB else q2 t) = 0 from fun t ht => by rw [if_neg (by omega)]; exact hqz t ht))))
          have HED := Lib.hid ed
          clear he hC hql hqz hcc1 hcc3 hd hab ed em hnew
          generalize hgx : iv (f k) = X at *
          generalize hgy : iv (g j) = Y at *
          generalize hgq : iv (q2 (k + j)) = Z at *
          generalize hgc : iv C = CC at *
          clear hgx hgy hgq hgc
          go_wp2
          go_quiet (fail)
          go_wp2
          go_roundw
          case rel => exact ⟨j + 1, _, by omega, by go_num, by rw [HED.out], _, HNEW.out nq, HN.out, (hb2.trans ((Below.drewN _ nq).mono hb2.size)).setCell (p := ⟨w.heap.size, k + j, none⟩) (Nat.le_refl _) _⟩
          case measure => simp [intOf]; omega
        · obtain rfl : j = m := by omega
          have hpn : k + j < n + j := by omega
          have hfz := hrq2.frozen (k + j)
          have hcp := hrq2.cell hpn
          have hnew := hrq2.set (k + j) C
          have HN := Lib.hid (And.intro (times_row hpn (hqz _ (Nat.le_refl _)) he) (And.intro (show ∀ t, (if t = k + j then C else q2 t) < LB from fun t => by split; exact hC; exact hql t) (show ∀ t, k + 1 + j ≤ t → (if t = k + j then C else q2 t) = 0 from fun t ht => by rw [if_neg (by omega)]; exact hqz t (by omega))))
          have HNEW := Lib.hid hnew
          clear he hC hql hqz hnew
          generalize hgc : iv C = CC at *
          clear hgc
          go_wp2
          go_roundw
          case rel => exact ⟨k + 1, by omega, by go_num, _, HNEW.out, HN.out, hb2.setCell (p := ⟨w.heap.size, k + j, none⟩) (Nat.le_refl _) _⟩
          case measure => simp [intOf]; omega
    · obtain rfl : k = n := by omega
      obtain ⟨he, hql, hqz⟩ := hq.out
      have HT := Lib.hid (refTrim_any (some ⟨w.heap.size, 0, none⟩) (k + m) (k + m) q _ wr (hrq.rs (by omega) (fun j hj => by have := hql j; rw [LB_eq] at this; omega)))
      have HQ := Lib.hid hql
      have HE := Lib.hid he
      clear he hql hqz
      go_wp2_with fail
      refine HT.out.mono ?_
      rintro e w' ⟨⟨v, rfl, ht⟩, rfl⟩
      have HM := Lib.hid (ht.made (fun j _ => HQ.out j) HE.out hb)
      clear ht
      go_wp2_with fail
      go_ret
      exact ⟨_, rfl, HM.out⟩

end Go.Proofs.YtbjaolmlnkliiaaGreatDoor

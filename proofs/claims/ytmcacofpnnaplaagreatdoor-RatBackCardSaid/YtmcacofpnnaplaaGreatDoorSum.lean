/- The contract of sum. Conditions as premises: the two lists read, their limbs are below ten to the ninth, and they have at most 4096 limbs. -/
import Derived.Test.YtmcacofpnnaplaaGreatDoorPairs
import Derived.Test.YtmcacofpnnaplaaGreatDoorAddMath
import Derived.Test.YtmcacofpnnaplaaGreatDoorDivLimb
import Derived.Maps.OwnIn
namespace Go.Proofs.YtmcacofpnnaplaaGreatDoor
open Go.RowKit Go.Shelf
attribute [local go_sem] Oper.semAt_some

theorem pairs_make (A1 A2 : Option Addr) (n1 c1 n2 c2 : Nat) (w : World) :
    Calls Tryz.prog 169 #[.slice A1 n1 c1, .slice A2 n2 c2] w fun e w' => e = .returned (.func (.func 185) #[] #[.pointer (some ⟨w.heap.size, 0, none⟩), .pointer (some ⟨w.heap.size + 1, 0, none⟩)]) ∧ (w.alloc (.cells #[.slice A1 n1 c1] 23)).alloc (.cells #[.slice A2 n2 c2] 23) = w' := by
  have hmf : ∀ (fn : Fn) (first cap : Array Value) (w : World), (Instr.makeFunc fn first cap).run Tryz.prog w = .ok (.func fn first cap) w := fun _ _ _ _ => rfl
  go_enter Tryz.func169, Tryz.ntmps169
  go_wp2
  go_ret
  exact ⟨rfl, rfl⟩

theorem pairs_stops (n : Nat) (hn : 1 ≤ n) (B1 B2 n₀ len1 cap1 len2 cap2 : Nat) (A1 A2 : Option Addr) (f g : Nat → Nat) (hf : ∀ j, j < len1 → f j < LB) (hg : ∀ j, j < len2 → g j < LB) (hl1 : len1 ≤ 4096) (hl2 : len2 ≤ 4096)
    (w : World) (hB1 : Boxed w B1 23 (.slice A1 len1 cap1)) (hB2 : Boxed w B2 23 (.slice A2 len2 cap2)) (hn₀ : n₀ ≤ w.heap.size) (hr1 : Rs w n₀ A1 len1 cap1 f) (hr2 : Rs w n₀ A2 len2 cap2 g) :
    SeqStopsK Fence.wide n Tryz.prog 185 #[.pointer (some ⟨B1, 0, none⟩), .pointer (some ⟨B2, 0, none⟩)] (fun x : Limb2 => #[.int .u32 (iv x.1.1), .int .u32 (iv x.1.2)]) (KpB n₀ B1 B2)
      (fun ys => ys = upto (prs f g len1 len2 hf hg) (max len1 len2)) (fun pre => ∃ k, k ≤ max len1 len2 ∧ pre = upto (prs f g len1 len2 hf hg) k) (max len1 len2) w := fun l J Jx W hW _ _ hY h0 => by
  have hb1 : Boxed W B1 23 (.slice A1 len1 cap1) := (hW.block B1 hB1.lt).trans hB1
  have hb2 : Boxed W B2 23 (.slice A2 len2 cap2) := (hW.block B2 hB2.lt).trans hB2
  exact pairs1_in n hn l B1 B2 n₀ len1 cap1 len2 cap2 A1 A2 f g hf hg hl1 hl2 J Jx hY W hb1 hb2 (hr1.below (hW.mono hn₀)) (hr2.below (hW.mono hn₀)) h0

/-- first and second limbs of what has come -/
def fa (pre : List Limb2) (j : Nat) : Nat := (pre[j]?.map (·.1.1)).getD 0
def fb (pre : List Limb2) (j : Nat) : Nat := (pre[j]?.map (·.1.2)).getD 0
theorem fab_lt (pre : List Limb2) (j : Nat) : fa pre j < LB ∧ fb pre j < LB := by
  unfold fa fb
  cases pre[j]? with
  | none => exact ⟨LB_pos, LB_pos⟩
  | some x => exact x.2
theorem fab_old (pre : List Limb2) (x : Limb2) (j : Nat) (h : j < pre.length) : fa pre j = fa (pre ++ [x]) j ∧ fb pre j = fb (pre ++ [x]) j := by
  unfold fa fb; rw [List.getElem?_append_left h]; exact ⟨rfl, rfl⟩
theorem fab_new (pre : List Limb2) (x : Limb2) : fa (pre ++ [x]) pre.length = x.1.1 ∧ fb (pre ++ [x]) pre.length = x.1.2 := by
  unfold fa fb; simp
theorem fab_upto {f g : Nat → Nat} {n m : Nat} {hf : ∀ j, j < n → f j < LB} {hg : ∀ j, j < m → g j < LB} {k j : Nat} (h : j < k) : fa (upto (prs f g n m hf hg) k) j = pl f n j ∧ fb (upto (prs f g n m hf hg) k) j = pl g m j := by
  unfold fa fb; rw [upto_get _ _ _ h]; exact ⟨rfl, rfl⟩
theorem nv_pl (f : Nat → Nat) (n k : Nat) (h : n ≤ k) : nv (pl f n) k = nv f n := by
  rw [show nv f n = nv (pl f n) n from nv_congr n fun j hj => by unfold pl; rw [if_pos hj]]
  obtain ⟨d, rfl⟩ : ∃ d, k = n + d := ⟨k - n, by omega⟩
  clear h
  induction d with
  | zero => rfl
  | succ d ih => rw [← Nat.add_assoc, nv, ih]; unfold pl; rw [if_neg (by omega), Nat.zero_mul, Nat.add_zero]

/-- What a round has left so far: the box of the list, the box of the carry, the row of the list. -/
structure RS (s bo bc : Nat) (W W2 : World) (v u : Value) (k : Nat) (xs : List Value) : Prop where
  out : Boxed W2 bo 23 v
  car : Boxed W2 bc 48 u
  row : W2.ownsRow s 48 1 v k xs
  ne : v.ownBlock ≠ some bc
  ko : KeepsOthers W W2
  be : Below s W W2
  bx : ∀ B x, B ≠ bo → B ≠ bc → Boxed W B 23 x → Boxed W2 B 23 x
  sz : s ≤ W2.heap.size

theorem RS.start {s bo bc : Nat} {W : World} {v u : Value} {k : Nat} {xs : List Value} (h1 : Boxed W bo 23 v) (h2 : Boxed W bc 48 u) (h3 : W.ownsRow s 48 1 v k xs) (h4 : v.ownBlock ≠ some bc) (h5 : s ≤ W.heap.size) : RS s bo bc W W v u k xs :=
  ⟨h1, h2, h3, h4, KeepsOthers.refl _, Below.refl _ _, fun _ _ _ _ h => h, h5⟩

theorem RS.carry {s bo bc : Nat} {W W2 : World} {v u : Value} {k : Nat} {xs : List Value} (h : RS s bo bc W W2 v u k xs) (hob : bo ≠ bc) (hs : s ≤ bc) (u' : Value) : RS s bo bc W (W2.setCell ⟨bc, 0, none⟩ u') v u' k xs :=
  ⟨h.out.other hob _, h.car.set u', h.row.kept (grownBy_setCell' W2 bc u') (.inr h.ne), h.ne, h.ko.trans (KeepsOthers.setCell _ _ _), h.be.setCell (p := ⟨bc, 0, none⟩) hs _,
    fun B x h1 h2 h3 => (h.bx B x h1 h2 h3).other h2 _, by simpa [World.setCell] using h.sz⟩

theorem RS.append {s bo bc : Nat} {W W2 w1 : World} {v u v' : Value} {k m : Nat} {xs ys : List Value} {tmp : Obj} (h : RS s bo bc W W2 v u k xs) (hob : bo ≠ bc) (hs : s ≤ bo)
    (hown' : w1.ownsRow s 48 1 v' m ys) (hgrow : (W2.alloc tmp).grownBy w1 v.ownBlock) (hat : v'.ownBlock = v.ownBlock ∨ v'.ownBlock = some (W2.alloc tmp).heap.size) :
    Boxed w1 bo 23 v ∧ RS s bo bc W (w1.setCell ⟨bo, 0, none⟩ v') v' u m ys := by
  obtain ⟨q1, q2, q3, q4, q5⟩ := h.out.appended (by decide) h.row h.sz hs hown' hgrow
  refine ⟨q1, q2, ?_, q3, ?_, h.ko.trans q4, h.be.trans q5, fun B x h1 h2 h3 => ?_, Nat.le_trans h.sz q5.size⟩
  · exact ((h.car.alloc tmp).kept hgrow (fun e => h.ne e.symm)).other (fun e => hob e.symm) _
  · rcases hat with e | e
    · rw [e]; exact h.ne
    · rw [e]
      intro e2
      have := h.car.lt
      simp at e2
      omega
  · have hb := h.bx B x h1 h2 h3
    exact ((hb.alloc tmp).kept hgrow (hb.not_row (by decide) h.row)).other h1 _

theorem sum_next (pre : List Limb2) (x : Limb2) {c : Nat} (hc : cy (fa pre) (fb pre) pre.length = c) :
    us (sl (fa (pre ++ [x])) (fb (pre ++ [x]))) (pre.length + 1) = us (sl (fa pre) (fb pre)) pre.length ++ [.int .u32 (iv ((x.1.1 + x.1.2 + c) % LB))] ∧
    cy (fa (pre ++ [x])) (fb (pre ++ [x])) (pre.length + 1) = (x.1.1 + x.1.2 + c) / LB := by
  have h := fun j (hj : j < pre.length) => fab_old pre x j hj
  have hn := fab_new pre x
  have e : cy (fa (pre ++ [x])) (fb (pre ++ [x])) pre.length = c := by rw [← hc]; exact (cy_congr _ h).symm
  refine ⟨?_, ?_⟩
  · rw [us_succ]
    congr 1
    · exact us_congr fun j hj => (sl_congr h j hj).symm
    · unfold sl; rw [e, hn.1, hn.2]
  · rw [cy, e, hn.1, hn.2]

theorem sum_limb {a b c : Nat} (hc : c ≤ 1) (ha : a < LB) (hb : b < LB) :
    ((1000000000 ≤ iv a + iv b + iv c ∧ iv ((a + b + c) % LB) = iv a + iv b + iv c - 1000000000 ∧ iv ((a + b + c) / LB) = 1) ∨
     (¬ 1000000000 ≤ iv a + iv b + iv c ∧ iv ((a + b + c) % LB) = iv a + iv b + iv c ∧ iv ((a + b + c) / LB) = 0)) := by
  have e := LB_eq
  simp only [iv_eq]; rw [e] at ha hb; rw [e]; omega

theorem cell_new1 (W : World) (b : Nat) (hb : b = W.heap.size) (x : Value) (t : TypeId) : (W.alloc (.cells #[x] t)).cell? ⟨b, 0, none⟩ = some x := by
  subst hb; rw [World.cell?_alloc_at _ _ _ _ rfl]; rfl
/-- one limb behind a row of limbs, within a fence -/
theorem append_u32 {F : Fence} {nF : Nat} {w : World} {ops : Array Oper} {rest : List Oper} {o : Oper} {a : Act} {Q : Exit → Act → World → Prop} (hgd : o.guard = none) (s x : Operand)
    (ho : o.op = .call { callee := .builtin .append, args := #[s, x], argTypes := #[23, 23] }) (base : Nat) (v : Value) (k : Nat) (xs : List Value) (hs : a.eval s = v) (hown : w.ownsRow base 48 1 v k xs)
    (b : Nat) (y : Int) (hx : a.eval x = .slice (some ⟨b, 0, none⟩) 1 1) (hc : w.cell? ⟨b, 0, none⟩ = some (.int .u32 y)) (hk : k < 5000) (hbase : base ≤ w.heap.size)
    (h : ∀ v' w', w'.ownsRow base 48 1 v' (k + 1) (xs ++ [.int .u32 y]) → w.grownBy w' v.ownBlock → (v'.ownBlock = v.ownBlock ∨ v'.ownBlock = some w.heap.size) → wpListIn F nF Tryz.prog ops Q rest (a.put o.dst v') w') :
    wpListIn F nF Tryz.prog ops Q (o :: rest) a w := by
  obtain ⟨i0, hi, hz0, hz1, hz2⟩ := info_parts info32
  refine wpListIn_append_own_at _ hgd s x 23 ho base 48 i0 (.int .u32 0) 1 4 Tryz.underlying23 hi hz0 hz1 hz2 rfl (by decide) v k xs hs hown ⟨b, 0, none⟩ 1 1 [.int .u32 y] hx rfl ?_ ?_ ?_ ?_ hbase (fun v' w' h1 h2 _ h4 => h v' w' h1 h2 h4)
  · intro j u hj
    rcases j with _ | j
    · simp at hj; subst hj; exact hc
    · simp at hj
  · intro u hu; simp at hu; subst hu; rfl
  · unfold maxLen; omega
  · omega

theorem sum_upto (f g : Nat → Nat) (n m : Nat) (hf : ∀ j, j < n → f j < LB) (hg : ∀ j, j < m → g j < LB) :
    nv (sl (fa (upto (prs f g n m hf hg) (max n m))) (fb (upto (prs f g n m hf hg) (max n m)))) (max n m) + cy (fa (upto (prs f g n m hf hg) (max n m))) (fb (upto (prs f g n m hf hg) (max n m))) (max n m) * LB ^ (max n m) = nv f n + nv g m := by
  rw [sum_eq, nv_congr (g := pl f n) _ fun j hj => (fab_upto hj).1, nv_congr (f := fb _) (g := pl g m) _ fun j hj => (fab_upto hj).2, nv_pl f n _ (by omega), nv_pl g m _ (by omega)]

theorem Rs.putObj {W : World} {B n c D : Nat} {A : Option Addr} {f : Nat → Nat} {o : Obj} (h : Rs W B A n c f) (hD : W.heap[D]? = some o) (hc : o.isCells = false) (o' : Obj) : Rs (W.putObj D o') B A n c f :=
  ⟨h.cap, h.max, h.bd, fun hn => by
    obtain ⟨b, off, e, hb, hcell⟩ := h.cell hn
    exact ⟨b, off, e, hb, fun j hj => cell_kept (hcell j hj) (grownBy_putObj' W D o') (fun r e => by cases e; exact ⟨o, hD, hc⟩)⟩⟩

theorem Made.putObj {w W : World} {N D : Nat} {v : Value} {o : Obj} (h : Made w N v W) (hD : W.heap[D]? = some o) (hc : o.isCells = false) (hle : w.heap.size ≤ D) (o' : Obj) : Made w N v (W.putObj D o') := by
  obtain ⟨A, n, c, f, rfl, hr, hd, hb⟩ := h
  refine ⟨A, n, c, f, rfl, (hr.putObj hD hc o').more (by simp), hd, ?_⟩
  have hlt := (Array.getElem?_eq_some_iff.1 hD).1
  exact hb.grown (grownBy_putObj' W D o') (by omega) (fun j e => by cases e; exact hle)

theorem Trimd.made {w W : World} {n N : Nat} {f : Nat → Nat} {v : Value} (h : Trimd W W.heap.size n f v) (hb : ∀ j, j < n → f j < LB) (he : nv f n = N) (hB : Below w.heap.size w W) : Made w N v W := by
  obtain ⟨A, m, c, rfl, hr, ht⟩ := h
  exact ⟨A, m, c, f, rfl, hr, ht.dig hb he, hB⟩

/-- a row of limbs with one more behind it -/
theorem row_more {W : World} {base k y : Nat} {v : Value} {S : Nat → Nat} (h : W.ownsRow base 48 1 v (k + 1) (us S k ++ [.int .u32 (iv y)])) (hS : ∀ j, S j < LB) (hy : y < LB) :
    ∃ A c, v = .slice A (k + 1) c ∧ Rs W W.heap.size A (k + 1) c (fun j => if j < k then S j else y) := by
  have h2 : Own W base v (k + 1) (fun j => if j < k then S j else y) := Own.snoc (by
    rw [us_congr (g := S) fun j hj => if_pos hj]; exact h) (by simp)
  exact h2.rs (fun j _ => by rw [LB_eq] at hy; have := hS j; rw [LB_eq] at this; split <;> omega)

theorem row_keeps {W w1 : World} {base k D : Nat} {v : Value} {e : TypeId} {size : Nat} {xs : List Value} {o tmp : Obj} (hrow : W.ownsRow base e size v k xs) (hgrow : (W.alloc tmp).grownBy w1 v.ownBlock) (hD : W.heap[D]? = some o) (hc : o.isCells = false) : w1.heap[D]? = some o := by
  refine ((KeepsOthers.alloc W tmp).trans (KeepsOthers.of_grownBy hgrow fun j o ej hj => ?_)).same D o hD hc
  rcases (hrow.alloc tmp).2 with ⟨rfl, _⟩ | ⟨g, cap, cur, rfl, _, hgb, _⟩
  · simp [Value.ownBlock] at ej
  · obtain rfl : g = j := by simpa [Value.ownBlock] using ej
    rw [hgb] at hj; cases hj; rfl


set_option maxRecDepth 100000 in
set_option maxHeartbeats 4000000 in
theorem sum_in1 (A1 A2 : Option Addr) (len1 cap1 len2 cap2 : Nat) (f g : Nat → Nat) (w : World) (hr1 : Rs w w.heap.size A1 len1 cap1 f) (hr2 : Rs w w.heap.size A2 len2 cap2 g)
    (hf : ∀ j, j < len1 → f j < LB) (hg : ∀ j, j < len2 → g j < LB) (hl1 : len1 ≤ 4096) (hl2 : len2 ≤ 4096) (hq : len2 ≤ len1) :
    CallsIn Fence.wide 3 Tryz.prog 152 #[.slice A1 len1 cap1, .slice A2 len2 cap2] w fun e W' => ∃ v, e = .returned v ∧ Made w (nv f len1 + nv g len2) v W' := by
  have hmk : ∀ w : World, (Instr.makeSlice 23 (.int .i64 0) (.int .i64 ((len1 : Int) + 1))).run Tryz.prog w = .ok (.slice (some ⟨w.heap.size, 0, none⟩) 0 (len1 + 1)) (w.alloc (.cells (madeCells #[.int .u32 0] (len1 + 1)) 48)) := fun w => by
    obtain ⟨i0, hi, hz0, hz1, hz2⟩ := info_parts info32
    have h := run_make (P := Tryz.prog) w 23 48 i0 (.int .u32 0) Tryz.underlying23 hi hz0 .i64 .i64 0 ((len1 : Int) + 1) (by omega) (by omega) (by rw [hz2]; omega) (by omega)
    rw [hz1, show ((len1 : Int) + 1).toNat = len1 + 1 by omega, Nat.mul_one] at h
    exact h
  have hmax : max len1 len2 = len1 := by omega
  have HMAX := Lib.hid hmax
  have h1n : (1 : Nat) ≤ 3 := by omega
  obtain ⟨W0, hW0⟩ : ∃ W0, ((w.alloc (.cells (madeCells #[.int .u32 0] (len1 + 1)) 48)).alloc (.cells #[.slice (some ⟨w.heap.size, 0, none⟩) 0 (len1 + 1)] 23)).alloc (.cells #[.int .u32 0] 48) = W0 := ⟨_, rfl⟩
  have hs0 : w.heap.size + 3 ≤ W0.heap.size := by rw [← hW0]; simp
  have hB0 : Below w.heap.size w W0 := by rw [← hW0]; exact (((Below.refl _ w).alloc (Nat.le_refl _) _).alloc (by simp) _).alloc (by simp; omega) _
  have bO : Boxed W0 (w.heap.size + 1) 23 (.slice (some ⟨w.heap.size, 0, none⟩) 0 (len1 + 1)) := by
    rw [← hW0]
    have h := (Boxed.new (w.alloc (.cells (madeCells #[.int .u32 0] (len1 + 1)) 48)) 23 (.slice (some ⟨w.heap.size, 0, none⟩) 0 (len1 + 1))).alloc (.cells #[.int .u32 0] 48)
    rw [World.size_alloc w] at h
    exact h
  have bC : Boxed W0 (w.heap.size + 1 + 1) 48 (.int .u32 0) := by
    rw [← hW0]
    have h := Boxed.new ((w.alloc (.cells (madeCells #[.int .u32 0] (len1 + 1)) 48)).alloc (.cells #[.slice (some ⟨w.heap.size, 0, none⟩) 0 (len1 + 1)] 23)) 48 (.int .u32 0)
    rw [World.size_alloc, World.size_alloc] at h
    exact h
  have hrow0 : W0.ownsRow w.heap.size 48 1 (.slice (some ⟨w.heap.size, 0, none⟩) 0 (len1 + 1)) 0 [] := by
    rw [← hW0]
    exact ((World.ownsRow_made (base := w.heap.size) (e := 48) (size := 1) w (madeCells #[.int .u32 0] (len1 + 1)) (len1 + 1) (Nat.le_refl _) (by unfold maxLen; omega) (by rw [size_madeCells, Nat.mul_one])).alloc _).alloc _
  have HW0 := Lib.hid hW0
  clear hmax
  refine callsIn_of_wp_marks Tryz.func152 rfl trivial ?_ rfl
  simp only [Tryz.ntmps152, List.size_toArray, List.length_cons, List.length_nil, Nat.reduceAdd, Nat.reduceSub, Array.replicate_succ, Array.replicate_zero, List.push_toArray, List.append_toArray, List.nil_append, List.cons_append]
  clear hW0
  gi_wp2
  rw [HW0.out]
  refine ⟨trivial, ?_⟩
  refine (callsIn_wide.2 (pairs_make _ _ _ _ _ _ _)).mono ?_
  rintro e w' ⟨rfl, rfl⟩
  gi_wp2
  have bA := (Boxed.new W0 23 (.slice A1 len1 cap1)).alloc (.cells #[.slice A2 len2 cap2] 23)
  have bB := Boxed.new (W0.alloc (.cells #[.slice A1 len1 cap1] 23)) 23 (.slice A2 len2 cap2)
  rw [World.size_alloc] at bB
  have hB1 : Below w.heap.size w ((W0.alloc (.cells #[.slice A1 len1 cap1] 23)).alloc (.cells #[.slice A2 len2 cap2] 23)) := (hB0.alloc (by omega) _).alloc (by simp; omega) _
  refine wpIn_rangeFunc_ownG rfl h1n (gf := 185) (lb := #[.pointer (some ⟨W0.heap.size, 0, none⟩), .pointer (some ⟨W0.heap.size + 1, 0, none⟩)]) rfl trivial (enters_of Tryz.func185 (by kernel_rfl) rfl)
    (pairs_stops (3 - 1) (by omega) W0.heap.size (W0.heap.size + 1) w.heap.size len1 cap1 len2 cap2 A1 A2 f g hf hg hl1 hl2 _ bA bB (by simp; omega) (hr1.below hB1) (hr2.below hB1)) kpB_t (kpB_b (by simp; omega)) (Below.refl _ _) (fun _ => rfl)
    (fun pre W => ((∃ v, Boxed W (w.heap.size + 1) 23 v ∧ W.ownsRow w.heap.size 48 1 v pre.length (us (sl (fa pre) (fb pre)) pre.length) ∧ v.ownBlock ≠ some (w.heap.size + 1 + 1)) ∧ Boxed W (w.heap.size + 1 + 1) 48 (.int .u32 (iv (cy (fa pre) (fb pre) pre.length)))) ∧ Below w.heap.size w W)
    (fun _ _ _ => False)
    (OwnFrom.and (OwnFrom.and (Own.from (holdsRow_own w.heap.size (w.heap.size + 1) 23 48 1 (fun pre : List Limb2 => pre.length) (fun pre => us (sl (fa pre) (fb pre)) pre.length) (fun _ v => v.ownBlock ≠ some (w.heap.size + 1 + 1))) _) (Own.from (boxed_own (w.heap.size + 1 + 1) 48 (fun pre : List Limb2 => .int .u32 (iv (cy (fa pre) (fb pre) pre.length)))) _)) (ownFrom_below (Nat.le_refl _) (by simp; omega)))
    (fun _ _ _ _ _ hs _ _ => hs)
    ⟨⟨⟨_, (bO.alloc _).alloc _, (hrow0.alloc _).alloc _, by simp [Value.ownBlock]; omega⟩, by simp only [cy, iv_zero, List.length_nil]; exact (bC.alloc _).alloc _⟩, hB1⟩
    (fun x => { tmps := #[.slice A1 len1 cap1, .slice A2 len2 cap2, undef, undef, .slice none 0 0, .pointer (some ⟨w.heap.size + 1, 0, none⟩), .pointer (some ⟨w.heap.size + 1 + 1, 0, none⟩), .int .u32 (iv x.1.1), .int .u32 (iv x.1.2), undef, .slice A1 len1 cap1, .int .i64 len1, .slice A2 len2 cap2, .int .i64 len2, .int .i64 len1, .int .i64 ((len1 : Int) + 1), .slice (some ⟨w.heap.size, 0, none⟩) 0 (len1 + 1), .slice A1 len1 cap1, .slice A2 len2 cap2, .func (.func 185) #[] #[.pointer (some ⟨W0.heap.size, 0, none⟩), .pointer (some ⟨W0.heap.size + 1, 0, none⟩)], .int .u32 (iv x.1.1), .int .u32 (iv x.1.2), undef, undef, undef, undef, undef, undef, undef, undef, undef, undef, undef, undef, undef, undef, undef, undef, undef, undef], defers := [] }) ?assign ?body ?done ?stop
  case assign =>
    intro l x W K hK
    gi_wp2
    exact hK
  case body =>
    rintro l pre x W ⟨⟨⟨v, hv, hrow, hne⟩, hcar⟩, hB⟩ hlt
    have hl' : pre.length < len1 := by rw [← HMAX.out]; exact hlt
    have hcl : cy (fa pre) (fb pre) pre.length ≤ 1 := cy_le _ (fun j _ => fab_lt pre j)
    have hrs := RS.start hv hcar hrow hne (by have := hB.size; omega)
    have hrs1 := hrs.carry (by omega) (by omega) (.int .u32 0)
    have hrs2 := hrs1.carry (by omega) (by omega) (.int .u32 1)
    have hc1 := hv.cell
    have hcc := hcar.cell
    have hcf := hcar.frozen
    have hcc1 := hrs1.out.cell
    have hcf1 := hrs1.car.frozen
    have hcc2 := hrs2.out.cell
    clear hlt hcar hv hrow
    have hnx := fun c hgc => sum_next pre x (c := c) hgc
    generalize hgc : cy (fa pre) (fb pre) pre.length = c at *
    have HN := Lib.hid (hnx c rfl)
    clear hnx
    have hl := sum_limb hcl x.2.1 x.2.2
    have hx1 := iv_limb x.2.1
    have hx0 := iv_nonneg x.1.1
    have hy1 := iv_limb x.2.2
    have hy0 := iv_nonneg x.1.2
    have hc0 := iv_nonneg c
    have hc2 : iv c ≤ 1 := by rw [iv_eq]; omega
    clear hgc hcl
    rcases hl with ⟨hlim, he1, he2⟩ | ⟨hlim, he1, he2⟩
    · have HN := Lib.hid (And.intro (he1 ▸ HN.out.1) (HN.out.2.symm ▸ he2))
      clear he1 he2
      generalize iv x.1.1 = X at *
      generalize iv x.1.2 = Y at *
      generalize iv c = C at *
      gi_wp2_with (gi_at_builtin; refine append_u32 rfl (.tmp 31) (.tmp 33) rfl w.heap.size _ _ _ rfl (hrs2.row.alloc _) W.heap.size (X + Y + C - 1000000000) rfl (cell_new1 _ _ (by simp [World.setCell]) _ _) (by omega) (by have := hrs2.sz; simp only [World.size_alloc]; omega) ?_; intro v' w1 hown' hgrow hat; obtain ⟨gg, cp, rfl⟩ := ownsRow_succ hown'; obtain ⟨hb1, hr3⟩ := hrs2.append (by omega) (by omega) hown' hgrow hat; have hb1c := hb1.cell; have hb1f := hb1.frozen; clear hgrow hat hown')
      gi_wp2
      refine ⟨hr3.ko.from _, ⟨hr3.be, fun y => hr3.bx _ y (by omega) (by omega), fun y => hr3.bx _ y (by omega) (by omega)⟩, ⟨⟨_, hr3.out, ?_, hr3.ne⟩, ?_⟩, hB.trans hr3.be⟩
      · rw [show (pre ++ [x]).length = pre.length + 1 by simp, HN.out.1]; exact hr3.row
      · rw [show (pre ++ [x]).length = pre.length + 1 by simp, HN.out.2]; exact hr3.car
    · have HN := Lib.hid (And.intro (he1 ▸ HN.out.1) (HN.out.2.symm ▸ he2))
      clear he1 he2
      generalize iv x.1.1 = X at *
      generalize iv x.1.2 = Y at *
      generalize iv c = C at *
      gi_wp2_with (gi_at_builtin; refine append_u32 rfl (.tmp 31) (.tmp 33) rfl w.heap.size _ _ _ rfl (hrs1.row.alloc _) W.heap.size (X + Y + C) rfl (cell_new1 _ _ (by simp [World.setCell]) _ _) (by omega) (by have := hrs1.sz; simp only [World.size_alloc]; omega) ?_; intro v' w1 hown' hgrow hat; obtain ⟨gg, cp, rfl⟩ := ownsRow_succ hown'; obtain ⟨hb1, hr3⟩ := hrs1.append (by omega) (by omega) hown' hgrow hat; have hb1c := hb1.cell; have hb1f := hb1.frozen; clear hgrow hat hown')
      gi_wp2
      refine ⟨hr3.ko.from _, ⟨hr3.be, fun y => hr3.bx _ y (by omega) (by omega), fun y => hr3.bx _ y (by omega) (by omega)⟩, ⟨⟨_, hr3.out, ?_, hr3.ne⟩, ?_⟩, hB.trans hr3.be⟩
      · rw [show (pre ++ [x]).length = pre.length + 1 by simp, HN.out.1]; exact hr3.row
      · rw [show (pre ++ [x]).length = pre.length + 1 by simp, HN.out.2]; exact hr3.car
  case done =>
    rintro D ys W hD rfl ⟨⟨⟨v, hv, hrow, hne⟩, hcar⟩, hB⟩ hK
    have hnum := sum_upto f g len1 len2 hf hg
    rw [upto_length] at hrow hcar
    rw [HMAX.out] at hrow hcar hnum
    have hsl : ∀ j, sl (fa (upto (prs f g len1 len2 hf hg) len1)) (fb (upto (prs f g len1 len2 hf hg) len1)) j < LB := fun j => sl_lt _ _ j
    have hcl : cy (fa (upto (prs f g len1 len2 hf hg) len1)) (fb (upto (prs f g len1 len2 hf hg) len1)) len1 < LB := Nat.lt_of_le_of_lt (cy_le _ (fun j _ => fab_lt _ j)) (by rw [LB_eq]; omega)
    generalize sl (fa (upto (prs f g len1 len2 hf hg) len1)) (fb (upto (prs f g len1 len2 hf hg) len1)) = S at *
    generalize cy (fa (upto (prs f g len1 len2 hf hg) len1)) (fb (upto (prs f g len1 len2 hf hg) len1)) len1 = c at *
    have HNUM := Lib.hid hnum
    have HSL := Lib.hid hsl
    have HCL := Lib.hid hcl
    clear hnum hsl hcl
    have hc := hv.cell
    have hcc := hcar.cell
    have hsz := hB.size
    gi_wp2_with (gi_at_builtin; refine append_u32 rfl (.tmp 35) (.tmp 37) rfl w.heap.size _ _ _ rfl (hrow.alloc _) W.heap.size (iv c) rfl (cell_new1 _ _ rfl _ _) (by omega) (by simp only [World.size_alloc]; omega) ?_; intro v' w1 hown' hgrow hat; clear hat; have hK1 := row_keeps hrow hgrow hK rfl; have hB1 := snoc_below (f := S) hrow hB (Nat.le_refl _) hsz hgrow; obtain ⟨A9, c9, rfl, hr9⟩ := row_more hown' HSL.out HCL.out; clear hown' hgrow)
    refine ⟨trivial, ?_⟩
    refine (callsIn_wide.2 (trim_any _ _ _ _ _ _ hr9)).mono ?_
    rintro e w' ⟨⟨v, rfl, ht⟩, rfl⟩
    have hm := ht.made (N := nv f len1 + nv g len2) (fun j _ => by have := HSL.out j; have := HCL.out; split <;> assumption) (by rw [nv, nv_congr (g := S) len1 fun j hj => if_pos hj, if_neg (by omega), HNUM.out]) hB1
    have HM := Lib.hid (hm.putObj hK1 rfl (by simp at hD; omega) (.deferred none))
    clear ht hr9 hm
    gi_wp2
    refine ⟨by simp, .inl ⟨_, _, rfl, run_takeDeferred hK1, ?_⟩⟩
    exact ⟨_, results_tmp rfl _ _ _, v, rfl, HM.out⟩
  case stop =>
    rintro D c pre W _ _ h _
    exact h.elim

set_option maxRecDepth 100000 in
set_option maxHeartbeats 4000000 in
theorem sum_in2 (A1 A2 : Option Addr) (len1 cap1 len2 cap2 : Nat) (f g : Nat → Nat) (w : World) (hr1 : Rs w w.heap.size A1 len1 cap1 f) (hr2 : Rs w w.heap.size A2 len2 cap2 g)
    (hf : ∀ j, j < len1 → f j < LB) (hg : ∀ j, j < len2 → g j < LB) (hl1 : len1 ≤ 4096) (hl2 : len2 ≤ 4096) (hq : len1 < len2) :
    CallsIn Fence.wide 3 Tryz.prog 152 #[.slice A1 len1 cap1, .slice A2 len2 cap2] w fun e W' => ∃ v, e = .returned v ∧ Made w (nv f len1 + nv g len2) v W' := by
  have hmk : ∀ w : World, (Instr.makeSlice 23 (.int .i64 0) (.int .i64 ((len2 : Int) + 1))).run Tryz.prog w = .ok (.slice (some ⟨w.heap.size, 0, none⟩) 0 (len2 + 1)) (w.alloc (.cells (madeCells #[.int .u32 0] (len2 + 1)) 48)) := fun w => by
    obtain ⟨i0, hi, hz0, hz1, hz2⟩ := info_parts info32
    have h := run_make (P := Tryz.prog) w 23 48 i0 (.int .u32 0) Tryz.underlying23 hi hz0 .i64 .i64 0 ((len2 : Int) + 1) (by omega) (by omega) (by rw [hz2]; omega) (by omega)
    rw [hz1, show ((len2 : Int) + 1).toNat = len2 + 1 by omega, Nat.mul_one] at h
    exact h
  have hmax : max len1 len2 = len2 := by omega
  have HMAX := Lib.hid hmax
  have h1n : (1 : Nat) ≤ 3 := by omega
  obtain ⟨W0, hW0⟩ : ∃ W0, ((w.alloc (.cells (madeCells #[.int .u32 0] (len2 + 1)) 48)).alloc (.cells #[.slice (some ⟨w.heap.size, 0, none⟩) 0 (len2 + 1)] 23)).alloc (.cells #[.int .u32 0] 48) = W0 := ⟨_, rfl⟩
  have hs0 : w.heap.size + 3 ≤ W0.heap.size := by rw [← hW0]; simp
  have hB0 : Below w.heap.size w W0 := by rw [← hW0]; exact (((Below.refl _ w).alloc (Nat.le_refl _) _).alloc (by simp) _).alloc (by simp; omega) _
  have bO : Boxed W0 (w.heap.size + 1) 23 (.slice (some ⟨w.heap.size, 0, none⟩) 0 (len2 + 1)) := by
    rw [← hW0]
    have h := (Boxed.new (w.alloc (.cells (madeCells #[.int .u32 0] (len2 + 1)) 48)) 23 (.slice (some ⟨w.heap.size, 0, none⟩) 0 (len2 + 1))).alloc (.cells #[.int .u32 0] 48)
    rw [World.size_alloc w] at h
    exact h
  have bC : Boxed W0 (w.heap.size + 1 + 1) 48 (.int .u32 0) := by
    rw [← hW0]
    have h := Boxed.new ((w.alloc (.cells (madeCells #[.int .u32 0] (len2 + 1)) 48)).alloc (.cells #[.slice (some ⟨w.heap.size, 0, none⟩) 0 (len2 + 1)] 23)) 48 (.int .u32 0)
    rw [World.size_alloc, World.size_alloc] at h
    exact h
  have hrow0 : W0.ownsRow w.heap.size 48 1 (.slice (some ⟨w.heap.size, 0, none⟩) 0 (len2 + 1)) 0 [] := by
    rw [← hW0]
    exact ((World.ownsRow_made (base := w.heap.size) (e := 48) (size := 1) w (madeCells #[.int .u32 0] (len2 + 1)) (len2 + 1) (Nat.le_refl _) (by unfold maxLen; omega) (by rw [size_madeCells, Nat.mul_one])).alloc _).alloc _
  have HW0 := Lib.hid hW0
  clear hmax
  refine callsIn_of_wp_marks Tryz.func152 rfl trivial ?_ rfl
  simp only [Tryz.ntmps152, List.size_toArray, List.length_cons, List.length_nil, Nat.reduceAdd, Nat.reduceSub, Array.replicate_succ, Array.replicate_zero, List.push_toArray, List.append_toArray, List.nil_append, List.cons_append]
  clear hW0
  gi_wp2
  rw [HW0.out]
  refine ⟨trivial, ?_⟩
  refine (callsIn_wide.2 (pairs_make _ _ _ _ _ _ _)).mono ?_
  rintro e w' ⟨rfl, rfl⟩
  gi_wp2
  have bA := (Boxed.new W0 23 (.slice A1 len1 cap1)).alloc (.cells #[.slice A2 len2 cap2] 23)
  have bB := Boxed.new (W0.alloc (.cells #[.slice A1 len1 cap1] 23)) 23 (.slice A2 len2 cap2)
  rw [World.size_alloc] at bB
  have hB1 : Below w.heap.size w ((W0.alloc (.cells #[.slice A1 len1 cap1] 23)).alloc (.cells #[.slice A2 len2 cap2] 23)) := (hB0.alloc (by omega) _).alloc (by simp; omega) _
  refine wpIn_rangeFunc_ownG rfl h1n (gf := 185) (lb := #[.pointer (some ⟨W0.heap.size, 0, none⟩), .pointer (some ⟨W0.heap.size + 1, 0, none⟩)]) rfl trivial (enters_of Tryz.func185 (by kernel_rfl) rfl)
    (pairs_stops (3 - 1) (by omega) W0.heap.size (W0.heap.size + 1) w.heap.size len1 cap1 len2 cap2 A1 A2 f g hf hg hl1 hl2 _ bA bB (by simp; omega) (hr1.below hB1) (hr2.below hB1)) kpB_t (kpB_b (by simp; omega)) (Below.refl _ _) (fun _ => rfl)
    (fun pre W => ((∃ v, Boxed W (w.heap.size + 1) 23 v ∧ W.ownsRow w.heap.size 48 1 v pre.length (us (sl (fa pre) (fb pre)) pre.length) ∧ v.ownBlock ≠ some (w.heap.size + 1 + 1)) ∧ Boxed W (w.heap.size + 1 + 1) 48 (.int .u32 (iv (cy (fa pre) (fb pre) pre.length)))) ∧ Below w.heap.size w W)
    (fun _ _ _ => False)
    (OwnFrom.and (OwnFrom.and (Own.from (holdsRow_own w.heap.size (w.heap.size + 1) 23 48 1 (fun pre : List Limb2 => pre.length) (fun pre => us (sl (fa pre) (fb pre)) pre.length) (fun _ v => v.ownBlock ≠ some (w.heap.size + 1 + 1))) _) (Own.from (boxed_own (w.heap.size + 1 + 1) 48 (fun pre : List Limb2 => .int .u32 (iv (cy (fa pre) (fb pre) pre.length)))) _)) (ownFrom_below (Nat.le_refl _) (by simp; omega)))
    (fun _ _ _ _ _ hs _ _ => hs)
    ⟨⟨⟨_, (bO.alloc _).alloc _, (hrow0.alloc _).alloc _, by simp [Value.ownBlock]; omega⟩, by simp only [cy, iv_zero, List.length_nil]; exact (bC.alloc _).alloc _⟩, hB1⟩
    (fun x => { tmps := #[.slice A1 len1 cap1, .slice A2 len2 cap2, undef, undef, .slice none 0 0, .pointer (some ⟨w.heap.size + 1, 0, none⟩), .pointer (some ⟨w.heap.size + 1 + 1, 0, none⟩), .int .u32 (iv x.1.1), .int .u32 (iv x.1.2), undef, .slice A1 len1 cap1, .int .i64 len1, .slice A2 len2 cap2, .int .i64 len2, .int .i64 len2, .int .i64 ((len2 : Int) + 1), .slice (some ⟨w.heap.size, 0, none⟩) 0 (len2 + 1), .slice A1 len1 cap1, .slice A2 len2 cap2, .func (.func 185) #[] #[.pointer (some ⟨W0.heap.size, 0, none⟩), .pointer (some ⟨W0.heap.size + 1, 0, none⟩)], .int .u32 (iv x.1.1), .int .u32 (iv x.1.2), undef, undef, undef, undef, undef, undef, undef, undef, undef, undef, undef, undef, undef, undef, undef, undef, undef, undef], defers := [] }) ?assign ?body ?done ?stop
  case assign =>
    intro l x W K hK
    gi_wp2
    exact hK
  case body =>
    rintro l pre x W ⟨⟨⟨v, hv, hrow, hne⟩, hcar⟩, hB⟩ hlt
    have hl' : pre.length < len2 := by rw [← HMAX.out]; exact hlt
    have hcl : cy (fa pre) (fb pre) pre.length ≤ 1 := cy_le _ (fun j _ => fab_lt pre j)
    have hrs := RS.start hv hcar hrow hne (by have := hB.size; omega)
    have hrs1 := hrs.carry (by omega) (by omega) (.int .u32 0)
    have hrs2 := hrs1.carry (by omega) (by omega) (.int .u32 1)
    have hc1 := hv.cell
    have hcc := hcar.cell
    have hcf := hcar.frozen
    have hcc1 := hrs1.out.cell
    have hcf1 := hrs1.car.frozen
    have hcc2 := hrs2.out.cell
    clear hlt hcar hv hrow
    have hnx := fun c hgc => sum_next pre x (c := c) hgc
    generalize hgc : cy (fa pre) (fb pre) pre.length = c at *
    have HN := Lib.hid (hnx c rfl)
    clear hnx
    have hl := sum_limb hcl x.2.1 x.2.2
    have hx1 := iv_limb x.2.1
    have hx0 := iv_nonneg x.1.1
    have hy1 := iv_limb x.2.2
    have hy0 := iv_nonneg x.1.2
    have hc0 := iv_nonneg c
    have hc2 : iv c ≤ 1 := by rw [iv_eq]; omega
    clear hgc hcl
    rcases hl with ⟨hlim, he1, he2⟩ | ⟨hlim, he1, he2⟩
    · have HN := Lib.hid (And.intro (he1 ▸ HN.out.1) (HN.out.2.symm ▸ he2))
      clear he1 he2
      generalize iv x.1.1 = X at *
      generalize iv x.1.2 = Y at *
      generalize iv c = C at *
      gi_wp2_with (gi_at_builtin; refine append_u32 rfl (.tmp 31) (.tmp 33) rfl w.heap.size _ _ _ rfl (hrs2.row.alloc _) W.heap.size (X + Y + C - 1000000000) rfl (cell_new1 _ _ (by simp [World.setCell]) _ _) (by omega) (by have := hrs2.sz; simp only [World.size_alloc]; omega) ?_; intro v' w1 hown' hgrow hat; obtain ⟨gg, cp, rfl⟩ := ownsRow_succ hown'; obtain ⟨hb1, hr3⟩ := hrs2.append (by omega) (by omega) hown' hgrow hat; have hb1c := hb1.cell; have hb1f := hb1.frozen; clear hgrow hat hown')
      gi_wp2
      refine ⟨hr3.ko.from _, ⟨hr3.be, fun y => hr3.bx _ y (by omega) (by omega), fun y => hr3.bx _ y (by omega) (by omega)⟩, ⟨⟨_, hr3.out, ?_, hr3.ne⟩, ?_⟩, hB.trans hr3.be⟩
      · rw [show (pre ++ [x]).length = pre.length + 1 by simp, HN.out.1]; exact hr3.row
      · rw [show (pre ++ [x]).length = pre.length + 1 by simp, HN.out.2]; exact hr3.car
    · have HN := Lib.hid (And.intro (he1 ▸ HN.out.1) (HN.out.2.symm ▸ he2))
      clear he1 he2
      generalize iv x.1.1 = X at *
      generalize iv x.1.2 = Y at *
      generalize iv c = C at *
      gi_wp2_with (gi_at_builtin; refine append_u32 rfl (.tmp 31) (.tmp 33) rfl w.heap.size _ _ _ rfl (hrs1.row.alloc _) W.heap.size (X + Y + C) rfl (cell_new1 _ _ (by simp [World.setCell]) _ _) (by omega) (by have := hrs1.sz; simp only [World.size_alloc]; omega) ?_; intro v' w1 hown' hgrow hat; obtain ⟨gg, cp, rfl⟩ := ownsRow_succ hown'; obtain ⟨hb1, hr3⟩ := hrs1.append (by omega) (by omega) hown' hgrow hat; have hb1c := hb1.cell; have hb1f := hb1.frozen; clear hgrow hat hown')
      gi_wp2
      refine ⟨hr3.ko.from _, ⟨hr3.be, fun y => hr3.bx _ y (by omega) (by omega), fun y => hr3.bx _ y (by omega) (by omega)⟩, ⟨⟨_, hr3.out, ?_, hr3.ne⟩, ?_⟩, hB.trans hr3.be⟩
      · rw [show (pre ++ [x]).length = pre.length + 1 by simp, HN.out.1]; exact hr3.row
      · rw [show (pre ++ [x]).length = pre.length + 1 by simp, HN.out.2]; exact hr3.car
  case done =>
    rintro D ys W hD rfl ⟨⟨⟨v, hv, hrow, hne⟩, hcar⟩, hB⟩ hK
    have hnum := sum_upto f g len1 len2 hf hg
    rw [upto_length] at hrow hcar
    rw [HMAX.out] at hrow hcar hnum
    have hsl : ∀ j, sl (fa (upto (prs f g len1 len2 hf hg) len2)) (fb (upto (prs f g len1 len2 hf hg) len2)) j < LB := fun j => sl_lt _ _ j
    have hcl : cy (fa (upto (prs f g len1 len2 hf hg) len2)) (fb (upto (prs f g len1 len2 hf hg) len2)) len2 < LB := Nat.lt_of_le_of_lt (cy_le _ (fun j _ => fab_lt _ j)) (by rw [LB_eq]; omega)
    generalize sl (fa (upto (prs f g len1 len2 hf hg) len2)) (fb (upto (prs f g len1 len2 hf hg) len2)) = S at *
    generalize cy (fa (upto (prs f g len1 len2 hf hg) len2)) (fb (upto (prs f g len1 len2 hf hg) len2)) len2 = c at *
    have HNUM := Lib.hid hnum
    have HSL := Lib.hid hsl
    have HCL := Lib.hid hcl
    clear hnum hsl hcl
    have hc := hv.cell
    have hcc := hcar.cell
    have hsz := hB.size
    gi_wp2_with (gi_at_builtin; refine append_u32 rfl (.tmp 35) (.tmp 37) rfl w.heap.size _ _ _ rfl (hrow.alloc _) W.heap.size (iv c) rfl (cell_new1 _ _ rfl _ _) (by omega) (by simp only [World.size_alloc]; omega) ?_; intro v' w1 hown' hgrow hat; clear hat; have hK1 := row_keeps hrow hgrow hK rfl; have hB1 := snoc_below (f := S) hrow hB (Nat.le_refl _) hsz hgrow; obtain ⟨A9, c9, rfl, hr9⟩ := row_more hown' HSL.out HCL.out; clear hown' hgrow)
    refine ⟨trivial, ?_⟩
    refine (callsIn_wide.2 (trim_any _ _ _ _ _ _ hr9)).mono ?_
    rintro e w' ⟨⟨v, rfl, ht⟩, rfl⟩
    have hm := ht.made (N := nv f len1 + nv g len2) (fun j _ => by have := HSL.out j; have := HCL.out; split <;> assumption) (by rw [nv, nv_congr (g := S) len2 fun j hj => if_pos hj, if_neg (by omega), HNUM.out]) hB1
    have HM := Lib.hid (hm.putObj hK1 rfl (by simp at hD; omega) (.deferred none))
    clear ht hr9 hm
    gi_wp2
    refine ⟨by simp, .inl ⟨_, _, rfl, run_takeDeferred hK1, ?_⟩⟩
    exact ⟨_, results_tmp rfl _ _ _, v, rfl, HM.out⟩
  case stop =>
    rintro D c pre W _ _ h _
    exact h.elim

end Go.Proofs.YtmcacofpnnaplaaGreatDoor

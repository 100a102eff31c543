/- The contracts of the functions under the laws of package rat: Draws, LeastMath, LeastWalk, DrawFrame, joined into one file. -/
import Derived.Test.YtmcacofpnnaplaaGreatDoorRatFour
import Derived.Test.YtmcacofpnnaplaaGreatDoorRatOne
import Derived.Deep.QuietTactic
import Derived.BigQuiet
import Derived.IntWalk
import Derived.Test.YtmcacofpnnaplaaGreatDoorRatThree
import Derived.Deep.RegionHeld3
import Derived.Deep.DrawnRows
import Derived.Deep.DeepCutAuto
import Derived.Test.YtmcacofpnnaplaaGreatDoorRatGround
/- The contracts of the kit's Draws.Next and Rational. Conditions as premises: the ints read. -/
namespace Go.Proofs.YtmcacofpnnaplaaGreatDoor
open Go.RowKit Go.Shelf

/-- a slice of ints reads as f and lies below block B -/
structure Ri (w : World) (B : Nat) (A : Option Addr) (n c : Nat) (f : Nat → Int) : Prop where
  cap : n ≤ c
  max : c ≤ 9223372036854775807
  bd : ∀ j, j < n → -9223372036854775808 ≤ f j ∧ f j ≤ 9223372036854775807
  cell : 0 < n → ∃ b off, A = some ⟨b, off, none⟩ ∧ b < B ∧ ∀ j, j < n → w.cell? ⟨b, off + j, none⟩ = some (.int .i64 (f j))
theorem Ri.keep {w w' : World} {B : Nat} {A : Option Addr} {n c : Nat} {f : Nat → Int} (h : Ri w B A n c f) (hk : ∀ p : Addr, p.block < B → w'.cell? p = w.cell? p) : Ri w' B A n c f :=
  ⟨h.cap, h.max, h.bd, fun hn => by
    obtain ⟨b, off, e, hb, hc⟩ := h.cell hn
    exact ⟨b, off, e, hb, fun j hj => (hk _ hb).trans (hc j hj)⟩⟩
theorem Ri.below {w w' : World} {B : Nat} {A : Option Addr} {n c : Nat} {f : Nat → Int} (h : Ri w B A n c f) (hb : Below B w w') : Ri w' B A n c f := h.keep fun _ hp => hb.cell hp

/-- what is kept while the draws at block g go on -/
structure Fg (g : Nat) (w w' : World) : Prop where
  nr : ∀ {N : Nat} {v : Value}, Nr w N v → Nr w' N v
  bk : ∀ {h : Nat} {t : TypeId} {cs : Array Value}, h ≠ g → Blk w h t cs → Blk w' h t cs
  bl : ∀ {B : Nat} {w0 : World}, B ≤ g → B ≤ w.heap.size → Below B w0 w → Below B w0 w'
  sz : w.heap.size ≤ w'.heap.size
theorem Fg.refl (g : Nat) (w : World) : Fg g w w := ⟨id, fun _ h => h, fun _ _ h => h, Nat.le_refl _⟩
theorem Fg.trans {g : Nat} {a b c : World} (h : Fg g a b) (k : Fg g b c) : Fg g a c :=
  ⟨fun x => k.nr (h.nr x), fun n x => k.bk n (h.bk n x), fun h1 h2 x => k.bl h1 (Nat.le_trans h2 h.sz) (h.bl h1 h2 x), Nat.le_trans h.sz k.sz⟩
theorem Fg.of_below {g : Nat} {w w' : World} (h : Below w.heap.size w w') : Fg g w w' :=
  ⟨fun x => x.below h, fun _ x => x.after h, fun _ h2 x => x.trans (h.mono h2), h.size⟩
theorem Fg.of_set {w : World} {g i : Nat} {t : TypeId} {cs : Array Value} {v : Value} (k : Blk w g t cs) (hno : cs.all notU32 = true) : Fg g w (w.setCell ⟨g, i, none⟩ v) :=
  ⟨fun h => h.put k hno, fun hne h => h.other hne, fun h1 _ h => h.setCell h1 _, by simp⟩
theorem Fg.drewN (g : Nat) (w : World) (d : Nat) : Fg g w (w.drewN d) := Fg.of_below (Qt.n1 w d).below
theorem Fg.rq {g : Nat} {w w' : World} {q : Rat} {v : Value} (h : Fg g w w') (k : Rq w q v) : Rq w' q v := by
  obtain ⟨A, n, c, A', n', c', e, h1, h2⟩ := k
  exact ⟨A, n, c, A', n', c', e, h.nr h1, h.nr h2⟩

/-- the draws at block g: their list lies below block B -/
def Dr (w : World) (B g : Nat) : Prop := ∃ A l c f, ∃ k : Nat, Blk w g 62 #[.slice A l c, .int .i64 (k : Int)] ∧ Ri w B A l c f ∧ k ≤ l
theorem Dr.lt {w : World} {B g : Nat} (h : Dr w B g) : g < w.heap.size := by
  obtain ⟨A, l, c, f, k, hk, _⟩ := h; exact hk.lt
theorem Dr.after {w w' : World} {B g : Nat} (h : Dr w B g) (hg : B ≤ g) (hb : Below w.heap.size w w') : Dr w' B g := by
  have hl := h.lt
  obtain ⟨A, l, c, f, k, hk, hr, hle⟩ := h
  exact ⟨A, l, c, f, k, hk.after hb, hr.below (hb.mono (by omega)), hle⟩
theorem Dr.far {w : World} {B g h i : Nat} {v : Value} (hd : Dr w B g) (hg : g ≠ h) (hB : B ≤ h) : Dr (w.setCell ⟨h, i, none⟩ v) B g := by
  obtain ⟨A, l, c, f, k, hk, hr, hle⟩ := hd
  exact ⟨A, l, c, f, k, hk.other hg, hr.below ((Below.refl _ _).setCell hB _), hle⟩
theorem hnoD (A : Option Addr) (n c : Nat) (x : Int) : (#[.slice A n c, .int .i64 x] : Array Value).all notU32 = true := by simp [notU32]

set_option maxRecDepth 100000 in
set_option maxHeartbeats 4000000 in
theorem nextN {w : World} {B g : Nat} (h : Dr w B g) (hg : B ≤ g) (n : Int) (h1 : 1 ≤ n) (h2 : n ≤ 1000000) :
    Calls Tryz.prog 55 #[.pointer (some ⟨g, 0, none⟩), .int .i64 n] w fun e w' => ∃ x, e = .returned (.int .i64 x) ∧ 0 ≤ x ∧ x < n ∧ Dr w' B g ∧ Fg g w w' := by
  obtain ⟨A, l, c, f, k, hk, hr, hle⟩ := h
  have c0 := hk.cell (i := 0) rfl
  have c1 := hk.cell (i := 1) rfl
  have hlt := hk.lt
  have ff := hk.free
  have HK := Lib.hid hk
  have HR := Lib.hid hr
  have hcap := hr.cap
  have hmx := hr.max
  by_cases he : k = l
  · subst he
    clear hk hr hle
    go_enter Tryz.func55, Tryz.ntmps55
    go_wp2_with fail
    go_quiet (fail)
    go_wp2_with fail
    go_ret
    exact ⟨0, rfl, by omega, by omega, ⟨A, k, c, f, k, HK.out, HR.out.keep fun _ _ => rfl, Nat.le_refl _⟩, Fg.drewN _ _ _⟩
  · have hkl : k < l := by omega
    obtain ⟨bb, off, rfl, hbb, hc⟩ := hr.cell (by omega)
    have hck := hc k hkl
    have hbd := hr.bd k hkl
    have hne : bb ≠ g := by omega
    have hne' : g ≠ bb := by omega
    have CK : Hid (∀ d, (w.drewN d).cell? ⟨bb, off + k, none⟩ = some (.int .i64 (f k))) := Lib.hid fun _ => hck
    have KL := Lib.hid hkl
    have HG := Lib.hid hg
    generalize f k = x at *
    clear hk hr hle hc hck he hg hbb
    go_enter Tryz.func55, Tryz.ntmps55
    go_wp2_with fail
    go_quiet (fail)
    go_upto_region 4 with fail
    have hk1 : Blk (w.drewN nq) g 62 #[.slice (some ⟨bb, off, none⟩) l c, .int .i64 (k : Int)] := HK.out
    have hk2 : Blk ((w.drewN nq).setCell ⟨g, 1, none⟩ (.int .i64 ((k : Int) + 1))) g 62 #[.slice (some ⟨bb, off, none⟩) l c, .int .i64 ((k : Int) + 1)] := hk1.set
    have ck : ((w.drewN nq).setCell ⟨g, 1, none⟩ (.int .i64 ((k : Int) + 1))).cell? ⟨bb, off + k, none⟩ = some (.int .i64 x) := (cell_far (w.drewN nq) _ hne).trans (CK.out nq)
    have fg := (Fg.drewN g w nq).trans (Fg.of_set (i := 1) (v := .int .i64 ((k : Int) + 1)) hk1 (hnoD _ _ _ _))
    have hri : Ri ((w.drewN nq).setCell ⟨g, 1, none⟩ (.int .i64 ((k : Int) + 1))) B (some ⟨bb, off, none⟩) l c f := (HR.out.keep (w' := w.drewN nq) fun _ _ => rfl).below ((Below.refl _ _).setCell HG.out _)
    have FG := Lib.hid fg
    have HRI := Lib.hid hri
    have HK2 := Lib.hid hk2
    have e0 := hk2.cell (i := 0) rfl
    have e1 := hk2.cell (i := 1) rfl
    have hlt2 := hk2.lt
    clear hk1 hk2 fg hri c0 c1 ff hlt hne hne'
    generalize (w.drewN nq).setCell ⟨g, 1, none⟩ (.int .i64 ((k : Int) + 1)) = w2 at *
    have s1 : IntKind.i64.wrap ((k : Int) + 1 - 1) = (k : Int) := by rw [Int.add_sub_cancel]; exact IntWalk.i64_in _ (by omega)
    have i0 : (0 : Int) ≤ (k : Int) := by omega
    have i1 : (k : Int) < (l : Int) := by omega
    have CM : Hid (∀ W, Calls Tryz.prog 49 #[.int .i64 x, .int .i64 n] W fun e w' => e = .returned (.int .i64 (x % n)) ∧ w' = W) := Lib.hid fun W => (modN x n (by omega) h2 W).mono fun _ _ ⟨u1, u2⟩ => ⟨u1, u2.symm⟩
    go_quiet ((go_at_call 49; exact Calls.quiet_of_same (CM.out _)))
    clear s1 i0 i1
    go_wp2_with fail
    go_ret
    exact ⟨x % n, rfl, Int.emod_nonneg _ (by omega), Int.emod_lt_of_pos _ (by omega), ⟨_, l, c, f, k + 1, HK2.out, HRI.out.keep fun _ _ => rfl, KL.out⟩, FG.out.trans (Fg.drewN _ _ _)⟩

set_option maxRecDepth 100000 in
set_option maxHeartbeats 4000000 in
theorem rationalN {w : World} {B g : Nat} (h : Dr w B g) (hg : B ≤ g) :
    Calls Tryz.prog 53 #[.pointer (some ⟨g, 0, none⟩), .int .i64 20] w fun e w' => ∃ v z D, e = .returned v ∧ Rq w' (mkRat z D) v ∧ -20 ≤ z ∧ z ≤ 20 ∧ 0 < D ∧ D ≤ 20 ∧ Dr w' B g ∧ Fg g w w' := by
  have hb0 := below1 w (.cells #[.bool false, .slice none 0 0, .slice none 0 0] 25)
  have X := Lib.hid (Blk.new w #[.bool false, .slice none 0 0, .slice none 0 0] 25)
  have D1 := Lib.hid (h.after hg hb0)
  have FB := Lib.hid (Fg.of_below (g := g) hb0)
  have hgl := h.lt
  have hgn : w.heap.size ≠ g := by omega
  have HG := Lib.hid hg
  have HN := Lib.hid hgn
  have HL := Lib.hid hgl
  clear h hg hb0 hgl hgn
  go_enter Tryz.func53, Tryz.ntmps53
  go_wp2_with fail
  refine (nextN D1.out HG.out 41 (by omega) (by omega)).mono ?_
  rintro _ w1 ⟨x, rfl, hx0, hx1, hd, hf⟩
  replace D1 := Lib.hid hd
  replace X := Lib.hid (hf.bk HN.out X.out)
  replace FB := Lib.hid (FB.out.trans hf)
  clear hd hf
  go_wp2_with fail
  refine (nextN D1.out HG.out 20 (by omega) (by omega)).mono ?_
  rintro _ w2 ⟨y, rfl, hy0, hy1, hd, hf⟩
  replace D1 := Lib.hid hd
  replace X := Lib.hid (hf.bk HN.out X.out)
  replace FB := Lib.hid (FB.out.trans hf)
  clear hd hf
  obtain ⟨D, hD⟩ : ∃ D : Nat, (D : Int) = y + 1 := ⟨(y + 1).toNat, by omega⟩
  have hD' : 1 + y = (D : Int) := by omega
  have C := ratOfN (x - 20) D (by omega) (by omega) (by omega) (by omega) w2
  rw [← hD'] at C
  have CC := Lib.hid C
  have HD := Lib.hid hD
  clear C hD hD'
  go_wp2_with fail
  refine CC.out.mono ?_
  rintro _ w3 ⟨v, rfl, hv, hb⟩
  obtain ⟨bL, AL, nL, cL, AL', nL', cL', rfl, _, _, _⟩ := hv.get
  replace D1 := Lib.hid (D1.out.after HG.out hb)
  replace X := Lib.hid (X.out.after hb)
  replace FB := Lib.hid (FB.out.trans (Fg.of_below hb))
  have HXL := Lib.hid hv
  have zx : w.heap.size < w3.heap.size := X.out.lt
  have d0 := X.out.cell (i := 0) rfl
  have d1 := X.out.cell (i := 1) rfl
  have d2 := X.out.cell (i := 2) rfl
  have ff := X.out.free
  clear hv hb CC
  go_wp2_with fail
  refine bodyPost_ret (results_cell_row (p := 4) (ty := 25) rfl _ _ w.heap.size 25 _ _ _ rfl X.out.set.set.set Tryz.underlying25 rfl (by kernel_rfl)) rfl ?_
  obtain ⟨g1, g2, g3⟩ := HXL.out.inv
  have hBl : B ≤ w.heap.size := Nat.le_trans HG.out (Nat.le_of_lt HL.out)
  refine ⟨_, x - 20, D, rfl, Rq.mk g3 rfl rfl (g1.put3 X.out (hnoR _ _ _ _ _ _ _)) (g2.put3 X.out (hnoR _ _ _ _ _ _ _)), by omega, by omega, by have := HD.out; omega, by have := HD.out; omega, ((D1.out.far (fun e => HN.out e.symm) hBl).far (fun e => HN.out e.symm) hBl).far (fun e => HN.out e.symm) hBl, ?_⟩
  have F := FB.out
  refine ⟨fun k => (F.nr k).put3 X.out (hnoR _ _ _ _ _ _ _), ?_, fun b1 b2 k => (((F.bl b1 b2 k).setCell (p := ⟨w.heap.size, 0, none⟩) b2 _).setCell (p := ⟨w.heap.size, 1, none⟩) b2 _).setCell (p := ⟨w.heap.size, 2, none⟩) b2 _, by have := F.sz; simp; omega⟩
  intro h0 t cs hne k
  have hl := k.lt
  have hne2 : h0 ≠ w.heap.size := by omega
  exact (((F.bk hne k).other hne2).other hne2).other hne2
end Go.Proofs.YtmcacofpnnaplaaGreatDoor

/- Plain facts on the simplest number of an interval: it lies in it, and no number of the interval has a lesser denominator or numerator. Conditions as premises. -/
namespace Go.Proofs.YtmcacofpnnaplaaGreatDoor
open Go.RowKit

theorem num_pos_of' {a : Rat} (h : 0 < a) : 0 < a.num := by
  have h3 := Rat.num_nonneg.2 (Rat.le_of_lt h)
  have h4 : a.num ≠ 0 := fun e => by rw [Rat.num_eq_zero.1 e] at h; exact Rat.lt_irrefl h
  omega
theorem pos_of_num' {a : Rat} (h : 0 < a.num) : 0 < a := by
  have h3 : 0 ≤ a := Rat.num_nonneg.1 (Int.le_of_lt h)
  rcases tri 0 a with c | c | c
  · exact c
  · rw [← c] at h; exact absurd h (by decide)
  · exact absurd h3 (Rat.not_le.2 c)
theorem up_pos {lo hi : Rat} (h : 0 < lo.num) (hle : lo ≤ hi) : 0 < hi.num := num_pos_of' (by have := pos_of_num' h; grind)
theorem down_neg {lo hi : Rat} (h : hi.num < 0) (hle : lo ≤ hi) : lo.num < 0 := by
  have h1 : 0 < (-hi).num := by rw [Rat.neg_num]; omega
  have h2 := up_pos h1 (Rat.neg_le_neg hle)
  rw [Rat.neg_num] at h2; omega
theorem le_zero_iff {q : Rat} : q ≤ 0 ↔ q.num ≤ 0 := by
  rw [Rat.le_iff]; simp
theorem zero_le_iff {q : Rat} : 0 ≤ q ↔ 0 ≤ q.num := by
  rw [Rat.le_iff]; simp
theorem sides {lo hi : Rat} (h : lo ≤ hi) (hs : sg lo.num ≠ sg hi.num) : lo.num ≤ 0 ∧ 0 ≤ hi.num := by
  constructor
  · rcases Int.lt_or_le 0 lo.num with k | k
    · exact absurd (by rw [sg_pos k, sg_pos (up_pos k h)]) hs
    · exact k
  · rcases Int.lt_or_le hi.num 0 with k | k
    · exact absurd (by rw [sg_neg k, sg_neg (down_neg k h)]) hs
    · exact k
theorem sQ_in {lo hi : Rat} (h : lo ≤ hi) (s1 : Sz 1024 lo) (s2 : Sz 1024 hi) : lo ≤ sQ lo hi ∧ sQ lo hi ≤ hi := by
  by_cases hs : sg lo.num = sg hi.num
  · rcases Int.lt_or_le lo.num 0 with h0 | h0
    · have h3 : hi.num < 0 := by have := sg_neg_iff.2 h0; rw [hs] at this; exact sg_neg_iff.1 this
      obtain ⟨e1, e2, _⟩ := sQ_neg h h0 hs s1 s2
      have sim := (sp_neg h h0 h3 s1 s2).sim
      have a1 := Int.ofNat_le.2 sim.lo
      have a2 := Int.ofNat_le.2 sim.hi
      simp only [Int.natCast_mul] at a1 a2
      rw [show ((hi.num.natAbs : Nat) : Int) = -hi.num by omega] at a1
      rw [show ((lo.num.natAbs : Nat) : Int) = -lo.num by omega] at a2
      constructor
      · rw [Rat.le_iff, e1, e2, Int.neg_mul]; rw [Int.neg_mul] at a2; omega
      · rw [Rat.le_iff, e1, e2, Int.neg_mul]; rw [Int.neg_mul] at a1; omega
    · have h3 : 0 ≤ hi.num := by
        rcases Int.lt_or_le hi.num 0 with k | k
        · have := down_neg k h; omega
        · exact k
      obtain ⟨e1, e2⟩ := sQ_pos h h0 hs s1 s2
      have sim := (sp_pos h h0 h3 s1 s2).sim
      have a1 := Int.ofNat_le.2 sim.lo
      have a2 := Int.ofNat_le.2 sim.hi
      simp only [Int.natCast_mul] at a1 a2
      rw [show ((lo.num.natAbs : Nat) : Int) = lo.num by omega] at a1
      rw [show ((hi.num.natAbs : Nat) : Int) = hi.num by omega] at a2
      constructor
      · rw [Rat.le_iff, e1, e2]; exact a1
      · rw [Rat.le_iff, e1, e2]; exact a2
  · have : sQ lo hi = 0 := by unfold sQ; rw [if_neg hs]
    obtain ⟨a, b⟩ := sides h hs
    rw [this]
    exact ⟨le_zero_iff.2 a, zero_le_iff.2 b⟩
theorem sQ_least {lo hi c : Rat} (h : lo ≤ hi) (s1 : Sz 1024 lo) (s2 : Sz 1024 hi) (h1 : lo ≤ c) (h2 : c ≤ hi) : (sQ lo hi).den ≤ c.den ∧ (sQ lo hi).num.natAbs ≤ c.num.natAbs := by
  by_cases hs : sg lo.num = sg hi.num
  · rcases Int.lt_or_le lo.num 0 with h0 | h0
    · have h3 : hi.num < 0 := by have := sg_neg_iff.2 h0; rw [hs] at this; exact sg_neg_iff.1 this
      have h4 : c.num < 0 := down_neg h3 h2
      obtain ⟨e1, e2, _⟩ := sQ_neg h h0 hs s1 s2
      have sim := (sp_neg h h0 h3 s1 s2).sim
      have := sim.least c.num.natAbs c.den c.den_pos (le_abs_neg h2 h4 h3) (le_abs_neg h1 h0 h4)
      rw [e1, e2]; omega
    · have h3 : 0 ≤ hi.num := by
        rcases Int.lt_or_le hi.num 0 with k | k
        · have := down_neg k h; omega
        · exact k
      have h4 : 0 ≤ c.num := by
        rcases Int.lt_or_le c.num 0 with k | k
        · have := down_neg k h1; omega
        · exact k
      obtain ⟨e1, e2⟩ := sQ_pos h h0 hs s1 s2
      have sim := (sp_pos h h0 h3 s1 s2).sim
      have := sim.least c.num.natAbs c.den c.den_pos (le_abs_pos h1 h0 h4) (le_abs_pos h2 h4 h3)
      rw [e1, e2]; omega
  · have : sQ lo hi = 0 := by unfold sQ; rw [if_neg hs]
    rw [this]
    exact ⟨c.den_pos, Nat.zero_le _⟩
/-- no fraction of the interval is simpler -/
theorem sQ_none {lo hi : Rat} (h : lo ≤ hi) (s1 : Sz 1024 lo) (s2 : Sz 1024 hi) (a : Int) {b : Nat} (hb : 0 < b) (k : b < (sQ lo hi).den ∨ (b = (sQ lo hi).den ∧ a.natAbs < (sQ lo hi).num.natAbs)) (h1 : lo ≤ mkRat a b) (h2 : mkRat a b ≤ hi) : False := by
  obtain ⟨l1, l2⟩ := sQ_least h s1 s2 h1 h2
  obtain ⟨_, e2, e3⟩ := mkRat_red a b (by omega)
  have d1 : (mkRat a b).den ≤ b := by rw [e3]; exact Nat.div_le_self _ _
  have d2 : (mkRat a b).num.natAbs ≤ a.natAbs := by rw [e2]; exact Nat.div_le_self _ _
  rcases k with k | ⟨k, m⟩ <;> omega
/-- a greater interval has no less simple one -/
theorem sQ_mono {lo hi more : Rat} (h : lo ≤ hi) (hm : 0 ≤ more) (s1 : Sz 1024 lo) (s2 : Sz 1024 hi) (s3 : Sz 1024 (hi + more)) : (sQ lo (hi + more)).den ≤ (sQ lo hi).den := by
  have h2 : hi ≤ hi + more := by grind
  obtain ⟨a, b⟩ := sQ_in h s1 s2
  exact (sQ_least (Rat.le_trans h h2) s1 s3 a (Rat.le_trans b h2)).1
theorem one_dig' {N : Nat} (h0 : N ≠ 0) (h1 : N < LB) : Dig 1 (fun _ => N) N :=
  ⟨⟨fun _ _ => h1, fun _ => h0⟩, by simp [nv]⟩
/-- a small number has one limb -/
theorem Nr.one_limb {w : World} {N n c : Nat} {A : Option Addr} (h : Nr w N (.slice A n c)) (h0 : N ≠ 0) (h1 : N < LB) : n = 1 ∧ ∃ b off, A = some ⟨b, off, none⟩ ∧ b < w.heap.size ∧ 1 ≤ c ∧ c ≤ 9223372036854775807 ∧ w.cell? ⟨b, off, none⟩ = some (.int .u32 (iv N)) := by
  obtain ⟨A', n', c', f, e, hr, hd⟩ := h
  cases e
  obtain ⟨rfl, hj⟩ := hd.unique (one_dig' h0 h1)
  obtain ⟨b, off, rfl, hb, hc⟩ := hr.cell (by omega)
  have h2 := hc 0 (by omega)
  rw [hj 0 (by omega)] at h2
  exact ⟨rfl, b, off, rfl, hb, hr.cap, hr.max, h2⟩
theorem Nr.no_limb {w : World} {N n c : Nat} {A : Option Addr} (h : Nr w N (.slice A n c)) (h0 : N = 0) : n = 0 := by
  obtain ⟨A', n', c', e, hz⟩ := h.len
  cases e
  exact hz.2 h0
/-- a number with small parts -/
structure Sma (q : Rat) : Prop where
  n : q.num.natAbs ≤ 20
  d : q.den ≤ 20
theorem Sma.mk' {z : Int} {D : Nat} (h0 : -20 ≤ z) (h1 : z ≤ 20) (h2 : 0 < D) (h3 : D ≤ 20) : Sma (mkRat z D) := by
  obtain ⟨_, e2, e3⟩ := mkRat_red z D (by omega)
  refine ⟨?_, ?_⟩
  · rw [e2]; exact Nat.le_trans (Nat.div_le_self _ _) (by omega)
  · rw [e3]; exact Nat.le_trans (Nat.div_le_self _ _) h3
theorem Sma.sz {q : Rat} (h : Sma q) : Sz 1 q := by
  have a := h.n
  have b := h.d
  refine ⟨?_, ?_⟩ <;> rw [Nat.pow_one, LB_eq] <;> omega
theorem Sma.s {lo hi : Rat} (h : lo ≤ hi) (h1 : Sma lo) (h2 : Sma hi) : Sma (sQ lo hi) := by
  obtain ⟨a, b⟩ := sQ_least h (h1.sz.up (by omega)) (h2.sz.up (by omega)) Rat.le_refl h
  exact ⟨Nat.le_trans b h1.n, Nat.le_trans a h1.d⟩
theorem mk20_nonneg {x : Int} (h : 0 ≤ x) : 0 ≤ mkRat x 20 := by
  rw [zero_le_iff]
  rcases Int.lt_or_le (mkRat x 20).num 0 with k | k
  · have := (mkRat_neg_iff x 20 (by omega)).1 k; omega
  · exact k
end Go.Proofs.YtmcacofpnnaplaaGreatDoor

/- The walk of RatSimplest: it returns true, and writes nothing that was there. Conditions as premises: the ints read, and the table of signs holds its numbers. -/
namespace Go.Proofs.YtmcacofpnnaplaaGreatDoor
open Go.RowKit Go.Shelf
attribute [local go_sem ↓] Go.wp_at_zero Go.wp_at_succ


theorem Blk.lrow {w : World} {g : Nat} {t : TypeId} {a b c : Value} (h : Blk w g t #[a, b, c]) (u v x : Value) : Blk (((w.setCell ⟨g, 0, none⟩ u).setCell ⟨g, 1, none⟩ v).setCell ⟨g, 2, none⟩ x) g t #[u, v, x] := h.set.set.set
theorem Blk.lfar {w : World} {g h : Nat} {t : TypeId} {cs : Array Value} (k : Blk w g t cs) (hne : g ≠ h) (u v x : Value) : Blk (((w.setCell ⟨h, 0, none⟩ u).setCell ⟨h, 1, none⟩ v).setCell ⟨h, 2, none⟩ x) g t cs := ((k.other hne).other hne).other hne
theorem Rq.lput {w : World} {g : Nat} {t : TypeId} {cs : Array Value} {q : Rat} {z u v x : Value} (h : Rq w q z) (k : Blk w g t cs) (hno : cs.all notU32 = true) : Rq (((w.setCell ⟨g, 0, none⟩ u).setCell ⟨g, 1, none⟩ v).setCell ⟨g, 2, none⟩ x) q z := by
  obtain ⟨A, n, c, A', n', c', e, h1, h2⟩ := h
  exact ⟨A, n, c, A', n', c', e, h1.put3 k hno, h2.put3 k hno⟩

set_option maxRecDepth 100000 in
set_option maxHeartbeats 16000000 in
theorem ratSimplest_main (A : Option Addr) (l c : Nat) (f : Nat → Int) (w : World) (hA : Ri w w.heap.size A l c f) (hT : Tabs w) :
    Calls Tryz.prog 10 #[.slice A l c] w fun e w' => e = .returned (.bool true) ∧ Below w.heap.size w w' := by
  have hb0 := below1 w (.cells #[.slice A l c, .int .i64 0] 62)
  have D1 := Lib.hid (show Dr (w.alloc (.cells #[.slice A l c, .int .i64 0] 62)) w.heap.size w.heap.size from ⟨A, l, c, f, 0, Blk.new w _ _, hA.below hb0, Nat.zero_le _⟩)
  have HX := Lib.hid hb0
  have HT := Lib.hid hT
  have G0 := Lib.hid (Nat.le_refl w.heap.size)
  have HL : Hid (w.heap.size ≤ (w.alloc (.cells #[.slice A l c, .int .i64 0] 62)).heap.size) := Lib.hid hb0.size
  clear hA hb0 hT
  go_enter Tryz.func10, Tryz.ntmps10
  go_upto_region 2 with fail
  go_wp2_with fail
  refine (rationalN D1.out G0.out).mono ?_
  rintro _ w2 ⟨v1, z1, e1, rfl, hq1, a1, a2, a3, a4, hd, hf⟩
  have S1 := Lib.hid (Sma.mk' a1 a2 a3 a4)
  have Q1 := Lib.hid hq1
  generalize mkRat z1 e1 = q1 at *
  replace D1 := Lib.hid hd
  replace HX := Lib.hid (hf.bl (Nat.le_refl _) HL.out HX.out)
  replace HL := Lib.hid (Nat.le_trans HL.out hf.sz)
  clear hq1 a1 a2 a3 a4 hd hf z1 e1
  go_wp2_with fail
  refine (rationalN D1.out G0.out).mono ?_
  rintro _ w3 ⟨v2, z2, e2, rfl, hq2, a1, a2, a3, a4, hd, hf⟩
  have S2 := Lib.hid (Sma.mk' a1 a2 a3 a4)
  have Q2 := Lib.hid hq2
  generalize mkRat z2 e2 = q2 at *
  replace Q1 := Lib.hid (hf.rq Q1.out)
  replace D1 := Lib.hid hd
  replace HX := Lib.hid (hf.bl (Nat.le_refl _) HL.out HX.out)
  replace HL := Lib.hid (Nat.le_trans HL.out hf.sz)
  clear hq2 a1 a2 a3 a4 hd hf z2 e2
  go_wp2_with fail
  refine (nextN D1.out G0.out 20 (by omega) (by omega)).mono ?_
  rintro _ w4 ⟨x, rfl, hx0, hx1, hd, hf⟩
  replace Q1 := Lib.hid (hf.rq Q1.out)
  replace Q2 := Lib.hid (hf.rq Q2.out)
  replace HX := Lib.hid (hf.bl (Nat.le_refl _) HL.out HX.out)
  have C := Lib.hid (ratOfN x 20 (by omega) (by omega) (by omega) (by omega) w4)
  have P3 := Lib.hid (mk20_nonneg hx0)
  have S3 := Lib.hid (Sma.mk' (by omega) (by omega) (by omega) (by omega) : Sma (mkRat x 20))
  clear hd hf D1 hx0 hx1 HL G0
  go_wp2_with fail
  refine C.out.mono ?_
  rintro _ w5 ⟨v3, rfl, hq3, hb⟩
  have Q3 := Lib.hid hq3
  generalize mkRat x 20 = q3 at *
  replace Q1 := Lib.hid (Q1.out.below hb)
  replace Q2 := Lib.hid (Q2.out.below hb)
  replace HX := Lib.hid (HX.out.trans (hb.mono HX.out.size))
  obtain ⟨b1, A1, n1, c1, A1', n1', c1', rfl, _, _, _⟩ := Q1.out.get
  obtain ⟨b2, A2, n2, c2, A2', n2', c2', rfl, _, _, _⟩ := Q2.out.get
  obtain ⟨b3, A3, n3, c3, A3', n3', c3', rfl, _, _, _⟩ := Q3.out.get
  clear hq3 hb C
  go_upto_region 3 with fail
  have hba : Below w5.heap.size w5 (((w5.alloc (.cells #[.bool b1, .slice A1 n1 c1, .slice A1' n1' c1'] 25)).alloc (.cells #[.bool b2, .slice A2 n2 c2, .slice A2' n2' c2'] 25)).alloc (.cells #[.bool b3, .slice A3 n3 c3, .slice A3' n3' c3'] 25)) := (below2 w5 _ _).alloc (by simp; omega) _
  have kl : Blk (((w5.alloc (.cells #[.bool b1, .slice A1 n1 c1, .slice A1' n1' c1'] 25)).alloc (.cells #[.bool b2, .slice A2 n2 c2, .slice A2' n2' c2'] 25)).alloc (.cells #[.bool b3, .slice A3 n3 c3, .slice A3' n3' c3'] 25)) w5.heap.size 25 #[.bool b1, .slice A1 n1 c1, .slice A1' n1' c1'] := ((Blk.new w5 #[.bool b1, .slice A1 n1 c1, .slice A1' n1' c1'] 25).alloc _).alloc _
  have kh' := (Blk.new (w5.alloc (.cells #[.bool b1, .slice A1 n1 c1, .slice A1' n1' c1'] 25)) #[.bool b2, .slice A2 n2 c2, .slice A2' n2' c2'] 25).alloc (.cells #[.bool b3, .slice A3 n3 c3, .slice A3' n3' c3'] 25)
  have km' := Blk.new ((w5.alloc (.cells #[.bool b1, .slice A1 n1 c1, .slice A1' n1' c1'] 25)).alloc (.cells #[.bool b2, .slice A2 n2 c2, .slice A2' n2' c2'] 25)) #[.bool b3, .slice A3 n3 c3, .slice A3' n3' c3'] 25
  simp only [World.size_alloc] at kh' km'
  have KL := Lib.hid kl
  have KH := Lib.hid kh'
  have KM := Lib.hid km'
  replace Q1 := Lib.hid (Q1.out.below hba)
  replace Q2 := Lib.hid (Q2.out.below hba)
  replace Q3 := Lib.hid (Q3.out.below hba)
  have HS5 := Lib.hid HX.out.size
  replace HX := Lib.hid (HX.out.trans (hba.mono HX.out.size))
  clear hba kl kh' km'
  generalize (((w5.alloc (.cells #[.bool b1, .slice A1 n1 c1, .slice A1' n1' c1'] 25)).alloc (.cells #[.bool b2, .slice A2 n2 c2, .slice A2' n2' c2'] 25)).alloc (.cells #[.bool b3, .slice A3 n3 c3, .slice A3' n3' c3'] 25)) = w6 at *
  generalize hP : w5.heap.size = P at *
  clear hP
  have dl0 := KL.out.cell (i := 0) rfl
  have dl1 := KL.out.cell (i := 1) rfl
  have dl2 := KL.out.cell (i := 2) rfl
  have dh0 := KH.out.cell (i := 0) rfl
  have dh1 := KH.out.cell (i := 1) rfl
  have dh2 := KH.out.cell (i := 2) rfl
  have C := Lib.hid (ratCmpQ Q1.out Q2.out (HT.out.below HX.out) (S1.out.sz.up (by omega)) (S2.out.sz.up (by omega)))
  obtain ⟨cc, hcc⟩ : ∃ x, cq q1 q2 = x := ⟨_, rfl⟩
  rw [hcc] at C
  have HCC := Lib.hid hcc
  clear hcc
  go_wp2_with fail
  refine C.out.mono ?_
  rintro _ w7 ⟨rfl, hb⟩
  replace Q1 := Lib.hid (Q1.out.below hb)
  replace Q2 := Lib.hid (Q2.out.below hb)
  replace Q3 := Lib.hid (Q3.out.below hb)
  replace KL := Lib.hid (KL.out.after hb)
  replace KH := Lib.hid (KH.out.after hb)
  replace KM := Lib.hid (KM.out.after hb)
  replace HX := Lib.hid (HX.out.trans (hb.mono HX.out.size))
  clear hb C dl0 dl1 dl2 dh0 dh1 dh2
  
  go_upto_if 41 with fail
  go_cut [] (fun wx => ∃ (lo hi : Rat) (b4 : Bool) (A4 A4' : Option Addr) (n4 c4 n4' c4' : Nat) (b5 : Bool) (A5 A5' : Option Addr) (n5 c5 n5' c5' : Nat), Hid (lo ≤ hi ∧ Sma lo ∧ Sma hi ∧ Rq wx lo (.agg #[.bool b4, .slice A4 n4 c4, .slice A4' n4' c4']) ∧ Rq wx hi (.agg #[.bool b5, .slice A5 n5 c5, .slice A5' n5' c5']) ∧ Rq wx q3 (.agg #[.bool b3, .slice A3 n3 c3, .slice A3' n3' c3']) ∧ Blk wx P 25 #[.bool b4, .slice A4 n4 c4, .slice A4' n4' c4'] ∧ Blk wx (P + 1) 25 #[.bool b5, .slice A5 n5 c5, .slice A5' n5' c5'] ∧ Blk wx (P + 1 + 1) 25 #[.bool b3, .slice A3 n3 c3, .slice A3' n3' c3'] ∧ Below w.heap.size w wx))
  case first =>
    as_aux_lemma =>
      by_cases hle : q1 ≤ q2
      · have hc0 : cc ≤ 0 := by
          rw [← HCC.out]
          rcases cq_range q1 q2 with e | e | e
          · omega
          · omega
          · exact absurd (cq_pos e) (Rat.not_lt.2 hle)
        have hd : decide (0 < cc) = false := decide_eq_false (by omega)
        have R := Lib.hid hle
        clear hle
        go_wp2_with fail
        go_meet
        exact ⟨q1, q2, b1, A1, A1', n1, c1, n1', c1', b2, A2, A2', n2, c2, n2', c2', Lib.hid ⟨R.out, S1.out, S2.out, Q1.out, Q2.out, Q3.out, KL.out, KH.out, KM.out, HX.out⟩⟩
      · have hlt := Rat.not_le.1 hle
        have hc0 : cc = 1 := by rw [← HCC.out]; exact cq_gt hlt
        subst hc0
        have R := Lib.hid (Rat.le_of_lt hlt)
        have dl0 := KL.out.cell (i := 0) rfl
        have dl1 := KL.out.cell (i := 1) rfl
        have dl2 := KL.out.cell (i := 2) rfl
        have dh0 := KH.out.cell (i := 0) rfl
        have dh1 := KH.out.cell (i := 1) rfl
        have dh2 := KH.out.cell (i := 2) rfl
        have fl := KL.out.free
        have fh := KH.out.free
        have zl := KL.out.lt
        have zh := KH.out.lt
        have hn1 : P ≠ P + 1 := by omega
        have hn2 : P + 1 ≠ P := by omega
        clear hle hlt
        go_wp2_with fail
        go_meet
        have kl := (KL.out.lrow (.bool b2) (.slice A2 n2 c2) (.slice A2' n2' c2')).lfar hn1 (.bool b1) (.slice A1 n1 c1) (.slice A1' n1' c1')
        have kh0 := KH.out.lfar hn2 (.bool b2) (.slice A2 n2 c2) (.slice A2' n2' c2')
        have kh := kh0.lrow (.bool b1) (.slice A1 n1 c1) (.slice A1' n1' c1')
        have km := (KM.out.lfar (by omega : P + 1 + 1 ≠ P) (.bool b2) (.slice A2 n2 c2) (.slice A2' n2' c2')).lfar (by omega : P + 1 + 1 ≠ P + 1) (.bool b1) (.slice A1 n1 c1) (.slice A1' n1' c1')
        have hs := HS5.out
        exact ⟨q2, q1, b2, A2, A2', n2, c2, n2', c2', b1, A1, A1', n1, c1, n1', c1', Lib.hid ⟨R.out, S2.out, S1.out, (Q2.out.lput KL.out (hnoR _ _ _ _ _ _ _)).lput kh0 (hnoR _ _ _ _ _ _ _), (Q1.out.lput KL.out (hnoR _ _ _ _ _ _ _)).lput kh0 (hnoR _ _ _ _ _ _ _), (Q3.out.lput KL.out (hnoR _ _ _ _ _ _ _)).lput kh0 (hnoR _ _ _ _ _ _ _), kl, kh, km, (((((HX.out.setCell (p := ⟨P, 0, none⟩) hs _).setCell (p := ⟨P, 1, none⟩) hs _).setCell (p := ⟨P, 2, none⟩) hs _).setCell (p := ⟨P + 1, 0, none⟩) (by simp; omega) _).setCell (p := ⟨P + 1, 1, none⟩) (by simp; omega) _).setCell (p := ⟨P + 1, 2, none⟩) (by simp; omega) _⟩⟩
  case rest =>
    as_aux_lemma =>
      obtain ⟨lo, hi, b4, A4, A4', n4, c4, n4', c4', b5, A5, A5', n5, c5, n5', c5', hR⟩ := hcut
      obtain ⟨r1, r2, r3, r4, r5, r6, r7, r8, r9, r10⟩ := hR.out
      have HLE := Lib.hid r1
      have SL := Lib.hid r2
      have SH := Lib.hid r3
      have QL := Lib.hid r4
      have QH := Lib.hid r5
      have QM := Lib.hid r6
      have K4 := Lib.hid r7
      have K5 := Lib.hid r8
      have K6 := Lib.hid r9
      have HW := Lib.hid r10
      clear r1 r2 r3 r4 r5 r6 r7 r8 r9 r10 hR Q1 Q2 Q3 KL KH KM HX S1 S2 HCC HS5
      generalize wc = w10 at *
      obtain ⟨X, hX⟩ : ∃ x, sQ lo hi = x := ⟨_, rfl⟩
      have HXX := Lib.hid hX
      have SX := Lib.hid (hX ▸ Sma.s HLE.out SL.out SH.out)
      have XIN := Lib.hid (hX ▸ sQ_in HLE.out (SL.out.sz.up (by omega)) (SH.out.sz.up (by omega)))
      clear hX
      have d40 := K4.out.cell (i := 0) rfl
      have d41 := K4.out.cell (i := 1) rfl
      have d42 := K4.out.cell (i := 2) rfl
      have d50 := K5.out.cell (i := 0) rfl
      have d51 := K5.out.cell (i := 1) rfl
      have d52 := K5.out.cell (i := 2) rfl
      have C := ratSimpleQ QL.out QH.out (HT.out.below HW.out) (SL.out.sz.up (by omega)) (SH.out.sz.up (by omega)) HLE.out
      rw [HXX.out] at C
      have CC := Lib.hid C
      clear C
      go_wp2_with fail
      refine CC.out.mono ?_
      rintro _ w11 ⟨x, rfl, hx, hb⟩
      obtain ⟨b7, A7, n7, c7, A7', n7', c7', rfl, _, _, _⟩ := hx.get
      have hba := below1 w11 (.cells #[.bool b7, .slice A7 n7 c7, .slice A7' n7' c7'] 25)
      have hbb := hb.trans (hba.mono hb.size)
      clear CC
      clear d40 d41 d42 d50 d51 d52
      replace QL := Lib.hid (QL.out.below hbb)
      replace QH := Lib.hid (QH.out.below hbb)
      replace QM := Lib.hid (QM.out.below hbb)
      replace K4 := Lib.hid (K4.out.after hbb)
      replace K5 := Lib.hid (K5.out.after hbb)
      replace K6 := Lib.hid (K6.out.after hbb)
      replace HW := Lib.hid (HW.out.trans (hbb.mono HW.out.size))
      have QX := Lib.hid (hx.below hba)
      have K7 := Lib.hid (Blk.new w11 #[.bool b7, .slice A7 n7 c7, .slice A7' n7' c7'] 25)
      clear hx hb hba hbb
      go_upto_region 7 with fail
      generalize hP7 : w11.heap.size = P7 at *
      clear hP7
      generalize w11.alloc (.cells #[.bool b7, .slice A7 n7 c7, .slice A7' n7' c7'] 25) = w12 at *
      have d40 := K4.out.cell (i := 0) rfl
      have d41 := K4.out.cell (i := 1) rfl
      have d42 := K4.out.cell (i := 2) rfl
      have d50 := K7.out.cell (i := 0) rfl
      have d51 := K7.out.cell (i := 1) rfl
      have d52 := K7.out.cell (i := 2) rfl
      have C := ratCmpQ QL.out QX.out (HT.out.below HW.out) (SL.out.sz.up (by omega)) (SX.out.sz.up (by omega))
      obtain ⟨ci1, hci1⟩ : ∃ x, cq lo X = x := ⟨_, rfl⟩
      rw [hci1] at C
      have CC := Lib.hid C
      have Hci1 := Lib.hid hci1
      clear C hci1
      go_wp2_with fail
      refine CC.out.mono ?_
      rintro _ w13 ⟨rfl, hb⟩
      clear CC
      clear d40 d41 d42 d50 d51 d52
      replace QL := Lib.hid (QL.out.below hb)
      replace QH := Lib.hid (QH.out.below hb)
      replace QM := Lib.hid (QM.out.below hb)
      replace QX := Lib.hid (QX.out.below hb)
      replace K4 := Lib.hid (K4.out.after hb)
      replace K5 := Lib.hid (K5.out.after hb)
      replace K6 := Lib.hid (K6.out.after hb)
      replace K7 := Lib.hid (K7.out.after hb)
      replace HW := Lib.hid (HW.out.trans (hb.mono HW.out.size))
      clear hb
      go_upto_region 8 with fail
      have d40 := K7.out.cell (i := 0) rfl
      have d41 := K7.out.cell (i := 1) rfl
      have d42 := K7.out.cell (i := 2) rfl
      have d50 := K5.out.cell (i := 0) rfl
      have d51 := K5.out.cell (i := 1) rfl
      have d52 := K5.out.cell (i := 2) rfl
      have C := ratCmpQ QX.out QH.out (HT.out.below HW.out) (SX.out.sz.up (by omega)) (SH.out.sz.up (by omega))
      obtain ⟨cj1, hcj1⟩ : ∃ x, cq X hi = x := ⟨_, rfl⟩
      rw [hcj1] at C
      have CC := Lib.hid C
      have Hcj1 := Lib.hid hcj1
      clear C hcj1
      go_wp2_with fail
      refine CC.out.mono ?_
      rintro _ w14 ⟨rfl, hb⟩
      clear CC
      clear d40 d41 d42 d50 d51 d52
      replace QL := Lib.hid (QL.out.below hb)
      replace QH := Lib.hid (QH.out.below hb)
      replace QM := Lib.hid (QM.out.below hb)
      replace QX := Lib.hid (QX.out.below hb)
      replace K4 := Lib.hid (K4.out.after hb)
      replace K5 := Lib.hid (K5.out.after hb)
      replace K6 := Lib.hid (K6.out.after hb)
      replace K7 := Lib.hid (K7.out.after hb)
      replace HW := Lib.hid (HW.out.trans (hb.mono HW.out.size))
      clear hb
      go_upto_region 9 with fail
      have hi0 : ci1 ≤ 0 := by
        rw [← Hci1.out]
        rcases cq_range lo X with e | e | e
        · omega
        · omega
        · exact absurd (cq_pos e) (Rat.not_lt.2 XIN.out.1)
      have hj0 : cj1 ≤ 0 := by
        rw [← Hcj1.out]
        rcases cq_range X hi with e | e | e
        · omega
        · omega
        · exact absurd (cq_pos e) (Rat.not_lt.2 XIN.out.2)
      have hd1 : decide (0 < ci1) = false := decide_eq_false (by omega)
      have hd2 : decide (0 < cj1) = false := decide_eq_false (by omega)
      obtain ⟨g1, g2, g3⟩ := QX.out.inv
      have hdn := SX.out.d
      have hnn := SX.out.n
      obtain ⟨rfl, bd, od, rfl, hbd, hcd1, hcd2, hcd⟩ := g2.one_limb X.den_nz (by rw [LB_eq]; omega)
      have hdle : iv X.den ≤ 20 := by rw [iv_eq]; omega
      have hdpos : 0 < iv X.den := by rw [iv_eq]; have := X.den_pos; omega
      have hd3 : decide (20 < iv X.den) = false := decide_eq_false (by omega)
      have hn1 : (n7 : Int) ≤ 1 := by
        by_cases h0 : X.num.natAbs = 0
        · rw [g1.no_limb h0]; decide
        · obtain ⟨e, _⟩ := g1.one_limb h0 (by rw [LB_eq]; omega)
          rw [e]; decide
      have hd4 : decide (1 < (n7 : Int)) = false := decide_eq_false (by omega)
      have G1 := Lib.hid g1
      have G2 := Lib.hid g2
      clear g1 g2 g3
      have d70 := K7.out.cell (i := 0) rfl
      have d71 := K7.out.cell (i := 1) rfl
      have d72 := K7.out.cell (i := 2) rfl
      go_upto_region 11 with fail
      have hdn0 : 0 ≤ iv X.den := by omega
      have hdn2 : iv X.den < 4294967296 := by omega
      have HNN := Lib.hid hnn
      have HDN := Lib.hid hdn
      clear hnn hdn hd1 hd2 hd3 hd4 hi0 hj0
      go_upto_if 111 with fail
      go_cut [16] (fun t wx => t = .int .i64 (iv X.num.natAbs) ∧ Hid (Below w14.heap.size w14 wx))
      case first =>
        as_aux_lemma =>
          by_cases h0 : X.num.natAbs = 0
          · have e := G1.out.no_limb h0
            subst e
            have EV := Lib.hid (show iv X.num.natAbs = 0 by rw [h0, iv_zero])
            clear h0
            go_wp2_with fail
            go_meet
            exact ⟨by rw [EV.out], Lib.hid (Below.refl _ _)⟩
          · obtain ⟨e, bn, on, eA, hbn, hcn1, hcn2, hcn⟩ := G1.out.one_limb h0 (by have := HNN.out; rw [LB_eq]; omega)
            subst e
            subst eA
            have hd5 : decide ((0 : Int) < ((1 : Nat) : Int)) = true := by decide
            have hnv0 : 0 ≤ iv X.num.natAbs := iv_nonneg _
            have hnv1 : iv X.num.natAbs < 4294967296 := iv_u32 (by have := HNN.out; omega)
            clear h0
            go_wp2_with fail
            go_meet
            exact ⟨rfl, Lib.hid (Below.refl _ _)⟩
      case rest =>
        as_aux_lemma =>
          obtain ⟨rfl, hb0⟩ := hcut
          have hb := hb0.out
          generalize wc = w15 at *
          replace QL := Lib.hid (QL.out.below hb)
          replace QH := Lib.hid (QH.out.below hb)
          replace QM := Lib.hid (QM.out.below hb)
          replace QX := Lib.hid (QX.out.below hb)
          replace K4 := Lib.hid (K4.out.after hb)
          replace K5 := Lib.hid (K5.out.after hb)
          replace K6 := Lib.hid (K6.out.after hb)
          replace K7 := Lib.hid (K7.out.after hb)
          replace HW := Lib.hid (HW.out.trans (hb.mono HW.out.size))
          clear hb hb0 d70 d71 d72 hcd1 hcd2 hcd hbd hn1 hdle hdpos hdn0 hdn2 G1 G2
          obtain ⟨dn, hdn⟩ : ∃ x, iv X.den = x := ⟨_, rfl⟩
          obtain ⟨nm, hnm⟩ : ∃ x, iv X.num.natAbs = x := ⟨_, rfl⟩
          rw [hdn, hnm]
          have DNE : Hid ((X.den : Int) = dn) := Lib.hid (by rw [← hdn, iv_eq])
          have NME : Hid ((X.num.natAbs : Int) = nm) := Lib.hid (by rw [← hnm, iv_eq])
          have hdn0 : 1 ≤ dn := by have := DNE.out; have := X.den_pos; omega
          have hdn1 : dn ≤ 20 := by have := DNE.out; have := HDN.out; omega
          have hnm0 : 0 ≤ nm := by have := NME.out; omega
          have hnm1 : nm ≤ 20 := by have := NME.out; have := HNN.out; omega
          clear hdn hnm
          go_wp2_with fail
          go_loopw [17] (fun u wr => ∃ B : Nat, 1 ≤ B ∧ (B : Int) ≤ dn + 1 ∧ u = .int .i64 (B : Int) ∧ Hid (Below w15.heap.size w15 wr)) (fun u _ => (dn + 1 - intOf u).toNat)
          case atStart => exact ⟨1, by omega, by omega, rfl, Lib.hid (Below.refl _ _)⟩
          case round =>
            obtain ⟨B, hB1, hB2, rfl, hbl⟩ := hrel
            generalize wr = w16 at *
            by_cases hBd : (B : Int) ≤ dn
            · go_wp2_with fail
              clear wr
              go_loopw [18] (fun u wr => ∃ Z : Int, -20 * (B : Int) ≤ Z ∧ Z ≤ 20 * (B : Int) + 1 ∧ u = .int .i64 Z ∧ Hid (Below w15.heap.size w15 wr)) (fun u _ => (20 * (B : Int) + 1 - intOf u).toNat)
              case atStart => exact ⟨-20 * (B : Int), by omega, by omega, rfl, hbl⟩
              case round =>
                obtain ⟨Z, hZ1, hZ2, rfl, hbl2⟩ := hrel
                generalize wr = w17 at *
                by_cases hZ : Z ≤ 20 * (B : Int)
                · by_cases hsk : (B : Int) = dn ∧ (nm ≤ Z ∨ nm ≤ -Z)
                  · obtain ⟨hs1, hs2⟩ := hsk
                    have hs3 : ((B : Int) == dn) = true := by rw [beq_iff_eq]; exact hs1
                    by_cases hs4 : nm ≤ Z
                    · have hs5 : decide (nm ≤ Z) = true := decide_eq_true hs4
                      clear hs2
                      go_wp2_with fail
                      go_roundw
                      case rel => exact ⟨Z + 1, by omega, by omega, rfl, hbl2⟩
                      case measure => simp [intOf] <;> omega
                    · have hs5 : decide (nm ≤ Z) = false := decide_eq_false hs4
                      have hs6 : nm ≤ -Z := by omega
                      have hs7 : decide (nm ≤ -Z) = true := decide_eq_true hs6
                      clear hs2
                      go_wp2_with fail
                      go_roundw
                      case rel => exact ⟨Z + 1, by omega, by omega, rfl, hbl2⟩
                      case measure => simp [intOf] <;> omega
                  · have NONE : Hid (¬ (lo ≤ mkRat Z B ∧ mkRat Z B ≤ hi)) := Lib.hid (by
                      rintro ⟨k1, k2⟩
                      have e1 := DNE.out
                      have e2 := NME.out
                      refine sQ_none HLE.out (SL.out.sz.up (by omega)) (SH.out.sz.up (by omega)) Z (by omega : 0 < B) ?_ k1 k2
                      rw [HXX.out]
                      by_cases h1 : (B : Int) = dn
                      · exact .inr ⟨by omega, by
                          have h2 : ¬ (nm ≤ Z ∨ nm ≤ -Z) := fun c => hsk ⟨h1, c⟩
                          omega⟩
                      · exact .inl (by omega))
                    have SZB : Hid (Sz 1024 (mkRat Z B)) := Lib.hid ((sz_mk (z := Z) (D := B) (by omega) (by omega) (by omega)).up (by omega))
                    have LB1 : Hid (-1000000000 ≤ Z ∧ Z ≤ 1000000000 ∧ 0 < B ∧ B ≤ 1000000000) := Lib.hid ⟨by omega, by omega, by omega, by omega⟩
                    have L4 := Lib.hid (K4.out.after hbl2.out)
                    have L5 := Lib.hid (K5.out.after hbl2.out)
                    have QL7 := Lib.hid (QL.out.below hbl2.out)
                    have QH7 := Lib.hid (QH.out.below hbl2.out)
                    have T17 := Lib.hid (HT.out.below (HW.out.trans (hbl2.out.mono HW.out.size)))
                    obtain ⟨cA, hcA⟩ : ∃ x, cq lo (mkRat Z B) = x := ⟨_, rfl⟩
                    obtain ⟨dA, hdA⟩ : ∃ x, cq (mkRat Z B) hi = x := ⟨_, rfl⟩
                    have HCA := Lib.hid hcA
                    have HDA := Lib.hid hdA
                    have CMA : Hid (∀ W x, Rq W (mkRat Z B) x → Below w17.heap.size w17 W → Calls Tryz.prog 24 #[.agg #[.bool b4, .slice A4 n4 c4, .slice A4' n4' c4'], x] W fun e w' => e = .returned (.tuple #[.int .i64 cA, .int .i64 0]) ∧ Below W.heap.size W w') := Lib.hid fun W x hx h1 => by
                      have := ratCmpQ (QL7.out.below h1) hx (T17.out.below h1) (SL.out.sz.up (by omega)) SZB.out
                      rw [hcA] at this
                      exact this
                    have CMB : Hid (∀ W x, Rq W (mkRat Z B) x → Below w17.heap.size w17 W → Calls Tryz.prog 24 #[x, .agg #[.bool b5, .slice A5 n5 c5, .slice A5' n5' c5']] W fun e w' => e = .returned (.tuple #[.int .i64 dA, .int .i64 0]) ∧ Below W.heap.size W w') := Lib.hid fun W x hx h1 => by
                      have := ratCmpQ hx (QH7.out.below h1) (T17.out.below h1) SZB.out (SH.out.sz.up (by omega))
                      rw [hdA] at this
                      exact this
                    clear hcA hdA
                    have hcase : ((B : Int) == dn) = false ∨ (((B : Int) == dn) = true ∧ decide (nm ≤ Z) = false ∧ ¬ nm ≤ Z ∧ decide (nm ≤ -Z) = false ∧ ¬ nm ≤ -Z) := by
                      by_cases h1 : (B : Int) = dn
                      · have h2 : ¬ (nm ≤ Z ∨ nm ≤ -Z) := fun c => hsk ⟨h1, c⟩
                        exact .inr ⟨by rw [beq_iff_eq]; exact h1, decide_eq_false (by omega), by omega, decide_eq_false (by omega), by omega⟩
                      · exact .inl (by rw [beq_eq_false_iff_ne]; exact h1)
                    clear hsk
                    rcases hcase with hs1 | ⟨hs1, hs2, hs2', hs3, hs3'⟩
                    all_goals
                      as_aux_lemma =>
                        go_upto_region 21 with fail
                        have aKEEP : Hid (∀ W, Below w17.heap.size w17 W → (W.cell? ⟨P, 0, none⟩ = some (.bool b4) ∧ W.cell? ⟨P, 1, none⟩ = some (.slice A4 n4 c4) ∧ W.cell? ⟨P, 2, none⟩ = some (.slice A4' n4' c4') ∧ W.cell? ⟨P + 1, 0, none⟩ = some (.bool b5) ∧ W.cell? ⟨P + 1, 1, none⟩ = some (.slice A5 n5 c5) ∧ W.cell? ⟨P + 1, 2, none⟩ = some (.slice A5' n5' c5'))) := Lib.hid fun W h1 => ⟨(L4.out.after h1).cell rfl, (L4.out.after h1).cell rfl, (L4.out.after h1).cell rfl, (L5.out.after h1).cell rfl, (L5.out.after h1).cell rfl, (L5.out.after h1).cell rfl⟩
                        have ahdrew : Below w17.heap.size w17 w17.drew := (Below.refl _ _).drew
                        go_region_held3 (fun W => W.cell? ⟨P, 0, none⟩ = some (.bool b4) ∧ W.cell? ⟨P, 1, none⟩ = some (.slice A4 n4 c4) ∧ W.cell? ⟨P, 2, none⟩ = some (.slice A4' n4' c4') ∧ W.cell? ⟨P + 1, 0, none⟩ = some (.bool b5) ∧ W.cell? ⟨P + 1, 1, none⟩ = some (.slice A5 n5 c5) ∧ W.cell? ⟨P + 1, 2, none⟩ = some (.slice A5' n5' c5'))
                          (first | with_reducible exact aKEEP.out awq2 ahk2 | with_reducible exact aKEEP.out awq1 ahk1 | with_reducible exact aKEEP.out w17.drew ahdrew | go_keep)
                          (first
                            | (go_at_call 45; (with_reducible refine (ofN Z B LB1.out.1 LB1.out.2.1 LB1.out.2.2.1 LB1.out.2.2.2 w17.drew).mono ?_); rintro _ awq1 ⟨y, rfl, hy, ahb1⟩; have ahk1 := ahdrew.trans (ahb1.mono ahdrew.size); have HY := Lib.hid hy; obtain ⟨bY, AY, nY, cY, AY', nY', cY', rfl, _, _, _⟩ := hy.get; clear hy)
                            | (go_at_call 24; (with_reducible refine (CMA.out awq1 _ HY.out ahk1).mono ?_); rintro _ awq2 ⟨rfl, ahb2⟩; have ahk2 := ahk1.trans (ahb2.mono ahk1.size)))
                        replace L4 := Lib.hid (L4.out.after ahk2)
                        replace L5 := Lib.hid (L5.out.after ahk2)
                        have HA2 := Lib.hid ahk2
                        clear aKEEP HY
                        go_upto_region 22 with fail
                        have bKEEP : Hid (∀ W, Below awq2.heap.size awq2 W → (W.cell? ⟨P, 0, none⟩ = some (.bool b4) ∧ W.cell? ⟨P, 1, none⟩ = some (.slice A4 n4 c4) ∧ W.cell? ⟨P, 2, none⟩ = some (.slice A4' n4' c4') ∧ W.cell? ⟨P + 1, 0, none⟩ = some (.bool b5) ∧ W.cell? ⟨P + 1, 1, none⟩ = some (.slice A5 n5 c5) ∧ W.cell? ⟨P + 1, 2, none⟩ = some (.slice A5' n5' c5'))) := Lib.hid fun W h1 => ⟨(L4.out.after h1).cell rfl, (L4.out.after h1).cell rfl, (L4.out.after h1).cell rfl, (L5.out.after h1).cell rfl, (L5.out.after h1).cell rfl, (L5.out.after h1).cell rfl⟩
                        have bhdrew : Below awq2.heap.size awq2 awq2.drew := (Below.refl _ _).drew
                        go_region_held3 (fun W => W.cell? ⟨P, 0, none⟩ = some (.bool b4) ∧ W.cell? ⟨P, 1, none⟩ = some (.slice A4 n4 c4) ∧ W.cell? ⟨P, 2, none⟩ = some (.slice A4' n4' c4') ∧ W.cell? ⟨P + 1, 0, none⟩ = some (.bool b5) ∧ W.cell? ⟨P + 1, 1, none⟩ = some (.slice A5 n5 c5) ∧ W.cell? ⟨P + 1, 2, none⟩ = some (.slice A5' n5' c5'))
                          (first | with_reducible exact bKEEP.out bwq2 bhk2 | with_reducible exact bKEEP.out bwq1 bhk1 | with_reducible exact bKEEP.out awq2.drew bhdrew | go_keep)
                          (first
                            | (go_at_call 45; (with_reducible refine (ofN Z B LB1.out.1 LB1.out.2.1 LB1.out.2.2.1 LB1.out.2.2.2 awq2.drew).mono ?_); rintro _ bwq1 ⟨y, rfl, hy, bhb1⟩; have bhk1 := bhdrew.trans (bhb1.mono bhdrew.size); have HY := Lib.hid hy; obtain ⟨bY2, AY2, nY2, cY2, AY2', nY2', cY2', rfl, _, _, _⟩ := hy.get; clear hy)
                            | (go_at_call 24; (with_reducible refine (CMB.out bwq1 _ HY.out (HA2.out.trans (bhk1.mono HA2.out.size))).mono ?_); rintro _ bwq2 ⟨rfl, bhb2⟩; have bhk2 := bhk1.trans (bhb2.mono bhk1.size)))
                        have HB2 := Lib.hid (hbl2.out.trans ((HA2.out.trans (bhk2.mono HA2.out.size)).mono hbl2.out.size))
                        have hnd : cA ≤ 0 → ¬ dA ≤ 0 := by
                          intro u1 u2
                          refine NONE.out ⟨?_, ?_⟩
                          · rw [← HCA.out] at u1
                            rcases tri lo (mkRat Z B) with k | k | k
                            · exact Rat.le_of_lt k
                            · rw [k]; exact Rat.le_refl
                            · rw [cq_gt k] at u1; omega
                          · rw [← HDA.out] at u2
                            rcases tri (mkRat Z B) hi with k | k | k
                            · exact Rat.le_of_lt k
                            · rw [k]; exact Rat.le_refl
                            · rw [cq_gt k] at u2; omega
                        clear bKEEP HY CMA CMB NONE HCA HDA LB1 SZB
                        by_cases hA : cA ≤ 0
                        · have e1 : decide (cA ≤ 0) = true := decide_eq_true hA
                          have e3 : ¬ dA ≤ 0 := hnd hA
                          have e2 : decide (dA ≤ 0) = false := decide_eq_false e3
                          clear hnd
                          go_wp2_with fail
                          go_roundw
                          case rel => exact ⟨Z + 1, by omega, by omega, rfl, HB2⟩
                          case measure => simp [intOf] <;> omega
                        · have e1 : decide (cA ≤ 0) = false := decide_eq_false hA
                          clear hnd
                          go_wp2_with fail
                          go_roundw
                          case rel => exact ⟨Z + 1, by omega, by omega, rfl, HB2⟩
                          case measure => simp [intOf] <;> omega
                · have hex : decide (Z ≤ 20 * (B : Int)) = false := decide_eq_false hZ
                  go_wp2_with fail
                  go_roundw
                  case rel => exact ⟨B + 1, by omega, by omega, by simp, hbl2⟩
                  case measure => simp [intOf] <;> omega
            · have hex : decide ((B : Int) ≤ dn) = false := decide_eq_false hBd
              have hb := hbl.out
              replace QL := Lib.hid (QL.out.below hb)
              replace QH := Lib.hid (QH.out.below hb)
              replace QM := Lib.hid (QM.out.below hb)
              replace QX := Lib.hid (QX.out.below hb)
              replace K4 := Lib.hid (K4.out.after hb)
              replace K5 := Lib.hid (K5.out.after hb)
              replace K6 := Lib.hid (K6.out.after hb)
              replace K7 := Lib.hid (K7.out.after hb)
              replace HW := Lib.hid (HW.out.trans (hb.mono HW.out.size))
              clear hb
              have T16 := Lib.hid (HT.out.below HW.out)
              have HLE2 := Lib.hid (Rat.le_trans HLE.out (show hi ≤ hi + q3 by have := P3.out; grind))
              have C1 : Hid (∀ W, Below w16.heap.size w16 W → _) := Lib.hid fun W (h1 : Below w16.heap.size w16 W) => lawsumQ (QH.out.below h1) (QM.out.below h1) (T16.out.below h1) SH.out.sz S3.out.sz (by omega)
              have C2 : Hid (∀ W0 W x, Below w16.heap.size w16 W0 → Below W0.heap.size W0 W → Rq W0 (hi + q3) x → _) := Lib.hid fun W0 W x (h0 : Below w16.heap.size w16 W0) (h1 : Below W0.heap.size W0 W) (hx : Rq W0 (hi + q3) x) => ratSimpleQ (QL.out.below (h0.trans (h1.mono h0.size))) (hx.below h1) (T16.out.below (h0.trans (h1.mono h0.size))) (SL.out.sz.up (by omega)) ((SH.out.sz.add S3.out.sz).up (by omega)) HLE2.out
              go_upto_region 25 with fail
              have KEEP : Hid (∀ W, Below w16.heap.size w16 W → (W.cell? ⟨P, 0, none⟩ = some (.bool b4) ∧ W.cell? ⟨P, 1, none⟩ = some (.slice A4 n4 c4) ∧ W.cell? ⟨P, 2, none⟩ = some (.slice A4' n4' c4') ∧ W.cell? ⟨P + 1, 0, none⟩ = some (.bool b5) ∧ W.cell? ⟨P + 1, 1, none⟩ = some (.slice A5 n5 c5) ∧ W.cell? ⟨P + 1, 2, none⟩ = some (.slice A5' n5' c5') ∧ W.cell? ⟨P + 1 + 1, 0, none⟩ = some (.bool b3) ∧ W.cell? ⟨P + 1 + 1, 1, none⟩ = some (.slice A3 n3 c3) ∧ W.cell? ⟨P + 1 + 1, 2, none⟩ = some (.slice A3' n3' c3') ∧ Below w16.heap.size w16 W)) := Lib.hid fun W h1 => ⟨(K4.out.after h1).cell rfl, (K4.out.after h1).cell rfl, (K4.out.after h1).cell rfl, (K5.out.after h1).cell rfl, (K5.out.after h1).cell rfl, (K5.out.after h1).cell rfl, (K6.out.after h1).cell rfl, (K6.out.after h1).cell rfl, (K6.out.after h1).cell rfl, h1⟩
              have NEXT : Hid (∀ W W', (W.cell? ⟨P, 0, none⟩ = some (.bool b4) ∧ W.cell? ⟨P, 1, none⟩ = some (.slice A4 n4 c4) ∧ W.cell? ⟨P, 2, none⟩ = some (.slice A4' n4' c4') ∧ W.cell? ⟨P + 1, 0, none⟩ = some (.bool b5) ∧ W.cell? ⟨P + 1, 1, none⟩ = some (.slice A5 n5 c5) ∧ W.cell? ⟨P + 1, 2, none⟩ = some (.slice A5' n5' c5') ∧ W.cell? ⟨P + 1 + 1, 0, none⟩ = some (.bool b3) ∧ W.cell? ⟨P + 1 + 1, 1, none⟩ = some (.slice A3 n3 c3) ∧ W.cell? ⟨P + 1 + 1, 2, none⟩ = some (.slice A3' n3' c3') ∧ Below w16.heap.size w16 W) → Below W.heap.size W W' → (W'.cell? ⟨P, 0, none⟩ = some (.bool b4) ∧ W'.cell? ⟨P, 1, none⟩ = some (.slice A4 n4 c4) ∧ W'.cell? ⟨P, 2, none⟩ = some (.slice A4' n4' c4') ∧ W'.cell? ⟨P + 1, 0, none⟩ = some (.bool b5) ∧ W'.cell? ⟨P + 1, 1, none⟩ = some (.slice A5 n5 c5) ∧ W'.cell? ⟨P + 1, 2, none⟩ = some (.slice A5' n5' c5') ∧ W'.cell? ⟨P + 1 + 1, 0, none⟩ = some (.bool b3) ∧ W'.cell? ⟨P + 1 + 1, 1, none⟩ = some (.slice A3 n3 c3) ∧ W'.cell? ⟨P + 1 + 1, 2, none⟩ = some (.slice A3' n3' c3') ∧ Below w16.heap.size w16 W')) := Lib.hid fun W W' h hb => KEEP.out W' (h.2.2.2.2.2.2.2.2.2.trans (hb.mono h.2.2.2.2.2.2.2.2.2.size))
              have ALL : Hid (∀ W o, (W.cell? ⟨P, 0, none⟩ = some (.bool b4) ∧ W.cell? ⟨P, 1, none⟩ = some (.slice A4 n4 c4) ∧ W.cell? ⟨P, 2, none⟩ = some (.slice A4' n4' c4') ∧ W.cell? ⟨P + 1, 0, none⟩ = some (.bool b5) ∧ W.cell? ⟨P + 1, 1, none⟩ = some (.slice A5 n5 c5) ∧ W.cell? ⟨P + 1, 2, none⟩ = some (.slice A5' n5' c5') ∧ W.cell? ⟨P + 1 + 1, 0, none⟩ = some (.bool b3) ∧ W.cell? ⟨P + 1 + 1, 1, none⟩ = some (.slice A3 n3 c3) ∧ W.cell? ⟨P + 1 + 1, 2, none⟩ = some (.slice A3' n3' c3') ∧ Below w16.heap.size w16 W) → ((W.alloc o).cell? ⟨P, 0, none⟩ = some (.bool b4) ∧ (W.alloc o).cell? ⟨P, 1, none⟩ = some (.slice A4 n4 c4) ∧ (W.alloc o).cell? ⟨P, 2, none⟩ = some (.slice A4' n4' c4') ∧ (W.alloc o).cell? ⟨P + 1, 0, none⟩ = some (.bool b5) ∧ (W.alloc o).cell? ⟨P + 1, 1, none⟩ = some (.slice A5 n5 c5) ∧ (W.alloc o).cell? ⟨P + 1, 2, none⟩ = some (.slice A5' n5' c5') ∧ (W.alloc o).cell? ⟨P + 1 + 1, 0, none⟩ = some (.bool b3) ∧ (W.alloc o).cell? ⟨P + 1 + 1, 1, none⟩ = some (.slice A3 n3 c3) ∧ (W.alloc o).cell? ⟨P + 1 + 1, 2, none⟩ = some (.slice A3' n3' c3') ∧ Below w16.heap.size w16 (W.alloc o))) := Lib.hid fun W o h => NEXT.out W _ h (below1 W o)
              have ALC : Hid (∀ W w', (W.cell? ⟨P, 0, none⟩ = some (.bool b4) ∧ W.cell? ⟨P, 1, none⟩ = some (.slice A4 n4 c4) ∧ W.cell? ⟨P, 2, none⟩ = some (.slice A4' n4' c4') ∧ W.cell? ⟨P + 1, 0, none⟩ = some (.bool b5) ∧ W.cell? ⟨P + 1, 1, none⟩ = some (.slice A5 n5 c5) ∧ W.cell? ⟨P + 1, 2, none⟩ = some (.slice A5' n5' c5') ∧ W.cell? ⟨P + 1 + 1, 0, none⟩ = some (.bool b3) ∧ W.cell? ⟨P + 1 + 1, 1, none⟩ = some (.slice A3 n3 c3) ∧ W.cell? ⟨P + 1 + 1, 2, none⟩ = some (.slice A3' n3' c3') ∧ Below w16.heap.size w16 W) → Below (W.alloc (.cells #[.bool false, .slice none 0 0, .slice none 0 0] 25)).heap.size (W.alloc (.cells #[.bool false, .slice none 0 0, .slice none 0 0] 25)) w' → Blk w' W.heap.size 25 #[.bool false, .slice none 0 0, .slice none 0 0] ∧ w16.heap.size ≤ W.heap.size) := Lib.hid fun W w' h hb => ⟨(Blk.new W _ _).after hb, h.2.2.2.2.2.2.2.2.2.size⟩
              have STO : Hid (∀ W p x y z, (W.cell? ⟨P, 0, none⟩ = some (.bool b4) ∧ W.cell? ⟨P, 1, none⟩ = some (.slice A4 n4 c4) ∧ W.cell? ⟨P, 2, none⟩ = some (.slice A4' n4' c4') ∧ W.cell? ⟨P + 1, 0, none⟩ = some (.bool b5) ∧ W.cell? ⟨P + 1, 1, none⟩ = some (.slice A5 n5 c5) ∧ W.cell? ⟨P + 1, 2, none⟩ = some (.slice A5' n5' c5') ∧ W.cell? ⟨P + 1 + 1, 0, none⟩ = some (.bool b3) ∧ W.cell? ⟨P + 1 + 1, 1, none⟩ = some (.slice A3 n3 c3) ∧ W.cell? ⟨P + 1 + 1, 2, none⟩ = some (.slice A3' n3' c3') ∧ Below w16.heap.size w16 W) → w16.heap.size ≤ p → ((((W.setCell ⟨p, 0, none⟩ x).setCell ⟨p, 1, none⟩ y).setCell ⟨p, 2, none⟩ z).cell? ⟨P, 0, none⟩ = some (.bool b4) ∧ (((W.setCell ⟨p, 0, none⟩ x).setCell ⟨p, 1, none⟩ y).setCell ⟨p, 2, none⟩ z).cell? ⟨P, 1, none⟩ = some (.slice A4 n4 c4) ∧ (((W.setCell ⟨p, 0, none⟩ x).setCell ⟨p, 1, none⟩ y).setCell ⟨p, 2, none⟩ z).cell? ⟨P, 2, none⟩ = some (.slice A4' n4' c4') ∧ (((W.setCell ⟨p, 0, none⟩ x).setCell ⟨p, 1, none⟩ y).setCell ⟨p, 2, none⟩ z).cell? ⟨P + 1, 0, none⟩ = some (.bool b5) ∧ (((W.setCell ⟨p, 0, none⟩ x).setCell ⟨p, 1, none⟩ y).setCell ⟨p, 2, none⟩ z).cell? ⟨P + 1, 1, none⟩ = some (.slice A5 n5 c5) ∧ (((W.setCell ⟨p, 0, none⟩ x).setCell ⟨p, 1, none⟩ y).setCell ⟨p, 2, none⟩ z).cell? ⟨P + 1, 2, none⟩ = some (.slice A5' n5' c5') ∧ (((W.setCell ⟨p, 0, none⟩ x).setCell ⟨p, 1, none⟩ y).setCell ⟨p, 2, none⟩ z).cell? ⟨P + 1 + 1, 0, none⟩ = some (.bool b3) ∧ (((W.setCell ⟨p, 0, none⟩ x).setCell ⟨p, 1, none⟩ y).setCell ⟨p, 2, none⟩ z).cell? ⟨P + 1 + 1, 1, none⟩ = some (.slice A3 n3 c3) ∧ (((W.setCell ⟨p, 0, none⟩ x).setCell ⟨p, 1, none⟩ y).setCell ⟨p, 2, none⟩ z).cell? ⟨P + 1 + 1, 2, none⟩ = some (.slice A3' n3' c3') ∧ Below w16.heap.size w16 (((W.setCell ⟨p, 0, none⟩ x).setCell ⟨p, 1, none⟩ y).setCell ⟨p, 2, none⟩ z))) := Lib.hid fun W p x y z h hg => KEEP.out _ (((h.2.2.2.2.2.2.2.2.2.setCell hg _).setCell hg _).setCell hg _)
              have hdrew := KEEP.out w16.drew (Below.refl _ _).drew
              have hdrewA := KEEP.out ((w16.alloc (.cells #[.bool false, .slice none 0 0, .slice none 0 0] 25)).drew) (below1 w16 _).drew
              have ALD : Hid (∀ w', Below ((w16.alloc (.cells #[.bool false, .slice none 0 0, .slice none 0 0] 25)).drew).heap.size ((w16.alloc (.cells #[.bool false, .slice none 0 0, .slice none 0 0] 25)).drew) w' → Blk w' w16.heap.size 25 #[.bool false, .slice none 0 0, .slice none 0 0] ∧ w16.heap.size ≤ w16.heap.size) := Lib.hid fun w' hb => ⟨Blk.after (show Blk ((w16.alloc (.cells #[.bool false, .slice none 0 0, .slice none 0 0] 25)).drew) w16.heap.size 25 #[.bool false, .slice none 0 0, .slice none 0 0] from Blk.new w16 _ _) hb, Nat.le_refl _⟩
              go_cut [23, 8] (fun p e wx => ∃ g s4 B4 m4 d4 B4' m4' d4', p = .pointer (some ⟨g, 0, none⟩) ∧ e = .int .i64 0 ∧ Hid (Blk wx g 25 #[.bool s4, .slice B4 m4 d4, .slice B4' m4' d4']) ∧ Hid (Rq wx (sQ lo (hi + q3)) (.agg #[.bool s4, .slice B4 m4 d4, .slice B4' m4' d4'])) ∧ Hid (Below w16.heap.size w16 wx ∧ w16.heap.size ≤ g))
              case first =>
                as_aux_lemma =>
                  go_region_held3 (fun W => W.cell? ⟨P, 0, none⟩ = some (.bool b4) ∧ W.cell? ⟨P, 1, none⟩ = some (.slice A4 n4 c4) ∧ W.cell? ⟨P, 2, none⟩ = some (.slice A4' n4' c4') ∧ W.cell? ⟨P + 1, 0, none⟩ = some (.bool b5) ∧ W.cell? ⟨P + 1, 1, none⟩ = some (.slice A5 n5 c5) ∧ W.cell? ⟨P + 1, 2, none⟩ = some (.slice A5' n5' c5') ∧ W.cell? ⟨P + 1 + 1, 0, none⟩ = some (.bool b3) ∧ W.cell? ⟨P + 1 + 1, 1, none⟩ = some (.slice A3 n3 c3) ∧ W.cell? ⟨P + 1 + 1, 2, none⟩ = some (.slice A3' n3' c3') ∧ Below w16.heap.size w16 W)
                    (first | with_reducible assumption | with_reducible exact ALL.out _ _ (by with_reducible assumption) | with_reducible exact STO.out _ _ _ _ _ (by with_reducible assumption) hge)
                    (first
                      | (go_at_call 50; (with_reducible refine (C1.out ((w16.alloc (.cells #[.bool false, .slice none 0 0, .slice none 0 0] 25)).drew) ((show _ ∧ _ ∧ _ ∧ _ ∧ _ ∧ _ ∧ _ ∧ _ ∧ _ ∧ _ from by with_reducible assumption).2.2.2.2.2.2.2.2.2)).mono ?_); rintro _ y1 ⟨x1, rfl, hx1, hby1⟩; have HX1 := Lib.hid hx1; clear hx1; have hS := NEXT.out _ _ (by with_reducible assumption) hby1; obtain ⟨hA, hge⟩ := ALD.out _ hby1; have e0_ := hA.cell (i := 0) rfl; have e1_ := hA.cell (i := 1) rfl; have e2_ := hA.cell (i := 2) rfl; have hfA := hA.free; have hlA := hA.lt)
                      | (go_at_call 50; (with_reducible refine (C1.out (World.alloc _ (.cells #[.bool false, .slice none 0 0, .slice none 0 0] 25)) ((show _ ∧ _ ∧ _ ∧ _ ∧ _ ∧ _ ∧ _ ∧ _ ∧ _ ∧ _ from by with_reducible assumption).2.2.2.2.2.2.2.2.2)).mono ?_); rintro _ y1 ⟨x1, rfl, hx1, hby1⟩; have HX1 := Lib.hid hx1; clear hx1; have hS := NEXT.out _ _ (by with_reducible assumption) hby1; obtain ⟨hA, hge⟩ := ALC.out _ _ (by with_reducible assumption) hby1; have e0_ := hA.cell (i := 0) rfl; have e1_ := hA.cell (i := 1) rfl; have e2_ := hA.cell (i := 2) rfl; have hfA := hA.free; have hlA := hA.lt)
                      | (go_at_call 50; (with_reducible refine (C1.out _ ((show _ ∧ _ ∧ _ ∧ _ ∧ _ ∧ _ ∧ _ ∧ _ ∧ _ ∧ _ from by with_reducible assumption).2.2.2.2.2.2.2.2.2)).mono ?_); rintro _ y1 ⟨x1, rfl, hx1, hby1⟩; have HX1 := Lib.hid hx1; clear hx1; have hS := NEXT.out _ _ (by with_reducible assumption) hby1; replace hA := hA.after hby1; have e0_ := hA.cell (i := 0) rfl; have e1_ := hA.cell (i := 1) rfl; have e2_ := hA.cell (i := 2) rfl; have hfA := hA.free; have hlA := hA.lt)
                      | (go_at_call 50; (with_reducible refine (C1.out _ ((show _ ∧ _ ∧ _ ∧ _ ∧ _ ∧ _ ∧ _ ∧ _ ∧ _ ∧ _ from by with_reducible assumption).2.2.2.2.2.2.2.2.2)).mono ?_); rintro _ y1 ⟨x1, rfl, hx1, hby1⟩; have HX1 := Lib.hid hx1; clear hx1; have hS := NEXT.out _ _ (by with_reducible assumption) hby1)
                      | (go_at_call 38; (with_reducible refine (C2.out y1 (World.alloc _ (.cells #[.bool false, .slice none 0 0, .slice none 0 0] 25)) x1 hS.2.2.2.2.2.2.2.2.2 (by first | with_reducible exact Below.refl _ _ | with_reducible exact below1 _ _) HX1.out).mono ?_); rintro _ y2 ⟨x2, rfl, hx2, hby2⟩; obtain ⟨b9, A9, n9, c9, A9', n9', c9', rfl, _, _, _⟩ := hx2.get; have HX2 := Lib.hid hx2; clear hx2; have hS := NEXT.out _ _ (by with_reducible assumption) hby2; obtain ⟨hA, hge⟩ := ALC.out _ _ (by with_reducible assumption) hby2; have e0_ := hA.cell (i := 0) rfl; have e1_ := hA.cell (i := 1) rfl; have e2_ := hA.cell (i := 2) rfl; have hfA := hA.free; have hlA := hA.lt)
                      | (go_at_call 38; (with_reducible refine (C2.out y1 _ x1 hS.2.2.2.2.2.2.2.2.2 (by first | with_reducible exact Below.refl _ _ | with_reducible exact below1 _ _) HX1.out).mono ?_); rintro _ y2 ⟨x2, rfl, hx2, hby2⟩; obtain ⟨b9, A9, n9, c9, A9', n9', c9', rfl, _, _, _⟩ := hx2.get; have HX2 := Lib.hid hx2; clear hx2; have hS := NEXT.out _ _ (by with_reducible assumption) hby2; replace hA := hA.after hby2; have e0_ := hA.cell (i := 0) rfl; have e1_ := hA.cell (i := 1) rfl; have e2_ := hA.cell (i := 2) rfl; have hfA := hA.free; have hlA := hA.lt)
                      | (go_at_call 38; (with_reducible refine (C2.out y1 _ x1 hS.2.2.2.2.2.2.2.2.2 (by first | with_reducible exact Below.refl _ _ | with_reducible exact below1 _ _) HX1.out).mono ?_); rintro _ y2 ⟨x2, rfl, hx2, hby2⟩; obtain ⟨b9, A9, n9, c9, A9', n9', c9', rfl, _, _, _⟩ := hx2.get; have HX2 := Lib.hid hx2; clear hx2; have hS := NEXT.out _ _ (by with_reducible assumption) hby2))
                  all_goals
                    go_wp2_with fail
                    go_meet
                    first
                      | (have k := hA.lrow (.bool b9) (.slice A9 n9 c9) (.slice A9' n9' c9'); have h := STO.out _ _ (.bool b9) (.slice A9 n9 c9) (.slice A9' n9' c9') hS hge; obtain ⟨g1, g2, g3⟩ := HX2.out.inv; have hq := Rq.mk g3 rfl rfl (g1.put3 (i := 0) (j := 1) (l := 2) (u := .bool b9) (x := .slice A9 n9 c9) (y := .slice A9' n9' c9') hA (hnoR _ _ _ _ _ _ _)) (g2.put3 (i := 0) (j := 1) (l := 2) (u := .bool b9) (x := .slice A9 n9 c9) (y := .slice A9' n9' c9') hA (hnoR _ _ _ _ _ _ _)); with_reducible exact ⟨_, _, _, _, _, _, _, _, rfl, rfl, Lib.hid k, Lib.hid hq, Lib.hid ⟨h.2.2.2.2.2.2.2.2.2, hge⟩⟩)
                      | (have k := Blk.new y2 #[.bool b9, .slice A9 n9 c9, .slice A9' n9' c9'] 25; have h := ALL.out _ (.cells #[.bool b9, .slice A9 n9 c9, .slice A9' n9' c9'] 25) hS; have hq := HX2.out.below (below1 y2 (.cells #[.bool b9, .slice A9 n9 c9, .slice A9' n9' c9'] 25)); with_reducible exact ⟨_, _, _, _, _, _, _, _, rfl, rfl, Lib.hid k, Lib.hid hq, Lib.hid ⟨h.2.2.2.2.2.2.2.2.2, hS.2.2.2.2.2.2.2.2.2.size⟩⟩)
              case rest =>
                as_aux_lemma =>
                  obtain ⟨P9, b9, A9, n9, c9, A9', n9', c9', rfl, rfl, K9, R9, hk⟩ := hcut
                  have hb := hk.out.1
                  generalize wc = w20 at *
                  replace K7 := Lib.hid (K7.out.after hb)
                  replace QX := Lib.hid (QX.out.below hb)
                  replace HW := Lib.hid (HW.out.trans (hb.mono HW.out.size))
                  clear hb hk KEEP NEXT ALL ALC STO hdrew hdrewA ALD C1 C2 K4 K5 K6 QL QH QM
                  obtain ⟨Y, hY⟩ : ∃ y, sQ lo (hi + q3) = y := ⟨_, rfl⟩
                  have YLE : Y.den ≤ X.den := by
                    rw [← hY, ← HXX.out]
                    exact sQ_mono HLE.out P3.out (SL.out.sz.up (by omega)) (SH.out.sz.up (by omega)) ((SH.out.sz.add S3.out.sz).up (by omega))
                  rw [hY] at R9
                  clear hY
                  obtain ⟨_, y2, _⟩ := R9.out.inv
                  obtain ⟨_, x2, _⟩ := QX.out.inv
                  have hxd := SX.out.d
                  obtain ⟨rfl, bY9, oY9, rfl, hby, hcy1, hcy2, hcy⟩ := y2.one_limb Y.den_nz (by rw [LB_eq]; omega)
                  obtain ⟨_, bX9, oX9, eX, hbx, hcx1, hcx2, hcx⟩ := x2.one_limb X.den_nz (by rw [LB_eq]; omega)
                  cases eX
                  have hle : decide (iv Y.den ≤ iv X.den) = true := decide_eq_true (by rw [iv_eq, iv_eq]; omega)
                  have hle' : iv Y.den ≤ iv X.den := by rw [iv_eq, iv_eq]; omega
                  have d92 := K9.out.cell (i := 2) rfl
                  have d72 := K7.out.cell (i := 2) rfl
                  have T20 := Lib.hid (HT.out.below HW.out)
                  generalize iv Y.den = yd at *
                  generalize iv X.den = xd at *
                  have HBY := Lib.hid hby
                  have HBX := Lib.hid hbx
                  have HCY := Lib.hid hcy
                  have HCX := Lib.hid hcx
                  clear y2 x2 hxd YLE R9 QX hby hbx d92 d72 hcy hcx
                  go_upto_region 26 with fail
                  have KEEP : Hid (∀ W, Below w20.heap.size w20 W → (W.cell? ⟨P9, 2, none⟩ = some (.slice (some ⟨bY9, oY9, none⟩) 1 c9') ∧ W.cell? ⟨bY9, oY9, none⟩ = some (.int .u32 yd) ∧ W.cell? ⟨P7, 2, none⟩ = some (.slice (some ⟨bd, od, none⟩) 1 c7') ∧ W.cell? ⟨bd, od, none⟩ = some (.int .u32 xd))) := Lib.hid fun W h1 => ⟨(K9.out.after h1).cell rfl, (h1.cell HBY.out).trans HCY.out, (K7.out.after h1).cell rfl, (h1.cell HBX.out).trans HCX.out⟩
                  have hdrew : Below w20.heap.size w20 w20.drew := (Below.refl _ _).drew
                  go_region_held3 (fun W => W.cell? ⟨P9, 2, none⟩ = some (.slice (some ⟨bY9, oY9, none⟩) 1 c9') ∧ W.cell? ⟨bY9, oY9, none⟩ = some (.int .u32 yd) ∧ W.cell? ⟨P7, 2, none⟩ = some (.slice (some ⟨bd, od, none⟩) 1 c7') ∧ W.cell? ⟨bd, od, none⟩ = some (.int .u32 xd))
                    (first | with_reducible exact KEEP.out w20.drew hdrew | with_reducible exact KEEP.out wq1 hk1 | go_keep)
                    (first
                      | (go_at_call 13; (with_reducible refine (awakeN (T20.out.below hdrew)).mono ?_); rintro _ wq1 ⟨rfl, hb1⟩; have hk1 := hdrew.trans (hb1.mono hdrew.size)))
                  go_wp2_with fail
                  go_ret
                  exact ⟨rfl, HW.out.trans (hk1.mono HW.out.size)⟩
end Go.Proofs.YtmcacofpnnaplaaGreatDoor

/- What a list of ints among the arguments reads. Condition as a premise: it is such a list. -/
namespace Go.Proofs.YtmcacofpnnaplaaGreatDoor
open Go.ChangeShapes Go.WideShapes Go.ChangeAt Go.RowKit

theorem IsRow.ri {w : World} {a : Option Addr} {len cap : Nat} {zs : List Int} (h : IsRow .i64 w a len cap zs) : ∃ f, Ri w w.heap.size a len cap f := by
  rcases h with ⟨rfl, rfl, rfl, rfl⟩ | ⟨x, rfl, hl, hm, hz, hc, hw⟩
  · exact ⟨fun _ => 0, Nat.le_refl _, by omega, fun j h => by omega, fun h => by omega⟩
  · have hb : ∀ j, j < zs.length → -9223372036854775808 ≤ zs.getD j 0 ∧ zs.getD j 0 ≤ 9223372036854775807 := fun j hj => by
      have h1 : zs.getD j 0 ∈ zs := by simp [List.getD, hj]
      have h2 := hw _ h1
      have h3 := bounds_i64 h2
      omega
    refine ⟨fun j => zs.getD j 0, hl, by unfold maxLen at hm; omega, fun j hj => hb j (by omega), fun h0 => ?_⟩
    obtain ⟨b, off, spot⟩ := x
    have h0' := hc 0 (by omega)
    have hspot : spot = none := by simpa [Addr.add] using World.cell?_spot h0'
    subst hspot
    refine ⟨b, off, rfl, ?_, fun j hj => ?_⟩
    · have := cell_lt h0'
      simpa [Addr.add] using this
    · have h1 := hc j (by omega)
      have e : (⟨b, off, none⟩ : Addr).add j = ⟨b, off + j, none⟩ := by unfold Addr.add; split <;> simp_all
      rw [e] at h1
      exact h1
end Go.Proofs.YtmcacofpnnaplaaGreatDoor

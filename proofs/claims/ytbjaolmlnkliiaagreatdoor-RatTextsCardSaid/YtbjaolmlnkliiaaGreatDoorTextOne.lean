/- The contracts of the functions under the laws of package rat: Ten, Ten2, DoorDigits, DoorText, DoorText2, DoorParse, DoorRefParse, DoorRefText, DoorRefText2, DoorCallsWalk, DoorTextsWalk, Ten3, joined into one file. -/
import Derived.Test.YtbjaolmlnkliiaaGreatDoorNatA
import Derived.Test.YtbjaolmlnkliiaaGreatDoorNatD
import Derived.Laws.Rows
import Derived.Laws.BytesArg
import Derived.BigRegion
import Derived.Test.YtbjaolmlnkliiaaGreatDoorRatFour
import Derived.Test.YtbjaolmlnkliiaaGreatDoorRatOne
/- Plain numbers: decimal digits. No conditions. -/
namespace Go.Proofs.YtbjaolmlnkliiaaGreatDoor

theorem LB_ten : LB = 10 ^ 9 := by rw [LB_eq]
theorem LB_pow (k : Nat) : LB ^ k = 10 ^ (9 * k) := by rw [LB_ten, ← Nat.pow_mul]
theorem ten_le {a b : Nat} (h : a ≤ b) : 10 ^ a ≤ 10 ^ b := Nat.pow_le_pow_right (by omega) h
theorem ten_pos (a : Nat) : 0 < 10 ^ a := Nat.pow_pos (by omega)

/-- N has L decimal digits -/
structure IsLen (N L : Nat) : Prop where
  pos : 1 ≤ L
  lt : N < 10 ^ L
  ge : 1 < L → 10 ^ (L - 1) ≤ N

theorem IsLen.unique {N L M : Nat} (h : IsLen N L) (k : IsLen N M) : L = M := by
  rcases Nat.lt_trichotomy L M with e | e | e
  · have h1 := k.ge (by have := h.pos; omega)
    have h2 : 10 ^ L ≤ 10 ^ (M - 1) := ten_le (by omega)
    have := h.lt
    omega
  · exact e
  · have h1 := h.ge (by have := k.pos; omega)
    have h2 : 10 ^ M ≤ 10 ^ (L - 1) := ten_le (by omega)
    have := k.lt
    omega

/-- how many of the first k powers of ten are not above t -/
def cnt (t : Nat) : Nat → Nat
  | 0 => 0
  | k + 1 => cnt t k + (if 10 ^ k ≤ t then 1 else 0)

theorem cnt_le (t : Nat) : ∀ k, cnt t k ≤ k
  | 0 => Nat.le_refl _
  | k + 1 => by have := cnt_le t k; rw [cnt]; split <;> omega

theorem cnt_spec (t : Nat) (h : 1 ≤ t) : ∀ k, (cnt t k = k ∧ (1 ≤ k → 10 ^ (k - 1) ≤ t)) ∨ (1 ≤ cnt t k ∧ 10 ^ (cnt t k - 1) ≤ t ∧ t < 10 ^ cnt t k ∧ cnt t k ≤ k)
  | 0 => .inl ⟨rfl, fun h => by omega⟩
  | k + 1 => by
    rcases cnt_spec t h k with ⟨e, h1⟩ | ⟨h1, h2, h3, h4⟩
    · by_cases hk : 10 ^ k ≤ t
      · left
        rw [cnt, if_pos hk, e]
        exact ⟨rfl, fun _ => hk⟩
      · right
        rw [cnt, if_neg hk, e, Nat.add_zero]
        have hk1 : 1 ≤ k := by
          rcases Nat.eq_zero_or_pos k with h0 | h0
          · subst h0; simp at hk; omega
          · exact h0
        exact ⟨hk1, h1 hk1, by omega, by omega⟩
    · right
      have : ¬ 10 ^ k ≤ t := by
        have := ten_le h4
        omega
      rw [cnt, if_neg this, Nat.add_zero]
      exact ⟨h1, h2, h3, by omega⟩

theorem cnt_nine {t : Nat} (h : 1 ≤ t) (hl : t < LB) : 1 ≤ cnt t 9 ∧ cnt t 9 ≤ 9 ∧ 10 ^ (cnt t 9 - 1) ≤ t ∧ t < 10 ^ cnt t 9 := by
  rcases cnt_spec t h 9 with ⟨e, h1⟩ | ⟨h1, h2, h3, h4⟩
  · rw [e]; exact ⟨by omega, by omega, h1 (by omega), by rw [← LB_ten]; exact hl⟩
  · exact ⟨h1, h4, h2, h3⟩

/-- the number of digits of a valid list -/
theorem len_of_val {n : Nat} {f : Nat → Nat} (h : Val n f) (hn : 0 < n) : IsLen (nv f n) (9 * (n - 1) + cnt (f (n - 1)) 9) := by
  obtain ⟨m, rfl⟩ : ∃ m, n = m + 1 := ⟨n - 1, by omega⟩
  simp only [Nat.add_sub_cancel]
  have ht := h.2 hn
  simp only [Nat.add_sub_cancel] at ht
  obtain ⟨h1, h2, h3, h4⟩ := cnt_nine (t := f m) (by omega) (h.1 m (by omega))
  have hl := nv_lt m (fun j hj => h.1 j (by omega))
  have hp : LB ^ m = 10 ^ (9 * m) := LB_pow m
  refine ⟨by omega, ?_, fun _ => ?_⟩
  · rw [nv, Nat.pow_add, ← hp]
    have : (f m + 1) * LB ^ m ≤ 10 ^ cnt (f m) 9 * LB ^ m := Nat.mul_le_mul_right _ h4
    rw [Nat.add_mul] at this
    rw [Nat.mul_comm (LB ^ m)]
    omega
  · rw [nv, show 9 * m + cnt (f m) 9 - 1 = 9 * m + (cnt (f m) 9 - 1) by omega, Nat.pow_add, ← hp]
    have : 10 ^ (cnt (f m) 9 - 1) * LB ^ m ≤ f m * LB ^ m := Nat.mul_le_mul_right _ h3
    rw [Nat.mul_comm (LB ^ m)]
    omega

theorem len_zero : IsLen 0 1 := ⟨Nat.le_refl _, by omega, fun h => by omega⟩

/-- a limb of a list is what the number says -/
theorem limb_of_nv {n i : Nat} {f : Nat → Nat} (h : ∀ j, j < n → f j < LB) (hi : i < n) : nv f n / LB ^ i % LB = f i := by
  have key : ∀ m, i ≤ m → m ≤ n → nv f m / LB ^ i = nv (fun j => f (j + i)) (m - i) := by
    intro m
    induction m with
    | zero =>
      intro h1 h2
      obtain rfl : i = 0 := by omega
      simp [nv]
    | succ m ih =>
      intro h1 h2
      by_cases e : i = m + 1
      · subst e
        rw [Nat.sub_self, Nat.div_eq_of_lt (nv_lt (m + 1) (fun j hj => h j (by omega)))]
        rfl
      · have := ih (by omega) (by omega)
        rw [nv, show m + 1 - i = (m - i) + 1 by omega, nv, ← this, show m - i + i = m by omega]
        have e2 : LB ^ m = LB ^ (m - i) * LB ^ i := by rw [← Nat.pow_add]; congr 1; omega
        rw [e2, ← Nat.mul_assoc, Nat.add_mul_div_right _ _ (Nat.pow_pos LB_pos)]
  rw [key n (by omega) (Nat.le_refl _), show n - i = (n - i - 1) + 1 by omega, nv_low]
  simp only [Nat.zero_add]
  rw [Nat.add_mul_mod_self_left, Nat.mod_eq_of_lt (h i hi)]

/-- a decimal digit of a list is one of its limb -/
theorem digit_of_limb {n i k : Nat} {f : Nat → Nat} (h : ∀ j, j < n → f j < LB) (hi : i < n) (hk : k < 9) : f i / 10 ^ k % 10 = nv f n / 10 ^ (9 * i + k) % 10 := by
  rw [← limb_of_nv h hi, Nat.pow_add, ← Nat.div_div_eq_div_mul, ← LB_pow]
  generalize nv f n / LB ^ i = M
  rw [show LB = 10 ^ k * 10 ^ (9 - k) by rw [← Nat.pow_add, LB_ten]; congr 1; omega, Nat.mod_mul_right_div_self]
  rw [show 9 - k = (9 - k - 1) + 1 by omega, Nat.pow_succ, Nat.mod_mul_left_mod]

end Go.Proofs.YtbjaolmlnkliiaaGreatDoor

/- Plain numbers: decimal digits gathered into limbs. No conditions. -/
namespace Go.Proofs.YtbjaolmlnkliiaaGreatDoor

/-- the number that n decimal digits stand for, the lowest first -/
def nt (f : Nat → Nat) : Nat → Nat
  | 0 => 0
  | n + 1 => nt f n + f n * 10 ^ n

theorem nt_congr {f g : Nat → Nat} : ∀ n, (∀ j, j < n → f j = g j) → nt f n = nt g n
  | 0, _ => rfl
  | n + 1, h => by rw [nt, nt, nt_congr n (fun j hj => h j (by omega)), h n (by omega)]

theorem nt_lt {f : Nat → Nat} : ∀ n, (∀ j, j < n → f j < 10) → nt f n < 10 ^ n
  | 0, _ => by simp [nt]
  | n + 1, h => by
    have h1 := nt_lt n (fun j hj => h j (by omega))
    have h2 : f n + 1 ≤ 10 := h n (by omega)
    have h3 : (f n + 1) * 10 ^ n ≤ 10 * 10 ^ n := Nat.mul_le_mul_right _ h2
    rw [nt, Nat.pow_succ, Nat.mul_comm (10 ^ n) 10]
    rw [Nat.add_mul] at h3
    omega

theorem nt_zeros {f : Nat → Nat} : ∀ n, (∀ j, j < n → f j = 0) → nt f n = 0
  | 0, _ => rfl
  | n + 1, h => by rw [nt, nt_zeros n (fun j hj => h j (by omega)), h n (by omega)]; simp

/-- one digit more -/
theorem nt_add {f g : Nat → Nat} {k c : Nat} (hk : f k = g k + c) (ho : ∀ j, j ≠ k → f j = g j) : ∀ n, nt f n = nt g n + (if k < n then c * 10 ^ k else 0)
  | 0 => by simp [nt]
  | n + 1 => by
    rw [nt, nt, nt_add hk ho n]
    by_cases e : k = n
    · subst e
      rw [hk, if_neg (by omega), if_pos (by omega), Nat.add_mul]
      omega
    · rw [ho n (by omega)]
      by_cases e2 : k < n
      · rw [if_pos e2, if_pos (by omega)]; omega
      · rw [if_neg e2, if_neg (by omega), Nat.add_zero, Nat.add_zero]

theorem nt_split (f : Nat → Nat) (a : Nat) : ∀ b, nt f (a + b) = nt f a + nt (fun i => f (a + i)) b * 10 ^ a
  | 0 => by simp [nt]
  | b + 1 => by
    rw [← Nat.add_assoc, nt, nt_split f a b, nt, Nat.add_mul, Nat.pow_add]
    rw [Nat.mul_assoc (f (a + b)), Nat.mul_comm (10 ^ b)]
    omega

/-- limb j of the digits -/
def lim (D : Nat → Nat) (j : Nat) : Nat := nt (fun r => D (9 * j + r)) 9

theorem nv_lim (D : Nat → Nat) : ∀ n, nv (lim D) n = nt D (9 * n)
  | 0 => rfl
  | n + 1 => by
    rw [nv, nv_lim D n, show 9 * (n + 1) = 9 * n + 9 by omega, nt_split, LB_pow]
    rfl

theorem lim_lt {D : Nat → Nat} (h : ∀ p, D p < 10) (j : Nat) : lim D j < LB := by
  unfold lim
  rw [LB_ten]
  exact nt_lt 9 fun r _ => h _

/-- the digits from place t on -/
def from_ (D : Nat → Nat) (t p : Nat) : Nat := if t ≤ p then D p else 0

theorem lim_step (D : Nat → Nat) (t j : Nat) : lim (from_ D t) j = lim (from_ D (t + 1)) j + (if j = t / 9 then D t * 10 ^ (t % 9) else 0) := by
  unfold lim
  by_cases e : j = t / 9
  · rw [if_pos e]
    rw [nt_add (f := fun r => from_ D t (9 * j + r)) (g := fun r => from_ D (t + 1) (9 * j + r)) (k := t % 9) (c := D t) ?_ ?_ 9, if_pos (Nat.mod_lt _ (by omega))]
    · show from_ D t (9 * j + t % 9) = from_ D (t + 1) (9 * j + t % 9) + D t
      rw [show 9 * j + t % 9 = t by omega]
      unfold from_
      rw [if_pos (Nat.le_refl _), if_neg (by omega)]
      omega
    · intro r hr
      show from_ D t (9 * j + r) = from_ D (t + 1) (9 * j + r)
      unfold from_
      by_cases h : t + 1 ≤ 9 * j + r
      · rw [if_pos h, if_pos (by omega)]
      · rw [if_neg h, if_neg (by omega)]
  · rw [if_neg e, Nat.add_zero]
    refine nt_congr 9 fun r hr => ?_
    show from_ D t (9 * j + r) = from_ D (t + 1) (9 * j + r)
    unfold from_
    by_cases h : t + 1 ≤ 9 * j + r
    · rw [if_pos h, if_pos (by omega)]
    · rw [if_neg h, if_neg (by omega)]

theorem from_zero (D : Nat → Nat) (p : Nat) : from_ D 0 p = D p := by unfold from_; rw [if_pos (Nat.zero_le _)]
theorem from_lt {D : Nat → Nat} (h : ∀ p, D p < 10) (t p : Nat) : from_ D t p < 10 := by unfold from_; split; exact h p; omega

/-- the digits above place k within n -/
def hd (f : Nat → Nat) (n k : Nat) : Nat := nt (fun i => f (i + k)) (n - k)
theorem nt_low (f : Nat → Nat) : ∀ n, nt f (n + 1) = f 0 + 10 * nt (fun i => f (i + 1)) n
  | 0 => by simp [nt]
  | n + 1 => by
    rw [nt, nt_low f n, nt, Nat.mul_add, Nat.pow_succ, Nat.add_assoc]
    congr 2
    rw [Nat.mul_comm (10 ^ n) 10, Nat.mul_left_comm]
theorem hd_step (f : Nat → Nat) (n k : Nat) (h : k < n) : hd f n k = hd f n (k + 1) * 10 + f k := by
  unfold hd
  rw [show n - k = (n - (k + 1)) + 1 by omega, nt_low]
  simp only [Nat.zero_add]
  rw [Nat.mul_comm, Nat.add_comm]
  congr 2
  exact nt_congr _ fun j _ => by rw [show j + 1 + k = j + (k + 1) by omega]
theorem hd_zero (f : Nat → Nat) (n : Nat) : hd f n 0 = nt f n := by unfold hd; simp
theorem hd_lt {f : Nat → Nat} (h : ∀ p, f p < 10) (n k : Nat) : hd f n k < 10 ^ (n - k) := by unfold hd; exact nt_lt _ fun j _ => h _
theorem hd_zeros {f : Nat → Nat} {n k : Nat} (h : ∀ p, k ≤ p → p < n → f p = 0) : hd f n k = 0 := by unfold hd; exact nt_zeros _ fun j hj => h _ (by omega) (by omega)

end Go.Proofs.YtbjaolmlnkliiaaGreatDoor

/- The contracts of countDigits and Digits, of the program. Conditions as premises: the list reads, and the table of powers holds what its initialiser lays. -/
namespace Go.Proofs.YtbjaolmlnkliiaaGreatDoor
open Go.RowKit

/-- the table of the powers of ten -/
def tab9 : Array Value := #[.int .u32 1, .int .u32 10, .int .u32 100, .int .u32 1000, .int .u32 10000, .int .u32 100000, .int .u32 1000000, .int .u32 10000000, .int .u32 100000000]
def Tab (w : World) : Prop := ∃ t fr, w.heap[1]? = some (.cells tab9 t fr)

theorem tab9_get : ∀ k, k < 9 → tab9[k]? = some (.int .u32 (iv (10 ^ k)))
  | 0, _ => by rw [iv_eq]; rfl
  | 1, _ => by rw [iv_eq]; rfl
  | 2, _ => by rw [iv_eq]; rfl
  | 3, _ => by rw [iv_eq]; rfl
  | 4, _ => by rw [iv_eq]; rfl
  | 5, _ => by rw [iv_eq]; rfl
  | 6, _ => by rw [iv_eq]; rfl
  | 7, _ => by rw [iv_eq]; rfl
  | 8, _ => by rw [iv_eq]; rfl
  | k + 9, h => by omega

theorem Tab.cell {w : World} (h : Tab w) {k : Nat} (hk : k < 9) : w.cell? ⟨1, k, none⟩ = some (.int .u32 (iv (10 ^ k))) := by
  obtain ⟨t, fr, h⟩ := h
  rw [← tab9_get k hk]
  simp [World.cell?, h]
theorem Tab.lt {w : World} (h : Tab w) : 1 < w.heap.size := by
  obtain ⟨t, fr, h⟩ := h
  obtain ⟨hlt, _⟩ := Array.getElem?_eq_some_iff.1 h
  exact hlt
theorem Tab.below {w w' : World} {B : Nat} (h : Tab w) (hb : Below B w w') (hB : 1 < B) : Tab w' := by
  obtain ⟨t, fr, h⟩ := h
  exact ⟨t, fr, (hb.block _ hB).trans h⟩
theorem Tab.after {w w' : World} (h : Tab w) (hb : Below w.heap.size w w') : Tab w' := h.below hb h.lt

theorem index_tab (k : Nat) (hk : k < 9) (w : World) : (Instr.index 210 (.agg tab9) (.int .i64 (k : Int))).run Tryz.prog w = .ok (.int .u32 (iv (10 ^ k))) w := by
  match k, hk with
  | 0, _ => exact (show _ = Result.ok (.int .u32 1) w by kernel_rfl).trans (by rw [iv_n _ 1 rfl])
  | 1, _ => exact (show _ = Result.ok (.int .u32 10) w by kernel_rfl).trans (by rw [iv_n _ 10 rfl])
  | 2, _ => exact (show _ = Result.ok (.int .u32 100) w by kernel_rfl).trans (by rw [iv_n _ 100 rfl])
  | 3, _ => exact (show _ = Result.ok (.int .u32 1000) w by kernel_rfl).trans (by rw [iv_n _ 1000 rfl])
  | 4, _ => exact (show _ = Result.ok (.int .u32 10000) w by kernel_rfl).trans (by rw [iv_n _ 10000 rfl])
  | 5, _ => exact (show _ = Result.ok (.int .u32 100000) w by kernel_rfl).trans (by rw [iv_n _ 100000 rfl])
  | 6, _ => exact (show _ = Result.ok (.int .u32 1000000) w by kernel_rfl).trans (by rw [iv_n _ 1000000 rfl])
  | 7, _ => exact (show _ = Result.ok (.int .u32 10000000) w by kernel_rfl).trans (by rw [iv_n _ 10000000 rfl])
  | 8, _ => exact (show _ = Result.ok (.int .u32 100000000) w by kernel_rfl).trans (by rw [iv_n _ 100000000 rfl])

set_option maxHeartbeats 1600000 in
set_option maxRecDepth 100000 in
theorem countDigits_any (A : Option Addr) (n c : Nat) (f : Nat → Nat) (B : Nat) (w : World) (h : Rs w B A n c f) (hv : Val n f) (hn : n ≤ 1024) (ht : Tab w) :
    Calls Tryz.prog 149 #[.slice A n c] w fun e w' => (∃ L : Nat, e = .returned (.int .i64 (L : Int)) ∧ IsLen (nv f n) L) ∧ w = w' := by
  by_cases h0 : 0 < n
  · obtain ⟨b, off, rfl, hb, hc⟩ := h.cell h0
    have hct := hc (n - 1) (by omega)
    obtain ⟨t, fr, hg⟩ := ht
    have hlen := Lib.hid (len_of_val hv h0)
    have hnz : ((n : Int) == 0) = false := by rw [beq_eq_false_iff_ne]; omega
    have hix := Lib.hid index_tab
    generalize hgt : f (n - 1) = top at *
    clear hc hv hgt
    go_enter Tryz.func149, Tryz.ntmps149
    go_wp2_with (refine wpList_load_row rfl 210 _ rfl 1 rfl t _ fr _ hg Tryz.underlying210 rfl (by kernel_rfl) ?_)
    generalize hgtab : tab9 = tab at *
    clear hgtab hg
    go_loop [4, 6, 21] (fun d _ i => ∃ k : Nat, k ≤ 9 ∧ i = .int .i64 k ∧ d = .int .i64 ((9 : Int) * ((n : Int) - 1) + (cnt top k : Int))) (fun _ _ i => 9 - (intOf i).toNat)
    case atStart => exact ⟨0, by omega, rfl, by simp [cnt]⟩
    case round =>
      obtain ⟨k, hk, rfl, rfl⟩ := hrel
      have hcl := cnt_le top k
      by_cases hlt : k < 9
      · have hik := hix.out k hlt
        have hst : cnt top (k + 1) = cnt top k + (if 10 ^ k ≤ top then 1 else 0) := rfl
        by_cases hle : 10 ^ k ≤ top
        · have hle' : iv (10 ^ k) ≤ iv top := by rw [iv_eq, iv_eq]; omega
          rw [if_pos hle] at hst
          have HS := Lib.hid hst
          clear hst hle
          generalize iv (10 ^ k) = x at *
          generalize iv top = y at *
          go_wp2
          go_round
          case rel => exact ⟨k + 1, by omega, by go_num, by rw [HS.out]; congr 1; omega⟩
          case measure => simp [intOf] <;> omega
        · have hle' : ¬ iv (10 ^ k) ≤ iv top := by rw [iv_eq, iv_eq]; omega
          rw [if_neg hle] at hst
          have HS := Lib.hid hst
          clear hst hle
          generalize iv (10 ^ k) = x at *
          generalize iv top = y at *
          go_wp2
          go_round
          case rel => exact ⟨k + 1, by omega, by go_num, by rw [HS.out]; congr 1⟩
          case measure => simp [intOf] <;> omega
      · obtain rfl : k = 9 := by omega
        go_wp2
        go_ret
        exact ⟨⟨_, ret_int (by omega), hlen.out⟩, rfl⟩
  · obtain rfl : n = 0 := by omega
    go_enter Tryz.func149, Tryz.ntmps149
    go_wp2
    go_ret
    exact ⟨⟨1, rfl, len_zero⟩, rfl⟩

end Go.Proofs.YtbjaolmlnkliiaaGreatDoor

/- The contracts of digit, Text and Digits of the program. Conditions as premises: the list reads, and the table of powers holds what its initialiser lays. -/
namespace Go.Proofs.YtbjaolmlnkliiaaGreatDoor
open Go.RowKit

theorem info8 : (Tryz.prog.info? 5).map (fun i => (i.zero, i.size, i.bytes)) = some (some (.int .u8 0), 1, 1) := by kernel_rfl

/-- Block b is a row of n bytes, byte i being f i. -/
def Row8 (w : World) (b n : Nat) (f : Nat → Nat) : Prop := w.rowIs b 5 n (fun i => .int .u8 (iv (f i)))
section
variable {w : World} {b n : Nat} {f : Nat → Nat}
theorem Row8.cell (h : Row8 w b n f) {i : Nat} (hi : i < n) : w.cell? ⟨b, i, none⟩ = some (.int .u8 (iv (f i))) := World.rowIs.cell h hi
theorem Row8.frozen (h : Row8 w b n f) (i : Nat) : w.frozen? ⟨b, i, none⟩ = false := World.rowIs.frozen h i
theorem Row8.lt (h : Row8 w b n f) : b < w.heap.size := World.rowIs.lt h
theorem Row8.set (h : Row8 w b n f) (i x : Nat) : Row8 (w.setCell ⟨b, i, none⟩ (.int .u8 (iv x))) b n (fun j => if j = i then x else f j) :=
  World.rowIs.congr (World.rowIs.set h i _) fun j _ => by by_cases e : j = i <;> simp [e]
theorem Row8.congr {g : Nat → Nat} (h : Row8 w b n f) (e : ∀ j, j < n → f j = g j) : Row8 w b n g := World.rowIs.congr h fun j hj => by rw [e j hj]
theorem Row8.drewN (h : Row8 w b n f) (k : Nat) : Row8 (w.drewN k) b n f := h
theorem Row8.made (w : World) (n : Nat) : Row8 (w.alloc (.cells (madeCells #[.int .u8 0] n) 5)) w.heap.size n (fun _ => 0) :=
  World.rowIs.congr (World.rowIs_made w (.int .u8 0) n _) fun j _ => by rw [iv_zero]
end

theorem below_drewN {B : Nat} {a w : World} (h : Below B a w) (n : Nat) : Below B a (w.drewN n) := ⟨h.os, h.tape, h.output, h.size, h.block⟩

theorem digit_zero {n p : Nat} {f : Nat → Nat} (h : ∀ j, j < n → f j < LB) (hp : n ≤ p / 9) : nv f n / 10 ^ p % 10 = 0 := by
  have h1 := nv_lt n h
  rw [LB_pow] at h1
  have h2 : 10 ^ (9 * n) ≤ 10 ^ p := ten_le (by omega)
  rw [Nat.div_eq_of_lt (by omega)]

set_option maxHeartbeats 800000 in
set_option maxRecDepth 100000 in
theorem digit_any (A : Option Addr) (n c p : Nat) (f : Nat → Nat) (B : Nat) (w : World) (h : Rs w B A n c f) (hv : Val n f) (hp : p ≤ 100000) (ht : Tab w) :
    Calls Tryz.prog 150 #[.slice A n c, .int .i64 (p : Int)] w fun e w' => e = .returned (.int .u8 (iv (nv f n / 10 ^ p % 10))) ∧ Qt w w' := by
  by_cases hlt : p / 9 < n
  · obtain ⟨b, off, rfl, hb, hc⟩ := h.cell (by omega)
    have hck := hc (p / 9) hlt
    have htk := ht.cell (k := p % 9) (Nat.mod_lt _ (by omega))
    have hpi : (p : Int) / 9 < (n : Int) := by omega
    have hpi0 : 0 ≤ (p : Int) / 9 := by omega
    have hpm : (p : Int) % 9 < 9 := by omega
    have hpm0 : 0 ≤ (p : Int) % 9 := by omega
    have hx0 := iv_nonneg (f (p / 9))
    have hx1 := iv_limb (hv.1 (p / 9) hlt)
    have hy0 := iv_pos (show (10 : Nat) ^ (p % 9) ≠ 0 by have := ten_pos (p % 9); omega)
    have hq0 : 0 ≤ iv (f (p / 9)) / iv (10 ^ (p % 9)) := Int.ediv_nonneg (by omega) (by omega)
    have hq1 : iv (f (p / 9)) / iv (10 ^ (p % 9)) < 1000000000 := by
      have : iv (f (p / 9)) / iv (10 ^ (p % 9)) ≤ iv (f (p / 9)) := Int.ediv_le_self _ (by omega)
      omega
    have hfin : iv (f (p / 9)) / iv (10 ^ (p % 9)) % 10 = iv (nv f n / 10 ^ p % 10) := by
      have h1 := digit_of_limb hv.1 hlt (Nat.mod_lt p (show 9 > 0 by omega))
      rw [show 9 * (p / 9) + p % 9 = p by omega] at h1
      rw [← h1, iv_eq, iv_eq, iv_eq]
      rfl
    have HF := Lib.hid hfin
    clear hc hfin ht hv
    generalize hgx : iv (f (p / 9)) = x at *
    generalize hgy : iv (10 ^ (p % 9)) = y at *
    have HGX := Lib.hid hgx
    have HGY := Lib.hid hgy
    clear hgx hgy
    go_enter Tryz.func150, Tryz.ntmps150
    go_wp2
    go_quiet (fail)
    go_wp2
    go_ret
    exact ⟨by rw [← HF.out]; rfl, Qt.n1 _ _⟩
  · have hpi : (n : Int) ≤ (p : Int) / 9 := by omega
    rw [digit_zero hv.1 (by omega), iv_zero]
    go_enter Tryz.func150, Tryz.ntmps150
    go_wp2
    go_ret
    exact ⟨rfl, Qt.refl _⟩

end Go.Proofs.YtbjaolmlnkliiaaGreatDoor

/- The contracts of Text and Digits of the program. Conditions as premises: the list reads, and the table of powers holds what its initialiser lays. -/
namespace Go.Proofs.YtbjaolmlnkliiaaGreatDoor
open Go.RowKit

/-- the L decimal digits of N as bytes, the highest first -/
def tb (N L i : Nat) : Nat := 48 + N / 10 ^ (L - 1 - i) % 10
def txt (N L : Nat) : ByteArray := strOfNums ((List.range L).map fun i => iv (tb N L i))

theorem tb_lt (N L i : Nat) : tb N L i < 256 := by unfold tb; omega

/-- what Text says of a list: the text, then the error -/
noncomputable def TextV (n : Nat) (f : Nat → Nat) (v : Value) : Prop :=
  (chk n f = 0 ∧ ∃ L, IsLen (nv f n) L ∧ v = .tuple #[.string (txt (nv f n) L), .int .i64 0]) ∨ (chk n f ≠ 0 ∧ v = .tuple #[.string ⟨#[]⟩, .int .i64 (chk n f)])

theorem conv_row8 {w : World} {b n : Nat} {g : Nat → Nat} (h : Row8 w b n g) (cap : Nat) :
    (convert 155 9 (.slice (some ⟨b, 0, none⟩) n cap)).run Tryz.prog w = .ok (.string (strOfNums ((List.range n).map fun i => iv (g i)))) w :=
  run_convert_bytes_arg w 155 5 Tryz.underlying155 Tryz.underlying5 b 0 n cap _ (by simp) (fun i hi => by
    rw [Nat.zero_add, h.cell hi]; simp [List.getD, hi]) 9 Tryz.underlying9

set_option maxHeartbeats 1600000 in
set_option maxRecDepth 100000 in
theorem natText_any (A : Option Addr) (n c : Nat) (f : Nat → Nat) (w : World) (h : Rs w w.heap.size A n c f) (ht : Tab w) :
    Calls Tryz.prog 75 #[.slice A n c] w fun e w' => (∃ v, e = .returned v ∧ TextV n f v) ∧ Below w.heap.size w w' := by
  have c1 := check_any A n c f _ w h
  by_cases hk : chk n f = 0
  · obtain ⟨hn, hv⟩ := chk_zero hk
    rw [hk] at c1
    have C1 := Lib.hid c1
    have HK := Lib.hid hk
    have C2 := Lib.hid (countDigits_any A n c f _ w h hv hn ht)
    have HV := Lib.hid hv
    clear c1 hk hv
    go_enter Tryz.func75, Tryz.ntmps75
    go_wp2_with fail
    refine C1.out.mono ?_
    rintro e w' ⟨rfl, rfl⟩
    go_wp2_with fail
    refine C2.out.mono ?_
    rintro e w' ⟨⟨L, rfl, hL⟩, rfl⟩
    have hL1 : L ≤ 9 * 1024 := by
      rcases Nat.lt_or_ge (9 * 1024) L with hh | hh
      · exfalso
        have h1 := hL.ge (by omega)
        have h2 := nv_lt n HV.out.1
        rw [LB_pow] at h2
        have h3 : 10 ^ (9 * n) ≤ 10 ^ (L - 1) := ten_le (by omega)
        omega
      · exact hh
    have HL := Lib.hid hL
    clear hL
    have hmk := run_make_row' (P := Tryz.prog) 155 5 (.int .u8 0) 1 Tryz.underlying155 info8 rfl .i64 .i64 L (by omega) (by omega)
    have hrow := Row8.made w L
    have hbel : Below w.heap.size w (w.alloc (.cells (madeCells #[.int .u8 0] L) 5)) := (Below.refl _ _).alloc (Nat.le_refl _) _
    go_wp2_with fail
    clear hmk
    generalize hgw : w.alloc (.cells (madeCells #[.int .u8 0] L) 5) = w0 at *
    clear hgw
    go_loopw [6, 17] (fun _ i wr => ∃ k : Nat, k ≤ L ∧ i = .int .i64 k ∧ ∃ g, Row8 wr w.heap.size L g ∧ Hid (∀ j, j < k → g j = tb (nv f n) L j) ∧ Below w.heap.size w wr) (fun _ i _ => L - (intOf i).toNat)
    case atStart => exact ⟨0, Nat.zero_le _, rfl, _, hrow, fun j a => by omega, hbel⟩
    case round =>
      obtain ⟨k, hk, rfl, g, hrg, hg, hb⟩ := hrel
      by_cases hlt : k < L
      · have C3 := Lib.hid (digit_any A n c (L - 1 - k) f w.heap.size wr (h.below hb) HV.out (by omega) (ht.after hb))
        have hcp := hrg.cell hlt
        have hfz := hrg.frozen k
        have hnew := hrg.set k (tb (nv f n) L k)
        have hd0 := iv_nonneg (nv f n / 10 ^ (L - 1 - k) % 10)
        have hd1 : iv (nv f n / 10 ^ (L - 1 - k) % 10) < 10 := by rw [iv_eq]; omega
        have hde : 48 + iv (nv f n / 10 ^ (L - 1 - k) % 10) = iv (tb (nv f n) L k) := by unfold tb; rw [iv_eq, iv_eq]; omega
        rw [← hde] at hnew
        have HS := Lib.hid hde
        clear hde
        go_wp2_with fail
        rw [show ((L : Int) - 1 - (k : Int)) = ((L - 1 - k : Nat) : Int) by omega]
        refine C3.out.mono ?_
        rintro e w' ⟨rfl, d, rfl⟩
        generalize iv (nv f n / 10 ^ (L - 1 - k) % 10) = x at *
        go_wp2_with fail
        go_roundw
        case rel => exact ⟨k + 1, by omega, by go_num, _, hnew, fun j a => by
          by_cases e : j = k
          · simp [e]
          · simp [e]; exact hg j (by omega), below_drewN (hb.setCell (p := ⟨w.heap.size, k, none⟩) (Nat.le_refl _) _) d⟩
        case measure => simp [intOf] <;> omega
      · obtain rfl : k = L := by omega
        have hconv := conv_row8 hrg k
        go_wp2_with fail
        go_ret2
        exact ⟨⟨_, rfl, .inl ⟨HK.out, k, HL.out, by
          unfold txt
          rw [List.map_congr_left (fun j hj => by rw [hg j (List.mem_range.1 hj)])]; rfl⟩⟩, hb⟩
  · have h1 : (chk n f != 0) = true := by rw [bne_iff_ne]; exact hk
    have h2 : (chk n f == 0) = false := by rw [beq_eq_false_iff_ne]; exact hk
    have C1 := Lib.hid c1
    have HK := Lib.hid hk
    clear c1 hk
    go_enter Tryz.func75, Tryz.ntmps75
    go_wp2_with fail
    refine C1.out.mono ?_
    rintro e w' ⟨rfl, rfl⟩
    go_wp2_with fail
    go_ret2
    exact ⟨⟨_, rfl, .inr ⟨HK.out, rfl⟩⟩, Below.refl _ _⟩

/-- what Digits says of a list -/
noncomputable def DigitsV (n : Nat) (f : Nat → Nat) (v : Value) : Prop :=
  (chk n f = 0 ∧ ∃ L : Nat, IsLen (nv f n) L ∧ v = .tuple #[.int .i64 (L : Int), .int .i64 0]) ∨ (chk n f ≠ 0 ∧ v = .tuple #[.int .i64 0, .int .i64 (chk n f)])

end Go.Proofs.YtbjaolmlnkliiaaGreatDoor

/- The contract of Parse of the program. Conditions as premises: the table of powers holds what its initialiser lays. -/
namespace Go.Proofs.YtbjaolmlnkliiaaGreatDoor
open Go.RowKit

/-- byte i of a string -/
def sb (s : ByteArray) (i : Nat) : Nat := (s.data[i]?.getD 0).toNat
theorem sb_eq (s : ByteArray) (i : Nat) (h : i < s.size) : (s[i]'h).toNat = sb s i := by
  unfold sb
  have : s.data[i]? = some (s.data[i]'h) := Array.getElem?_eq_getElem h
  rw [this]; rfl
theorem sb_lt (s : ByteArray) (i : Nat) : sb s i < 256 := by unfold sb; exact UInt8.toNat_lt _
def good (s : ByteArray) (i : Nat) : Prop := 48 ≤ sb s i ∧ sb s i ≤ 57
/-- digit p of a text, the lowest first -/
def sd (s : ByteArray) (p : Nat) : Nat := if p < s.size then sb s (s.size - 1 - p) - 48 else 0
theorem sd_lt {s : ByteArray} (h : ∀ i, i < s.size → good s i) (p : Nat) : sd s p < 10 := by
  unfold sd
  split
  · have := h (s.size - 1 - p) (by omega); unfold good at this; omega
  · omega
/-- the number that a text of digits is -/
def pnum (s : ByteArray) : Nat := nt (sd s) s.size

theorem sd_top {s : ByteArray} {p : Nat} (h : s.size ≤ p) : sd s p = 0 := by unfold sd; rw [if_neg (by omega)]
theorem lim_from_top (D : Nat → Nat) {L : Nat} (h : ∀ p, L ≤ p → D p = 0) (j : Nat) : lim (from_ D (L - 0)) j = 0 := by
  unfold lim
  refine nt_zeros 9 fun r _ => ?_
  show from_ D (L - 0) (9 * j + r) = 0
  unfold from_
  split
  · exact h _ (by omega)
  · rfl

theorem Row.congr {w : World} {b n : Nat} {f g : Nat → Nat} (h : Row w b n f) (e : ∀ j, j < n → f j = g j) : Row w b n g := World.rowIs.congr h fun j hj => by rw [e j hj]

theorem nt_top {D : Nat → Nat} {L : Nat} (h : ∀ p, L ≤ p → D p = 0) {M : Nat} (hM : L ≤ M) : nt D M = nt D L := by
  obtain ⟨b, rfl⟩ : ∃ b, M = L + b := ⟨M - L, by omega⟩
  rw [nt_split, nt_zeros b (fun j _ => h _ (by omega)), Nat.zero_mul, Nat.add_zero]

theorem cell_set_id {w : World} {a : Addr} {v : Value} (h : w.cell? a = some v) (p : Addr) : (w.setCell a v).cell? p = w.cell? p := by
  by_cases e : a = p
  · subst e; rw [World.cell?_setCell_same w a v h, h]
  · exact World.cell?_setCell_other w a p v e

/-- what one digit adds to its limb -/
theorem parse_step {s : ByteArray} {k p : Nat} (hg : ∀ i, i < s.size → good s i) (hk : k < s.size) (hp : s.size - 1 - p = k ∧ p < s.size) :
    iv (lim (from_ (sd s) (p + 1)) (p / 9)) + (((s[k]'hk).toNat : Int) - 48) * iv (10 ^ (p % 9)) = iv (lim (from_ (sd s) p) (p / 9)) ∧
    0 ≤ (((s[k]'hk).toNat : Int) - 48) * iv (10 ^ (p % 9)) ∧
    iv (lim (from_ (sd s) (p + 1)) (p / 9)) + (((s[k]'hk).toNat : Int) - 48) * iv (10 ^ (p % 9)) ≤ 999999999 := by
  have hgk := hg k hk
  have he := sb_eq s k hk
  have hd : sd s p = sb s k - 48 := by unfold sd; rw [if_pos hp.2, hp.1]
  have h1 := lim_step (sd s) p (p / 9)
  rw [if_pos rfl, hd] at h1
  have h2 := lim_lt (from_lt (sd_lt hg) p) (p / 9)
  rw [LB_eq] at h2
  have h3 : (((s[k]'hk).toNat : Int) - 48) * iv (10 ^ (p % 9)) = (((sb s k - 48) * 10 ^ (p % 9) : Nat) : Int) := by
    rw [he, iv_eq, Int.natCast_mul]
    congr 1
    unfold good at hgk
    omega
  rw [h3, iv_eq, iv_eq, h1]
  omega

/-- what Parse says of a text: a list, an error, a place -/
def ParseV (s : ByteArray) (w : World) (v : Value) (e a : Int) (w' : World) : Prop :=
  (9216 < s.size ∧ v = .slice none 0 0 ∧ e = 4 ∧ a = 9216) ∨
  (s.size ≤ 9216 ∧ ∃ i, i < s.size ∧ ¬ good s i ∧ (∀ j, j < i → good s j) ∧ v = .slice none 0 0 ∧ e = 11 ∧ a = (i : Int)) ∨
  (s.size ≤ 9216 ∧ (∀ i, i < s.size → good s i) ∧ (s.size = 0 ∨ (1 < s.size ∧ sb s 0 = 48)) ∧ v = .slice none 0 0 ∧ e = 11 ∧ a = 0) ∨
  (s.size ≤ 9216 ∧ (∀ i, i < s.size → good s i) ∧ ¬ (s.size = 0 ∨ (1 < s.size ∧ sb s 0 = 48)) ∧ e = 0 ∧ a = 0 ∧ Made w (pnum s) v w')

set_option maxHeartbeats 800000 in
set_option maxRecDepth 100000 in
theorem natParse_long (s : ByteArray) (w : World) (h : 9216 < s.size) :
    Calls Tryz.prog 160 #[.string s] w fun e w' => e = .returned (.tuple #[.slice none 0 0, .agg #[.int .i64 4, .int .i64 9216]]) ∧ Below w.heap.size w w' := by
  have h' : (9216 : Int) < (s.size : Int) := by omega
  go_enter Tryz.func160, Tryz.ntmps160
  go_wp2
  exact bodyPost_ret (v := .tuple #[.slice none 0 0, .agg #[.int .i64 4, .int .i64 9216]]) (by simp [results, Tryz.results160, go_sem]) rfl ⟨rfl, (Below.refl _ _).alloc (Nat.le_refl _) _⟩

set_option maxHeartbeats 800000 in
set_option maxRecDepth 100000 in
theorem natParse_rest (s : ByteArray) (w : World) (h : s.size ≤ 9216) (ht : Tab w) :
    Calls Tryz.prog 160 #[.string s] w fun e w' => ∃ v x a, e = .returned (.tuple #[v, .agg #[.int .i64 x, .int .i64 a]]) ∧ ParseV s w v x a w' ∧ Below w.heap.size w w' := by
  have h' : (s.size : Int) ≤ 9216 := by omega
  go_enter Tryz.func160, Tryz.ntmps160
  go_wp2
  go_loop [4, 14] (fun _ i => ∃ k : Nat, k ≤ s.size ∧ i = .int .i64 k ∧ Hid (∀ j, j < k → good s j)) (fun _ i => s.size - (intOf i).toNat)
  case atStart => exact ⟨0, Nat.zero_le _, rfl, fun j a => by omega⟩
  case round =>
    obtain ⟨k, hk, rfl, hg⟩ := hrel
    by_cases hlt : k < s.size
    · have he := sb_eq s k hlt
      by_cases hgood : good s k
      · have h1 : (48 : Int) ≤ ((s[k]'hlt).toNat : Int) := by unfold good at hgood; omega
        have h2 : ((s[k]'hlt).toNat : Int) ≤ 57 := by unfold good at hgood; omega
        have HG := Lib.hid hgood
        clear he hgood
        go_wp2
        go_round
        case rel => exact ⟨k + 1, by omega, by go_num, fun j hj => by
          by_cases e : j = k
          · subst e; exact HG.out
          · exact hg j (by omega)⟩
        case measure => simp [intOf] <;> omega
      · have HG := Lib.hid hgood
        by_cases hl : sb s k < 48
        · have h1 : ((s[k]'hlt).toNat : Int) < 48 := by omega
          clear he hgood
          go_wp2
          exact bodyPost_ret (v := .tuple #[.slice none 0 0, .agg #[.int .i64 11, .int .i64 (k : Int)]]) (by simp [results, Tryz.results160, go_sem]) rfl ⟨_, _, _, rfl, .inr (.inl ⟨h, k, hlt, HG.out, hg, rfl, rfl, rfl⟩), (Below.refl _ _).alloc (Nat.le_refl _) _⟩
        · have h1 : ¬ ((s[k]'hlt).toNat : Int) < 48 := by omega
          have h2 : (57 : Int) < ((s[k]'hlt).toNat : Int) := by unfold good at hgood; omega
          clear he hgood
          go_wp2
          exact bodyPost_ret (v := .tuple #[.slice none 0 0, .agg #[.int .i64 11, .int .i64 (k : Int)]]) (by simp [results, Tryz.results160, go_sem]) rfl ⟨_, _, _, rfl, .inr (.inl ⟨h, k, hlt, HG.out, hg, rfl, rfl, rfl⟩), (Below.refl _ _).alloc (Nat.le_refl _) _⟩
    · obtain rfl : k = s.size := by omega
      by_cases h0 : s.size = 0
      · have h0' : ((s.size : Int) == 0) = true := by rw [h0]; rfl
        have H0 := Lib.hid h0
        clear h0
        go_wp2
        exact bodyPost_ret (v := .tuple #[.slice none 0 0, .agg #[.int .i64 11, .int .i64 0]]) (by simp [results, Tryz.results160, go_sem]) rfl ⟨_, _, _, rfl, .inr (.inr (.inl ⟨h, hg, .inl H0.out, rfl, rfl, rfl⟩)), (Below.refl _ _).alloc (Nat.le_refl _) _⟩
      · have h0' : ((s.size : Int) == 0) = false := by rw [beq_eq_false_iff_ne]; omega
        have h0p : 0 < s.size := by omega
        have he := sb_eq s 0 h0p
        by_cases h1 : 1 < s.size
        · have h1' : (1 : Int) < (s.size : Int) := by omega
          by_cases hz : sb s 0 = 48
          · have hzb : (((s[0]'h0p).toNat : Int) == 48) = true := by rw [he, hz]; rfl
            have HZ := Lib.hid hz
            clear hz he h0
            go_wp2
            exact bodyPost_ret (v := .tuple #[.slice none 0 0, .agg #[.int .i64 11, .int .i64 0]]) (by simp [results, Tryz.results160, go_sem]) rfl ⟨_, _, _, rfl, .inr (.inr (.inl ⟨h, hg, .inr ⟨h1, HZ.out⟩, rfl, rfl, rfl⟩)), (Below.refl _ _).alloc (Nat.le_refl _) _⟩
          · have hzb : (((s[0]'h0p).toNat : Int) == 48) = false := by rw [he, beq_eq_false_iff_ne]; omega
            have HZ := Lib.hid hz
            clear hz he h0
            obtain ⟨n, hn⟩ : ∃ n, n = (s.size + 8) / 9 := ⟨_, rfl⟩
            have hn1 : 9 * n ≤ s.size + 8 := by omega
            have hn2 : s.size ≤ 9 * n := by omega
            have hmk := run_make_row' (P := Tryz.prog) 23 40 (.int .u32 0) 4 Tryz.underlying23 info32 rfl .i64 .i64 n (by omega) (by omega)
            rw [show (n : Int) = ((s.size : Int) + 9 - 1) / 9 by omega] at hmk
            have HN := Lib.hid hn
            have LZ : Hid (∀ j, lim (from_ (sd s) (s.size - 0)) j = 0) := fun j => lim_from_top (sd s) (fun p hp => sd_top hp) j
            clear hn
            go_wp2_with fail
            clear hmk
            go_loopw [6, 7, 52] (fun _ _ i wr => ∃ k : Nat, k ≤ s.size ∧ i = .int .i64 k ∧ Row wr (w.heap.size + 1) n (lim (from_ (sd s) (s.size - k))) ∧ Below (w.heap.size + 1) (w.alloc (.cells #[.int .i64 0, .int .i64 0] 32)) wr) (fun _ _ i _ => s.size - (intOf i).toNat)
            case atStart => exact ⟨0, Nat.zero_le _, rfl, by
              have h1 := Row.made (w.alloc (.cells #[.int .i64 0, .int .i64 0] 32)) n
              rw [World.size_alloc w] at h1
              exact World.rowIs.congr h1 fun j hj => by rw [LZ.out j], (Below.refl _ _).alloc (by simp) _⟩
            case round =>
              obtain ⟨k, hk, rfl, hrow, hbel⟩ := hrel
              by_cases hlt : k < s.size
              · obtain ⟨p, hp⟩ : ∃ p, s.size - 1 - k = p := ⟨_, rfl⟩
                have hps : s.size - k = p + 1 := by omega
                have hpi : ((s.size : Int) - 1 - (k : Int)) = (p : Int) := by omega
                have hp9 : p / 9 < n := by omega
                rw [hps] at hrow
                have hcp := hrow.cell hp9
                have hfz := hrow.frozen (p / 9)
                have htab := (ht.after ((Below.refl _ _).alloc (Nat.le_refl _) (.cells #[.int .i64 0, .int .i64 0] 32))).below hbel (by have := ht.lt; omega)
                have htk := htab.cell (k := p % 9) (Nat.mod_lt _ (by omega))
                obtain ⟨s1, s2, s3⟩ := parse_step (p := p) hg.out hlt (by omega)
                have hgk := hg.out k hlt
                have he := sb_eq s k hlt
                have b1 : (48 : Int) ≤ ((s[k]'hlt).toNat : Int) := by unfold good at hgk; omega
                have b2 : ((s[k]'hlt).toNat : Int) ≤ 57 := by unfold good at hgk; omega
                have hnew := hrow.set (p / 9) (lim (from_ (sd s) p) (p / 9))
                have hnew2 := Row.congr hnew (g := lim (from_ (sd s) p)) (fun j hj => by
                  by_cases e : j = p / 9
                  · rw [if_pos e, e]
                  · rw [if_neg e]; have := lim_step (sd s) p j; rw [if_neg e] at this; omega)
                rw [← s1] at hnew2
                have i1 : (p : Int) / 9 < (n : Int) := by omega
                have i0 : 0 ≤ (p : Int) / 9 := by omega
                have j1 : (p : Int) % 9 < 9 := by omega
                have j0 : 0 ≤ (p : Int) % 9 := by omega
                have hx0 := iv_nonneg (lim (from_ (sd s) (p + 1)) (p / 9))
                have hy0 := iv_nonneg (10 ^ (p % 9))
                have hki : (k : Int) < (s.size : Int) := by omega
                have HP := Lib.hid hp
                have HPI := Lib.hid hpi
                have HS1 := Lib.hid s1
                clear hp hps hpi hgk he s1 hnew htab
                generalize hgx : iv (lim (from_ (sd s) (p + 1)) (p / 9)) = x at *
                generalize hgy : iv (10 ^ (p % 9)) = y at *
                have HGX := Lib.hid hgx
                have HGY := Lib.hid hgy
                clear hgx hgy
                go_wp2_with fail
                rw [HPI.out]
                go_region
                go_wp2_with fail
                go_roundw
                case rel => exact ⟨k + 1, by omega, by go_num, by rw [show s.size - (k + 1) = p by have := HP.out; omega]; exact hnew2, (hbel.setCell (p := ⟨w.heap.size + 1, p / 9, none⟩) (Nat.le_refl _) _).drew⟩
                case measure => simp [intOf] <;> omega
              · obtain rfl : k = s.size := by omega
                rw [Nat.sub_self] at hrow
                have hrow2 : Row wr (w.heap.size + 1) n (lim (sd s)) := Row.congr hrow (fun j _ => by unfold lim; exact nt_congr 9 fun r _ => from_zero _ _)
                have hlim := lim_lt (sd_lt hg.out)
                have HT := Lib.hid (trim_any (some ⟨w.heap.size + 1, 0, none⟩) n n _ _ wr (hrow2.rs (by omega) (fun j _ => by have := hlim j; rw [LB_eq] at this; omega)))
                have HD : Hid (∀ m, Trim n (lim (sd s)) m → Dig m (lim (sd s)) (pnum s)) := fun m hm => hm.dig (fun j _ => hlim j) (by rw [nv_lim, nt_top (fun p hp => sd_top hp) hn2]; rfl)
                have f0 : wr.cell? ⟨w.heap.size, 0, none⟩ = some (.int .i64 0) := (hbel.cell (p := ⟨w.heap.size, 0, none⟩) (Nat.lt_succ_self _)).trans (by rw [World.cell?_alloc_at _ _ _ _ rfl]; rfl)
                have f1 : wr.cell? ⟨w.heap.size, 1, none⟩ = some (.int .i64 0) := (hbel.cell (p := ⟨w.heap.size, 1, none⟩) (Nat.lt_succ_self _)).trans (by rw [World.cell?_alloc_at _ _ _ _ rfl]; rfl)
                have z0 : wr.frozen? ⟨w.heap.size, 0, none⟩ = false := (hbel.frozen (p := ⟨w.heap.size, 0, none⟩) (Nat.lt_succ_self _)).trans (World.frozen?_alloc_at _ _ _ _ rfl)
                have z1 : wr.frozen? ⟨w.heap.size, 1, none⟩ = false := (hbel.frozen (p := ⟨w.heap.size, 1, none⟩) (Nat.lt_succ_self _)).trans (World.frozen?_alloc_at _ _ _ _ rfl)
                clear hrow hrow2 hlim
                go_wp2_with fail
                refine HT.out.mono ?_
                rintro e w' ⟨⟨v, rfl, A2, m2, c2, rfl, hr2, htr⟩, rfl⟩
                have HTR := Lib.hid htr
                clear htr
                go_wp2_with fail
                have hbf : Below w.heap.size w ((wr.setCell ⟨w.heap.size, 0, none⟩ (.int .i64 0)).setCell ⟨w.heap.size, 1, none⟩ (.int .i64 0)) :=
                  ((((Below.refl _ _).alloc (Nat.le_refl _) _).trans (hbel.mono (by omega))).setCell (p := ⟨w.heap.size, 0, none⟩) (Nat.le_refl _) _).setCell (p := ⟨w.heap.size, 1, none⟩) (Nat.le_refl _) _
                have hr3 : Rs ((wr.setCell ⟨w.heap.size, 0, none⟩ (.int .i64 0)).setCell ⟨w.heap.size, 1, none⟩ (.int .i64 0)) wr.heap.size A2 m2 c2 (lim (sd s)) := hr2.keep fun p _ => (cell_set_id (by rw [cell_set_id f0]; exact f1) p).trans (cell_set_id f0 p)
                exact bodyPost_ret (v := .tuple #[.slice A2 m2 c2, .agg #[.int .i64 0, .int .i64 0]]) (by simp [results, Tryz.results160, go_sem, f0, f1]) rfl ⟨_, _, _, rfl, .inr (.inr (.inr ⟨h, hg.out, by
                  rintro (e | ⟨e1, e2⟩)
                  · omega
                  · first | exact HZ.out e2 | omega, rfl, rfl, A2, m2, c2, _, rfl, hr3.more (by simp [World.setCell]), HD.out _ HTR.out, hbf⟩)), hbf⟩
        · have h1' : ¬ (1 : Int) < (s.size : Int) := by omega
          clear he h0
          obtain ⟨n, hn⟩ : ∃ n, n = (s.size + 8) / 9 := ⟨_, rfl⟩
          have hn1 : 9 * n ≤ s.size + 8 := by omega
          have hn2 : s.size ≤ 9 * n := by omega
          have hmk := run_make_row' (P := Tryz.prog) 23 40 (.int .u32 0) 4 Tryz.underlying23 info32 rfl .i64 .i64 n (by omega) (by omega)
          rw [show (n : Int) = ((s.size : Int) + 9 - 1) / 9 by omega] at hmk
          have HN := Lib.hid hn
          have LZ : Hid (∀ j, lim (from_ (sd s) (s.size - 0)) j = 0) := fun j => lim_from_top (sd s) (fun p hp => sd_top hp) j
          clear hn
          go_wp2_with fail
          clear hmk
          go_loopw [6, 7, 52] (fun _ _ i wr => ∃ k : Nat, k ≤ s.size ∧ i = .int .i64 k ∧ Row wr (w.heap.size + 1) n (lim (from_ (sd s) (s.size - k))) ∧ Below (w.heap.size + 1) (w.alloc (.cells #[.int .i64 0, .int .i64 0] 32)) wr) (fun _ _ i _ => s.size - (intOf i).toNat)
          case atStart => exact ⟨0, Nat.zero_le _, rfl, by
            have h1 := Row.made (w.alloc (.cells #[.int .i64 0, .int .i64 0] 32)) n
            rw [World.size_alloc w] at h1
            exact World.rowIs.congr h1 fun j hj => by rw [LZ.out j], (Below.refl _ _).alloc (by simp) _⟩
          case round =>
            obtain ⟨k, hk, rfl, hrow, hbel⟩ := hrel
            by_cases hlt : k < s.size
            · obtain ⟨p, hp⟩ : ∃ p, s.size - 1 - k = p := ⟨_, rfl⟩
              have hps : s.size - k = p + 1 := by omega
              have hpi : ((s.size : Int) - 1 - (k : Int)) = (p : Int) := by omega
              have hp9 : p / 9 < n := by omega
              rw [hps] at hrow
              have hcp := hrow.cell hp9
              have hfz := hrow.frozen (p / 9)
              have htab := (ht.after ((Below.refl _ _).alloc (Nat.le_refl _) (.cells #[.int .i64 0, .int .i64 0] 32))).below hbel (by have := ht.lt; omega)
              have htk := htab.cell (k := p % 9) (Nat.mod_lt _ (by omega))
              obtain ⟨s1, s2, s3⟩ := parse_step (p := p) hg.out hlt (by omega)
              have hgk := hg.out k hlt
              have he := sb_eq s k hlt
              have b1 : (48 : Int) ≤ ((s[k]'hlt).toNat : Int) := by unfold good at hgk; omega
              have b2 : ((s[k]'hlt).toNat : Int) ≤ 57 := by unfold good at hgk; omega
              have hnew := hrow.set (p / 9) (lim (from_ (sd s) p) (p / 9))
              have hnew2 := Row.congr hnew (g := lim (from_ (sd s) p)) (fun j hj => by
                by_cases e : j = p / 9
                · rw [if_pos e, e]
                · rw [if_neg e]; have := lim_step (sd s) p j; rw [if_neg e] at this; omega)
              rw [← s1] at hnew2
              have i1 : (p : Int) / 9 < (n : Int) := by omega
              have i0 : 0 ≤ (p : Int) / 9 := by omega
              have j1 : (p : Int) % 9 < 9 := by omega
              have j0 : 0 ≤ (p : Int) % 9 := by omega
              have hx0 := iv_nonneg (lim (from_ (sd s) (p + 1)) (p / 9))
              have hy0 := iv_nonneg (10 ^ (p % 9))
              have hki : (k : Int) < (s.size : Int) := by omega
              have HP := Lib.hid hp
              have HPI := Lib.hid hpi
              have HS1 := Lib.hid s1
              clear hp hps hpi hgk he s1 hnew htab
              generalize hgx : iv (lim (from_ (sd s) (p + 1)) (p / 9)) = x at *
              generalize hgy : iv (10 ^ (p % 9)) = y at *
              have HGX := Lib.hid hgx
              have HGY := Lib.hid hgy
              clear hgx hgy
              go_wp2_with fail
              rw [HPI.out]
              go_region
              go_wp2_with fail
              go_roundw
              case rel => exact ⟨k + 1, by omega, by go_num, by rw [show s.size - (k + 1) = p by have := HP.out; omega]; exact hnew2, (hbel.setCell (p := ⟨w.heap.size + 1, p / 9, none⟩) (Nat.le_refl _) _).drew⟩
              case measure => simp [intOf] <;> omega
            · obtain rfl : k = s.size := by omega
              rw [Nat.sub_self] at hrow
              have hrow2 : Row wr (w.heap.size + 1) n (lim (sd s)) := Row.congr hrow (fun j _ => by unfold lim; exact nt_congr 9 fun r _ => from_zero _ _)
              have hlim := lim_lt (sd_lt hg.out)
              have HT := Lib.hid (trim_any (some ⟨w.heap.size + 1, 0, none⟩) n n _ _ wr (hrow2.rs (by omega) (fun j _ => by have := hlim j; rw [LB_eq] at this; omega)))
              have HD : Hid (∀ m, Trim n (lim (sd s)) m → Dig m (lim (sd s)) (pnum s)) := fun m hm => hm.dig (fun j _ => hlim j) (by rw [nv_lim, nt_top (fun p hp => sd_top hp) hn2]; rfl)
              have f0 : wr.cell? ⟨w.heap.size, 0, none⟩ = some (.int .i64 0) := (hbel.cell (p := ⟨w.heap.size, 0, none⟩) (Nat.lt_succ_self _)).trans (by rw [World.cell?_alloc_at _ _ _ _ rfl]; rfl)
              have f1 : wr.cell? ⟨w.heap.size, 1, none⟩ = some (.int .i64 0) := (hbel.cell (p := ⟨w.heap.size, 1, none⟩) (Nat.lt_succ_self _)).trans (by rw [World.cell?_alloc_at _ _ _ _ rfl]; rfl)
              have z0 : wr.frozen? ⟨w.heap.size, 0, none⟩ = false := (hbel.frozen (p := ⟨w.heap.size, 0, none⟩) (Nat.lt_succ_self _)).trans (World.frozen?_alloc_at _ _ _ _ rfl)
              have z1 : wr.frozen? ⟨w.heap.size, 1, none⟩ = false := (hbel.frozen (p := ⟨w.heap.size, 1, none⟩) (Nat.lt_succ_self _)).trans (World.frozen?_alloc_at _ _ _ _ rfl)
              clear hrow hrow2 hlim
              go_wp2_with fail
              refine HT.out.mono ?_
              rintro e w' ⟨⟨v, rfl, A2, m2, c2, rfl, hr2, htr⟩, rfl⟩
              have HTR := Lib.hid htr
              clear htr
              go_wp2_with fail
              have hbf : Below w.heap.size w ((wr.setCell ⟨w.heap.size, 0, none⟩ (.int .i64 0)).setCell ⟨w.heap.size, 1, none⟩ (.int .i64 0)) :=
                ((((Below.refl _ _).alloc (Nat.le_refl _) _).trans (hbel.mono (by omega))).setCell (p := ⟨w.heap.size, 0, none⟩) (Nat.le_refl _) _).setCell (p := ⟨w.heap.size, 1, none⟩) (Nat.le_refl _) _
              have hr3 : Rs ((wr.setCell ⟨w.heap.size, 0, none⟩ (.int .i64 0)).setCell ⟨w.heap.size, 1, none⟩ (.int .i64 0)) wr.heap.size A2 m2 c2 (lim (sd s)) := hr2.keep fun p _ => (cell_set_id (by rw [cell_set_id f0]; exact f1) p).trans (cell_set_id f0 p)
              exact bodyPost_ret (v := .tuple #[.slice A2 m2 c2, .agg #[.int .i64 0, .int .i64 0]]) (by simp [results, Tryz.results160, go_sem, f0, f1]) rfl ⟨_, _, _, rfl, .inr (.inr (.inr ⟨h, hg.out, by
                rintro (e | ⟨e1, e2⟩)
                · omega
                · first | exact HZ.out e2 | omega, rfl, rfl, A2, m2, c2, _, rfl, hr3.more (by simp [World.setCell]), HD.out _ HTR.out, hbf⟩)), hbf⟩
end Go.Proofs.YtbjaolmlnkliiaaGreatDoor

/- The contract of the reference's Parse. No conditions. -/
namespace Go.Proofs.YtbjaolmlnkliiaaGreatDoor
open Go.RowKit

theorem snocB {B base n : Nat} {a wr w1 : World} {v : Value} {f : Nat → Nat} {o : Obj} (hown : Own wr base v n f) (hb : Below B a wr) (hbase : B ≤ base) (hsz : B ≤ wr.heap.size) (hg : (wr.alloc o).grownBy w1 v.ownBlock) : Below B a w1 :=
  (hb.alloc hsz o).grown hg (by simp; omega) (fun j hj => by have := (World.ownsRow.lt hown j hj).1; omega)

/-- one step of reading a limb from its highest digit down -/
theorem ref_step {s : ByteArray} {j i E : Nat} (hg : ∀ i, i < s.size → good s i) (hE : s.size - 9 * j = E) (hk : i < s.size) (hi : i < E) (h9 : E ≤ i + 9) :
    10 * iv (hd (fun r => sd s (9 * j + r)) 9 (E - i)) + (((s[i]'hk).toNat : Int) - 48) = iv (hd (fun r => sd s (9 * j + r)) 9 (E - (i + 1))) ∧
    10 * iv (hd (fun r => sd s (9 * j + r)) 9 (E - i)) + (((s[i]'hk).toNat : Int) - 48) ≤ 999999999 := by
  have hgk := hg i hk
  have he := sb_eq s i hk
  have h1 := hd_step (fun r => sd s (9 * j + r)) 9 (E - (i + 1)) (by omega)
  rw [show E - (i + 1) + 1 = E - i by omega] at h1
  have h2 : sd s (9 * j + (E - (i + 1))) = sb s i - 48 := by
    unfold sd; rw [if_pos (by omega), show s.size - 1 - (9 * j + (E - (i + 1))) = i by omega]
  have h3 := hd_lt (f := fun r => sd s (9 * j + r)) (fun p => sd_lt hg _) 9 (E - (i + 1))
  have h4 : 10 ^ (9 - (E - (i + 1))) ≤ 10 ^ 9 := ten_le (by omega)
  have h5 : (10 : Nat) ^ 9 = 1000000000 := by decide
  simp only [h2] at h1
  rw [he, iv_eq, iv_eq]
  unfold good at hgk
  omega

set_option maxHeartbeats 800000 in
set_option maxRecDepth 100000 in
theorem refParse_long (s : ByteArray) (w : World) (h : 9216 < s.size) :
    Calls Tryz.prog 87 #[.string s] w fun e w' => e = .returned (.tuple #[.slice none 0 0, .agg #[.int .i64 4, .int .i64 9216]]) ∧ Below w.heap.size w w' := by
  have h' : (9216 : Int) < (s.size : Int) := by omega
  go_enter Tryz.func87, Tryz.ntmps87
  go_wp2
  exact bodyPost_ret (v := .tuple #[.slice none 0 0, .agg #[.int .i64 4, .int .i64 9216]]) (by simp [results, Tryz.results87, go_sem]) rfl ⟨rfl, (Below.refl _ _).alloc (Nat.le_refl _) _⟩

set_option maxHeartbeats 1600000 in
set_option maxRecDepth 100000 in
theorem refParse_rest (s : ByteArray) (w : World) (h : s.size ≤ 9216) :
    Calls Tryz.prog 87 #[.string s] w fun e w' => ∃ v x a, e = .returned (.tuple #[v, .agg #[.int .i64 x, .int .i64 a]]) ∧ ParseV s w v x a w' ∧ Below w.heap.size w w' := by
  have h' : (s.size : Int) ≤ 9216 := by omega
  go_enter Tryz.func87, Tryz.ntmps87
  go_wp2
  go_loop [4] (fun i => ∃ k : Nat, k ≤ s.size ∧ i = .int .i64 k ∧ Hid (∀ j, j < k → good s j)) (fun i => s.size - (intOf i).toNat)
  case atStart => exact ⟨0, Nat.zero_le _, rfl, fun j a => by omega⟩
  case round =>
    obtain ⟨k, hk, rfl, hg⟩ := hrel
    by_cases hlt : k < s.size
    · have he := sb_eq s k hlt
      by_cases hgood : good s k
      · have h1 : (48 : Int) ≤ ((s[k]'hlt).toNat : Int) := by unfold good at hgood; omega
        have h2 : ((s[k]'hlt).toNat : Int) ≤ 57 := by unfold good at hgood; omega
        have HG := Lib.hid hgood
        clear he hgood
        go_wp2
        go_round
        case rel => exact ⟨k + 1, by omega, by go_num, fun j hj => by
          by_cases e : j = k
          · subst e; exact HG.out
          · exact hg j (by omega)⟩
        case measure => simp [intOf] <;> omega
      · have HG := Lib.hid hgood
        by_cases hl : sb s k < 48
        · have h1 : ((s[k]'hlt).toNat : Int) < 48 := by omega
          clear he hgood
          go_wp2
          exact bodyPost_ret (v := .tuple #[.slice none 0 0, .agg #[.int .i64 11, .int .i64 (k : Int)]]) (by simp [results, Tryz.results87, go_sem]) rfl ⟨_, _, _, rfl, .inr (.inl ⟨h, k, hlt, HG.out, hg, rfl, rfl, rfl⟩), (Below.refl _ _).alloc (Nat.le_refl _) _⟩
        · have h1 : ¬ ((s[k]'hlt).toNat : Int) < 48 := by omega
          have h2 : (57 : Int) < ((s[k]'hlt).toNat : Int) := by unfold good at hgood; omega
          clear he hgood
          go_wp2
          exact bodyPost_ret (v := .tuple #[.slice none 0 0, .agg #[.int .i64 11, .int .i64 (k : Int)]]) (by simp [results, Tryz.results87, go_sem]) rfl ⟨_, _, _, rfl, .inr (.inl ⟨h, k, hlt, HG.out, hg, rfl, rfl, rfl⟩), (Below.refl _ _).alloc (Nat.le_refl _) _⟩
    · obtain rfl : k = s.size := by omega
      by_cases h0 : s.size = 0
      · have h0' : ((s.size : Int) == 0) = true := by rw [h0]; rfl
        have H0 := Lib.hid h0
        clear h0
        go_wp2
        exact bodyPost_ret (v := .tuple #[.slice none 0 0, .agg #[.int .i64 11, .int .i64 0]]) (by simp [results, Tryz.results87, go_sem]) rfl ⟨_, _, _, rfl, .inr (.inr (.inl ⟨h, hg, .inl H0.out, rfl, rfl, rfl⟩)), (Below.refl _ _).alloc (Nat.le_refl _) _⟩
      · have h0' : ((s.size : Int) == 0) = false := by rw [beq_eq_false_iff_ne]; omega
        have h0p : 0 < s.size := by omega
        have he := sb_eq s 0 h0p
        by_cases h1 : 1 < s.size
        · have h1' : (1 : Int) < (s.size : Int) := by omega
          by_cases hz : sb s 0 = 48
          · have hzb : (((s[0]'h0p).toNat : Int) == 48) = true := by rw [he, hz]; rfl
            have HZ := Lib.hid hz
            clear hz he h0
            go_wp2
            exact bodyPost_ret (v := .tuple #[.slice none 0 0, .agg #[.int .i64 11, .int .i64 0]]) (by simp [results, Tryz.results87, go_sem]) rfl ⟨_, _, _, rfl, .inr (.inr (.inl ⟨h, hg, .inr ⟨h1, HZ.out⟩, rfl, rfl, rfl⟩)), (Below.refl _ _).alloc (Nat.le_refl _) _⟩
          · have hzb : (((s[0]'h0p).toNat : Int) == 48) = false := by rw [he, beq_eq_false_iff_ne]; omega
            have HZ := Lib.hid hz
            clear hz he h0
            go_wp2_with fail
            go_loopw [5, 6, 7, 8] (fun v z _ _ wr => ∃ j : Nat, j ≤ 1025 ∧ z = .int .i64 ((s.size : Int) - 9 * (j : Int)) ∧ Own wr (w.heap.size + 1) v j (lim (sd s)) ∧ Hid (9 * j ≤ s.size + 8) ∧ Below (w.heap.size + 1) (w.alloc (.cells #[.int .i64 0, .int .i64 0] 32)) wr) (fun _ z _ _ _ => (intOf z).toNat)
            case atStart => exact ⟨0, by omega, by go_num, Own.nil _ _ _, by show 9 * 0 ≤ s.size + 8; omega, Below.refl _ _⟩
            case round =>
              obtain ⟨j, hj, rfl, hown, hjl, hbel⟩ := hrel
              by_cases hlt : 9 * j < s.size
              · obtain ⟨wo, rfl⟩ : ∃ wo : World, wo = wr := ⟨_, rfl⟩
                obtain ⟨E, hE⟩ : ∃ E, s.size - 9 * j = E := ⟨_, rfl⟩
                have hzE : ((s.size : Int) - 9 * (j : Int)) = (E : Int) := by omega
                rw [hzE]
                have hEp : 0 < E := by omega
                have hEs : E ≤ s.size := by omega
                have HE := Lib.hid hE
                have HZE := Lib.hid hzE
                have hx0 : iv (hd (fun r => sd s (9 * j + r)) 9 (E - (E - 9))) = 0 := by
                  rw [hd_zeros, iv_zero]
                  intro p h1 h2
                  exact sd_top (by omega)
                have HX0 := Lib.hid hx0
                have hsz := hbel.size
                rw [World.size_alloc] at hsz
                clear hE hx0 hzE
                go_wp2_with fail
                all_goals
                  go_loop [7, 8] (fun x i => ∃ q : Nat, E - 9 ≤ q ∧ q ≤ E ∧ i = .int .i64 q ∧ x = .int .u32 (iv (hd (fun r => sd s (9 * j + r)) 9 (E - q)))) (fun _ i => E - (intOf i).toNat)
                  case atStart => exact ⟨E - 9, by omega, by omega, by first | go_num | (congr 1; omega), by rw [HX0.out]⟩
                  case round =>
                    obtain ⟨q, hq1, hq2, rfl, rfl⟩ := hrel
                    by_cases hqE : q < E
                    · have hqs : q < s.size := by omega
                      obtain ⟨s1, s2⟩ := ref_step (j := j) hg.out HE.out hqs hqE (by omega)
                      have hgk := hg.out q hqs
                      have he := sb_eq s q hqs
                      have b1 : (48 : Int) ≤ ((s[q]'hqs).toNat : Int) := by unfold good at hgk; omega
                      have b2 : ((s[q]'hqs).toNat : Int) ≤ 57 := by unfold good at hgk; omega
                      have hx0 := iv_nonneg (hd (fun r => sd s (9 * j + r)) 9 (E - q))
                      have hqi : (q : Int) < (s.size : Int) := by omega
                      have HS1 := Lib.hid s1
                      clear s1 hgk he
                      generalize hgx : iv (hd (fun r => sd s (9 * j + r)) 9 (E - q)) = x at *
                      have HGX := Lib.hid hgx
                      clear hgx
                      go_wp2_with fail
                      go_round
                      case rel => exact ⟨q + 1, by omega, by omega, by go_num, by rw [HS1.out]⟩
                      case measure => simp [intOf] <;> omega
                    · obtain rfl : q = E := by omega
                      rw [Nat.sub_self, hd_zero, show nt (fun r => sd s (9 * j + r)) 9 = lim (sd s) j from rfl]
                      have hl0 := iv_nonneg (lim (sd s) j)
                      have hl1 := iv_limb (lim_lt (sd_lt hg.out) j)
                      generalize hgx : iv (lim (sd s) j) = x at *
                      have HGX := Lib.hid hgx
                      clear hgx
                      obtain ⟨i0, hi, hz0, hz1, hz2⟩ := info_parts info32
                      go_wp2_with (at_builtin; refine wpList_append_own _ rfl (.tmp 67) (.tmp 69) 23 rfl (w.heap.size + 1) 40 i0 (.int .u32 0) 1 4 Tryz.underlying23 hi hz0 hz1 hz2 rfl (by decide) _ _ _ rfl (World.ownsRow.alloc hown _) ⟨wo.heap.size, 0, none⟩ 1 1 [.int .u32 x] rfl rfl (cell_one_new _ _ _) (oneCell_u32 _) (by unfold maxLen; omega) (by omega) (size_one hsz _) ?_)
                      intro v' w1 hown' hgrow _
                      have hb1 := snocB hown hbel (Nat.le_refl _) hsz hgrow
                      rw [← HGX.out] at hown'
                      have hown1 := Own.snoc hown' rfl
                      clear hown' hgrow hown hbel
                      go_wp2_with fail
                      go_roundw
                      case rel => exact ⟨j + 1, by omega, by have := HZE.out; congr 1; omega, hown1, by show 9 * (j + 1) ≤ s.size + 8; have := HE.out; omega, hb1⟩
                      case measure => simp [intOf] <;> omega
              · have hneg : ¬ (0 : Int) < (s.size : Int) - 9 * (j : Int) := by omega
                have hlim := lim_lt (sd_lt hg.out)
                obtain ⟨V, c, rfl, hr⟩ := hown.rs (fun j _ => by have := hlim j; rw [LB_eq] at this; omega)
                have HT := Lib.hid (refTrim_any V j c _ _ wr hr)
                have HD : Hid (∀ m, Trim j (lim (sd s)) m → Dig m (lim (sd s)) (pnum s)) := fun m hm => hm.dig (fun j _ => hlim j) (by rw [nv_lim, nt_top (fun p hp => sd_top hp) (by omega)]; rfl)
                have f0 : wr.cell? ⟨w.heap.size, 0, none⟩ = some (.int .i64 0) := (hbel.cell (p := ⟨w.heap.size, 0, none⟩) (Nat.lt_succ_self _)).trans (by rw [World.cell?_alloc_at _ _ _ _ rfl]; rfl)
                have f1 : wr.cell? ⟨w.heap.size, 1, none⟩ = some (.int .i64 0) := (hbel.cell (p := ⟨w.heap.size, 1, none⟩) (Nat.lt_succ_self _)).trans (by rw [World.cell?_alloc_at _ _ _ _ rfl]; rfl)
                have z0 : wr.frozen? ⟨w.heap.size, 0, none⟩ = false := (hbel.frozen (p := ⟨w.heap.size, 0, none⟩) (Nat.lt_succ_self _)).trans (World.frozen?_alloc_at _ _ _ _ rfl)
                have z1 : wr.frozen? ⟨w.heap.size, 1, none⟩ = false := (hbel.frozen (p := ⟨w.heap.size, 1, none⟩) (Nat.lt_succ_self _)).trans (World.frozen?_alloc_at _ _ _ _ rfl)
                clear hown hr hlim
                go_wp2_with fail
                refine HT.out.mono ?_
                rintro e w' ⟨⟨v, rfl, A2, m2, c2, rfl, hr2, htr⟩, rfl⟩
                have HTR := Lib.hid htr
                clear htr
                go_wp2_with fail
                have hbf : Below w.heap.size w ((wr.setCell ⟨w.heap.size, 0, none⟩ (.int .i64 0)).setCell ⟨w.heap.size, 1, none⟩ (.int .i64 0)) :=
                  ((((Below.refl _ _).alloc (Nat.le_refl _) _).trans (hbel.mono (by omega))).setCell (p := ⟨w.heap.size, 0, none⟩) (Nat.le_refl _) _).setCell (p := ⟨w.heap.size, 1, none⟩) (Nat.le_refl _) _
                have hr3 : Rs ((wr.setCell ⟨w.heap.size, 0, none⟩ (.int .i64 0)).setCell ⟨w.heap.size, 1, none⟩ (.int .i64 0)) wr.heap.size A2 m2 c2 (lim (sd s)) := hr2.keep fun p _ => (cell_set_id (by rw [cell_set_id f0]; exact f1) p).trans (cell_set_id f0 p)
                exact bodyPost_ret (v := .tuple #[.slice A2 m2 c2, .agg #[.int .i64 0, .int .i64 0]]) (by simp [results, Tryz.results87, go_sem, f0, f1]) rfl ⟨_, _, _, rfl, .inr (.inr (.inr ⟨h, hg.out, by
                  rintro (e | ⟨e1, e2⟩)
                  · omega
                  · first | exact HZ.out e2 | omega, rfl, rfl, A2, m2, c2, _, rfl, hr3.more (by simp [World.setCell]), HD.out _ HTR.out, hbf⟩)), hbf⟩
        · have h1' : ¬ (1 : Int) < (s.size : Int) := by omega
          clear he h0
          go_wp2_with fail
          go_loopw [5, 6, 7, 8] (fun v z _ _ wr => ∃ j : Nat, j ≤ 1025 ∧ z = .int .i64 ((s.size : Int) - 9 * (j : Int)) ∧ Own wr (w.heap.size + 1) v j (lim (sd s)) ∧ Hid (9 * j ≤ s.size + 8) ∧ Below (w.heap.size + 1) (w.alloc (.cells #[.int .i64 0, .int .i64 0] 32)) wr) (fun _ z _ _ _ => (intOf z).toNat)
          case atStart => exact ⟨0, by omega, by go_num, Own.nil _ _ _, by show 9 * 0 ≤ s.size + 8; omega, Below.refl _ _⟩
          case round =>
            obtain ⟨j, hj, rfl, hown, hjl, hbel⟩ := hrel
            by_cases hlt : 9 * j < s.size
            · obtain ⟨wo, rfl⟩ : ∃ wo : World, wo = wr := ⟨_, rfl⟩
              obtain ⟨E, hE⟩ : ∃ E, s.size - 9 * j = E := ⟨_, rfl⟩
              have hzE : ((s.size : Int) - 9 * (j : Int)) = (E : Int) := by omega
              rw [hzE]
              have hEp : 0 < E := by omega
              have hEs : E ≤ s.size := by omega
              have HE := Lib.hid hE
              have HZE := Lib.hid hzE
              have hx0 : iv (hd (fun r => sd s (9 * j + r)) 9 (E - (E - 9))) = 0 := by
                rw [hd_zeros, iv_zero]
                intro p h1 h2
                exact sd_top (by omega)
              have HX0 := Lib.hid hx0
              have hsz := hbel.size
              rw [World.size_alloc] at hsz
              clear hE hx0 hzE
              go_wp2_with fail
              all_goals
                go_loop [7, 8] (fun x i => ∃ q : Nat, E - 9 ≤ q ∧ q ≤ E ∧ i = .int .i64 q ∧ x = .int .u32 (iv (hd (fun r => sd s (9 * j + r)) 9 (E - q)))) (fun _ i => E - (intOf i).toNat)
                case atStart => exact ⟨E - 9, by omega, by omega, by first | go_num | (congr 1; omega), by rw [HX0.out]⟩
                case round =>
                  obtain ⟨q, hq1, hq2, rfl, rfl⟩ := hrel
                  by_cases hqE : q < E
                  · have hqs : q < s.size := by omega
                    obtain ⟨s1, s2⟩ := ref_step (j := j) hg.out HE.out hqs hqE (by omega)
                    have hgk := hg.out q hqs
                    have he := sb_eq s q hqs
                    have b1 : (48 : Int) ≤ ((s[q]'hqs).toNat : Int) := by unfold good at hgk; omega
                    have b2 : ((s[q]'hqs).toNat : Int) ≤ 57 := by unfold good at hgk; omega
                    have hx0 := iv_nonneg (hd (fun r => sd s (9 * j + r)) 9 (E - q))
                    have hqi : (q : Int) < (s.size : Int) := by omega
                    have HS1 := Lib.hid s1
                    clear s1 hgk he
                    generalize hgx : iv (hd (fun r => sd s (9 * j + r)) 9 (E - q)) = x at *
                    have HGX := Lib.hid hgx
                    clear hgx
                    go_wp2_with fail
                    go_round
                    case rel => exact ⟨q + 1, by omega, by omega, by go_num, by rw [HS1.out]⟩
                    case measure => simp [intOf] <;> omega
                  · obtain rfl : q = E := by omega
                    rw [Nat.sub_self, hd_zero, show nt (fun r => sd s (9 * j + r)) 9 = lim (sd s) j from rfl]
                    have hl0 := iv_nonneg (lim (sd s) j)
                    have hl1 := iv_limb (lim_lt (sd_lt hg.out) j)
                    generalize hgx : iv (lim (sd s) j) = x at *
                    have HGX := Lib.hid hgx
                    clear hgx
                    obtain ⟨i0, hi, hz0, hz1, hz2⟩ := info_parts info32
                    go_wp2_with (at_builtin; refine wpList_append_own _ rfl (.tmp 67) (.tmp 69) 23 rfl (w.heap.size + 1) 40 i0 (.int .u32 0) 1 4 Tryz.underlying23 hi hz0 hz1 hz2 rfl (by decide) _ _ _ rfl (World.ownsRow.alloc hown _) ⟨wo.heap.size, 0, none⟩ 1 1 [.int .u32 x] rfl rfl (cell_one_new _ _ _) (oneCell_u32 _) (by unfold maxLen; omega) (by omega) (size_one hsz _) ?_)
                    intro v' w1 hown' hgrow _
                    have hb1 := snocB hown hbel (Nat.le_refl _) hsz hgrow
                    rw [← HGX.out] at hown'
                    have hown1 := Own.snoc hown' rfl
                    clear hown' hgrow hown hbel
                    go_wp2_with fail
                    go_roundw
                    case rel => exact ⟨j + 1, by omega, by have := HZE.out; congr 1; omega, hown1, by show 9 * (j + 1) ≤ s.size + 8; have := HE.out; omega, hb1⟩
                    case measure => simp [intOf] <;> omega
            · have hneg : ¬ (0 : Int) < (s.size : Int) - 9 * (j : Int) := by omega
              have hlim := lim_lt (sd_lt hg.out)
              obtain ⟨V, c, rfl, hr⟩ := hown.rs (fun j _ => by have := hlim j; rw [LB_eq] at this; omega)
              have HT := Lib.hid (refTrim_any V j c _ _ wr hr)
              have HD : Hid (∀ m, Trim j (lim (sd s)) m → Dig m (lim (sd s)) (pnum s)) := fun m hm => hm.dig (fun j _ => hlim j) (by rw [nv_lim, nt_top (fun p hp => sd_top hp) (by omega)]; rfl)
              have f0 : wr.cell? ⟨w.heap.size, 0, none⟩ = some (.int .i64 0) := (hbel.cell (p := ⟨w.heap.size, 0, none⟩) (Nat.lt_succ_self _)).trans (by rw [World.cell?_alloc_at _ _ _ _ rfl]; rfl)
              have f1 : wr.cell? ⟨w.heap.size, 1, none⟩ = some (.int .i64 0) := (hbel.cell (p := ⟨w.heap.size, 1, none⟩) (Nat.lt_succ_self _)).trans (by rw [World.cell?_alloc_at _ _ _ _ rfl]; rfl)
              have z0 : wr.frozen? ⟨w.heap.size, 0, none⟩ = false := (hbel.frozen (p := ⟨w.heap.size, 0, none⟩) (Nat.lt_succ_self _)).trans (World.frozen?_alloc_at _ _ _ _ rfl)
              have z1 : wr.frozen? ⟨w.heap.size, 1, none⟩ = false := (hbel.frozen (p := ⟨w.heap.size, 1, none⟩) (Nat.lt_succ_self _)).trans (World.frozen?_alloc_at _ _ _ _ rfl)
              clear hown hr hlim
              go_wp2_with fail
              refine HT.out.mono ?_
              rintro e w' ⟨⟨v, rfl, A2, m2, c2, rfl, hr2, htr⟩, rfl⟩
              have HTR := Lib.hid htr
              clear htr
              go_wp2_with fail
              have hbf : Below w.heap.size w ((wr.setCell ⟨w.heap.size, 0, none⟩ (.int .i64 0)).setCell ⟨w.heap.size, 1, none⟩ (.int .i64 0)) :=
                ((((Below.refl _ _).alloc (Nat.le_refl _) _).trans (hbel.mono (by omega))).setCell (p := ⟨w.heap.size, 0, none⟩) (Nat.le_refl _) _).setCell (p := ⟨w.heap.size, 1, none⟩) (Nat.le_refl _) _
              have hr3 : Rs ((wr.setCell ⟨w.heap.size, 0, none⟩ (.int .i64 0)).setCell ⟨w.heap.size, 1, none⟩ (.int .i64 0)) wr.heap.size A2 m2 c2 (lim (sd s)) := hr2.keep fun p _ => (cell_set_id (by rw [cell_set_id f0]; exact f1) p).trans (cell_set_id f0 p)
              exact bodyPost_ret (v := .tuple #[.slice A2 m2 c2, .agg #[.int .i64 0, .int .i64 0]]) (by simp [results, Tryz.results87, go_sem, f0, f1]) rfl ⟨_, _, _, rfl, .inr (.inr (.inr ⟨h, hg.out, by
                rintro (e | ⟨e1, e2⟩)
                · omega
                · first | exact HZ.out e2 | omega, rfl, rfl, A2, m2, c2, _, rfl, hr3.more (by simp [World.setCell]), HD.out _ HTR.out, hbf⟩)), hbf⟩

end Go.Proofs.YtbjaolmlnkliiaaGreatDoor

/- The contracts of the reference's Text and Digits. Conditions as premises: the list reads. -/
namespace Go.Proofs.YtbjaolmlnkliiaaGreatDoor
open Go.RowKit

def us8 (f : Nat → Nat) (n : Nat) : List Value := (List.range n).map fun j => .int .u8 (iv (f j))
theorem us8_get (f : Nat → Nat) (n j : Nat) (h : j < n) : (us8 f n)[j]? = some (.int .u8 (iv (f j))) := by simp [us8, h]
theorem us8_succ (f : Nat → Nat) (n : Nat) : us8 f (n + 1) = us8 f n ++ [.int .u8 (iv (f n))] := by simp [us8, List.range_succ]

/-- A row of the call's own that holds bytes. -/
def Own8 (w : World) (base : Nat) (v : Value) (n : Nat) (f : Nat → Nat) : Prop := w.ownsRow base 5 1 v n (us8 f n)
theorem Own8.nil (w : World) (base : Nat) (f : Nat → Nat) : Own8 w base (.slice none 0 0) 0 f := World.ownsRow_nil _ _ _ _
theorem Own8.snoc {w1 : World} {base n x : Nat} {v' : Value} {f : Nat → Nat} (h : w1.ownsRow base 5 1 v' (n + 1) (us8 f n ++ [.int .u8 (iv x)])) (hx : f n = x) : Own8 w1 base v' (n + 1) f := by
  unfold Own8; rw [us8_succ, hx]; exact h
theorem snoc8_below {w wr w1 : World} {base n : Nat} {v : Value} {f : Nat → Nat} {o : Obj} (hown : Own8 wr base v n f) (hb : Below w.heap.size w wr) (hbase : w.heap.size ≤ base) (hsz : base ≤ wr.heap.size) (hg : (wr.alloc o).grownBy w1 v.ownBlock) : Below w.heap.size w w1 :=
  (hb.alloc (by omega) o).grown hg (by simp; omega) (fun j hj => by have := (World.ownsRow.lt hown j hj).1; omega)

/-- Block g is a row of bytes of cap cells, the first m being those of f. -/
def P8 (w : World) (g cap m : Nat) (f : Nat → Nat) : Prop := ∃ F, w.rowIs g 5 cap F ∧ m ≤ cap ∧ ∀ j, j < m → F j = .int .u8 (iv (f j))
theorem P8.cell {w : World} {g cap m : Nat} {f : Nat → Nat} (h : P8 w g cap m f) {j : Nat} (hj : j < m) : w.cell? ⟨g, j, none⟩ = some (.int .u8 (iv (f j))) := by
  obtain ⟨F, hr, hm, hF⟩ := h
  rw [World.rowIs.cell hr (by omega), hF j hj]
theorem P8.frozen {w : World} {g cap m : Nat} {f : Nat → Nat} (h : P8 w g cap m f) (j : Nat) : w.frozen? ⟨g, j, none⟩ = false := by
  obtain ⟨F, hr, hm, hF⟩ := h
  exact World.rowIs.frozen hr j
theorem P8.set {w : World} {g cap m : Nat} {f : Nat → Nat} (h : P8 w g cap m f) (i x : Nat) : P8 (w.setCell ⟨g, i, none⟩ (.int .u8 (iv x))) g cap m (fun j => if j = i then x else f j) := by
  obtain ⟨F, hr, hm, hF⟩ := h
  exact ⟨_, World.rowIs.set hr i _, hm, fun j hj => by
    by_cases e : j = i
    · simp [e]
    · simp [e, hF _ hj]⟩
theorem P8.congr {w : World} {g cap m : Nat} {f f' : Nat → Nat} (h : P8 w g cap m f) (e : ∀ j, j < m → f j = f' j) : P8 w g cap m f' := by
  obtain ⟨F, hr, hm, hF⟩ := h
  exact ⟨F, hr, hm, fun j hj => by rw [hF j hj, e j hj]⟩
theorem P8.take {w : World} {g cap m k : Nat} {f : Nat → Nat} (h : P8 w g cap m f) (hk : k ≤ m) : P8 w g cap k f := by
  obtain ⟨F, hr, hm, hF⟩ := h
  exact ⟨F, hr, by omega, fun j hj => hF j (by omega)⟩
theorem P8.drewN {w : World} {g cap m : Nat} {f : Nat → Nat} (h : P8 w g cap m f) (k : Nat) : P8 (w.drewN k) g cap m f := h
theorem P8.drew {w : World} {g cap m : Nat} {f : Nat → Nat} (h : P8 w g cap m f) : P8 w.drew g cap m f := h

theorem Own8.part {w : World} {base n : Nat} {v : Value} {f : Nat → Nat} (h : Own8 w base v n f) (hn : 0 < n) : ∃ g cap, v = .slice (some ⟨g, 0, none⟩) n cap ∧ base ≤ g ∧ cap ≤ maxLen ∧ P8 w g cap n f := by
  unfold Own8 at h
  rcases h.2 with ⟨rfl, h0⟩ | ⟨g, cap, cur, rfl, hg, hh, hnc, hcm, hsz, htk⟩
  · omega
  · refine ⟨g, cap, rfl, hg, hcm, fun j => cur[j]?.getD undef, ⟨cur, hh, by simpa using hsz, fun i hi => ?_⟩, hnc, fun j hj => ?_⟩
    · have : i < cur.size := by rw [hsz]; omega
      simp [this]
    · have h1 := us8_get f n j hj
      rw [← htk] at h1
      have h2 : cur[j]? = some (.int .u8 (iv (f j))) := by
        rw [← h1]; simp [hj]
      show cur[j]?.getD undef = _
      rw [h2]; rfl

theorem Own8.form {w : World} {base n : Nat} {v : Value} {f : Nat → Nat} (h : Own8 w base v n f) : ∃ A cap, v = .slice A n cap ∧ n ≤ cap ∧ cap ≤ 9223372036854775807 ∧ (0 < n → ∃ g, A = some ⟨g, 0, none⟩ ∧ base ≤ g ∧ P8 w g cap n f) := by
  by_cases hn : 0 < n
  · obtain ⟨g, cap, e, hg, hm, hp⟩ := h.part hn
    have hnc : n ≤ cap := by obtain ⟨F, _, h2, _⟩ := hp; exact h2
    exact ⟨_, cap, e, hnc, by unfold maxLen at hm; omega, fun _ => ⟨g, rfl, hg, hp⟩⟩
  · obtain rfl : n = 0 := by omega
    unfold Own8 at h
    rcases h.2 with ⟨rfl, h0⟩ | ⟨g, cap, cur, rfl, hg, hh, hnc, hcm, hsz, htk⟩
    · exact ⟨none, 0, rfl, Nat.le_refl _, by omega, fun h => by omega⟩
    · exact ⟨_, cap, rfl, hnc, by unfold maxLen at hcm; omega, fun h => by omega⟩

theorem conv_P8 {w : World} {g cap m : Nat} {f : Nat → Nat} (h : P8 w g cap m f) :
    (convert 155 9 (.slice (some ⟨g, 0, none⟩) m cap)).run Tryz.prog w = .ok (.string (strOfNums ((List.range m).map fun i => iv (f i)))) w :=
  run_convert_bytes_arg w 155 5 Tryz.underlying155 Tryz.underlying5 g 0 m cap _ (by simp) (fun i hi => by
    rw [Nat.zero_add, h.cell hi]; simp [List.getD, hi]) 9 Tryz.underlying9

/-- the decimal digits of N as bytes, the lowest first -/
def lb (N j : Nat) : Nat := 48 + N / 10 ^ j % 10

theorem lb_limb {n i k : Nat} {f : Nat → Nat} (hv : Val n f) (hi : i < n) (hk : k < 9) : 48 + iv (f i / 10 ^ k) % 10 = iv (lb (nv f n) (9 * i + k)) := by
  unfold lb
  rw [← digit_of_limb hv.1 hi hk, iv_eq, iv_eq]
  generalize f i / 10 ^ k = M
  omega
theorem div_ten (a k : Nat) : iv (a / 10 ^ k) / 10 = iv (a / 10 ^ (k + 1)) := by
  rw [iv_eq, iv_eq, Nat.pow_succ, ← Nat.div_div_eq_div_mul]
  generalize a / 10 ^ k = M
  omega

/-- the digits above place m are 0, the one below is not -/
theorem len_of_trim {N M m : Nat} (hN : N < 10 ^ M) (hm : m ≤ M) (hz : ∀ j, m ≤ j → j < M → N / 10 ^ j % 10 = 0) (ht : 0 < m → N / 10 ^ (m - 1) % 10 ≠ 0) :
    N < 10 ^ m ∧ (0 < m → 10 ^ (m - 1) ≤ N) := by
  constructor
  · have key : ∀ d, m + d ≤ M → N < 10 ^ (M - d) := by
      intro d
      induction d with
      | zero => intro _; exact hN
      | succ d ih =>
        intro h
        have h1 := ih (by omega)
        have h2 := hz (M - (d + 1)) (by omega) (by omega)
        have h3 : 10 ^ (M - d) = 10 ^ (M - (d + 1)) * 10 := by rw [← Nat.pow_succ]; congr 1; omega
        rw [h3] at h1
        have h4 : N / 10 ^ (M - (d + 1)) < 10 := by rw [Nat.div_lt_iff_lt_mul (ten_pos _), Nat.mul_comm]; exact h1
        have h5 : N / 10 ^ (M - (d + 1)) = 0 := by rw [Nat.mod_eq_of_lt h4] at h2; exact h2
        rcases Nat.lt_or_ge N (10 ^ (M - (d + 1))) with h6 | h6
        · exact h6
        · exact absurd h5 (Nat.ne_of_gt (Nat.div_pos h6 (ten_pos _)))
    have := key (M - m) (by omega)
    rwa [show M - (M - m) = m by omega] at this
  · intro h
    rcases Nat.lt_or_ge N (10 ^ (m - 1)) with h6 | h6
    · exact absurd (by rw [Nat.div_eq_of_lt h6]) (ht h)
    · exact h6

end Go.Proofs.YtbjaolmlnkliiaaGreatDoor

/- The contracts of the reference's Text and Digits. Conditions as premises: the list reads. -/
namespace Go.Proofs.YtbjaolmlnkliiaaGreatDoor
open Go.RowKit

/-- the bytes lowest first, of which q at each end have been exchanged -/
def rv (N m q j : Nat) : Nat := if j < q ∨ m - 1 - j < q then lb N (m - 1 - j) else lb N j

theorem rv_step {N m q r : Nat} (h : q + r + 1 = m) (hlt : q < r) : ∀ j, j < m → (if j = r then lb N q else if j = q then lb N r else rv N m q j) = rv N m (q + 1) j := by
  intro j hj
  unfold rv
  by_cases e1 : j = r
  · subst e1
    rw [if_pos rfl, if_pos (by omega), show m - 1 - j = q by omega]
  · rw [if_neg e1]
    by_cases e2 : j = q
    · subst e2
      rw [if_pos rfl, if_pos (by omega), show m - 1 - j = r by omega]
    · rw [if_neg e2]
      by_cases e3 : j < q ∨ m - 1 - j < q
      · rw [if_pos e3, if_pos (by omega)]
      · rw [if_neg e3, if_neg (by omega)]

theorem rv_done {N m q r : Nat} (h : q + r + 1 = m) (hlt : ¬ q < r) : ∀ j, j < m → rv N m q j = lb N (m - 1 - j) := by
  intro j hj
  unfold rv
  by_cases e3 : j < q ∨ m - 1 - j < q
  · rw [if_pos e3]
  · rw [if_neg e3, show m - 1 - j = j by omega]

theorem txt_zero : txt 0 1 = ⟨#[48]⟩ := by
  unfold txt
  rw [show (List.range 1).map (fun i => iv (tb 0 1 i)) = [48] by simp [tb, iv_n 48 48 rfl]]
  rfl

theorem lb_48 {N j : Nat} : lb N j = 48 ↔ N / 10 ^ j % 10 = 0 := by unfold lb; omega

set_option maxHeartbeats 8000000 in
set_option maxRecDepth 100000 in
theorem refText_ok (A : Option Addr) (n c : Nat) (f : Nat → Nat) (w : World) (h : Rs w w.heap.size A n c f) (hn : n ≤ 1024) (hv : Val n f) :
    Calls Tryz.prog 79 #[.slice A n c] w fun e w' => (∃ L, e = .returned (.tuple #[.string (txt (nv f n) L), .int .i64 0]) ∧ IsLen (nv f n) L) ∧ Below w.heap.size w w' := by
  have c1 := refCheck_any A n c f _ w h
  rw [chk_ok (by omega) hv] at c1
  have C1 := Lib.hid c1
  have HV := Lib.hid hv
  clear c1 hv
  go_enter Tryz.func79, Tryz.ntmps79
  go_wp2_with fail
  refine C1.out.mono ?_
  rintro e w' ⟨rfl, rfl⟩
  go_wp2_with fail
  go_loopw [5, 6, 7, 8] (fun v i _ _ wr => ∃ k : Nat, k ≤ n ∧ i = .int .i64 k ∧ Own8 wr w.heap.size v (9 * k) (lb (nv f n)) ∧ Below w.heap.size w wr) (fun _ i _ _ _ => n - (intOf i).toNat)
  case atStart => exact ⟨0, Nat.zero_le _, rfl, Own8.nil _ _ _, Below.refl _ _⟩
  case round =>
    obtain ⟨k, hk, rfl, hown, hbel⟩ := hrel
    by_cases hlt : k < n
    · obtain ⟨wo, rfl⟩ : ∃ wo : World, wo = wr := ⟨_, rfl⟩
      have hr := h.below hbel
      obtain ⟨b, off, rfl, hb, hc⟩ := hr.cell (by omega)
      have hck := hc k hlt
      have hfk := HV.out.1 k hlt
      have HFK := Lib.hid hfk
      clear hc hfk
      go_wp2_with fail
      go_loopw [5, 7, 8] (fun v x j wr => ∃ q : Nat, q ≤ 9 ∧ j = .int .i64 q ∧ x = .int .u32 (iv (f k / 10 ^ q)) ∧ Own8 wr w.heap.size v (9 * k + q) (lb (nv f n)) ∧ Below w.heap.size w wr) (fun _ _ j _ => 9 - (intOf j).toNat)
      case atStart => exact ⟨0, Nat.zero_le _, rfl, by simp, hown, hbel⟩
      case round =>
        obtain ⟨q, hq, rfl, rfl, hown2, hbel2⟩ := hrel
        clear hown hbel
        by_cases hq9 : q < 9
        · have hx0 := iv_nonneg (f k / 10 ^ q)
          have hx1 : iv (f k / 10 ^ q) < 1000000000 := iv_limb (Nat.lt_of_le_of_lt (Nat.div_le_self _ _) HFK.out)
          have HL := Lib.hid (lb_limb HV.out hlt hq9)
          have HD := Lib.hid (div_ten (f k) q)
          have hsz := hbel2.size
          generalize hgx : iv (f k / 10 ^ q) = x at *
          have HGX := Lib.hid hgx
          clear hgx
          obtain ⟨i0, hi, hz0, hz1, hz2⟩ := info_parts info8
          go_wp2_with (at_builtin; refine wpList_append_own _ rfl (.tmp 30) (.tmp 35) 155 rfl w.heap.size 5 i0 (.int .u8 0) 1 1 Tryz.underlying155 hi hz0 hz1 hz2 rfl (by decide) _ _ _ rfl (World.ownsRow.alloc hown2 _) ⟨wr.heap.size, 0, none⟩ 1 1 [.int .u8 (48 + x % 10)] rfl rfl (cell_one_new _ _ _) ?c2 ?c3 ?c4 ?c5 ?_)
          case c2 => intro u hu; simp at hu; subst hu; rfl
          case c3 => unfold maxLen; omega
          case c4 => omega
          case c5 => simp; omega
          intro v' w1 hown' hgrow _
          have hb1 := snoc8_below hown2 hbel2 (Nat.le_refl _) hsz hgrow
          rw [HL.out] at hown'
          have hown1 := Own8.snoc hown' rfl
          clear hown' hgrow hown2 hbel2
          go_wp2_with fail
          go_roundw
          case rel => exact ⟨q + 1, by omega, by go_num, by rw [HD.out], hown1, hb1⟩
          case measure => simp [intOf] <;> omega
        · obtain rfl : q = 9 := by omega
          go_wp2_with fail
          go_roundw
          case rel => exact ⟨k + 1, by omega, by go_num, hown2, hbel2⟩
          case measure => simp [intOf] <;> omega
    · obtain rfl : k = n := by omega
      obtain ⟨wo, rfl⟩ : ∃ wo : World, wo = wr := ⟨_, rfl⟩
      obtain ⟨V, cap, rfl, hcapn, hcapm, hform⟩ := hown.form
      have HF := Lib.hid hform
      have HN : Hid (nv f k < 10 ^ (9 * k)) := by have := nv_lt k HV.out.1; rw [LB_pow] at this; exact this
      have HN0 : Hid ((∀ j, 0 ≤ j → j < 9 * k → lb (nv f k) j = 48) → nv f k = 0) := fun hh => by
        have := (len_of_trim HN.out (Nat.zero_le _) (fun j a b => lb_48.1 (hh j a b)) (fun h => by omega)).1
        omega
      have hcapm' : (cap : Int) ≤ 9223372036854775807 := by omega
      clear hform hown hcapm
      go_wp2_with fail
      go_loop [5] (fun s => ∃ m : Nat, m ≤ 9 * k ∧ s = .slice V m cap ∧ Hid (∀ j, m ≤ j → j < 9 * k → lb (nv f k) j = 48)) (fun s => lenV s)
      case atStart => exact ⟨_, Nat.le_refl _, rfl, fun j a b => by omega⟩
      case round =>
        obtain ⟨m, hm, rfl, hz⟩ := hrel
        by_cases hm0 : m = 0
        · subst hm0
          go_wp2_with fail
          go_ret2
          exact ⟨⟨1, by rw [HN0.out (fun j a b => hz j (by omega) b), txt_zero]; rfl, by rw [HN0.out (fun j a b => hz j (by omega) b)]; exact len_zero⟩, hbel⟩
        · have hmp : 0 < m := by omega
          have hmp' : (0 : Int) < (m : Int) := by omega
          have hmb : ((m : Int) == 0) = false := by rw [beq_eq_false_iff_ne]; omega
          obtain ⟨g, rfl, hg, hP⟩ := HF.out (by omega)
          have hcm := hP.cell (j := m - 1) (by omega)
          have hmc : m ≤ cap := by omega
          by_cases hl : lb (nv f k) (m - 1) = 48
          · rw [hl, iv_n 48 48 rfl] at hcm
            have HL := Lib.hid hl
            clear hl hm0
            go_wp2_with fail
            go_round
            case rel => exact ⟨m - 1, by omega, by go_num, fun j a b => by
              by_cases e : j = m - 1
              · subst e; exact HL.out
              · exact hz j (by omega) b⟩
            case measure => simp [lenV] <;> omega
          · have hlb : (iv (lb (nv f k) (m - 1)) == 48) = false := by rw [beq_eq_false_iff_ne]; intro e; apply hl; rw [iv_eq] at e; omega
            have HL := Lib.hid hl
            have hP0 := (hP.take hm).congr (f' := rv (nv f k) m 0) (fun j _ => by unfold rv; rw [if_neg (by omega)])
            generalize iv (lb (nv f k) (m - 1)) = x at *
            clear hl hm0
            go_wp2_with fail
            go_loopw [9, 10] (fun i j wr => ∃ q r : Nat, i = .int .i64 q ∧ j = .int .i64 r ∧ Hid (q + r + 1 = m) ∧ q ≤ r + 1 ∧ r < m ∧ P8 wr g cap m (rv (nv f k) m q) ∧ Below w.heap.size w wr) (fun i j _ => ((intOf j) + 1 - (intOf i)).toNat)
            case atStart => exact ⟨0, m - 1, rfl, by go_num, by show 0 + (m - 1) + 1 = m; omega, by omega, by omega, hP0, hbel⟩
            case round =>
              obtain ⟨q, r, rfl, rfl, hqr, hle, hrm, hPq, hb2⟩ := hrel
              by_cases hlt2 : q < r
              · have hq := hPq.cell (j := q) (by omega)
                have hr' := hPq.cell (j := r) hrm
                have fq := hPq.frozen q
                have fr := hPq.frozen r
                have e1 : rv (nv f k) m q q = lb (nv f k) q := by unfold rv; have := hqr.out; rw [if_neg (by omega)]
                have e2 : rv (nv f k) m q r = lb (nv f k) r := by unfold rv; have := hqr.out; rw [if_neg (by omega)]
                rw [e1] at hq
                rw [e2] at hr'
                have hqi : (q : Int) < (m : Int) := by omega
                have hri : (r : Int) < (m : Int) := by omega
                have hne : q ≠ r := by omega
                have hne' : r ≠ q := by omega
                clear e1 e2
                go_wp2_with fail
                go_region
                go_wp2_with fail
                go_roundw
                case rel => exact ⟨q + 1, r - 1, by go_num, by go_num, (show q + 1 + (r - 1) + 1 = m by have := hqr.out; omega), by omega, by omega, (((hPq.set q _).set r _).congr (rv_step hqr.out hlt2)).drew, ((hb2.setCell (p := ⟨g, q, none⟩) hg _).setCell (p := ⟨g, r, none⟩) hg _).drew⟩
                case measure => simp [intOf] <;> omega
              · have hconv := conv_P8 (hPq.congr (rv_done hqr.out hlt2))
                go_wp2_with fail
                go_ret2
                exact ⟨⟨m, rfl, by
                  obtain ⟨h1, h2⟩ := len_of_trim HN.out hm (fun j a b => lb_48.1 (hz j a b)) (fun _ e => HL.out (lb_48.2 e))
                  exact ⟨hmp, h1, fun _ => h2 hmp⟩⟩, hb2⟩

end Go.Proofs.YtbjaolmlnkliiaaGreatDoor

/- The walk of NatCalls: it returns true, and writes nothing that was there. Conditions as premises: the two lists read, the int is one, and the table of powers holds what its initialiser lays. -/
namespace Go.Proofs.YtbjaolmlnkliiaaGreatDoor
open Go.RowKit

theorem txt_size (N L : Nat) : (txt N L).size = L := by unfold txt strOfNums; simp [ByteArray.size]

set_option maxHeartbeats 400000 in
theorem refText_any (A : Option Addr) (n c : Nat) (f : Nat → Nat) (w : World) (h : Rs w w.heap.size A n c f) :
    Calls Tryz.prog 79 #[.slice A n c] w fun e w' => (∃ v, e = .returned v ∧ TextV n f v) ∧ Below w.heap.size w w' := by
  by_cases hk : chk n f = 0
  · exact (refText_ok A n c f w h (chk_zero hk).1 (chk_zero hk).2).mono fun _ _ ⟨⟨L, he, hL⟩, hb⟩ => ⟨⟨_, he, .inl ⟨hk, L, hL, rfl⟩⟩, hb⟩
  · have c1 := refCheck_any A n c f _ w h
    have h1 : (chk n f != 0) = true := by rw [bne_iff_ne]; exact hk
    have h2 : (chk n f == 0) = false := by rw [beq_eq_false_iff_ne]; exact hk
    have C1 := Lib.hid c1
    have HK := Lib.hid hk
    clear c1 hk
    go_enter Tryz.func79, Tryz.ntmps79
    go_wp2_with fail
    refine C1.out.mono ?_
    rintro e w' ⟨rfl, rfl⟩
    go_wp2_with fail
    go_ret2
    exact ⟨⟨_, rfl, .inr ⟨HK.out, rfl⟩⟩, Below.refl _ _⟩

theorem DigitsV.form {n : Nat} {f : Nat → Nat} {v : Value} (h : DigitsV n f v) : ∃ x y : Int, v = .tuple #[.int .i64 x, .int .i64 y] := by
  rcases h with ⟨_, L, _, rfl⟩ | ⟨_, rfl⟩
  · exact ⟨_, _, rfl⟩
  · exact ⟨_, _, rfl⟩
theorem DigitsV.unique {n : Nat} {f : Nat → Nat} {v u : Value} (h : DigitsV n f v) (k : DigitsV n f u) : v = u := by
  rcases h with ⟨h0, L, hL, rfl⟩ | ⟨h0, rfl⟩ <;> rcases k with ⟨k0, M, hM, rfl⟩ | ⟨k0, rfl⟩
  · rw [hL.unique hM]
  · exact absurd h0 k0
  · exact absurd k0 h0
  · rfl
theorem intV_form (n : Nat) (f : Nat → Nat) : ∃ x y : Int, intV n f = .tuple #[.int .i64 x, .int .i64 y] := by
  unfold intV
  split
  · split <;> exact ⟨_, _, rfl⟩
  · exact ⟨_, _, rfl⟩
theorem cmpV_form (n : Nat) (f : Nat → Nat) (m : Nat) (g : Nat → Nat) : ∃ x y : Int, cmpV n f m g = .tuple #[.int .i64 x, .int .i64 y] := ⟨_, _, rfl⟩

/-- what Of says of an int: a list and an error -/
def OfV (a : Int) (w : World) (v : Value) (y : Int) (w' : World) : Prop :=
  (a < 0 ∧ v = .slice none 0 0 ∧ y = 2 ∧ w = w') ∨ (0 ≤ a ∧ y = 0 ∧ Made w a.toNat v w')
theorem natOf_any (a : Int) (h1 : a ≤ 9223372036854775807) (w : World) :
    Calls Tryz.prog 165 #[.int .i64 a] w fun e w' => ∃ v y, e = .returned (.tuple #[v, .int .i64 y]) ∧ OfV a w v y w' := by
  by_cases h : a < 0
  · exact (natOf_neg a h w).mono fun _ _ ⟨he, hw⟩ => ⟨_, _, he, .inl ⟨h, rfl, rfl, hw⟩⟩
  · exact (natOf_pos a (by omega) h1 w).mono fun _ _ ⟨v, he, hw⟩ => ⟨_, _, he, .inr ⟨by omega, rfl, hw⟩⟩
theorem OfV.read {a : Int} {w w' : World} {v : Value} {y : Int} (h : OfV a w v y w') : Below w.heap.size w w' ∧ ∃ A n c f, v = .slice A n c ∧ Rs w' w'.heap.size A n c f ∧ y = (if a < 0 then 2 else 0) ∧ (if a < 0 then n = 0 else Dig n f a.toNat) := by
  rcases h with ⟨h, rfl, rfl, rfl⟩ | ⟨h, rfl, A, n, c, f, rfl, hr, hd, hb⟩
  · exact ⟨Below.refl _ _, none, 0, 0, fun _ => 0, rfl, Rs.nil _ _ _, by rw [if_pos h], by rw [if_pos h]⟩
  · exact ⟨hb, A, n, c, f, rfl, hr, by rw [if_neg (by omega)], by rw [if_neg (by omega)]; exact hd⟩

/-- Alike of what the two functions Of have made -/
theorem alike_of {a : Int} {A A' : Option Addr} {n c n' c' : Nat} {f f' : Nat → Nat} (w : World) (B B' : Nat) (hA : Rs w B A n c f) (hB : Rs w B' A' n' c' f')
    (h : if a < 0 then n = 0 else Dig n f a.toNat) (k : if a < 0 then n' = 0 else Dig n' f' a.toNat) :
    Calls Tryz.prog 89 #[.slice A n c, .slice A' n' c'] w fun e w' => e = .returned (.bool true) ∧ Below w.heap.size w w' := by
  have : n = n' ∧ ∀ j, j < n → f j = f' j := by
    by_cases e : a < 0
    · rw [if_pos e] at h k
      exact ⟨by omega, fun j hj => by omega⟩
    · rw [if_neg e] at h k
      exact h.unique k
  obtain ⟨rfl, he⟩ := this
  exact (alike_true A A' n c c' f f' B B' w hA hB he).mono fun _ _ ⟨h1, h2⟩ => ⟨h1, h2.below⟩

end Go.Proofs.YtbjaolmlnkliiaaGreatDoor

/- The walk of NatTexts: it returns true, and writes nothing that was there. Conditions as premises: the list reads, and the table of powers holds what its initialiser lays. -/
namespace Go.Proofs.YtbjaolmlnkliiaaGreatDoor
open Go.RowKit

theorem natParse_any (s : ByteArray) (w : World) (ht : Tab w) :
    Calls Tryz.prog 160 #[.string s] w fun e w' => ∃ v x a, e = .returned (.tuple #[v, .agg #[.int .i64 x, .int .i64 a]]) ∧ ParseV s w v x a w' ∧ Below w.heap.size w w' := by
  by_cases h : s.size ≤ 9216
  · exact natParse_rest s w h ht
  · exact (natParse_long s w (by omega)).mono fun _ _ ⟨he, hb⟩ => ⟨_, _, _, he, .inl ⟨by omega, rfl, rfl, rfl⟩, hb⟩
theorem refParse_any (s : ByteArray) (w : World) :
    Calls Tryz.prog 87 #[.string s] w fun e w' => ∃ v x a, e = .returned (.tuple #[v, .agg #[.int .i64 x, .int .i64 a]]) ∧ ParseV s w v x a w' ∧ Below w.heap.size w w' := by
  by_cases h : s.size ≤ 9216
  · exact refParse_rest s w h
  · exact (refParse_long s w (by omega)).mono fun _ _ ⟨he, hb⟩ => ⟨_, _, _, he, .inl ⟨by omega, rfl, rfl, rfl⟩, hb⟩

/-- what Parse says of a text, the memory aside -/
def PRes (s : ByteArray) (e a : Int) (n : Nat) (f : Nat → Nat) : Prop :=
  (9216 < s.size ∧ n = 0 ∧ e = 4 ∧ a = 9216) ∨
  (s.size ≤ 9216 ∧ ∃ i, i < s.size ∧ ¬ good s i ∧ (∀ j, j < i → good s j) ∧ n = 0 ∧ e = 11 ∧ a = (i : Int)) ∨
  (s.size ≤ 9216 ∧ (∀ i, i < s.size → good s i) ∧ (s.size = 0 ∨ (1 < s.size ∧ sb s 0 = 48)) ∧ n = 0 ∧ e = 11 ∧ a = 0) ∨
  (s.size ≤ 9216 ∧ (∀ i, i < s.size → good s i) ∧ ¬ (s.size = 0 ∨ (1 < s.size ∧ sb s 0 = 48)) ∧ e = 0 ∧ a = 0 ∧ Dig n f (pnum s))

theorem ParseV.read {s : ByteArray} {w w' : World} {v : Value} {x a : Int} (h : ParseV s w v x a w') : ∃ A n c f, v = .slice A n c ∧ Rs w' w'.heap.size A n c f ∧ PRes s x a n f := by
  rcases h with ⟨h1, rfl, h2, h3⟩ | ⟨h1, i, h2, h3, h4, rfl, h5, h6⟩ | ⟨h1, h2, h3, rfl, h4, h5⟩ | ⟨h1, h2, h3, h4, h5, A, n, c, f, rfl, hr, hd, hb⟩
  · exact ⟨none, 0, 0, fun _ => 0, rfl, Rs.nil _ _ _, .inl ⟨h1, rfl, h2, h3⟩⟩
  · exact ⟨none, 0, 0, fun _ => 0, rfl, Rs.nil _ _ _, .inr (.inl ⟨h1, i, h2, h3, h4, rfl, h5, h6⟩)⟩
  · exact ⟨none, 0, 0, fun _ => 0, rfl, Rs.nil _ _ _, .inr (.inr (.inl ⟨h1, h2, h3, rfl, h4, h5⟩))⟩
  · exact ⟨A, n, c, f, rfl, hr, .inr (.inr (.inr ⟨h1, h2, h3, h4, h5, hd⟩))⟩

theorem PRes.unique {s : ByteArray} {e a e' a' : Int} {n n' : Nat} {f f' : Nat → Nat} (h : PRes s e a n f) (k : PRes s e' a' n' f') : e = e' ∧ a = a' ∧ n = n' ∧ ∀ j, j < n → f j = f' j := by
  rcases h with ⟨h1, h2, h3, h4⟩ | ⟨h1, i, h2, h3, h4, h5, h6, h7⟩ | ⟨h1, h2, h3, h4, h5, h6⟩ | ⟨h1, h2, h3, h4, h5, h6⟩ <;>
    rcases k with ⟨k1, k2, k3, k4⟩ | ⟨k1, i', k2, k3, k4, k5, k6, k7⟩ | ⟨k1, k2, k3, k4, k5, k6⟩ | ⟨k1, k2, k3, k4, k5, k6⟩
  · exact ⟨by omega, by omega, by omega, fun j hj => by omega⟩
  · omega
  · omega
  · omega
  · omega
  · have : i = i' := by
      rcases Nat.lt_trichotomy i i' with q | q | q
      · exact absurd (k4 i q) h3
      · exact q
      · exact absurd (h4 i' q) k3
    exact ⟨by omega, by omega, by omega, fun j hj => by omega⟩
  · exact absurd (k2 i h2) h3
  · exact absurd (k2 i h2) h3
  · omega
  · exact absurd (h2 i' k2) k3
  · exact ⟨by omega, by omega, by omega, fun j hj => by omega⟩
  · exact absurd h3 k3
  · omega
  · exact absurd (h2 i' k2) k3
  · exact absurd k3 h3
  · obtain ⟨q1, q2⟩ := h6.unique k6
    exact ⟨by omega, by omega, q1, q2⟩

theorem TextV.form {n : Nat} {f : Nat → Nat} {v : Value} (h : TextV n f v) : ∃ (t : ByteArray) (y : Int), v = .tuple #[.string t, .int .i64 y] := by
  rcases h with ⟨_, L, _, rfl⟩ | ⟨_, rfl⟩
  · exact ⟨_, _, rfl⟩
  · exact ⟨_, _, rfl⟩
theorem TextV.unique {n : Nat} {f : Nat → Nat} {v u : Value} (h : TextV n f v) (k : TextV n f u) : v = u := by
  rcases h with ⟨h0, L, hL, rfl⟩ | ⟨h0, rfl⟩ <;> rcases k with ⟨k0, M, hM, rfl⟩ | ⟨k0, rfl⟩
  · rw [hL.unique hM]
  · exact absurd h0 k0
  · exact absurd k0 h0
  · rfl

end Go.Proofs.YtbjaolmlnkliiaaGreatDoor

/- Plain numbers: the order of texts of digits, and what a text of digits reads as. No conditions. -/
namespace Go.Proofs.YtbjaolmlnkliiaaGreatDoor
open Go.RowKit

theorem bl_at : ∀ (k : Nat) (l1 l2 : List UInt8) (a b : UInt8), l1[k]? = some a → l2[k]? = some b → a < b → (∀ i, i < k → l1[i]? = l2[i]?) → Op.bytesLess l1 l2 = true ∧ Op.bytesLess l2 l1 = false ∧ (l1 == l2) = false
  | 0, x :: l1, y :: l2, a, b, h1, h2, h, _ => by
    simp at h1 h2
    subst h1 h2
    have hn : ¬ y < x := fun h' => absurd (UInt8.lt_iff_toNat_lt.1 h) (by have := UInt8.lt_iff_toNat_lt.1 h'; omega)
    have hne : (y == x) = false := by rw [beq_eq_false_iff_ne]; rintro rfl; exact absurd (UInt8.lt_iff_toNat_lt.1 h) (by omega)
    have hne' : (x == y) = false := by rw [beq_eq_false_iff_ne]; rintro rfl; exact absurd (UInt8.lt_iff_toNat_lt.1 h) (by omega)
    refine ⟨by simp [Op.bytesLess, h], by simp [Op.bytesLess, hn, hne], ?_⟩
    rw [beq_eq_false_iff_ne]
    intro e
    injection e with e1 _
    rw [e1] at hne
    simp at hne
  | 0, [], _, _, _, h1, _, _, _ => by simp at h1
  | 0, _ :: _, [], _, _, _, h2, _, _ => by simp at h2
  | k + 1, x :: l1, y :: l2, a, b, h1, h2, h, he => by
    have h0 := he 0 (by omega)
    simp at h0
    subst h0
    simp at h1 h2
    obtain ⟨r1, r2, r3⟩ := bl_at k l1 l2 a b h1 h2 h (fun i hi => by have := he (i + 1) (by omega); simpa using this)
    have hn : ¬ x < x := fun h' => by have := UInt8.lt_iff_toNat_lt.1 h'; omega
    refine ⟨by simp [Op.bytesLess, r1, hn], by simp [Op.bytesLess, r2, hn], ?_⟩
    rw [beq_eq_false_iff_ne] at r3 ⊢
    intro e
    injection e with _ e2
    exact r3 e2
  | k + 1, [], _, _, _, h1, _, _, _ => by simp at h1
  | k + 1, _ :: _, [], _, _, _, h2, _, _ => by simp at h2

theorem bl_self : ∀ l : List UInt8, Op.bytesLess l l = false
  | [] => rfl
  | x :: l => by
    have hn : ¬ x < x := fun h' => by have := UInt8.lt_iff_toNat_lt.1 h'; omega
    simp [Op.bytesLess, hn, bl_self l]

theorem first_diff {N M : Nat} : ∀ L, N / 10 ^ L = M / 10 ^ L → N ≠ M → ∃ p, p < L ∧ N / 10 ^ p ≠ M / 10 ^ p ∧ N / 10 ^ (p + 1) = M / 10 ^ (p + 1)
  | 0, h, hne => by simp at h; exact absurd h hne
  | L + 1, h, hne => by
    by_cases e : N / 10 ^ L = M / 10 ^ L
    · obtain ⟨p, hp, h1, h2⟩ := first_diff L e hne
      exact ⟨p, by omega, h1, h2⟩
    · exact ⟨L, by omega, e, h⟩

theorem txt_get (N L i : Nat) (h : i < L) : (txt N L).data.toList[i]? = some (UInt8.ofNat (tb N L i)) := by
  unfold txt strOfNums
  simp [h]
  rw [iv_eq]; rfl

theorem txt_less {N M L : Nat} (hN : N < 10 ^ L) (hM : M < 10 ^ L) (h : N < M) :
    Op.bytesLess (txt N L).toList (txt M L).toList = true ∧ Op.bytesLess (txt M L).toList (txt N L).toList = false ∧ ((txt N L).toList == (txt M L).toList) = false := by
  rw [ByteArray.toList_eq, ByteArray.toList_eq]
  obtain ⟨p, hp, h1, h2⟩ := first_diff (N := N) (M := M) L (by rw [Nat.div_eq_of_lt hN, Nat.div_eq_of_lt hM]) (by omega)
  have hle : N / 10 ^ p ≤ M / 10 ^ p := Nat.div_le_div_right (by omega)
  have hd : N / 10 ^ p % 10 < M / 10 ^ p % 10 := by
    rw [Nat.pow_succ, ← Nat.div_div_eq_div_mul, ← Nat.div_div_eq_div_mul] at h2
    generalize N / 10 ^ p = a at *
    generalize M / 10 ^ p = b at *
    omega
  refine bl_at (L - 1 - p) _ _ _ _ (txt_get N L _ (by omega)) (txt_get M L _ (by omega)) ?_ ?_
  · rw [UInt8.lt_iff_toNat_lt]
    unfold tb
    rw [show L - 1 - (L - 1 - p) = p by omega]
    simp only [UInt8.toNat_ofNat']
    omega
  · intro i hi
    rw [txt_get N L i (by omega), txt_get M L i (by omega)]
    unfold tb
    have e : N / 10 ^ (L - 1 - i) = M / 10 ^ (L - 1 - i) := by
      obtain ⟨d, hd⟩ : ∃ d, L - 1 - i = (p + 1) + d := ⟨L - 1 - i - (p + 1), by omega⟩
      rw [hd, Nat.pow_add, ← Nat.div_div_eq_div_mul, ← Nat.div_div_eq_div_mul, h2]
    rw [e]

theorem sb_txt (N L i : Nat) (h : i < L) : sb (txt N L) i = tb N L i := by
  unfold sb
  have h1 := txt_get N L i h
  rw [Array.getElem?_toList] at h1
  rw [h1]
  simp only [Option.getD_some, UInt8.toNat_ofNat']
  have := tb_lt N L i
  omega

theorem good_txt (N L i : Nat) (h : i < L) : good (txt N L) i := by
  unfold good
  rw [sb_txt N L i h]
  unfold tb
  omega

theorem nt_digits (N : Nat) : ∀ n, nt (fun p => N / 10 ^ p % 10) n = N % 10 ^ n
  | 0 => by simp [nt, Nat.mod_one]
  | n + 1 => by rw [nt, nt_digits N n, Nat.pow_succ, Nat.mod_mul, Nat.mul_comm (10 ^ n)]

theorem pnum_txt {N L : Nat} (h : N < 10 ^ L) : pnum (txt N L) = N := by
  unfold pnum
  rw [txt_size, nt_congr (g := fun p => N / 10 ^ p % 10) L (fun p hp => by
    unfold sd
    rw [txt_size, if_pos hp, sb_txt N L _ (by omega)]
    unfold tb
    rw [show L - 1 - (L - 1 - p) = p by omega]
    omega), nt_digits, Nat.mod_eq_of_lt h]

theorem pres_txt {N L n : Nat} {f : Nat → Nat} (h : IsLen N L) (hL : L ≤ 9216) (hd : Dig n f N) : PRes (txt N L) 0 0 n f := by
  refine .inr (.inr (.inr ⟨by rw [txt_size]; exact hL, fun i hi => good_txt N L i (by rwa [txt_size] at hi), ?_, rfl, rfl, by rw [pnum_txt h.lt]; exact hd⟩))
  rw [txt_size]
  rintro (e | ⟨e, k⟩)
  · have := h.pos; omega
  · rw [sb_txt N L 0 (by omega)] at k
    unfold tb at k
    have h1 := h.ge e
    have h2 := h.lt
    have h3 : 1 ≤ N / 10 ^ (L - 1) := (Nat.le_div_iff_mul_le (ten_pos _)).2 (by omega)
    have h4 : N / 10 ^ (L - 1) < 10 := by
      rw [Nat.div_lt_iff_lt_mul (ten_pos _), Nat.mul_comm, ← Nat.pow_succ, show (L - 1).succ = L by omega]; exact h2
    rw [show L - 1 - 0 = L - 1 by omega, Nat.mod_eq_of_lt h4] at k
    omega

theorem len_mono {N M L K : Nat} (h : IsLen N L) (k : IsLen M K) (hlt : L < K) : N < M := by
  have h1 := k.ge (by have := h.pos; omega)
  have h2 : 10 ^ L ≤ 10 ^ (K - 1) := ten_le (by omega)
  have := h.lt
  omega

end Go.Proofs.YtbjaolmlnkliiaaGreatDoor

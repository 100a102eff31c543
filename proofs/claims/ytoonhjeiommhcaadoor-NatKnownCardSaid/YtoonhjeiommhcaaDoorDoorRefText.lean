/- The contracts of the reference's Text and Digits. Conditions as premises: the list reads. -/
import Derived.Test.YtoonhjeiommhcaaDoorDoorText2
import Derived.BigRegion
namespace Go.Proofs.YtoonhjeiommhcaaDoor
open Go.RowKit

def us8 (f : Nat → Nat) (n : Nat) : List Value := (List.range n).map fun j => .int .u8 (iv (f j))
theorem us8_get (f : Nat → Nat) (n j : Nat) (h : j < n) : (us8 f n)[j]? = some (.int .u8 (iv (f j))) := by simp [us8, h]
theorem us8_succ (f : Nat → Nat) (n : Nat) : us8 f (n + 1) = us8 f n ++ [.int .u8 (iv (f n))] := by simp [us8, List.range_succ]

/-- A row of the call's own that holds bytes. -/
def Own8 (w : World) (base : Nat) (v : Value) (n : Nat) (f : Nat → Nat) : Prop := w.ownsRow base 5 1 v n (us8 f n)
theorem Own8.nil (w : World) (base : Nat) (f : Nat → Nat) : Own8 w base (.slice none 0 0) 0 f := World.ownsRow_nil _ _ _ _
theorem Own8.snoc {w1 : World} {base n x : Nat} {v' : Value} {f : Nat → Nat} (h : w1.ownsRow base 5 1 v' (n + 1) (us8 f n ++ [.int .u8 (iv x)])) (hx : f n = x) : Own8 w1 base v' (n + 1) f := by
  unfold Own8; rw [us8_succ, hx]; exact h
theorem snoc8_below {w wr w1 : World} {base n : Nat} {v : Value} {f : Nat → Nat} {o : Obj} (hown : Own8 wr base v n f) (hb : Below w.heap.size w wr) (hbase : w.heap.size ≤ base) (hsz : base ≤ wr.heap.size) (hg : (wr.alloc o).grownBy w1 v.ownBlock) : Below w.heap.size w w1 :=
  (hb.alloc (by omega) o).grown hg (by simp; omega) (fun j hj => by have := (World.ownsRow.lt hown j hj).1; omega)

/-- Block g is a row of bytes of cap cells, the first m being those of f. -/
def P8 (w : World) (g cap m : Nat) (f : Nat → Nat) : Prop := ∃ F, w.rowIs g 5 cap F ∧ m ≤ cap ∧ ∀ j, j < m → F j = .int .u8 (iv (f j))
theorem P8.cell {w : World} {g cap m : Nat} {f : Nat → Nat} (h : P8 w g cap m f) {j : Nat} (hj : j < m) : w.cell? ⟨g, j, none⟩ = some (.int .u8 (iv (f j))) := by
  obtain ⟨F, hr, hm, hF⟩ := h
  rw [World.rowIs.cell hr (by omega), hF j hj]
theorem P8.frozen {w : World} {g cap m : Nat} {f : Nat → Nat} (h : P8 w g cap m f) (j : Nat) : w.frozen? ⟨g, j, none⟩ = false := by
  obtain ⟨F, hr, hm, hF⟩ := h
  exact World.rowIs.frozen hr j
theorem P8.set {w : World} {g cap m : Nat} {f : Nat → Nat} (h : P8 w g cap m f) (i x : Nat) : P8 (w.setCell ⟨g, i, none⟩ (.int .u8 (iv x))) g cap m (fun j => if j = i then x else f j) := by
  obtain ⟨F, hr, hm, hF⟩ := h
  exact ⟨_, World.rowIs.set hr i _, hm, fun j hj => by
    by_cases e : j = i
    · simp [e]
    · simp [e, hF _ hj]⟩
theorem P8.congr {w : World} {g cap m : Nat} {f f' : Nat → Nat} (h : P8 w g cap m f) (e : ∀ j, j < m → f j = f' j) : P8 w g cap m f' := by
  obtain ⟨F, hr, hm, hF⟩ := h
  exact ⟨F, hr, hm, fun j hj => by rw [hF j hj, e j hj]⟩
theorem P8.take {w : World} {g cap m k : Nat} {f : Nat → Nat} (h : P8 w g cap m f) (hk : k ≤ m) : P8 w g cap k f := by
  obtain ⟨F, hr, hm, hF⟩ := h
  exact ⟨F, hr, by omega, fun j hj => hF j (by omega)⟩
theorem P8.drewN {w : World} {g cap m : Nat} {f : Nat → Nat} (h : P8 w g cap m f) (k : Nat) : P8 (w.drewN k) g cap m f := h
theorem P8.drew {w : World} {g cap m : Nat} {f : Nat → Nat} (h : P8 w g cap m f) : P8 w.drew g cap m f := h

theorem Own8.part {w : World} {base n : Nat} {v : Value} {f : Nat → Nat} (h : Own8 w base v n f) (hn : 0 < n) : ∃ g cap, v = .slice (some ⟨g, 0, none⟩) n cap ∧ base ≤ g ∧ cap ≤ maxLen ∧ P8 w g cap n f := by
  unfold Own8 at h
  rcases h.2 with ⟨rfl, h0⟩ | ⟨g, cap, cur, rfl, hg, hh, hnc, hcm, hsz, htk⟩
  · omega
  · refine ⟨g, cap, rfl, hg, hcm, fun j => cur[j]?.getD undef, ⟨cur, hh, by simpa using hsz, fun i hi => ?_⟩, hnc, fun j hj => ?_⟩
    · have : i < cur.size := by rw [hsz]; omega
      simp [this]
    · have h1 := us8_get f n j hj
      rw [← htk] at h1
      have h2 : cur[j]? = some (.int .u8 (iv (f j))) := by
        rw [← h1]; simp [hj]
      show cur[j]?.getD undef = _
      rw [h2]; rfl

theorem Own8.form {w : World} {base n : Nat} {v : Value} {f : Nat → Nat} (h : Own8 w base v n f) : ∃ A cap, v = .slice A n cap ∧ n ≤ cap ∧ cap ≤ 9223372036854775807 ∧ (0 < n → ∃ g, A = some ⟨g, 0, none⟩ ∧ base ≤ g ∧ P8 w g cap n f) := by
  by_cases hn : 0 < n
  · obtain ⟨g, cap, e, hg, hm, hp⟩ := h.part hn
    have hnc : n ≤ cap := by obtain ⟨F, _, h2, _⟩ := hp; exact h2
    exact ⟨_, cap, e, hnc, by unfold maxLen at hm; omega, fun _ => ⟨g, rfl, hg, hp⟩⟩
  · obtain rfl : n = 0 := by omega
    unfold Own8 at h
    rcases h.2 with ⟨rfl, h0⟩ | ⟨g, cap, cur, rfl, hg, hh, hnc, hcm, hsz, htk⟩
    · exact ⟨none, 0, rfl, Nat.le_refl _, by omega, fun h => by omega⟩
    · exact ⟨_, cap, rfl, hnc, by unfold maxLen at hcm; omega, fun h => by omega⟩

theorem conv_P8 {w : World} {g cap m : Nat} {f : Nat → Nat} (h : P8 w g cap m f) :
    (convert 56 9 (.slice (some ⟨g, 0, none⟩) m cap)).run Tryd.prog w = .ok (.string (strOfNums ((List.range m).map fun i => iv (f i)))) w :=
  run_convert_bytes_arg w 56 5 Tryd.underlying56 Tryd.underlying5 g 0 m cap _ (by simp) (fun i hi => by
    rw [Nat.zero_add, h.cell hi]; simp [List.getD, hi]) 9 Tryd.underlying9

/-- the decimal digits of N as bytes, the lowest first -/
def lb (N j : Nat) : Nat := 48 + N / 10 ^ j % 10

theorem lb_limb {n i k : Nat} {f : Nat → Nat} (hv : Val n f) (hi : i < n) (hk : k < 9) : 48 + iv (f i / 10 ^ k) % 10 = iv (lb (nv f n) (9 * i + k)) := by
  unfold lb
  rw [← digit_of_limb hv.1 hi hk, iv_eq, iv_eq]
  generalize f i / 10 ^ k = M
  omega
theorem div_ten (a k : Nat) : iv (a / 10 ^ k) / 10 = iv (a / 10 ^ (k + 1)) := by
  rw [iv_eq, iv_eq, Nat.pow_succ, ← Nat.div_div_eq_div_mul]
  generalize a / 10 ^ k = M
  omega

/-- the digits above place m are 0, the one below is not -/
theorem len_of_trim {N M m : Nat} (hN : N < 10 ^ M) (hm : m ≤ M) (hz : ∀ j, m ≤ j → j < M → N / 10 ^ j % 10 = 0) (ht : 0 < m → N / 10 ^ (m - 1) % 10 ≠ 0) :
    N < 10 ^ m ∧ (0 < m → 10 ^ (m - 1) ≤ N) := by
  constructor
  · have key : ∀ d, m + d ≤ M → N < 10 ^ (M - d) := by
      intro d
      induction d with
      | zero => intro _; exact hN
      | succ d ih =>
        intro h
        have h1 := ih (by omega)
        have h2 := hz (M - (d + 1)) (by omega) (by omega)
        have h3 : 10 ^ (M - d) = 10 ^ (M - (d + 1)) * 10 := by rw [← Nat.pow_succ]; congr 1; omega
        rw [h3] at h1
        have h4 : N / 10 ^ (M - (d + 1)) < 10 := by rw [Nat.div_lt_iff_lt_mul (ten_pos _), Nat.mul_comm]; exact h1
        have h5 : N / 10 ^ (M - (d + 1)) = 0 := by rw [Nat.mod_eq_of_lt h4] at h2; exact h2
        rcases Nat.lt_or_ge N (10 ^ (M - (d + 1))) with h6 | h6
        · exact h6
        · exact absurd h5 (Nat.ne_of_gt (Nat.div_pos h6 (ten_pos _)))
    have := key (M - m) (by omega)
    rwa [show M - (M - m) = m by omega] at this
  · intro h
    rcases Nat.lt_or_ge N (10 ^ (m - 1)) with h6 | h6
    · exact absurd (by rw [Nat.div_eq_of_lt h6]) (ht h)
    · exact h6

end Go.Proofs.YtoonhjeiommhcaaDoor

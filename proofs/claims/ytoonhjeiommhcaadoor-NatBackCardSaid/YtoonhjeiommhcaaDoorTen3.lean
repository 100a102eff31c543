/- Plain numbers: the order of texts of digits, and what a text of digits reads as. No conditions. -/
import Derived.Test.YtoonhjeiommhcaaDoorDoorTextsWalk
namespace Go.Proofs.YtoonhjeiommhcaaDoor
open Go.RowKit

theorem bl_at : ∀ (k : Nat) (l1 l2 : List UInt8) (a b : UInt8), l1[k]? = some a → l2[k]? = some b → a < b → (∀ i, i < k → l1[i]? = l2[i]?) → Op.bytesLess l1 l2 = true ∧ Op.bytesLess l2 l1 = false ∧ (l1 == l2) = false
  | 0, x :: l1, y :: l2, a, b, h1, h2, h, _ => by
    simp at h1 h2
    subst h1 h2
    have hn : ¬ y < x := fun h' => absurd (UInt8.lt_iff_toNat_lt.1 h) (by have := UInt8.lt_iff_toNat_lt.1 h'; omega)
    have hne : (y == x) = false := by rw [beq_eq_false_iff_ne]; rintro rfl; exact absurd (UInt8.lt_iff_toNat_lt.1 h) (by omega)
    have hne' : (x == y) = false := by rw [beq_eq_false_iff_ne]; rintro rfl; exact absurd (UInt8.lt_iff_toNat_lt.1 h) (by omega)
    refine ⟨by simp [Op.bytesLess, h], by simp [Op.bytesLess, hn, hne], ?_⟩
    rw [beq_eq_false_iff_ne]
    intro e
    injection e with e1 _
    rw [e1] at hne
    simp at hne
  | 0, [], _, _, _, h1, _, _, _ => by simp at h1
  | 0, _ :: _, [], _, _, _, h2, _, _ => by simp at h2
  | k + 1, x :: l1, y :: l2, a, b, h1, h2, h, he => by
    have h0 := he 0 (by omega)
    simp at h0
    subst h0
    simp at h1 h2
    obtain ⟨r1, r2, r3⟩ := bl_at k l1 l2 a b h1 h2 h (fun i hi => by have := he (i + 1) (by omega); simpa using this)
    have hn : ¬ x < x := fun h' => by have := UInt8.lt_iff_toNat_lt.1 h'; omega
    refine ⟨by simp [Op.bytesLess, r1, hn], by simp [Op.bytesLess, r2, hn], ?_⟩
    rw [beq_eq_false_iff_ne] at r3 ⊢
    intro e
    injection e with _ e2
    exact r3 e2
  | k + 1, [], _, _, _, h1, _, _, _ => by simp at h1
  | k + 1, _ :: _, [], _, _, _, h2, _, _ => by simp at h2

theorem bl_self : ∀ l : List UInt8, Op.bytesLess l l = false
  | [] => rfl
  | x :: l => by
    have hn : ¬ x < x := fun h' => by have := UInt8.lt_iff_toNat_lt.1 h'; omega
    simp [Op.bytesLess, hn, bl_self l]

theorem first_diff {N M : Nat} : ∀ L, N / 10 ^ L = M / 10 ^ L → N ≠ M → ∃ p, p < L ∧ N / 10 ^ p ≠ M / 10 ^ p ∧ N / 10 ^ (p + 1) = M / 10 ^ (p + 1)
  | 0, h, hne => by simp at h; exact absurd h hne
  | L + 1, h, hne => by
    by_cases e : N / 10 ^ L = M / 10 ^ L
    · obtain ⟨p, hp, h1, h2⟩ := first_diff L e hne
      exact ⟨p, by omega, h1, h2⟩
    · exact ⟨L, by omega, e, h⟩

theorem txt_get (N L i : Nat) (h : i < L) : (txt N L).data.toList[i]? = some (UInt8.ofNat (tb N L i)) := by
  unfold txt strOfNums
  simp [h]
  rw [iv_eq]; rfl

theorem txt_less {N M L : Nat} (hN : N < 10 ^ L) (hM : M < 10 ^ L) (h : N < M) :
    Op.bytesLess (txt N L).toList (txt M L).toList = true ∧ Op.bytesLess (txt M L).toList (txt N L).toList = false ∧ ((txt N L).toList == (txt M L).toList) = false := by
  rw [ByteArray.toList_eq, ByteArray.toList_eq]
  obtain ⟨p, hp, h1, h2⟩ := first_diff (N := N) (M := M) L (by rw [Nat.div_eq_of_lt hN, Nat.div_eq_of_lt hM]) (by omega)
  have hle : N / 10 ^ p ≤ M / 10 ^ p := Nat.div_le_div_right (by omega)
  have hd : N / 10 ^ p % 10 < M / 10 ^ p % 10 := by
    rw [Nat.pow_succ, ← Nat.div_div_eq_div_mul, ← Nat.div_div_eq_div_mul] at h2
    generalize N / 10 ^ p = a at *
    generalize M / 10 ^ p = b at *
    omega
  refine bl_at (L - 1 - p) _ _ _ _ (txt_get N L _ (by omega)) (txt_get M L _ (by omega)) ?_ ?_
  · rw [UInt8.lt_iff_toNat_lt]
    unfold tb
    rw [show L - 1 - (L - 1 - p) = p by omega]
    simp only [UInt8.toNat_ofNat']
    omega
  · intro i hi
    rw [txt_get N L i (by omega), txt_get M L i (by omega)]
    unfold tb
    have e : N / 10 ^ (L - 1 - i) = M / 10 ^ (L - 1 - i) := by
      obtain ⟨d, hd⟩ : ∃ d, L - 1 - i = (p + 1) + d := ⟨L - 1 - i - (p + 1), by omega⟩
      rw [hd, Nat.pow_add, ← Nat.div_div_eq_div_mul, ← Nat.div_div_eq_div_mul, h2]
    rw [e]

theorem sb_txt (N L i : Nat) (h : i < L) : sb (txt N L) i = tb N L i := by
  unfold sb
  have h1 := txt_get N L i h
  rw [Array.getElem?_toList] at h1
  rw [h1]
  simp only [Option.getD_some, UInt8.toNat_ofNat']
  have := tb_lt N L i
  omega

theorem good_txt (N L i : Nat) (h : i < L) : good (txt N L) i := by
  unfold good
  rw [sb_txt N L i h]
  unfold tb
  omega

theorem nt_digits (N : Nat) : ∀ n, nt (fun p => N / 10 ^ p % 10) n = N % 10 ^ n
  | 0 => by simp [nt, Nat.mod_one]
  | n + 1 => by rw [nt, nt_digits N n, Nat.pow_succ, Nat.mod_mul, Nat.mul_comm (10 ^ n)]

theorem pnum_txt {N L : Nat} (h : N < 10 ^ L) : pnum (txt N L) = N := by
  unfold pnum
  rw [txt_size, nt_congr (g := fun p => N / 10 ^ p % 10) L (fun p hp => by
    unfold sd
    rw [txt_size, if_pos hp, sb_txt N L _ (by omega)]
    unfold tb
    rw [show L - 1 - (L - 1 - p) = p by omega]
    omega), nt_digits, Nat.mod_eq_of_lt h]

theorem pres_txt {N L n : Nat} {f : Nat → Nat} (h : IsLen N L) (hL : L ≤ 9216) (hd : Dig n f N) : PRes (txt N L) 0 0 n f := by
  refine .inr (.inr (.inr ⟨by rw [txt_size]; exact hL, fun i hi => good_txt N L i (by rwa [txt_size] at hi), ?_, rfl, rfl, by rw [pnum_txt h.lt]; exact hd⟩))
  rw [txt_size]
  rintro (e | ⟨e, k⟩)
  · have := h.pos; omega
  · rw [sb_txt N L 0 (by omega)] at k
    unfold tb at k
    have h1 := h.ge e
    have h2 := h.lt
    have h3 : 1 ≤ N / 10 ^ (L - 1) := (Nat.le_div_iff_mul_le (ten_pos _)).2 (by omega)
    have h4 : N / 10 ^ (L - 1) < 10 := by
      rw [Nat.div_lt_iff_lt_mul (ten_pos _), Nat.mul_comm, ← Nat.pow_succ, show (L - 1).succ = L by omega]; exact h2
    rw [show L - 1 - 0 = L - 1 by omega, Nat.mod_eq_of_lt h4] at k
    omega

theorem len_mono {N M L K : Nat} (h : IsLen N L) (k : IsLen M K) (hlt : L < K) : N < M := by
  have h1 := k.ge (by have := h.pos; omega)
  have h2 : 10 ^ L ≤ 10 ^ (K - 1) := ten_le (by omega)
  have := h.lt
  omega

end Go.Proofs.YtoonhjeiommhcaaDoor

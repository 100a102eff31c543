/- The contract of Parse of the program. Conditions as premises: the table of powers holds what its initialiser lays. -/
import Derived.Test.YtoonhjeiommhcaaDoorTen2
import Derived.Test.YtoonhjeiommhcaaDoorDoorText
import Derived.BigRegion
namespace Go.Proofs.YtoonhjeiommhcaaDoor
open Go.RowKit

/-- byte i of a string -/
def sb (s : ByteArray) (i : Nat) : Nat := (s.data[i]?.getD 0).toNat
theorem sb_eq (s : ByteArray) (i : Nat) (h : i < s.size) : (s[i]'h).toNat = sb s i := by
  unfold sb
  have : s.data[i]? = some (s.data[i]'h) := Array.getElem?_eq_getElem h
  rw [this]; rfl
theorem sb_lt (s : ByteArray) (i : Nat) : sb s i < 256 := by unfold sb; exact UInt8.toNat_lt _
def good (s : ByteArray) (i : Nat) : Prop := 48 ≤ sb s i ∧ sb s i ≤ 57
/-- digit p of a text, the lowest first -/
def sd (s : ByteArray) (p : Nat) : Nat := if p < s.size then sb s (s.size - 1 - p) - 48 else 0
theorem sd_lt {s : ByteArray} (h : ∀ i, i < s.size → good s i) (p : Nat) : sd s p < 10 := by
  unfold sd
  split
  · have := h (s.size - 1 - p) (by omega); unfold good at this; omega
  · omega
/-- the number that a text of digits is -/
def pnum (s : ByteArray) : Nat := nt (sd s) s.size

theorem sd_top {s : ByteArray} {p : Nat} (h : s.size ≤ p) : sd s p = 0 := by unfold sd; rw [if_neg (by omega)]
theorem lim_from_top (D : Nat → Nat) {L : Nat} (h : ∀ p, L ≤ p → D p = 0) (j : Nat) : lim (from_ D (L - 0)) j = 0 := by
  unfold lim
  refine nt_zeros 9 fun r _ => ?_
  show from_ D (L - 0) (9 * j + r) = 0
  unfold from_
  split
  · exact h _ (by omega)
  · rfl

theorem Row.congr {w : World} {b n : Nat} {f g : Nat → Nat} (h : Row w b n f) (e : ∀ j, j < n → f j = g j) : Row w b n g := World.rowIs.congr h fun j hj => by rw [e j hj]

theorem nt_top {D : Nat → Nat} {L : Nat} (h : ∀ p, L ≤ p → D p = 0) {M : Nat} (hM : L ≤ M) : nt D M = nt D L := by
  obtain ⟨b, rfl⟩ : ∃ b, M = L + b := ⟨M - L, by omega⟩
  rw [nt_split, nt_zeros b (fun j _ => h _ (by omega)), Nat.zero_mul, Nat.add_zero]

theorem cell_set_id {w : World} {a : Addr} {v : Value} (h : w.cell? a = some v) (p : Addr) : (w.setCell a v).cell? p = w.cell? p := by
  by_cases e : a = p
  · subst e; rw [World.cell?_setCell_same w a v h, h]
  · exact World.cell?_setCell_other w a p v e

/-- what one digit adds to its limb -/
theorem parse_step {s : ByteArray} {k p : Nat} (hg : ∀ i, i < s.size → good s i) (hk : k < s.size) (hp : s.size - 1 - p = k ∧ p < s.size) :
    iv (lim (from_ (sd s) (p + 1)) (p / 9)) + (((s[k]'hk).toNat : Int) - 48) * iv (10 ^ (p % 9)) = iv (lim (from_ (sd s) p) (p / 9)) ∧
    0 ≤ (((s[k]'hk).toNat : Int) - 48) * iv (10 ^ (p % 9)) ∧
    iv (lim (from_ (sd s) (p + 1)) (p / 9)) + (((s[k]'hk).toNat : Int) - 48) * iv (10 ^ (p % 9)) ≤ 999999999 := by
  have hgk := hg k hk
  have he := sb_eq s k hk
  have hd : sd s p = sb s k - 48 := by unfold sd; rw [if_pos hp.2, hp.1]
  have h1 := lim_step (sd s) p (p / 9)
  rw [if_pos rfl, hd] at h1
  have h2 := lim_lt (from_lt (sd_lt hg) p) (p / 9)
  rw [LB_eq] at h2
  have h3 : (((s[k]'hk).toNat : Int) - 48) * iv (10 ^ (p % 9)) = (((sb s k - 48) * 10 ^ (p % 9) : Nat) : Int) := by
    rw [he, iv_eq, Int.natCast_mul]
    congr 1
    unfold good at hgk
    omega
  rw [h3, iv_eq, iv_eq, h1]
  omega

/-- what Parse says of a text: a list, an error, a place -/
def ParseV (s : ByteArray) (w : World) (v : Value) (e a : Int) (w' : World) : Prop :=
  (9216 < s.size ∧ v = .slice none 0 0 ∧ e = 4 ∧ a = 9216) ∨
  (s.size ≤ 9216 ∧ ∃ i, i < s.size ∧ ¬ good s i ∧ (∀ j, j < i → good s j) ∧ v = .slice none 0 0 ∧ e = 11 ∧ a = (i : Int)) ∨
  (s.size ≤ 9216 ∧ (∀ i, i < s.size → good s i) ∧ (s.size = 0 ∨ (1 < s.size ∧ sb s 0 = 48)) ∧ v = .slice none 0 0 ∧ e = 11 ∧ a = 0) ∨
  (s.size ≤ 9216 ∧ (∀ i, i < s.size → good s i) ∧ ¬ (s.size = 0 ∨ (1 < s.size ∧ sb s 0 = 48)) ∧ e = 0 ∧ a = 0 ∧ Made w (pnum s) v w')

set_option maxHeartbeats 800000 in
set_option maxRecDepth 100000 in
theorem natParse_long (s : ByteArray) (w : World) (h : 9216 < s.size) :
    Calls Tryd.prog 22 #[.string s] w fun e w' => e = .returned (.tuple #[.slice none 0 0, .agg #[.int .i64 4, .int .i64 9216]]) ∧ Below w.heap.size w w' := by
  have h' : (9216 : Int) < (s.size : Int) := by omega
  go_enter Tryd.func22, Tryd.ntmps22
  go_wp2
  exact bodyPost_ret (v := .tuple #[.slice none 0 0, .agg #[.int .i64 4, .int .i64 9216]]) (by simp [results, Tryd.results22, go_sem]) rfl ⟨rfl, (Below.refl _ _).alloc (Nat.le_refl _) _⟩

set_option maxHeartbeats 800000 in
set_option maxRecDepth 100000 in
theorem natParse_rest (s : ByteArray) (w : World) (h : s.size ≤ 9216) (ht : Tab w) :
    Calls Tryd.prog 22 #[.string s] w fun e w' => ∃ v x a, e = .returned (.tuple #[v, .agg #[.int .i64 x, .int .i64 a]]) ∧ ParseV s w v x a w' ∧ Below w.heap.size w w' := by
  have h' : (s.size : Int) ≤ 9216 := by omega
  go_enter Tryd.func22, Tryd.ntmps22
  go_wp2
  go_loop [4, 14] (fun _ i => ∃ k : Nat, k ≤ s.size ∧ i = .int .i64 k ∧ Hid (∀ j, j < k → good s j)) (fun _ i => s.size - (intOf i).toNat)
  case atStart => exact ⟨0, Nat.zero_le _, rfl, fun j a => by omega⟩
  case round =>
    obtain ⟨k, hk, rfl, hg⟩ := hrel
    by_cases hlt : k < s.size
    · have he := sb_eq s k hlt
      by_cases hgood : good s k
      · have h1 : (48 : Int) ≤ ((s[k]'hlt).toNat : Int) := by unfold good at hgood; omega
        have h2 : ((s[k]'hlt).toNat : Int) ≤ 57 := by unfold good at hgood; omega
        have HG := Lib.hid hgood
        clear he hgood
        go_wp2
        go_round
        case rel => exact ⟨k + 1, by omega, by go_num, fun j hj => by
          by_cases e : j = k
          · subst e; exact HG.out
          · exact hg j (by omega)⟩
        case measure => simp [intOf] <;> omega
      · have HG := Lib.hid hgood
        by_cases hl : sb s k < 48
        · have h1 : ((s[k]'hlt).toNat : Int) < 48 := by omega
          clear he hgood
          go_wp2
          exact bodyPost_ret (v := .tuple #[.slice none 0 0, .agg #[.int .i64 11, .int .i64 (k : Int)]]) (by simp [results, Tryd.results22, go_sem]) rfl ⟨_, _, _, rfl, .inr (.inl ⟨h, k, hlt, HG.out, hg, rfl, rfl, rfl⟩), (Below.refl _ _).alloc (Nat.le_refl _) _⟩
        · have h1 : ¬ ((s[k]'hlt).toNat : Int) < 48 := by omega
          have h2 : (57 : Int) < ((s[k]'hlt).toNat : Int) := by unfold good at hgood; omega
          clear he hgood
          go_wp2
          exact bodyPost_ret (v := .tuple #[.slice none 0 0, .agg #[.int .i64 11, .int .i64 (k : Int)]]) (by simp [results, Tryd.results22, go_sem]) rfl ⟨_, _, _, rfl, .inr (.inl ⟨h, k, hlt, HG.out, hg, rfl, rfl, rfl⟩), (Below.refl _ _).alloc (Nat.le_refl _) _⟩
    · obtain rfl : k = s.size := by omega
      by_cases h0 : s.size = 0
      · have h0' : ((s.size : Int) == 0) = true := by rw [h0]; rfl
        have H0 := Lib.hid h0
        clear h0
        go_wp2
        exact bodyPost_ret (v := .tuple #[.slice none 0 0, .agg #[.int .i64 11, .int .i64 0]]) (by simp [results, Tryd.results22, go_sem]) rfl ⟨_, _, _, rfl, .inr (.inr (.inl ⟨h, hg, .inl H0.out, rfl, rfl, rfl⟩)), (Below.refl _ _).alloc (Nat.le_refl _) _⟩
      · have h0' : ((s.size : Int) == 0) = false := by rw [beq_eq_false_iff_ne]; omega
        have h0p : 0 < s.size := by omega
        have he := sb_eq s 0 h0p
        by_cases h1 : 1 < s.size
        · have h1' : (1 : Int) < (s.size : Int) := by omega
          by_cases hz : sb s 0 = 48
          · have hzb : (((s[0]'h0p).toNat : Int) == 48) = true := by rw [he, hz]; rfl
            have HZ := Lib.hid hz
            clear hz he h0
            go_wp2
            exact bodyPost_ret (v := .tuple #[.slice none 0 0, .agg #[.int .i64 11, .int .i64 0]]) (by simp [results, Tryd.results22, go_sem]) rfl ⟨_, _, _, rfl, .inr (.inr (.inl ⟨h, hg, .inr ⟨h1, HZ.out⟩, rfl, rfl, rfl⟩)), (Below.refl _ _).alloc (Nat.le_refl _) _⟩
          · have hzb : (((s[0]'h0p).toNat : Int) == 48) = false := by rw [he, beq_eq_false_iff_ne]; omega
            have HZ := Lib.hid hz
            clear hz he h0
            obtain ⟨n, hn⟩ : ∃ n, n = (s.size + 8) / 9 := ⟨_, rfl⟩
            have hn1 : 9 * n ≤ s.size + 8 := by omega
            have hn2 : s.size ≤ 9 * n := by omega
            have hmk := run_make_row' (P := Tryd.prog) 23 30 (.int .u32 0) 4 Tryd.underlying23 info32 rfl .i64 .i64 n (by omega) (by omega)
            rw [show (n : Int) = ((s.size : Int) + 9 - 1) / 9 by omega] at hmk
            have HN := Lib.hid hn
            have LZ : Hid (∀ j, lim (from_ (sd s) (s.size - 0)) j = 0) := fun j => lim_from_top (sd s) (fun p hp => sd_top hp) j
            clear hn
            go_wp2_with fail
            clear hmk
            go_loopw [6, 7, 52] (fun _ _ i wr => ∃ k : Nat, k ≤ s.size ∧ i = .int .i64 k ∧ Row wr (w.heap.size + 1) n (lim (from_ (sd s) (s.size - k))) ∧ Below (w.heap.size + 1) (w.alloc (.cells #[.int .i64 0, .int .i64 0] 39)) wr) (fun _ _ i _ => s.size - (intOf i).toNat)
            case atStart => exact ⟨0, Nat.zero_le _, rfl, by
              have h1 := Row.made (w.alloc (.cells #[.int .i64 0, .int .i64 0] 39)) n
              rw [World.size_alloc w] at h1
              exact World.rowIs.congr h1 fun j hj => by rw [LZ.out j], (Below.refl _ _).alloc (by simp) _⟩
            case round =>
              obtain ⟨k, hk, rfl, hrow, hbel⟩ := hrel
              by_cases hlt : k < s.size
              · obtain ⟨p, hp⟩ : ∃ p, s.size - 1 - k = p := ⟨_, rfl⟩
                have hps : s.size - k = p + 1 := by omega
                have hpi : ((s.size : Int) - 1 - (k : Int)) = (p : Int) := by omega
                have hp9 : p / 9 < n := by omega
                rw [hps] at hrow
                have hcp := hrow.cell hp9
                have hfz := hrow.frozen (p / 9)
                have htab := (ht.after ((Below.refl _ _).alloc (Nat.le_refl _) (.cells #[.int .i64 0, .int .i64 0] 39))).below hbel (by have := ht.lt; omega)
                have htk := htab.cell (k := p % 9) (Nat.mod_lt _ (by omega))
                obtain ⟨s1, s2, s3⟩ := parse_step (p := p) hg.out hlt (by omega)
                have hgk := hg.out k hlt
                have he := sb_eq s k hlt
                have b1 : (48 : Int) ≤ ((s[k]'hlt).toNat : Int) := by unfold good at hgk; omega
                have b2 : ((s[k]'hlt).toNat : Int) ≤ 57 := by unfold good at hgk; omega
                have hnew := hrow.set (p / 9) (lim (from_ (sd s) p) (p / 9))
                have hnew2 := Row.congr hnew (g := lim (from_ (sd s) p)) (fun j hj => by
                  by_cases e : j = p / 9
                  · rw [if_pos e, e]
                  · rw [if_neg e]; have := lim_step (sd s) p j; rw [if_neg e] at this; omega)
                rw [← s1] at hnew2
                have i1 : (p : Int) / 9 < (n : Int) := by omega
                have i0 : 0 ≤ (p : Int) / 9 := by omega
                have j1 : (p : Int) % 9 < 9 := by omega
                have j0 : 0 ≤ (p : Int) % 9 := by omega
                have hx0 := iv_nonneg (lim (from_ (sd s) (p + 1)) (p / 9))
                have hy0 := iv_nonneg (10 ^ (p % 9))
                have hki : (k : Int) < (s.size : Int) := by omega
                have HP := Lib.hid hp
                have HPI := Lib.hid hpi
                have HS1 := Lib.hid s1
                clear hp hps hpi hgk he s1 hnew htab
                generalize hgx : iv (lim (from_ (sd s) (p + 1)) (p / 9)) = x at *
                generalize hgy : iv (10 ^ (p % 9)) = y at *
                have HGX := Lib.hid hgx
                have HGY := Lib.hid hgy
                clear hgx hgy
                go_wp2_with fail
                rw [HPI.out]
                go_region
                go_wp2_with fail
                go_roundw
                case rel => exact ⟨k + 1, by omega, by go_num, by rw [show s.size - (k + 1) = p by have := HP.out; omega]; exact hnew2, (hbel.setCell (p := ⟨w.heap.size + 1, p / 9, none⟩) (Nat.le_refl _) _).drew⟩
                case measure => simp [intOf] <;> omega
              · obtain rfl : k = s.size := by omega
                rw [Nat.sub_self] at hrow
                have hrow2 : Row wr (w.heap.size + 1) n (lim (sd s)) := Row.congr hrow (fun j _ => by unfold lim; exact nt_congr 9 fun r _ => from_zero _ _)
                have hlim := lim_lt (sd_lt hg.out)
                have HT := Lib.hid (trim_any (some ⟨w.heap.size + 1, 0, none⟩) n n _ _ wr (hrow2.rs (by omega) (fun j _ => by have := hlim j; rw [LB_eq] at this; omega)))
                have HD : Hid (∀ m, Trim n (lim (sd s)) m → Dig m (lim (sd s)) (pnum s)) := fun m hm => hm.dig (fun j _ => hlim j) (by rw [nv_lim, nt_top (fun p hp => sd_top hp) hn2]; rfl)
                have f0 : wr.cell? ⟨w.heap.size, 0, none⟩ = some (.int .i64 0) := (hbel.cell (p := ⟨w.heap.size, 0, none⟩) (Nat.lt_succ_self _)).trans (by rw [World.cell?_alloc_at _ _ _ _ rfl]; rfl)
                have f1 : wr.cell? ⟨w.heap.size, 1, none⟩ = some (.int .i64 0) := (hbel.cell (p := ⟨w.heap.size, 1, none⟩) (Nat.lt_succ_self _)).trans (by rw [World.cell?_alloc_at _ _ _ _ rfl]; rfl)
                have z0 : wr.frozen? ⟨w.heap.size, 0, none⟩ = false := (hbel.frozen (p := ⟨w.heap.size, 0, none⟩) (Nat.lt_succ_self _)).trans (World.frozen?_alloc_at _ _ _ _ rfl)
                have z1 : wr.frozen? ⟨w.heap.size, 1, none⟩ = false := (hbel.frozen (p := ⟨w.heap.size, 1, none⟩) (Nat.lt_succ_self _)).trans (World.frozen?_alloc_at _ _ _ _ rfl)
                clear hrow hrow2 hlim
                go_wp2_with fail
                refine HT.out.mono ?_
                rintro e w' ⟨⟨v, rfl, A2, m2, c2, rfl, hr2, htr⟩, rfl⟩
                have HTR := Lib.hid htr
                clear htr
                go_wp2_with fail
                have hbf : Below w.heap.size w ((wr.setCell ⟨w.heap.size, 0, none⟩ (.int .i64 0)).setCell ⟨w.heap.size, 1, none⟩ (.int .i64 0)) :=
                  ((((Below.refl _ _).alloc (Nat.le_refl _) _).trans (hbel.mono (by omega))).setCell (p := ⟨w.heap.size, 0, none⟩) (Nat.le_refl _) _).setCell (p := ⟨w.heap.size, 1, none⟩) (Nat.le_refl _) _
                have hr3 : Rs ((wr.setCell ⟨w.heap.size, 0, none⟩ (.int .i64 0)).setCell ⟨w.heap.size, 1, none⟩ (.int .i64 0)) wr.heap.size A2 m2 c2 (lim (sd s)) := hr2.keep fun p _ => (cell_set_id (by rw [cell_set_id f0]; exact f1) p).trans (cell_set_id f0 p)
                exact bodyPost_ret (v := .tuple #[.slice A2 m2 c2, .agg #[.int .i64 0, .int .i64 0]]) (by simp [results, Tryd.results22, go_sem, f0, f1]) rfl ⟨_, _, _, rfl, .inr (.inr (.inr ⟨h, hg.out, by
                  rintro (e | ⟨e1, e2⟩)
                  · omega
                  · first | exact HZ.out e2 | omega, rfl, rfl, A2, m2, c2, _, rfl, hr3.more (by simp [World.setCell]), HD.out _ HTR.out, hbf⟩)), hbf⟩
        · have h1' : ¬ (1 : Int) < (s.size : Int) := by omega
          clear he h0
          obtain ⟨n, hn⟩ : ∃ n, n = (s.size + 8) / 9 := ⟨_, rfl⟩
          have hn1 : 9 * n ≤ s.size + 8 := by omega
          have hn2 : s.size ≤ 9 * n := by omega
          have hmk := run_make_row' (P := Tryd.prog) 23 30 (.int .u32 0) 4 Tryd.underlying23 info32 rfl .i64 .i64 n (by omega) (by omega)
          rw [show (n : Int) = ((s.size : Int) + 9 - 1) / 9 by omega] at hmk
          have HN := Lib.hid hn
          have LZ : Hid (∀ j, lim (from_ (sd s) (s.size - 0)) j = 0) := fun j => lim_from_top (sd s) (fun p hp => sd_top hp) j
          clear hn
          go_wp2_with fail
          clear hmk
          go_loopw [6, 7, 52] (fun _ _ i wr => ∃ k : Nat, k ≤ s.size ∧ i = .int .i64 k ∧ Row wr (w.heap.size + 1) n (lim (from_ (sd s) (s.size - k))) ∧ Below (w.heap.size + 1) (w.alloc (.cells #[.int .i64 0, .int .i64 0] 39)) wr) (fun _ _ i _ => s.size - (intOf i).toNat)
          case atStart => exact ⟨0, Nat.zero_le _, rfl, by
            have h1 := Row.made (w.alloc (.cells #[.int .i64 0, .int .i64 0] 39)) n
            rw [World.size_alloc w] at h1
            exact World.rowIs.congr h1 fun j hj => by rw [LZ.out j], (Below.refl _ _).alloc (by simp) _⟩
          case round =>
            obtain ⟨k, hk, rfl, hrow, hbel⟩ := hrel
            by_cases hlt : k < s.size
            · obtain ⟨p, hp⟩ : ∃ p, s.size - 1 - k = p := ⟨_, rfl⟩
              have hps : s.size - k = p + 1 := by omega
              have hpi : ((s.size : Int) - 1 - (k : Int)) = (p : Int) := by omega
              have hp9 : p / 9 < n := by omega
              rw [hps] at hrow
              have hcp := hrow.cell hp9
              have hfz := hrow.frozen (p / 9)
              have htab := (ht.after ((Below.refl _ _).alloc (Nat.le_refl _) (.cells #[.int .i64 0, .int .i64 0] 39))).below hbel (by have := ht.lt; omega)
              have htk := htab.cell (k := p % 9) (Nat.mod_lt _ (by omega))
              obtain ⟨s1, s2, s3⟩ := parse_step (p := p) hg.out hlt (by omega)
              have hgk := hg.out k hlt
              have he := sb_eq s k hlt
              have b1 : (48 : Int) ≤ ((s[k]'hlt).toNat : Int) := by unfold good at hgk; omega
              have b2 : ((s[k]'hlt).toNat : Int) ≤ 57 := by unfold good at hgk; omega
              have hnew := hrow.set (p / 9) (lim (from_ (sd s) p) (p / 9))
              have hnew2 := Row.congr hnew (g := lim (from_ (sd s) p)) (fun j hj => by
                by_cases e : j = p / 9
                · rw [if_pos e, e]
                · rw [if_neg e]; have := lim_step (sd s) p j; rw [if_neg e] at this; omega)
              rw [← s1] at hnew2
              have i1 : (p : Int) / 9 < (n : Int) := by omega
              have i0 : 0 ≤ (p : Int) / 9 := by omega
              have j1 : (p : Int) % 9 < 9 := by omega
              have j0 : 0 ≤ (p : Int) % 9 := by omega
              have hx0 := iv_nonneg (lim (from_ (sd s) (p + 1)) (p / 9))
              have hy0 := iv_nonneg (10 ^ (p % 9))
              have hki : (k : Int) < (s.size : Int) := by omega
              have HP := Lib.hid hp
              have HPI := Lib.hid hpi
              have HS1 := Lib.hid s1
              clear hp hps hpi hgk he s1 hnew htab
              generalize hgx : iv (lim (from_ (sd s) (p + 1)) (p / 9)) = x at *
              generalize hgy : iv (10 ^ (p % 9)) = y at *
              have HGX := Lib.hid hgx
              have HGY := Lib.hid hgy
              clear hgx hgy
              go_wp2_with fail
              rw [HPI.out]
              go_region
              go_wp2_with fail
              go_roundw
              case rel => exact ⟨k + 1, by omega, by go_num, by rw [show s.size - (k + 1) = p by have := HP.out; omega]; exact hnew2, (hbel.setCell (p := ⟨w.heap.size + 1, p / 9, none⟩) (Nat.le_refl _) _).drew⟩
              case measure => simp [intOf] <;> omega
            · obtain rfl : k = s.size := by omega
              rw [Nat.sub_self] at hrow
              have hrow2 : Row wr (w.heap.size + 1) n (lim (sd s)) := Row.congr hrow (fun j _ => by unfold lim; exact nt_congr 9 fun r _ => from_zero _ _)
              have hlim := lim_lt (sd_lt hg.out)
              have HT := Lib.hid (trim_any (some ⟨w.heap.size + 1, 0, none⟩) n n _ _ wr (hrow2.rs (by omega) (fun j _ => by have := hlim j; rw [LB_eq] at this; omega)))
              have HD : Hid (∀ m, Trim n (lim (sd s)) m → Dig m (lim (sd s)) (pnum s)) := fun m hm => hm.dig (fun j _ => hlim j) (by rw [nv_lim, nt_top (fun p hp => sd_top hp) hn2]; rfl)
              have f0 : wr.cell? ⟨w.heap.size, 0, none⟩ = some (.int .i64 0) := (hbel.cell (p := ⟨w.heap.size, 0, none⟩) (Nat.lt_succ_self _)).trans (by rw [World.cell?_alloc_at _ _ _ _ rfl]; rfl)
              have f1 : wr.cell? ⟨w.heap.size, 1, none⟩ = some (.int .i64 0) := (hbel.cell (p := ⟨w.heap.size, 1, none⟩) (Nat.lt_succ_self _)).trans (by rw [World.cell?_alloc_at _ _ _ _ rfl]; rfl)
              have z0 : wr.frozen? ⟨w.heap.size, 0, none⟩ = false := (hbel.frozen (p := ⟨w.heap.size, 0, none⟩) (Nat.lt_succ_self _)).trans (World.frozen?_alloc_at _ _ _ _ rfl)
              have z1 : wr.frozen? ⟨w.heap.size, 1, none⟩ = false := (hbel.frozen (p := ⟨w.heap.size, 1, none⟩) (Nat.lt_succ_self _)).trans (World.frozen?_alloc_at _ _ _ _ rfl)
              clear hrow hrow2 hlim
              go_wp2_with fail
              refine HT.out.mono ?_
              rintro e w' ⟨⟨v, rfl, A2, m2, c2, rfl, hr2, htr⟩, rfl⟩
              have HTR := Lib.hid htr
              clear htr
              go_wp2_with fail
              have hbf : Below w.heap.size w ((wr.setCell ⟨w.heap.size, 0, none⟩ (.int .i64 0)).setCell ⟨w.heap.size, 1, none⟩ (.int .i64 0)) :=
                ((((Below.refl _ _).alloc (Nat.le_refl _) _).trans (hbel.mono (by omega))).setCell (p := ⟨w.heap.size, 0, none⟩) (Nat.le_refl _) _).setCell (p := ⟨w.heap.size, 1, none⟩) (Nat.le_refl _) _
              have hr3 : Rs ((wr.setCell ⟨w.heap.size, 0, none⟩ (.int .i64 0)).setCell ⟨w.heap.size, 1, none⟩ (.int .i64 0)) wr.heap.size A2 m2 c2 (lim (sd s)) := hr2.keep fun p _ => (cell_set_id (by rw [cell_set_id f0]; exact f1) p).trans (cell_set_id f0 p)
              exact bodyPost_ret (v := .tuple #[.slice A2 m2 c2, .agg #[.int .i64 0, .int .i64 0]]) (by simp [results, Tryd.results22, go_sem, f0, f1]) rfl ⟨_, _, _, rfl, .inr (.inr (.inr ⟨h, hg.out, by
                rintro (e | ⟨e1, e2⟩)
                · omega
                · first | exact HZ.out e2 | omega, rfl, rfl, A2, m2, c2, _, rfl, hr3.more (by simp [World.setCell]), HD.out _ HTR.out, hbf⟩)), hbf⟩
end Go.Proofs.YtoonhjeiommhcaaDoor

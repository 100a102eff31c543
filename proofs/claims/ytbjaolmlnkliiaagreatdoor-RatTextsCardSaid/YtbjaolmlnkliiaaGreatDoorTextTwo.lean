/- The contracts of the functions under the laws of package rat: StrA, StrB, StrC, StrD, StrE, StrF, StrG, StrH, StrI, joined into one file. -/
import Derived.Test.YtbjaolmlnkliiaaGreatDoorRatThree
import Derived.Test.YtbjaolmlnkliiaaGreatDoorRatOne
import Derived.Lib.Bytealg
import Derived.Lib.Strings
import Derived.Laws.Externs
import Derived.Deep.QuietTactic
import Derived.BigQuiet
import Derived.IntWalk
import Derived.WalkMore
import Derived.Lib.OthersKept
import Derived.Deep.LoopGhost
import Derived.Test.YtbjaolmlnkliiaaGreatDoorTextOne
import Derived.Deep.RegionHeld3
import Derived.Deep.DrawnRows
import Derived.Deep.DeepCutAuto
import Derived.Test.YtbjaolmlnkliiaaGreatDoorRatFour
/- The contracts of the library's functions on strings that Parse calls: a cut prefix of one byte, a cut at one byte, the first place of a byte. No conditions. -/
namespace Go.Proofs.YtbjaolmlnkliiaaGreatDoor
open Go.RowKit

/-- whether a text begins with a minus -/
def mns (s : ByteArray) : Bool := (s.extract 0 1).toList == [45]
/-- where a byte stands first, or -1 -/
def fby (s : ByteArray) (c : Int) : Int := Lib.indexByte s.data.toList c.toNat.toUInt8

set_option maxRecDepth 100000 in
theorem indexByteS_any (s : ByteArray) (c : Int) (w : World) :
    Calls Tryz.prog 228 #[.string s, .int .u8 c] w fun e w' => e = .returned (.int .i64 (fby s c)) ∧ w = w' := by
  have hr : (callFunc 239 #[.string s, .int .u8 c]).run Tryz.prog w = .ok (.value (.int .i64 (fby s c))) w := by
    rw [run_callFunc_extern Tryz.func239 (by kernel_rfl) (by kernel_rfl) (by kernel_rfl) (e := Extern.BytealgIndexByte.indexByte) (by kernel_rfl), Lib.run_indexByteString]
    rfl
  go_enter Tryz.func228, Tryz.ntmps228
  go_wp2
  go_ret
  exact ⟨rfl, rfl⟩

theorem empty_of {s : ByteArray} (h : s.size = 0) : s = ⟨#[]⟩ := by
  obtain ⟨d⟩ := s
  have : d = #[] := Array.eq_empty_of_size_eq_zero h
  rw [this]
theorem mns_empty {s : ByteArray} (h : s.size = 0) : mns s = false := by rw [empty_of h]; decide +kernel

set_option maxRecDepth 100000 in
theorem hasPrefix_minus (s : ByteArray) (w : World) :
    Calls Tryz.prog 200 #[.string s, .string ⟨#[45]⟩] w fun e w' => e = .returned (.bool (mns s)) ∧ w = w' := by
  by_cases h : s.size = 0
  · rw [mns_empty h]
    obtain rfl := empty_of h
    clear h
    go_enter Tryz.func200, Tryz.ntmps200
    go_wp2
    go_ret
    exact ⟨rfl, rfl⟩
  · have h1 : (1 : Int) ≤ (s.size : Int) := by omega
    clear h
    go_enter Tryz.func200, Tryz.ntmps200
    go_wp2
    go_ret
    exact ⟨rfl, rfl⟩

/-- a text without its minus -/
def unm (s : ByteArray) : ByteArray := if mns s = true then s.extract 1 s.size else s
set_option maxRecDepth 100000 in
theorem cutPrefix_minus (s : ByteArray) (w : World) :
    Calls Tryz.prog 82 #[.string s, .string ⟨#[45]⟩] w fun e w' => e = .returned (.tuple #[.string (unm s), .bool (mns s)]) ∧ w = w' := by
  have C := hasPrefix_minus s w
  by_cases h : mns s = true
  · have hs : 1 ≤ s.size := by
      rcases Nat.eq_zero_or_pos s.size with h0 | h0
      · rw [mns_empty h0] at h; cases h
      · exact h0
    have h1 : (1 : Int) ≤ (s.size : Int) := by omega
    rw [show unm s = s.extract 1 s.size by unfold unm; rw [if_pos h], h]
    rw [h] at C
    have CC := Lib.hid C
    clear C h
    go_enter Tryz.func82, Tryz.ntmps82
    go_wp2_with (first | (go_at_call 200; refine CC.out.mono ?_; rintro _ _ ⟨rfl, rfl⟩) | go_in)
    go_ret2
    exact ⟨rfl, rfl⟩
  · have h' : mns s = false := by cases e : mns s <;> simp_all
    rw [show unm s = s by unfold unm; rw [if_neg h], h']
    rw [h'] at C
    have CC := Lib.hid C
    clear C h h'
    go_enter Tryz.func82, Tryz.ntmps82
    go_wp2_with (first | (go_at_call 200; refine CC.out.mono ?_; rintro _ _ ⟨rfl, rfl⟩) | go_in)
    go_ret2
    exact ⟨rfl, rfl⟩

theorem ib_range (c : UInt8) : ∀ (l : List UInt8), Lib.indexByte l c = -1 ∨ (0 ≤ Lib.indexByte l c ∧ Lib.indexByte l c < l.length) := by
  intro l
  induction l with
  | nil => exact .inl rfl
  | cons b l ih =>
    unfold Lib.indexByte
    split
    · exact .inr ⟨by omega, by simp⟩
    · split
      · exact .inl rfl
      · rename_i h1 h2
        rcases ih with h | ⟨h, h'⟩
        · rw [h] at h2; exact absurd rfl h2
        · exact .inr ⟨by omega, by simp; omega⟩
theorem fby_range (s : ByteArray) (c : Int) : fby s c = -1 ∨ (0 ≤ fby s c ∧ fby s c < s.size) := by
  have := ib_range c.toNat.toUInt8 s.data.toList
  unfold fby
  rwa [← Lib.size_eq] at this
set_option maxRecDepth 100000 in
theorem index_slash (s : ByteArray) (w : World) :
    Calls Tryz.prog 201 #[.string s, .string ⟨#[47]⟩] w fun e w' => e = .returned (.int .i64 (fby s 47)) ∧ w = w' := by
  have CC := Lib.hid (indexByteS_any s 47 w)
  by_cases h : ([47] == s.toList) = true
  · have hz : fby s 47 = 0 := by
      unfold fby
      rw [← Lib.toList_data, ← beq_iff_eq.1 h]
      decide
    rw [hz]
    clear CC hz
    go_enter Tryz.func201, Tryz.ntmps201
    go_wp2_with fail
    go_ret
    exact ⟨rfl, rfl⟩
  · have hf : ([47] == s.toList) = false := by cases e : ([47] == s.toList) <;> simp_all
    clear h
    go_enter Tryz.func201, Tryz.ntmps201
    go_wp2_with fail
    refine CC.out.mono ?_
    rintro _ _ ⟨rfl, rfl⟩
    go_wp2_with fail
    go_ret
    exact ⟨rfl, rfl⟩
/-- a text in front of its first slash, what stands behind it, and whether there is one -/
def topS (s : ByteArray) : ByteArray := if fby s 47 < 0 then s else s.extract 0 (fby s 47).toNat
def botS (s : ByteArray) : ByteArray := if fby s 47 < 0 then ⟨#[]⟩ else s.extract ((fby s 47).toNat + 1) s.size
set_option maxRecDepth 100000 in
theorem cutS_slash (s : ByteArray) (hs : s.size ≤ 9223372036854775807) (w : World) :
    Calls Tryz.prog 159 #[.string s, .string ⟨#[47]⟩] w fun e w' => e = .returned (.tuple #[.string (topS s), .string (botS s), .bool (decide (0 ≤ fby s 47))]) ∧ ∃ d, w' = w.drewN d := by
  have C := index_slash s w
  have hr := fby_range s 47
  unfold topS botS
  by_cases h : fby s 47 < 0
  · rw [if_pos h, if_pos h, decide_eq_false (by omega)]
    generalize fby s 47 = i at *
    have CC := Lib.hid C
    have hd : ¬ 0 ≤ i := by omega
    clear C hr
    go_enter Tryz.func159, Tryz.ntmps159
    go_wp2_with fail
    refine CC.out.mono ?_
    rintro _ _ ⟨rfl, rfl⟩
    go_wp2_with fail
    go_ret3
    exact ⟨rfl, ⟨0, rfl⟩⟩
  · rw [if_neg h, if_neg h, decide_eq_true (by omega)]
    obtain ⟨i, hi⟩ : ∃ i : Nat, fby s 47 = (i : Int) := ⟨(fby s 47).toNat, by omega⟩
    rw [hi] at C hr ⊢
    have hi1 : (i : Int) < (s.size : Int) := by omega
    have hi2 : (i : Int) + 1 ≤ (s.size : Int) := by omega
    have hi3 : (i : Int) ≤ (s.size : Int) := by omega
    have hi0 : (0 : Int) ≤ (i : Int) := by omega
    have CC := Lib.hid C
    clear C hr h hi
    go_enter Tryz.func159, Tryz.ntmps159
    go_wp2_with fail
    refine CC.out.mono ?_
    rintro _ _ ⟨rfl, rfl⟩
    go_wp2_with fail
    have s1 : IntKind.i64.wrap ((i : Int) + 1) = (i : Int) + 1 := IntWalk.i64_in _ (by omega)
    have s2 : (0 : Int) ≤ (i : Int) + 1 := by omega
    have s3 : ((i : Int) + 1).toNat = i + 1 := by omega
    go_quiet (fail)
    clear s1 s2 s3
    go_wp2_with fail
    go_ret3
    exact ⟨rfl, ⟨_, rfl⟩⟩
set_option maxRecDepth 100000 in
theorem cut_slash (s : ByteArray) (hs : s.size ≤ 9223372036854775807) (w : World) :
    Calls Tryz.prog 83 #[.string s, .string ⟨#[47]⟩] w fun e w' => e = .returned (.tuple #[.string (topS s), .string (botS s), .bool (decide (0 ≤ fby s 47))]) ∧ ∃ d, w' = w.drewN d := by
  have CC := Lib.hid (cutS_slash s hs w)
  go_enter Tryz.func83, Tryz.ntmps83
  go_wp2_with fail
  refine CC.out.mono ?_
  rintro _ _ ⟨rfl, d, rfl⟩
  go_wp2_with fail
  go_ret3
  exact ⟨rfl, ⟨d, rfl⟩⟩
end Go.Proofs.YtbjaolmlnkliiaaGreatDoor

/- The contracts of ContainsRune on the signs of a number, of the function value that misplaced hands to IndexFunc, and of IndexFunc. Conditions as premises: the rune is one. -/
namespace Go.Proofs.YtbjaolmlnkliiaaGreatDoor
open Go.RowKit

/-- the signs that a number has -/
def s0 : ByteArray := ⟨#[48, 49, 50, 51, 52, 53, 54, 55, 56, 57, 45, 47]⟩
theorem ib_none (c : UInt8) : ∀ (l : List UInt8), (∀ b ∈ l, b ≠ c) → Lib.indexByte l c = -1 := by
  intro l
  induction l with
  | nil => exact fun _ => rfl
  | cons b l ih =>
    intro h
    have h1 := ih (fun x hx => h x (by simp [hx]))
    have h2 : (b == c) = false := by rw [beq_eq_false_iff_ne]; exact h b (by simp)
    unfold Lib.indexByte
    rw [h1, h2]
    rfl
/-- what ValidRune says of a number from 0 on -/
def vl (r : Int) : Bool := decide (r < 55296) || (decide (57343 < r) && decide (r ≤ 1114111))
set_option maxRecDepth 100000 in
theorem validRune_any (r : Int) (h0 : 0 ≤ r) (w : World) :
    Calls Tryz.prog 225 #[.int .i32 r] w fun e w' => e = .returned (.bool (vl r)) ∧ w = w' := by
  by_cases h1 : r < 55296
  · rw [show vl r = true by unfold vl; rw [decide_eq_true h1]; rfl]
    go_enter Tryz.func225, Tryz.ntmps225
    go_wp2
    go_ret
    exact ⟨rfl, rfl⟩
  · by_cases h2 : 57343 < r ∧ r ≤ 1114111
    · rw [show vl r = true by unfold vl; rw [decide_eq_true h2.1, decide_eq_true h2.2]; simp]
      obtain ⟨h2, h3⟩ := h2
      go_enter Tryz.func225, Tryz.ntmps225
      go_wp2
      go_ret
      exact ⟨rfl, rfl⟩
    · rw [show vl r = false by unfold vl; simp; omega]
      by_cases h3 : 57343 < r
      · have h4 : ¬ r ≤ 1114111 := fun c => h2 ⟨h3, c⟩
        clear h2
        go_enter Tryz.func225, Tryz.ntmps225
        go_wp2
        go_ret
        exact ⟨rfl, rfl⟩
      · clear h2
        go_enter Tryz.func225, Tryz.ntmps225
        go_wp2
        go_ret
        exact ⟨rfl, rfl⟩
/-- how a rune beyond the first 128 is spelled -/
theorem encode_far (r : Int) (h0 : 128 ≤ r) : ∃ z : UInt8, 128 ≤ z.toNat ∧ ((∃ a, Utf8.encode r = ⟨#[a, z]⟩) ∨ (∃ a b, Utf8.encode r = ⟨#[a, b, z]⟩) ∨ (∃ a b c, Utf8.encode r = ⟨#[a, b, c, z]⟩)) := by
  unfold Utf8.encode
  generalize hc : (if Utf8.valid r = true then r.toNat else Utf8.runeError) = c
  have hc1 : 128 ≤ c := by
    rw [← hc]
    split
    · omega
    · decide
  refine ⟨UInt8.ofNat (128 + c % 64), ?_, ?_⟩
  · rw [UInt8.toNat_ofNat']; omega
  · simp only []
    rw [if_neg (by omega)]
    split
    · exact .inl ⟨_, rfl⟩
    · split
      · exact .inr (.inl ⟨_, _, rfl⟩)
      · exact .inr (.inr ⟨_, _, _, rfl⟩)
set_option maxRecDepth 100000 in
theorem indexByteT_any (s : ByteArray) (c : Int) (w : World) :
    Calls Tryz.prog 224 #[.string s, .int .u8 c] w fun e w' => e = .returned (.int .i64 (fby s c)) ∧ w' = w := by
  have C := Lib.hid (indexByteS_any s c w)
  go_enter Tryz.func224, Tryz.ntmps224
  go_wp2_with fail
  refine C.out.mono ?_
  rintro _ _ ⟨rfl, rfl⟩
  go_wp2_with fail
  go_ret
  exact ⟨rfl, rfl⟩
set_option maxRecDepth 100000 in
theorem indexRune_far (r : Int) (h0 : 128 ≤ r) (h1 : r ≤ 1114111) (w : World) :
    Calls Tryz.prog 199 #[.string s0, .int .i32 r] w fun e w' => e = .returned (.int .i64 (-1)) ∧ Below w.heap.size w w' := by
  have hv := validRune_any r (by omega) w
  have HI : Hid (∀ (k : Nat) (c : UInt8), 128 ≤ c.toNat → ∀ W, Calls Tryz.prog 224 #[.string (s0.extract k s0.size), .int .u8 c.toNat] W fun e w' => e = .returned (.int .i64 (-1)) ∧ w' = W) := Lib.hid fun k c hc W => by
    have := indexByteT_any (s0.extract k s0.size) c.toNat W
    rwa [show fby (s0.extract k s0.size) c.toNat = -1 by
      unfold fby
      refine ib_none _ _ fun b hb e => ?_
      have h3 : b ∈ s0.data.toList := by
        rw [ByteArray.data_extract, Array.toList_extract] at hb
        exact List.mem_of_mem_drop (List.mem_of_mem_take hb)
      have h4 : b.toNat < 128 := by
        have : ∀ x ∈ s0.data.toList, x.toNat < 128 := by decide
        exact this b h3
      rw [e] at h4
      simp at h4
      omega] at this
  unfold s0 at HI ⊢
  by_cases h2 : r = 65533
  · subst h2
    have HD : Hid (∀ pos, pos < 12 → (Utf8.decode ⟨#[48, 49, 50, 51, 52, 53, 54, 55, 56, 57, 45, 47]⟩ pos).1 < 128 ∧ (Utf8.decode ⟨#[48, 49, 50, 51, 52, 53, 54, 55, 56, 57, 45, 47]⟩ pos).2 = 1) := Lib.hid (by decide)
    clear HI hv h0 h1
    go_enter Tryz.func199, Tryz.ntmps199
    go_wp2
    go_loopg [] 12 (fun gf wx => ∃ pos : Nat, wx.heap[w.heap.size]? = some (.stringIter ⟨#[48, 49, 50, 51, 52, 53, 54, 55, 56, 57, 45, 47]⟩ pos) ∧ Below w.heap.size w wx ∧ pos ≤ 12 ∧ 12 ≤ pos + gf)
    case atStart => exact ⟨0, World.iter_heap w _ 0, (Below.refl _ w).alloc (Nat.le_refl _) _, by omega, by omega⟩
    case round =>
      obtain ⟨pos, hit, hbw, hp, hfu⟩ := hrel
      by_cases hps : pos < 12
      · obtain ⟨g', rfl⟩ : ∃ g', gk = g' + 1 := ⟨gk - 1, by omega⟩
        have hnx : ∀ ty, (Instr.next (.pointer (some ⟨w.heap.size, 0, none⟩)) true ty).run Tryz.prog wr = _ := fun ty => Lib.run_next_any_at wr w.heap.size _ pos ty hit hps
        obtain ⟨hd1, hd2⟩ := HD.out pos hps
        generalize hR : (Utf8.decode ⟨#[48, 49, 50, 51, 52, 53, 54, 55, 56, 57, 45, 47]⟩ pos).1 = R at *
        rw [hd2] at hnx
        have hit2 := Lib.iterAt_heap wr w.heap.size _ pos (pos + 1) hit
        have hbw2 := Lib.below_iterAt hbw (k := w.heap.size) (Nat.le_refl _) ⟨#[48, 49, 50, 51, 52, 53, 54, 55, 56, 57, 45, 47]⟩ (pos + 1)
        obtain ⟨W, hWd⟩ : ∃ W, wr.iterAt w.heap.size ⟨#[48, 49, 50, 51, 52, 53, 54, 55, 56, 57, 45, 47]⟩ (pos + 1) = W := ⟨_, rfl⟩
        rw [hWd] at hnx hit2 hbw2
        have hne : ((R : Int) == 65533) = false := by rw [beq_eq_false_iff_ne]; omega
        clear hR hd1 hd2 hWd
        go_wp2
        go_roundg g'
        case measure => omega
        case rel => exact ⟨pos + 1, hit2, hbw2, by omega, by omega⟩
      · have hnx : ∀ ty, (Instr.next (.pointer (some ⟨w.heap.size, 0, none⟩)) true ty).run Tryz.prog wr = _ := fun ty => Lib.run_next_end_at wr w.heap.size _ pos ty hit hps
        go_wp2
        go_ret
        exact ⟨rfl, hbw⟩
  · have h3 : (r == 65533) = false := by rw [beq_eq_false_iff_ne]; exact h2
    obtain ⟨z, hz, he⟩ := encode_far r h0
    generalize vl r = b at *
    have CV := Lib.hid hv
    clear hv
    go_enter Tryz.func199, Tryz.ntmps199
    go_wp2_with fail
    refine CV.out.mono ?_
    rintro _ _ ⟨rfl, rfl⟩
    cases b
    · go_wp2_with fail
      go_ret
      exact ⟨rfl, Below.refl _ _⟩
    · go_wp2_with fail
      go_step3
      rcases he with ⟨a, he⟩ | ⟨a, b, he⟩ | ⟨a, b, c, he⟩
      · have hi := Lib.hid (HI.out 2 z hz)
        have e1 : ((⟨#[48, 49, 50, 51, 52, 53, 54, 55, 56, 57, 45, 47]⟩ : ByteArray)[1]'(by decide)).toNat = 49 := rfl
        have e2 : ((⟨#[a, z]⟩ : ByteArray)[1]'(by show 1 < 2; decide)).toNat = z.toNat := rfl
        have hne : ((49 : Int) == (z.toNat : Int)) = false := by rw [beq_eq_false_iff_ne]; omega
        have hne2 : ((49 : Int) != (z.toNat : Int)) = true := by rw [bne_iff_ne]; omega
        go_wp2_with fail
        go_loop [9] (fun i => i = .int .i64 1) (fun _ => 0)
        case atStart => rfl
        case round =>
          subst hrel
          go_wp2_with fail
          go_step3
          go_wp2_with fail
          go_quiet (fail)
          go_wp2_with fail
          obtain ⟨w2, hw2⟩ : ∃ x, x = w.drewN nq := ⟨_, rfl⟩
          rw [← hw2]
          have HW2 := Lib.hid hw2
          clear hw2
          go_quiet ((go_at_call 224; exact Calls.quiet_of_same (hi.out _)))
          go_wp2_with fail
          rw [Exit.noGoto_ret]
          simp +zetaDelta only [go_sem, Exit.inBlock, Exit.then]
          go_ret
          exact ⟨rfl, by rw [HW2.out, World.drewN_drewN]; exact (Qt.n1 _ _).below⟩
      · have hi := Lib.hid (HI.out 3 z hz)
        have e1 : ((⟨#[48, 49, 50, 51, 52, 53, 54, 55, 56, 57, 45, 47]⟩ : ByteArray)[2]'(by decide)).toNat = 50 := rfl
        have e2 : ((⟨#[a, b, z]⟩ : ByteArray)[2]'(by show 2 < 3; decide)).toNat = z.toNat := rfl
        have hne : ((50 : Int) == (z.toNat : Int)) = false := by rw [beq_eq_false_iff_ne]; omega
        have hne2 : ((50 : Int) != (z.toNat : Int)) = true := by rw [bne_iff_ne]; omega
        go_wp2_with fail
        go_loop [9] (fun i => i = .int .i64 2) (fun _ => 0)
        case atStart => rfl
        case round =>
          subst hrel
          go_wp2_with fail
          go_step3
          go_wp2_with fail
          go_quiet (fail)
          go_wp2_with fail
          obtain ⟨w2, hw2⟩ : ∃ x, x = w.drewN nq := ⟨_, rfl⟩
          rw [← hw2]
          have HW2 := Lib.hid hw2
          clear hw2
          go_quiet ((go_at_call 224; exact Calls.quiet_of_same (hi.out _)))
          go_wp2_with fail
          rw [Exit.noGoto_ret]
          simp +zetaDelta only [go_sem, Exit.inBlock, Exit.then]
          go_ret
          exact ⟨rfl, by rw [HW2.out, World.drewN_drewN]; exact (Qt.n1 _ _).below⟩
      · have hi := Lib.hid (HI.out 4 z hz)
        have e1 : ((⟨#[48, 49, 50, 51, 52, 53, 54, 55, 56, 57, 45, 47]⟩ : ByteArray)[3]'(by decide)).toNat = 51 := rfl
        have e2 : ((⟨#[a, b, c, z]⟩ : ByteArray)[3]'(by show 3 < 4; decide)).toNat = z.toNat := rfl
        have hne : ((51 : Int) == (z.toNat : Int)) = false := by rw [beq_eq_false_iff_ne]; omega
        have hne2 : ((51 : Int) != (z.toNat : Int)) = true := by rw [bne_iff_ne]; omega
        go_wp2_with fail
        go_loop [9] (fun i => i = .int .i64 3) (fun _ => 0)
        case atStart => rfl
        case round =>
          subst hrel
          go_wp2_with fail
          go_step3
          go_wp2_with fail
          go_quiet (fail)
          go_wp2_with fail
          obtain ⟨w2, hw2⟩ : ∃ x, x = w.drewN nq := ⟨_, rfl⟩
          rw [← hw2]
          have HW2 := Lib.hid hw2
          clear hw2
          go_quiet ((go_at_call 224; exact Calls.quiet_of_same (hi.out _)))
          go_wp2_with fail
          rw [Exit.noGoto_ret]
          simp +zetaDelta only [go_sem, Exit.inBlock, Exit.then]
          go_ret
          exact ⟨rfl, by rw [HW2.out, World.drewN_drewN]; exact (Qt.n1 _ _).below⟩
end Go.Proofs.YtbjaolmlnkliiaaGreatDoor

/- The contracts of ContainsRune on the signs of a number, of the function value that misplaced hands to IndexFunc, and of IndexFunc with it. Conditions as premises: the rune is one. -/
namespace Go.Proofs.YtbjaolmlnkliiaaGreatDoor
open Go.RowKit

/-- whether a rune is a sign that a number has -/
def al (r : Int) : Bool := decide (r < 128) && decide (0 ≤ fby s0 r)
set_option maxRecDepth 100000 in
theorem indexRune_near (r : Int) (h0 : 0 ≤ r) (h1 : r < 128) (w : World) :
    Calls Tryz.prog 199 #[.string s0, .int .i32 r] w fun e w' => e = .returned (.int .i64 (fby s0 r)) ∧ w' = w := by
  have C := Lib.hid (indexByteT_any s0 r w)
  go_enter Tryz.func199, Tryz.ntmps199
  go_wp2_with fail
  refine C.out.mono ?_
  rintro _ _ ⟨rfl, rfl⟩
  go_wp2_with fail
  go_ret
  exact ⟨rfl, rfl⟩
set_option maxRecDepth 100000 in
theorem containsRune_any (r : Int) (h0 : 0 ≤ r) (h1 : r ≤ 1114111) (w : World) :
    Calls Tryz.prog 157 #[.string s0, .int .i32 r] w fun e w' => e = .returned (.bool (al r)) ∧ Below w.heap.size w w' := by
  by_cases h : r < 128
  · have C := indexRune_near r h0 h w
    rw [show al r = decide (0 ≤ fby s0 r) by unfold al; rw [decide_eq_true h, Bool.true_and]]
    generalize fby s0 r = z at *
    have CC := Lib.hid C
    clear C h
    go_enter Tryz.func157, Tryz.ntmps157
    go_wp2_with fail
    refine CC.out.mono ?_
    rintro _ _ ⟨rfl, rfl⟩
    go_wp2_with fail
    go_ret
    exact ⟨rfl, Below.refl _ _⟩
  · have CC := Lib.hid (indexRune_far r (by omega) h1 w)
    rw [show al r = false by unfold al; rw [decide_eq_false h, Bool.false_and]]
    clear h
    go_enter Tryz.func157, Tryz.ntmps157
    go_wp2_with fail
    refine CC.out.mono ?_
    rintro _ w1 ⟨rfl, hb⟩
    go_wp2_with fail
    go_ret
    exact ⟨rfl, hb⟩
set_option maxRecDepth 100000 in
theorem misplacedF_any (r : Int) (h0 : 0 ≤ r) (h1 : r ≤ 1114111) (w : World) :
    Calls Tryz.prog 156 #[.int .i32 r] w fun e w' => e = .returned (.bool (!al r)) ∧ Below w.heap.size w w' := by
  have CC := Lib.hid (containsRune_any r h0 h1 w)
  generalize al r = b at *
  unfold s0 at CC
  go_enter Tryz.func156, Tryz.ntmps156
  go_wp2_with fail
  refine CC.out.mono ?_
  rintro _ w1 ⟨rfl, hb⟩
  go_wp2_with fail
  go_ret
  exact ⟨rfl, hb⟩

theorem al_far {r : Int} (h : 128 ≤ r) : al r = false := by unfold al; rw [decide_eq_false (by omega), Bool.false_and]
/-- byte i of a text -/
def bt (s : ByteArray) (i : Nat) : Nat := (s.get! i).toNat
theorem decode_near {s : ByteArray} {i : Nat} (h : bt s i < 128) : Utf8.decode s i = (bt s i, 1) := by
  unfold Utf8.decode
  simp only [Nat.add_zero]
  rw [if_pos (show (s.get! i).toNat < 128 from h)]
  rfl
theorem decode_far {s : ByteArray} {i : Nat} (h : 128 ≤ bt s i) : 128 ≤ (Utf8.decode s i).1 := by
  unfold Utf8.decode
  simp only [Nat.add_zero]
  rw [if_neg (show ¬ (s.get! i).toNat < 128 by unfold bt at h; omega)]
  split
  · split
    · assumption
    · decide
  · split
    · split
      · rename_i h1; rw [Bool.and_eq_true, decide_eq_true_eq] at h1; exact Nat.le_trans (by omega) h1.1
      · decide
    · split
      · split
        · rename_i h1; rw [Bool.and_eq_true, decide_eq_true_eq] at h1; exact Nat.le_trans (by omega) h1.1
        · decide
      · decide
theorem decode_le (s : ByteArray) (i : Nat) : (Utf8.decode s i).1 ≤ 1114111 := by
  unfold Utf8.decode
  simp only [Nat.add_zero]
  split
  · simp only []; omega
  · split
    · split
      · simp only []; omega
      · decide
    · split
      · split
        · simp only []; omega
        · decide
      · split
        · split
          · rename_i h1; rw [Bool.and_eq_true] at h1; have h2 := h1.2; simp only [Utf8.valid, Bool.or_eq_true, Bool.and_eq_true, decide_eq_true_eq] at h2; simp only []; omega
          · decide
        · decide
/-- where a text has its first sign that no number has, or -1 -/
structure Fst (s : ByteArray) (v : Int) : Prop where
  p : (v = -1 ∧ ∀ j, j < s.size → al (bt s j) = true) ∨ (∃ i : Nat, v = i ∧ i < s.size ∧ al (bt s i) = false ∧ ∀ j, j < i → al (bt s j) = true)
set_option maxHeartbeats 2000000 in
set_option maxRecDepth 1000000 in
theorem indexFunc_any (s : ByteArray) (w : World) :
    Calls Tryz.prog 198 #[.string s, .func (.func 156) #[] #[], .bool true] w fun e w' => ∃ v, e = .returned (.int .i64 v) ∧ Fst s v ∧ Below w.heap.size w w' := by
  have e137 : ∀ args w, (callFunc 156 args).run Tryz.prog w = .ok (.enter 156 args) w := enters_of Tryz.func156 (by kernel_rfl) rfl
  go_enter Tryz.func198, Tryz.ntmps198
  go_wp2
  go_loopg [] s.size (fun gf wx => ∃ pos : Nat, wx.heap[w.heap.size]? = some (.stringIter s pos) ∧ Below w.heap.size w wx ∧ pos ≤ s.size ∧ s.size ≤ pos + gf ∧ Hid (∀ j, j < pos → al (bt s j) = true))
  case atStart => exact ⟨0, World.iter_heap w s 0, (Below.refl _ w).alloc (Nat.le_refl _) _, by omega, by omega, Lib.hid fun j h => by omega⟩
  case round =>
    obtain ⟨pos, hit, hbw, hp, hfu, hall⟩ := hrel
    by_cases hps : pos < s.size
    · obtain ⟨g', rfl⟩ : ∃ g', gk = g' + 1 := ⟨gk - 1, by omega⟩
      have hnx : ∀ ty, (Instr.next (.pointer (some ⟨w.heap.size, 0, none⟩)) true ty).run Tryz.prog wr = _ := fun ty => Lib.run_next_any_at wr w.heap.size s pos ty hit hps
      have hle := decode_le s pos
      have hit2 := fun K => Lib.iterAt_heap wr w.heap.size s pos (pos + K) hit
      have hbw2 := fun K => Lib.below_iterAt hbw (k := w.heap.size) (Nat.le_refl _) s (pos + K)
      by_cases hb : bt s pos < 128
      · have hd := decode_near hb
        rw [hd] at hnx
        simp only at hnx
        replace hit2 := hit2 1
        replace hbw2 := hbw2 1
        obtain ⟨W, hWd⟩ : ∃ W, wr.iterAt w.heap.size s (pos + 1) = W := ⟨_, rfl⟩
        rw [hWd] at hnx hit2 hbw2
        have cS := misplacedF_any (bt s pos) (by omega) (by omega) W
        have hlt : w.heap.size < W.heap.size := (Array.getElem?_eq_some_iff.1 hit2).1
        by_cases ha : al (bt s pos) = true
        · rw [ha] at cS
          have CS := Lib.hid cS
          have HA : Hid (∀ j, j < pos + 1 → al (bt s j) = true) := Lib.hid fun j hj => by
            by_cases e : j = pos
            · rw [e]; exact ha
            · exact hall.out j (by omega)
          generalize bt s pos = R at *
          have HB2 := Lib.hid hbw2
          have HI2 := Lib.hid hit2
          clear cS ha hd hle hWd hbw2 hit2
          go_wp2_with (go_at_call 156; refine CS.out.mono ?_; rintro _ W2 ⟨rfl, hb2⟩)
          go_roundg g'
          case measure => omega
          case rel => exact ⟨pos + 1, (hb2.block _ hlt).trans HI2.out, HB2.out.trans (hb2.mono HB2.out.size), by omega, by omega, HA⟩
        · have ha' : al (bt s pos) = false := by cases e : al (bt s pos) <;> simp_all
          rw [ha'] at cS
          have CS := Lib.hid cS
          have HF := Lib.hid (show Fst s (pos : Int) from ⟨.inr ⟨pos, rfl, hps, ha', hall.out⟩⟩)
          generalize bt s pos = R at *
          have HB2 := Lib.hid hbw2
          clear cS ha ha' hd hle hWd hbw2 hit2
          go_wp2_with (go_at_call 156; refine CS.out.mono ?_; rintro _ W2 ⟨rfl, hb2⟩)
          go_ret
          exact ⟨_, rfl, HF.out, HB2.out.trans (hb2.mono HB2.out.size)⟩
      · have hf := decode_far (show 128 ≤ bt s pos by omega)
        have ha' : al (bt s pos) = false := al_far (by omega)
        have HF := Lib.hid (show Fst s (pos : Int) from ⟨.inr ⟨pos, rfl, hps, ha', hall.out⟩⟩)
        generalize hR : (Utf8.decode s pos).1 = R at *
        generalize hK : (Utf8.decode s pos).2 = K at *
        replace hit2 := hit2 K
        replace hbw2 := hbw2 K
        obtain ⟨W, hWd⟩ : ∃ W, wr.iterAt w.heap.size s (pos + K) = W := ⟨_, rfl⟩
        rw [hWd] at hnx hit2 hbw2
        have cS := misplacedF_any R (by omega) (by omega) W
        rw [al_far (by omega)] at cS
        have CS := Lib.hid cS
        have HB2 := Lib.hid hbw2
        clear cS ha' hb hf hle hWd hbw2 hit2 hR hK
        go_wp2_with (go_at_call 156; refine CS.out.mono ?_; rintro _ W2 ⟨rfl, hb2⟩)
        go_ret
        exact ⟨_, rfl, HF.out, HB2.out.trans (hb2.mono HB2.out.size)⟩
    · have hnx : ∀ ty, (Instr.next (.pointer (some ⟨w.heap.size, 0, none⟩)) true ty).run Tryz.prog wr = _ := fun ty => Lib.run_next_end_at wr w.heap.size s pos ty hit hps
      have hall2 : Fst s (-1) := ⟨.inl ⟨rfl, fun j hj => hall.out j (by omega)⟩⟩
      go_wp2
      go_ret
      exact ⟨_, rfl, hall2, hbw⟩
end Go.Proofs.YtbjaolmlnkliiaaGreatDoor

/- The contracts of IndexFunc and misplaced. Condition as a premise: the text is not longer than any text. -/
namespace Go.Proofs.YtbjaolmlnkliiaaGreatDoor
open Go.RowKit

set_option maxRecDepth 100000 in
theorem indexFuncT_any (s : ByteArray) (w : World) :
    Calls Tryz.prog 155 #[.string s, .func (.func 156) #[] #[]] w fun e w' => ∃ v, e = .returned (.int .i64 v) ∧ Fst s v ∧ Below w.heap.size w w' := by
  have CC := Lib.hid (indexFunc_any s w)
  go_enter Tryz.func155, Tryz.ntmps155
  go_wp2_with fail
  refine CC.out.mono ?_
  rintro _ w1 ⟨v, rfl, hv, hb⟩
  go_wp2_with fail
  go_ret
  exact ⟨v, rfl, hv, hb⟩

/-- whether sign i of a text stands where it can't be: a minus behind the first place, or a second slash -/
def mis (s : ByteArray) (i : Nat) : Prop := (bt s i = 45 ∧ 0 < i) ∨ (bt s i = 47 ∧ ∃ j, j < i ∧ bt s j = 47)
/-- where a text has its first sign that no number has, or else its first sign that is where it can't be, or -1 -/
def Msp (s : ByteArray) (v : Int) : Prop :=
  (∃ i : Nat, v = i ∧ i < s.size ∧ al (bt s i) = false ∧ ∀ j, j < i → al (bt s j) = true) ∨
  ((∀ j, j < s.size → al (bt s j) = true) ∧ ((v = -1 ∧ ∀ j, j < s.size → ¬ mis s j) ∨ (∃ i : Nat, v = i ∧ i < s.size ∧ mis s i ∧ ∀ j, j < i → ¬ mis s j)))
theorem bt_eq (s : ByteArray) (i : Nat) (h : i < s.size) : (s[i]'h).toNat = bt s i := by
  unfold bt
  have : s.get! i = s[i]'h := by
    cases s with
    | mk d => exact getElem!_pos d i h
  rw [this]
set_option maxHeartbeats 2000000 in
set_option maxRecDepth 100000 in
theorem misplaced_any (s : ByteArray) (hs : s.size ≤ 9223372036854775807) (w : World) :
    Calls Tryz.prog 81 #[.string s] w fun e w' => ∃ v, e = .returned (.int .i64 v) ∧ Msp s v ∧ Below w.heap.size w w' := by
  have CC := Lib.hid (indexFuncT_any s w)
  go_enter Tryz.func81, Tryz.ntmps81
  go_wp2_with fail
  refine CC.out.mono ?_
  rintro _ w1 ⟨v, rfl, hv, hb⟩
  rcases hv.p with ⟨rfl, hall⟩ | ⟨i, rfl, hi, ha, hlt⟩
  · have HALL := Lib.hid hall
    clear hall hv
    go_wp2_with fail
    go_loopw [4, 13] (fun dv i wr => ∃ (k : Nat) (D : Bool), k ≤ s.size ∧ dv = .bool D ∧ i = .int .i64 (k : Int) ∧ Hid (D = true ↔ ∃ j, j < k ∧ bt s j = 47) ∧ Hid (∀ j, j < k → ¬ mis s j) ∧ Hid (Below w.heap.size w wr)) (fun _ i _ => s.size - (intOf i).toNat)
    case atStart => exact ⟨0, false, Nat.zero_le _, rfl, rfl, Lib.hid ⟨(fun h => by cases h), (fun h => by obtain ⟨j, h, _⟩ := h; omega)⟩, Lib.hid (fun j h => by omega), Lib.hid hb⟩
    case round =>
      obtain ⟨k, D, hk, rfl, rfl, HD, HN, HB⟩ := hrel
      by_cases hks : k < s.size
      · have e1 := bt_eq s k hks
        have i1 : (k : Int) < (s.size : Int) := by omega
        have i0 : (0 : Int) ≤ (k : Int) := by omega
        have HMS : Hid (mis s k ↔ ((bt s k = 45 ∧ 0 < k) ∨ (bt s k = 47 ∧ D = true))) := Lib.hid (by unfold mis; rw [HD.out])
        have HD2 : Hid (∀ E : Bool, (E = true ↔ (D = true ∨ bt s k = 47)) → (E = true ↔ ∃ j, j < k + 1 ∧ bt s j = 47)) := Lib.hid fun E hE => by
          rw [hE, HD.out]
          constructor
          · rintro (⟨j, h1, h2⟩ | h)
            · exact ⟨j, by omega, h2⟩
            · exact ⟨k, by omega, h⟩
          · rintro ⟨j, h1, h2⟩
            by_cases e : j = k
            · subst e; exact .inr h2
            · exact .inl ⟨j, by omega, h2⟩
        have HN2 : Hid (¬ mis s k → ∀ j, j < k + 1 → ¬ mis s j) := Lib.hid fun h j hj => by
          by_cases e : j = k
          · subst e; exact h
          · exact HN.out j (by omega)
        have HR : Hid (mis s k → Msp s (k : Int)) := Lib.hid fun h => .inr ⟨HALL.out, .inr ⟨k, rfl, hks, h, HN.out⟩⟩
        generalize bt s k = B at *
        by_cases h45 : B = 45
        · by_cases hk0 : 0 < k
          · have HRR := Lib.hid (HR.out (HMS.out.2 (.inl ⟨h45, hk0⟩)))
            have hk1 : (0 : Int) < (k : Int) := by omega
            have hk2 : decide ((0 : Int) < (k : Int)) = true := decide_eq_true hk1
            subst h45
            go_wp2_with fail
            go_ret
            exact ⟨_, rfl, HRR.out, HB.out⟩
          · have HN3 := Lib.hid (HN2.out (fun c => by
              rcases HMS.out.1 c with ⟨_, c2⟩ | ⟨c1, _⟩
              · exact hk0 c2
              · omega))
            have hD : D = false := by
              cases D
              · rfl
              · obtain ⟨j, h1, _⟩ := HD.out.1 rfl
                omega
            subst hD
            obtain rfl : k = 0 := by omega
            have HD3 := Lib.hid (HD2.out false (by simp [h45]))
            subst h45
            clear HMS HR HD HD2 HN2 hk0
            go_wp2_with fail
            go_roundw
            case rel => exact ⟨1, false, by omega, rfl, rfl, HD3, HN3, HB⟩
            case measure => simp [intOf] <;> omega
        · have h45' : ((B : Int) == 45) = false := by rw [beq_eq_false_iff_ne]; omega
          by_cases h47 : B = 47
          · cases D
            · have HN3 := Lib.hid (HN2.out (fun c => by
                rcases HMS.out.1 c with ⟨c1, _⟩ | ⟨_, c2⟩
                · exact h45 c1
                · cases c2))
              have HD3 := Lib.hid (HD2.out true (by simp [h47]))
              subst h47
              clear HMS HR HD HD2 HN2 h45
              go_wp2_with fail
              go_roundw
              case rel => exact ⟨k + 1, true, by omega, rfl, rfl, HD3, HN3, HB⟩
              case measure => simp [intOf] <;> omega
            · have HRR := Lib.hid (HR.out (HMS.out.2 (.inr ⟨h47, rfl⟩)))
              subst h47
              clear HMS HR HD HD2 HN2 h45
              go_wp2_with fail
              go_ret
              exact ⟨_, rfl, HRR.out, HB.out⟩
          · have h47' : ((B : Int) == 47) = false := by rw [beq_eq_false_iff_ne]; omega
            have HN3 := Lib.hid (HN2.out (fun c => by
              rcases HMS.out.1 c with ⟨c1, _⟩ | ⟨c1, _⟩
              · exact h45 c1
              · exact h47 c1))
            have H47 := Lib.hid h47
            cases D
            · have HD3 := Lib.hid (HD2.out false (by simp [h47]))
              clear HMS HR HD HD2 HN2 h45 h47
              go_wp2_with fail
              go_roundw
              case rel => exact ⟨k + 1, false, by omega, rfl, rfl, HD3, HN3, HB⟩
              case measure => simp [intOf] <;> omega
            · have HD3 := Lib.hid (HD2.out true (by simp))
              clear HMS HR HD HD2 HN2 h45 h47
              go_wp2_with fail
              go_roundw
              case rel => exact ⟨k + 1, true, by omega, rfl, rfl, HD3, HN3, HB⟩
              case measure => simp [intOf] <;> omega
      · have HM := Lib.hid (show Msp s (-1) from .inr ⟨HALL.out, .inl ⟨rfl, fun j hj => HN.out j (by omega)⟩⟩)
        have hks' : ¬ (k : Int) < (s.size : Int) := by omega
        go_wp2_with fail
        go_ret
        exact ⟨_, rfl, HM.out, HB.out⟩
  · have HM := Lib.hid (show Msp s (i : Int) from .inl ⟨i, rfl, hi, ha, hlt⟩)
    clear hv ha hlt
    go_wp2_with fail
    go_ret
    exact ⟨_, rfl, HM.out, hb⟩
end Go.Proofs.YtbjaolmlnkliiaaGreatDoor

/- The contract of parseAt. Conditions as premises: the place is small, and the table of powers holds what its initialiser lays. -/
namespace Go.Proofs.YtbjaolmlnkliiaaGreatDoor
open Go.RowKit Go.Shelf
attribute [local go_sem ↓] Go.wp_at_zero Go.wp_at_succ

/-- which error a text of digits has, and where -/
def PE (s : ByteArray) (e a : Int) : Prop :=
  (9216 < s.size ∧ e = 4 ∧ a = 9216) ∨
  (s.size ≤ 9216 ∧ ∃ i, i < s.size ∧ ¬ good s i ∧ (∀ j, j < i → good s j) ∧ e = 11 ∧ a = (i : Int)) ∨
  (s.size ≤ 9216 ∧ (∀ i, i < s.size → good s i) ∧ (s.size = 0 ∨ (1 < s.size ∧ sb s 0 = 48)) ∧ e = 11 ∧ a = 0) ∨
  (s.size ≤ 9216 ∧ (∀ i, i < s.size → good s i) ∧ ¬ (s.size = 0 ∨ (1 < s.size ∧ sb s 0 = 48)) ∧ e = 0 ∧ a = 0)
theorem PE.range {s : ByteArray} {e a : Int} (h : PE s e a) : (e = 0 ∨ e = 4 ∨ e = 11) ∧ 0 ≤ a ∧ a ≤ 9216 := by
  rcases h with ⟨_, rfl, rfl⟩ | ⟨_, i, _, _, _, rfl, rfl⟩ | ⟨_, _, _, rfl, rfl⟩ | ⟨_, _, _, rfl, rfl⟩
  · omega
  · omega
  · omega
  · omega
theorem natParseP (s : ByteArray) (w : World) (ht : Tab w) :
    Calls Tryz.prog 160 #[.string s] w fun e w' => ∃ A n c x a, e = .returned (.tuple #[.slice A n c, .agg #[.int .i64 x, .int .i64 a]]) ∧ PE s x a ∧ (x = 0 → Nr w' (pnum s) (.slice A n c)) ∧ (x ≠ 0 → (.slice A n c : Value) = .slice none 0 0) ∧ Below w.heap.size w w' := by
  by_cases h : s.size ≤ 9216
  · refine (natParse_rest s w h ht).mono ?_
    rintro e w' ⟨v, x, a, he, hp, hb⟩
    rcases hp with ⟨h1, rfl, rfl, rfl⟩ | ⟨h1, i, h2, h3, h4, rfl, rfl, rfl⟩ | ⟨h1, h2, h3, rfl, rfl, rfl⟩ | ⟨h1, h2, h3, rfl, rfl, h4⟩
    · omega
    · exact ⟨none, 0, 0, 11, (i : Int), he, .inr (.inl ⟨h1, i, h2, h3, h4, rfl, rfl⟩), fun c => absurd c (by decide), fun _ => rfl, hb⟩
    · exact ⟨none, 0, 0, 11, 0, he, .inr (.inr (.inl ⟨h1, h2, h3, rfl, rfl⟩)), fun c => absurd c (by decide), fun _ => rfl, hb⟩
    · obtain ⟨A, n, c, f, rfl, hr, hd, _⟩ := h4
      exact ⟨A, n, c, 0, 0, he, .inr (.inr (.inr ⟨h1, h2, h3, rfl, rfl⟩)), fun _ => ⟨A, n, c, f, rfl, hr, hd⟩, fun c => absurd rfl c, hb⟩
  · refine (natParse_long s w (by omega)).mono ?_
    rintro e w' ⟨he, hb⟩
    exact ⟨none, 0, 0, 4, 9216, he, .inl ⟨by omega, rfl, rfl⟩, fun c => absurd c (by decide), fun _ => rfl, hb⟩

theorem hnoFa (x y : Int) : (#[.int .i64 x, .int .i64 y] : Array Value).all notU32 = true := by simp [notU32]
set_option maxRecDepth 100000 in
set_option maxHeartbeats 2000000 in
theorem parseAt_any (s : ByteArray) (k : Int) (h0 : 0 ≤ k) (h1 : k ≤ 100000) (w : World) (ht : Tab w) :
    Calls Tryz.prog 84 #[.string s, .int .i64 k] w fun e w' => ∃ A n c x a, e = .returned (.tuple #[.slice A n c, .agg #[.int .i64 x, .int .i64 (if x = 0 then a else a + k)]]) ∧ PE s x a ∧ (x = 0 → Nr w' (pnum s) (.slice A n c)) ∧ (x ≠ 0 → (.slice A n c : Value) = .slice none 0 0) ∧ Below w.heap.size w w' := by
  have hb0 := below1 w (.cells #[.int .i64 0, .int .i64 0] 32)
  have C := Lib.hid (natParseP s (w.alloc (.cells #[.int .i64 0, .int .i64 0] 32)) (by obtain ⟨t, fr, h⟩ := ht; exact ⟨t, fr, (hb0.block _ (Array.getElem?_eq_some_iff.1 h).1).trans h⟩))
  have HB := Lib.hid hb0
  have KP := Lib.hid (Blk.new w #[.int .i64 0, .int .i64 0] 32)
  clear hb0 ht
  go_enter Tryz.func84, Tryz.ntmps84
  go_wp2_with fail
  refine C.out.mono ?_
  rintro _ w1 ⟨A, n, c, x, a, rfl, hpe, hnr, hnil, hb⟩
  obtain ⟨hx, ha0, ha1⟩ := hpe.range
  have HPE := Lib.hid hpe
  have HNR := Lib.hid hnr
  have HNIL := Lib.hid hnil
  have k1 := KP.out.after hb
  have HB1 := Lib.hid (HB.out.trans (hb.mono HB.out.size))
  have d0 := k1.cell (i := 0) rfl
  have d1 := k1.cell (i := 1) rfl
  have ff := k1.free
  have zl : w.heap.size < w1.heap.size := k1.lt
  have zn : w.heap.size ≠ w1.heap.size := Nat.ne_of_lt zl
  have zm : w1.heap.size ≠ w.heap.size := Nat.ne_of_gt zl
  have K1 := Lib.hid k1
  clear hpe hnr hnil hb k1 C HB KP
  by_cases hx0 : x = 0
  · subst hx0
    clear hx
    go_upto_region 4 with fail
    have kf := Blk.new w1 #[.int .i64 0, .int .i64 (a)] 32
    have kr := K1.out.alloc (.cells #[.int .i64 0, .int .i64 (a)] 32)
    have hbf := HB1.out.trans ((below1 w1 (.cells #[.int .i64 0, .int .i64 (a)] 32)).mono HB1.out.size)
    have HN2 : Hid ((0 : Int) = 0 → Nr (w1.alloc (.cells #[.int .i64 0, .int .i64 (a)] 32)) (pnum s) (.slice A n c)) := Lib.hid fun _ => (HNR.out (by first | trivial | rfl)).below (below1 _ _)
    clear d0 d1 ff zl
    generalize w1.alloc (.cells #[.int .i64 0, .int .i64 (a)] 32) = w2 at *
    generalize hP : w1.heap.size = P at *
    have KF := Lib.hid kf
    have KR := Lib.hid kr
    have HBF := Lib.hid hbf
    have zr := kr.lt
    have fr := kr.free
    have r0 := kr.cell (i := 0) rfl
    have r1 := kr.cell (i := 1) rfl
    clear kf hbf hP kr
    have KEEP : Hid (w2.drew.cell? ⟨P, 0, none⟩ = some (.int .i64 0) ∧ w2.drew.cell? ⟨P, 1, none⟩ = some (.int .i64 (a))) := Lib.hid ⟨KF.out.cell rfl, KF.out.cell rfl⟩
    have KST : Hid (∀ u v, ((w2.setCell ⟨w.heap.size, 0, none⟩ u).setCell ⟨w.heap.size, 1, none⟩ v).drew.cell? ⟨P, 0, none⟩ = some (.int .i64 0) ∧ ((w2.setCell ⟨w.heap.size, 0, none⟩ u).setCell ⟨w.heap.size, 1, none⟩ v).drew.cell? ⟨P, 1, none⟩ = some (.int .i64 (a))) := Lib.hid fun u v =>
      ⟨((show Blk w2 P 32 #[.int .i64 0, .int .i64 (a)] from KF.out).other zm |>.other zm).cell rfl, ((show Blk w2 P 32 #[.int .i64 0, .int .i64 (a)] from KF.out).other zm |>.other zm).cell rfl⟩
    go_region_held3 (fun W => W.cell? ⟨P, 0, none⟩ = some (.int .i64 0) ∧ W.cell? ⟨P, 1, none⟩ = some (.int .i64 (a)))
      (first | with_reducible exact KEEP.out | with_reducible exact KST.out _ _ | go_keep)
      (fail)
    go_wp2_with fail
    exact bodyPost_ret (v := .tuple #[.slice A n c, .agg #[.int .i64 0, .int .i64 (a)]]) (by simp [results, Tryz.results84, go_sem, r0, r1]) rfl ⟨A, n, c, 0, a, by rw [if_pos rfl], HPE.out, fun _ => ((HN2.out (by trivial)).put2 KR.out (hnoFa _ _)).below (Below.refl _ _).drew, fun e => absurd rfl e, ((HBF.out.setCell (p := ⟨w.heap.size, 0, none⟩) (Nat.le_refl _) _).setCell (p := ⟨w.heap.size, 1, none⟩) (Nat.le_refl _) _).drew⟩
  · have x1 : (x != 0) = true := by rw [bne_iff_ne]; exact hx0
    have x2 : (x == 0) = false := by rw [beq_eq_false_iff_ne]; exact hx0
    clear hx
    go_upto_region 4 with fail
    have kf := Blk.new w1 #[.int .i64 x, .int .i64 (a + k)] 32
    have kr := K1.out.alloc (.cells #[.int .i64 x, .int .i64 (a + k)] 32)
    have hbf := HB1.out.trans ((below1 w1 (.cells #[.int .i64 x, .int .i64 (a + k)] 32)).mono HB1.out.size)
    have HN2 : Hid (x = 0 → Nr (w1.alloc (.cells #[.int .i64 x, .int .i64 (a + k)] 32)) (pnum s) (.slice A n c)) := Lib.hid fun e => (HNR.out e).below (below1 _ _)
    clear d0 d1 ff zl
    generalize w1.alloc (.cells #[.int .i64 x, .int .i64 (a + k)] 32) = w2 at *
    generalize hP : w1.heap.size = P at *
    have KF := Lib.hid kf
    have KR := Lib.hid kr
    have HBF := Lib.hid hbf
    have zr := kr.lt
    have fr := kr.free
    have r0 := kr.cell (i := 0) rfl
    have r1 := kr.cell (i := 1) rfl
    clear kf hbf hP kr
    have KEEP : Hid (w2.drew.cell? ⟨P, 0, none⟩ = some (.int .i64 x) ∧ w2.drew.cell? ⟨P, 1, none⟩ = some (.int .i64 (a + k))) := Lib.hid ⟨KF.out.cell rfl, KF.out.cell rfl⟩
    have KST : Hid (∀ u v, ((w2.setCell ⟨w.heap.size, 0, none⟩ u).setCell ⟨w.heap.size, 1, none⟩ v).drew.cell? ⟨P, 0, none⟩ = some (.int .i64 x) ∧ ((w2.setCell ⟨w.heap.size, 0, none⟩ u).setCell ⟨w.heap.size, 1, none⟩ v).drew.cell? ⟨P, 1, none⟩ = some (.int .i64 (a + k))) := Lib.hid fun u v =>
      ⟨((show Blk w2 P 32 #[.int .i64 x, .int .i64 (a + k)] from KF.out).other zm |>.other zm).cell rfl, ((show Blk w2 P 32 #[.int .i64 x, .int .i64 (a + k)] from KF.out).other zm |>.other zm).cell rfl⟩
    go_region_held3 (fun W => W.cell? ⟨P, 0, none⟩ = some (.int .i64 x) ∧ W.cell? ⟨P, 1, none⟩ = some (.int .i64 (a + k)))
      (first | with_reducible exact KEEP.out | with_reducible exact KST.out _ _ | go_keep)
      (fail)
    go_wp2_with fail
    exact bodyPost_ret (v := .tuple #[.slice A n c, .agg #[.int .i64 x, .int .i64 (a + k)]]) (by simp [results, Tryz.results84, go_sem, r0, r1]) rfl ⟨A, n, c, x, a, by rw [if_neg hx0], HPE.out, fun e => absurd e hx0, HNIL.out, ((HBF.out.setCell (p := ⟨w.heap.size, 0, none⟩) (Nat.le_refl _) _).setCell (p := ⟨w.heap.size, 1, none⟩) (Nat.le_refl _) _).drew⟩
end Go.Proofs.YtbjaolmlnkliiaaGreatDoor

/- The contract of Parse at texts that are numbers. Conditions as premises: the text is one, and the table of powers and that of signs hold what their initialisers lay. -/
namespace Go.Proofs.YtbjaolmlnkliiaaGreatDoor
open Go.RowKit Go.Shelf
attribute [local go_sem ↓] Go.wp_at_zero Go.wp_at_succ

theorem Msp.none {s : ByteArray} {v : Int} (h : Msp s v) (k : Msp s (-1)) : v = -1 := by
  rcases k with ⟨i, hi, _⟩ | ⟨k1, ⟨_, k2⟩ | ⟨i, hi, _⟩⟩
  · omega
  · rcases h with ⟨i, rfl, h1, h2, _⟩ | ⟨_, ⟨h1, _⟩ | ⟨i, rfl, h1, h2, _⟩⟩
    · rw [k1 i h1] at h2; cases h2
    · exact h1
    · exact absurd h2 (k2 i h1)
  · omega
theorem unm_size (s : ByteArray) : (unm s).size ≤ s.size ∧ s.size ≤ (unm s).size + 1 := by
  unfold unm
  split
  · rw [ByteArray.size_extract]; omega
  · omega
theorem topS_size (s : ByteArray) : (topS s).size ≤ s.size := by
  unfold topS
  split
  · omega
  · rw [ByteArray.size_extract]; omega
theorem botS_size (s : ByteArray) : (botS s).size ≤ s.size := by
  unfold botS
  split
  · exact Nat.zero_le _
  · rw [ByteArray.size_extract]; omega
theorem PE.good {s : ByteArray} (h : PE s 0 0) : s.size ≤ 9216 ∧ (∀ i, i < s.size → good s i) ∧ ¬ (s.size = 0 ∨ (1 < s.size ∧ sb s 0 = 48)) := by
  rcases h with ⟨_, h, _⟩ | ⟨_, i, _, _, _, h, _⟩ | ⟨_, _, _, h, _⟩ | ⟨h1, h2, h3, _, _⟩
  · cases h
  · cases h
  · cases h
  · exact ⟨h1, h2, h3⟩
theorem PE.zero {s : ByteArray} {e a : Int} (h : PE s e a) (k : PE s 0 0) : e = 0 ∧ a = 0 := by
  obtain ⟨k1, k2, k3⟩ := k.good
  rcases h with ⟨h1, _⟩ | ⟨_, i, h2, h3, _⟩ | ⟨_, _, h3, _⟩ | ⟨_, _, _, h4, h5⟩
  · omega
  · exact absurd (k2 i h2) h3
  · exact absurd h3 k3
  · exact ⟨h4, h5⟩
theorem pnum_lt {s : ByteArray} (h : PE s 0 0) : pnum s < LB ^ NL := by
  obtain ⟨k1, k2, _⟩ := h.good
  have h1 : pnum s < 10 ^ s.size := nt_lt _ fun j _ => sd_lt k2 j
  have h2 : 10 ^ s.size ≤ 10 ^ (9 * NL) := Nat.pow_le_pow_right (by decide) (by rw [NL_eq]; omega)
  rw [LB_pow]
  exact Nat.lt_of_lt_of_le h1 h2
theorem results_row_row {P : Program} {fn : Func} {p u : Tmp} {ty ty2 : TypeId} (h : fn.results = #[.cell p ty, .cell u ty2]) (tmps : Array Value) (w : World) (g g2 : Nat) (t t2 : TypeId) (cs cs2 : Array Value) (fr fr2 : Nat × Nat) (d d2 : TypeDesc)
    (hp : tmps.getD p undef = .pointer (some ⟨g, 0, none⟩)) (hg : w.heap[g]? = some (.cells cs t fr))
    (hu : P.underlying ty = some d) (hd : (match d with | .struct _ | .array _ _ => true | _ => false) = true) (hi : (P.info? ty).map (·.size) = some cs.size)
    (hp2 : tmps.getD u undef = .pointer (some ⟨g2, 0, none⟩)) (hg2 : w.heap[g2]? = some (.cells cs2 t2 fr2))
    (hu2 : P.underlying ty2 = some d2) (hd2 : (match d2 with | .struct _ | .array _ _ => true | _ => false) = true) (hi2 : (P.info? ty2).map (·.size) = some cs2.size) :
    (results fn tmps).run P w = .ok (.tuple #[.agg cs, .agg cs2]) w := by
  have hp' : tmps[p]?.getD undef = .pointer (some ⟨g, 0, none⟩) := by simpa using hp
  have hp2' : tmps[u]?.getD undef = .pointer (some ⟨g2, 0, none⟩) := by simpa using hp2
  have e1 := run_loadVar_row w g t ty cs fr d hg hu hd hi
  have e2 := run_loadVar_row w g2 t2 ty2 cs2 fr2 d2 hg2 hu2 hd2 hi2
  simp only [results, h]
  simp [Sem.run_bind, Result.andThen, hp', hp2', asAddr, e1, e2]
set_option maxRecDepth 100000 in
set_option maxHeartbeats 4000000 in
theorem ratParse_slash (s : ByteArray) (h1 : s.size ≤ 20000) (hm : Msp s (-1)) (hf : 0 ≤ fby (unm s) 47) (ht : PE (topS (unm s)) 0 0) (hb0 : PE (botS (unm s)) 0 0) (hz : pnum (botS (unm s)) ≠ 0) (w : World) (hP : Tab w) (hS : Tabs w) :
    Calls Tryz.prog 15 #[.string s] w fun e w' => ∃ x, e = .returned (.tuple #[x, .agg #[.int .i64 0, .int .i64 0]]) ∧ Rq w' (mkRat (sn (mns s) (pnum (topS (unm s)))) (pnum (botS (unm s)))) x ∧ Below w.heap.size w w' := by
  have i1 : (s.size : Int) ≤ 20000 := by omega
  have hbb := below2 w (.cells #[.bool false, .slice none 0 0, .slice none 0 0] 25) (.cells #[.int .i64 0, .int .i64 0] 32)
  have k1 := (Blk.new w #[.bool false, .slice none 0 0, .slice none 0 0] 25).alloc (.cells #[.int .i64 0, .int .i64 0] 32)
  have k2 := Blk.new (w.alloc (.cells #[.bool false, .slice none 0 0, .slice none 0 0] 25)) #[.int .i64 0, .int .i64 0] 32
  simp only [World.size_alloc] at k2
  have K1 := Lib.hid k1
  have K2 := Lib.hid k2
  have HB := Lib.hid hbb
  have HP := Lib.hid hP
  have HS := Lib.hid hS
  have HM := Lib.hid hm
  have HZ := Lib.hid hz
  have HT := Lib.hid ht
  have HU := Lib.hid hb0
  have u1 := (unm_size s).1
  have u2 := (unm_size s).2
  have u3 := botS_size (unm s)
  have CM := Lib.hid (misplaced_any s (by omega) ((w.alloc (.cells #[.bool false, .slice none 0 0, .slice none 0 0] 25)).alloc (.cells #[.int .i64 0, .int .i64 0] 32)))
  have CP := Lib.hid fun w => cutPrefix_minus s w
  have CT := fun w => cut_slash (unm s) (by omega) w
  simp only [decide_eq_true hf] at CT
  have CC := Lib.hid CT
  generalize topS (unm s) = top at *
  generalize botS (unm s) = bot at *
  generalize unm s = dg at *
  generalize mns s = neg at *
  clear CT hf hbb k1 k2 hP hS hm hz ht hb0
  have hk0 : (0 : Int) ≤ (s.size : Int) - (dg.size : Int) := by omega
  have hk1 : (s.size : Int) - (dg.size : Int) ≤ 100000 := by omega
  have hl0 : (0 : Int) ≤ (s.size : Int) - (bot.size : Int) := by omega
  have hl1 : (s.size : Int) - (bot.size : Int) ≤ 100000 := by omega
  go_enter Tryz.func15, Tryz.ntmps15
  go_wp2_with fail
  refine CM.out.mono ?_
  rintro _ w1 ⟨v, rfl, hv, hb⟩
  obtain rfl := hv.none HM.out
  replace K1 := Lib.hid (K1.out.after hb)
  replace K2 := Lib.hid (K2.out.after hb)
  replace HB := Lib.hid (HB.out.trans (hb.mono HB.out.size))
  clear hv hb CM HM
  go_wp2_with fail
  refine (CP.out _).mono ?_
  rintro _ _ ⟨rfl, rfl⟩
  go_wp2_with fail
  refine (CC.out _).mono ?_
  rintro _ w2 ⟨rfl, d, hd⟩
  have hb := (Qt.n1 w1 d).below
  rw [← hd] at hb
  replace K1 := Lib.hid (K1.out.after hb)
  replace K2 := Lib.hid (K2.out.after hb)
  replace HB := Lib.hid (HB.out.trans (hb.mono HB.out.size))
  clear hb hd CP CC
  have C1 := Lib.hid (parseAt_any top _ hk0 hk1 w2 (HP.out.after HB.out))
  go_wp2_with fail
  refine C1.out.mono ?_
  rintro _ w3 ⟨A1, n1, c1, x1, a1, rfl, hpe, hnr, _, hb⟩
  obtain ⟨rfl, rfl⟩ := hpe.zero HT.out
  replace K1 := Lib.hid (K1.out.after hb)
  replace K2 := Lib.hid (K2.out.after hb)
  replace HB := Lib.hid (HB.out.trans (hb.mono HB.out.size))
  have N1 := Lib.hid (hnr rfl)
  clear hpe hnr hb C1
  go_upto_region 8 with fail
  have hba := below1 w3 (.cells #[.int .i64 0, .int .i64 0] 32)
  have KF := Lib.hid (Blk.new w3 #[.int .i64 0, .int .i64 0] 32)
  have HFN : Hid (w.heap.size < w3.heap.size ∧ w.heap.size + 1 < w3.heap.size) := Lib.hid ⟨K1.out.lt, K2.out.lt⟩
  replace K1 := Lib.hid (K1.out.after hba)
  replace K2 := Lib.hid (K2.out.after hba)
  have HFS := Lib.hid HB.out.size
  replace HB := Lib.hid (HB.out.trans (hba.mono HB.out.size))
  replace N1 := Lib.hid (N1.out.below hba)
  clear hba
  generalize hF : w3.heap.size = F at *
  clear hF
  generalize w3.alloc (.cells #[.int .i64 0, .int .i64 0] 32) = w4 at *
  have f0 := KF.out.cell (i := 0) rfl
  have f1 := KF.out.cell (i := 1) rfl
  go_wp2_with fail
  refine (oneN w4).mono ?_
  rintro _ w5 ⟨x2, rfl, ho, hb⟩
  obtain ⟨A2, n2, c2, rfl⟩ := ho.shape
  replace K1 := Lib.hid (K1.out.after hb)
  replace K2 := Lib.hid (K2.out.after hb)
  replace KF := Lib.hid (KF.out.after hb)
  replace HB := Lib.hid (HB.out.trans (hb.mono HB.out.size))
  replace N1 := Lib.hid (N1.out.below hb)
  clear hb ho f0 f1
  have C2 := Lib.hid (parseAt_any bot _ hl0 hl1 w5 (HP.out.after HB.out))
  go_wp2_with fail
  refine C2.out.mono ?_
  rintro _ w6 ⟨A3, n3, c3, x3, a3, rfl, hpe, hnr, _, hb⟩
  obtain ⟨rfl, rfl⟩ := hpe.zero HU.out
  replace K1 := Lib.hid (K1.out.after hb)
  replace K2 := Lib.hid (K2.out.after hb)
  replace KF := Lib.hid (KF.out.after hb)
  replace HB := Lib.hid (HB.out.trans (hb.mono HB.out.size))
  replace N1 := Lib.hid (N1.out.below hb)
  have n3' := hnr rfl
  have N3 := Lib.hid n3'
  obtain ⟨_, _, _, e3, hz3⟩ := n3'.len
  cases e3
  have hn3 : ((n3 : Int) == 0) = false := by rw [beq_eq_false_iff_ne]; intro e; exact HZ.out (hz3.1 (by omega))
  clear hpe hnr hb C2 hz3 n3'
  have f0 := KF.out.cell (i := 0) rfl
  have f1 := KF.out.cell (i := 1) rfl
  have ff := KF.out.free
  have zf := KF.out.lt
  go_wp2_with fail
  have g1 : w.heap.size ≠ F := by have := HFN.out; omega
  have g2 : w.heap.size + 1 ≠ F := by have := HFN.out; omega
  have k1 : Blk ((w6.setCell ⟨F, 0, none⟩ (.int .i64 0)).setCell ⟨F, 1, none⟩ (.int .i64 0)) w.heap.size 25 _ := (K1.out.other g1).other g1
  have k2 : Blk ((w6.setCell ⟨F, 0, none⟩ (.int .i64 0)).setCell ⟨F, 1, none⟩ (.int .i64 0)) (w.heap.size + 1) 32 _ := (K2.out.other g2).other g2
  have nn1 : Nr ((w6.setCell ⟨F, 0, none⟩ (.int .i64 0)).setCell ⟨F, 1, none⟩ (.int .i64 0)) _ _ := N1.out.put2 KF.out (hnoFa _ _)
  have nn3 : Nr ((w6.setCell ⟨F, 0, none⟩ (.int .i64 0)).setCell ⟨F, 1, none⟩ (.int .i64 0)) _ _ := N3.out.put2 KF.out (hnoFa _ _)
  have hbb : Below w.heap.size w ((w6.setCell ⟨F, 0, none⟩ (.int .i64 0)).setCell ⟨F, 1, none⟩ (.int .i64 0)) := (HB.out.setCell (p := ⟨F, 0, none⟩) HFS.out _).setCell (p := ⟨F, 1, none⟩) HFS.out _
  clear f0 f1 ff zf KF K1 K2 N1 N3 HB g1 g2
  have K1 := Lib.hid k1
  have K2 := Lib.hid k2
  have N1 := Lib.hid nn1
  have N3 := Lib.hid nn3
  have HB := Lib.hid hbb
  clear k1 k2 nn1 nn3 hbb
  generalize ((w6.setCell ⟨F, 0, none⟩ (.int .i64 0)).setCell ⟨F, 1, none⟩ (.int .i64 0)) = w7 at *
  refine (signedN neg N1.out).mono ?_
  rintro _ w8 ⟨x, rfl, hall, hb⟩
  obtain ⟨sd1, B, m, d, rfl, _, es, hs⟩ := (hall _ N1.out).get
  have hfs := field_side sd1 B m d w8
  have C4 := reducedQ (z := sn neg (pnum top)) (Fr.mk (N1.out.below hb) (N3.out.below hb)) (sn_abs _ _) HZ.out (pnum_lt HT.out) (pnum_lt HU.out)
  rw [← es.out] at C4
  have C5 := Lib.hid C4
  replace HB := Lib.hid (HB.out.trans (hb.mono HB.out.size))
  replace K1 := Lib.hid (K1.out.after hb)
  replace K2 := Lib.hid (K2.out.after hb)
  clear hall hb C4
  go_wp2_with fail
  refine C5.out.mono ?_
  rintro _ w9 ⟨x, rfl, hx, hb⟩
  obtain ⟨b3, B1, m1, e1, B2, m2, e2, rfl, _, _, _⟩ := hx.get
  replace HB := Lib.hid (HB.out.trans (hb.mono HB.out.size))
  replace K1 := Lib.hid (K1.out.after hb)
  replace K2 := Lib.hid (K2.out.after hb)
  have HX := Lib.hid hx
  have z1 := K1.out.lt
  have z2 := K2.out.lt
  have d0 := K1.out.cell (i := 0) rfl
  have d1 := K1.out.cell (i := 1) rfl
  have d2 := K1.out.cell (i := 2) rfl
  have e0 := K2.out.cell (i := 0) rfl
  have e1' := K2.out.cell (i := 1) rfl
  have ff := K1.out.free
  have ff2 := K2.out.free
  clear hx hb C5 hfs
  go_wp2_with fail
  have hne1 : w.heap.size ≠ w.heap.size + 1 := by omega
  have hne2 : w.heap.size + 1 ≠ w.heap.size := by omega
  have kf1 : Blk (((w9.setCell ⟨w.heap.size, 0, none⟩ (.bool b3)).setCell ⟨w.heap.size, 1, none⟩ (.slice B1 m1 e1)).setCell ⟨w.heap.size, 2, none⟩ (.slice B2 m2 e2)) (w.heap.size + 1) 32 #[.int .i64 0, .int .i64 0] := ((K2.out.other hne2).other hne2).other hne2
  have kr1 : Blk (((w9.setCell ⟨w.heap.size, 0, none⟩ (.bool b3)).setCell ⟨w.heap.size, 1, none⟩ (.slice B1 m1 e1)).setCell ⟨w.heap.size, 2, none⟩ (.slice B2 m2 e2)) w.heap.size 25 #[.bool b3, .slice B1 m1 e1, .slice B2 m2 e2] := K1.out.set.set.set
  have rq1 : Rq (((w9.setCell ⟨w.heap.size, 0, none⟩ (.bool b3)).setCell ⟨w.heap.size, 1, none⟩ (.slice B1 m1 e1)).setCell ⟨w.heap.size, 2, none⟩ (.slice B2 m2 e2)) (mkRat (sn neg (pnum top)) (pnum bot)) (.agg #[.bool b3, .slice B1 m1 e1, .slice B2 m2 e2]) := by
    obtain ⟨q1, q2, q3⟩ := HX.out.inv
    exact Rq.mk q3 rfl rfl (q1.put3 (i := 0) (j := 1) (l := 2) (u := .bool b3) (x := .slice B1 m1 e1) (y := .slice B2 m2 e2) K1.out (hnoR _ _ _ _ _ _ _)) (q2.put3 K1.out (hnoR _ _ _ _ _ _ _))
  have hb1 : Below w.heap.size w (((w9.setCell ⟨w.heap.size, 0, none⟩ (.bool b3)).setCell ⟨w.heap.size, 1, none⟩ (.slice B1 m1 e1)).setCell ⟨w.heap.size, 2, none⟩ (.slice B2 m2 e2)) := ((HB.out.setCell (p := ⟨w.heap.size, 0, none⟩) (Nat.le_refl _) _).setCell (p := ⟨w.heap.size, 1, none⟩) (Nat.le_refl _) _).setCell (p := ⟨w.heap.size, 2, none⟩) (Nat.le_refl _) _
  obtain ⟨q1, q2, q3⟩ := rq1.inv
  refine bodyPost_ret (results_row_row (p := 2) (u := 3) (ty := 25) (ty2 := 32) rfl _ _ w.heap.size (w.heap.size + 1) 25 32 _ _ _ _ _ _ rfl ((kr1.other hne1).other hne1) Tryz.underlying25 rfl (by kernel_rfl) rfl (kf1.set.set) Tryz.underlying32 rfl (by kernel_rfl)) rfl ?_
  exact ⟨_, rfl, Rq.mk q3 rfl rfl (q1.put2 kf1 (hnoFa _ _)) (q2.put2 kf1 (hnoFa _ _)), (hb1.setCell (p := ⟨w.heap.size + 1, 0, none⟩) (by simp) _).setCell (p := ⟨w.heap.size + 1, 1, none⟩) (by simp) _⟩
set_option maxRecDepth 100000 in
set_option maxHeartbeats 4000000 in
theorem ratParse_whole (s : ByteArray) (h1 : s.size ≤ 20000) (hm : Msp s (-1)) (hf : fby (unm s) 47 < 0) (ht : PE (unm s) 0 0) (w : World) (hP : Tab w) (hS : Tabs w) :
    Calls Tryz.prog 15 #[.string s] w fun e w' => ∃ x, e = .returned (.tuple #[x, .agg #[.int .i64 0, .int .i64 0]]) ∧ Rq w' (mkRat (sn (mns s) (pnum (unm s))) 1) x ∧ Below w.heap.size w w' := by
  have i1 : (s.size : Int) ≤ 20000 := by omega
  have hbb := below2 w (.cells #[.bool false, .slice none 0 0, .slice none 0 0] 25) (.cells #[.int .i64 0, .int .i64 0] 32)
  have k1 := (Blk.new w #[.bool false, .slice none 0 0, .slice none 0 0] 25).alloc (.cells #[.int .i64 0, .int .i64 0] 32)
  have k2 := Blk.new (w.alloc (.cells #[.bool false, .slice none 0 0, .slice none 0 0] 25)) #[.int .i64 0, .int .i64 0] 32
  simp only [World.size_alloc] at k2
  have K1 := Lib.hid k1
  have K2 := Lib.hid k2
  have HB := Lib.hid hbb
  have HP := Lib.hid hP
  have HS := Lib.hid hS
  have HM := Lib.hid hm
  have HT := Lib.hid ht
  have u1 := (unm_size s).1
  have u2 := (unm_size s).2
  have htop : topS (unm s) = unm s := by unfold topS; rw [if_pos hf]
  have CM := Lib.hid (misplaced_any s (by omega) ((w.alloc (.cells #[.bool false, .slice none 0 0, .slice none 0 0] 25)).alloc (.cells #[.int .i64 0, .int .i64 0] 32)))
  have CP := Lib.hid fun w => cutPrefix_minus s w
  have CT := fun w => cut_slash (unm s) (by omega) w
  simp only [decide_eq_false (Int.not_le.2 hf), htop] at CT
  have CC := Lib.hid CT
  clear htop
  generalize botS (unm s) = bot at *
  generalize unm s = top at *
  generalize mns s = neg at *
  clear CT hf hbb k1 k2 hP hS hm ht
  have hk0 : (0 : Int) ≤ (s.size : Int) - (top.size : Int) := by omega
  have hk1 : (s.size : Int) - (top.size : Int) ≤ 100000 := by omega
  go_enter Tryz.func15, Tryz.ntmps15
  go_wp2_with fail
  refine CM.out.mono ?_
  rintro _ w1 ⟨v, rfl, hv, hb⟩
  obtain rfl := hv.none HM.out
  replace K1 := Lib.hid (K1.out.after hb)
  replace K2 := Lib.hid (K2.out.after hb)
  replace HB := Lib.hid (HB.out.trans (hb.mono HB.out.size))
  clear hv hb CM HM
  go_wp2_with fail
  refine (CP.out _).mono ?_
  rintro _ _ ⟨rfl, rfl⟩
  go_wp2_with fail
  refine (CC.out _).mono ?_
  rintro _ w2 ⟨rfl, d, hd⟩
  have hb := (Qt.n1 w1 d).below
  rw [← hd] at hb
  replace K1 := Lib.hid (K1.out.after hb)
  replace K2 := Lib.hid (K2.out.after hb)
  replace HB := Lib.hid (HB.out.trans (hb.mono HB.out.size))
  clear hb hd CP CC
  have C1 := Lib.hid (parseAt_any top _ hk0 hk1 w2 (HP.out.after HB.out))
  go_wp2_with fail
  refine C1.out.mono ?_
  rintro _ w3 ⟨A1, n1, c1, x1, a1, rfl, hpe, hnr, _, hb⟩
  obtain ⟨rfl, rfl⟩ := hpe.zero HT.out
  replace K1 := Lib.hid (K1.out.after hb)
  replace K2 := Lib.hid (K2.out.after hb)
  replace HB := Lib.hid (HB.out.trans (hb.mono HB.out.size))
  have N1 := Lib.hid (hnr rfl)
  clear hpe hnr hb C1
  go_upto_region 8 with fail
  have hba := below1 w3 (.cells #[.int .i64 0, .int .i64 0] 32)
  have KF := Lib.hid (Blk.new w3 #[.int .i64 0, .int .i64 0] 32)
  have HFN : Hid (w.heap.size < w3.heap.size ∧ w.heap.size + 1 < w3.heap.size) := Lib.hid ⟨K1.out.lt, K2.out.lt⟩
  replace K1 := Lib.hid (K1.out.after hba)
  replace K2 := Lib.hid (K2.out.after hba)
  have HFS := Lib.hid HB.out.size
  replace HB := Lib.hid (HB.out.trans (hba.mono HB.out.size))
  replace N1 := Lib.hid (N1.out.below hba)
  clear hba
  generalize hF : w3.heap.size = F at *
  clear hF
  generalize w3.alloc (.cells #[.int .i64 0, .int .i64 0] 32) = w4 at *
  have f0 := KF.out.cell (i := 0) rfl
  have f1 := KF.out.cell (i := 1) rfl
  go_wp2_with fail
  refine (oneN w4).mono ?_
  rintro _ w5 ⟨x2, rfl, ho, hb⟩
  obtain ⟨A2, n2, c2, rfl⟩ := ho.shape
  replace K1 := Lib.hid (K1.out.after hb)
  replace K2 := Lib.hid (K2.out.after hb)
  replace HB := Lib.hid (HB.out.trans (hb.mono HB.out.size))
  replace N1 := Lib.hid (N1.out.below hb)
  have N3 := Lib.hid ho
  clear hb ho f0 f1 KF
  go_wp2_with fail
  refine (signedN neg N1.out).mono ?_
  rintro _ w8 ⟨x, rfl, hall, hb⟩
  obtain ⟨sd1, B, m, d, rfl, _, es, hs⟩ := (hall _ N1.out).get
  have hfs := field_side sd1 B m d w8
  have C4 := reducedQ (z := sn neg (pnum top)) (Fr.mk (N1.out.below hb) (N3.out.below hb)) (sn_abs _ _) (by decide) (pnum_lt HT.out) one_lt.out
  rw [← es.out] at C4
  have C5 := Lib.hid C4
  replace HB := Lib.hid (HB.out.trans (hb.mono HB.out.size))
  replace K1 := Lib.hid (K1.out.after hb)
  replace K2 := Lib.hid (K2.out.after hb)
  clear hall hb C4
  go_wp2_with fail
  refine C5.out.mono ?_
  rintro _ w9 ⟨x, rfl, hx, hb⟩
  obtain ⟨b3, B1, m1, e1, B2, m2, e2, rfl, _, _, _⟩ := hx.get
  replace HB := Lib.hid (HB.out.trans (hb.mono HB.out.size))
  replace K1 := Lib.hid (K1.out.after hb)
  replace K2 := Lib.hid (K2.out.after hb)
  have HX := Lib.hid hx
  have z1 := K1.out.lt
  have z2 := K2.out.lt
  have d0 := K1.out.cell (i := 0) rfl
  have d1 := K1.out.cell (i := 1) rfl
  have d2 := K1.out.cell (i := 2) rfl
  have e0 := K2.out.cell (i := 0) rfl
  have e1' := K2.out.cell (i := 1) rfl
  have ff := K1.out.free
  have ff2 := K2.out.free
  clear hx hb C5 hfs
  go_wp2_with fail
  have hne1 : w.heap.size ≠ w.heap.size + 1 := by omega
  have hne2 : w.heap.size + 1 ≠ w.heap.size := by omega
  have kf1 : Blk (((w9.setCell ⟨w.heap.size, 0, none⟩ (.bool b3)).setCell ⟨w.heap.size, 1, none⟩ (.slice B1 m1 e1)).setCell ⟨w.heap.size, 2, none⟩ (.slice B2 m2 e2)) (w.heap.size + 1) 32 #[.int .i64 0, .int .i64 0] := ((K2.out.other hne2).other hne2).other hne2
  have kr1 : Blk (((w9.setCell ⟨w.heap.size, 0, none⟩ (.bool b3)).setCell ⟨w.heap.size, 1, none⟩ (.slice B1 m1 e1)).setCell ⟨w.heap.size, 2, none⟩ (.slice B2 m2 e2)) w.heap.size 25 #[.bool b3, .slice B1 m1 e1, .slice B2 m2 e2] := K1.out.set.set.set
  have rq1 : Rq (((w9.setCell ⟨w.heap.size, 0, none⟩ (.bool b3)).setCell ⟨w.heap.size, 1, none⟩ (.slice B1 m1 e1)).setCell ⟨w.heap.size, 2, none⟩ (.slice B2 m2 e2)) (mkRat (sn neg (pnum top)) 1) (.agg #[.bool b3, .slice B1 m1 e1, .slice B2 m2 e2]) := by
    obtain ⟨q1, q2, q3⟩ := HX.out.inv
    exact Rq.mk q3 rfl rfl (q1.put3 (i := 0) (j := 1) (l := 2) (u := .bool b3) (x := .slice B1 m1 e1) (y := .slice B2 m2 e2) K1.out (hnoR _ _ _ _ _ _ _)) (q2.put3 K1.out (hnoR _ _ _ _ _ _ _))
  have hb1 : Below w.heap.size w (((w9.setCell ⟨w.heap.size, 0, none⟩ (.bool b3)).setCell ⟨w.heap.size, 1, none⟩ (.slice B1 m1 e1)).setCell ⟨w.heap.size, 2, none⟩ (.slice B2 m2 e2)) := ((HB.out.setCell (p := ⟨w.heap.size, 0, none⟩) (Nat.le_refl _) _).setCell (p := ⟨w.heap.size, 1, none⟩) (Nat.le_refl _) _).setCell (p := ⟨w.heap.size, 2, none⟩) (Nat.le_refl _) _
  obtain ⟨q1, q2, q3⟩ := rq1.inv
  refine bodyPost_ret (results_row_row (p := 2) (u := 3) (ty := 25) (ty2 := 32) rfl _ _ w.heap.size (w.heap.size + 1) 25 32 _ _ _ _ _ _ rfl ((kr1.other hne1).other hne1) Tryz.underlying25 rfl (by kernel_rfl) rfl (kf1.set.set) Tryz.underlying32 rfl (by kernel_rfl)) rfl ?_
  exact ⟨_, rfl, Rq.mk q3 rfl rfl (q1.put2 kf1 (hnoFa _ _)) (q2.put2 kf1 (hnoFa _ _)), (hb1.setCell (p := ⟨w.heap.size + 1, 0, none⟩) (by simp) _).setCell (p := ⟨w.heap.size + 1, 1, none⟩) (by simp) _⟩
end Go.Proofs.YtbjaolmlnkliiaaGreatDoor

/- The contract of Text. Conditions as premises: the number reads, and is short enough, and the table of powers holds what its initialiser lays. -/
namespace Go.Proofs.YtbjaolmlnkliiaaGreatDoor
open Go.RowKit Go.Shelf
attribute [local go_sem ↓] Go.wp_at_zero Go.wp_at_succ

/-- the text of a number -/
structure TxQ (q : Rat) (t : ByteArray) : Prop where
  p : ∃ L1 L2, IsLen q.num.natAbs L1 ∧ IsLen q.den L2 ∧
    t = (if q.num < 0 then (⟨#[45]⟩ : ByteArray) ++ txt q.num.natAbs L1 else txt q.num.natAbs L1) ++ (if q.den = 1 then (⟨#[]⟩ : ByteArray) else (⟨#[47]⟩ : ByteArray) ++ txt q.den L2)
theorem txt_size' (N L : Nat) : (txt N L).size = L := by unfold txt strOfNums; simp [ByteArray.size]
theorem isLen_le {N L : Nat} (h : IsLen N L) (hN : N < LB ^ NL) : L ≤ 9216 := by
  rcases Nat.lt_or_ge 9216 L with k | k
  · have h1 := h.ge (by omega)
    rw [LB_pow] at hN
    have h2 : 10 ^ (9 * NL) ≤ 10 ^ (L - 1) := Nat.pow_le_pow_right (by decide) (by rw [NL_eq]; omega)
    omega
  · exact k
theorem natTextN {w : World} {N : Nat} {v : Value} (h : Nr w N v) (hN : N < LB ^ NL) (ht : Tab w) :
    Calls Tryz.prog 75 #[v] w fun e w' => ∃ L, e = .returned (.tuple #[.string (txt N L), .int .i64 0]) ∧ IsLen N L ∧ (txt N L).size ≤ 9216 ∧ Below w.heap.size w w' := by
  obtain ⟨A, n, c, f, rfl, hr, hd⟩ := h
  refine (natText_any A n c f w hr ht).mono ?_
  rintro e w' ⟨⟨v, rfl, hv⟩, hb⟩
  rcases hv with ⟨_, L, hL, rfl⟩ | ⟨hne, _⟩
  · rw [hd.eq] at hL ⊢
    exact ⟨L, rfl, hL, by rw [txt_size']; exact isLen_le hL hN, hb⟩
  · exact absurd (Nr.chk hd hN) hne
set_option maxRecDepth 100000 in
set_option maxHeartbeats 4000000 in
theorem ratTextQ {w : World} {q : Rat} {v : Value} (ha : Rq w q v) (sa : Sz 1024 q) (hP : Tab w) :
    Calls Tryz.prog 13 #[v] w fun e w' => ∃ t, e = .returned (.tuple #[.string t, .int .i64 0]) ∧ TxQ q t ∧ Below w.heap.size w w' := by
  obtain ⟨b1, A1, n1, c1, f1, A2, n2, c2, f2, rfl, hr, h0⟩ := ha.raw (lt_NL sa.1 (by omega)) (lt_NL sa.2 (by omega))
  have hbb := below1 w (.cells #[.bool b1, .slice A1 n1 c1, .slice A2 n2 c2] 25)
  have hcc := ratCheck_any (hr.below hbb)
  rw [h0] at hcc
  have C1 := Lib.hid hcc
  have HB := Lib.hid hbb
  have KP1 := Lib.hid (Blk.new w #[.bool b1, .slice A1 n1 c1, .slice A2 n2 c2] 25)
  have Ra := Lib.hid (ha.below hbb)
  have HP := Lib.hid hP
  have SA := Lib.hid sa
  obtain ⟨_, _, e1⟩ := ha.inv
  have E1 := Lib.hid e1
  clear ha hr h0 hcc hbb sa hP e1
  have d10 := KP1.out.cell (i := 0) rfl
  have d11 := KP1.out.cell (i := 1) rfl
  have d12 := KP1.out.cell (i := 2) rfl
  go_enter Tryz.func13, Tryz.ntmps13
  go_wp2_with fail
  refine C1.out.mono ?_
  rintro _ w4 ⟨rfl, hb⟩
  clear d10 d11 d12 C1
  replace Ra := Lib.hid (Ra.out.below hb)
  replace KP1 := Lib.hid (KP1.out.after hb)
  replace HB := Lib.hid (HB.out.trans (hb.mono HB.out.size))
  clear hb
  have d10 := KP1.out.cell (i := 0) rfl
  have d11 := KP1.out.cell (i := 1) rfl
  have d12 := KP1.out.cell (i := 2) rfl
  have C2 := Lib.hid (natTextN Ra.out.inv.1 (lt_NL SA.out.1 (by omega)) (HP.out.after HB.out))
  go_wp2_with fail
  refine C2.out.mono ?_
  rintro _ w5 ⟨L1, rfl, hL1, hsz, hb⟩
  generalize hT1 : txt q.num.natAbs L1 = t1 at *
  have HT1 := Lib.hid hT1
  clear hT1
  have hsz2 : (t1.size : Int) ≤ 9216 := by omega
  have HL1 := Lib.hid hL1
  clear d10 d11 d12 C2 hL1
  replace Ra := Lib.hid (Ra.out.below hb)
  replace KP1 := Lib.hid (KP1.out.after hb)
  replace HB := Lib.hid (HB.out.trans (hb.mono HB.out.size))
  clear hb
  have d10 := KP1.out.cell (i := 0) rfl
  have d11 := KP1.out.cell (i := 1) rfl
  have d12 := KP1.out.cell (i := 2) rfl
  obtain ⟨cc, hcc⟩ : ∃ x, cn q.den 1 = x := ⟨_, rfl⟩
  have HCC := Lib.hid hcc
  have CMP : Hid (∀ W u, Nr W 1 u → Below w5.heap.size w5 W → Calls Tryz.prog 76 #[.slice A2 n2 c2, u] W fun e w' => e = .returned (.int .i64 cc) ∧ Below W.heap.size W w') := Lib.hid fun W u hu h1 => by
    have := compareN (Ra.out.inv.2.1.below h1) hu (lt_NL SA.out.2 (by omega)) one_lt.out
    rw [hcc] at this
    exact this
  clear hcc
  rcases b1 with _ | _
  · have hneg : ¬ q.num < 0 := of_decide_eq_false E1.out.symm
    have HNEG := Lib.hid hneg
    clear hneg
    go_upto_region 7 with fail
    obtain ⟨t, hT⟩ : ∃ t, t1 = t := ⟨_, rfl⟩
    have hts : t.size ≤ 9217 := by rw [← hT]; omega
    have hts2 : (t.size : Int) ≤ 9217 := by omega
    rw [hT]
    have HT := Lib.hid hT
    clear hT hsz hsz2
    clear d10 d11 d12
    have KEEP : Hid (∀ W, Below w5.heap.size w5 W → (W.cell? ⟨w.heap.size, 0, none⟩ = some (.bool false) ∧ W.cell? ⟨w.heap.size, 1, none⟩ = some (.slice A1 n1 c1) ∧ W.cell? ⟨w.heap.size, 2, none⟩ = some (.slice A2 n2 c2))) := Lib.hid fun W h1 => ⟨(KP1.out.after h1).cell rfl, (KP1.out.after h1).cell rfl, (KP1.out.after h1).cell rfl⟩
    have hdrew : Below w5.heap.size w5 w5.drew := (Below.refl _ _).drew
    go_region_held3 (fun W => W.cell? ⟨w.heap.size, 0, none⟩ = some (.bool false) ∧ W.cell? ⟨w.heap.size, 1, none⟩ = some (.slice A1 n1 c1) ∧ W.cell? ⟨w.heap.size, 2, none⟩ = some (.slice A2 n2 c2))
      (first | with_reducible exact KEEP.out wq2 hk2 | with_reducible exact KEEP.out wq1 hk1 | with_reducible exact KEEP.out w5.drew hdrew | go_keep)
      (first
        | (go_at_call 77; (with_reducible refine (oneN w5.drew).mono ?_); rintro _ wq1 ⟨o1, rfl, ho1, hb1⟩; have hk1 := hdrew.trans (hb1.mono hdrew.size); have HO := Lib.hid ho1; clear ho1)
        | (go_at_call 76; (with_reducible refine (CMP.out wq1 _ HO.out hk1).mono ?_); rintro _ wq2 ⟨rfl, hb2⟩; have hk2 := hk1.trans (hb2.mono hk1.size)))
    have hb := hk2
    replace Ra := Lib.hid (Ra.out.below hb)
    replace KP1 := Lib.hid (KP1.out.after hb)
    replace HB := Lib.hid (HB.out.trans (hb.mono HB.out.size))
    clear hb KEEP hdrew HO
    have d10 := KP1.out.cell (i := 0) rfl
    have d11 := KP1.out.cell (i := 1) rfl
    have d12 := KP1.out.cell (i := 2) rfl
    by_cases hden : q.den = 1
    · have hc0 : cc = 0 := by rw [← HCC.out, hden]; exact cn_eq rfl
      subst hc0
      have HD := Lib.hid hden
      clear hden
      go_wp2_with fail
      go_ret2
      refine ⟨t, rfl, ⟨_, 1, HL1.out, by rw [HD.out]; exact ⟨by omega, by decide, fun h => by omega⟩, ?_⟩, HB.out⟩
      rw [if_neg (Int.not_lt.2 HNEG.out), if_pos HD.out, HT1.out, ← HT.out]
      first | exact (ByteArray.append_empty ..).symm | simp
    · have hc0 : cc ≠ 0 := by
        rw [← HCC.out]
        intro e
        rcases Nat.lt_trichotomy q.den 1 with k | k | k
        · rw [cn_lt k] at e; cases e
        · exact hden k
        · rw [cn_gt k] at e; cases e
      have hc1 : (cc != 0) = true := by rw [bne_iff_ne]; exact hc0
      have HD := Lib.hid hden
      have C3 := Lib.hid (natTextN Ra.out.inv.2.1 (lt_NL SA.out.2 (by omega)) (HP.out.after HB.out))
      clear hden hc0
      go_wp2_with fail
      refine C3.out.mono ?_
      rintro _ w8 ⟨L2, rfl, hL2, hsz2, hb⟩
      generalize hT2 : txt q.den L2 = t2 at *
      have HT2 := Lib.hid hT2
      have HL2 := Lib.hid hL2
      have hsz3 : (t2.size : Int) ≤ 9216 := by omega
      replace HB := Lib.hid (HB.out.trans (hb.mono HB.out.size))
      clear hb C3 hT2 hL2 d10 d11 d12
      go_wp2_with fail
      go_ret2
      refine ⟨t ++ ((⟨#[47]⟩ : ByteArray) ++ t2), rfl, ⟨_, L2, HL1.out, HL2.out, ?_⟩, HB.out⟩
      rw [if_neg (Int.not_lt.2 HNEG.out), if_neg HD.out, HT1.out, HT2.out, ← HT.out]
  · have hneg : q.num < 0 := of_decide_eq_true E1.out.symm
    have HNEG := Lib.hid hneg
    clear hneg
    go_upto_region 7 with fail
    obtain ⟨t, hT⟩ : ∃ t, ((⟨#[45]⟩ : ByteArray) ++ t1) = t := ⟨_, rfl⟩
    have hts : t.size ≤ 9217 := by rw [← hT]; rw [ByteArray.size_append]; show 1 + t1.size ≤ 9217; omega
    have hts2 : (t.size : Int) ≤ 9217 := by omega
    rw [hT]
    have HT := Lib.hid hT
    clear hT hsz hsz2
    clear d10 d11 d12
    have KEEP : Hid (∀ W, Below w5.heap.size w5 W → (W.cell? ⟨w.heap.size, 0, none⟩ = some (.bool true) ∧ W.cell? ⟨w.heap.size, 1, none⟩ = some (.slice A1 n1 c1) ∧ W.cell? ⟨w.heap.size, 2, none⟩ = some (.slice A2 n2 c2))) := Lib.hid fun W h1 => ⟨(KP1.out.after h1).cell rfl, (KP1.out.after h1).cell rfl, (KP1.out.after h1).cell rfl⟩
    have hdrew : Below w5.heap.size w5 w5.drew := (Below.refl _ _).drew
    go_region_held3 (fun W => W.cell? ⟨w.heap.size, 0, none⟩ = some (.bool true) ∧ W.cell? ⟨w.heap.size, 1, none⟩ = some (.slice A1 n1 c1) ∧ W.cell? ⟨w.heap.size, 2, none⟩ = some (.slice A2 n2 c2))
      (first | with_reducible exact KEEP.out wq2 hk2 | with_reducible exact KEEP.out wq1 hk1 | with_reducible exact KEEP.out w5.drew hdrew | go_keep)
      (first
        | (go_at_call 77; (with_reducible refine (oneN w5.drew).mono ?_); rintro _ wq1 ⟨o1, rfl, ho1, hb1⟩; have hk1 := hdrew.trans (hb1.mono hdrew.size); have HO := Lib.hid ho1; clear ho1)
        | (go_at_call 76; (with_reducible refine (CMP.out wq1 _ HO.out hk1).mono ?_); rintro _ wq2 ⟨rfl, hb2⟩; have hk2 := hk1.trans (hb2.mono hk1.size)))
    have hb := hk2
    replace Ra := Lib.hid (Ra.out.below hb)
    replace KP1 := Lib.hid (KP1.out.after hb)
    replace HB := Lib.hid (HB.out.trans (hb.mono HB.out.size))
    clear hb KEEP hdrew HO
    have d10 := KP1.out.cell (i := 0) rfl
    have d11 := KP1.out.cell (i := 1) rfl
    have d12 := KP1.out.cell (i := 2) rfl
    by_cases hden : q.den = 1
    · have hc0 : cc = 0 := by rw [← HCC.out, hden]; exact cn_eq rfl
      subst hc0
      have HD := Lib.hid hden
      clear hden
      go_wp2_with fail
      go_ret2
      refine ⟨t, rfl, ⟨_, 1, HL1.out, by rw [HD.out]; exact ⟨by omega, by decide, fun h => by omega⟩, ?_⟩, HB.out⟩
      rw [if_pos HNEG.out, if_pos HD.out, HT1.out, ← HT.out]
      first | exact (ByteArray.append_empty ..).symm | simp
    · have hc0 : cc ≠ 0 := by
        rw [← HCC.out]
        intro e
        rcases Nat.lt_trichotomy q.den 1 with k | k | k
        · rw [cn_lt k] at e; cases e
        · exact hden k
        · rw [cn_gt k] at e; cases e
      have hc1 : (cc != 0) = true := by rw [bne_iff_ne]; exact hc0
      have HD := Lib.hid hden
      have C3 := Lib.hid (natTextN Ra.out.inv.2.1 (lt_NL SA.out.2 (by omega)) (HP.out.after HB.out))
      clear hden hc0
      go_wp2_with fail
      refine C3.out.mono ?_
      rintro _ w8 ⟨L2, rfl, hL2, hsz2, hb⟩
      generalize hT2 : txt q.den L2 = t2 at *
      have HT2 := Lib.hid hT2
      have HL2 := Lib.hid hL2
      have hsz3 : (t2.size : Int) ≤ 9216 := by omega
      replace HB := Lib.hid (HB.out.trans (hb.mono HB.out.size))
      clear hb C3 hT2 hL2 d10 d11 d12
      go_wp2_with fail
      go_ret2
      refine ⟨t ++ ((⟨#[47]⟩ : ByteArray) ++ t2), rfl, ⟨_, L2, HL1.out, HL2.out, ?_⟩, HB.out⟩
      rw [if_pos HNEG.out, if_neg HD.out, HT1.out, HT2.out, ← HT.out]
end Go.Proofs.YtbjaolmlnkliiaaGreatDoor

/- Plain facts on the texts of numbers: what Parse asks of a text holds of a sign, digits, and a slash with digits behind it. Conditions as premises. -/
namespace Go.Proofs.YtbjaolmlnkliiaaGreatDoor
open Go.RowKit

theorem ba_ext {a b : ByteArray} (h : a.data.toList = b.data.toList) : a = b := by
  obtain ⟨x⟩ := a
  obtain ⟨y⟩ := b
  congr 1
  exact Array.toList_inj.1 h
theorem lb_app (a b : ByteArray) : (a ++ b).data.toList = a.data.toList ++ b.data.toList := by
  rw [ByteArray.data_append, Array.toList_append]
theorem lb_ext (s : ByteArray) (i j : Nat) : (s.extract i j).data.toList = (s.data.toList.drop i).take (j - i) := by
  rw [ByteArray.data_extract, Array.toList_extract]
theorem lb_size (s : ByteArray) : s.data.toList.length = s.size := by rw [← Lib.size_eq]
theorem bt_l (s : ByteArray) (j : Nat) (h : j < s.size) : bt s j = (s.data.toList[j]?.getD 0).toNat := by
  rw [← bt_eq s j h, ByteArray.getElem_eq_getElem_data, Array.getElem?_toList, Array.getElem?_eq_getElem h]
  rfl
theorem bt_sb (s : ByteArray) (j : Nat) (h : j < s.size) : bt s j = sb s j := by
  rw [← bt_eq s j h, sb_eq]
theorem bt_app_l {a b : ByteArray} {j : Nat} (h : j < a.size) : bt (a ++ b) j = bt a j := by
  rw [bt_l _ _ (by rw [ByteArray.size_append]; omega), bt_l _ _ h, lb_app]
  rw [List.getElem?_append_left (by rw [lb_size]; exact h)]
theorem bt_app_r {a b : ByteArray} {j : Nat} (h : j < b.size) : bt (a ++ b) (a.size + j) = bt b j := by
  rw [bt_l _ _ (by rw [ByteArray.size_append]; omega), bt_l _ _ h, lb_app]
  rw [List.getElem?_append_right (by rw [lb_size]; omega), lb_size, Nat.add_sub_cancel_left]
theorem al_ok : ∀ b : Nat, b < 58 → 45 ≤ b → b ≠ 46 → al b = true := by decide +kernel
theorem bt_txt {N L j : Nat} (h : j < L) : 48 ≤ bt (txt N L) j ∧ bt (txt N L) j ≤ 57 := by
  rw [bt_sb _ _ (by rw [txt_size']; exact h)]
  exact good_txt N L j h
/-- the sign of a text -/
def sgt (neg : Bool) : ByteArray := if neg = true then ⟨#[45]⟩ else ⟨#[]⟩
/-- the text of a fraction, that of a whole number -/
def frT (neg : Bool) (N L D K : Nat) : ByteArray := sgt neg ++ (txt N L ++ ((⟨#[47]⟩ : ByteArray) ++ txt D K))
def whT (neg : Bool) (N L : Nat) : ByteArray := sgt neg ++ txt N L
theorem sgt_size (neg : Bool) : (sgt neg).size = if neg = true then 1 else 0 := by cases neg <;> rfl
theorem sl_size (d : ByteArray) : ((⟨#[47]⟩ : ByteArray) ++ d).size = 1 + d.size := by rw [ByteArray.size_append]; rfl
theorem frT_size (neg : Bool) (N L D K : Nat) : (frT neg N L D K).size = (sgt neg).size + (L + (1 + K)) := by
  unfold frT
  rw [ByteArray.size_append, ByteArray.size_append, sl_size, txt_size', txt_size']
theorem whT_size (neg : Bool) (N L : Nat) : (whT neg N L).size = (sgt neg).size + L := by
  unfold whT
  rw [ByteArray.size_append, txt_size']
theorem bt_sgt {neg : Bool} {j : Nat} (h : j < (sgt neg).size) : bt (sgt neg) j = 45 ∧ j = 0 := by
  rw [sgt_size] at h
  cases neg
  · simp at h
  · simp at h
    subst h
    exact ⟨by decide +kernel, rfl⟩
/-- what stands where in a fraction -/
theorem frT_at {neg : Bool} {N L D K j : Nat} (h : j < (frT neg N L D K).size) :
    (j = 0 ∧ j < (sgt neg).size ∧ bt (frT neg N L D K) j = 45) ∨ (j = (sgt neg).size + L ∧ bt (frT neg N L D K) j = 47) ∨ (j ≠ (sgt neg).size + L ∧ 48 ≤ bt (frT neg N L D K) j ∧ bt (frT neg N L D K) j ≤ 57) := by
  rw [frT_size] at h
  unfold frT
  by_cases h1 : j < (sgt neg).size
  · rw [bt_app_l h1]
    exact .inl ⟨(bt_sgt h1).2, h1, (bt_sgt h1).1⟩
  · obtain ⟨i, rfl⟩ : ∃ i, j = (sgt neg).size + i := ⟨j - (sgt neg).size, by omega⟩
    rw [bt_app_r (by rw [ByteArray.size_append, sl_size, txt_size', txt_size']; omega)]
    by_cases h2 : i < L
    · rw [bt_app_l (by rw [txt_size']; exact h2)]
      exact .inr (.inr ⟨by omega, bt_txt h2⟩)
    · obtain ⟨k, rfl⟩ : ∃ k, i = (txt N L).size + k := ⟨i - L, by rw [txt_size']; omega⟩
      rw [txt_size'] at h ⊢
      rw [show (txt N L ++ ((⟨#[47]⟩ : ByteArray) ++ txt D K)) = (txt N L ++ ((⟨#[47]⟩ : ByteArray) ++ txt D K)) from rfl]
      have e : bt (txt N L ++ ((⟨#[47]⟩ : ByteArray) ++ txt D K)) (L + k) = bt ((⟨#[47]⟩ : ByteArray) ++ txt D K) k := by
        have := bt_app_r (a := txt N L) (b := (⟨#[47]⟩ : ByteArray) ++ txt D K) (j := k) (by rw [sl_size, txt_size']; omega)
        rwa [txt_size'] at this
      rw [e]
      by_cases h3 : k = 0
      · subst h3
        rw [bt_app_l (by show 0 < 1; decide)]
        exact .inr (.inl ⟨by omega, by decide +kernel⟩)
      · obtain ⟨m, rfl⟩ : ∃ m, k = 1 + m := ⟨k - 1, by omega⟩
        have e2 := bt_app_r (a := (⟨#[47]⟩ : ByteArray)) (b := txt D K) (j := m) (by rw [txt_size']; omega)
        rw [show (⟨#[47]⟩ : ByteArray).size = 1 from rfl] at e2
        rw [e2]
        exact .inr (.inr ⟨by omega, bt_txt (by omega)⟩)
theorem frT_msp (neg : Bool) (N L D K : Nat) : Msp (frT neg N L D K) (-1) := by
  refine .inr ⟨fun j hj => ?_, .inl ⟨rfl, fun j hj => ?_⟩⟩
  · rcases frT_at hj with ⟨_, _, e⟩ | ⟨_, e⟩ | ⟨_, e1, e2⟩
    · rw [e]; decide +kernel
    · rw [e]; decide +kernel
    · exact al_ok _ (by omega) (by omega) (by omega)
  · rintro (⟨e, h0⟩ | ⟨e, i, hi, e'⟩)
    · rcases frT_at hj with ⟨h1, _, _⟩ | ⟨_, e1⟩ | ⟨_, e1, e2⟩
      · omega
      · omega
      · omega
    · have hi' : i < (frT neg N L D K).size := by omega
      rcases frT_at hj with ⟨_, _, e1⟩ | ⟨h1, _⟩ | ⟨_, e1, e2⟩
      · omega
      · rcases frT_at hi' with ⟨_, _, e3⟩ | ⟨h3, _⟩ | ⟨_, e3, e4⟩
        · omega
        · omega
        · omega
      · omega
theorem whT_at {neg : Bool} {N L j : Nat} (h : j < (whT neg N L).size) :
    (j = 0 ∧ bt (whT neg N L) j = 45) ∨ (48 ≤ bt (whT neg N L) j ∧ bt (whT neg N L) j ≤ 57) := by
  rw [whT_size] at h
  unfold whT
  by_cases h1 : j < (sgt neg).size
  · rw [bt_app_l h1]
    exact .inl ⟨(bt_sgt h1).2, (bt_sgt h1).1⟩
  · obtain ⟨i, rfl⟩ : ∃ i, j = (sgt neg).size + i := ⟨j - (sgt neg).size, by omega⟩
    rw [bt_app_r (by rw [txt_size']; omega)]
    exact .inr (bt_txt (by omega))
theorem whT_msp (neg : Bool) (N L : Nat) : Msp (whT neg N L) (-1) := by
  refine .inr ⟨fun j hj => ?_, .inl ⟨rfl, fun j hj => ?_⟩⟩
  · rcases whT_at hj with ⟨_, e⟩ | ⟨e1, e2⟩
    · rw [e]; decide +kernel
    · exact al_ok _ (by omega) (by omega) (by omega)
  · rintro (⟨e, h0⟩ | ⟨e, i, hi, e'⟩)
    · rcases whT_at hj with ⟨h1, _⟩ | ⟨e1, e2⟩
      · omega
      · omega
    · rcases whT_at hj with ⟨_, e1⟩ | ⟨e1, e2⟩
      · omega
      · omega
theorem empty_app (x : ByteArray) : (⟨#[]⟩ : ByteArray) ++ x = x := ba_ext (by rw [lb_app]; rfl)
theorem mns_l (s : ByteArray) : mns s = (s.data.toList.take 1 == [45]) := by
  unfold mns
  rw [Lib.toList_data, lb_ext]
  rfl
theorem sgt_app (neg : Bool) (x : ByteArray) (h0 : 0 < x.size) (hx : bt x 0 ≠ 45) : mns (sgt neg ++ x) = neg ∧ unm (sgt neg ++ x) = x := by
  cases neg
  · have e : sgt false ++ x = x := empty_app x
    have hm : mns x = false := by
      rw [mns_l, beq_eq_false_iff_ne]
      intro c
      have h1 : x.data.toList[0]? = some 45 := by
        have : (x.data.toList.take 1)[0]? = some 45 := by rw [c]; rfl
        rwa [List.getElem?_take_of_lt (by omega)] at this
      rw [bt_l x 0 h0, h1] at hx
      exact hx rfl
    rw [e]
    refine ⟨hm, ?_⟩
    unfold unm
    rw [hm]
    rfl
  · have hl : (sgt true ++ x).data.toList = 45 :: x.data.toList := by rw [lb_app]; rfl
    have hm : mns (sgt true ++ x) = true := by rw [mns_l, hl]; rfl
    refine ⟨hm, ?_⟩
    unfold unm
    rw [if_pos hm]
    apply ba_ext
    rw [lb_ext, hl, ByteArray.size_append]
    show (List.drop 1 (45 :: x.data.toList)).take (1 + x.size - 1) = _
    rw [List.drop_one, List.tail_cons, List.take_of_length_le (by rw [lb_size]; omega)]
theorem ib_app (c : UInt8) (r : List UInt8) : ∀ (l : List UInt8), (∀ b ∈ l, b ≠ c) → Lib.indexByte (l ++ c :: r) c = (l.length : Int) := by
  intro l
  induction l with
  | nil => intro _; unfold Lib.indexByte; simp
  | cons b l ih =>
    intro h
    have h1 := ih (fun x hx => h x (by simp [hx]))
    have h2 : (b == c) = false := by rw [beq_eq_false_iff_ne]; exact h b (by simp)
    rw [List.cons_append]
    unfold Lib.indexByte
    rw [h1, h2]
    have h3 : ((l.length : Int) == -1) = false := by rw [beq_eq_false_iff_ne]; omega
    rw [h3]
    simp
theorem txt_ne {N L : Nat} : ∀ b ∈ (txt N L).data.toList, b ≠ (47 : UInt8) := by
  intro b hb e
  obtain ⟨i, hi⟩ := List.mem_iff_getElem?.1 hb
  have hlt : i < (txt N L).size := by
    rcases Nat.lt_or_ge i (txt N L).size with h | h
    · exact h
    · rw [List.getElem?_eq_none (by rw [lb_size]; exact h)] at hi; cases hi
  have h1 := bt_l (txt N L) i hlt
  rw [hi, e] at h1
  have h2 := bt_txt (N := N) (L := L) (j := i) (by rwa [txt_size'] at hlt)
  rw [h1] at h2
  exact absurd h2.1 (by decide)
theorem fby_fr (N L : Nat) (d : ByteArray) : fby (txt N L ++ ((⟨#[47]⟩ : ByteArray) ++ d)) 47 = (L : Int) := by
  unfold fby
  rw [lb_app, lb_app]
  have := ib_app 47 d.data.toList (txt N L).data.toList txt_ne
  rw [lb_size, txt_size'] at this
  exact this
theorem fby_wh (N L : Nat) : fby (txt N L) 47 = -1 := by
  unfold fby
  exact ib_none _ _ txt_ne
theorem top_fr (N L : Nat) (d : ByteArray) : topS (txt N L ++ ((⟨#[47]⟩ : ByteArray) ++ d)) = txt N L := by
  unfold topS
  rw [fby_fr, if_neg (by omega)]
  apply ba_ext
  rw [lb_ext, lb_app, List.drop_zero, show ((L : Int).toNat - 0) = (txt N L).data.toList.length by rw [lb_size, txt_size']; omega, List.take_left' rfl]
theorem bot_fr (N L : Nat) (d : ByteArray) : botS (txt N L ++ ((⟨#[47]⟩ : ByteArray) ++ d)) = d := by
  unfold botS
  rw [fby_fr, if_neg (by omega)]
  apply ba_ext
  rw [lb_ext, lb_app, lb_app]
  have h1 : (txt N L).data.toList ++ ((⟨#[47]⟩ : ByteArray).data.toList ++ d.data.toList) = ((txt N L).data.toList ++ [47]) ++ d.data.toList := by rw [List.append_assoc]
  rw [h1, List.drop_left' (by rw [List.length_append, lb_size, txt_size']; rfl), List.take_of_length_le]
  rw [lb_size, ByteArray.size_append, ByteArray.size_append, txt_size']
  show d.size ≤ L + (1 + d.size) - _
  omega
theorem pe_txt {N L : Nat} (h : IsLen N L) (hL : L ≤ 9216) : PE (txt N L) 0 0 := by
  refine .inr (.inr (.inr ⟨by rw [txt_size']; exact hL, fun i hi => good_txt N L i (by rwa [txt_size'] at hi), ?_, rfl, rfl⟩))
  rw [txt_size']
  rintro (e | ⟨e, k⟩)
  · have := h.pos; omega
  · rw [sb_txt N L 0 (by omega)] at k
    unfold tb at k
    have h1 := h.ge e
    have h2 := h.lt
    have h3 : 1 ≤ N / 10 ^ (L - 1) := (Nat.le_div_iff_mul_le (ten_pos _)).2 (by omega)
    have h4 : N / 10 ^ (L - 1) < 10 := by
      rw [Nat.div_lt_iff_lt_mul (ten_pos _), Nat.mul_comm, ← Nat.pow_succ, show (L - 1).succ = L by omega]; exact h2
    rw [show L - 1 - 0 = L - 1 by omega, Nat.mod_eq_of_lt h4] at k
    omega

/-- Parse at the text of a fraction -/
theorem parse_fr {w : World} (neg : Bool) {N L D K : Nat} (h : IsLen N L) (k : IsLen D K) (hL : L ≤ 9216) (hK : K ≤ 9216) (hD : D ≠ 0) (hP : Tab w) (hS : Tabs w) :
    Calls Tryz.prog 15 #[.string (frT neg N L D K)] w fun e w' => ∃ x, e = .returned (.tuple #[x, .agg #[.int .i64 0, .int .i64 0]]) ∧ Rq w' (mkRat (sn neg N) D) x ∧ Below w.heap.size w w' := by
  have hp := h.pos
  have h0 : 0 < (txt N L ++ ((⟨#[47]⟩ : ByteArray) ++ txt D K)).size := by rw [ByteArray.size_append, txt_size']; omega
  have hx : bt (txt N L ++ ((⟨#[47]⟩ : ByteArray) ++ txt D K)) 0 ≠ 45 := by
    rw [bt_app_l (by rw [txt_size']; omega)]
    have := bt_txt (N := N) (L := L) (j := 0) (by omega)
    omega
  obtain ⟨e1, e2⟩ := sgt_app neg _ h0 hx
  have hsz : (frT neg N L D K).size ≤ 20000 := by
    rw [frT_size, sgt_size]; split <;> omega
  have C := ratParse_slash (frT neg N L D K) hsz (frT_msp _ _ _ _ _) (by unfold frT; rw [e2, fby_fr]; omega) (by unfold frT; rw [e2, top_fr]; exact pe_txt h hL) (by unfold frT; rw [e2, bot_fr]; exact pe_txt k hK) (by unfold frT; rw [e2, bot_fr, pnum_txt k.lt]; exact hD) w hP hS
  have e3 : mns (frT neg N L D K) = neg := by unfold frT; exact e1
  have e4 : topS (unm (frT neg N L D K)) = txt N L := by unfold frT; rw [e2, top_fr]
  have e5 : botS (unm (frT neg N L D K)) = txt D K := by unfold frT; rw [e2, bot_fr]
  rw [e3, e4, e5, pnum_txt h.lt, pnum_txt k.lt] at C
  exact C
/-- Parse at the text of a whole number -/
theorem parse_wh {w : World} (neg : Bool) {N L : Nat} (h : IsLen N L) (hL : L ≤ 9216) (hP : Tab w) (hS : Tabs w) :
    Calls Tryz.prog 15 #[.string (whT neg N L)] w fun e w' => ∃ x, e = .returned (.tuple #[x, .agg #[.int .i64 0, .int .i64 0]]) ∧ Rq w' (mkRat (sn neg N) 1) x ∧ Below w.heap.size w w' := by
  have hp := h.pos
  have h0 : 0 < (txt N L).size := by rw [txt_size']; omega
  have hx : bt (txt N L) 0 ≠ 45 := by
    have := bt_txt (N := N) (L := L) (j := 0) (by omega)
    omega
  obtain ⟨e1, e2⟩ := sgt_app neg _ h0 hx
  have hsz : (whT neg N L).size ≤ 20000 := by
    rw [whT_size, sgt_size]; split <;> omega
  have C := ratParse_whole (whT neg N L) hsz (whT_msp _ _ _) (by unfold whT; rw [e2, fby_wh]; decide) (by unfold whT; rw [e2]; exact pe_txt h hL) w hP hS
  have e3 : mns (whT neg N L) = neg := by unfold whT; exact e1
  have e4 : unm (whT neg N L) = txt N L := by unfold whT; exact e2
  rw [e3, e4, pnum_txt h.lt] at C
  exact C
end Go.Proofs.YtbjaolmlnkliiaaGreatDoor

/- Parse at the texts that Text gives. Conditions as premises: the numbers are short enough, and the tables hold what their initialisers lay. -/
namespace Go.Proofs.YtbjaolmlnkliiaaGreatDoor
open Go.RowKit

theorem sn_int' (z : Int) : sn (decide (z < 0)) z.natAbs = z := by
  unfold sn
  by_cases h : z < 0
  · rw [decide_eq_true h]; simp; omega
  · rw [decide_eq_false h]; simp; omega
theorem txQ_form {q : Rat} {t : ByteArray} (h : TxQ q t) : ∃ L1 L2, IsLen q.num.natAbs L1 ∧ IsLen q.den L2 ∧ t = if q.den = 1 then whT (decide (q.num < 0)) q.num.natAbs L1 else frT (decide (q.num < 0)) q.num.natAbs L1 q.den L2 := by
  obtain ⟨L1, L2, h1, h2, rfl⟩ := h.p
  refine ⟨L1, L2, h1, h2, ?_⟩
  have e : (if q.num < 0 then (⟨#[45]⟩ : ByteArray) ++ txt q.num.natAbs L1 else txt q.num.natAbs L1) = sgt (decide (q.num < 0)) ++ txt q.num.natAbs L1 := by
    by_cases h0 : q.num < 0
    · rw [if_pos h0, decide_eq_true h0]; rfl
    · rw [if_neg h0, decide_eq_false h0]; exact (empty_app _).symm
  rw [e]
  by_cases hd : q.den = 1
  · rw [if_pos hd, if_pos hd]
    unfold whT
    apply ba_ext
    rw [lb_app]
    show _ ++ [] = _
    rw [List.append_nil]
  · rw [if_neg hd, if_neg hd]
    unfold frT
    apply ba_ext
    simp only [lb_app, List.append_assoc]
theorem parse_tx {w : World} {q : Rat} {t : ByteArray} (h : TxQ q t) (sq : Sz 1024 q) (hP : Tab w) (hS : Tabs w) :
    Calls Tryz.prog 15 #[.string t] w fun e w' => ∃ x, e = .returned (.tuple #[x, .agg #[.int .i64 0, .int .i64 0]]) ∧ Rq w' q x ∧ Below w.heap.size w w' := by
  obtain ⟨L1, L2, h1, h2, rfl⟩ := txQ_form h
  have b1 := isLen_le h1 (lt_NL sq.1 (by omega))
  have b2 := isLen_le h2 (lt_NL sq.2 (by omega))
  by_cases hd : q.den = 1
  · rw [if_pos hd]
    have := parse_wh (decide (q.num < 0)) h1 b1 hP hS
    rw [sn_num, ← hd, Rat.mkRat_self] at this
    exact this
  · rw [if_neg hd]
    have := parse_fr (decide (q.num < 0)) h1 h2 b1 b2 q.den_nz hP hS
    rw [sn_num, Rat.mkRat_self] at this
    exact this
theorem parse_two {w : World} {m : Int} {D : Nat} {t u : ByteArray} (h : TxQ (m : Rat) t) (k : TxQ ((D : Int) : Rat) u) (hm : m.natAbs < LB ^ NL) (hD : D < LB ^ NL) (hz : D ≠ 0) (hP : Tab w) (hS : Tabs w) :
    Calls Tryz.prog 15 #[.string ((t ++ (⟨#[47]⟩ : ByteArray)) ++ u)] w fun e w' => ∃ x, e = .returned (.tuple #[x, .agg #[.int .i64 0, .int .i64 0]]) ∧ Rq w' (mkRat m D) x ∧ Below w.heap.size w w' := by
  obtain ⟨L1, _, h1, _, rfl⟩ := txQ_form h
  obtain ⟨L2, _, h2, _, rfl⟩ := txQ_form k
  rw [Rat.num_intCast] at h1 h2
  rw [if_pos (Rat.den_intCast _), if_pos (Rat.den_intCast _), Rat.num_intCast, Rat.num_intCast]
  rw [Int.natAbs_natCast] at h2 ⊢
  have b1 := isLen_le h1 hm
  have b2 := isLen_le h2 hD
  have C := parse_fr (w := w) (decide (m < 0)) h1 h2 b1 b2 hz hP hS
  rw [sn_int'] at C
  have e : whT (decide (m < 0)) m.natAbs L1 ++ (⟨#[47]⟩ : ByteArray) ++ whT (decide ((D : Int) < 0)) D L2 = frT (decide (m < 0)) m.natAbs L1 D L2 := by
    rw [decide_eq_false (by omega : ¬ (D : Int) < 0)]
    unfold whT frT
    rw [show sgt false = ⟨#[]⟩ from rfl, empty_app]
    apply ba_ext
    simp only [lb_app, List.append_assoc]
  rw [e]
  exact C
end Go.Proofs.YtbjaolmlnkliiaaGreatDoor

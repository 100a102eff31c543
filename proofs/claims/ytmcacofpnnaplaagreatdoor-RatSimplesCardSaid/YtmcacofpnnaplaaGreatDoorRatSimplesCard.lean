/- RatSimples returns true for every two numbers, valid or not, and leaves all that was there as it was. Condition: the table of signs holds what the program's text lays, to which the card is tied. -/
import Derived.Test.YtmcacofpnnaplaaGreatDoorRatGround
import Derived.Test.YtmcacofpnnaplaaGreatDoorSimAll
namespace Go.Proofs.YtmcacofpnnaplaaGreatDoor.ratSimples
open Go.ChangeShapes Go.WideShapes Go.ChangeAt Go.RowKit

set_option maxRecDepth 100000 in
theorem contract (H : Type) (enc : TypeId × Value → H) (W : World) (base : Nat) (args : Array Value) (ds gs : List (DataW H)) (before : List MemPlace)
    (hval : ∀ (j : Nat) t v, Tryz.f5.params[j]? = some t → args[j]? = some v → Value.okWide Tryz.prog W .any base t v)
    (hW : DataW.Whole enc Tryz.prog Tryz.f5.params.toList Rows.ratSimplesSpec.vars false W args.toList ds gs before) (hL : laidMetH Tryz.prog Rows.ratSimplesRow.laid W) :
    Calls Tryz.prog 5 args W fun e W' => ∃ v, e = .returned v ∧ Rows.ratSimplesSpec.post enc Tryz.prog Tryz.f5 false true false false W args v W' := by
  have hW' := hW
  obtain ⟨p, q, hA0, hV, rfl, hfz, hnd⟩ := hW
  have hA : DataW.TrodAll enc Tryz.prog W 0 (fun _ => true) true Tryz.f5.params.toList args.toList ds p := hA0
  rw [Tryz.params5] at hA hval
  obtain ⟨v0, vs0, d0, ds0, p0, q0, hargs, rfl, rfl, h0, r0⟩ := trodAll_cons hA
  obtain ⟨v1, vs1, d1, ds1, p1, q1, rfl, rfl, rfl, h1, r1⟩ := trodAll_cons r0
  obtain ⟨rfl, rfl, rfl⟩ := trodAll_nil r1
  obtain rfl : args = #[v0, v1] := by cases args; simp_all
  obtain ⟨rfl, rfl⟩ := trodVars_none hV
  have k0 := h0
  have lt0 : ∀ x ∈ p0, x.block < W.heap.size := by obtain ⟨m, hm⟩ := k0; exact DataW.trod_lt m _ _ _ hm
  obtain ⟨B0, P0, N0, C0, F0, P0', N0', C0', G0, rfl, hr0⟩ : ∃ B P N C F P' N' C' G, v0 = .agg #[.bool B, .slice P N C, .slice P' N' C'] ∧ Raw W B P N C F P' N' C' G := by
    obtain ⟨fuel, hf⟩ := h0
    exact open_rat (hval 0 25 v0 rfl rfl) hf
  have k1 := h1
  have lt1 : ∀ x ∈ p1, x.block < W.heap.size := by obtain ⟨m, hm⟩ := k1; exact DataW.trod_lt m _ _ _ hm
  obtain ⟨B1, P1, N1, C1, F1, P1', N1', C1', G1, rfl, hr1⟩ : ∃ B P N C F P' N' C' G, v1 = .agg #[.bool B, .slice P N C, .slice P' N' C'] ∧ Raw W B P N C F P' N' C' G := by
    obtain ⟨fuel, hf⟩ := h1
    exact open_rat (hval 1 25 v1 rfl rfl) hf
  clear hA0
  have walk : Calls Tryz.prog 5 #[.agg #[.bool B0, .slice P0 N0 C0, .slice P0' N0' C0'], .agg #[.bool B1, .slice P1 N1 C1, .slice P1' N1' C1']] W fun e w' => e = .returned (.bool true) ∧ Below W.heap.size W w' := by
    by_cases l1 : Lg N0 N0'
    · exact ratSimples_awake1 B0 P0 P0' N0 C0 N0' C0' F0 G0 B1 P1 P1' N1 C1 N1' C1' F1 G1 W hr0 hr1 (tabs_of hL) l1
    · by_cases l2 : Lg N1 N1'
      · exact ratSimples_awake2 B0 P0 P0' N0 C0 N0' C0' F0 G0 B1 P1 P1' N1 C1 N1' C1' F1 G1 W hr0 hr1 (tabs_of hL) l1 l2
      · by_cases q1 : Md N0
        · exact ratSimples_awake3 B0 P0 P0' N0 C0 N0' C0' F0 G0 B1 P1 P1' N1 C1 N1' C1' F1 G1 W hr0 hr1 (tabs_of hL) l1 l2 q1
        · by_cases q2 : Md N0'
          · exact ratSimples_awake4 B0 P0 P0' N0 C0 N0' C0' F0 G0 B1 P1 P1' N1 C1 N1' C1' F1 G1 W hr0 hr1 (tabs_of hL) l1 l2 q1 q2
          · by_cases q3 : Md N1
            · exact ratSimples_awake5 B0 P0 P0' N0 C0 N0' C0' F0 G0 B1 P1 P1' N1 C1 N1' C1' F1 G1 W hr0 hr1 (tabs_of hL) l1 l2 q1 q2 q3
            · by_cases q4 : Md N1'
              · exact ratSimples_awake6 B0 P0 P0' N0 C0 N0' C0' F0 G0 B1 P1 P1' N1 C1 N1' C1' F1 G1 W hr0 hr1 (tabs_of hL) l1 l2 q1 q2 q3 q4
              · exact ratSimples_main B0 P0 P0' N0 C0 N0' C0' F0 G0 B1 P1 P1' N1 C1 N1' C1' F1 G1 W hr0 hr1 (tabs_of hL) l1 l2 q1 q2 q3 q4
  refine walk.mono fun e W' ⟨he, bel⟩ => ?_
  subst he
  exact ⟨_, rfl, _, _, _, [], _, [], hW', trodAll_mk1 (shut_bool Tryz.underlying4 _), (trodAll_cons_mk (Below.trod laidOut (by kernel_rfl) (of_decide_eq_true (by kernel_rfl)) k0 bel lt0) (trodAll_cons_mk (Below.trod laidOut (by kernel_rfl) (of_decide_eq_true (by kernel_rfl)) k1 bel lt1) trodAll_mk0)), rfl, bel.frame _, fun h => by cases h⟩

theorem laid_met (os : Os) : laidMet Tryz.prog Rows.ratSimplesRow.laid ((laidWorld os).forCall (fun _ _ => 0) ⟨#[], #[.agg #[.bool false, .slice none 0 0, .slice none 0 0], .agg #[.bool false, .slice none 0 0, .slice none 0 0]], []⟩).memory :=
  laidMet_of_run' 8 (by kernel_rfl) (by kernel_rfl)
theorem reads (os : Os) {H : Type} (enc : TypeId × Value → H) : ∃ places, DataW.whole enc Tryz.prog ((laidWorld os).forCall (fun _ _ => 0) ⟨#[], #[.agg #[.bool false, .slice none 0 0, .slice none 0 0], .agg #[.bool false, .slice none 0 0, .slice none 0 0]], []⟩).memory Tryz.f5.params.toList Rows.ratSimplesSpec.vars false #[Value.agg #[.bool false, .slice none 0 0, .slice none 0 0], .agg #[.bool false, .slice none 0 0, .slice none 0 0]].toList 8 = some ([.agg [.lit (.bool false), .nil, .nil], .agg [.lit (.bool false), .nil, .nil]], [], places) :=
  ⟨[], by kernel_rfl⟩

set_option maxRecDepth 100000 in
theorem lifted (os : Os) (started : os.Started) (H : Type) (enc : TypeId × Value → H) (F : Stop.Interp) :
    ReturnsInHanded {} Tryz.checked os 5 .any ((OpenSpec.ofChange Rows.ratSimplesSpec).preRow enc Tryz.prog Tryz.f5 Rows.ratSimplesRow.domain false Rows.ratSimplesRow.laid) (((OpenSpec.ofChange Rows.ratSimplesSpec).at F).post enc Tryz.prog Tryz.f5 false true false false) := by
  obtain ⟨places, hx⟩ := reads os enc
  refine returnsInHanded_of_row (C := Tryz.checked) (s := OpenSpec.ofChange Rows.ratSimplesSpec) own started (by kernel_rfl) Tryz.func5
    (witness_row_at (enc := enc) (C := Tryz.checked) false (laidWorld os) #[.agg #[.bool false, .slice none 0 0, .slice none 0 0], .agg #[.bool false, .slice none 0 0, .slice none 0 0]] rfl (by kernel_rfl) (by kernel_rfl) (by kernel_rfl)
      (OpenSpec.preRow_of_cond 8 hx (by kernel_rfl) (fun k hk => by cases hk) (by kernel_rfl) (laid_met os))) ?_
  intro W base args ds gs before hval hW _ _ _ hL _ _
  exact contract H enc W base args ds gs before hval hW hL

set_option maxRecDepth 100000 in
theorem said : Rows.RatSimplesSaid :=
  OpenClaim.holds_of_cond 5 Tryz.f5 rfl rfl rfl rfl rfl rfl rfl ⟨rfl, rfl, rfl, rfl, rfl⟩ rfl rfl rfl rfl rfl (by kernel_rfl) Tryz.func5 (by kernel_rfl)
    (of_decide_eq_true (by kernel_rfl)) (by unfold Func.isWrapper; first | (rw [if_pos (by decide +kernel)]; kernel_rfl) | (rw [if_neg (by decide +kernel)]; exact ⟨rfl, rfl⟩))
    (fun os started H enc _ F => by rw [OpenClaim.pre_eq_preRow]; exact lifted os started H enc F)

set_option maxRecDepth 100000 in
theorem plain (f : FuncId) (fn : Func) (hf : Tryz.pinned.checked.prog.funcNamed "parlour/parlourlaw02.RatSimples" = some f) (hfn : Tryz.pinned.checked.prog.funcs[f]? = some fn) :
    false = Tryz.pinned.checked.prog.looks [] ∧ ∀ (j : Nat) t, fn.params[j]? = some t → Tryz.pinned.checked.prog.wantsStandIn t = false := by
  obtain rfl : f = 5 := Option.some.inj ((show Tryz.prog.funcNamed "parlour/parlourlaw02.RatSimples" = some 5 by kernel_rfl).symm.trans hf) |>.symm
  obtain rfl : fn = Tryz.f5 := (Option.some.inj (Tryz.func5.symm.trans hfn)).symm
  refine ⟨by kernel_rfl, fun j t ht => ?_⟩
  rw [Tryz.params5] at ht
  have h := Array.mem_of_getElem? ht
  simp at h
  subst h
  all_goals first | exact (show Tryz.prog.wantsStandIn 25 = false by kernel_rfl)

/-- The card. -/
theorem card : Rows.RatSimplesCardSaid :=
  Claim7.holds_tied_plain_at .later [] _ _ _ _ said (fun _ h => by cases h) (by kernel_rfl) (fun _ h => by cases h) ratSimples_row_tie rfl ⟨rfl, rfl⟩ (by kernel_rfl) rfl plain (by kernel_rfl)
#print axioms card
end Go.Proofs.YtmcacofpnnaplaaGreatDoor.ratSimples

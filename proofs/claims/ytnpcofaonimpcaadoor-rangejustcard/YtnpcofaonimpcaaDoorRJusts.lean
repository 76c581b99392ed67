/-
  RangeJust: the prefixes of a range lie side by side, from its first address to its last one, and no two are halves of one; for every argument.
-/
import Derived.Test.YtnpcofaonimpcaaDoorRows
import Derived.Test.YtnpcofaonimpcaaDoorCards
import Derived.Test.YtnpcofaonimpcaaDoorRJust
import Derived.Test.YtnpcofaonimpcaaDoorLaidF
import Derived.Test.YtnpcofaonimpcaaDoorShapesRaw
namespace Go.Proofs.YtnpcofaonimpcaaDoor
open Go.ChangeShapes Go.WideShapes Go.ChangeAt Go.RowKit Go.Joins
set_option linter.unusedVariables false
set_option linter.unusedSimpArgs false

theorem RangeJust.walk (s0 : Bool) (h0 l0 a1 : Int) (c0 : 0 ≤ h0) (c1 : h0 ≤ 18446744073709551615) (c2 : 0 ≤ l0) (c3 : l0 ≤ 18446744073709551615) (d0 : -9223372036854775808 ≤ a1) (d1 : a1 ≤ 9223372036854775807) (w : World) (hT : Laid1.Tabs w) :
    Calls Tryd.prog 3 #[.agg #[.bool s0, .int .u64 h0, .int .u64 l0], .int .i64 a1] w fun e w' => e = .returned (.bool true) ∧ Below w.heap.size w w' := by
  have F : FamAt w := hT
  obtain ⟨x, hx⟩ : ∃ x, numR s0 h0 l0 = x := ⟨_, rfl⟩
  have hxl : x < 2 ^ wideN s0 := hx ▸ numR_lt s0 h0 l0 c0 c1 c2 c3
  obtain ⟨N, hN⟩ : ∃ N, a1 % 1048576 = N := ⟨_, rfl⟩
  have n0 : 0 ≤ N := by rw [← hN]; exact Int.emod_nonneg _ (by decide)
  have n1 : N < 1048576 := by rw [← hN]; exact Int.emod_lt_of_pos _ (by decide)
  have AO := Lib.hid (fun W : World => addrOfNum_calls s0 h0 l0 c0 c1 c2 c3 x hx W)
  have P1 : Hid (∀ W : World, Calls Tryd.prog 8 #[.int .i64 a1, .int .i64 1048576] W fun e w' => e = .returned (.int .i64 N) ∧ W = w') := Lib.hid fun W => by
    have := picked_calls a1 1048576 (by decide) (by decide) d0 d1 W
    rw [hN] at this
    exact this
  by_cases hb : x + N.toNat < 2 ^ wideN s0
  · obtain ⟨y, hy⟩ : ∃ y, x + N.toNat = y := ⟨_, rfl⟩
    rw [hy] at hb
    have b1 := canon_range_len x y 21 (by omega) (wideN s0) 0
    have g1 : (cn s0 (fromTo x y) (wideN s0) 0).length ≤ 60 := by unfold cn; rw [List.length_map]; omega
    have ln := Line.range s0 x y (by omega) hb
    have g0 : 0 < (cn s0 (fromTo x y) (wideN s0) 0).length := by
      rcases Nat.eq_zero_or_pos (cn s0 (fromTo x y) (wideN s0) 0).length with e | e
      · rw [List.eq_nil_of_length_eq_zero e] at ln
        have := ln.end
        omega
      · exact e
    exact just_yes s0 h0 l0 a1 N x y _ n0 n1 g0 g1 hxl hb ln neat_cn.told AO P1
      (Lib.hid fun W => next_num s0 x y N hxl hb (by omega) (by omega) (by omega) W)
      (Lib.hid fun W f => range_ok s0 x y hxl hb (by omega) W f) w F
  · exact just_no s0 h0 l0 a1 N x n0 n1 AO P1 (Lib.hid fun W => next_num_none s0 x N hxl (.inr (by omega)) W) w F
theorem RangeJust.own : ownKnob Tryd.prog.godebug = none := by kernel_rfl
set_option maxRecDepth 100000 in
theorem RangeJust.lifted (os : Os) (started : os.Started) (H : Type) (enc : TypeId × Value → H) :
    ReturnsInHanded {} Tryd.checked os 3 .any (fun w args => (Rows.rangeJustSpec.pre enc Tryd.prog Tryd.f3 [] false w args ∧ laidMetH Tryd.prog Rows.rangeJustRow.laid w) ∧ sizedMet enc Tryd.prog Tryd.f3 (OpenSpec.ofChange Rows.rangeJustSpec) false w args) (Rows.rangeJustSpec.post enc Tryd.prog Tryd.f3 false true false false) := by
  refine returnsInHanded_of_change_and (C := Tryd.checked) (X := fun w _ => laidMetH Tryd.prog Rows.rangeJustRow.laid w) (fun _ _ _ hh h => h.of_heap hh) RangeJust.own started (by kernel_rfl) Tryd.func3
    (ChangeSpec.witness_at (enc := enc) (C := Tryd.checked) (os := os) (X := fun w _ => laidMetH Tryd.prog Rows.rangeJustRow.laid w) false (Laid1.world os) #[.agg #[.bool false, .int .u64 0, .int .u64 0], .int .i64 0] 8 rfl (by kernel_rfl) (by kernel_rfl) (by kernel_rfl) (by kernel_rfl) (by kernel_rfl) (Laid1.met os _)) ?_
  intro W base args ds gs before hval0 hW hcnd _ hL _
  have hT : Laid1.Tabs W := Laid1.of hL
  have hval : ∀ (j : Nat) t v, Tryd.f3.params[j]? = some t → args[j]? = some v → Value.okWide Tryd.prog W .any base t v := hval0
  have hW' := hW
  obtain ⟨p, q, hA0, hV, rfl, hfz, hnd⟩ := hW
  have hA : DataW.TrodAll enc Tryd.prog W 0 (fun _ => true) true Tryd.f3.params.toList args.toList ds p := hA0
  rw [Tryd.params3] at hA hval
  obtain ⟨v0, vs0, d0, ds0, p0, q0, hargs, rfl, rfl, rd0, r0⟩ := trodAll_cons hA
  obtain ⟨v1, vs1, d1, ds1, p1, q1, rfl, rfl, rfl, rd1, r1⟩ := trodAll_cons r0
  obtain ⟨rfl, rfl, rfl⟩ := trodAll_nil r1
  obtain rfl : args = #[v0, v1] := by cases args; simp_all
  obtain ⟨rfl, rfl⟩ := trodVars_none hV
  obtain ⟨s0, h0, l0, rfl, rfl, rfl, wa0, wb0⟩ := openRaw (hval 0 24 v0 rfl rfl) rd0
  obtain ⟨a1, rfl, rfl, rfl, wa1⟩ := open_int Tryd.underlying3 (hval 1 3 v1 rfl rfl) rd1
  clear hA0 hval0
  simp only [List.append_nil] at hW'
  refine (RangeJust.walk s0 h0 l0 a1 (u64_of_wf wa0).1 (u64_of_wf wa0).2 (u64_of_wf wb0).1 (u64_of_wf wb0).2 (i64_of_wf wa1).1 (i64_of_wf wa1).2 W hT).mono fun e W' ⟨he, hb⟩ => ?_
  subst he
  exact ⟨_, rfl, postBelow (pa := []) (pv := []) hW' hb (fun _ _ _ => trodAll_cons_mk (shut_bool Tryd.underlying4 _) trodAll_mk0) (fun sp _ => trodAll_cons_mk (shutRaw wa0 wb0) (trodAll_cons_mk (shut_int Tryd.underlying3 wa1) trodAll_mk0)) (fun _ _ => rfl) rfl⟩

theorem RangeJust.holds : Rows.RangeJustSaid :=
  OpenClaim.holds_of_wide 3 Tryd.f3 rfl rfl rfl rfl rfl rfl rfl ⟨rfl, rfl, rfl, rfl, rfl⟩ rfl rfl rfl rfl rfl (by kernel_rfl) Tryd.func3 (by kernel_rfl)
    (of_decide_eq_true (by kernel_rfl)) (by unfold Func.isWrapper; first | (rw [if_pos (by decide +kernel)]; kernel_rfl) | (rw [if_neg (by decide +kernel)]; exact ⟨rfl, rfl⟩))
    (fun os started H enc _ => RangeJust.lifted os started H enc)
#print axioms RangeJust.holds
theorem RangeJust.card : Rows.RangeJustCardSaid :=
  Claim7.holds_tied_plain_at .later [] Rows.rangeJustCard.laidKinds true Rows.rangeJustCard.stood.harness Rows.rangeJustCard.stood.looks
    RangeJust.holds (fun _ h => by cases h) (by kernel_rfl) (fun _ h => by cases h) rangeJust_row_tie rfl ⟨rfl, rfl⟩ (by kernel_rfl) rfl
    (fun f fn hf hfn => by
      obtain rfl : f = 3 := Option.some.inj ((show Tryd.prog.funcNamed "whipcord/whipcordkeep.RangeJust" = some 3 by kernel_rfl).symm.trans hf) |>.symm
      obtain rfl : fn = Tryd.f3 := (Option.some.inj (Tryd.func3.symm.trans hfn)).symm
      exact ⟨by kernel_rfl, fun j t ht => by
        rw [Tryd.params3] at ht
        match j, ht with
        | 0, ht => obtain rfl := Option.some.inj ht; exact (show Tryd.prog.wantsStandIn 24 = false by kernel_rfl)
        | 1, ht => obtain rfl := Option.some.inj ht; exact (show Tryd.prog.wantsStandIn 3 = false by kernel_rfl)
        | j + 2, ht => simp at ht⟩)
    (by kernel_rfl)
#print axioms RangeJust.card
end Go.Proofs.YtnpcofaonimpcaaDoor

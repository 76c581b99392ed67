/-
  CidrRanges: cidr.Range answers what the document says, at every argument.
-/
import Derived.Test.YtojdlhiibffnfaaDoorRows
import Derived.Test.YtojdlhiibffnfaaDoorCards
import Derived.Test.YtojdlhiibffnfaaDoorRanges
import Derived.Test.YtojdlhiibffnfaaDoorSamePres
namespace Go.Proofs.YtojdlhiibffnfaaDoor
open Go.ChangeShapes Go.WideShapes Go.ChangeAt Go.RowKit Go.Joins
set_option linter.unusedVariables false
set_option linter.unusedSimpArgs false

set_option maxHeartbeats 1000000 in
theorem Ranges.core (s1 s2 : Bool) (x1 x2 : Nat) (l : List PT) (E : Int) (hlen : l.length ≤ 1000000000)
    (K1 : Hid (∀ W : World, FamAt W → Calls Tryd.prog 12 #[.agg #[.bool s1, .int .u64 (aH x1), .int .u64 (aL x1)], .agg #[.bool s2, .int .u64 (aH x2), .int .u64 (aL x2)]] W (PresOutE l E W)))
    (K2 : Hid (∀ W : World, Calls Tryd.prog 13 #[.agg #[.bool s1, .int .u64 (aH x1), .int .u64 (aL x1)], .agg #[.bool s2, .int .u64 (aH x2), .int .u64 (aL x2)]] W (PresOutE l E W)))
    (w : World) (hT : FamAt w) :
    Calls Tryd.prog 3 #[.agg #[.bool s1, .int .u64 (aH x1), .int .u64 (aL x1)], .agg #[.bool s2, .int .u64 (aH x2), .int .u64 (aL x2)]] w fun e w' => e = .returned (.bool true) ∧ Below w.heap.size w w' := by
  have bw : Below w.heap.size w ((w.alloc (.cells #[.bool s1, .int .u64 (aH x1), .int .u64 (aL x1)] 24)).alloc (.cells #[.bool s2, .int .u64 (aH x2), .int .u64 (aL x2)] 24)) := by go_grown
  have A := (AddrAt.new w s1 (aH x1) (aL x1) 24).alloc (.cells #[.bool s2, .int .u64 (aH x2), .int .u64 (aL x2)] 24)
  have B := AddrAt.new (w.alloc (.cells #[.bool s1, .int .u64 (aH x1), .int .u64 (aL x1)] 24)) s2 (aH x2) (aL x2) 24
  rw [World.size_alloc] at B
  have F := Lib.hid (hT.keep bw)
  clear hT
  go_enter Tryd.func3, Tryd.ntmps3
  go_wp2_with fail
  refine (K1.out _ F.out).mono ?_
  rintro e w1 ⟨v1, rfl, o1, hb1⟩
  have b1 := thenBelow bw hb1
  obtain ⟨p0, p1, p2, pl⟩ := A.keep hb1
  obtain ⟨q0, q1, q2, ql⟩ := B.keep hb1
  have O1 := Lib.hid o1
  clear F A B bw hb1 o1
  go_wp2_with fail
  refine (K2.out _).mono ?_
  rintro e w2 ⟨v2, rfl, o2, hb2⟩
  have b2 := thenBelow b1 hb2
  have O2 := Lib.hid (samePres_calls _ _ v1 v2 l hlen w2 (ownsKeep O1.out hb2) o2)
  clear p0 p1 p2 pl q0 q1 q2 ql O1 o2 hb2 b1
  go_wp2_with fail
  refine O2.out.mono ?_
  rintro e w3 ⟨rfl, hb3⟩
  have b3 := thenBelow b2 hb3
  clear hb3 b2
  go_wp2
  go_returns
  exact ⟨by simp, b3⟩
theorem Ranges.walk (s0 : Bool) (h0 l0 : Int) (s1 : Bool) (h1 l1 : Int) (a0 : 0 ≤ h0) (a1 : h0 ≤ 18446744073709551615) (a2 : 0 ≤ l0) (a3 : l0 ≤ 18446744073709551615) (b0 : 0 ≤ h1) (b1 : h1 ≤ 18446744073709551615) (b2 : 0 ≤ l1) (b3 : l1 ≤ 18446744073709551615) (w : World) (hT : Laid1.Tabs w) :
    Calls Tryd.prog 3 #[.agg #[.bool s0, .int .u64 h0, .int .u64 l0], .agg #[.bool s1, .int .u64 h1, .int .u64 l1]] w fun e w' => e = .returned (.bool true) ∧ Below w.heap.size w w' := by
  obtain ⟨x, hx, rfl, rfl⟩ := asNum h0 l0 a0 a1 a2 a3
  obtain ⟨y, hy, rfl, rfl⟩ := asNum h1 l1 b0 b1 b2 b3
  have F : FamAt w := hT
  by_cases v0 : x < 2 ^ wideN s0
  · by_cases v1 : y < 2 ^ wideN s1
    · by_cases hs : s0 = s1
      · subst hs
        by_cases hl : y < x
        · exact Ranges.core s0 s0 x y _ _ (by decide) (Lib.hid (fun W _ => range_rng s0 x y hx hy v0 v1 hl W)) (Lib.hid (fun W => refRange_rng s0 x y hx hy v0 v1 hl W)) w F
        · refine Ranges.core s0 s0 x y (cn s0 (fromTo x y) (wideN s0) 0) 0 (Nat.le_trans (cn_range s0 x y _ _ (Nat.le_refl _)) (by decide)) (Lib.hid (fun W FW => ?_)) (Lib.hid (fun W => refRange_ok s0 x y hx hy v0 v1 hl W)) w F
          cases s0
          · exact range_ok_false x y hx hy v0 v1 hl W FW
          · exact range_ok_true x y hx hy v0 v1 hl W FW
      · exact Ranges.core s0 s1 x y _ _ (by decide) (Lib.hid (fun W _ => range_fam s0 s1 x y hx hy v0 v1 hs W)) (Lib.hid (fun W => refRange_fam s0 s1 x y hx hy v0 v1 hs W)) w F
    · exact Ranges.core s0 s1 x y _ _ (by decide) (Lib.hid (fun W _ => range_form2 s0 s1 x y hx hy v0 v1 W)) (Lib.hid (fun W => refRange_form2 s0 s1 x y hx hy v0 v1 W)) w F
  · exact Ranges.core s0 s1 x y _ _ (by decide) (Lib.hid (fun W _ => range_form1 s0 s1 x y hx hy v0 W)) (Lib.hid (fun W => refRange_form1 s0 s1 x y hx hy v0 W)) w F
theorem Ranges.own : ownKnob Tryd.prog.godebug = none := by kernel_rfl
set_option maxRecDepth 100000 in
theorem Ranges.lifted (os : Os) (started : os.Started) (H : Type) (enc : TypeId × Value → H) :
    ReturnsInHanded {} Tryd.checked os 3 .any (fun w args => (Rows.cidrRangesSpec.pre enc Tryd.prog Tryd.f3 [] false w args ∧ laidMetH Tryd.prog Rows.cidrRangesRow.laid w) ∧ sizedMet enc Tryd.prog Tryd.f3 (OpenSpec.ofChange Rows.cidrRangesSpec) false w args) (Rows.cidrRangesSpec.post enc Tryd.prog Tryd.f3 false true false false) := by
  refine returnsInHanded_of_change_and (C := Tryd.checked) (X := fun w _ => laidMetH Tryd.prog Rows.cidrRangesRow.laid w) (fun _ _ _ hh h => h.of_heap hh) Ranges.own started (by kernel_rfl) Tryd.func3
    (ChangeSpec.witness_at (enc := enc) (C := Tryd.checked) (os := os) (X := fun w _ => laidMetH Tryd.prog Rows.cidrRangesRow.laid w) false (Laid1.world os) #[.agg #[.bool false, .int .u64 0, .int .u64 0], .agg #[.bool false, .int .u64 0, .int .u64 0]] 8 rfl (by kernel_rfl) (by kernel_rfl) (by kernel_rfl) (by kernel_rfl) (by kernel_rfl) (Laid1.met os _)) ?_
  intro W base args ds gs before hval0 hW hcnd _ hL _
  have hT : Laid1.Tabs W := Laid1.of hL
  have hval : ∀ (j : Nat) t v, Tryd.f3.params[j]? = some t → args[j]? = some v → Value.okWide Tryd.prog W .any base t v := hval0
  have hW' := hW
  obtain ⟨p, q, hA0, hV, rfl, hfz, hnd⟩ := hW
  have hA : DataW.TrodAll enc Tryd.prog W 0 (fun _ => true) true Tryd.f3.params.toList args.toList ds p := hA0
  rw [Tryd.params3] at hA hval
  obtain ⟨v0, vs0, d0, ds0, p0, q0, hargs, rfl, rfl, rd0, r0⟩ := trodAll_cons hA
  obtain ⟨v1, vs1, d1, ds1, p1, q1, rfl, rfl, rfl, rd1, r1⟩ := trodAll_cons r0
  obtain ⟨rfl, rfl, rfl⟩ := trodAll_nil r1
  obtain rfl : args = #[v0, v1] := by cases args; simp_all
  obtain ⟨rfl, rfl⟩ := trodVars_none hV
  obtain ⟨s0, h0, l0, rfl, rfl, rfl, wa0, wb0⟩ := openAddr (hval 0 24 v0 rfl rfl) rd0
  obtain ⟨s1, h1, l1, rfl, rfl, rfl, wa1, wb1⟩ := openAddr (hval 1 24 v1 rfl rfl) rd1
  clear hA0 hval0
  simp only [List.append_nil] at hW'
  refine (Ranges.walk s0 h0 l0 s1 h1 l1 (u64_of_wf wa0).1 (u64_of_wf wa0).2 (u64_of_wf wb0).1 (u64_of_wf wb0).2 (u64_of_wf wa1).1 (u64_of_wf wa1).2 (u64_of_wf wb1).1 (u64_of_wf wb1).2 W hT).mono fun e W' ⟨he, hb⟩ => ?_
  subst he
  exact ⟨_, rfl, postBelow (pa := []) (pv := []) hW' hb (fun _ _ _ => trodAll_cons_mk (shut_bool Tryd.underlying4 _) trodAll_mk0) (fun sp _ => trodAll_cons_mk (shutAddr wa0 wb0) (trodAll_cons_mk (shutAddr wa1 wb1) trodAll_mk0)) (fun _ _ => rfl) rfl⟩

theorem Ranges.holds : Rows.CidrRangesSaid :=
  OpenClaim.holds_of_wide 3 Tryd.f3 rfl rfl rfl rfl rfl rfl rfl ⟨rfl, rfl, rfl, rfl, rfl⟩ rfl rfl rfl rfl rfl (by kernel_rfl) Tryd.func3 (by kernel_rfl)
    (of_decide_eq_true (by kernel_rfl)) (by unfold Func.isWrapper; first | (rw [if_pos (by decide +kernel)]; kernel_rfl) | (rw [if_neg (by decide +kernel)]; exact ⟨rfl, rfl⟩))
    (fun os started H enc _ => Ranges.lifted os started H enc)
#print axioms Ranges.holds
theorem Ranges.card : Rows.CidrRangesCardSaid :=
  Claim7.holds_tied_plain_at .later [] Rows.cidrRangesCard.laidKinds true Rows.cidrRangesCard.stood.harness Rows.cidrRangesCard.stood.looks
    Ranges.holds (fun _ h => by cases h) (by kernel_rfl) (fun _ h => by cases h) cidrRanges_row_tie rfl ⟨rfl, rfl⟩ (by kernel_rfl) rfl
    (fun f fn hf hfn => by
      obtain rfl : f = 3 := Option.some.inj ((show Tryd.prog.funcNamed "whipcord/whipcordlaw.CidrRanges" = some 3 by kernel_rfl).symm.trans hf) |>.symm
      obtain rfl : fn = Tryd.f3 := (Option.some.inj (Tryd.func3.symm.trans hfn)).symm
      exact ⟨by kernel_rfl, fun j t ht => by
        rw [Tryd.params3] at ht
        match j, ht with
        | 0, ht => obtain rfl := Option.some.inj ht; exact (show Tryd.prog.wantsStandIn 24 = false by kernel_rfl)
        | 1, ht => obtain rfl := Option.some.inj ht; exact (show Tryd.prog.wantsStandIn 24 = false by kernel_rfl)
        | j + 2, ht => simp at ht⟩)
    (by kernel_rfl)
#print axioms Ranges.card
end Go.Proofs.YtojdlhiibffnfaaDoor

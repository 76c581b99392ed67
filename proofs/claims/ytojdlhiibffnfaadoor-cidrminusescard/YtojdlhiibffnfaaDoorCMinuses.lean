/-
  CidrMinuses: cidr.Minus answers what the document says, at every argument.
-/
import Derived.Test.YtojdlhiibffnfaaDoorRows
import Derived.Test.YtojdlhiibffnfaaDoorCards
import Derived.Test.YtojdlhiibffnfaaDoorM1
import Derived.Test.YtojdlhiibffnfaaDoorM2
namespace Go.Proofs.YtojdlhiibffnfaaDoor
open Go.ChangeShapes Go.WideShapes Go.ChangeAt Go.RowKit Go.Joins
set_option linter.unusedVariables false
set_option linter.unusedSimpArgs false

theorem ansL_len (c : Bool → Bool → Bool) (l m : List PT) : (ansL c l m).length ≤ 1000000000 := by
  unfold ansL
  split
  · rename_i h
    obtain ⟨n1, n2, ol, om⟩ := lists0 h
    have := famE_len false c ol om n1 n2
    have := famE_len true c ol om n1 n2
    unfold setE; rw [List.length_append]; omega
  · simp
set_option maxHeartbeats 1000000 in
theorem Minuses.core (v0 v1 : Value) (l m R : List PT) (E : Int) (hlen : R.length ≤ 1000000000)
    (K1 : Hid (∀ W : World, RowP W v0 l → RowP W v1 m → FamAt W → Calls Tryd.prog 17 #[v0, v1] W (PresOutE R E W)))
    (K2 : Hid (∀ W : World, RowP W v0 l → RowP W v1 m → Calls Tryd.prog 18 #[v0, v1] W (PresOutE R E W)))
    (w : World) (row : RowP w v0 l) (row1 : RowP w v1 m) (hT : FamAt w) :
    Calls Tryd.prog 5 #[v0, v1] w fun e w' => e = .returned (.bool true) ∧ Below w.heap.size w w' := by
  have RR := Lib.hid row
  have RS := Lib.hid row1
  have F := Lib.hid hT
  clear hT row row1
  go_enter Tryd.func5, Tryd.ntmps5
  go_wp2_with fail
  refine (K1.out _ RR.out RS.out F.out).mono ?_
  rintro e w1 ⟨va, rfl, o1, hb1⟩
  have RR := Lib.hid (RR.out.keep hb1)
  have RS := Lib.hid (RS.out.keep hb1)
  have O1 := Lib.hid o1
  clear F o1
  go_wp2_with fail
  refine (K2.out _ RR.out RS.out).mono ?_
  rintro e w2 ⟨vb, rfl, o2, hb2⟩
  have b2 := thenBelow hb1 hb2
  have O2 := Lib.hid (samePres_calls _ _ va vb R hlen w2 (ownsKeep O1.out hb2) o2)
  clear O1 o2 hb2 hb1 RR RS
  go_wp2_with fail
  refine O2.out.mono ?_
  rintro e w3 ⟨rfl, hb3⟩
  have b3 := thenBelow b2 hb3
  clear hb3 b2
  go_wp2
  go_returns
  exact ⟨by simp, b3⟩
theorem Minuses.walk (v0 : Value) (l0 : List PT) (v1 : Value) (l1 : List PT) (wl : Words l0) (hn : l0.length ≤ 9223372036854775807) (wm : Words l1) (hm : l1.length ≤ 9223372036854775807) (w : World) (row : RowP w v0 l0) (row1 : RowP w v1 l1) (hT : Laid1.Tabs w) :
    Calls Tryd.prog 5 #[v0, v1] w fun e w' => e = .returned (.bool true) ∧ Below w.heap.size w w' :=
  Minuses.core v0 v1 l0 l1 _ _ (ansL_len _ _ _) (Lib.hid fun W r s F => minus_calls l0 l1 v0 v1 hn hm wl wm W r s F) (Lib.hid fun W r s => refMinus_calls l0 l1 v0 v1 hn hm wl wm W r s) w row row1 hT
theorem Minuses.own : ownKnob Tryd.prog.godebug = none := by kernel_rfl
set_option maxRecDepth 100000 in
theorem Minuses.lifted (os : Os) (started : os.Started) (H : Type) (enc : TypeId × Value → H) :
    ReturnsInHanded {} Tryd.checked os 5 .any (fun w args => (Rows.cidrMinusesSpec.pre enc Tryd.prog Tryd.f5 [] false w args ∧ laidMetH Tryd.prog Rows.cidrMinusesRow.laid w) ∧ sizedMet enc Tryd.prog Tryd.f5 (OpenSpec.ofChange Rows.cidrMinusesSpec) false w args) (Rows.cidrMinusesSpec.post enc Tryd.prog Tryd.f5 false true false false) := by
  refine returnsInHanded_of_change_and (C := Tryd.checked) (X := fun w _ => laidMetH Tryd.prog Rows.cidrMinusesRow.laid w) (fun _ _ _ hh h => h.of_heap hh) Minuses.own started (by kernel_rfl) Tryd.func5
    (ChangeSpec.witness_at (enc := enc) (C := Tryd.checked) (os := os) (X := fun w _ => laidMetH Tryd.prog Rows.cidrMinusesRow.laid w) false (Laid1.world os) #[.slice none 0 0, .slice none 0 0] 8 rfl (by kernel_rfl) (by kernel_rfl) (by kernel_rfl) (by kernel_rfl) (by kernel_rfl) (Laid1.met os _)) ?_
  intro W base args ds gs before hval0 hW hcnd _ hL _
  have hT : Laid1.Tabs W := Laid1.of hL
  have hval : ∀ (j : Nat) t v, Tryd.f5.params[j]? = some t → args[j]? = some v → Value.okWide Tryd.prog W .any base t v := hval0
  have hW' := hW
  obtain ⟨p, q, hA0, hV, rfl, hfz, hnd⟩ := hW
  have hA : DataW.TrodAll enc Tryd.prog W 0 (fun _ => true) true Tryd.f5.params.toList args.toList ds p := hA0
  rw [Tryd.params5] at hA hval
  obtain ⟨v0, vs0, d0, ds0, p0, q0, hargs, rfl, rfl, rd0, r0⟩ := trodAll_cons hA
  obtain ⟨v1, vs1, d1, ds1, p1, q1, rfl, rfl, rfl, rd1, r1⟩ := trodAll_cons r0
  obtain ⟨rfl, rfl, rfl⟩ := trodAll_nil r1
  obtain rfl : args = #[v0, v1] := by cases args; simp_all
  obtain ⟨rfl, rfl⟩ := trodVars_none hV
  obtain ⟨l0, row0, wrd0, len0⟩ := openPres (hval 0 25 v0 rfl rfl) rd0
  obtain ⟨l1, row1, wrd1, len1⟩ := openPres (hval 1 25 v1 rfl rfl) rd1
  clear hA0 hval0
  refine (Minuses.walk v0 l0 v1 l1 wrd0 len0 wrd1 len1 W row0 row1 hT).mono fun e W' ⟨he, hb⟩ => ?_
  subst he
  exact ⟨_, rfl, postBelowAt (pv := []) hW' hb (fun _ _ _ => trodAll_cons_mk (shut_bool Tryd.underlying4 _) trodAll_mk0) (trodAll_cons_mk (Below.trod laidOut (by kernel_rfl) (of_decide_eq_true (by kernel_rfl)) rd0 hb (fun x hx => hW'.lt x (by simp [hx]))) (trodAll_cons_mk (Below.trod laidOut (by kernel_rfl) (of_decide_eq_true (by kernel_rfl)) rd1 hb (fun x hx => hW'.lt x (by simp [hx]))) trodAll_mk0)) (fun _ _ => rfl) rfl⟩

theorem Minuses.holds : Rows.CidrMinusesSaid :=
  OpenClaim.holds_of_wide 5 Tryd.f5 rfl rfl rfl rfl rfl rfl rfl ⟨rfl, rfl, rfl, rfl, rfl⟩ rfl rfl rfl rfl rfl (by kernel_rfl) Tryd.func5 (by kernel_rfl)
    (of_decide_eq_true (by kernel_rfl)) (by unfold Func.isWrapper; first | (rw [if_pos (by decide +kernel)]; kernel_rfl) | (rw [if_neg (by decide +kernel)]; exact ⟨rfl, rfl⟩))
    (fun os started H enc _ => Minuses.lifted os started H enc)
#print axioms Minuses.holds
theorem Minuses.card : Rows.CidrMinusesCardSaid :=
  Claim7.holds_tied_plain_at .later [] Rows.cidrMinusesCard.laidKinds true Rows.cidrMinusesCard.stood.harness Rows.cidrMinusesCard.stood.looks
    Minuses.holds (fun _ h => by cases h) (by kernel_rfl) (fun _ h => by cases h) cidrMinuses_row_tie rfl ⟨rfl, rfl⟩ (by kernel_rfl) rfl
    (fun f fn hf hfn => by
      obtain rfl : f = 5 := Option.some.inj ((show Tryd.prog.funcNamed "whipcord/whipcordlaw.CidrMinuses" = some 5 by kernel_rfl).symm.trans hf) |>.symm
      obtain rfl : fn = Tryd.f5 := (Option.some.inj (Tryd.func5.symm.trans hfn)).symm
      exact ⟨by kernel_rfl, fun j t ht => by
        rw [Tryd.params5] at ht
        match j, ht with
        | 0, ht => obtain rfl := Option.some.inj ht; exact (show Tryd.prog.wantsStandIn 25 = false by kernel_rfl)
        | 1, ht => obtain rfl := Option.some.inj ht; exact (show Tryd.prog.wantsStandIn 25 = false by kernel_rfl)
        | j + 2, ht => simp at ht⟩)
    (by kernel_rfl)
#print axioms Minuses.card
end Go.Proofs.YtojdlhiibffnfaaDoor

/-
  CidrMerges: cidr.Merge answers what the document says, at every argument.
-/
import Derived.Test.YtojdlhiibffnfaaDoorRows
import Derived.Test.YtojdlhiibffnfaaDoorCards
import Derived.Test.YtojdlhiibffnfaaDoorM1
import Derived.Test.YtojdlhiibffnfaaDoorM2
namespace Go.Proofs.YtojdlhiibffnfaaDoor
open Go.ChangeShapes Go.WideShapes Go.ChangeAt Go.RowKit Go.Joins
set_option linter.unusedVariables false
set_option linter.unusedSimpArgs false

theorem ansL_len (c : Bool → Bool → Bool) (l m : List PT) : (ansL c l m).length ≤ 1000000000 := by
  unfold ansL
  split
  · rename_i h
    obtain ⟨n1, n2, ol, om⟩ := lists0 h
    have := famE_len false c ol om n1 n2
    have := famE_len true c ol om n1 n2
    unfold setE; rw [List.length_append]; omega
  · simp
set_option maxHeartbeats 1000000 in
theorem Merges.core (v0 : Value) (l R : List PT) (E : Int) (hlen : R.length ≤ 1000000000)
    (K1 : Hid (∀ W : World, RowP W v0 l → FamAt W → Calls Tryd.prog 15 #[v0] W (PresOutE R E W)))
    (K2 : Hid (∀ W : World, RowP W v0 l → Calls Tryd.prog 16 #[v0] W (PresOutE R E W)))
    (w : World) (row : RowP w v0 l) (hT : FamAt w) :
    Calls Tryd.prog 4 #[v0] w fun e w' => e = .returned (.bool true) ∧ Below w.heap.size w w' := by
  have RR := Lib.hid row
  have F := Lib.hid hT
  clear hT row
  go_enter Tryd.func4, Tryd.ntmps4
  go_wp2_with fail
  refine (K1.out _ RR.out F.out).mono ?_
  rintro e w1 ⟨v1, rfl, o1, hb1⟩
  have RR := Lib.hid (RR.out.keep hb1)
  have O1 := Lib.hid o1
  clear F o1
  go_wp2_with fail
  refine (K2.out _ RR.out).mono ?_
  rintro e w2 ⟨v2, rfl, o2, hb2⟩
  have b2 := thenBelow hb1 hb2
  have O2 := Lib.hid (samePres_calls _ _ v1 v2 R hlen w2 (ownsKeep O1.out hb2) o2)
  clear O1 o2 hb2 hb1 RR
  go_wp2_with fail
  refine O2.out.mono ?_
  rintro e w3 ⟨rfl, hb3⟩
  have b3 := thenBelow b2 hb3
  clear hb3 b2
  go_wp2
  go_returns
  exact ⟨by simp, b3⟩
theorem Merges.walk (v0 : Value) (l0 : List PT) (wl : Words l0) (hn : l0.length ≤ 9223372036854775807) (w : World) (row : RowP w v0 l0) (hT : Laid1.Tabs w) :
    Calls Tryd.prog 4 #[v0] w fun e w' => e = .returned (.bool true) ∧ Below w.heap.size w w' :=
  Merges.core v0 l0 _ _ (ansL_len _ _ _) (Lib.hid fun W r F => merge_calls l0 v0 hn wl W r F) (Lib.hid fun W r => refMerge_calls l0 v0 hn wl W r) w row hT
theorem Merges.own : ownKnob Tryd.prog.godebug = none := by kernel_rfl
set_option maxRecDepth 100000 in
theorem Merges.lifted (os : Os) (started : os.Started) (H : Type) (enc : TypeId × Value → H) :
    ReturnsInHanded {} Tryd.checked os 4 .any (fun w args => (Rows.cidrMergesSpec.pre enc Tryd.prog Tryd.f4 [] false w args ∧ laidMetH Tryd.prog Rows.cidrMergesRow.laid w) ∧ sizedMet enc Tryd.prog Tryd.f4 (OpenSpec.ofChange Rows.cidrMergesSpec) false w args) (Rows.cidrMergesSpec.post enc Tryd.prog Tryd.f4 false true false false) := by
  refine returnsInHanded_of_change_and (C := Tryd.checked) (X := fun w _ => laidMetH Tryd.prog Rows.cidrMergesRow.laid w) (fun _ _ _ hh h => h.of_heap hh) Merges.own started (by kernel_rfl) Tryd.func4
    (ChangeSpec.witness_at (enc := enc) (C := Tryd.checked) (os := os) (X := fun w _ => laidMetH Tryd.prog Rows.cidrMergesRow.laid w) false (Laid1.world os) #[.slice none 0 0] 8 rfl (by kernel_rfl) (by kernel_rfl) (by kernel_rfl) (by kernel_rfl) (by kernel_rfl) (Laid1.met os _)) ?_
  intro W base args ds gs before hval0 hW hcnd _ hL _
  have hT : Laid1.Tabs W := Laid1.of hL
  have hval : ∀ (j : Nat) t v, Tryd.f4.params[j]? = some t → args[j]? = some v → Value.okWide Tryd.prog W .any base t v := hval0
  have hW' := hW
  obtain ⟨p, q, hA0, hV, rfl, hfz, hnd⟩ := hW
  have hA : DataW.TrodAll enc Tryd.prog W 0 (fun _ => true) true Tryd.f4.params.toList args.toList ds p := hA0
  rw [Tryd.params4] at hA hval
  obtain ⟨v0, vs0, d0, ds0, p0, q0, hargs, rfl, rfl, rd0, r0⟩ := trodAll_cons hA
  obtain ⟨rfl, rfl, rfl⟩ := trodAll_nil r0
  obtain rfl : args = #[v0] := by cases args; simp_all
  obtain ⟨rfl, rfl⟩ := trodVars_none hV
  obtain ⟨l0, row0, wrd0, len0⟩ := openPres (hval 0 25 v0 rfl rfl) rd0
  clear hA0 hval0
  refine (Merges.walk v0 l0 wrd0 len0 W row0 hT).mono fun e W' ⟨he, hb⟩ => ?_
  subst he
  exact ⟨_, rfl, postBelowAt (pv := []) hW' hb (fun _ _ _ => trodAll_cons_mk (shut_bool Tryd.underlying4 _) trodAll_mk0) (trodAll_cons_mk (Below.trod laidOut (by kernel_rfl) (of_decide_eq_true (by kernel_rfl)) rd0 hb (fun x hx => hW'.lt x (by simp [hx]))) trodAll_mk0) (fun _ _ => rfl) rfl⟩

theorem Merges.holds : Rows.CidrMergesSaid :=
  OpenClaim.holds_of_wide 4 Tryd.f4 rfl rfl rfl rfl rfl rfl rfl ⟨rfl, rfl, rfl, rfl, rfl⟩ rfl rfl rfl rfl rfl (by kernel_rfl) Tryd.func4 (by kernel_rfl)
    (of_decide_eq_true (by kernel_rfl)) (by unfold Func.isWrapper; first | (rw [if_pos (by decide +kernel)]; kernel_rfl) | (rw [if_neg (by decide +kernel)]; exact ⟨rfl, rfl⟩))
    (fun os started H enc _ => Merges.lifted os started H enc)
#print axioms Merges.holds
theorem Merges.card : Rows.CidrMergesCardSaid :=
  Claim7.holds_tied_plain_at .later [] Rows.cidrMergesCard.laidKinds true Rows.cidrMergesCard.stood.harness Rows.cidrMergesCard.stood.looks
    Merges.holds (fun _ h => by cases h) (by kernel_rfl) (fun _ h => by cases h) cidrMerges_row_tie rfl ⟨rfl, rfl⟩ (by kernel_rfl) rfl
    (fun f fn hf hfn => by
      obtain rfl : f = 4 := Option.some.inj ((show Tryd.prog.funcNamed "whipcord/whipcordlaw.CidrMerges" = some 4 by kernel_rfl).symm.trans hf) |>.symm
      obtain rfl : fn = Tryd.f4 := (Option.some.inj (Tryd.func4.symm.trans hfn)).symm
      exact ⟨by kernel_rfl, fun j t ht => by
        rw [Tryd.params4] at ht
        match j, ht with
        | 0, ht => obtain rfl := Option.some.inj ht; exact (show Tryd.prog.wantsStandIn 25 = false by kernel_rfl)
        | j + 1, ht => simp at ht⟩)
    (by kernel_rfl)
#print axioms Merges.card
end Go.Proofs.YtojdlhiibffnfaaDoor

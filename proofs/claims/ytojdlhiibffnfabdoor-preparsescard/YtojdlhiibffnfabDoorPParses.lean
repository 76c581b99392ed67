/-
  PreParses: pre.Parse answers what the document says, at every argument.
-/
import Derived.Test.YtojdlhiibffnfabDoorRows
import Derived.Test.YtojdlhiibffnfabDoorLaid7
import Derived.Test.YtojdlhiibffnfabDoorRefPPAll
import Derived.Test.YtojdlhiibffnfabDoorShapes
import Derived.ChangeMaps5
namespace Go.Proofs.YtojdlhiibffnfabDoor
open Go.ChangeShapes Go.WideShapes Go.ChangeAt Go.RowKit Go.Joins
set_option linter.unusedVariables false
set_option linter.unusedSimpArgs false

set_option maxHeartbeats 1000000 in
theorem PParses.core (s : List UInt8) (sx : Bool) (H L n E : Int)
    (K1 : Hid (∀ W : World, RTabs W → Calls Tryd.prog 7 #[.string ⟨s.toArray⟩] W fun e w' => e = .returned (.tuple #[.agg #[.bool sx, .int .u64 H, .int .u64 L, .int .i64 n], .int .i64 E]) ∧ Below W.heap.size W w'))
    (K2 : Hid (∀ W : World, Calls Tryd.prog 8 #[.string ⟨s.toArray⟩] W fun e w' => e = .returned (.tuple #[.agg #[.bool sx, .int .u64 H, .int .u64 L, .int .i64 n], .int .i64 E]) ∧ Below W.heap.size W w'))
    (w : World) (hT : RTabs w) :
    Calls Tryd.prog 4 #[.string ⟨s.toArray⟩] w fun e w' => e = .returned (.bool true) ∧ Below w.heap.size w w' := by
  have HT := Lib.hid hT
  clear hT
  go_enter Tryd.func4, Tryd.ntmps4
  go_wp2_with fail
  refine (K1.out _ HT.out).mono ?_
  rintro e w1 ⟨rfl, hb1⟩
  go_wp2_with fail
  refine (K2.out _).mono ?_
  rintro e w2 ⟨rfl, hb2⟩
  obtain ⟨p0, p1, p2, p3, pl⟩ := (PreAt.new w1 sx H L n 30).keep hb2
  have b2 := thenBelow (thenBelow hb1 ((Below.refl _ w1).alloc (Nat.le_refl _) (.cells #[.bool sx, .int .u64 H, .int .u64 L, .int .i64 n] 30))) hb2
  clear HT hb1 hb2
  go_wp2
  go_returns
  exact ⟨by simp, by first | exact b2.alloc b2.size _ | (go_grown; exact b2.size)⟩
theorem PParses.walk (t : ByteArray) (hm : t.size ≤ maxLen) (w : World) (hT : Laid7.Tabs w) :
    Calls Tryd.prog 4 #[.string t] w fun e w' => e = .returned (.bool true) ∧ Below w.heap.size w w' := by
  obtain ⟨⟨s⟩⟩ := t
  have hm' : s.length ≤ 9223372036854775807 := hm
  have R : RTabs w := hT
  by_cases hl : s.length ≤ 600
  · by_cases hy : ∃ six x n, IsPre s six x n
    · obtain ⟨six, x, n, h⟩ := hy
      exact PParses.core s six (aH x) (aL x) n 0 (Lib.hid (fun W h' => pp_some s six x n h W h')) (Lib.hid (fun W => dp_some s hl six x n h W)) w R
    · have hno : ∀ six x n, ¬ IsPre s six x n := fun six x n h => hy ⟨six, x, n, h⟩
      exact PParses.core s false 0 0 0 4 (Lib.hid (fun W h' => pp_none s hl hno W h')) (Lib.hid (fun W => dp_none s hl hno W)) w R
  · exact PParses.core s false 0 0 0 1 (Lib.hid (fun W h' => pp_long s (by omega) hm' W)) (Lib.hid (fun W => pd_long s (by omega) hm' W)) w R
theorem PParses.own : ownKnob Tryd.prog.godebug = none := by kernel_rfl
set_option maxRecDepth 100000 in
theorem PParses.lifted (os : Os) (started : os.Started) (H : Type) (enc : TypeId × Value → H) :
    ReturnsInHanded {} Tryd.checked os 4 .any (fun w args => (Rows.preParsesSpec.pre enc Tryd.prog Tryd.f4 [] false w args ∧ laidMetH Tryd.prog Rows.preParsesRow.laid w) ∧ sizedMet enc Tryd.prog Tryd.f4 (OpenSpec.ofChange Rows.preParsesSpec) false w args) (Rows.preParsesSpec.post enc Tryd.prog Tryd.f4 false true false false) := by
  refine handed_and_shaped (C := Tryd.checked) (X := fun w _ => laidMetH Tryd.prog Rows.preParsesRow.laid w) (fun _ _ _ hh h => h.of_heap hh) PParses.own started (by kernel_rfl) Tryd.func4
    (ChangeSpec.witness_at (enc := enc) (C := Tryd.checked) (os := os) (X := fun w _ => laidMetH Tryd.prog Rows.preParsesRow.laid w) false (Laid7.world os) #[.string ⟨#[]⟩] 8 rfl (by kernel_rfl) (by kernel_rfl) (by kernel_rfl) (by kernel_rfl) (by kernel_rfl) (Laid7.met os _)) ?_
  intro W base args ds gs before hval0 hW hcnd _ hL hS
  have hT : Laid7.Tabs W := Laid7.of hL hS
  have hval : ∀ (j : Nat) t v, Tryd.f4.params[j]? = some t → args[j]? = some v → Value.okWide Tryd.prog W .any base t v := hval0
  have hW' := hW
  obtain ⟨p, q, hA0, hV, rfl, hfz, hnd⟩ := hW
  have hA : DataW.TrodAll enc Tryd.prog W 0 (fun _ => true) true Tryd.f4.params.toList args.toList ds p := hA0
  rw [Tryd.params4] at hA hval
  obtain ⟨v0, vs0, d0, ds0, p0, q0, hargs, rfl, rfl, rd0, r0⟩ := trodAll_cons hA
  obtain ⟨rfl, rfl, rfl⟩ := trodAll_nil r0
  obtain rfl : args = #[v0] := by cases args; simp_all
  obtain ⟨rfl, rfl⟩ := trodVars_none hV
  obtain ⟨t0, rfl, rfl, rfl, wt0⟩ := Go.ChangeMaps.open_string Tryd.underlying9 (hval 0 9 v0 rfl rfl) rd0
  clear hA0 hval0
  simp only [List.append_nil] at hW'
  refine (PParses.walk t0 wt0 W hT).mono fun e W' ⟨he, hb⟩ => ?_
  subst he
  exact ⟨_, rfl, postBelow (pa := []) (pv := []) hW' hb (fun _ _ _ => trodAll_cons_mk (shut_bool Tryd.underlying4 _) trodAll_mk0) (fun sp _ => trodAll_cons_mk (Go.ChangeMaps.shut_string Tryd.underlying9 wt0) trodAll_mk0) (fun _ _ => rfl) rfl⟩

theorem PParses.holds : Rows.PreParsesSaid :=
  OpenClaim.holds_of_wide 4 Tryd.f4 rfl rfl rfl rfl rfl rfl rfl ⟨rfl, rfl, rfl, rfl, rfl⟩ rfl rfl rfl rfl rfl (by kernel_rfl) Tryd.func4 (by kernel_rfl)
    (of_decide_eq_true (by kernel_rfl)) (by unfold Func.isWrapper; first | (rw [if_pos (by decide +kernel)]; kernel_rfl) | (rw [if_neg (by decide +kernel)]; exact ⟨rfl, rfl⟩))
    (fun os started H enc _ => PParses.lifted os started H enc)
#print axioms PParses.holds
theorem PParses.card : Rows.PreParsesCardSaid :=
  Claim7.holds_tied_plain_at .later [] Rows.preParsesCard.laidKinds true Rows.preParsesCard.stood.harness Rows.preParsesCard.stood.looks
    PParses.holds (fun _ h => by cases h) (by kernel_rfl) (fun _ h => by cases h) preParses_row_tie rfl ⟨rfl, rfl⟩ (by kernel_rfl) rfl
    (fun f fn hf hfn => by
      obtain rfl : f = 4 := Option.some.inj ((show Tryd.prog.funcNamed "whipcord/whipcordlaw.PreParses" = some 4 by kernel_rfl).symm.trans hf) |>.symm
      obtain rfl : fn = Tryd.f4 := (Option.some.inj (Tryd.func4.symm.trans hfn)).symm
      exact ⟨by kernel_rfl, fun j t ht => by
        rw [Tryd.params4] at ht
        match j, ht with
        | 0, ht => obtain rfl := Option.some.inj ht; exact (show Tryd.prog.wantsStandIn 9 = false by kernel_rfl)
        | j + 1, ht => simp at ht⟩)
    (by kernel_rfl)
#print axioms PParses.card
end Go.Proofs.YtojdlhiibffnfabDoor

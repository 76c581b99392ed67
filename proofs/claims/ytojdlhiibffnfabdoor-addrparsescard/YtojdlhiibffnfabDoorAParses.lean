/-
  AddrParses: addr.Parse answers what the document says, at every argument.
-/
import Derived.Test.YtojdlhiibffnfabDoorRows
import Derived.Test.YtojdlhiibffnfabDoorLaid7
import Derived.Test.YtojdlhiibffnfabDoorRefParseI
import Derived.Test.YtojdlhiibffnfabDoorShapes
import Derived.ChangeMaps5
namespace Go.Proofs.YtojdlhiibffnfabDoor
open Go.ChangeShapes Go.WideShapes Go.ChangeAt Go.RowKit Go.Joins
set_option linter.unusedVariables false
set_option linter.unusedSimpArgs false

set_option maxHeartbeats 1000000 in
theorem AParses.core (s : List UInt8) (sx : Bool) (H L E : Int)
    (K1 : Hid (∀ W : World, RTabs W → Calls Tryd.prog 5 #[.string ⟨s.toArray⟩] W fun e w' => e = .returned (.tuple #[.agg #[.bool sx, .int .u64 H, .int .u64 L], .int .i64 E]) ∧ Below W.heap.size W w'))
    (K2 : Hid (∀ W : World, Calls Tryd.prog 6 #[.string ⟨s.toArray⟩] W fun e w' => e = .returned (.tuple #[.agg #[.bool sx, .int .u64 H, .int .u64 L], .int .i64 E]) ∧ Below W.heap.size W w'))
    (w : World) (hT : RTabs w) :
    Calls Tryd.prog 3 #[.string ⟨s.toArray⟩] w fun e w' => e = .returned (.bool true) ∧ Below w.heap.size w w' := by
  have HT := Lib.hid hT
  clear hT
  go_enter Tryd.func3, Tryd.ntmps3
  go_wp2_with fail
  refine (K1.out _ HT.out).mono ?_
  rintro e w1 ⟨rfl, hb1⟩
  go_wp2_with fail
  refine (K2.out _).mono ?_
  rintro e w2 ⟨rfl, hb2⟩
  obtain ⟨p0, p1, p2, pl⟩ := (AddrAt.new w1 sx H L 24).keep hb2
  have b2 := thenBelow (thenBelow hb1 ((Below.refl _ w1).alloc (Nat.le_refl _) (.cells #[.bool sx, .int .u64 H, .int .u64 L] 24))) hb2
  clear HT hb1 hb2
  go_wp2
  go_returns
  exact ⟨by simp, by first | exact b2.alloc b2.size _ | (go_grown; exact b2.size)⟩
theorem AParses.walk (t : ByteArray) (hm : t.size ≤ maxLen) (w : World) (hT : Laid7.Tabs w) :
    Calls Tryd.prog 3 #[.string t] w fun e w' => e = .returned (.bool true) ∧ Below w.heap.size w w' := by
  obtain ⟨⟨s⟩⟩ := t
  have hm' : s.length ≤ 9223372036854775807 := hm
  have R : RTabs w := hT
  by_cases hl : s.length ≤ 600
  · cases hp : parseOf s with
    | none => exact AParses.core s false 0 0 4 (Lib.hid (fun W h => by have := parse_calls s hl W h; rw [hp] at this; exact this)) (Lib.hid (fun W => by have := doc_parse s hl W; rw [hp] at this; exact this)) w R
    | some r =>
      obtain ⟨six, H, L⟩ := r
      exact AParses.core s six H L 0 (Lib.hid (fun W h => by have := parse_calls s hl W h; rw [hp] at this; exact this)) (Lib.hid (fun W => by have := doc_parse s hl W; rw [hp] at this; exact this)) w R
  · exact AParses.core s false 0 0 1 (Lib.hid (fun W _ => parse_long s (by omega) hm' W)) (Lib.hid (fun W => ap_long s (by omega) hm' W)) w R
theorem AParses.own : ownKnob Tryd.prog.godebug = none := by kernel_rfl
set_option maxRecDepth 100000 in
theorem AParses.lifted (os : Os) (started : os.Started) (H : Type) (enc : TypeId × Value → H) :
    ReturnsInHanded {} Tryd.checked os 3 .any (fun w args => (Rows.addrParsesSpec.pre enc Tryd.prog Tryd.f3 [] false w args ∧ laidMetH Tryd.prog Rows.addrParsesRow.laid w) ∧ sizedMet enc Tryd.prog Tryd.f3 (OpenSpec.ofChange Rows.addrParsesSpec) false w args) (Rows.addrParsesSpec.post enc Tryd.prog Tryd.f3 false true false false) := by
  refine handed_and_shaped (C := Tryd.checked) (X := fun w _ => laidMetH Tryd.prog Rows.addrParsesRow.laid w) (fun _ _ _ hh h => h.of_heap hh) AParses.own started (by kernel_rfl) Tryd.func3
    (ChangeSpec.witness_at (enc := enc) (C := Tryd.checked) (os := os) (X := fun w _ => laidMetH Tryd.prog Rows.addrParsesRow.laid w) false (Laid7.world os) #[.string ⟨#[]⟩] 8 rfl (by kernel_rfl) (by kernel_rfl) (by kernel_rfl) (by kernel_rfl) (by kernel_rfl) (Laid7.met os _)) ?_
  intro W base args ds gs before hval0 hW hcnd _ hL hS
  have hT : Laid7.Tabs W := Laid7.of hL hS
  have hval : ∀ (j : Nat) t v, Tryd.f3.params[j]? = some t → args[j]? = some v → Value.okWide Tryd.prog W .any base t v := hval0
  have hW' := hW
  obtain ⟨p, q, hA0, hV, rfl, hfz, hnd⟩ := hW
  have hA : DataW.TrodAll enc Tryd.prog W 0 (fun _ => true) true Tryd.f3.params.toList args.toList ds p := hA0
  rw [Tryd.params3] at hA hval
  obtain ⟨v0, vs0, d0, ds0, p0, q0, hargs, rfl, rfl, rd0, r0⟩ := trodAll_cons hA
  obtain ⟨rfl, rfl, rfl⟩ := trodAll_nil r0
  obtain rfl : args = #[v0] := by cases args; simp_all
  obtain ⟨rfl, rfl⟩ := trodVars_none hV
  obtain ⟨t0, rfl, rfl, rfl, wt0⟩ := Go.ChangeMaps.open_string Tryd.underlying9 (hval 0 9 v0 rfl rfl) rd0
  clear hA0 hval0
  simp only [List.append_nil] at hW'
  refine (AParses.walk t0 wt0 W hT).mono fun e W' ⟨he, hb⟩ => ?_
  subst he
  exact ⟨_, rfl, postBelow (pa := []) (pv := []) hW' hb (fun _ _ _ => trodAll_cons_mk (shut_bool Tryd.underlying4 _) trodAll_mk0) (fun sp _ => trodAll_cons_mk (Go.ChangeMaps.shut_string Tryd.underlying9 wt0) trodAll_mk0) (fun _ _ => rfl) rfl⟩

theorem AParses.holds : Rows.AddrParsesSaid :=
  OpenClaim.holds_of_wide 3 Tryd.f3 rfl rfl rfl rfl rfl rfl rfl ⟨rfl, rfl, rfl, rfl, rfl⟩ rfl rfl rfl rfl rfl (by kernel_rfl) Tryd.func3 (by kernel_rfl)
    (of_decide_eq_true (by kernel_rfl)) (by unfold Func.isWrapper; first | (rw [if_pos (by decide +kernel)]; kernel_rfl) | (rw [if_neg (by decide +kernel)]; exact ⟨rfl, rfl⟩))
    (fun os started H enc _ => AParses.lifted os started H enc)
#print axioms AParses.holds
theorem AParses.card : Rows.AddrParsesCardSaid :=
  Claim7.holds_tied_plain_at .later [] Rows.addrParsesCard.laidKinds true Rows.addrParsesCard.stood.harness Rows.addrParsesCard.stood.looks
    AParses.holds (fun _ h => by cases h) (by kernel_rfl) (fun _ h => by cases h) addrParses_row_tie rfl ⟨rfl, rfl⟩ (by kernel_rfl) rfl
    (fun f fn hf hfn => by
      obtain rfl : f = 3 := Option.some.inj ((show Tryd.prog.funcNamed "whipcord/whipcordlaw.AddrParses" = some 3 by kernel_rfl).symm.trans hf) |>.symm
      obtain rfl : fn = Tryd.f3 := (Option.some.inj (Tryd.func3.symm.trans hfn)).symm
      exact ⟨by kernel_rfl, fun j t ht => by
        rw [Tryd.params3] at ht
        match j, ht with
        | 0, ht => obtain rfl := Option.some.inj ht; exact (show Tryd.prog.wantsStandIn 9 = false by kernel_rfl)
        | j + 1, ht => simp at ht⟩)
    (by kernel_rfl)
#print axioms AParses.card
end Go.Proofs.YtojdlhiibffnfabDoor

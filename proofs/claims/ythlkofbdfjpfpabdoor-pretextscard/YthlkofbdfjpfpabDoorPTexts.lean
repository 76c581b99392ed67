/-
  PROVED: whipcordlaw.PreTexts returns true for every argument, and it reads afterwards as it read before.
-/
import Derived.Test.YthlkofbdfjpfpabDoorLaid
import Derived.Test.YthlkofbdfjpfpabDoorPText
import Derived.Test.YthlkofbdfjpfpabDoorShapesPre
namespace Go.Proofs.YthlkofbdfjpfpabDoor
open Go.ChangeShapes Go.WideShapes Go.ChangeAt Go.RowKit Go.Joins
set_option linter.unusedVariables false
set_option linter.unusedSimpArgs false

set_option maxHeartbeats 1000000 in
theorem PTexts.core (six : Bool) (x : Nat) (n r : Int) (T : ByteArray) (w : World)
    (C1 : Hid (∀ W : World, Tabs W → Calls Tryd.prog 9 #[.agg #[.bool six, .int .u64 (aH x), .int .u64 (aL x), .int .i64 n]] W fun e w' => e = .returned (.tuple #[.string T, .int .i64 r]) ∧ Below W.heap.size W w'))
    (C2 : Hid (∀ W : World, Calls Tryd.prog 10 #[.agg #[.bool six, .int .u64 (aH x), .int .u64 (aL x), .int .i64 n]] W fun e w' => e = .returned (.tuple #[.string T, .int .i64 r]) ∧ Below W.heap.size W w')) (ht : Tabs w) :
    Calls Tryd.prog 4 #[.agg #[.bool six, .int .u64 (aH x), .int .u64 (aL x), .int .i64 n]] w fun e w' => e = .returned (.bool true) ∧ Below w.heap.size w w' := by
  have HT := Lib.hid ht
  clear ht
  go_enter Tryd.func4, Tryd.ntmps4
  go_wp2_with fail
  refine (C1.out _ (HT.out.alloc _)).mono ?_
  rintro e w1 ⟨rfl, hb1⟩
  obtain ⟨p0, p1, p2, p3, pl⟩ := (PreAt.new w six (aH x) (aL x) n 30).keep hb1
  have b1 := thenBelow ((Below.refl _ w).alloc (Nat.le_refl _) _) hb1
  clear hb1
  go_wp2_with fail
  refine (C2.out _).mono ?_
  rintro e w2 ⟨rfl, hb2⟩
  go_wp2
  go_ret
  exact ⟨rfl, thenBelow b1 hb2⟩
theorem PTexts.walk (s0 : Bool) (h0 l0 n0 : Int) (h00 : 0 ≤ h0) (h01 : h0 ≤ 18446744073709551615) (l00 : 0 ≤ l0) (l01 : l0 ≤ 18446744073709551615) (n00 : -9223372036854775808 ≤ n0) (n01 : n0 ≤ 9223372036854775807) (w : World) (ht : Tabs w) :
    Calls Tryd.prog 4 #[.agg #[.bool s0, .int .u64 h0, .int .u64 l0, .int .i64 n0]] w fun e w' => e = .returned (.bool true) ∧ Below w.heap.size w w' := by
  obtain ⟨x, hx, rfl, rfl⟩ := asNum h0 l0 h00 h01 l00 l01
  by_cases hc : chkE s0 x n0 = 0
  · obtain ⟨hxv, n, rfl, hn, hl⟩ := chk0 hc
    exact PTexts.core s0 x n 0 _ w (Lib.hid (fun W h => pText_ok s0 x n hxv hn hc W h)) (Lib.hid (fun W => refPText_ok s0 x n hxv hn hc W)) ht
  · have he : (chkE s0 x n0 == 0) = false := by simpa using hc
    exact PTexts.core s0 x n0 _ _ w (Lib.hid (fun W _ => pText_err s0 x n0 _ hx rfl he W)) (Lib.hid (fun W => refPText_err s0 x n0 _ hx rfl he W)) ht

theorem PTexts.own : ownKnob Tryd.prog.godebug = none := by kernel_rfl
set_option maxRecDepth 100000 in
theorem PTexts.lifted (os : Os) (started : os.Started) (H : Type) (enc : TypeId × Value → H) :
    ReturnsInHanded {} Tryd.checked os 4 .any (fun w args => (Rows.preTextsSpec.pre enc Tryd.prog Tryd.f4 [] false w args ∧ laidMetH Tryd.prog Rows.preTextsRow.laid w) ∧ sizedMet enc Tryd.prog Tryd.f4 (OpenSpec.ofChange Rows.preTextsSpec) false w args) (Rows.preTextsSpec.post enc Tryd.prog Tryd.f4 false true false false) := by
  refine returnsInHanded_of_change_and (C := Tryd.checked) (X := fun w _ => laidMetH Tryd.prog Rows.preTextsRow.laid w) (fun _ _ _ hh h => h.of_heap hh) PTexts.own started (by kernel_rfl) Tryd.func4
    (ChangeSpec.witness_at (enc := enc) (C := Tryd.checked) (os := os) (X := fun w _ => laidMetH Tryd.prog Rows.preTextsRow.laid w) false (Laid3.world os) #[.agg #[.bool false, .int .u64 0, .int .u64 0, .int .i64 0]] 8 rfl (by kernel_rfl) (by kernel_rfl) (by kernel_rfl) (by kernel_rfl) (by kernel_rfl) (Laid3.met os _)) ?_
  intro W base args ds gs before hval0 hW hcnd _ hL _
  have hT : Laid3.Tabs W := Laid3.of hL
  have hval : ∀ (j : Nat) t v, Tryd.f4.params[j]? = some t → args[j]? = some v → Value.okWide Tryd.prog W .any base t v := hval0
  have hW' := hW
  obtain ⟨p, q, hA0, hV, rfl, hfz, hnd⟩ := hW
  have hA : DataW.TrodAll enc Tryd.prog W 0 (fun _ => true) true Tryd.f4.params.toList args.toList ds p := hA0
  rw [Tryd.params4] at hA hval
  obtain ⟨v0, vs0, d0, ds0, p0, q0, hargs, rfl, rfl, rd0, r0⟩ := trodAll_cons hA
  obtain ⟨rfl, rfl, rfl⟩ := trodAll_nil r0
  obtain rfl : args = #[v0] := by cases args; simp_all
  obtain ⟨rfl, rfl⟩ := trodVars_none hV
  obtain ⟨s0, h0, l0, n0, rfl, rfl, rfl, wa0, wb0, wc0⟩ := openPrefix (hval 0 30 v0 rfl rfl) rd0
  clear hA0 hval0
  simp only [List.append_nil] at hW'
  refine (PTexts.walk s0 h0 l0 n0 (u64_of_wf wa0).1 (u64_of_wf wa0).2 (u64_of_wf wb0).1 (u64_of_wf wb0).2 (i64_of_wf wc0).1 (i64_of_wf wc0).2 W hT).mono fun e W' ⟨he, hb⟩ => ?_
  subst he
  exact ⟨_, rfl, postBelow (pa := []) (pv := []) hW' hb (fun _ _ _ => trodAll_cons_mk (shut_bool Tryd.underlying4 _) trodAll_mk0) (fun sp _ => trodAll_cons_mk (shutPrefix wa0 wb0 wc0) trodAll_mk0) (fun _ _ => rfl) rfl⟩

theorem PTexts.holds : Rows.PreTextsSaid :=
  OpenClaim.holds_of_wide 4 Tryd.f4 rfl rfl rfl rfl rfl rfl rfl ⟨rfl, rfl, rfl, rfl, rfl⟩ rfl rfl rfl rfl rfl (by kernel_rfl) Tryd.func4 (by kernel_rfl)
    (of_decide_eq_true (by kernel_rfl)) (by unfold Func.isWrapper; first | (rw [if_pos (by decide +kernel)]; kernel_rfl) | (rw [if_neg (by decide +kernel)]; exact ⟨rfl, rfl⟩))
    (fun os started H enc _ => PTexts.lifted os started H enc)
#print axioms PTexts.holds
theorem PTexts.card : Rows.PreTextsCardSaid :=
  Claim7.holds_tied_plain_at .later [] Rows.preTextsCard.laidKinds true Rows.preTextsCard.stood.harness true
    PTexts.holds (fun _ h => by cases h) (by kernel_rfl) (fun _ h => by cases h) preTexts_row_tie rfl ⟨rfl, rfl⟩ (by kernel_rfl) rfl
    (fun f fn hf hfn => by
      obtain rfl : f = 4 := Option.some.inj ((show Tryd.prog.funcNamed "whipcord/whipcordlaw.PreTexts" = some 4 by kernel_rfl).symm.trans hf) |>.symm
      obtain rfl : fn = Tryd.f4 := (Option.some.inj (Tryd.func4.symm.trans hfn)).symm
      exact ⟨by kernel_rfl, fun j t ht => by
        rw [Tryd.params4] at ht
        match j, ht with
        | 0, ht => obtain rfl := Option.some.inj ht; exact (show Tryd.prog.wantsStandIn 30 = false by kernel_rfl)
        | j + 1, ht => simp at ht⟩)
    (by kernel_rfl)
#print axioms PTexts.card
end Go.Proofs.YthlkofbdfjpfpabDoor

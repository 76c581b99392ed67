/-
  DeltaApplies: for all lists of routes and of acts delta.Apply answers what the document's DeltaApply says. No conditions.
-/
import Derived.Test.YtnpaijmibkbhfaaRows
import Derived.Test.YtnpaijmibkbhfaaRefApply
import Derived.Test.YtnpaijmibkbhfaaSameL
import Derived.Test.YtnpaijmibkbhfaaRowsT
import Derived.Test.YtnpaijmibkbhfaaRowsA
namespace Go.Proofs.Ytnpaijmibkbhfaa
open Go.ChangeShapes Go.WideShapes Go.ChangeAt Go.RowKit Go.Joins
set_option linter.unusedSimpArgs false
set_option linter.unusedVariables false
theorem dapL_len (l : List RT) (P : List ActT) : (dapL l P).length ≤ 1000 := by
  unfold dapL
  split
  · rename_i h
    have h0 : tabE l = 0 := by
      unfold dapE at h
      split at h
      · assumption
      · rename_i h1; exact absurd h h1
    have e1 : sorL l = srt l := by rw [sorL, if_pos h0]
    have := (appL_inv P (srt_inv h0)).size
    rw [e1]; omega
  · simp
set_option maxHeartbeats 2000000 in
theorem DApplies.walk (v0 : Value) (l0 : List RT) (v1 : Value) (l1 : List ActT) (wrd0 : WordsR l0) (len0 : l0.length ≤ 9223372036854775807) (wrd1 : WordsA l1) (len1 : l1.length ≤ 9223372036854775807) (w : World) (row0 : RowR w v0 l0) (row1 : RowA w v1 l1) :
    Calls Try.prog 4 #[v0, v1] w fun e w' => e = .returned (.bool true) ∧ Below w.heap.size w w' := by
  have C1 := Lib.hid (dapply_calls l0 l1 v0 v1 len0 wrd0 len1 wrd1 w row0 row1)
  have C2 := Lib.hid (fun (W : World) (r1 : RowR W v0 l0) (r2 : RowA W v1 l1) => refApply_calls l0 l1 v0 v1 len0 wrd0 len1 wrd1 W r1 r2)
  have hx := dapL_len l0 l1
  generalize dapL l0 l1 = X at C1 C2 hx
  generalize dapE l0 l1 = E at C1 C2
  have SM := Lib.hid (fun (u1 u2 : Value) (W : World) (r1 : RowR W u1 X) (r2 : RowR W u2 X) => sameRoutesL_calls u1 u2 X hx W r1 r2)
  have R0 := Lib.hid row0
  have R1 := Lib.hid row1
  obtain ⟨p1, q1, rfl⟩ := row0.form
  obtain ⟨p2, q2, rfl⟩ := row1.form
  clear row0 row1 hx
  go_enter Try.func4, Try.ntmps4
  go_wp2_with fail
  refine C1.out.mono ?_
  rintro e w1 ⟨u, rfl, ho, hb1⟩
  have S0 := Lib.hid (R0.out.keep hb1)
  have S1 := Lib.hid (R1.out.keep hb1)
  have HO := Lib.hid ho
  obtain ⟨up, uc, rfl⟩ := ho.row.form
  clear C1 R0 R1 ho
  go_wp2_with fail
  refine (C2.out _ S0.out S1.out).mono ?_
  rintro e w2 ⟨u2, rfl, ho2, hb2⟩
  have b2 := thenBelow hb1 hb2
  obtain ⟨vp, vc, rfl⟩ := ho2.row.form
  have SS := SM.out _ _ w2 (OwnR.row (ownsKeep HO.out hb2)) ho2.row
  clear C2 S0 S1 hb1 hb2 HO ho2 SM
  go_wp2_with fail
  refine SS.mono ?_
  rintro e w3 ⟨rfl, hb3⟩
  have b3 := thenBelow b2 hb3
  clear SS
  go_wp2
  go_ret
  exact ⟨by simp, b3⟩
theorem DApplies.own : ownKnob Try.prog.godebug = none := by kernel_rfl
set_option maxRecDepth 100000 in
theorem DApplies.lifted (os : Os) (started : os.Started) (H : Type) (enc : TypeId × Value → H) :
    ReturnsInHanded {} Try.checked os 4 .any (Rows.deltaAppliesSpec.pre6 enc Try.prog Try.f4 Rows.deltaAppliesRow.domain false) (Rows.deltaAppliesSpec.post enc Try.prog Try.f4 false true false false) := by
  refine returnsInHanded_of_change (C := Try.checked) DApplies.own started (by kernel_rfl) Try.func4
    (ChangeSpec.witness6 (enc := enc) (C := Try.checked) false ⟨#[], #[.slice none 0 0, .slice none 0 0], []⟩ 8 (by kernel_rfl) (by kernel_rfl) (by kernel_rfl) (by kernel_rfl)) ?_
  intro W base args ds gs before hval0 hW hcnd _
  have hval : ∀ (j : Nat) t v, Try.f4.params[j]? = some t → args[j]? = some v → Value.okWide Try.prog W .any base t v := hval0
  have hW' := hW
  obtain ⟨p, q, hA0, hV, rfl, hfz, hnd⟩ := hW
  have hA : DataW.TrodAll enc Try.prog W 0 (fun _ => true) true Try.f4.params.toList args.toList ds p := hA0
  rw [Try.params4] at hA hval
  obtain ⟨v0, vs0, d0, ds0, p0, q0, hargs, rfl, rfl, rd0, r0⟩ := trodAll_cons hA
  obtain ⟨v1, vs1, d1, ds1, p1, q1, rfl, rfl, rfl, rd1, r1⟩ := trodAll_cons r0
  obtain ⟨rfl, rfl, rfl⟩ := trodAll_nil r1
  obtain rfl : args = #[v0, v1] := by cases args; simp_all
  obtain ⟨rfl, rfl⟩ := trodVars_none hV
  obtain ⟨l0, row0, wrd0, len0⟩ := openRoutes (hval 0 32 v0 rfl rfl) rd0
  obtain ⟨l1, row1, wrd1, len1⟩ := openActs (hval 1 33 v1 rfl rfl) rd1
  clear hA0 hval0
  refine (DApplies.walk v0 l0 v1 l1 wrd0 len0 wrd1 len1 W row0 row1).mono fun e W' ⟨he, hb⟩ => ?_
  subst he
  exact ⟨_, rfl, postBelowR (pv := []) hW' hb (fun _ _ _ => trodAll_cons_mk (shut_bool Try.underlying4 _) trodAll_mk0) (trodAll_cons_mk (Below.trod laidOutR (by kernel_rfl) (of_decide_eq_true (by kernel_rfl)) rd0 hb (fun x hx => hW'.lt x (by simp [hx]))) (trodAll_cons_mk (Below.trod laidOutR (by kernel_rfl) (of_decide_eq_true (by kernel_rfl)) rd1 hb (fun x hx => hW'.lt x (by simp [hx]))) trodAll_mk0)) (fun _ _ => rfl) rfl⟩

theorem DApplies.holds : Rows.DeltaAppliesSaid :=
  OpenClaim.holds_of_wide 4 Try.f4 rfl rfl rfl rfl rfl rfl rfl ⟨rfl, rfl, rfl, rfl, rfl⟩ rfl rfl rfl rfl rfl (by kernel_rfl) Try.func4 (by kernel_rfl)
    (of_decide_eq_true (by kernel_rfl)) (by unfold Func.isWrapper; first | (rw [if_pos (by decide +kernel)]; kernel_rfl) | (rw [if_neg (by decide +kernel)]; exact ⟨rfl, rfl⟩))
    (fun os started H enc _ => DApplies.lifted os started H enc)
#print axioms DApplies.holds
end Go.Proofs.Ytnpaijmibkbhfaa

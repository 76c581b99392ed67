/-
  FewestFews: for every list of routes fewest.Fewest answers as the document says: what it refuses, or a table that goes the same ways and has as few routes as there can be. No conditions.
-/
import Derived.Test.YtgajepmnklbmpaaRows
import Derived.Test.YtgajepmnklbmpaaFFewA
import Derived.Test.YtgajepmnklbmpaaG17
import Derived.Test.YtgajepmnklbmpaaRowsT
import Derived.Test.YtgajepmnklbmpaaG11
namespace Go.Proofs.Ytgajepmnklbmpaa
open Go.ChangeShapes Go.WideShapes Go.ChangeAt Go.RowKit Go.Joins
set_option linter.unusedSimpArgs false
set_option linter.unusedVariables false
set_option maxHeartbeats 4000000 in
theorem Fews.walk (v0 : Value) (l0 : List RT) (wrd0 : WordsR l0) (len0 : l0.length ≤ 9223372036854775807) (w : World) (row0 : RowR w v0 l0) :
    Calls Try.prog 6 #[v0] w fun e w' => e = .returned (.bool true) ∧ Below w.heap.size w w' := by
  have R0 := Lib.hid row0
  by_cases h0 : fwE l0 = 0
  · have ht := (fwE_0 h0).1
    have hx := fw_tab h0
    have C1 := Lib.hid (fewest_ok l0 v0 h0 wrd0 w row0)
    have C2 := Lib.hid (fun (W : World) (r : RowR W v0 l0) => fewFault_calls l0 v0 len0 wrd0 W r)
    have C3 := Lib.hid (fun (u : Value) (W : World) (r1 : RowR W v0 l0) (r2 : RowR W u (fwL l0)) => by
      have := refSame_calls l0 (fwL l0) v0 u len0 (by have := (tabE_val hx).2.2; omega) wrd0 (fun r hr => lt128 (chk0 ((tabE_val hx).1 r hr)).1) W r1 r2
      have e0 : fsE l0 (fwL l0) = 0 := by rw [fsE, if_pos ht, hx]
      rw [e0, if_pos rfl] at this
      rw [show (swE false l0 (fwL l0) (wideN false) 0 0 0 && swE true l0 (fwL l0) (wideN true) 0 0 0) = true from by
        rw [sw_same (tabE_val ht).1 (tabE_val hx).1 (dist_tab ht) (dist_tab hx)]
        exact (fw_same h0).symm] at this
      exact this)
    have C4 := Lib.hid (fun (W : World) (r : RowR W v0 l0) => fewMany_calls l0 v0 (tabE_val ht).1 (tabE_val ht).2.2 W r)
    have HL := Lib.hid (show cstT (dvT false l0 32 0 0) 0 = (fwL l0).length from cstT_ec (dvT_good false l0 32 0 0) 0)
    rw [HL.out] at C4
    rw [h0] at C2
    obtain ⟨p, c, rfl⟩ := row0.form
    clear row0 wrd0 h0 hx ht HL
    generalize fwL l0 = X at C1 C3 C4
    go_enter Try.func6, Try.ntmps6
    go_wp2_with fail
    refine C1.out.mono ?_
    rintro e w1 ⟨u, rfl, o1, hb1⟩
    have S1 := Lib.hid (R0.out.keep hb1)
    have X1 := Lib.hid (OwnR.row o1)
    obtain ⟨xp, xc, rfl⟩ := X1.out.form
    clear C1 o1 R0
    go_wp2_with fail
    refine (C2.out _ S1.out).mono ?_
    rintro e w2 ⟨rfl, hb2⟩
    have S2 := Lib.hid (S1.out.keep hb2)
    have X2 := Lib.hid (X1.out.keep hb2)
    have b2 := thenBelow hb1 hb2
    clear C2 S1 X1 hb1 hb2
    go_wp2_with fail
    refine (C3.out _ _ S2.out X2.out).mono ?_
    rintro e w3 ⟨rfl, hb3⟩
    have S3 := Lib.hid (S2.out.keep hb3)
    have b3 := thenBelow b2 hb3
    clear C3 S2 X2 b2 hb3
    go_wp2_with fail
    refine (C4.out _ S3.out).mono ?_
    rintro e w4 ⟨rfl, hb4⟩
    have b4 := thenBelow b3 hb4
    clear C4 S3 b3 hb4
    go_wp2
    go_ret
    exact ⟨by simp, b4⟩
  · have C1 := Lib.hid (fewest_calls l0 v0 len0 wrd0 w row0)
    have C2 := Lib.hid (fun (W : World) (r : RowR W v0 l0) => fewFault_calls l0 v0 len0 wrd0 W r)
    rw [fwR, if_neg h0] at C1
    obtain ⟨p, c, rfl⟩ := row0.form
    generalize fwE l0 = t at C1 C2 h0
    have hz1 : (t == 0) = false := by simpa using h0
    have hz2 : (t != 0) = true := by simp [bne, hz1]
    clear row0 wrd0 h0
    go_enter Try.func6, Try.ntmps6
    go_wp2_with fail
    refine C1.out.mono ?_
    rintro e w1 ⟨u, rfl, o1, hb1⟩
    have S1 := Lib.hid (R0.out.keep hb1)
    have X1 := Lib.hid (OwnR.row o1)
    obtain ⟨xp, xc, rfl⟩ := X1.out.form
    clear C1 o1 R0
    go_wp2_with fail
    refine (C2.out _ S1.out).mono ?_
    rintro e w2 ⟨rfl, hb2⟩
    have b2 := thenBelow hb1 hb2
    clear C2 S1 X1 hb1 hb2
    go_wp2
    go_ret
    exact ⟨by simp, b2⟩
theorem Fews.own : ownKnob Try.prog.godebug = none := by kernel_rfl
set_option maxRecDepth 100000 in
theorem Fews.lifted (os : Os) (started : os.Started) (H : Type) (enc : TypeId × Value → H) :
    ReturnsInHanded {} Try.checked os 6 .any (Rows.fewestFewsSpec.pre6 enc Try.prog Try.f6 Rows.fewestFewsRow.domain false) (Rows.fewestFewsSpec.post enc Try.prog Try.f6 false true false false) := by
  refine returnsInHanded_of_change (C := Try.checked) Fews.own started (by kernel_rfl) Try.func6
    (ChangeSpec.witness6 (enc := enc) (C := Try.checked) false ⟨#[], #[.slice none 0 0], []⟩ 8 (by kernel_rfl) (by kernel_rfl) (by kernel_rfl) (by kernel_rfl)) ?_
  intro W base args ds gs before hval0 hW hcnd _
  have hval : ∀ (j : Nat) t v, Try.f6.params[j]? = some t → args[j]? = some v → Value.okWide Try.prog W .any base t v := hval0
  have hW' := hW
  obtain ⟨p, q, hA0, hV, rfl, hfz, hnd⟩ := hW
  have hA : DataW.TrodAll enc Try.prog W 0 (fun _ => true) true Try.f6.params.toList args.toList ds p := hA0
  rw [Try.params6] at hA hval
  obtain ⟨v0, vs0, d0, ds0, p0, q0, hargs, rfl, rfl, rd0, r0⟩ := trodAll_cons hA
  obtain ⟨rfl, rfl, rfl⟩ := trodAll_nil r0
  obtain rfl : args = #[v0] := by cases args; simp_all
  obtain ⟨rfl, rfl⟩ := trodVars_none hV
  obtain ⟨l0, row0, wrd0, len0⟩ := openRoutes (hval 0 33 v0 rfl rfl) rd0
  clear hA0 hval0
  refine (Fews.walk v0 l0 wrd0 len0 W row0).mono fun e W' ⟨he, hb⟩ => ?_
  subst he
  exact ⟨_, rfl, postBelowR (pv := []) hW' hb (fun _ _ _ => trodAll_cons_mk (shut_bool Try.underlying4 _) trodAll_mk0) (trodAll_cons_mk (Below.trod laidOutR (by kernel_rfl) (of_decide_eq_true (by kernel_rfl)) rd0 hb (fun x hx => hW'.lt x (by simp [hx]))) trodAll_mk0) (fun _ _ => rfl) rfl⟩

theorem Fews.holds : Rows.FewestFewsSaid :=
  OpenClaim.holds_of_wide 6 Try.f6 rfl rfl rfl rfl rfl rfl rfl ⟨rfl, rfl, rfl, rfl, rfl⟩ rfl rfl rfl rfl rfl (by kernel_rfl) Try.func6 (by kernel_rfl)
    (of_decide_eq_true (by kernel_rfl)) (by unfold Func.isWrapper; first | (rw [if_pos (by decide +kernel)]; kernel_rfl) | (rw [if_neg (by decide +kernel)]; exact ⟨rfl, rfl⟩))
    (fun os started H enc _ => Fews.lifted os started H enc)
#print axioms Fews.holds
end Go.Proofs.Ytgajepmnklbmpaa

/-
  DeltaDiffs: for all lists of routes delta.Diff answers what the document's DeltaDiff says. No conditions.
-/
import Derived.Test.YtepfcphhgmmlhaaRows
import Derived.Test.YtepfcphhgmmlhaaDeltaF
import Derived.Test.YtepfcphhgmmlhaaSameA
import Derived.Test.YtepfcphhgmmlhaaRowsT
namespace Go.Proofs.Ytepfcphhgmmlhaa
open Go.ChangeShapes Go.WideShapes Go.ChangeAt Go.RowKit Go.Joins
set_option linter.unusedSimpArgs false
set_option linter.unusedVariables false
set_option maxHeartbeats 2000000 in
theorem refDiff_calls (l m : List RT) (v t : Value) (ll : l.length ≤ 9223372036854775807) (lm : m.length ≤ 9223372036854775807) (wl : WordsR l) (wm : WordsR m) (w : World) (r1 : RowR w v l) (r2 : RowR w t m) :
    Calls Try.prog 18 #[v, t] w fun e w' => ∃ u, e = .returned (.tuple #[u, .int .i64 (dfE l m)]) ∧ OwnA w' w.heap.size u (dfL l m) ∧ Below w.heap.size w w' := by
  by_cases h1 : tabE l = 0
  · by_cases h2 : tabE m = 0
    · have e0 : dfE l m = 0 := by rw [dfE, if_pos h1, h2]
      rw [e0, dfL, if_pos e0]
      exact refDiff_ok l m v t h1 h2 wl wm w r1 r2
    · have E := Lib.hid (show dfE l m = tabE m ∧ dfL l m = [] by
        have : dfE l m = tabE m := by rw [dfE, if_pos h1]
        exact ⟨this, by rw [dfL, this, if_neg h2]⟩)
      rw [E.out.1]
      have F1 := Lib.hid (tableFault_calls l v ll wl w r1)
      have F2 := Lib.hid (fun (W : World) (r : RowR W t m) => tableFault_calls m t lm wm W r)
      have R2 := Lib.hid r2
      obtain ⟨p1, c1, rfl⟩ := r1.form
      obtain ⟨p2, c2, rfl⟩ := r2.form
      rw [h1] at F1
      generalize tabE m = t at F2 h2 ⊢
      have hz1 : (t == 0) = false := by simpa using h2
      have hz2 : (t != 0) = true := by simp [bne, hz1]
      clear r1 r2 h1
      go_enter Try.func18, Try.ntmps18
      go_wp2_with fail
      refine F1.out.mono ?_
      rintro e w1 ⟨rfl, hb1⟩
      have R3 := Lib.hid (R2.out.keep hb1)
      clear F1 R2
      go_wp2_with fail
      refine (F2.out _ R3.out).mono ?_
      rintro e w2 ⟨rfl, hb2⟩
      have b2 := thenBelow hb1 hb2
      clear F2 R3 hb1 hb2
      go_wp2
      go_ret2
      exact ⟨.slice none 0 0, by simp, by rw [E.out.2]; exact World.ownsRow_nil _ _ _ _, b2⟩
  · have E := Lib.hid (show dfE l m = tabE l ∧ dfL l m = [] by
      have : dfE l m = tabE l := by rw [dfE, if_neg h1]
      exact ⟨this, by rw [dfL, this, if_neg h1]⟩)
    rw [E.out.1]
    have F1 := Lib.hid (tableFault_calls l v ll wl w r1)
    obtain ⟨p1, c1, rfl⟩ := r1.form
    obtain ⟨p2, c2, rfl⟩ := r2.form
    generalize tabE l = t at F1 h1 ⊢
    have hz1 : (t == 0) = false := by simpa using h1
    have hz2 : (t != 0) = true := by simp [bne, hz1]
    clear r1 r2
    go_enter Try.func18, Try.ntmps18
    go_wp2_with fail
    refine F1.out.mono ?_
    rintro e w1 ⟨rfl, hb1⟩
    clear F1
    go_wp2
    go_ret2
    exact ⟨.slice none 0 0, by simp, by rw [E.out.2]; exact World.ownsRow_nil _ _ _ _, hb1⟩
theorem dfL_len (l m : List RT) : (dfL l m).length ≤ 1000 := by
  unfold dfL
  split
  · rename_i h
    unfold dfE at h
    split at h
    · rename_i h1
      have a := (srt_inv h1).size
      have b := (srt_inv h).size
      have c := cutsL_len (srt l) (srt m)
      have d := wiL_len (srt m) (srt l)
      unfold difL
      rw [List.length_append, putsL_len]; omega
    · rename_i h1; exact absurd h h1
  · simp
set_option maxHeartbeats 2000000 in
theorem DDiffs.walk (v0 : Value) (l0 : List RT) (v1 : Value) (l1 : List RT) (wrd0 : WordsR l0) (len0 : l0.length ≤ 9223372036854775807) (wrd1 : WordsR l1) (len1 : l1.length ≤ 9223372036854775807) (w : World) (row0 : RowR w v0 l0) (row1 : RowR w v1 l1) :
    Calls Try.prog 5 #[v0, v1] w fun e w' => e = .returned (.bool true) ∧ Below w.heap.size w w' := by
  have C1 := Lib.hid (diff_calls l0 l1 v0 v1 len0 len1 wrd0 wrd1 w row0 row1)
  have C2 := Lib.hid (fun (W : World) (r1 : RowR W v0 l0) (r2 : RowR W v1 l1) => refDiff_calls l0 l1 v0 v1 len0 len1 wrd0 wrd1 W r1 r2)
  have hx := dfL_len l0 l1
  generalize dfL l0 l1 = X at C1 C2 hx
  generalize dfE l0 l1 = E at C1 C2
  have SM := Lib.hid (fun (u1 u2 : Value) (W : World) (r1 : RowA W u1 X) (r2 : RowA W u2 X) => sameActs_calls u1 u2 X hx W r1 r2)
  have R0 := Lib.hid row0
  have R1 := Lib.hid row1
  obtain ⟨p1, q1, rfl⟩ := row0.form
  obtain ⟨p2, q2, rfl⟩ := row1.form
  clear row0 row1 hx
  go_enter Try.func5, Try.ntmps5
  go_wp2_with fail
  refine C1.out.mono ?_
  rintro e w1 ⟨u, rfl, ho, hb1⟩
  have S0 := Lib.hid (R0.out.keep hb1)
  have S1 := Lib.hid (R1.out.keep hb1)
  have HO := Lib.hid ho
  obtain ⟨up, uc, rfl⟩ := ho.row.form
  clear C1 R0 R1 ho
  go_wp2_with fail
  refine (C2.out _ S0.out S1.out).mono ?_
  rintro e w2 ⟨u2, rfl, ho2, hb2⟩
  have b2 := thenBelow hb1 hb2
  obtain ⟨vp, vc, rfl⟩ := ho2.row.form
  have SS := SM.out _ _ w2 (OwnA.row (ownsKeep HO.out hb2)) ho2.row
  clear C2 S0 S1 hb1 hb2 HO ho2 SM
  go_wp2_with fail
  refine SS.mono ?_
  rintro e w3 ⟨rfl, hb3⟩
  have b3 := thenBelow b2 hb3
  clear SS
  go_wp2
  go_ret
  exact ⟨by simp, b3⟩
theorem DDiffs.own : ownKnob Try.prog.godebug = none := by kernel_rfl
set_option maxRecDepth 100000 in
theorem DDiffs.lifted (os : Os) (started : os.Started) (H : Type) (enc : TypeId × Value → H) :
    ReturnsInHanded {} Try.checked os 5 .any (Rows.deltaDiffsSpec.pre6 enc Try.prog Try.f5 Rows.deltaDiffsRow.domain false) (Rows.deltaDiffsSpec.post enc Try.prog Try.f5 false true false false) := by
  refine returnsInHanded_of_change (C := Try.checked) DDiffs.own started (by kernel_rfl) Try.func5
    (ChangeSpec.witness6 (enc := enc) (C := Try.checked) false ⟨#[], #[.slice none 0 0, .slice none 0 0], []⟩ 8 (by kernel_rfl) (by kernel_rfl) (by kernel_rfl) (by kernel_rfl)) ?_
  intro W base args ds gs before hval0 hW hcnd _
  have hval : ∀ (j : Nat) t v, Try.f5.params[j]? = some t → args[j]? = some v → Value.okWide Try.prog W .any base t v := hval0
  have hW' := hW
  obtain ⟨p, q, hA0, hV, rfl, hfz, hnd⟩ := hW
  have hA : DataW.TrodAll enc Try.prog W 0 (fun _ => true) true Try.f5.params.toList args.toList ds p := hA0
  rw [Try.params5] at hA hval
  obtain ⟨v0, vs0, d0, ds0, p0, q0, hargs, rfl, rfl, rd0, r0⟩ := trodAll_cons hA
  obtain ⟨v1, vs1, d1, ds1, p1, q1, rfl, rfl, rfl, rd1, r1⟩ := trodAll_cons r0
  obtain ⟨rfl, rfl, rfl⟩ := trodAll_nil r1
  obtain rfl : args = #[v0, v1] := by cases args; simp_all
  obtain ⟨rfl, rfl⟩ := trodVars_none hV
  obtain ⟨l0, row0, wrd0, len0⟩ := openRoutes (hval 0 27 v0 rfl rfl) rd0
  obtain ⟨l1, row1, wrd1, len1⟩ := openRoutes (hval 1 27 v1 rfl rfl) rd1
  clear hA0 hval0
  refine (DDiffs.walk v0 l0 v1 l1 wrd0 len0 wrd1 len1 W row0 row1).mono fun e W' ⟨he, hb⟩ => ?_
  subst he
  exact ⟨_, rfl, postBelowR (pv := []) hW' hb (fun _ _ _ => trodAll_cons_mk (shut_bool Try.underlying4 _) trodAll_mk0) (trodAll_cons_mk (Below.trod laidOutR (by kernel_rfl) (of_decide_eq_true (by kernel_rfl)) rd0 hb (fun x hx => hW'.lt x (by simp [hx]))) (trodAll_cons_mk (Below.trod laidOutR (by kernel_rfl) (of_decide_eq_true (by kernel_rfl)) rd1 hb (fun x hx => hW'.lt x (by simp [hx]))) trodAll_mk0)) (fun _ _ => rfl) rfl⟩

theorem DDiffs.holds : Rows.DeltaDiffsSaid :=
  OpenClaim.holds_of_wide 5 Try.f5 rfl rfl rfl rfl rfl rfl rfl ⟨rfl, rfl, rfl, rfl, rfl⟩ rfl rfl rfl rfl rfl (by kernel_rfl) Try.func5 (by kernel_rfl)
    (of_decide_eq_true (by kernel_rfl)) (by unfold Func.isWrapper; first | (rw [if_pos (by decide +kernel)]; kernel_rfl) | (rw [if_neg (by decide +kernel)]; exact ⟨rfl, rfl⟩))
    (fun os started H enc _ => DDiffs.lifted os started H enc)
#print axioms DDiffs.holds
end Go.Proofs.Ytepfcphhgmmlhaa

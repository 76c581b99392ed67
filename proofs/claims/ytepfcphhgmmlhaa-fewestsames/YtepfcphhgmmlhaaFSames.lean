/-
  FewestSames: for all lists of routes fewest.Same answers what the document's FewestSame says. No conditions.
-/
import Derived.Test.YtepfcphhgmmlhaaRows
import Derived.Test.YtepfcphhgmmlhaaSameF
import Derived.Test.YtepfcphhgmmlhaaG10
import Derived.Test.YtepfcphhgmmlhaaRowsT
import Derived.Test.YtepfcphhgmmlhaaG5
namespace Go.Proofs.Ytepfcphhgmmlhaa
open Go.ChangeShapes Go.WideShapes Go.ChangeAt Go.RowKit Go.Joins
set_option linter.unusedSimpArgs false
set_option linter.unusedVariables false
/-- What both say. -/
def fsB (l m : List RT) : Bool := if fsE l m = 0 then swE false l m (wideN false) 0 0 0 && swE true l m (wideN true) 0 0 0 else false
theorem fs_eq {l m : List RT} (hl : tabE l = 0) (hm : tabE m = 0) : (!(chgL (l ++ m)).any (difA l m)) = (swE false l m (wideN false) 0 0 0 && swE true l m (wideN true) 0 0 0) := by
  have a := same_dif hl hm
  have b := sw_same (tabE_val hl).1 (tabE_val hm).1 (dist_tab hl) (dist_tab hm)
  rw [Bool.eq_iff_iff, b, ← a]
  simp
set_option maxHeartbeats 2000000 in
theorem fewSame_calls (l m : List RT) (v1 v2 : Value) (hl : l.length ≤ 9223372036854775807) (hm : m.length ≤ 9223372036854775807) (wl : WordsR l) (wm : WordsR m) (w : World) (r1 : RowR w v1 l) (r2 : RowR w v2 m) :
    Calls Try.prog 26 #[v1, v2] w fun e w' => e = .returned (.tuple #[.bool (fsB l m), .int .i64 (fsE l m)]) ∧ Below w.heap.size w w' := by
  by_cases h1 : tabE l = 0
  · by_cases h2 : tabE m = 0
    · have e0 : fsE l m = 0 := by rw [fsE, if_pos h1, h2]
      rw [e0, fsB, if_pos e0, ← fs_eq h1 h2]
      exact same_ok l m v1 v2 h1 h2 wl wm w r1 r2
    · have e0 : fsE l m = tabE m := by rw [fsE, if_pos h1]
      rw [show fsB l m = false by rw [fsB, e0, if_neg h2], e0]
      have bA := ((Below.refl w.heap.size w).alloc (Nat.le_refl _) (.cells #[v1] 27)).alloc (by simp) (.cells #[v2] 27)
      have F1 := Lib.hid (tableCheck_calls l v1 hl wl _ (r1.keep bA))
      have F2 := Lib.hid (fun (W : World) (r : RowR W v2 m) => tableCheck_calls m v2 hm wm W r)
      have R2 := Lib.hid (r2.keep bA)
      have hA1 : ((w.alloc (.cells #[v1] 27)).alloc (.cells #[v2] 27)).cell? ⟨w.heap.size + 1, 0, none⟩ = some v2 := by simp
      have hs1 : w.heap.size + 1 < ((w.alloc (.cells #[v1] 27)).alloc (.cells #[v2] 27)).heap.size := by simp
      obtain ⟨p1, q1, rfl⟩ := r1.form
      obtain ⟨p2, q2, rfl⟩ := r2.form
      rw [h1] at F1
      generalize tabE m = t at F2 h2 ⊢
      have hz1 : (t == 0) = false := by simpa using h2
      have hz2 : (t != 0) = true := by simp [bne, hz1]
      clear r1 r2 e0 h1
      go_enter Try.func26, Try.ntmps26
      go_wp2_with fail
      refine F1.out.mono ?_
      rintro e w1 ⟨rfl, hb1⟩
      have d1 := (hb1.cell (p := ⟨w.heap.size + 1, 0, none⟩) hs1).trans hA1
      have R3 := Lib.hid (R2.out.keep hb1)
      have b1 := thenBelow bA hb1
      clear F1 R2 hA1 hb1 bA
      go_wp2_with fail
      refine (F2.out _ R3.out).mono ?_
      rintro e w2 ⟨rfl, hb2⟩
      have b2 := thenBelow b1 hb2
      clear F2 R3 b1 hb2
      go_wp2
      go_ret2
      exact ⟨by simp, b2⟩
  · have e0 : fsE l m = tabE l := by rw [fsE, if_neg h1]
    rw [show fsB l m = false by rw [fsB, e0, if_neg h1], e0]
    have bA := ((Below.refl w.heap.size w).alloc (Nat.le_refl _) (.cells #[v1] 27)).alloc (by simp) (.cells #[v2] 27)
    have F1 := Lib.hid (tableCheck_calls l v1 hl wl _ (r1.keep bA))
    obtain ⟨p1, q1, rfl⟩ := r1.form
    obtain ⟨p2, q2, rfl⟩ := r2.form
    generalize tabE l = t at F1 h1 ⊢
    have hz1 : (t == 0) = false := by simpa using h1
    have hz2 : (t != 0) = true := by simp [bne, hz1]
    clear r1 r2 e0
    go_enter Try.func26, Try.ntmps26
    go_wp2_with fail
    refine F1.out.mono ?_
    rintro e w1 ⟨rfl, hb1⟩
    have b1 := thenBelow bA hb1
    clear F1 hb1 bA
    go_wp2
    go_ret2
    exact ⟨by simp, b1⟩
set_option maxHeartbeats 2000000 in
theorem FSames.walk (v0 : Value) (l0 : List RT) (v1 : Value) (l1 : List RT) (wrd0 : WordsR l0) (len0 : l0.length ≤ 9223372036854775807) (wrd1 : WordsR l1) (len1 : l1.length ≤ 9223372036854775807) (w : World) (row0 : RowR w v0 l0) (row1 : RowR w v1 l1) :
    Calls Try.prog 11 #[v0, v1] w fun e w' => e = .returned (.bool true) ∧ Below w.heap.size w w' := by
  have C1 := Lib.hid (fewSame_calls l0 l1 v0 v1 len0 len1 wrd0 wrd1 w row0 row1)
  have C2 := Lib.hid (fun (W : World) (r1 : RowR W v0 l0) (r2 : RowR W v1 l1) => refSame_calls l0 l1 v0 v1 len0 len1 wrd0 wrd1 W r1 r2)
  rw [show (if fsE l0 l1 = 0 then swE false l0 l1 (wideN false) 0 0 0 && swE true l0 l1 (wideN true) 0 0 0 else false) = fsB l0 l1 from rfl] at C2
  have R0 := Lib.hid row0
  have R1 := Lib.hid row1
  obtain ⟨p1, q1, rfl⟩ := row0.form
  obtain ⟨p2, q2, rfl⟩ := row1.form
  generalize fsB l0 l1 = B at C1 C2
  generalize fsE l0 l1 = E at C1 C2
  clear row0 row1
  go_enter Try.func11, Try.ntmps11
  go_wp2_with fail
  refine C1.out.mono ?_
  rintro e w1 ⟨rfl, hb1⟩
  have S0 := Lib.hid (R0.out.keep hb1)
  have S1 := Lib.hid (R1.out.keep hb1)
  clear C1 R0 R1
  go_wp2_with fail
  refine (C2.out _ S0.out S1.out).mono ?_
  rintro e w2 ⟨rfl, hb2⟩
  have b2 := thenBelow hb1 hb2
  clear C2 S0 S1 hb1 hb2
  go_wp2
  go_ret
  exact ⟨by cases B <;> simp, b2⟩
theorem FSames.own : ownKnob Try.prog.godebug = none := by kernel_rfl
set_option maxRecDepth 100000 in
theorem FSames.lifted (os : Os) (started : os.Started) (H : Type) (enc : TypeId × Value → H) :
    ReturnsInHanded {} Try.checked os 11 .any (Rows.fewestSamesSpec.pre6 enc Try.prog Try.f11 Rows.fewestSamesRow.domain false) (Rows.fewestSamesSpec.post enc Try.prog Try.f11 false true false false) := by
  refine returnsInHanded_of_change (C := Try.checked) FSames.own started (by kernel_rfl) Try.func11
    (ChangeSpec.witness6 (enc := enc) (C := Try.checked) false ⟨#[], #[.slice none 0 0, .slice none 0 0], []⟩ 8 (by kernel_rfl) (by kernel_rfl) (by kernel_rfl) (by kernel_rfl)) ?_
  intro W base args ds gs before hval0 hW hcnd _
  have hval : ∀ (j : Nat) t v, Try.f11.params[j]? = some t → args[j]? = some v → Value.okWide Try.prog W .any base t v := hval0
  have hW' := hW
  obtain ⟨p, q, hA0, hV, rfl, hfz, hnd⟩ := hW
  have hA : DataW.TrodAll enc Try.prog W 0 (fun _ => true) true Try.f11.params.toList args.toList ds p := hA0
  rw [Try.params11] at hA hval
  obtain ⟨v0, vs0, d0, ds0, p0, q0, hargs, rfl, rfl, rd0, r0⟩ := trodAll_cons hA
  obtain ⟨v1, vs1, d1, ds1, p1, q1, rfl, rfl, rfl, rd1, r1⟩ := trodAll_cons r0
  obtain ⟨rfl, rfl, rfl⟩ := trodAll_nil r1
  obtain rfl : args = #[v0, v1] := by cases args; simp_all
  obtain ⟨rfl, rfl⟩ := trodVars_none hV
  obtain ⟨l0, row0, wrd0, len0⟩ := openRoutes (hval 0 27 v0 rfl rfl) rd0
  obtain ⟨l1, row1, wrd1, len1⟩ := openRoutes (hval 1 27 v1 rfl rfl) rd1
  clear hA0 hval0
  refine (FSames.walk v0 l0 v1 l1 wrd0 len0 wrd1 len1 W row0 row1).mono fun e W' ⟨he, hb⟩ => ?_
  subst he
  exact ⟨_, rfl, postBelowR (pv := []) hW' hb (fun _ _ _ => trodAll_cons_mk (shut_bool Try.underlying4 _) trodAll_mk0) (trodAll_cons_mk (Below.trod laidOutR (by kernel_rfl) (of_decide_eq_true (by kernel_rfl)) rd0 hb (fun x hx => hW'.lt x (by simp [hx]))) (trodAll_cons_mk (Below.trod laidOutR (by kernel_rfl) (of_decide_eq_true (by kernel_rfl)) rd1 hb (fun x hx => hW'.lt x (by simp [hx]))) trodAll_mk0)) (fun _ _ => rfl) rfl⟩

theorem FSames.holds : Rows.FewestSamesSaid :=
  OpenClaim.holds_of_wide 11 Try.f11 rfl rfl rfl rfl rfl rfl rfl ⟨rfl, rfl, rfl, rfl, rfl⟩ rfl rfl rfl rfl rfl (by kernel_rfl) Try.func11 (by kernel_rfl)
    (of_decide_eq_true (by kernel_rfl)) (by unfold Func.isWrapper; first | (rw [if_pos (by decide +kernel)]; kernel_rfl) | (rw [if_neg (by decide +kernel)]; exact ⟨rfl, rfl⟩))
    (fun os started H enc _ => FSames.lifted os started H enc)
#print axioms FSames.holds
end Go.Proofs.Ytepfcphhgmmlhaa

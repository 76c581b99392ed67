/-
  FewestLikeness: for all two lists of jobs and every number equivalence of tables is symmetric and reflexive, and compression keeps it. No conditions.
-/
import Derived.Test.YtmjlmfbceccjdaaRows
import Derived.Test.YtmjlmfbceccjdaaFwW
import Derived.Test.YtmjlmfbceccjdaaSameF
import Derived.Test.YtmjlmfbceccjdaaRowsJ
namespace Go.Proofs.Ytmjlmfbceccjdaa
open Go.ChangeShapes Go.WideShapes Go.ChangeAt Go.RowKit Go.Joins
set_option linter.unusedSimpArgs false
set_option linter.unusedVariables false
set_option maxHeartbeats 8000000 in
set_option maxRecDepth 100000 in
theorem FLike.walk (v0 : Value) (l0 : List JT) (v1 : Value) (l1 : List JT) (a2 : Int) (wrd0 : WordsJ l0) (len0 : l0.length ≤ 9223372036854775807) (wrd1 : WordsJ l1) (len1 : l1.length ≤ 9223372036854775807) (b0 : -9223372036854775808 ≤ a2) (b1 : a2 ≤ 9223372036854775807) (w : World) (row0 : RowJ w v0 l0) (row1 : RowJ w v1 l1) :
    Calls Try.prog 4 #[v0, v1, .int .i64 a2] w fun e w' => e = .returned (.bool true) ∧ Below w.heap.size w w' := by
  obtain ⟨i0, hii, hz0, hz1, hz2⟩ := info_parts info_route
  have WC0 := Lib.hid (fun (W : World) (r : RowJ W v0 l0) => whole_calls l0 v0 a2 len0 wrd0 b0 b1 W r)
  obtain ⟨hA, hlA⟩ := whole_fw l0 a2
  generalize wholeZ l0 a2 = A at WC0 hA hlA
  have TA := Lib.hid (fwE_0 hA).1
  have WC1 := Lib.hid (fun (W : World) (r : RowJ W v1 l1) => whole_calls l1 v1 a2 len1 wrd1 b0 b1 W r)
  obtain ⟨hB, hlB⟩ := whole_fw l1 a2
  generalize wholeZ l1 a2 = B at WC1 hB hlB
  have TB := Lib.hid (fwE_0 hB).1
  have TC := Lib.hid (fw_tab hB)
  have SC := Lib.hid (fw_same hB)
  have FW := Lib.hid (fun (u : Value) (W : World) (r : RowR W u B) => fewest_ok B u hB (words_tab (fwE_0 hB).1) W r)
  generalize fwL B = C at FW TC SC
  have SS := Lib.hid (fun (x y : List RT) (hx : tabE x = 0) (hy : tabE y = 0) (u1 u2 : Value) (W : World) (r1 : RowR W u1 x) (r2 : RowR W u2 y) => same_ok x y u1 u2 hx hy (words_tab hx) (words_tab hy) W r1 r2)
  have IFF : ∀ x y : List RT, tabE x = 0 → tabE y = 0 → ((!(chgL (x ++ y)).any (difA x y)) = true ↔ SameW x y) := fun x y hx hy => by rw [Bool.not_eq_true']; exact same_dif hx hy
  have e1 : (!(chgL (B ++ A)).any (difA B A)) = (!(chgL (A ++ B)).any (difA A B)) := by
    rw [Bool.eq_iff_iff, IFF B A TB.out TA.out, IFF A B TA.out TB.out]; exact ⟨SameW.symm, SameW.symm⟩
  have e2 : (!(chgL (A ++ A)).any (difA A A)) = true := (IFF A A TA.out TA.out).2 (SameW.refl A)
  have e3 : (!(chgL (A ++ C)).any (difA A C)) = (!(chgL (A ++ B)).any (difA A B)) := by
    rw [Bool.eq_iff_iff, IFF A C TA.out TC.out, IFF A B TA.out TB.out]; exact ⟨fun h => h.trans SC.out, fun h => h.trans SC.out.symm⟩
  have S1 := Lib.hid (SS.out A B TA.out TB.out)
  have S2 := Lib.hid (fun (u1 u2 : Value) (W : World) (r1 : RowR W u1 B) (r2 : RowR W u2 A) => by have := SS.out B A TB.out TA.out u1 u2 W r1 r2; rw [e1] at this; exact this)
  have S3 := Lib.hid (fun (u1 u2 : Value) (W : World) (r1 : RowR W u1 A) (r2 : RowR W u2 A) => by have := SS.out A A TA.out TA.out u1 u2 W r1 r2; rw [e2] at this; exact this)
  have S4 := Lib.hid (fun (u1 u2 : Value) (W : World) (r1 : RowR W u1 A) (r2 : RowR W u2 C) => by have := SS.out A C TA.out TC.out u1 u2 W r1 r2; rw [e3] at this; exact this)
  generalize (!(chgL (A ++ B)).any (difA A B)) = q at S1 S2 S4
  have hby1 : A.length * 40 ≤ 140737488355328 := by omega
  have h631 : A.length ≤ maxLen := by unfold maxLen; omega
  have hby2 : B.length * 40 ≤ 140737488355328 := by omega
  have h632 : B.length ≤ maxLen := by unfold maxLen; omega
  have R0 := Lib.hid row0
  obtain ⟨q0, d0, rfl⟩ := row0.form
  have R1 := Lib.hid row1
  obtain ⟨q1, d1, rfl⟩ := row1.form
  clear row0 row1 wrd0 wrd1 SS IFF e1 e2 e3 SC
  go_enter Try.func4, Try.ntmps4
  go_wp2_with fail
  refine (WC0.out _ R0.out).mono ?_
  rintro e w1 ⟨u1, rfl, o1, hb1⟩
  have J01 := Lib.hid (R0.out.keep hb1)
  clear R0
  have J11 := Lib.hid (R1.out.keep hb1)
  clear R1
  have b1 : Below w.heap.size w w1 := hb1
  have Ra1 := Lib.hid (OwnR.row o1)
  obtain ⟨p1, c1, rfl⟩ := Ra1.out.form
  clear o1
  clear hb1
  clear J01
  clear WC0
  go_wp2_with fail
  refine (WC1.out _ J11.out).mono ?_
  rintro e w2 ⟨u2, rfl, o2, hb2⟩
  have J12 := Lib.hid (J11.out.keep hb2)
  clear J11
  have Ra2 := Lib.hid (Ra1.out.keep hb2)
  clear Ra1
  have b2 : Below w.heap.size w w2 := thenBelow b1 hb2
  clear b1
  have Rb2 := Lib.hid (OwnR.row o2)
  obtain ⟨p2, c2, rfl⟩ := Rb2.out.form
  clear o2
  clear hb2
  clear J12
  clear WC1
  go_wp2_with fail
  refine (S1.out _ _ _ Ra2.out Rb2.out).mono ?_
  rintro e w3 ⟨rfl, hb3⟩
  have Ra3 := Lib.hid (Ra2.out.keep hb3)
  clear Ra2
  have Rb3 := Lib.hid (Rb2.out.keep hb3)
  clear Rb2
  have b3 : Below w.heap.size w w3 := thenBelow b2 hb3
  clear b2
  clear hb3
  clear S1
  go_wp2_with fail
  refine (S2.out _ _ _ Rb3.out Ra3.out).mono ?_
  rintro e w4 ⟨rfl, hb4⟩
  have Ra4 := Lib.hid (Ra3.out.keep hb4)
  clear Ra3
  have Rb4 := Lib.hid (Rb3.out.keep hb4)
  clear Rb3
  have b4 : Below w.heap.size w w4 := thenBelow b3 hb4
  clear b3
  clear hb4
  clear S2
  go_wp2_with (at_builtin; refine wpList_append_copy rfl _ _ _ rfl 51 i0 _ 40 Try.underlying23 hii hz0 hz1 hz2 rfl (by decide) rcs_len rcs_one rfl _ _ rfl Ra4.out hby1 h631 ?_; intro u5 w5 o5 hb5)
  have o5 : OwnR w5 w4.heap.size u5 A := o5
  have Ra5 := Lib.hid (Ra4.out.keep hb5)
  clear Ra4
  have Rb5 := Lib.hid (Rb4.out.keep hb5)
  clear Rb4
  have b5 : Below w.heap.size w w5 := thenBelow b4 hb5
  clear b4
  have Ca5 := Lib.hid (OwnR.row o5)
  obtain ⟨p5, c5, rfl⟩ := Ca5.out.form
  clear o5
  clear hb5
  refine (S3.out _ _ _ Ra5.out Ca5.out).mono ?_
  rintro e w6 ⟨rfl, hb6⟩
  have Ra6 := Lib.hid (Ra5.out.keep hb6)
  clear Ra5
  have Rb6 := Lib.hid (Rb5.out.keep hb6)
  clear Rb5
  have Ca6 := Lib.hid (Ca5.out.keep hb6)
  clear Ca5
  have b6 : Below w.heap.size w w6 := thenBelow b5 hb6
  clear b5
  clear hb6
  clear Ca6
  clear S3
  go_wp2_with (at_builtin; refine wpList_append_copy rfl _ _ _ rfl 51 i0 _ 40 Try.underlying23 hii hz0 hz1 hz2 rfl (by decide) rcs_len rcs_one rfl _ _ rfl Rb6.out hby2 h632 ?_; intro u7 w7 o7 hb7)
  have o7 : OwnR w7 w6.heap.size u7 B := o7
  have Ra7 := Lib.hid (Ra6.out.keep hb7)
  clear Ra6
  have Rb7 := Lib.hid (Rb6.out.keep hb7)
  clear Rb6
  have b7 : Below w.heap.size w w7 := thenBelow b6 hb7
  clear b6
  have Cb7 := Lib.hid (OwnR.row o7)
  obtain ⟨p7, c7, rfl⟩ := Cb7.out.form
  clear o7
  clear hb7
  refine (FW.out _ _ Cb7.out).mono ?_
  rintro e w8 ⟨u8, rfl, o8, hb8⟩
  have Ra8 := Lib.hid (Ra7.out.keep hb8)
  clear Ra7
  have Rb8 := Lib.hid (Rb7.out.keep hb8)
  clear Rb7
  have Cb8 := Lib.hid (Cb7.out.keep hb8)
  clear Cb7
  have b8 : Below w.heap.size w w8 := thenBelow b7 hb8
  clear b7
  have Rc8 := Lib.hid (OwnR.row o8)
  obtain ⟨p8, c8, rfl⟩ := Rc8.out.form
  clear o8
  clear hb8
  clear Cb8
  clear FW
  go_wp2_with fail
  refine (S4.out _ _ _ Ra8.out Rc8.out).mono ?_
  rintro e w9 ⟨rfl, hb9⟩
  have Ra9 := Lib.hid (Ra8.out.keep hb9)
  clear Ra8
  have Rb9 := Lib.hid (Rb8.out.keep hb9)
  clear Rb8
  have Rc9 := Lib.hid (Rc8.out.keep hb9)
  clear Rc8
  have b9 : Below w.heap.size w w9 := thenBelow b8 hb9
  clear b8
  clear hb9
  clear S4
  go_wp2
  go_ret
  exact ⟨by simp, b9⟩
theorem FLike.own : ownKnob Try.prog.godebug = none := by kernel_rfl
set_option maxRecDepth 100000 in
theorem FLike.lifted (os : Os) (started : os.Started) (H : Type) (enc : TypeId × Value → H) :
    ReturnsInHanded {} Try.checked os 4 .any (Rows.fewestLikenessSpec.pre6 enc Try.prog Try.f4 Rows.fewestLikenessRow.domain false) (Rows.fewestLikenessSpec.post enc Try.prog Try.f4 false true false false) := by
  refine returnsInHanded_of_change (C := Try.checked) FLike.own started (by kernel_rfl) Try.func4
    (ChangeSpec.witness6 (enc := enc) (C := Try.checked) false ⟨#[], #[.slice none 0 0, .slice none 0 0, .int .i64 0], []⟩ 8 (by kernel_rfl) (by kernel_rfl) (by kernel_rfl) (by kernel_rfl)) ?_
  intro W base args ds gs before hval0 hW hcnd _
  have hval : ∀ (j : Nat) t v, Try.f4.params[j]? = some t → args[j]? = some v → Value.okWide Try.prog W .any base t v := hval0
  have hW' := hW
  obtain ⟨p, q, hA0, hV, rfl, hfz, hnd⟩ := hW
  have hA : DataW.TrodAll enc Try.prog W 0 (fun _ => true) true Try.f4.params.toList args.toList ds p := hA0
  rw [Try.params4] at hA hval
  obtain ⟨v0, vs0, d0, ds0, p0, q0, hargs, rfl, rfl, rd0, r0⟩ := trodAll_cons hA
  obtain ⟨v1, vs1, d1, ds1, p1, q1, rfl, rfl, rfl, rd1, r1⟩ := trodAll_cons r0
  obtain ⟨v2, vs2, d2, ds2, p2, q2, rfl, rfl, rfl, rd2, r2⟩ := trodAll_cons r1
  obtain ⟨rfl, rfl, rfl⟩ := trodAll_nil r2
  obtain rfl : args = #[v0, v1, v2] := by cases args; simp_all
  obtain ⟨rfl, rfl⟩ := trodVars_none hV
  obtain ⟨l0, row0, wrd0, len0⟩ := openJobs (hval 0 22 v0 rfl rfl) rd0
  obtain ⟨l1, row1, wrd1, len1⟩ := openJobs (hval 1 22 v1 rfl rfl) rd1
  obtain ⟨a2, rfl, rfl, rfl, wa2⟩ := open_int Try.underlying3 (hval 2 3 v2 rfl rfl) rd2
  clear hA0 hval0
  refine (FLike.walk v0 l0 v1 l1 a2 wrd0 len0 wrd1 len1 (i64_of_wf wa2).1 (i64_of_wf wa2).2 W row0 row1).mono fun e W' ⟨he, hb⟩ => ?_
  subst he
  exact ⟨_, rfl, postBelowR (pv := []) hW' hb (fun _ _ _ => trodAll_cons_mk (shut_bool Try.underlying4 _) trodAll_mk0) (trodAll_cons_mk (Below.trod laidOutR (by kernel_rfl) (of_decide_eq_true (by kernel_rfl)) rd0 hb (fun x hx => hW'.lt x (by simp [hx]))) (trodAll_cons_mk (Below.trod laidOutR (by kernel_rfl) (of_decide_eq_true (by kernel_rfl)) rd1 hb (fun x hx => hW'.lt x (by simp [hx]))) (trodAll_cons_mk (Below.trod laidOutR (by kernel_rfl) (of_decide_eq_true (by kernel_rfl)) rd2 hb (fun x hx => by cases hx)) trodAll_mk0))) (fun _ _ => rfl) rfl⟩

theorem FLike.holds : Rows.FewestLikenessSaid :=
  OpenClaim.holds_of_wide 4 Try.f4 rfl rfl rfl rfl rfl rfl rfl ⟨rfl, rfl, rfl, rfl, rfl⟩ rfl rfl rfl rfl rfl (by kernel_rfl) Try.func4 (by kernel_rfl)
    (of_decide_eq_true (by kernel_rfl)) (by unfold Func.isWrapper; first | (rw [if_pos (by decide +kernel)]; kernel_rfl) | (rw [if_neg (by decide +kernel)]; exact ⟨rfl, rfl⟩))
    (fun os started H enc _ => FLike.lifted os started H enc)
#print axioms FLike.holds
end Go.Proofs.Ytmjlmfbceccjdaa

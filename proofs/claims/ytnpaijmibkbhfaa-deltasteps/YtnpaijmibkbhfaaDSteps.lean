/-
  DeltaSteps: for all three lists of jobs differences of tables compose, and a detour is not shorter than the direct way. No conditions.
-/
import Derived.Test.YtnpaijmibkbhfaaRows
import Derived.Test.YtnpaijmibkbhfaaDapQ
import Derived.Test.YtnpaijmibkbhfaaDStepM
import Derived.Test.YtnpaijmibkbhfaaRowsJ
import Derived.Test.YtnpaijmibkbhfaaTabY
namespace Go.Proofs.Ytnpaijmibkbhfaa
open Go.ChangeShapes Go.WideShapes Go.ChangeAt Go.RowKit Go.Joins
set_option linter.unusedSimpArgs false
set_option linter.unusedVariables false
set_option maxHeartbeats 8000000 in
set_option maxRecDepth 100000 in
theorem DSteps.walk (v0 : Value) (l0 : List JT) (v1 : Value) (l1 : List JT) (v2 : Value) (l2 : List JT)  (wrd0 : WordsJ l0) (len0 : l0.length ≤ 9223372036854775807) (wrd1 : WordsJ l1) (len1 : l1.length ≤ 9223372036854775807) (wrd2 : WordsJ l2) (len2 : l2.length ≤ 9223372036854775807) (w : World) (row0 : RowJ w v0 l0) (row1 : RowJ w v1 l1) (row2 : RowJ w v2 l2) :
    Calls Try.prog 7 #[v0, v1, v2] w fun e w' => e = .returned (.bool true) ∧ Below w.heap.size w w' := by
  obtain ⟨i0, hii, hz0, hz1, hz2⟩ := info_parts info_route
  obtain ⟨j0, jii, jz0, jz1, jz2⟩ := info_parts info_act
  have AC0 := Lib.hid (fun (W : World) (r : RowJ W v0 l0) => acts_calls l0 v0 30 (by decide) len0 wrd0 W r)
  have HA0 : (actsZ l0 30).length ≤ 30 := by unfold actsZ; rw [List.length_map, List.length_take]; omega
  have RC0 := Lib.hid (fun (W : World) (u : Value) (r : RowA W u (actsZ l0 30)) => routesOf_calls _ u (by omega) (actsZ_words l0 30) W r)
  have IL := Lib.hid (InvR.run (actsZ l0 30))
  have hlL : (runL (actsZ l0 30)).length ≤ 30 := Nat.le_trans (runL_len _) HA0
  have R0 := Lib.hid row0
  obtain ⟨q0, d0, rfl⟩ := row0.form
  clear row0 wrd0
  have AC1 := Lib.hid (fun (W : World) (r : RowJ W v1 l1) => acts_calls l1 v1 30 (by decide) len1 wrd1 W r)
  have HA1 : (actsZ l1 30).length ≤ 30 := by unfold actsZ; rw [List.length_map, List.length_take]; omega
  have RC1 := Lib.hid (fun (W : World) (u : Value) (r : RowA W u (actsZ l1 30)) => routesOf_calls _ u (by omega) (actsZ_words l1 30) W r)
  have IM := Lib.hid (InvR.run (actsZ l1 30))
  have hlM : (runL (actsZ l1 30)).length ≤ 30 := Nat.le_trans (runL_len _) HA1
  have R1 := Lib.hid row1
  obtain ⟨q1, d1, rfl⟩ := row1.form
  clear row1 wrd1
  have AC2 := Lib.hid (fun (W : World) (r : RowJ W v2 l2) => acts_calls l2 v2 30 (by decide) len2 wrd2 W r)
  have HA2 : (actsZ l2 30).length ≤ 30 := by unfold actsZ; rw [List.length_map, List.length_take]; omega
  have RC2 := Lib.hid (fun (W : World) (u : Value) (r : RowA W u (actsZ l2 30)) => routesOf_calls _ u (by omega) (actsZ_words l2 30) W r)
  have IN := Lib.hid (InvR.run (actsZ l2 30))
  have hlN : (runL (actsZ l2 30)).length ≤ 30 := Nat.le_trans (runL_len _) HA2
  have R2 := Lib.hid row2
  obtain ⟨q2, d2, rfl⟩ := row2.form
  clear row2 wrd2
  generalize runL (actsZ l0 30) = L at RC0 IL hlL
  generalize actsZ l0 30 = A0 at AC0 RC0 HA0
  have wL := Lib.hid (words_invD IL.out)
  clear HA0
  generalize runL (actsZ l1 30) = M at RC1 IM hlM
  generalize actsZ l1 30 = A1 at AC1 RC1 HA1
  have wM := Lib.hid (words_invD IM.out)
  clear HA1
  generalize runL (actsZ l2 30) = N at RC2 IN hlN
  generalize actsZ l2 30 = A2 at AC2 RC2 HA2
  have wN := Lib.hid (words_invD IN.out)
  clear HA2
  have EX := Lib.hid (dif_app IL.out IM.out)
  have EY := Lib.hid (dif_app IM.out IN.out)
  have EZ := Lib.hid (dif_app IL.out IN.out)
  have l1 := difL_len L M
  have l2 := difL_len M N
  have l3 := difL_len L N
  have HB := Lib.hid (dif_back IL.out IM.out)
  have HW := Lib.hid (dif_way IL.out IM.out IN.out)
  have wX := Lib.hid (difL_words wL.out wM.out)
  have wY := Lib.hid (difL_words wM.out wN.out)
  have wZ := Lib.hid (difL_words wL.out wN.out)
  have FX := Lib.hid (diffT_calls IL.out IM.out)
  have FY := Lib.hid (diffT_calls IM.out IN.out)
  have FZ := Lib.hid (diffT_calls IL.out IN.out)
  have FB := Lib.hid (diffT_calls IM.out IL.out)
  have GX := Lib.hid (applyT_calls IL.out (difL L M) (by omega) wX.out EX.out.1 EX.out.2)
  have GY := Lib.hid (applyT_calls IM.out (difL M N) (by omega) wY.out EY.out.1 EY.out.2)
  have GZ := Lib.hid (applyT_calls IL.out (difL L N) (by omega) wZ.out EZ.out.1 EZ.out.2)
  have SR := Lib.hid (fun (u1 u2 : Value) (W : World) (r1 : RowR W u1 N) (r2 : RowR W u2 N) => sameRoutes_calls u1 u2 N (by omega) W r1 r2)
  obtain ⟨DX, hDX⟩ : ∃ D, difL L M = D := ⟨_, rfl⟩
  obtain ⟨DY, hDY⟩ : ∃ D, difL M N = D := ⟨_, rfl⟩
  obtain ⟨DZ, hDZ⟩ : ∃ D, difL L N = D := ⟨_, rfl⟩
  obtain ⟨DV, hDV⟩ : ∃ D, difL M L = D := ⟨_, rfl⟩
  rw [hDX] at l1 HB HW wX FX GX EX
  rw [hDY] at l2 HW wY FY GY EY
  rw [hDZ] at l3 HW wZ FZ GZ EZ
  rw [hDV] at HB FB
  clear hDX hDY hDZ hDV EX EY EZ wX wY wZ
  go_enter Try.func7, Try.ntmps7
  go_wp2_with fail
  refine (AC0.out _ R0.out).mono ?_
  rintro e w1 ⟨u1, rfl, o1, hb1⟩
  have J01 := Lib.hid (R0.out.keep hb1)
  clear R0
  have J11 := Lib.hid (R1.out.keep hb1)
  clear R1
  have J21 := Lib.hid (R2.out.keep hb1)
  clear R2
  have b1 : Below w.heap.size w w1 := hb1
  have T1 := Lib.hid (OwnA.row o1)
  obtain ⟨p1, c1, rfl⟩ := T1.out.form
  clear o1
  clear hb1
  clear J01
  clear AC0
  go_wp2_with fail
  refine (RC0.out _ _ T1.out).mono ?_
  rintro e w2 ⟨u2, rfl, o2, hb2⟩
  have J12 := Lib.hid (J11.out.keep hb2)
  clear J11
  have J22 := Lib.hid (J21.out.keep hb2)
  clear J21
  have T2 := Lib.hid (T1.out.keep hb2)
  clear T1
  have b2 : Below w.heap.size w w2 := thenBelow b1 hb2
  clear b1
  have Ra2 := Lib.hid (OwnR.row o2)
  obtain ⟨p2, c2, rfl⟩ := Ra2.out.form
  clear o2
  clear hb2
  clear T2
  clear RC0
  go_wp2_with fail
  refine (AC1.out _ J12.out).mono ?_
  rintro e w3 ⟨u3, rfl, o3, hb3⟩
  have J13 := Lib.hid (J12.out.keep hb3)
  clear J12
  have J23 := Lib.hid (J22.out.keep hb3)
  clear J22
  have Ra3 := Lib.hid (Ra2.out.keep hb3)
  clear Ra2
  have b3 : Below w.heap.size w w3 := thenBelow b2 hb3
  clear b2
  have T3 := Lib.hid (OwnA.row o3)
  obtain ⟨p3, c3, rfl⟩ := T3.out.form
  clear o3
  clear hb3
  clear J13
  clear AC1
  go_wp2_with fail
  refine (RC1.out _ _ T3.out).mono ?_
  rintro e w4 ⟨u4, rfl, o4, hb4⟩
  have J24 := Lib.hid (J23.out.keep hb4)
  clear J23
  have Ra4 := Lib.hid (Ra3.out.keep hb4)
  clear Ra3
  have T4 := Lib.hid (T3.out.keep hb4)
  clear T3
  have b4 : Below w.heap.size w w4 := thenBelow b3 hb4
  clear b3
  have Rb4 := Lib.hid (OwnR.row o4)
  obtain ⟨p4, c4, rfl⟩ := Rb4.out.form
  clear o4
  clear hb4
  clear T4
  clear RC1
  go_wp2_with fail
  refine (AC2.out _ J24.out).mono ?_
  rintro e w5 ⟨u5, rfl, o5, hb5⟩
  have J25 := Lib.hid (J24.out.keep hb5)
  clear J24
  have Ra5 := Lib.hid (Ra4.out.keep hb5)
  clear Ra4
  have Rb5 := Lib.hid (Rb4.out.keep hb5)
  clear Rb4
  have b5 : Below w.heap.size w w5 := thenBelow b4 hb5
  clear b4
  have T5 := Lib.hid (OwnA.row o5)
  obtain ⟨p5, c5, rfl⟩ := T5.out.form
  clear o5
  clear hb5
  clear J25
  clear AC2
  go_wp2_with fail
  refine (RC2.out _ _ T5.out).mono ?_
  rintro e w6 ⟨u6, rfl, o6, hb6⟩
  have Ra6 := Lib.hid (Ra5.out.keep hb6)
  clear Ra5
  have Rb6 := Lib.hid (Rb5.out.keep hb6)
  clear Rb5
  have T6 := Lib.hid (T5.out.keep hb6)
  clear T5
  have b6 : Below w.heap.size w w6 := thenBelow b5 hb6
  clear b5
  have Rc6 := Lib.hid (OwnR.row o6)
  obtain ⟨p6, c6, rfl⟩ := Rc6.out.form
  clear o6
  clear hb6
  clear T6
  clear RC2
  go_wp2_with fail
  refine (FX.out _ _ _ Ra6.out Rb6.out).mono ?_
  rintro e w7 ⟨u7, rfl, o7, hb7⟩
  have Ra7 := Lib.hid (Ra6.out.keep hb7)
  clear Ra6
  have Rb7 := Lib.hid (Rb6.out.keep hb7)
  clear Rb6
  have Rc7 := Lib.hid (Rc6.out.keep hb7)
  clear Rc6
  have b7 : Below w.heap.size w w7 := thenBelow b6 hb7
  clear b6
  have Rx7 := Lib.hid (OwnA.row o7)
  obtain ⟨p7, c7, rfl⟩ := Rx7.out.form
  clear o7
  clear hb7
  go_wp2_with fail
  refine (FY.out _ _ _ Rb7.out Rc7.out).mono ?_
  rintro e w8 ⟨u8, rfl, o8, hb8⟩
  have Ra8 := Lib.hid (Ra7.out.keep hb8)
  clear Ra7
  have Rb8 := Lib.hid (Rb7.out.keep hb8)
  clear Rb7
  have Rc8 := Lib.hid (Rc7.out.keep hb8)
  clear Rc7
  have Rx8 := Lib.hid (Rx7.out.keep hb8)
  clear Rx7
  have b8 : Below w.heap.size w w8 := thenBelow b7 hb8
  clear b7
  have Ry8 := Lib.hid (OwnA.row o8)
  obtain ⟨p8, c8, rfl⟩ := Ry8.out.form
  clear o8
  clear hb8
  go_wp2_with fail
  refine (FZ.out _ _ _ Ra8.out Rc8.out).mono ?_
  rintro e w9 ⟨u9, rfl, o9, hb9⟩
  have Ra9 := Lib.hid (Ra8.out.keep hb9)
  clear Ra8
  have Rb9 := Lib.hid (Rb8.out.keep hb9)
  clear Rb8
  have Rc9 := Lib.hid (Rc8.out.keep hb9)
  clear Rc8
  have Rx9 := Lib.hid (Rx8.out.keep hb9)
  clear Rx8
  have Ry9 := Lib.hid (Ry8.out.keep hb9)
  clear Ry8
  have b9 : Below w.heap.size w w9 := thenBelow b8 hb9
  clear b8
  have Rz9 := Lib.hid (OwnA.row o9)
  obtain ⟨p9, c9, rfl⟩ := Rz9.out.form
  clear o9
  clear hb9
  go_wp2_with fail
  refine (FB.out _ _ _ Rb9.out Ra9.out).mono ?_
  rintro e w10 ⟨u10, rfl, o10, hb10⟩
  have Ra10 := Lib.hid (Ra9.out.keep hb10)
  clear Ra9
  have Rb10 := Lib.hid (Rb9.out.keep hb10)
  clear Rb9
  have Rc10 := Lib.hid (Rc9.out.keep hb10)
  clear Rc9
  have Rx10 := Lib.hid (Rx9.out.keep hb10)
  clear Rx9
  have Ry10 := Lib.hid (Ry9.out.keep hb10)
  clear Ry9
  have Rz10 := Lib.hid (Rz9.out.keep hb10)
  clear Rz9
  have b10 : Below w.heap.size w w10 := thenBelow b9 hb10
  clear b9
  have Rv10 := Lib.hid (OwnA.row o10)
  obtain ⟨p10, c10, rfl⟩ := Rv10.out.form
  clear o10
  clear hb10
  go_wp2_with fail
  refine (GX.out _ _ _ Ra10.out Rx10.out).mono ?_
  rintro e w11 ⟨u11, rfl, o11, hb11⟩
  have Ra11 := Lib.hid (Ra10.out.keep hb11)
  clear Ra10
  have Rb11 := Lib.hid (Rb10.out.keep hb11)
  clear Rb10
  have Rc11 := Lib.hid (Rc10.out.keep hb11)
  clear Rc10
  have Rx11 := Lib.hid (Rx10.out.keep hb11)
  clear Rx10
  have Ry11 := Lib.hid (Ry10.out.keep hb11)
  clear Ry10
  have Rz11 := Lib.hid (Rz10.out.keep hb11)
  clear Rz10
  have Rv11 := Lib.hid (Rv10.out.keep hb11)
  clear Rv10
  have b11 : Below w.heap.size w w11 := thenBelow b10 hb11
  clear b10
  have Su11 := Lib.hid (OwnR.row o11)
  obtain ⟨p11, c11, rfl⟩ := Su11.out.form
  clear o11
  clear hb11
  go_wp2_with fail
  refine (GY.out _ _ _ Su11.out Ry11.out).mono ?_
  rintro e w12 ⟨u12, rfl, o12, hb12⟩
  have Ra12 := Lib.hid (Ra11.out.keep hb12)
  clear Ra11
  have Rb12 := Lib.hid (Rb11.out.keep hb12)
  clear Rb11
  have Rc12 := Lib.hid (Rc11.out.keep hb12)
  clear Rc11
  have Rx12 := Lib.hid (Rx11.out.keep hb12)
  clear Rx11
  have Ry12 := Lib.hid (Ry11.out.keep hb12)
  clear Ry11
  have Rz12 := Lib.hid (Rz11.out.keep hb12)
  clear Rz11
  have Rv12 := Lib.hid (Rv11.out.keep hb12)
  clear Rv11
  have Su12 := Lib.hid (Su11.out.keep hb12)
  clear Su11
  have b12 : Below w.heap.size w w12 := thenBelow b11 hb12
  clear b11
  have Sv12 := Lib.hid (OwnR.row o12)
  obtain ⟨p12, c12, rfl⟩ := Sv12.out.form
  clear o12
  clear hb12
  go_wp2_with fail
  refine (GZ.out _ _ _ Ra12.out Rz12.out).mono ?_
  rintro e w13 ⟨u13, rfl, o13, hb13⟩
  have Ra13 := Lib.hid (Ra12.out.keep hb13)
  clear Ra12
  have Rb13 := Lib.hid (Rb12.out.keep hb13)
  clear Rb12
  have Rc13 := Lib.hid (Rc12.out.keep hb13)
  clear Rc12
  have Rx13 := Lib.hid (Rx12.out.keep hb13)
  clear Rx12
  have Ry13 := Lib.hid (Ry12.out.keep hb13)
  clear Ry12
  have Rz13 := Lib.hid (Rz12.out.keep hb13)
  clear Rz12
  have Rv13 := Lib.hid (Rv12.out.keep hb13)
  clear Rv12
  have Su13 := Lib.hid (Su12.out.keep hb13)
  clear Su12
  have Sv13 := Lib.hid (Sv12.out.keep hb13)
  clear Sv12
  have b13 : Below w.heap.size w w13 := thenBelow b12 hb13
  clear b12
  have Sw13 := Lib.hid (OwnR.row o13)
  obtain ⟨p13, c13, rfl⟩ := Sw13.out.form
  clear o13
  clear hb13
  go_wp2_with fail
  refine (SR.out _ _ _ Sv13.out Rc13.out).mono ?_
  rintro e w14 ⟨rfl, hb14⟩
  have Ra14 := Lib.hid (Ra13.out.keep hb14)
  clear Ra13
  have Rb14 := Lib.hid (Rb13.out.keep hb14)
  clear Rb13
  have Rc14 := Lib.hid (Rc13.out.keep hb14)
  clear Rc13
  have Rx14 := Lib.hid (Rx13.out.keep hb14)
  clear Rx13
  have Ry14 := Lib.hid (Ry13.out.keep hb14)
  clear Ry13
  have Rz14 := Lib.hid (Rz13.out.keep hb14)
  clear Rz13
  have Rv14 := Lib.hid (Rv13.out.keep hb14)
  clear Rv13
  have Su14 := Lib.hid (Su13.out.keep hb14)
  clear Su13
  have Sv14 := Lib.hid (Sv13.out.keep hb14)
  clear Sv13
  have Sw14 := Lib.hid (Sw13.out.keep hb14)
  clear Sw13
  have b14 : Below w.heap.size w w14 := thenBelow b13 hb14
  clear b13
  clear hb14
  go_wp2_with fail
  refine (SR.out _ _ _ Sw14.out Rc14.out).mono ?_
  rintro e w15 ⟨rfl, hb15⟩
  have Ra15 := Lib.hid (Ra14.out.keep hb15)
  clear Ra14
  have Rb15 := Lib.hid (Rb14.out.keep hb15)
  clear Rb14
  have Rc15 := Lib.hid (Rc14.out.keep hb15)
  clear Rc14
  have Rx15 := Lib.hid (Rx14.out.keep hb15)
  clear Rx14
  have Ry15 := Lib.hid (Ry14.out.keep hb15)
  clear Ry14
  have Rz15 := Lib.hid (Rz14.out.keep hb15)
  clear Rz14
  have Rv15 := Lib.hid (Rv14.out.keep hb15)
  clear Rv14
  have Su15 := Lib.hid (Su14.out.keep hb15)
  clear Su14
  have Sv15 := Lib.hid (Sv14.out.keep hb15)
  clear Sv14
  have Sw15 := Lib.hid (Sw14.out.keep hb15)
  clear Sw14
  have b15 : Below w.heap.size w w15 := thenBelow b14 hb15
  clear b14
  clear hb15
  have hle := HW.out
  have hbk := HB.out
  generalize DX.length = nx at *
  generalize DY.length = ny at *
  generalize DZ.length = nz at *
  generalize DV.length = nv at *
  have hle2 : (nz : Int) ≤ (nx : Int) + (ny : Int) := by omega
  have hwr : IntKind.i64.wrap ((nx : Int) + (ny : Int)) = (nx : Int) + (ny : Int) := by rw [IntKind.wrap_i64]; omega
  subst hbk
  go_wp2
  go_ret
  exact ⟨by simp, b15⟩
theorem DSteps.own : ownKnob Try.prog.godebug = none := by kernel_rfl
set_option maxRecDepth 100000 in
theorem DSteps.lifted (os : Os) (started : os.Started) (H : Type) (enc : TypeId × Value → H) :
    ReturnsInHanded {} Try.checked os 7 .any (Rows.deltaStepsSpec.pre6 enc Try.prog Try.f7 Rows.deltaStepsRow.domain false) (Rows.deltaStepsSpec.post enc Try.prog Try.f7 false true false false) := by
  refine returnsInHanded_of_change (C := Try.checked) DSteps.own started (by kernel_rfl) Try.func7
    (ChangeSpec.witness6 (enc := enc) (C := Try.checked) false ⟨#[], #[.slice none 0 0, .slice none 0 0, .slice none 0 0], []⟩ 8 (by kernel_rfl) (by kernel_rfl) (by kernel_rfl) (by kernel_rfl)) ?_
  intro W base args ds gs before hval0 hW hcnd _
  have hval : ∀ (j : Nat) t v, Try.f7.params[j]? = some t → args[j]? = some v → Value.okWide Try.prog W .any base t v := hval0
  have hW' := hW
  obtain ⟨p, q, hA0, hV, rfl, hfz, hnd⟩ := hW
  have hA : DataW.TrodAll enc Try.prog W 0 (fun _ => true) true Try.f7.params.toList args.toList ds p := hA0
  rw [Try.params7] at hA hval
  obtain ⟨v0, vs0, d0, ds0, p0, q0, hargs, rfl, rfl, rd0, r0⟩ := trodAll_cons hA
  obtain ⟨v1, vs1, d1, ds1, p1, q1, rfl, rfl, rfl, rd1, r1⟩ := trodAll_cons r0
  obtain ⟨v2, vs2, d2, ds2, p2, q2, rfl, rfl, rfl, rd2, r2⟩ := trodAll_cons r1
  obtain ⟨rfl, rfl, rfl⟩ := trodAll_nil r2
  obtain rfl : args = #[v0, v1, v2] := by cases args; simp_all
  obtain ⟨rfl, rfl⟩ := trodVars_none hV
  obtain ⟨l0, row0, wrd0, len0⟩ := openJobs (hval 0 38 v0 rfl rfl) rd0
  obtain ⟨l1, row1, wrd1, len1⟩ := openJobs (hval 1 38 v1 rfl rfl) rd1
  obtain ⟨l2, row2, wrd2, len2⟩ := openJobs (hval 2 38 v2 rfl rfl) rd2
  clear hA0 hval0
  refine (DSteps.walk v0 l0 v1 l1 v2 l2 wrd0 len0 wrd1 len1 wrd2 len2 W row0 row1 row2).mono fun e W' ⟨he, hb⟩ => ?_
  subst he
  exact ⟨_, rfl, postBelowR (pv := []) hW' hb (fun _ _ _ => trodAll_cons_mk (shut_bool Try.underlying4 _) trodAll_mk0) (trodAll_cons_mk (Below.trod laidOutR (by kernel_rfl) (of_decide_eq_true (by kernel_rfl)) rd0 hb (fun x hx => hW'.lt x (by simp [hx]))) (trodAll_cons_mk (Below.trod laidOutR (by kernel_rfl) (of_decide_eq_true (by kernel_rfl)) rd1 hb (fun x hx => hW'.lt x (by simp [hx]))) (trodAll_cons_mk (Below.trod laidOutR (by kernel_rfl) (of_decide_eq_true (by kernel_rfl)) rd2 hb (fun x hx => hW'.lt x (by simp [hx]))) trodAll_mk0))) (fun _ _ => rfl) rfl⟩

theorem DSteps.holds : Rows.DeltaStepsSaid :=
  OpenClaim.holds_of_wide 7 Try.f7 rfl rfl rfl rfl rfl rfl rfl ⟨rfl, rfl, rfl, rfl, rfl⟩ rfl rfl rfl rfl rfl (by kernel_rfl) Try.func7 (by kernel_rfl)
    (of_decide_eq_true (by kernel_rfl)) (by unfold Func.isWrapper; first | (rw [if_pos (by decide +kernel)]; kernel_rfl) | (rw [if_neg (by decide +kernel)]; exact ⟨rfl, rfl⟩))
    (fun os started H enc _ => DSteps.lifted os started H enc)
#print axioms DSteps.holds
end Go.Proofs.Ytnpaijmibkbhfaa

/-
  TopDelta: for every list of jobs and every number the way to the compressed table and back restores the table, and it routes alike in between. No conditions.
-/
import Derived.Test.YtmjlmfbceccjdaaRows
import Derived.Test.YtmjlmfbceccjdaaFwX
import Derived.Test.YtmjlmfbceccjdaaDapQ
import Derived.Test.YtmjlmfbceccjdaaSameF
import Derived.Test.YtmjlmfbceccjdaaG23
import Derived.Test.YtmjlmfbceccjdaaRowsJ
import Derived.Test.YtmjlmfbceccjdaaG12
import Derived.Deep.DeepCutAuto
namespace Go.Proofs.Ytmjlmfbceccjdaa
open Go.ChangeShapes Go.WideShapes Go.ChangeAt Go.RowKit Go.Joins
set_option linter.unusedSimpArgs false
set_option linter.unusedVariables false
set_option maxHeartbeats 8000000 in
set_option maxRecDepth 100000 in
theorem TDelta.walk (v0 : Value) (l0 : List JT) (a1 : Int) (a2 : Int) (wrd0 : WordsJ l0) (len0 : l0.length ≤ 9223372036854775807) (b0 : -9223372036854775808 ≤ a1) (b1 : a1 ≤ 9223372036854775807) (b2 : -9223372036854775808 ≤ a2) (b3 : a2 ≤ 9223372036854775807) (w : World) (row0 : RowJ w v0 l0) :
    Calls Try.prog 3 #[v0, .int .i64 a1, .int .i64 a2] w fun e w' => e = .returned (.bool true) ∧ Below w.heap.size w w' := by
  obtain ⟨i0, hii, hz0, hz1, hz2⟩ := info_parts info_route
  obtain ⟨j0, jii, jz0, jz1, jz2⟩ := info_parts info_act
  have AC := Lib.hid (fun (W : World) (r : RowJ W v0 l0) => acts_calls l0 v0 45 (by decide) len0 wrd0 W r)
  have PK := Lib.hid (fun W => picked_calls a1 5 (by decide) (by decide) b0 b1 W)
  have hP := (topP_fw l0 a1).2
  have hF0 := (topP_fw l0 a1).1
  have RC := Lib.hid (fun (W : World) (u : Value) (r : RowA W u (topP l0 a1)) => routesTop_calls _ u (by omega) (topP_words l0 a1) W r)
  have IL := Lib.hid (InvR.run (topP l0 a1))
  have hlL : (runL (topP l0 a1)).length ≤ 46 := Nat.le_trans (runL_len _) hP
  have HP := Lib.hid (show topP l0 a1 = putAct ((false, 0, 0), 1 + a1 % 5) :: actsZ l0 45 from rfl)
  have hA : (actsZ l0 45).length ≤ 45 := by unfold actsZ; rw [List.length_map, List.length_take]; omega
  have hm0 := Int.emod_nonneg a1 (show (5 : Int) ≠ 0 by decide)
  have hm1 := Int.emod_lt_of_pos a1 (show (0 : Int) < 5 by decide)
  generalize runL (topP l0 a1) = L at RC IL hlL hF0
  generalize topP l0 a1 = P at RC HP hP
  generalize actsZ l0 45 = A at AC HP hA
  generalize a1 % 5 = m at PK HP hm0 hm1
  have hwr : IntKind.i64.wrap (1 + m) = 1 + m := by rw [IntKind.wrap_i64]; omega
  have TL := Lib.hid (fwE_0 hF0).1
  have TF := Lib.hid (fw_tab hF0)
  have hlF : (fwL L).length ≤ 46 := Nat.le_trans (fw_size hF0) hlL
  have SF := Lib.hid (fw_same hF0)
  have FW := Lib.hid (fun (u : Value) (W : World) (r : RowR W u L) => fewest_ok L u hF0 (words_tab (fwE_0 hF0).1) W r)
  generalize fwL L = F at FW TF hlF SF
  have IS := Lib.hid (srt_inv TF.out)
  have hlS := srt_len TF.out
  have SS := Lib.hid (srt_same TF.out)
  have E1 := Lib.hid (show dfE L F = 0 ∧ dfL L F = difL L (srt F) by have e : dfE L F = 0 := (by rw [dfE, if_pos TL.out, TF.out]); exact ⟨e, by rw [dfL, if_pos e, srt_self IL.out]⟩)
  have E2 := Lib.hid (show dfE F L = 0 ∧ dfL F L = difL (srt F) L by have e : dfE F L = 0 := (by rw [dfE, if_pos TF.out, TL.out]); exact ⟨e, by rw [dfL, if_pos e, srt_self IL.out]⟩)
  have D1 := Lib.hid (fun (u1 u2 : Value) (W : World) (r1 : RowR W u1 L) (r2 : RowR W u2 F) => by have := diff_calls L F u1 u2 (by omega) (by omega) (words_tab TL.out) (words_tab TF.out) W r1 r2; rw [E1.out.1, E1.out.2] at this; exact this)
  have D2 := Lib.hid (fun (u1 u2 : Value) (W : World) (r1 : RowR W u1 F) (r2 : RowR W u2 L) => by have := diff_calls F L u1 u2 (by omega) (by omega) (words_tab TF.out) (words_tab TL.out) W r1 r2; rw [E2.out.1, E2.out.2] at this; exact this)
  generalize srt F = S at IS hlS SS D1 D2 E1 E2
  have X1 := Lib.hid (dif_app IL.out IS.out)
  have X2 := Lib.hid (dif_app IS.out IL.out)
  have l1 := difL_len L S
  have l2 := difL_len S L
  have wX1 := Lib.hid (difL_words (words_invD IL.out) (words_invD IS.out))
  have wX2 := Lib.hid (difL_words (words_invD IS.out) (words_invD IL.out))
  have G1 := Lib.hid (applyT_calls IL.out (difL L S) (by omega) wX1.out X1.out.1 X1.out.2)
  have G2 := Lib.hid (applyT_calls IS.out (difL S L) (by omega) wX2.out X2.out.1 X2.out.2)
  have TS := Lib.hid (tab_invW IS.out)
  have SM := Lib.hid (fun (u1 u2 : Value) (W : World) (r1 : RowR W u1 S) (r2 : RowR W u2 L) => by have := same_ok S L u1 u2 TS.out TL.out (words_tab TS.out) (words_tab TL.out) W r1 r2; rw [show (!(chgL (S ++ L)).any (difA S L)) = true by rw [Bool.not_eq_true']; exact (same_dif TS.out TL.out).2 (SS.out.trans SF.out)] at this; exact this)
  have SR := Lib.hid (fun (u1 u2 : Value) (W : World) (r1 : RowR W u1 L) (r2 : RowR W u2 L) => sameTop_calls u1 u2 L (by omega) W r1 r2)
  generalize difL L S = DA at D1 l1 G1
  generalize difL S L = DB at D2 l2 G2
  have hby1 : L.length * 40 ≤ 140737488355328 := by omega
  have h631 : L.length ≤ maxLen := by unfold maxLen; omega
  have hby2 : F.length * 40 ≤ 140737488355328 := by omega
  have h632 : F.length ≤ maxLen := by unfold maxLen; omega
  have hby3 : S.length * 40 ≤ 140737488355328 := by omega
  have h633 : S.length ≤ maxLen := by unfold maxLen; omega
  have hbyA : (1 + A.length) * 72 ≤ 140737488355328 := by omega
  have h63A : 1 + A.length ≤ maxLen := by unfold maxLen; omega
  have R0 := Lib.hid row0
  obtain ⟨q0, d0, rfl⟩ := row0.form
  have HLS := Lib.hid hlS
  clear row0 wrd0 E1 E2 X1 X2 wX1 wX2 SF SS hF0 hlS
  go_enter Try.func3, Try.ntmps3
  go_wp2_with fail
  refine (PK.out _).mono ?_
  rintro e w' ⟨rfl, rfl⟩
  clear PK
  have bP := (Below.refl w.heap.size w).alloc (Nat.le_refl _) (.cells #[.int .i64 1, .bool false, .int .u64 0, .int .u64 0, .int .i64 0, .int .i64 (1 + m), .bool false, .int .u64 0, .int .u64 0] 34)
  have O0 := Lib.hid (show (w.alloc (.cells #[.int .i64 1, .bool false, .int .u64 0, .int .u64 0, .int .i64 0, .int .i64 (1 + m), .bool false, .int .u64 0, .int .u64 0] 34)).ownsRow w.heap.size 34 9 (.slice (some ⟨w.heap.size, 0, none⟩) 1 1) 1 (rowOf acs [putAct ((false, 0, 0), 1 + m)]) from ⟨rfl, .inr ⟨w.heap.size, 1, _, rfl, Nat.le_refl _, _root_.Go.heap_alloc_new w _, Nat.le_refl _, by unfold maxLen; omega, rfl, by simp [rowOf, acs, putAct, aH0, aL0]⟩⟩)
  have R0b := Lib.hid (R0.out.keep bP)
  go_wp2_with fail
  refine (AC.out _ R0b.out).mono ?_
  rintro e w1 ⟨u1, rfl, o1, hb1⟩
  have RA1 := Lib.hid (OwnA.row o1)
  obtain ⟨pa, ca, rfl⟩ := RA1.out.form
  have O1 := Lib.hid (ownsKeep O0.out hb1)
  have n1 : Below w.heap.size w w1 := thenBelow bP hb1
  have hs1 : w.heap.size ≤ w1.heap.size := n1.size
  clear AC o1 O0 R0b R0 hb1 bP
  go_wp2_with (at_builtin; refine wpList_append_any rfl _ _ 26 rfl w.heap.size 34 j0 _ 72 Try.underlying26 jii jz0 jz1 jz2 rfl (by decide) acs_len acs_one _ 1 _ rfl O1.out _ A rfl RA1.out hbyA h63A hs1 ?_; intro v2 w2 ho2 hb2)
  have RP := Lib.hid (show RowA w2 v2 P from by
    have := ho2
    rw [← rowOf_app] at this
    have h2 : (putAct ((false, 0, 0), 1 + m) :: A : List ActT).length = 1 + A.length := by rw [List.length_cons]; omega
    rw [HP.out]; exact OwnA.row (base := w.heap.size) (by unfold OwnA; rw [h2]; exact this))
  have n2 : Below w.heap.size w w2 := n1.trans hb2
  clear ho2 hb2 O1 RA1 n1
  refine (RC.out _ _ RP.out).mono ?_
  rintro e w3 ⟨u3, rfl, o3, hb3⟩
  have b3 : Below w.heap.size w w3 := thenBelow n2 hb3
  clear n2
  have Rr3 := Lib.hid (OwnR.row o3)
  obtain ⟨p3, c3, rfl⟩ := Rr3.out.form
  clear o3
  clear hb3
  clear RC RP
  go_wp2_with (at_builtin; refine wpList_append_copy rfl _ _ _ rfl 51 i0 _ 40 Try.underlying23 hii hz0 hz1 hz2 rfl (by decide) rcs_len rcs_one rfl _ _ rfl Rr3.out hby1 h631 ?_; intro u4 w4 o4 hb4)
  have o4 : OwnR w4 w3.heap.size u4 L := o4
  have Rr4 := Lib.hid (Rr3.out.keep hb4)
  clear Rr3
  have b4 : Below w.heap.size w w4 := thenBelow b3 hb4
  clear b3
  have C14 := Lib.hid (OwnR.row o4)
  obtain ⟨p4, c4, rfl⟩ := C14.out.form
  clear o4
  clear hb4
  refine (FW.out _ _ C14.out).mono ?_
  rintro e w5 ⟨u5, rfl, o5, hb5⟩
  have Rr5 := Lib.hid (Rr4.out.keep hb5)
  clear Rr4
  have C15 := Lib.hid (C14.out.keep hb5)
  clear C14
  have b5 : Below w.heap.size w w5 := thenBelow b4 hb5
  clear b4
  have Rf5 := Lib.hid (OwnR.row o5)
  obtain ⟨p5, c5, rfl⟩ := Rf5.out.form
  clear o5
  clear hb5
  clear C15
  clear FW
  have tok6 : True := trivial
  go_wp2_with (first | (have _t := tok6; at_builtin; refine wpList_append_copy rfl _ _ _ rfl 51 i0 _ 40 Try.underlying23 hii hz0 hz1 hz2 rfl (by decide) rcs_len rcs_one rfl _ _ rfl Rr5.out hby1 h631 ?_; intro u6 w6 o6 hb6; have T6 := Lib.hid (Rf5.out.keep hb6); clear tok6) | (at_builtin; refine wpList_append_copy rfl _ _ _ rfl 51 i0 _ 40 Try.underlying23 hii hz0 hz1 hz2 rfl (by decide) rcs_len rcs_one rfl _ _ rfl T6.out hby2 h632 ?_; intro u7 w7 o7 hb7))
  have o6 : OwnR w6 w5.heap.size u6 L := o6
  have Rr6 := Lib.hid (Rr5.out.keep hb6)
  clear Rr5
  have Rf6 := Lib.hid (Rf5.out.keep hb6)
  clear Rf5
  have b6 : Below w.heap.size w w6 := thenBelow b5 hb6
  clear b5
  have C16 := Lib.hid (OwnR.row o6)
  obtain ⟨p6, c6, rfl⟩ := C16.out.form
  clear o6
  clear hb6
  have o7 : OwnR w7 w6.heap.size u7 F := o7
  clear T6
  have Rr7 := Lib.hid (Rr6.out.keep hb7)
  clear Rr6
  have Rf7 := Lib.hid (Rf6.out.keep hb7)
  clear Rf6
  have C17 := Lib.hid (C16.out.keep hb7)
  clear C16
  have b7 : Below w.heap.size w w7 := thenBelow b6 hb7
  clear b6
  have C27 := Lib.hid (OwnR.row o7)
  obtain ⟨p7, c7, rfl⟩ := C27.out.form
  clear o7
  clear hb7
  refine (D1.out _ _ _ C17.out C27.out).mono ?_
  rintro e w8 ⟨u8, rfl, o8, hb8⟩
  have Rr8 := Lib.hid (Rr7.out.keep hb8)
  clear Rr7
  have Rf8 := Lib.hid (Rf7.out.keep hb8)
  clear Rf7
  have C18 := Lib.hid (C17.out.keep hb8)
  clear C17
  have C28 := Lib.hid (C27.out.keep hb8)
  clear C27
  have b8 : Below w.heap.size w w8 := thenBelow b7 hb8
  clear b7
  have Ra8 := Lib.hid (OwnA.row o8)
  obtain ⟨p8, c8, rfl⟩ := Ra8.out.form
  clear o8
  clear hb8
  clear C18
  clear C28
  clear D1
  have tok9 : True := trivial
  go_wp2_with (first | (have _t := tok9; at_builtin; refine wpList_append_copy rfl _ _ _ rfl 51 i0 _ 40 Try.underlying23 hii hz0 hz1 hz2 rfl (by decide) rcs_len rcs_one rfl _ _ rfl Rf8.out hby2 h632 ?_; intro u9 w9 o9 hb9; have T9 := Lib.hid (Rr8.out.keep hb9); clear tok9) | (at_builtin; refine wpList_append_copy rfl _ _ _ rfl 51 i0 _ 40 Try.underlying23 hii hz0 hz1 hz2 rfl (by decide) rcs_len rcs_one rfl _ _ rfl T9.out hby1 h631 ?_; intro u10 w10 o10 hb10))
  have o9 : OwnR w9 w8.heap.size u9 F := o9
  have Rr9 := Lib.hid (Rr8.out.keep hb9)
  clear Rr8
  have Rf9 := Lib.hid (Rf8.out.keep hb9)
  clear Rf8
  have Ra9 := Lib.hid (Ra8.out.keep hb9)
  clear Ra8
  have b9 : Below w.heap.size w w9 := thenBelow b8 hb9
  clear b8
  have C19 := Lib.hid (OwnR.row o9)
  obtain ⟨p9, c9, rfl⟩ := C19.out.form
  clear o9
  clear hb9
  have o10 : OwnR w10 w9.heap.size u10 L := o10
  clear T9
  have Rr10 := Lib.hid (Rr9.out.keep hb10)
  clear Rr9
  have Rf10 := Lib.hid (Rf9.out.keep hb10)
  clear Rf9
  have Ra10 := Lib.hid (Ra9.out.keep hb10)
  clear Ra9
  have C110 := Lib.hid (C19.out.keep hb10)
  clear C19
  have b10 : Below w.heap.size w w10 := thenBelow b9 hb10
  clear b9
  have C210 := Lib.hid (OwnR.row o10)
  obtain ⟨p10, c10, rfl⟩ := C210.out.form
  clear o10
  clear hb10
  refine (D2.out _ _ _ C110.out C210.out).mono ?_
  rintro e w11 ⟨u11, rfl, o11, hb11⟩
  have Rr11 := Lib.hid (Rr10.out.keep hb11)
  clear Rr10
  have Rf11 := Lib.hid (Rf10.out.keep hb11)
  clear Rf10
  have Ra11 := Lib.hid (Ra10.out.keep hb11)
  clear Ra10
  have C111 := Lib.hid (C110.out.keep hb11)
  clear C110
  have C211 := Lib.hid (C210.out.keep hb11)
  clear C210
  have b11 : Below w.heap.size w w11 := thenBelow b10 hb11
  clear b10
  have Rb11 := Lib.hid (OwnA.row o11)
  obtain ⟨p11, c11, rfl⟩ := Rb11.out.form
  clear o11
  clear hb11
  clear C111
  clear C211
  clear D2
  go_wp2_with (at_builtin; refine wpList_append_copy rfl _ _ _ rfl 51 i0 _ 40 Try.underlying23 hii hz0 hz1 hz2 rfl (by decide) rcs_len rcs_one rfl _ _ rfl Rr11.out hby1 h631 ?_; intro u12 w12 o12 hb12)
  have o12 : OwnR w12 w11.heap.size u12 L := o12
  have Rr12 := Lib.hid (Rr11.out.keep hb12)
  clear Rr11
  have Rf12 := Lib.hid (Rf11.out.keep hb12)
  clear Rf11
  have Ra12 := Lib.hid (Ra11.out.keep hb12)
  clear Ra11
  have Rb12 := Lib.hid (Rb11.out.keep hb12)
  clear Rb11
  have b12 : Below w.heap.size w w12 := thenBelow b11 hb12
  clear b11
  have C112 := Lib.hid (OwnR.row o12)
  obtain ⟨p12, c12, rfl⟩ := C112.out.form
  clear o12
  clear hb12
  refine (G1.out _ _ _ C112.out Ra12.out).mono ?_
  rintro e w13 ⟨u13, rfl, o13, hb13⟩
  have Rr13 := Lib.hid (Rr12.out.keep hb13)
  clear Rr12
  have Rf13 := Lib.hid (Rf12.out.keep hb13)
  clear Rf12
  have Ra13 := Lib.hid (Ra12.out.keep hb13)
  clear Ra12
  have Rb13 := Lib.hid (Rb12.out.keep hb13)
  clear Rb12
  have C113 := Lib.hid (C112.out.keep hb13)
  clear C112
  have b13 : Below w.heap.size w w13 := thenBelow b12 hb13
  clear b12
  have Rx13 := Lib.hid (OwnR.row o13)
  obtain ⟨p13, c13, rfl⟩ := Rx13.out.form
  clear o13
  clear hb13
  clear C113
  clear Ra13
  clear G1
  go_wp2_with (at_builtin; refine wpList_append_copy rfl _ _ _ rfl 51 i0 _ 40 Try.underlying23 hii hz0 hz1 hz2 rfl (by decide) rcs_len rcs_one rfl _ _ rfl Rx13.out hby3 h633 ?_; intro u14 w14 o14 hb14)
  have o14 : OwnR w14 w13.heap.size u14 S := o14
  have Rr14 := Lib.hid (Rr13.out.keep hb14)
  clear Rr13
  have Rf14 := Lib.hid (Rf13.out.keep hb14)
  clear Rf13
  have Rb14 := Lib.hid (Rb13.out.keep hb14)
  clear Rb13
  have Rx14 := Lib.hid (Rx13.out.keep hb14)
  clear Rx13
  have b14 : Below w.heap.size w w14 := thenBelow b13 hb14
  clear b13
  have C114 := Lib.hid (OwnR.row o14)
  obtain ⟨p14, c14, rfl⟩ := C114.out.form
  clear o14
  clear hb14
  refine (G2.out _ _ _ C114.out Rb14.out).mono ?_
  rintro e w15 ⟨u15, rfl, o15, hb15⟩
  have Rr15 := Lib.hid (Rr14.out.keep hb15)
  clear Rr14
  have Rf15 := Lib.hid (Rf14.out.keep hb15)
  clear Rf14
  have Rb15 := Lib.hid (Rb14.out.keep hb15)
  clear Rb14
  have Rx15 := Lib.hid (Rx14.out.keep hb15)
  clear Rx14
  have C115 := Lib.hid (C114.out.keep hb15)
  clear C114
  have b15 : Below w.heap.size w w15 := thenBelow b14 hb15
  clear b14
  have Ry15 := Lib.hid (OwnR.row o15)
  obtain ⟨p15, c15, rfl⟩ := Ry15.out.form
  clear o15
  clear hb15
  clear C115
  clear Rb15
  clear G2
  go_wp2_with fail
  refine (SM.out _ _ _ Rx15.out Rr15.out).mono ?_
  rintro e w16 ⟨rfl, hb16⟩
  have Rr16 := Lib.hid (Rr15.out.keep hb16)
  clear Rr15
  have Rf16 := Lib.hid (Rf15.out.keep hb16)
  clear Rf15
  have Rx16 := Lib.hid (Rx15.out.keep hb16)
  clear Rx15
  have Ry16 := Lib.hid (Ry15.out.keep hb16)
  clear Ry15
  have b16 : Below w.heap.size w w16 := thenBelow b15 hb16
  clear b15
  clear hb16
  clear SM
  go_wp2_with fail
  refine (SR.out _ _ _ Ry16.out Rr16.out).mono ?_
  rintro e w17 ⟨rfl, hb17⟩
  have Rr17 := Lib.hid (Rr16.out.keep hb17)
  clear Rr16
  have Rf17 := Lib.hid (Rf16.out.keep hb17)
  clear Rf16
  have Rx17 := Lib.hid (Rx16.out.keep hb17)
  clear Rx16
  have Ry17 := Lib.hid (Ry16.out.keep hb17)
  clear Ry16
  have b17 : Below w.heap.size w w17 := thenBelow b16 hb17
  clear b16
  clear hb17
  clear SR
  rw [HLS.out]
  go_wp2
  go_ret
  exact ⟨by simp, b17⟩
theorem TDelta.own : ownKnob Try.prog.godebug = none := by kernel_rfl
set_option maxRecDepth 100000 in
theorem TDelta.lifted (os : Os) (started : os.Started) (H : Type) (enc : TypeId × Value → H) :
    ReturnsInHanded {} Try.checked os 3 .any (Rows.topDeltaSpec.pre6 enc Try.prog Try.f3 Rows.topDeltaRow.domain false) (Rows.topDeltaSpec.post enc Try.prog Try.f3 false true false false) := by
  refine returnsInHanded_of_change (C := Try.checked) TDelta.own started (by kernel_rfl) Try.func3
    (ChangeSpec.witness6 (enc := enc) (C := Try.checked) false ⟨#[], #[.slice none 0 0, .int .i64 0, .int .i64 0], []⟩ 8 (by kernel_rfl) (by kernel_rfl) (by kernel_rfl) (by kernel_rfl)) ?_
  intro W base args ds gs before hval0 hW hcnd _
  have hval : ∀ (j : Nat) t v, Try.f3.params[j]? = some t → args[j]? = some v → Value.okWide Try.prog W .any base t v := hval0
  have hW' := hW
  obtain ⟨p, q, hA0, hV, rfl, hfz, hnd⟩ := hW
  have hA : DataW.TrodAll enc Try.prog W 0 (fun _ => true) true Try.f3.params.toList args.toList ds p := hA0
  rw [Try.params3] at hA hval
  obtain ⟨v0, vs0, d0, ds0, p0, q0, hargs, rfl, rfl, rd0, r0⟩ := trodAll_cons hA
  obtain ⟨v1, vs1, d1, ds1, p1, q1, rfl, rfl, rfl, rd1, r1⟩ := trodAll_cons r0
  obtain ⟨v2, vs2, d2, ds2, p2, q2, rfl, rfl, rfl, rd2, r2⟩ := trodAll_cons r1
  obtain ⟨rfl, rfl, rfl⟩ := trodAll_nil r2
  obtain rfl : args = #[v0, v1, v2] := by cases args; simp_all
  obtain ⟨rfl, rfl⟩ := trodVars_none hV
  obtain ⟨l0, row0, wrd0, len0⟩ := openJobs (hval 0 22 v0 rfl rfl) rd0
  obtain ⟨a1, rfl, rfl, rfl, wa1⟩ := open_int Try.underlying3 (hval 1 3 v1 rfl rfl) rd1
  obtain ⟨a2, rfl, rfl, rfl, wa2⟩ := open_int Try.underlying3 (hval 2 3 v2 rfl rfl) rd2
  clear hA0 hval0
  refine (TDelta.walk v0 l0 a1 a2 wrd0 len0 (i64_of_wf wa1).1 (i64_of_wf wa1).2 (i64_of_wf wa2).1 (i64_of_wf wa2).2 W row0).mono fun e W' ⟨he, hb⟩ => ?_
  subst he
  exact ⟨_, rfl, postBelowR (pv := []) hW' hb (fun _ _ _ => trodAll_cons_mk (shut_bool Try.underlying4 _) trodAll_mk0) (trodAll_cons_mk (Below.trod laidOutR (by kernel_rfl) (of_decide_eq_true (by kernel_rfl)) rd0 hb (fun x hx => hW'.lt x (by simp [hx]))) (trodAll_cons_mk (Below.trod laidOutR (by kernel_rfl) (of_decide_eq_true (by kernel_rfl)) rd1 hb (fun x hx => by cases hx)) (trodAll_cons_mk (Below.trod laidOutR (by kernel_rfl) (of_decide_eq_true (by kernel_rfl)) rd2 hb (fun x hx => by cases hx)) trodAll_mk0))) (fun _ _ => rfl) rfl⟩

theorem TDelta.holds : Rows.TopDeltaSaid :=
  OpenClaim.holds_of_wide 3 Try.f3 rfl rfl rfl rfl rfl rfl rfl ⟨rfl, rfl, rfl, rfl, rfl⟩ rfl rfl rfl rfl rfl (by kernel_rfl) Try.func3 (by kernel_rfl)
    (of_decide_eq_true (by kernel_rfl)) (by unfold Func.isWrapper; first | (rw [if_pos (by decide +kernel)]; kernel_rfl) | (rw [if_neg (by decide +kernel)]; exact ⟨rfl, rfl⟩))
    (fun os started H enc _ => TDelta.lifted os started H enc)
#print axioms TDelta.holds
end Go.Proofs.Ytmjlmfbceccjdaa

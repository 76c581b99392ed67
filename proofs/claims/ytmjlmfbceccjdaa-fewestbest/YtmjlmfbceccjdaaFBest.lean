/-
  FewestBest: for every list of jobs and every number no equivalent table got by leaving routes out is smaller than the compressed one, and compressing twice gives the same size. No conditions.
-/
import Derived.Test.YtmjlmfbceccjdaaRows
import Derived.Test.YtmjlmfbceccjdaaG29
import Derived.Deep.DeepCutAuto
import Derived.Deep.RegionHeld3
import Derived.Test.YtmjlmfbceccjdaaSameF
import Derived.Test.YtmjlmfbceccjdaaG15
import Derived.Test.YtmjlmfbceccjdaaRowsJ
import Derived.Test.YtmjlmfbceccjdaaDBackN
namespace Go.Proofs.Ytmjlmfbceccjdaa
open Go.ChangeShapes Go.WideShapes Go.ChangeAt Go.RowKit Go.Joins
set_option linter.unusedSimpArgs false
set_option linter.unusedVariables false
theorem tab_sub {T T' : List RT} (h : tabE T = 0) (hs : T'.Sublist T) : tabE T' = 0 :=
  tab_ofF (fun r hr => (srt_inv h).fine r ((srt_mem T r).2 (hs.subset hr))) ((relU_srtS h).keys.sublist (hs.map _)) (Nat.le_trans hs.length_le (tabE_val h).2.2)
theorem ownR_some {w : World} {base : Nat} {u : Value} {T : List RT} (h : OwnR w base u T) (hn : T ≠ []) : ∃ g c, u = .slice (some ⟨g, 0, none⟩) T.length c ∧ T.length ≤ c ∧ c ≤ 9223372036854775807 := by
  rcases h.2 with ⟨hv, h0⟩ | ⟨g, cap, cur, hv, hb, hg, hnc, hcm, _⟩
  · exact absurd (List.eq_nil_of_length_eq_zero h0) hn
  · exact ⟨g, _, hv, hnc, hcm⟩
set_option maxHeartbeats 8000000 in
set_option maxRecDepth 100000 in
theorem FBest.walk (v0 : Value) (l0 : List JT) (a1 : Int) (wrd0 : WordsJ l0) (len0 : l0.length ≤ 9223372036854775807) (b0 : -9223372036854775808 ≤ a1) (b1 : a1 ≤ 9223372036854775807) (w : World) (row0 : RowJ w v0 l0) :
    Calls Try.prog 7 #[v0, .int .i64 a1] w fun e w' => e = .returned (.bool true) ∧ Below w.heap.size w w' := by
  obtain ⟨i0, hii, hz0, hz1, hz2⟩ := info_parts info_route
  have WC := Lib.hid (whole_calls l0 v0 a1 len0 wrd0 b0 b1 w row0)
  obtain ⟨hz, hlz⟩ := whole_fw l0 a1
  generalize wholeZ l0 a1 = Z at WC hz hlz
  have TZ := Lib.hid (fwE_0 hz).1
  have TX := Lib.hid (fw_tab hz)
  have hX := Nat.le_trans (fw_size hz) hlz
  have AG := fw_again hz
  have hAG := AG.2
  have hpos : 0 < (fwL Z).length := by obtain ⟨r, hr, _⟩ := fw_def hz; exact List.length_pos_of_mem hr
  have LE := Lib.hid (fun m hm hs => fw_least (m := m) hz hm hs)
  have FW := Lib.hid (fun (u : Value) (W : World) (r : RowR W u Z) => fewest_ok Z u hz (words_tab TZ.out) W r)
  have FX := Lib.hid (fun (u : Value) (W : World) (r : RowR W u (fwL Z)) => fewest_ok (fwL Z) u AG.1 (words_tab TX.out) W r)
  have IFF : ∀ x y : List RT, tabE x = 0 → tabE y = 0 → ((!(chgL (x ++ y)).any (difA x y)) = true ↔ SameW x y) := fun x y hx hy => by rw [Bool.not_eq_true']; exact same_dif hx hy
  have S1 := Lib.hid (fun (u1 u2 : Value) (W : World) (r1 : RowR W u1 Z) (r2 : RowR W u2 (fwL Z)) => by have := same_ok Z (fwL Z) u1 u2 TZ.out TX.out (words_tab TZ.out) (words_tab TX.out) W r1 r2; rw [(IFF Z (fwL Z) TZ.out TX.out).2 (fw_same hz).symm] at this; exact this)
  have S2 := Lib.hid (fun (T : List RT) (hT : tabE T = 0) (u1 u2 : Value) (W : World) (r1 : RowR W u1 Z) (r2 : RowR W u2 T) => same_ok Z T u1 u2 TZ.out hT (words_tab TZ.out) (words_tab hT) W r1 r2)
  have HIF := Lib.hid (fun T hT => (IFF Z T TZ.out hT).1)
  generalize fwL Z = X at FW FX TX hX hAG hpos S1 LE AG
  generalize fwL X = Y at FX hAG AG
  have HAG := Lib.hid hAG
  have hby1 : Z.length * 40 ≤ 140737488355328 := by omega
  have h631 : Z.length ≤ maxLen := by unfold maxLen; omega
  have hby2 : X.length * 40 ≤ 140737488355328 := by omega
  have h632 : X.length ≤ maxLen := by unfold maxLen; omega
  have R0 := Lib.hid row0
  obtain ⟨q0, d0, rfl⟩ := row0.form
  clear row0 wrd0 IFF AG hAG
  go_enter Try.func7, Try.ntmps7
  go_wp2_with fail
  refine WC.out.mono ?_
  rintro e w1 ⟨u1, rfl, o1, hb1⟩
  have RZ1 := Lib.hid (OwnR.row o1)
  obtain ⟨p1, c1, rfl⟩ := RZ1.out.form
  clear o1 WC
  go_wp2_with (at_builtin; refine wpList_append_copy rfl _ _ _ rfl 51 i0 _ 40 Try.underlying23 hii hz0 hz1 hz2 rfl (by decide) rcs_len rcs_one rfl _ _ rfl RZ1.out hby1 h631 ?_; intro u2 w2 o2 hb2)
  have o2 : OwnR w2 w1.heap.size u2 Z := o2
  have RZ2 := Lib.hid (RZ1.out.keep hb2)
  clear RZ1
  have b2 : Below w.heap.size w w2 := thenBelow hb1 hb2
  clear hb1
  have CZ2 := Lib.hid (OwnR.row o2)
  obtain ⟨p2, c2, rfl⟩ := CZ2.out.form
  clear o2
  clear hb2
  refine (FW.out _ _ CZ2.out).mono ?_
  rintro e w3 ⟨u3, rfl, o3, hb3⟩
  have RZ3 := Lib.hid (RZ2.out.keep hb3)
  clear RZ2
  have CZ3 := Lib.hid (CZ2.out.keep hb3)
  clear CZ2
  have b3 : Below w.heap.size w w3 := thenBelow b2 hb3
  clear b2
  have RX3 := Lib.hid (OwnR.row o3)
  obtain ⟨p3, c3, rfl⟩ := RX3.out.form
  clear o3
  clear hb3
  clear CZ3
  clear FW
  have tok4 : True := trivial
  go_wp2_with (first | (have _t := tok4; at_builtin; refine wpList_append_copy rfl _ _ _ rfl 51 i0 _ 40 Try.underlying23 hii hz0 hz1 hz2 rfl (by decide) rcs_len rcs_one rfl _ _ rfl RZ3.out hby1 h631 ?_; intro u4 w4 o4 hb4; have T4 := Lib.hid (RX3.out.keep hb4); clear tok4) | (at_builtin; refine wpList_append_copy rfl _ _ _ rfl 51 i0 _ 40 Try.underlying23 hii hz0 hz1 hz2 rfl (by decide) rcs_len rcs_one rfl _ _ rfl T4.out hby2 h632 ?_; intro u5 w5 o5 hb5))
  have o4 : OwnR w4 w3.heap.size u4 Z := o4
  have RZ4 := Lib.hid (RZ3.out.keep hb4)
  clear RZ3
  have RX4 := Lib.hid (RX3.out.keep hb4)
  clear RX3
  have b4 : Below w.heap.size w w4 := thenBelow b3 hb4
  clear b3
  have C14 := Lib.hid (OwnR.row o4)
  obtain ⟨p4, c4, rfl⟩ := C14.out.form
  clear o4
  clear hb4
  have o5 : OwnR w5 w4.heap.size u5 X := o5
  clear T4
  have RZ5 := Lib.hid (RZ4.out.keep hb5)
  clear RZ4
  have RX5 := Lib.hid (RX4.out.keep hb5)
  clear RX4
  have C15 := Lib.hid (C14.out.keep hb5)
  clear C14
  have b5 : Below w.heap.size w w5 := thenBelow b4 hb5
  clear b4
  have C25 := Lib.hid (OwnR.row o5)
  obtain ⟨p5, c5, rfl⟩ := C25.out.form
  clear o5
  clear hb5
  refine (S1.out _ _ _ C15.out C25.out).mono ?_
  rintro e w6 ⟨rfl, hb6⟩
  have RZ6 := Lib.hid (RZ5.out.keep hb6)
  clear RZ5
  have RX6 := Lib.hid (RX5.out.keep hb6)
  clear RX5
  have C16 := Lib.hid (C15.out.keep hb6)
  clear C15
  have C26 := Lib.hid (C25.out.keep hb6)
  clear C25
  have b6 : Below w.heap.size w w6 := thenBelow b5 hb6
  clear b5
  clear hb6
  clear C16
  clear C26
  clear S1
  go_wp2_with (at_builtin; refine wpList_append_copy rfl _ _ _ rfl 51 i0 _ 40 Try.underlying23 hii hz0 hz1 hz2 rfl (by decide) rcs_len rcs_one rfl _ _ rfl RX6.out hby2 h632 ?_; intro u7 w7 o7 hb7)
  have o7 : OwnR w7 w6.heap.size u7 X := o7
  have RZ7 := Lib.hid (RZ6.out.keep hb7)
  clear RZ6
  have RX7 := Lib.hid (RX6.out.keep hb7)
  clear RX6
  have b7 : Below w.heap.size w w7 := thenBelow b6 hb7
  clear b6
  have C17 := Lib.hid (OwnR.row o7)
  obtain ⟨p7, c7, rfl⟩ := C17.out.form
  clear o7
  clear hb7
  refine (FX.out _ _ C17.out).mono ?_
  rintro e w8 ⟨u8, rfl, o8, hb8⟩
  have RZ8 := Lib.hid (RZ7.out.keep hb8)
  clear RZ7
  have RX8 := Lib.hid (RX7.out.keep hb8)
  clear RX7
  have C18 := Lib.hid (C17.out.keep hb8)
  clear C17
  have b8 : Below w.heap.size w w8 := thenBelow b7 hb8
  clear b7
  have RY8 := Lib.hid (OwnR.row o8)
  obtain ⟨p8, c8, rfl⟩ := RY8.out.form
  clear o8
  clear hb8
  clear C18
  clear FX
  rw [HAG.out]
  have hx1 : ¬ (X.length : Int) < 1 := by omega
  have hZ1 : 1 ≤ Z.length := Nat.le_trans hpos (LE.out Z TZ.out (SameW.refl Z))
  have hwr0 : IntKind.i64.wrap ((Z.length : Int) - 1) = ((Z.length - 1 : Nat) : Int) := by rw [IntKind.wrap_i64]; omega
  go_wp2_with (at_builtin; refine wpList_append_copy rfl _ _ _ rfl 51 i0 _ 40 Try.underlying23 hii hz0 hz1 hz2 rfl (by decide) rcs_len rcs_one rfl _ _ rfl RZ8.out hby1 h631 ?_; intro u9 w9 o9 hb9; obtain ⟨p9, c9, rfl⟩ := (OwnR.row (show OwnR w9 w8.heap.size u9 Z from o9)).form)
  have OL : Hid (OwnR w9 w.heap.size (.slice p9 Z.length c9) Z) := Lib.hid (ownsLow (show OwnR w9 w8.heap.size _ Z from o9) b8.size)
  clear o9
  have RZ9 := Lib.hid (RZ8.out.keep hb9)
  clear RZ8
  have RX9 := Lib.hid (RX8.out.keep hb9)
  clear RX8
  have RY9 := Lib.hid (RY8.out.keep hb9)
  clear RY8
  have b9 : Below w.heap.size w w9 := thenBelow b8 hb9
  clear b8
  clear hb9
  clear RX9
  clear RY9
  go_loopw [13, 14] (fun u i wr => ∃ (j : Nat) (T : List RT), i = .int .i64 j ∧ j + 1 ≤ T.length ∧ T.length ≤ 60 ∧ Below w9.heap.size w9 wr ∧ Hid (OwnR wr w.heap.size u T) ∧ Hid (tabE T = 0 ∧ SameW Z T)) (fun _ i _ => (intOf i).toNat)
  case atStart => exact ⟨Z.length - 1, Z, rfl, by omega, by omega, Below.refl _ _, OL, Lib.hid ⟨TZ.out, SameW.refl Z⟩⟩
  case round =>
    clear OL hwr0
    obtain ⟨j, T, rfl, hj, hT60, bw, OW, HT⟩ := hrel
    have LT := Lib.hid (LE.out T HT.out.1 HT.out.2)
    have RZr := Lib.hid (RZ9.out.keep bw)
    have bW : Below w.heap.size w wr := thenBelow b9 bw
    obtain ⟨n, hn⟩ : ∃ n, T.length = n := ⟨_, rfl⟩
    have HN := Lib.hid hn
    obtain ⟨g, c, rfl, hc1, hc2⟩ := ownR_some OW.out (fun e => by rw [e] at hj; simp at hj)
    rw [hn] at hj hT60 hc1 ⊢
    by_cases h0 : j = 0
    · subst h0
      have hle : X.length ≤ n := by have := LT.out; rw [hn] at this; exact this
      have hle2 : (X.length : Int) ≤ (n : Int) := by omega
      clear hn LT HT OW
      go_wp2
      go_ret
      exact ⟨by simp, bW⟩
    · have hj0 : (0 : Int) < (j : Int) := by omega
      have hjT : j < T.length := by rw [hn]; omega
      have hne : T ≠ [] := fun e => by rw [e] at hjT; simp at hjT
      have ROW : RowR wr (.slice (some ⟨g, 0, none⟩) T.length c) T := by rw [hn]; have := OwnR.row OW.out; rw [hn] at this; exact this
      have R1 : Hid (RowR wr (.slice (some ⟨g, 0, none⟩) j c) (T.take j)) := Lib.hid (by
        have := RowK.part ROW hne 0 j (Nat.zero_le _) (Nat.le_of_lt hjT) (by rw [hn]; exact hc1)
        simpa using this)
      have hLl : (T.take j).length = j := by rw [List.length_take]; omega
      have hLd : (T.drop (j + 1)).length = n - (j + 1) := by rw [List.length_drop, hn]
      obtain ⟨A2, hA2, R2⟩ : ∃ A : Addr, (if c = j + 1 then some (⟨g, 0, none⟩ : Addr) else some ⟨g, (j + 1) * 5, none⟩) = some A ∧ Hid (RowR wr (.slice (some A) (n - (j + 1)) (c - (j + 1))) (T.drop (j + 1))) := by
        by_cases h : c = j + 1
        · refine ⟨_, by rw [if_pos h], Lib.hid (.inl ⟨List.eq_nil_of_length_eq_zero (by rw [hLd]; omega), some ⟨g, 0, none⟩, c - (j + 1), ?_⟩)⟩
          rw [show n - (j + 1) = 0 by omega]
        · refine ⟨_, by rw [if_neg h], Lib.hid ?_⟩
          have := RowK.part ROW hne (j + 1) T.length hjT (Nat.le_refl _) (by rw [hn]; exact hc1)
          rw [hn] at this
          rw [show T.drop (j + 1) = (T.take n).drop (j + 1) by rw [← hn, List.take_length]]
          simpa using this
      have hE := Lib.hid (tab_sub HT.out.1 (erL_sub T j))
      have hEl : (erL T j).length = n - 1 := by unfold erL; rw [List.length_append, hLl, hLd]; omega
      have SE := Lib.hid (S2.out (erL T j) hE.out)
      have HI := Lib.hid (HIF.out (erL T j) hE.out)
      generalize (!(chgL (Z ++ erL T j)).any (difA Z (erL T j))) = qb at SE HI
      have hcap0 : (j : Int) ≤ (c : Int) := by omega
      have hcap1 : (j : Int) + 1 ≤ (n : Int) := by omega
      have hcap2 : (n : Int) ≤ (c : Int) := by omega
      have hk1 : j ≤ c := by omega
      have hk2 : j + 1 ≤ n := by omega
      have hk3 : j + 1 ≤ c := by omega
      have hi0 : (0 : Int) ≤ (j : Int) := by omega
      have hi1 : (0 : Int) ≤ (j : Int) + 1 := by omega
      have hi2 : (j : Int) + 1 ≤ (c : Int) := by omega
      have hie : ¬ ((j : Int) = (j : Int) + 1) := by omega
      have hwi : IntKind.i64.wrap ((j : Int) + 1) = (j : Int) + 1 := by rw [IntKind.wrap_i64]; omega
      have hwd : IntKind.i64.wrap ((j : Int) - 1) = ((j - 1 : Nat) : Int) := by rw [IntKind.wrap_i64]; omega
      have hby5 : (T.take j).length * 40 ≤ 140737488355328 := by rw [hLl]; omega
      have h635 : (T.take j).length ≤ maxLen := by rw [hLl]; unfold maxLen; omega
      have hby6 : (j + (T.drop (j + 1)).length) * 40 ≤ 140737488355328 := by rw [hLd]; omega
      have h636 : j + (T.drop (j + 1)).length ≤ maxLen := by rw [hLd]; unfold maxLen; omega
      have hjm : j - 1 + 1 ≤ n - 1 := by omega
      have hjm2 : j - 1 + 1 ≤ n := by omega
      have HWD := Lib.hid hwd
      clear ROW hn hne hjT hwd
      go_upto_region 11 with fail
      go_region_held3 (fun w' => True ∧ True)
        (exact ⟨trivial, trivial⟩)
        (first
          | (refine step_append_copy rfl _ _ _ rfl 51 i0 _ 40 Try.underlying23 hii hz0 hz1 hz2 rfl (by decide) rcs_len rcs_one rfl _ _ rfl (R1.out.keep ((Below.refl _ wr).drew)) hby5 h635 ?_; intro v30 w30 ho30 hb30; have B7 : Below wr.heap.size wr w30 := thenBelow ((Below.refl _ wr).drew) hb30; have O7 : Hid (w30.ownsRow wr.heap.size 51 5 v30 j (rowOf rcs (T.take j))) := Lib.hid (by have := ho30; rw [hLl] at this; exact this))
          | (refine step_append_row rfl _ _ _ rfl wr.heap.size 51 i0 _ 40 Try.underlying23 hii hz0 hz1 hz2 rfl (by decide) rcs_len rcs_one _ _ _ rfl O7.out _ _ rfl (R2.out.keep B7) ⟨_, _, _, rfl⟩ hby6 h636 B7.size ?_; intro v31 w31 ho31 hb31; have B8 := B7.trans hb31; have O8 := Lib.hid ho31)
          | fail)
      all_goals
        have OE : Hid (OwnR w31 w.heap.size v31 (erL T j)) := Lib.hid (by unfold OwnR erL; rw [List.length_append, hLl, rowOf_app]; exact ownsLow O8.out bW.size)
        have OT : Hid (OwnR w31 w.heap.size (.slice (some ⟨g, 0, none⟩) n c) T) := Lib.hid (by have := ownsKeep OW.out B8; rw [HN.out] at this; unfold OwnR; rw [HN.out]; exact this)
        have RZ8 := Lib.hid (RZr.out.keep B8)
        have bw8 := thenBelow bw B8
        clear O7 O8 B7 B8 R1 R2 OW RZr
        go_wp2_with fail
        refine (SE.out _ _ _ RZ8.out (OwnR.row OE.out)).mono ?_
        rintro e w40 ⟨rfl, hb40⟩
        have bw9 := thenBelow bw8 hb40
        have OE9 := Lib.hid (ownsKeep OE.out hb40)
        have OT9 := Lib.hid (ownsKeep OT.out hb40)
        clear SE hb40 OE OT RZ8
        have hwd := HWD.out
        cases qb with
        | true =>
          have HS := Lib.hid (HI.out rfl)
          clear HI
          go_wp2_with fail
          go_roundw
          case rel => exact ⟨j - 1, erL T j, by go_num, by rw [hEl]; exact hjm, by rw [hEl]; omega, bw9, OE9, Lib.hid ⟨hE.out, HS.out⟩⟩
          case measure => simp [intOf]; omega
        | false =>
          clear HI
          go_wp2_with fail
          go_roundw
          case rel => exact ⟨j - 1, T, by go_num, by rw [HN.out]; exact hjm2, by rw [HN.out]; exact hT60, bw9, OT9, HT⟩
          case measure => simp [intOf]; omega
theorem FBest.own : ownKnob Try.prog.godebug = none := by kernel_rfl
set_option maxRecDepth 100000 in
theorem FBest.lifted (os : Os) (started : os.Started) (H : Type) (enc : TypeId × Value → H) :
    ReturnsInHanded {} Try.checked os 7 .any (Rows.fewestBestSpec.pre6 enc Try.prog Try.f7 Rows.fewestBestRow.domain false) (Rows.fewestBestSpec.post enc Try.prog Try.f7 false true false false) := by
  refine returnsInHanded_of_change (C := Try.checked) FBest.own started (by kernel_rfl) Try.func7
    (ChangeSpec.witness6 (enc := enc) (C := Try.checked) false ⟨#[], #[.slice none 0 0, .int .i64 0], []⟩ 8 (by kernel_rfl) (by kernel_rfl) (by kernel_rfl) (by kernel_rfl)) ?_
  intro W base args ds gs before hval0 hW hcnd _
  have hval : ∀ (j : Nat) t v, Try.f7.params[j]? = some t → args[j]? = some v → Value.okWide Try.prog W .any base t v := hval0
  have hW' := hW
  obtain ⟨p, q, hA0, hV, rfl, hfz, hnd⟩ := hW
  have hA : DataW.TrodAll enc Try.prog W 0 (fun _ => true) true Try.f7.params.toList args.toList ds p := hA0
  rw [Try.params7] at hA hval
  obtain ⟨v0, vs0, d0, ds0, p0, q0, hargs, rfl, rfl, rd0, r0⟩ := trodAll_cons hA
  obtain ⟨v1, vs1, d1, ds1, p1, q1, rfl, rfl, rfl, rd1, r1⟩ := trodAll_cons r0
  obtain ⟨rfl, rfl, rfl⟩ := trodAll_nil r1
  obtain rfl : args = #[v0, v1] := by cases args; simp_all
  obtain ⟨rfl, rfl⟩ := trodVars_none hV
  obtain ⟨l0, row0, wrd0, len0⟩ := openJobs (hval 0 22 v0 rfl rfl) rd0
  obtain ⟨a1, rfl, rfl, rfl, wa1⟩ := open_int Try.underlying3 (hval 1 3 v1 rfl rfl) rd1
  clear hA0 hval0
  refine (FBest.walk v0 l0 a1 wrd0 len0 (i64_of_wf wa1).1 (i64_of_wf wa1).2 W row0).mono fun e W' ⟨he, hb⟩ => ?_
  subst he
  exact ⟨_, rfl, postBelowR (pv := []) hW' hb (fun _ _ _ => trodAll_cons_mk (shut_bool Try.underlying4 _) trodAll_mk0) (trodAll_cons_mk (Below.trod laidOutR (by kernel_rfl) (of_decide_eq_true (by kernel_rfl)) rd0 hb (fun x hx => hW'.lt x (by simp [hx]))) (trodAll_cons_mk (Below.trod laidOutR (by kernel_rfl) (of_decide_eq_true (by kernel_rfl)) rd1 hb (fun x hx => by cases hx)) trodAll_mk0)) (fun _ _ => rfl) rfl⟩

theorem FBest.holds : Rows.FewestBestSaid :=
  OpenClaim.holds_of_wide 7 Try.f7 rfl rfl rfl rfl rfl rfl rfl ⟨rfl, rfl, rfl, rfl, rfl⟩ rfl rfl rfl rfl rfl (by kernel_rfl) Try.func7 (by kernel_rfl)
    (of_decide_eq_true (by kernel_rfl)) (by unfold Func.isWrapper; first | (rw [if_pos (by decide +kernel)]; kernel_rfl) | (rw [if_neg (by decide +kernel)]; exact ⟨rfl, rfl⟩))
    (fun os started H enc _ => FBest.lifted os started H enc)
#print axioms FBest.holds
end Go.Proofs.Ytmjlmfbceccjdaa

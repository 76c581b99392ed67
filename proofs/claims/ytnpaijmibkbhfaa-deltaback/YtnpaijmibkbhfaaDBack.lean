/-
  DeltaBack: for all two lists of jobs and every number the difference of two tables makes the one of the other, and with an act left out it makes another table. No conditions.
-/
import Derived.Test.YtnpaijmibkbhfaaRows
import Derived.Test.YtnpaijmibkbhfaaDapQ
import Derived.Deep.DeepCutAuto
import Derived.Test.YtnpaijmibkbhfaaDChunkM
import Derived.Test.YtnpaijmibkbhfaaSameNo
import Derived.Test.YtnpaijmibkbhfaaAppRow
import Derived.Test.YtnpaijmibkbhfaaRowsJ
import Derived.Test.YtnpaijmibkbhfaaTabY
import Derived.Test.YtnpaijmibkbhfaaPicked
namespace Go.Proofs.Ytnpaijmibkbhfaa
open Go.ChangeShapes Go.WideShapes Go.ChangeAt Go.RowKit Go.Joins
set_option linter.unusedSimpArgs false
set_option linter.unusedVariables false
set_option maxHeartbeats 8000000 in
set_option maxRecDepth 100000 in
theorem DBack.walk (v0 : Value) (l0 : List JT) (v1 : Value) (l1 : List JT) (a2 : Int) (wrd0 : WordsJ l0) (len0 : l0.length ≤ 9223372036854775807) (wrd1 : WordsJ l1) (len1 : l1.length ≤ 9223372036854775807) (b0 : -9223372036854775808 ≤ a2) (b1 : a2 ≤ 9223372036854775807) (w : World) (row0 : RowJ w v0 l0) (row1 : RowJ w v1 l1) :
    Calls Try.prog 6 #[v0, v1, .int .i64 a2] w fun e w' => e = .returned (.bool true) ∧ Below w.heap.size w w' := by
  obtain ⟨i0, hii, hz0, hz1, hz2⟩ := info_parts info_route
  obtain ⟨j0, jii, jz0, jz1, jz2⟩ := info_parts info_act
  have AC0 := Lib.hid (fun (W : World) (r : RowJ W v0 l0) => acts_calls l0 v0 40 (by decide) len0 wrd0 W r)
  have HA0 : (actsZ l0 40).length ≤ 40 := by unfold actsZ; rw [List.length_map, List.length_take]; omega
  have RC0 := Lib.hid (fun (W : World) (u : Value) (r : RowA W u (actsZ l0 40)) => routesOf_calls _ u (by omega) (actsZ_words l0 40) W r)
  have IL := Lib.hid (InvR.run (actsZ l0 40))
  have hlL : (runL (actsZ l0 40)).length ≤ 40 := Nat.le_trans (runL_len _) HA0
  have R0 := Lib.hid row0
  obtain ⟨q0, d0, rfl⟩ := row0.form
  clear row0 wrd0
  have AC1 := Lib.hid (fun (W : World) (r : RowJ W v1 l1) => acts_calls l1 v1 40 (by decide) len1 wrd1 W r)
  have HA1 : (actsZ l1 40).length ≤ 40 := by unfold actsZ; rw [List.length_map, List.length_take]; omega
  have RC1 := Lib.hid (fun (W : World) (u : Value) (r : RowA W u (actsZ l1 40)) => routesOf_calls _ u (by omega) (actsZ_words l1 40) W r)
  have IM := Lib.hid (InvR.run (actsZ l1 40))
  have hlM : (runL (actsZ l1 40)).length ≤ 40 := Nat.le_trans (runL_len _) HA1
  have R1 := Lib.hid row1
  obtain ⟨q1, d1, rfl⟩ := row1.form
  clear row1 wrd1
  generalize runL (actsZ l0 40) = L at RC0 IL hlL
  generalize actsZ l0 40 = A0 at AC0 RC0 HA0
  have wL := Lib.hid (words_invD IL.out)
  clear HA0
  generalize runL (actsZ l1 40) = M at RC1 IM hlM
  generalize actsZ l1 40 = A1 at AC1 RC1 HA1
  have wM := Lib.hid (words_invD IM.out)
  clear HA1
  have EX := Lib.hid (dif_app IL.out IM.out)
  have LS := Lib.hid (fun k (hk : k < (difL L M).length) => dif_less IL.out IM.out (by omega) hk)
  have NL := Lib.hid (dif_nil IL.out IM.out)
  have l1 := difL_len L M
  have wX := Lib.hid (difL_words wL.out wM.out)
  have FX := Lib.hid (diffT_calls IL.out IM.out)
  have GX := Lib.hid (applyT_calls IL.out (difL L M) (by omega) wX.out EX.out.1 EX.out.2)
  obtain ⟨D, hD⟩ : ∃ D, difL L M = D := ⟨_, rfl⟩
  rw [hD] at l1 LS NL wX FX GX
  have GL := Lib.hid (fun k (hk : k < D.length) => applyT_calls IL.out (erL D k) (by have := (erL_sub D k).length_le; omega) (fun a ha => wX.out a (erL_mem ha)) (LS.out k hk).1 rfl)
  have SR := Lib.hid (fun (u1 u2 : Value) (W : World) (r1 : RowR W u1 M) (r2 : RowR W u2 M) => sameRoutes_calls u1 u2 M (by omega) W r1 r2)
  have SG := Lib.hid (fun (k : Nat) (u1 u2 : Value) (W : World) (r1 : RowR W u1 (appL L (erL D k))) (r2 : RowR W u2 M) => sameRoutesG_calls u1 u2 (appL L (erL D k)) M (by have := (appL_inv (erL D k) IL.out).size; omega) (by omega) W r1 r2)
  have hby1 : L.length * 40 ≤ 140737488355328 := by omega
  have h631 : L.length ≤ maxLen := by unfold maxLen; omega
  have hby2 : M.length * 40 ≤ 140737488355328 := by omega
  have h632 : M.length ≤ maxLen := by unfold maxLen; omega
  have hby3 : D.length * 72 ≤ 140737488355328 := by omega
  have h633 : D.length ≤ maxLen := by unfold maxLen; omega
  clear hD EX wX
  go_enter Try.func6, Try.ntmps6
  go_wp2_with fail
  refine (AC0.out _ R0.out).mono ?_
  rintro e w1 ⟨u1, rfl, o1, hb1⟩
  have J01 := Lib.hid (R0.out.keep hb1)
  clear R0
  have J11 := Lib.hid (R1.out.keep hb1)
  clear R1
  have b1 : Below w.heap.size w w1 := hb1
  have T1 := Lib.hid (OwnA.row o1)
  obtain ⟨p1, c1, rfl⟩ := T1.out.form
  clear o1
  clear hb1
  clear J01
  clear AC0
  go_wp2_with fail
  refine (RC0.out _ _ T1.out).mono ?_
  rintro e w2 ⟨u2, rfl, o2, hb2⟩
  have J12 := Lib.hid (J11.out.keep hb2)
  clear J11
  have T2 := Lib.hid (T1.out.keep hb2)
  clear T1
  have b2 : Below w.heap.size w w2 := thenBelow b1 hb2
  clear b1
  have Ra2 := Lib.hid (OwnR.row o2)
  obtain ⟨p2, c2, rfl⟩ := Ra2.out.form
  clear o2
  clear hb2
  clear T2
  clear RC0
  go_wp2_with fail
  refine (AC1.out _ J12.out).mono ?_
  rintro e w3 ⟨u3, rfl, o3, hb3⟩
  have J13 := Lib.hid (J12.out.keep hb3)
  clear J12
  have Ra3 := Lib.hid (Ra2.out.keep hb3)
  clear Ra2
  have b3 : Below w.heap.size w w3 := thenBelow b2 hb3
  clear b2
  have T3 := Lib.hid (OwnA.row o3)
  obtain ⟨p3, c3, rfl⟩ := T3.out.form
  clear o3
  clear hb3
  clear J13
  clear AC1
  go_wp2_with fail
  refine (RC1.out _ _ T3.out).mono ?_
  rintro e w4 ⟨u4, rfl, o4, hb4⟩
  have Ra4 := Lib.hid (Ra3.out.keep hb4)
  clear Ra3
  have T4 := Lib.hid (T3.out.keep hb4)
  clear T3
  have b4 : Below w.heap.size w w4 := thenBelow b3 hb4
  clear b3
  have Rb4 := Lib.hid (OwnR.row o4)
  obtain ⟨p4, c4, rfl⟩ := Rb4.out.form
  clear o4
  clear hb4
  clear T4
  clear RC1
  have tok5 : True := trivial
  go_wp2_with (first | (have _t := tok5; at_builtin; refine wpList_append_copy rfl _ _ _ rfl 57 i0 _ 40 Try.underlying32 hii hz0 hz1 hz2 rfl (by decide) rcs_len rcs_one rfl _ _ rfl Ra4.out hby1 h631 ?_; intro u5 w5 o5 hb5; have T5 := Lib.hid (Rb4.out.keep hb5); clear tok5) | (at_builtin; refine wpList_append_copy rfl _ _ _ rfl 57 i0 _ 40 Try.underlying32 hii hz0 hz1 hz2 rfl (by decide) rcs_len rcs_one rfl _ _ rfl T5.out hby2 h632 ?_; intro u6 w6 o6 hb6))
  have o5 : OwnR w5 w4.heap.size u5 L := o5
  have Ra5 := Lib.hid (Ra4.out.keep hb5)
  clear Ra4
  have Rb5 := Lib.hid (Rb4.out.keep hb5)
  clear Rb4
  have b5 : Below w.heap.size w w5 := thenBelow b4 hb5
  clear b4
  have Ca5 := Lib.hid (OwnR.row o5)
  obtain ⟨p5, c5, rfl⟩ := Ca5.out.form
  clear o5
  clear hb5
  have o6 : OwnR w6 w5.heap.size u6 M := o6
  clear T5
  have Ra6 := Lib.hid (Ra5.out.keep hb6)
  clear Ra5
  have Rb6 := Lib.hid (Rb5.out.keep hb6)
  clear Rb5
  have Ca6 := Lib.hid (Ca5.out.keep hb6)
  clear Ca5
  have b6 : Below w.heap.size w w6 := thenBelow b5 hb6
  clear b5
  have Cb6 := Lib.hid (OwnR.row o6)
  obtain ⟨p6, c6, rfl⟩ := Cb6.out.form
  clear o6
  clear hb6
  refine (FX.out _ _ _ Ca6.out Cb6.out).mono ?_
  rintro e w7 ⟨u7, rfl, o7, hb7⟩
  obtain ⟨dp, dc, rfl, hdf⟩ := ownA_form o7
  have HDF := Lib.hid hdf
  have Ra7 := Lib.hid (Ra6.out.keep hb7)
  clear Ra6
  have Rb7 := Lib.hid (Rb6.out.keep hb7)
  clear Rb6
  have Ca7 := Lib.hid (Ca6.out.keep hb7)
  clear Ca6
  have Cb7 := Lib.hid (Cb6.out.keep hb7)
  clear Cb6
  have b7 : Below w.heap.size w w7 := thenBelow b6 hb7
  clear b6
  clear hb7
  have Rd7 := Lib.hid (OwnA.row o7)
  clear o7 hdf FX
  clear Ca7
  clear Cb7
  have tok8 : True := trivial
  go_wp2_with (first | (have _t := tok8; at_builtin; refine wpList_append_copy rfl _ _ _ rfl 57 i0 _ 40 Try.underlying32 hii hz0 hz1 hz2 rfl (by decide) rcs_len rcs_one rfl _ _ rfl Ra7.out hby1 h631 ?_; intro u8 w8 o8 hb8; have T8 := Lib.hid (Rd7.out.keep hb8); clear tok8) | (at_builtin; refine wpList_append_copy rfl _ _ _ rfl 43 j0 _ 72 Try.underlying33 jii jz0 jz1 jz2 rfl (by decide) acs_len acs_one rfl _ _ rfl T8.out hby3 h633 ?_; intro u9 w9 o9 hb9))
  have o8 : OwnR w8 w7.heap.size u8 L := o8
  have Ra8 := Lib.hid (Ra7.out.keep hb8)
  clear Ra7
  have Rb8 := Lib.hid (Rb7.out.keep hb8)
  clear Rb7
  have Rd8 := Lib.hid (Rd7.out.keep hb8)
  clear Rd7
  have b8 : Below w.heap.size w w8 := thenBelow b7 hb8
  clear b7
  have Ca8 := Lib.hid (OwnR.row o8)
  obtain ⟨p8, c8, rfl⟩ := Ca8.out.form
  clear o8
  clear hb8
  have o9 : OwnA w9 w8.heap.size u9 D := o9
  clear T8
  have Ra9 := Lib.hid (Ra8.out.keep hb9)
  clear Ra8
  have Rb9 := Lib.hid (Rb8.out.keep hb9)
  clear Rb8
  have Rd9 := Lib.hid (Rd8.out.keep hb9)
  clear Rd8
  have Ca9 := Lib.hid (Ca8.out.keep hb9)
  clear Ca8
  have b9 : Below w.heap.size w w9 := thenBelow b8 hb9
  clear b8
  have Cd9 := Lib.hid (OwnA.row o9)
  obtain ⟨p9, c9, rfl⟩ := Cd9.out.form
  clear o9
  clear hb9
  refine (GX.out _ _ _ Ca9.out Cd9.out).mono ?_
  rintro e w10 ⟨u10, rfl, o10, hb10⟩
  have Ra10 := Lib.hid (Ra9.out.keep hb10)
  clear Ra9
  have Rb10 := Lib.hid (Rb9.out.keep hb10)
  clear Rb9
  have Rd10 := Lib.hid (Rd9.out.keep hb10)
  clear Rd9
  have Ca10 := Lib.hid (Ca9.out.keep hb10)
  clear Ca9
  have Cd10 := Lib.hid (Cd9.out.keep hb10)
  clear Cd9
  have b10 : Below w.heap.size w w10 := thenBelow b9 hb10
  clear b9
  have Rc10 := Lib.hid (OwnR.row o10)
  obtain ⟨p10, c10, rfl⟩ := Rc10.out.form
  clear o10
  clear hb10
  clear Ca10
  clear Cd10
  clear GX
  go_wp2_with fail
  refine (SR.out _ _ _ Rc10.out Rb10.out).mono ?_
  rintro e w11 ⟨rfl, hb11⟩
  have Ra11 := Lib.hid (Ra10.out.keep hb11)
  clear Ra10
  have Rb11 := Lib.hid (Rb10.out.keep hb11)
  clear Rb10
  have Rd11 := Lib.hid (Rd10.out.keep hb11)
  clear Rd10
  have Rc11 := Lib.hid (Rc10.out.keep hb11)
  clear Rc10
  have b11 : Below w.heap.size w w11 := thenBelow b10 hb11
  clear b10
  clear hb11
  clear Rc11
  obtain ⟨n, hn⟩ : ∃ n, D.length = n := ⟨_, rfl⟩
  have HN := Lib.hid hn
  by_cases h0 : n = 0
  · have eLM : L = M := NL.out (List.eq_nil_of_length_eq_zero (hn.trans h0))
    have RA := Ra11.out
    rw [eLM] at RA
    rw [hn, h0]
    rw [eLM]
    go_wp2_with fail
    refine (SR.out _ _ _ RA Rb11.out).mono ?_
    rintro e w12 ⟨rfl, hb12⟩
    have bb := thenBelow b11 hb12
    go_wp2
    go_ret
    exact ⟨by simp, bb⟩
  · obtain ⟨g, rfl, hc1, hc2⟩ := HDF.out (fun e => h0 (by rw [← hn, e]; rfl))
    have PK := Lib.hid (fun W => picked_calls a2 n (by omega) (by omega) b0 b1 W)
    have hd0 := Int.emod_nonneg a2 (show (n : Int) ≠ 0 by omega)
    have hd1 := Int.emod_lt_of_pos a2 (show (0 : Int) < n by omega)
    obtain ⟨k, hk⟩ := Int.eq_ofNat_of_zero_le hd0
    rw [hk] at PK hd1
    have hkn : k < n := by omega
    have hkD : k < D.length := by omega
    have RD := Rd11.out
    have hneD : D ≠ [] := fun e => h0 (by rw [← hn, e]; rfl)
    have RL : ∀ W, Below w11.heap.size w11 W → RowA W (.slice (some ⟨g, 0, none⟩) k dc) (D.take k) := fun W hW => by
      have := RowK.part (RD.keep hW) hneD 0 k (Nat.zero_le _) (Nat.le_of_lt hkD) hc1
      simpa using this
    obtain ⟨A2, hA2, RH⟩ : ∃ A : Addr, (if dc = k + 1 then some (⟨g, 0, none⟩ : Addr) else some ⟨g, (k + 1) * 9, none⟩) = some A ∧ ∀ W, Below w11.heap.size w11 W → RowA W (.slice (some A) (n - (k + 1)) (dc - (k + 1))) (D.drop (k + 1)) := by
      by_cases h : dc = k + 1
      · refine ⟨_, by rw [if_pos h], fun W hW => .inl ⟨List.eq_nil_of_length_eq_zero (by rw [List.length_drop]; omega), some ⟨g, 0, none⟩, dc - (k + 1), ?_⟩⟩
        rw [show n - (k + 1) = 0 by omega]
      · refine ⟨_, by rw [if_neg h], fun W hW => ?_⟩
        have := RowK.part (RD.keep hW) hneD (k + 1) D.length hkD (Nat.le_refl _) hc1
        rw [show D.drop (k + 1) = (D.take D.length).drop (k + 1) by rw [List.take_length], ← hn]
        simpa using this
    have HL := Lib.hid RL
    have HH := Lib.hid RH
    rw [hn] at hc1 ⊢
    have hcap0 : (k : Int) ≤ (dc : Int) := by omega
    have hcap1 : (k : Int) + 1 ≤ (n : Int) := by omega
    have hcap2 : (n : Int) ≤ (dc : Int) := by omega
    have hk1 : k ≤ dc := by omega
    have hk2 : k + 1 ≤ n := by omega
    have hk3 : k + 1 ≤ dc := by omega
    have hi0 : (0 : Int) ≤ (k : Int) := by omega
    have hi1 : (0 : Int) ≤ (k : Int) + 1 := by omega
    have hi2 : (k : Int) + 1 ≤ (dc : Int) := by omega
    have hie : ¬ ((k : Int) = (k : Int) + 1) := by omega
    have hwi : IntKind.i64.wrap ((k : Int) + 1) = (k : Int) + 1 := by rw [IntKind.wrap_i64]; omega
    have hLl : (D.take k).length = k := by rw [List.length_take]; omega
    have hLd : (D.drop (k + 1)).length = n - (k + 1) := by rw [List.length_drop, hn]
    have hby5 : (D.take k).length * 72 ≤ 140737488355328 := by rw [hLl]; omega
    have h635 : (D.take k).length ≤ maxLen := by rw [hLl]; unfold maxLen; omega
    have hby6 : (k + (D.drop (k + 1)).length) * 72 ≤ 140737488355328 := by rw [hLd]; omega
    have h636 : k + (D.drop (k + 1)).length ≤ maxLen := by rw [hLd]; unfold maxLen; omega
    have hn0 : ¬ (n : Int) = 0 := by omega
    clear RL RH RD hd0 hn
    go_wp2_with fail
    refine (PK.out _).mono ?_
    rintro e w' ⟨rfl, rfl⟩
    go_upto_region 10 with fail
    go_region_held3 (fun w' => True ∧ True)
      (exact ⟨trivial, trivial⟩)
      (first
        | (refine step_append_copy rfl _ _ _ rfl 43 j0 _ 72 Try.underlying33 jii jz0 jz1 jz2 rfl (by decide) acs_len acs_one rfl _ _ rfl (HL.out _ ((Below.refl _ w11).drew)) hby5 h635 ?_; intro v30 w30 ho30 hb30; have B7 : Below w11.heap.size w11 w30 := thenBelow ((Below.refl _ w11).drew) hb30; have O7 : Hid (w30.ownsRow w11.heap.size 43 9 v30 k (rowOf acs (D.take k))) := Lib.hid (by have := ho30; rw [hLl] at this; exact this))
        | (refine step_append_row rfl _ _ _ rfl w11.heap.size 43 j0 _ 72 Try.underlying33 jii jz0 jz1 jz2 rfl (by decide) acs_len acs_one _ _ _ rfl O7.out _ _ rfl (HH.out _ B7) ⟨_, _, _, rfl⟩ hby6 h636 B7.size ?_; intro v31 w31 ho31 hb31; have B8 := B7.trans hb31; have O8 := Lib.hid ho31)
        | fail)
    all_goals
      have RW : Hid (RowA w31 v31 (erL D k)) := Lib.hid (OwnA.row (base := w11.heap.size) (by unfold OwnA erL; rw [List.length_append, hLl, rowOf_app]; exact O8.out))
      have ra := Lib.hid (Ra11.out.keep B8)
      have rb := Lib.hid (Rb11.out.keep B8)
      have bb := thenBelow b11 B8
      have SGk := SG.out k
      rw [decide_eq_false (LS.out k hkD).2] at SGk
      have HSG := Lib.hid SGk
      clear SGk O7 O8 B7 B8 HL HH
      go_wp2_with (at_builtin; refine wpList_append_copy rfl _ _ _ rfl 57 i0 _ 40 Try.underlying32 hii hz0 hz1 hz2 rfl (by decide) rcs_len rcs_one rfl _ _ rfl ra.out hby1 h631 ?_; intro u40 w40 o40 hb40)
      have O40 : Hid (RowR w40 u40 L) := Lib.hid (OwnR.row o40)
      have rb2 := Lib.hid (rb.out.keep hb40)
      have RW2 := Lib.hid (RW.out.keep hb40)
      have bb2 := thenBelow bb hb40
      refine (GL.out k hkD _ _ _ O40.out RW2.out).mono ?_
      rintro e w41 ⟨u41, rfl, o41, hb41⟩
      have O41 := Lib.hid (OwnR.row o41)
      have rb3 := Lib.hid (rb2.out.keep hb41)
      have bb3 := thenBelow bb2 hb41
      go_wp2_with fail
      refine (HSG.out _ _ _ O41.out rb3.out).mono ?_
      rintro e w42 ⟨rfl, hb42⟩
      have bb4 := thenBelow bb3 hb42
      go_wp2
      go_ret
      exact ⟨by simp, bb4⟩
theorem DBack.own : ownKnob Try.prog.godebug = none := by kernel_rfl
set_option maxRecDepth 100000 in
theorem DBack.lifted (os : Os) (started : os.Started) (H : Type) (enc : TypeId × Value → H) :
    ReturnsInHanded {} Try.checked os 6 .any (Rows.deltaBackSpec.pre6 enc Try.prog Try.f6 Rows.deltaBackRow.domain false) (Rows.deltaBackSpec.post enc Try.prog Try.f6 false true false false) := by
  refine returnsInHanded_of_change (C := Try.checked) DBack.own started (by kernel_rfl) Try.func6
    (ChangeSpec.witness6 (enc := enc) (C := Try.checked) false ⟨#[], #[.slice none 0 0, .slice none 0 0, .int .i64 0], []⟩ 8 (by kernel_rfl) (by kernel_rfl) (by kernel_rfl) (by kernel_rfl)) ?_
  intro W base args ds gs before hval0 hW hcnd _
  have hval : ∀ (j : Nat) t v, Try.f6.params[j]? = some t → args[j]? = some v → Value.okWide Try.prog W .any base t v := hval0
  have hW' := hW
  obtain ⟨p, q, hA0, hV, rfl, hfz, hnd⟩ := hW
  have hA : DataW.TrodAll enc Try.prog W 0 (fun _ => true) true Try.f6.params.toList args.toList ds p := hA0
  rw [Try.params6] at hA hval
  obtain ⟨v0, vs0, d0, ds0, p0, q0, hargs, rfl, rfl, rd0, r0⟩ := trodAll_cons hA
  obtain ⟨v1, vs1, d1, ds1, p1, q1, rfl, rfl, rfl, rd1, r1⟩ := trodAll_cons r0
  obtain ⟨v2, vs2, d2, ds2, p2, q2, rfl, rfl, rfl, rd2, r2⟩ := trodAll_cons r1
  obtain ⟨rfl, rfl, rfl⟩ := trodAll_nil r2
  obtain rfl : args = #[v0, v1, v2] := by cases args; simp_all
  obtain ⟨rfl, rfl⟩ := trodVars_none hV
  obtain ⟨l0, row0, wrd0, len0⟩ := openJobs (hval 0 38 v0 rfl rfl) rd0
  obtain ⟨l1, row1, wrd1, len1⟩ := openJobs (hval 1 38 v1 rfl rfl) rd1
  obtain ⟨a2, rfl, rfl, rfl, wa2⟩ := open_int Try.underlying3 (hval 2 3 v2 rfl rfl) rd2
  clear hA0 hval0
  refine (DBack.walk v0 l0 v1 l1 a2 wrd0 len0 wrd1 len1 (i64_of_wf wa2).1 (i64_of_wf wa2).2 W row0 row1).mono fun e W' ⟨he, hb⟩ => ?_
  subst he
  exact ⟨_, rfl, postBelowR (pv := []) hW' hb (fun _ _ _ => trodAll_cons_mk (shut_bool Try.underlying4 _) trodAll_mk0) (trodAll_cons_mk (Below.trod laidOutR (by kernel_rfl) (of_decide_eq_true (by kernel_rfl)) rd0 hb (fun x hx => hW'.lt x (by simp [hx]))) (trodAll_cons_mk (Below.trod laidOutR (by kernel_rfl) (of_decide_eq_true (by kernel_rfl)) rd1 hb (fun x hx => hW'.lt x (by simp [hx]))) (trodAll_cons_mk (Below.trod laidOutR (by kernel_rfl) (of_decide_eq_true (by kernel_rfl)) rd2 hb (fun x hx => by cases hx)) trodAll_mk0))) (fun _ _ => rfl) rfl⟩

theorem DBack.holds : Rows.DeltaBackSaid :=
  OpenClaim.holds_of_wide 6 Try.f6 rfl rfl rfl rfl rfl rfl rfl ⟨rfl, rfl, rfl, rfl, rfl⟩ rfl rfl rfl rfl rfl (by kernel_rfl) Try.func6 (by kernel_rfl)
    (of_decide_eq_true (by kernel_rfl)) (by unfold Func.isWrapper; first | (rw [if_pos (by decide +kernel)]; kernel_rfl) | (rw [if_neg (by decide +kernel)]; exact ⟨rfl, rfl⟩))
    (fun os started H enc _ => DBack.lifted os started H enc)
#print axioms DBack.holds
end Go.Proofs.Ytnpaijmibkbhfaa

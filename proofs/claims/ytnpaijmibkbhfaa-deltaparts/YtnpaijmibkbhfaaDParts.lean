/-
  DeltaParts: for all two lists of jobs and every number applying acts is applying the first ones and then the others. No conditions.
-/
import Derived.Test.YtnpaijmibkbhfaaRows
import Derived.Test.YtnpaijmibkbhfaaDapQ
import Derived.Deep.DeepCutAuto
import Derived.Test.YtnpaijmibkbhfaaDPartM
import Derived.Test.YtnpaijmibkbhfaaAppRow
import Derived.Test.YtnpaijmibkbhfaaRowsJ
import Derived.Test.YtnpaijmibkbhfaaTabY
import Derived.Test.YtnpaijmibkbhfaaPicked
namespace Go.Proofs.Ytnpaijmibkbhfaa
open Go.ChangeShapes Go.WideShapes Go.ChangeAt Go.RowKit Go.Joins
set_option linter.unusedSimpArgs false
set_option linter.unusedVariables false
set_option maxHeartbeats 8000000 in
set_option maxRecDepth 100000 in
theorem DParts.walk (v0 : Value) (l0 : List JT) (v1 : Value) (l1 : List JT) (a2 : Int) (wrd0 : WordsJ l0) (len0 : l0.length ≤ 9223372036854775807) (wrd1 : WordsJ l1) (len1 : l1.length ≤ 9223372036854775807) (b0 : -9223372036854775808 ≤ a2) (b1 : a2 ≤ 9223372036854775807) (w : World) (row0 : RowJ w v0 l0) (row1 : RowJ w v1 l1) :
    Calls Try.prog 5 #[v0, v1, .int .i64 a2] w fun e w' => e = .returned (.bool true) ∧ Below w.heap.size w w' := by
  obtain ⟨i0, hii, hz0, hz1, hz2⟩ := info_parts info_route
  obtain ⟨j0, jii, jz0, jz1, jz2⟩ := info_parts info_act
  have AC0 := Lib.hid (fun (W : World) (r : RowJ W v0 l0) => acts_calls l0 v0 25 (by decide) len0 wrd0 W r)
  have HA0 : (actsZ l0 25).length ≤ 25 := by unfold actsZ; rw [List.length_map, List.length_take]; omega
  have RC0 := Lib.hid (fun (W : World) (u : Value) (r : RowA W u (actsZ l0 25)) => routesOf_calls _ u (by omega) (actsZ_words l0 25) W r)
  have IL := Lib.hid (InvR.run (actsZ l0 25))
  have hlL : (runL (actsZ l0 25)).length ≤ 25 := Nat.le_trans (runL_len _) HA0
  have R0 := Lib.hid row0
  obtain ⟨q0, d0, rfl⟩ := row0.form
  clear row0 wrd0
  generalize runL (actsZ l0 25) = L at RC0 IL hlL
  generalize actsZ l0 25 = A0 at AC0 RC0 HA0
  have wL := Lib.hid (words_invD IL.out)
  clear HA0
  have AC1 := Lib.hid (fun (W : World) (r : RowJ W v1 l1) => acts_calls l1 v1 25 (by decide) len1 wrd1 W r)
  have hA1 : (actsZ l1 25).length ≤ 25 := by unfold actsZ; rw [List.length_map, List.length_take]; omega
  have wA := Lib.hid (actsZ_words l1 25)
  have FP := Lib.hid (onlyP_fine l1 25)
  have hP1 : (onlyP (actsZ l1 25)).length ≤ 25 := Nat.le_trans (onlyP_len _) hA1
  have R1 := Lib.hid row1
  obtain ⟨q1, d1, rfl⟩ := row1.form
  clear row1 wrd1
  generalize actsZ l1 25 = A1 at AC1 hA1 wA FP hP1
  have wP : Hid (WordsA (onlyP A1)) := Lib.hid fun a ha => wA.out a (List.mem_filter.1 ha).1
  have PA := Lib.hid (fun k => part_all FP.out (by omega : L.length + (onlyP A1).length ≤ 60) k)
  have GX := Lib.hid (applyT_calls IL.out (onlyP A1) (by omega) wP.out (PA.out 0).1 rfl)
  have GY := Lib.hid (fun k => applyT_calls IL.out ((onlyP A1).take k) (by rw [List.length_take]; omega) (fun a ha => wP.out a (List.mem_of_mem_take ha)) (PA.out k).2.1 rfl)
  have GZ := Lib.hid (fun k => applyT_calls (appL_inv ((onlyP A1).take k) IL.out) ((onlyP A1).drop k) (by rw [List.length_drop]; omega) (fun a ha => wP.out a (List.mem_of_mem_drop ha)) (PA.out k).2.2.1 (PA.out k).2.2.2)
  have G1 := Lib.hid (applyT_calls nil_inv [onePut] (by decide) (fun a ha => by rw [List.mem_singleton] at ha; subst ha; exact ⟨by decide, by decide⟩) one_app.1 rfl)
  have LX : ∀ k, (appL L ((onlyP A1).take k)).length ≤ 60 := fun k => (appL_inv _ IL.out).size
  have lX := (appL_inv (onlyP A1) IL.out).size
  have SR := Lib.hid (fun (u1 u2 : Value) (W : World) (r1 : RowR W u1 (appL L (onlyP A1))) (r2 : RowR W u2 (appL L (onlyP A1))) => sameRoutes_calls u1 u2 _ (by omega) W r1 r2)
  have hby1 : L.length * 40 ≤ 140737488355328 := by omega
  have h631 : L.length ≤ maxLen := by unfold maxLen; omega
  clear FP wA
  go_enter Try.func5, Try.ntmps5
  go_wp2_with fail
  refine (AC0.out _ R0.out).mono ?_
  rintro e w1 ⟨u1, rfl, o1, hb1⟩
  have J01 := Lib.hid (R0.out.keep hb1)
  clear R0
  have J11 := Lib.hid (R1.out.keep hb1)
  clear R1
  have b1 : Below w.heap.size w w1 := hb1
  have T1 := Lib.hid (OwnA.row o1)
  obtain ⟨p1, c1, rfl⟩ := T1.out.form
  clear o1
  clear hb1
  clear J01
  clear AC0
  go_wp2_with fail
  refine (RC0.out _ _ T1.out).mono ?_
  rintro e w2 ⟨u2, rfl, o2, hb2⟩
  have J12 := Lib.hid (J11.out.keep hb2)
  clear J11
  have T2 := Lib.hid (T1.out.keep hb2)
  clear T1
  have b2 : Below w.heap.size w w2 := thenBelow b1 hb2
  clear b1
  have Ra2 := Lib.hid (OwnR.row o2)
  obtain ⟨p2, c2, rfl⟩ := Ra2.out.form
  clear o2
  clear hb2
  clear T2
  clear RC0
  go_wp2_with fail
  refine (AC1.out _ J12.out).mono ?_
  rintro e w3 ⟨u3, rfl, o3, hb3⟩
  have J13 := Lib.hid (J12.out.keep hb3)
  clear J12
  have Ra3 := Lib.hid (Ra2.out.keep hb3)
  clear Ra2
  have b3 : Below w.heap.size w w3 := thenBelow b2 hb3
  clear b2
  have Rm3 := Lib.hid (OwnA.row o3)
  obtain ⟨p3, c3, rfl⟩ := Rm3.out.form
  clear o3
  clear hb3
  clear J13
  clear AC1
  obtain ⟨mp, mc, hme, _, at_⟩ := Rm3.out.at
  have AT := Lib.hid at_
  obtain ⟨h1_, h2_, h3_⟩ : True ∧ True ∧ True := ⟨trivial, trivial, trivial⟩
  obtain ⟨m, hm⟩ : ∃ m, A1.length = m := ⟨_, rfl⟩
  have HM := Lib.hid hm
  rw [hm] at hA1 hme ⊢
  clear Rm3 at_ hm h1_ h2_ h3_
  injection hme with hm1 hm2 hm3
  subst hm1
  subst hm3
  clear hm2
  go_wp2_with fail
  go_loopw [9, 11] (fun u i wr => ∃ k : Nat, k ≤ m ∧ i = .int .i64 k ∧ Below w3.heap.size w3 wr ∧ Hid (OwnA wr w3.heap.size u (onlyP (A1.take k)))) (fun _ i _ => m - (intOf i).toNat)
  case atStart => exact ⟨0, by omega, rfl, Below.refl _ _, Lib.hid (World.ownsRow_nil _ _ _ _)⟩
  case round =>
    obtain ⟨k, hk, rfl, bw, OW⟩ := hrel
    by_cases hlt : k < m
    · have hkl : k < A1.length := by rw [HM.out]; exact hlt
      obtain ⟨g, o, rfl, hgw, hrec⟩ := AT.out k hkl
      obtain ⟨x0, x1, x2, x3, x4, x5, x6, x7, x8⟩ := actCells (hrec.keep bw hgw)
      have HT := Lib.hid (onlyP_take hkl)
      have hcll : (onlyP (A1.take k)).length ≤ 1000 := by have := onlyP_len (A1.take k); rw [List.length_take] at this; omega
      have hlt2 : (k : Int) < (m : Int) := by omega
      generalize A1[k] = r at x0 x1 x2 x3 x4 x5 x6 x7 x8 HT
      obtain ⟨cl, hcl⟩ : ∃ cl, onlyP (A1.take k) = cl := ⟨_, rfl⟩
      rw [hcl] at OW HT hcll
      clear hcl hrec
      by_cases h1 : r.k = 1
      · have hb1 : (r.k == 1) = true := by simpa using h1
        have HT2 : Hid (onlyP (A1.take (k + 1)) = cl ++ [r]) := Lib.hid (by rw [HT.out, if_pos h1])
        have OD3 := Lib.hid (OW.out.alloc (objA r))
        have hCN := Lib.hid (cell_new wr (acs r) 43)
        have hnA := bw.alloc bw.size (objA r)
        have hsz := bw.size
        clear HT OW h1
        go_wp2_with (at_builtin; refine wpList_append_one rfl _ _ 33 rfl w3.heap.size 43 j0 _ 72 Try.underlying33 jii jz0 jz1 jz2 rfl (by decide) acs_len acs_one cl ⟨_, rfl, OD3.out⟩ r wr.heap.size 1 rfl hCN.out (by omega) (by decide) (by simp; omega) ?_; intro v5 w5 ho5 hg5 hb5)
        have hn5 := hnA.trans hb5
        have OD5 := Lib.hid ho5
        clear ho5 hg5 hb5 hnA OD3 hCN
        go_roundw
        case rel => exact ⟨k + 1, by omega, by go_num, hn5, Lib.hid (by rw [HT2.out]; exact OD5.out)⟩
        case measure => simp [intOf]; omega
      · have hb1 : (r.k == 1) = false := by simpa using h1
        have HT2 : Hid (onlyP (A1.take (k + 1)) = cl) := Lib.hid (by rw [HT.out, if_neg h1, List.append_nil])
        clear HT h1
        go_wp2_with fail
        go_roundw
        case rel => exact ⟨k + 1, by omega, by go_num, bw, Lib.hid (by rw [HT2.out]; exact OW.out)⟩
        case measure => simp [intOf]; omega
    · obtain rfl : k = m := by omega
      have e1 : A1.take k = A1 := by rw [← HM.out]; exact List.take_length
      rw [e1] at OW
      generalize onlyP A1 = P at OW hP1 wP PA GX GY GZ LX lX SR
      have WR := Lib.hid (OwnA.row OW.out)
      have RA := Lib.hid (Ra3.out.keep bw)
      have bW : Below w.heap.size w wr := thenBelow b3 bw
      have PK := Lib.hid (fun W => picked_calls a2 ((P.length : Int) + 1) (by omega) (by omega) b0 b1 W)
      have hd0 := Int.emod_nonneg a2 (show (P.length : Int) + 1 ≠ 0 by omega)
      have hd1 := Int.emod_lt_of_pos a2 (show (0 : Int) < (P.length : Int) + 1 by omega)
      obtain ⟨j, hj⟩ := Int.eq_ofNat_of_zero_le hd0
      rw [hj] at PK hd1
      have hjn : j ≤ P.length := by omega
      clear hd0 hj hd1 e1 hlt AT HM
      obtain ⟨n, hn⟩ : ∃ n, P.length = n := ⟨_, rfl⟩
      have HN := Lib.hid hn
      have hwr : IntKind.i64.wrap ((n : Int) + 1) = (n : Int) + 1 := by rw [IntKind.wrap_i64]; omega
      have hby3 : P.length * 72 ≤ 140737488355328 := by omega
      have h633 : P.length ≤ maxLen := by unfold maxLen; omega
      have hby5 : (P.take j).length * 72 ≤ 140737488355328 := by rw [List.length_take]; omega
      have h635 : (P.take j).length ≤ maxLen := by rw [List.length_take]; unfold maxLen; omega
      have hby6 : (P.drop j).length * 72 ≤ 140737488355328 := by rw [List.length_drop]; omega
      have h636 : (P.drop j).length ≤ maxLen := by rw [List.length_drop]; unfold maxLen; omega
      have hby7 : (appL L (P.take j)).length * 40 ≤ 140737488355328 := by have := LX j; omega
      have h637 : (appL L (P.take j)).length ≤ maxLen := by have := LX j; unfold maxLen; omega
      rcases ownA_form2 OW.out with ⟨rfl, hnil⟩ | ⟨g, c, rfl, hc1, hc2⟩
      · subst hnil
        have hn0 : n = 0 := by simpa using hn.symm
        subst hn0
        have hj0 : j = 0 := by simpa using hjn
        subst hj0
        have Q1 := Lib.hid (fun (W : World) (hW : Below wr.heap.size wr W) => (show RowA W (.slice none 0 0) (([] : List ActT).take 0) from .inl ⟨rfl, none, 0, rfl⟩))
        have Q2 := Lib.hid (fun (W : World) (hW : Below wr.heap.size wr W) => (show RowA W (.slice none 0 0) (([] : List ActT).drop 0) from .inl ⟨rfl, none, 0, rfl⟩))
        clear hn WR OW
        have WR := Lib.hid (fun (W : World) (hW : Below wr.heap.size wr W) => (show RowA W (.slice none 0 0) ([] : List ActT) from .inl ⟨rfl, none, 0, rfl⟩))
        go_wp2_with fail
        refine (PK.out _).mono ?_
        rintro e w' ⟨rfl, rfl⟩
        clear PK
        have tok1 : True := trivial
        go_wp2_with (first | (have _t := tok1; at_builtin; refine wpList_append_copy rfl _ _ _ rfl 57 i0 _ 40 Try.underlying32 hii hz0 hz1 hz2 rfl (by decide) rcs_len rcs_one rfl _ _ rfl RA.out hby1 h631 ?_; intro u51 w51 o51 hb51; have T51 := Lib.hid (WR.out _ hb51); clear tok1) | (at_builtin; refine wpList_append_copy rfl _ _ _ rfl 43 j0 _ 72 Try.underlying33 jii jz0 jz1 jz2 rfl (by decide) acs_len acs_one rfl _ _ rfl T51.out hby3 h633 ?_; intro u52 w52 o52 hb52))
        have b52 := thenBelow hb51 hb52
        have R51 := Lib.hid ((OwnR.row (show OwnR w51 wr.heap.size u51 L from o51)).keep hb52)
        have R52 := Lib.hid (OwnA.row (show OwnA w52 w51.heap.size u52 _ from o52))
        clear T51 o51 o52 hb51 hb52
        refine (GX.out _ _ _ R51.out R52.out).mono ?_
        rintro e w53 ⟨u53, rfl, o53, hb53⟩
        have b53 := thenBelow b52 hb53
        have X53 := Lib.hid (OwnR.row o53)
        have A53 := Lib.hid (RA.out.keep b53)
        have Q53 := Lib.hid (Q1.out _ b53)
        obtain ⟨p53, c53, rfl⟩ := X53.out.form
        clear o53 hb53 b52 R51 R52
        go_upto_region 11 with fail
        go_region_held3 (fun w' => True ∧ True)
          (exact ⟨trivial, trivial⟩)
          (first
            | (refine step_append_copy rfl _ _ _ rfl 57 i0 _ 40 Try.underlying32 hii hz0 hz1 hz2 rfl (by decide) rcs_len rcs_one rfl _ _ rfl (A53.out.keep ((Below.refl _ w53).drew)) hby1 h631 ?_; intro u54 w54 o54 hb54; have B54 : Below w53.heap.size w53 w54 := thenBelow ((Below.refl _ w53).drew) hb54)
            | (refine step_append_copy rfl _ _ _ rfl 43 j0 _ 72 Try.underlying33 jii jz0 jz1 jz2 rfl (by decide) acs_len acs_one rfl _ _ rfl (Q53.out.keep B54) hby5 h635 ?_; intro u55 w55 o55 hb55; have B55 : Below w53.heap.size w53 w55 := thenBelow B54 hb55)
            | (go_at_call 17; refine (GY.out 0 _ _ _ ((RowK.owned rcs_len o54).keep hb55) (RowK.owned acs_len o55)).mono ?_; rintro e w56 ⟨u56, rfl, o56, hb56⟩; have B56 : Below w53.heap.size w53 w56 := thenBelow B55 hb56; have Y56 := Lib.hid (OwnR.row o56); clear o54 o55 o56 hb54 hb55 hb56 B54 B55)
            | fail)
        have b56 := b53.trans (B56.mono b53.size)
        have X56 := Lib.hid (X53.out.keep B56)
        have Q56 := Lib.hid (Q2.out _ b56)
        obtain ⟨p56, c56, rfl⟩ := Y56.out.form
        clear X53 B56 b53 Q53 A53
        go_upto_region 12 with fail
        go_region_held3 (fun w' => True ∧ True)
          (exact ⟨trivial, trivial⟩)
          (first
            | (refine step_append_copy rfl _ _ _ rfl 57 i0 _ 40 Try.underlying32 hii hz0 hz1 hz2 rfl (by decide) rcs_len rcs_one rfl _ _ rfl (Y56.out.keep ((Below.refl _ w56).drew)) hby7 h637 ?_; intro u57 w57 o57 hb57; have B57 : Below w56.heap.size w56 w57 := thenBelow ((Below.refl _ w56).drew) hb57)
            | (refine step_append_copy rfl _ _ _ rfl 43 j0 _ 72 Try.underlying33 jii jz0 jz1 jz2 rfl (by decide) acs_len acs_one rfl _ _ rfl (Q56.out.keep B57) hby6 h636 ?_; intro u58 w58 o58 hb58; have B58 : Below w56.heap.size w56 w58 := thenBelow B57 hb58)
            | (go_at_call 17; refine (GZ.out 0 _ _ _ ((RowK.owned rcs_len o57).keep hb58) (RowK.owned acs_len o58)).mono ?_; rintro e w59 ⟨u59, rfl, o59, hb59⟩; have B59 : Below w56.heap.size w56 w59 := thenBelow B58 hb59; have Z59 := Lib.hid (OwnR.row o59); clear o57 o58 o59 hb57 hb58 hb59 B57 B58)
            | fail)
        have b59 := b56.trans (B59.mono b56.size)
        have X59 := Lib.hid (X56.out.keep B59)
        obtain ⟨p59, c59, rfl⟩ := Z59.out.form
        clear X56 B59 b56 Q56 Y56
        have RN := Lib.hid (fun (W : World) => (show RowR W (.slice none 0 0) [] from .inl ⟨rfl, none, 0, rfl⟩))
        go_wp2_with fail
        have RO : RowA (w59.alloc (.cells #[.int .i64 1, .bool false, .int .u64 0, .int .u64 0, .int .i64 0, .int .i64 3, .bool false, .int .u64 0, .int .u64 0] 43)) (.slice (some ⟨w59.heap.size, 0, none⟩) 1 1) [onePut] := .inr ⟨w59.heap.size, 0, 1, rfl, by simp, by simp, fun i hi t u hu => by
          have hi0 : i = 0 := by simp at hi; omega
          subst hi0
          have := cell_new w59 (acs onePut) 43 t u hu
          simpa [acs, onePut, putAct, aH_zero, aL_zero] using this⟩
        have bO := (Below.refl w59.heap.size w59).alloc (Nat.le_refl _) (.cells #[.int .i64 1, .bool false, .int .u64 0, .int .u64 0, .int .i64 0, .int .i64 3, .bool false, .int .u64 0, .int .u64 0] 43)
        refine (G1.out _ _ _ (RN.out _) RO).mono ?_
        rintro e w60 ⟨u60, rfl, o60, hb60⟩
        have c60 := thenBelow bO hb60
        have X60 := Lib.hid (X59.out.keep c60)
        have Z60 := Lib.hid (Z59.out.keep c60)
        obtain ⟨p60, c60_, rfl⟩ := (OwnR.row o60).form
        rw [one_app.2]
        have b60 : Below w.heap.size w w60 := thenBelow (thenBelow bW b59) c60
        clear o60 hb60 bO RO RN
        go_wp2_with fail
        refine (SR.out _ _ _ X60.out Z60.out).mono ?_
        rintro e w61 ⟨rfl, hb61⟩
        have b61 := thenBelow b60 hb61
        go_wp2
        go_ret
        exact ⟨by simp, b61⟩
      · have Q1 := Lib.hid (fun (W : World) (hW : Below wr.heap.size wr W) => (act_parts (WR.out.keep hW) hc1 hjn).1)
        obtain ⟨A2, hA2⟩ : ∃ A : Addr, (if c = j then some (⟨g, 0, none⟩ : Addr) else some ⟨g, j * 9, none⟩) = some A := by split <;> exact ⟨_, rfl⟩
        have Q2 := Lib.hid (fun (W : World) (hW : Below wr.heap.size wr W) => by have := (act_parts (WR.out.keep hW) hc1 hjn).2; rw [hA2, hn] at this; exact this)
        have WRR := Lib.hid (fun (W : World) (hW : Below wr.heap.size wr W) => by have := WR.out.keep hW; rw [hn] at this; exact this)
        clear WR OW
        have WR := WRR
        clear WRR
        rw [hn] at hc1 hjn hP1 PK
        rw [hn]
        have hcap0 : (j : Int) ≤ (c : Int) := by omega
        have hcap1 : (j : Int) ≤ (n : Int) := by omega
        have hcap2 : (n : Int) ≤ (c : Int) := by omega
        have hk1 : j ≤ c := by omega
        have hi0 : (0 : Int) ≤ (j : Int) := by omega
        go_wp2_with fail
        refine (PK.out _).mono ?_
        rintro e w' ⟨rfl, rfl⟩
        clear PK
        have tok1 : True := trivial
        go_wp2_with (first | (have _t := tok1; at_builtin; refine wpList_append_copy rfl _ _ _ rfl 57 i0 _ 40 Try.underlying32 hii hz0 hz1 hz2 rfl (by decide) rcs_len rcs_one rfl _ _ rfl RA.out hby1 h631 ?_; intro u51 w51 o51 hb51; have T51 := Lib.hid (WR.out _ hb51); clear tok1) | (at_builtin; refine wpList_append_copy rfl _ _ _ rfl 43 j0 _ 72 Try.underlying33 jii jz0 jz1 jz2 rfl (by decide) acs_len acs_one rfl _ _ rfl T51.out hby3 h633 ?_; intro u52 w52 o52 hb52))
        have b52 := thenBelow hb51 hb52
        have R51 := Lib.hid ((OwnR.row (show OwnR w51 wr.heap.size u51 L from o51)).keep hb52)
        have R52 := Lib.hid (OwnA.row (show OwnA w52 w51.heap.size u52 _ from o52))
        clear T51 o51 o52 hb51 hb52
        refine (GX.out _ _ _ R51.out R52.out).mono ?_
        rintro e w53 ⟨u53, rfl, o53, hb53⟩
        have b53 := thenBelow b52 hb53
        have X53 := Lib.hid (OwnR.row o53)
        have A53 := Lib.hid (RA.out.keep b53)
        have Q53 := Lib.hid (Q1.out _ b53)
        obtain ⟨p53, c53, rfl⟩ := X53.out.form
        clear o53 hb53 b52 R51 R52
        go_upto_region 11 with fail
        go_region_held3 (fun w' => True ∧ True)
          (exact ⟨trivial, trivial⟩)
          (first
            | (refine step_append_copy rfl _ _ _ rfl 57 i0 _ 40 Try.underlying32 hii hz0 hz1 hz2 rfl (by decide) rcs_len rcs_one rfl _ _ rfl (A53.out.keep ((Below.refl _ w53).drew)) hby1 h631 ?_; intro u54 w54 o54 hb54; have B54 : Below w53.heap.size w53 w54 := thenBelow ((Below.refl _ w53).drew) hb54)
            | (refine step_append_copy rfl _ _ _ rfl 43 j0 _ 72 Try.underlying33 jii jz0 jz1 jz2 rfl (by decide) acs_len acs_one rfl _ _ rfl (Q53.out.keep B54) hby5 h635 ?_; intro u55 w55 o55 hb55; have B55 : Below w53.heap.size w53 w55 := thenBelow B54 hb55)
            | (go_at_call 17; refine (GY.out j _ _ _ ((RowK.owned rcs_len o54).keep hb55) (RowK.owned acs_len o55)).mono ?_; rintro e w56 ⟨u56, rfl, o56, hb56⟩; have B56 : Below w53.heap.size w53 w56 := thenBelow B55 hb56; have Y56 := Lib.hid (OwnR.row o56); clear o54 o55 o56 hb54 hb55 hb56 B54 B55)
            | fail)
        have b56 := b53.trans (B56.mono b53.size)
        have X56 := Lib.hid (X53.out.keep B56)
        have Q56 := Lib.hid (Q2.out _ b56)
        obtain ⟨p56, c56, rfl⟩ := Y56.out.form
        clear X53 B56 b53 Q53 A53
        go_upto_region 12 with fail
        go_region_held3 (fun w' => True ∧ True)
          (exact ⟨trivial, trivial⟩)
          (first
            | (refine step_append_copy rfl _ _ _ rfl 57 i0 _ 40 Try.underlying32 hii hz0 hz1 hz2 rfl (by decide) rcs_len rcs_one rfl _ _ rfl (Y56.out.keep ((Below.refl _ w56).drew)) hby7 h637 ?_; intro u57 w57 o57 hb57; have B57 : Below w56.heap.size w56 w57 := thenBelow ((Below.refl _ w56).drew) hb57)
            | (refine step_append_copy rfl _ _ _ rfl 43 j0 _ 72 Try.underlying33 jii jz0 jz1 jz2 rfl (by decide) acs_len acs_one rfl _ _ rfl (Q56.out.keep B57) hby6 h636 ?_; intro u58 w58 o58 hb58; have B58 : Below w56.heap.size w56 w58 := thenBelow B57 hb58)
            | (go_at_call 17; refine (GZ.out j _ _ _ ((RowK.owned rcs_len o57).keep hb58) (RowK.owned acs_len o58)).mono ?_; rintro e w59 ⟨u59, rfl, o59, hb59⟩; have B59 : Below w56.heap.size w56 w59 := thenBelow B58 hb59; have Z59 := Lib.hid (OwnR.row o59); clear o57 o58 o59 hb57 hb58 hb59 B57 B58)
            | fail)
        have b59 := b56.trans (B59.mono b56.size)
        have X59 := Lib.hid (X56.out.keep B59)
        obtain ⟨p59, c59, rfl⟩ := Z59.out.form
        clear X56 B59 b56 Q56 Y56
        have RN := Lib.hid (fun (W : World) => (show RowR W (.slice none 0 0) [] from .inl ⟨rfl, none, 0, rfl⟩))
        go_wp2_with fail
        have RO : RowA (w59.alloc (.cells #[.int .i64 1, .bool false, .int .u64 0, .int .u64 0, .int .i64 0, .int .i64 3, .bool false, .int .u64 0, .int .u64 0] 43)) (.slice (some ⟨w59.heap.size, 0, none⟩) 1 1) [onePut] := .inr ⟨w59.heap.size, 0, 1, rfl, by simp, by simp, fun i hi t u hu => by
          have hi0 : i = 0 := by simp at hi; omega
          subst hi0
          have := cell_new w59 (acs onePut) 43 t u hu
          simpa [acs, onePut, putAct, aH_zero, aL_zero] using this⟩
        have bO := (Below.refl w59.heap.size w59).alloc (Nat.le_refl _) (.cells #[.int .i64 1, .bool false, .int .u64 0, .int .u64 0, .int .i64 0, .int .i64 3, .bool false, .int .u64 0, .int .u64 0] 43)
        refine (G1.out _ _ _ (RN.out _) RO).mono ?_
        rintro e w60 ⟨u60, rfl, o60, hb60⟩
        have c60 := thenBelow bO hb60
        have X60 := Lib.hid (X59.out.keep c60)
        have Z60 := Lib.hid (Z59.out.keep c60)
        obtain ⟨p60, c60_, rfl⟩ := (OwnR.row o60).form
        rw [one_app.2]
        have b60 : Below w.heap.size w w60 := thenBelow (thenBelow bW b59) c60
        clear o60 hb60 bO RO RN
        go_wp2_with fail
        refine (SR.out _ _ _ X60.out Z60.out).mono ?_
        rintro e w61 ⟨rfl, hb61⟩
        have b61 := thenBelow b60 hb61
        go_wp2
        go_ret
        exact ⟨by simp, b61⟩
theorem DParts.own : ownKnob Try.prog.godebug = none := by kernel_rfl
set_option maxRecDepth 100000 in
theorem DParts.lifted (os : Os) (started : os.Started) (H : Type) (enc : TypeId × Value → H) :
    ReturnsInHanded {} Try.checked os 5 .any (Rows.deltaPartsSpec.pre6 enc Try.prog Try.f5 Rows.deltaPartsRow.domain false) (Rows.deltaPartsSpec.post enc Try.prog Try.f5 false true false false) := by
  refine returnsInHanded_of_change (C := Try.checked) DParts.own started (by kernel_rfl) Try.func5
    (ChangeSpec.witness6 (enc := enc) (C := Try.checked) false ⟨#[], #[.slice none 0 0, .slice none 0 0, .int .i64 0], []⟩ 8 (by kernel_rfl) (by kernel_rfl) (by kernel_rfl) (by kernel_rfl)) ?_
  intro W base args ds gs before hval0 hW hcnd _
  have hval : ∀ (j : Nat) t v, Try.f5.params[j]? = some t → args[j]? = some v → Value.okWide Try.prog W .any base t v := hval0
  have hW' := hW
  obtain ⟨p, q, hA0, hV, rfl, hfz, hnd⟩ := hW
  have hA : DataW.TrodAll enc Try.prog W 0 (fun _ => true) true Try.f5.params.toList args.toList ds p := hA0
  rw [Try.params5] at hA hval
  obtain ⟨v0, vs0, d0, ds0, p0, q0, hargs, rfl, rfl, rd0, r0⟩ := trodAll_cons hA
  obtain ⟨v1, vs1, d1, ds1, p1, q1, rfl, rfl, rfl, rd1, r1⟩ := trodAll_cons r0
  obtain ⟨v2, vs2, d2, ds2, p2, q2, rfl, rfl, rfl, rd2, r2⟩ := trodAll_cons r1
  obtain ⟨rfl, rfl, rfl⟩ := trodAll_nil r2
  obtain rfl : args = #[v0, v1, v2] := by cases args; simp_all
  obtain ⟨rfl, rfl⟩ := trodVars_none hV
  obtain ⟨l0, row0, wrd0, len0⟩ := openJobs (hval 0 38 v0 rfl rfl) rd0
  obtain ⟨l1, row1, wrd1, len1⟩ := openJobs (hval 1 38 v1 rfl rfl) rd1
  obtain ⟨a2, rfl, rfl, rfl, wa2⟩ := open_int Try.underlying3 (hval 2 3 v2 rfl rfl) rd2
  clear hA0 hval0
  refine (DParts.walk v0 l0 v1 l1 a2 wrd0 len0 wrd1 len1 (i64_of_wf wa2).1 (i64_of_wf wa2).2 W row0 row1).mono fun e W' ⟨he, hb⟩ => ?_
  subst he
  exact ⟨_, rfl, postBelowR (pv := []) hW' hb (fun _ _ _ => trodAll_cons_mk (shut_bool Try.underlying4 _) trodAll_mk0) (trodAll_cons_mk (Below.trod laidOutR (by kernel_rfl) (of_decide_eq_true (by kernel_rfl)) rd0 hb (fun x hx => hW'.lt x (by simp [hx]))) (trodAll_cons_mk (Below.trod laidOutR (by kernel_rfl) (of_decide_eq_true (by kernel_rfl)) rd1 hb (fun x hx => hW'.lt x (by simp [hx]))) (trodAll_cons_mk (Below.trod laidOutR (by kernel_rfl) (of_decide_eq_true (by kernel_rfl)) rd2 hb (fun x hx => by cases hx)) trodAll_mk0))) (fun _ _ => rfl) rfl⟩

theorem DParts.holds : Rows.DeltaPartsSaid :=
  OpenClaim.holds_of_wide 5 Try.f5 rfl rfl rfl rfl rfl rfl rfl ⟨rfl, rfl, rfl, rfl, rfl⟩ rfl rfl rfl rfl rfl (by kernel_rfl) Try.func5 (by kernel_rfl)
    (of_decide_eq_true (by kernel_rfl)) (by unfold Func.isWrapper; first | (rw [if_pos (by decide +kernel)]; kernel_rfl) | (rw [if_neg (by decide +kernel)]; exact ⟨rfl, rfl⟩))
    (fun os started H enc _ => DParts.lifted os started H enc)
#print axioms DParts.holds
end Go.Proofs.Ytnpaijmibkbhfaa

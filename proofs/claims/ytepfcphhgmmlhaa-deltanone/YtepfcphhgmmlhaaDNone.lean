/-
  DeltaNone: for all lists of jobs and every number the difference of a table and itself is empty, and the order of routes does not matter. No conditions.
-/
import Derived.Test.YtepfcphhgmmlhaaRows
import Derived.Test.YtepfcphhgmmlhaaDNoneM
import Derived.Test.YtepfcphhgmmlhaaRowsJ
import Derived.Deep.CutRange
import Derived.Deep.DeepCutAuto
namespace Go.Proofs.Ytepfcphhgmmlhaa
open Go.ChangeShapes Go.WideShapes Go.ChangeAt Go.RowKit Go.Joins
set_option linter.unusedSimpArgs false
set_option linter.unusedVariables false
theorem dfL_eq {l m S T : List RT} (hl : tabE l = 0) (hm : tabE m = 0) (sl : srt l = S) (sm : srt m = T) : dfE l m = 0 ∧ dfL l m = difL S T := by
  have : dfE l m = 0 := by rw [dfE, if_pos hl, hm]
  exact ⟨this, by rw [dfL, if_pos this, sl, sm]⟩
theorem words_inv {L : List RT} (I : ∀ r ∈ L, chkE r.1.1 r.1.2.1 r.1.2.2 = 0) : WordsR L := fun r hr => lt128 (chk0 (I r hr)).1
set_option maxHeartbeats 8000000 in
set_option maxRecDepth 100000 in
theorem DNone.walk (v0 : Value) (l0 : List JT) (v1 : Value) (l1 : List JT) (a2 : Int) (wrd0 : WordsJ l0) (len0 : l0.length ≤ 9223372036854775807) (wrd1 : WordsJ l1) (len1 : l1.length ≤ 9223372036854775807) (b0 : -9223372036854775808 ≤ a2) (b1 : a2 ≤ 9223372036854775807) (w : World) (row0 : RowJ w v0 l0) (row1 : RowJ w v1 l1) :
    Calls Try.prog 9 #[v0, v1, .int .i64 a2] w fun e w' => e = .returned (.bool true) ∧ Below w.heap.size w w' := by
  obtain ⟨i0, hii, hz0, hz1, hz2⟩ := info_parts info_route
  have AC := Lib.hid (fun (W : World) (r : RowJ W v0 l0) => acts_calls l0 v0 40 (by decide) len0 wrd0 W r)
  have AD := Lib.hid (fun (W : World) (r : RowJ W v1 l1) => acts_calls l1 v1 40 (by decide) len1 wrd1 W r)
  have RC := Lib.hid (fun (m : List ActT) (u : Value) (hm : m.length ≤ 100) (hw : WordsA m) (W : World) (r : RowA W u m) => routesOf_calls m u hm hw W r)
  have h1 : (actsZ l0 40).length ≤ 40 := by unfold actsZ; rw [List.length_map, List.length_take]; omega
  have h2 : (actsZ l1 40).length ≤ 40 := by unfold actsZ; rw [List.length_map, List.length_take]; omega
  have C0 := Lib.hid (fun (W : World) (u : Value) (r : RowA W u (actsZ l0 40)) => RC.out _ u (by omega) (actsZ_words l0 40) W r)
  have C1 := Lib.hid (fun (W : World) (u : Value) (r : RowA W u (actsZ l1 40)) => RC.out _ u (by omega) (actsZ_words l1 40) W r)
  have I := Lib.hid (InvR.run (actsZ l0 40))
  have J := Lib.hid (InvR.run (actsZ l1 40))
  have R0 := Lib.hid row0
  have R1 := Lib.hid row1
  obtain ⟨q0, d0, rfl⟩ := row0.form
  obtain ⟨q1, d1, rfl⟩ := row1.form
  generalize runL (actsZ l0 40) = L at C0 I
  generalize runL (actsZ l1 40) = M at C1 J
  generalize actsZ l0 40 = A0 at AC C0
  generalize actsZ l1 40 = A1 at AD C1
  have hL60 := I.out.size
  have hM60 := J.out.size
  have WL := Lib.hid (words_inv I.out.val)
  have WM := Lib.hid (words_inv J.out.val)
  clear row0 row1 h1 h2 RC
  obtain ⟨B, hB⟩ : ∃ B, w.heap.size = B := ⟨_, rfl⟩
  have HB := Lib.hid hB
  rw [hB]
  go_enter Try.func9, Try.ntmps9
  go_wp2_with fail
  refine (AC.out _ R0.out).mono ?_
  rintro e w1 ⟨u1, rfl, o1, hb1⟩
  have R11 := Lib.hid (R1.out.keep hb1)
  have O1 := Lib.hid (OwnA.row o1)
  clear AC R0 R1 o1
  go_wp2_with fail
  refine (C0.out _ _ O1.out).mono ?_
  rintro e w2 ⟨a, rfl, o2, hb2⟩
  have b2 : Below w.heap.size w w2 := thenBelow hb1 hb2
  have R12 := Lib.hid (R11.out.keep hb2)
  have RA := Lib.hid (OwnR.row o2)
  clear C0 R11 O1 hb1 hb2 o2
  go_wp2_with fail
  refine (AD.out _ R12.out).mono ?_
  rintro e w3 ⟨u3, rfl, o3, hb3⟩
  have b3 : Below w.heap.size w w3 := thenBelow b2 hb3
  have RA3 := Lib.hid (RA.out.keep hb3)
  have O3 := Lib.hid (OwnA.row o3)
  clear AD R12 RA hb3 b2 o3
  go_wp2_with fail
  refine (C1.out _ _ O3.out).mono ?_
  rintro e w4 ⟨b, rfl, o4, hb4⟩
  have b4 : Below w.heap.size w w4 := thenBelow b3 hb4
  have RA4 := Lib.hid (RA3.out.keep hb4)
  have RB4 := Lib.hid (OwnR.row o4)
  clear C1 RA3 O3 hb4 b3 o4
  obtain ⟨m, hm⟩ : ∃ m, L.length = m := ⟨_, rfl⟩
  have HM := Lib.hid hm
  obtain ⟨rp, rc, rfl, _, at_⟩ := RA4.out.at
  have AT := Lib.hid at_
  obtain ⟨sp, sc, rfl⟩ := RB4.out.form
  obtain ⟨d, hd⟩ : ∃ d : Nat, (a2 % (m : Int)).toNat = d := ⟨_, rfl⟩
  have HD := Lib.hid hd
  rw [hm] at hL60 RA4
  rw [hm]
  clear at_ hm hd hB
  go_wp2_with fail
  go_loopw [11, 12] (fun u i wr => ∃ k : Nat, k ≤ m ∧ i = .int .i64 k ∧ Below w4.heap.size w4 wr ∧ Hid (OwnR wr w4.heap.size u (rotL L d k))) (fun _ i _ => m - (intOf i).toNat)
  case atStart => exact ⟨0, by omega, rfl, Below.refl _ _, Lib.hid (World.ownsRow_nil _ _ _ _)⟩
  case round =>
    obtain ⟨k, hk, rfl, bw, OW⟩ := hrel
    by_cases hlt : k < m
    · have hm0 : (0 : Int) < (m : Int) := by omega
      have hd0 := Int.emod_nonneg a2 (show (m : Int) ≠ 0 by omega)
      have hd1 := Int.emod_lt_of_pos a2 hm0
      have PK := Lib.hid (fun W => picked_calls a2 m (by omega) (by omega) b0 b1 W)
      have ed : a2 % (m : Int) = (d : Int) := by have := HD.out; omega
      rw [ed] at PK hd1
      obtain ⟨j, hj⟩ : ∃ j : Nat, (k + d) % m = j := ⟨_, rfl⟩
      have hjm : j < m := by rw [← hj]; exact Nat.mod_lt _ (by omega)
      have hdm : d < m := by omega
      have e2 : ((k : Int) + (d : Int)) % (m : Int) = (j : Int) := by rw [← hj]; simp
      have hjl : j < L.length := by rw [HM.out]; exact hjm
      obtain ⟨g, o, rfl, hgw, hrec⟩ := AT.out j hjl
      obtain ⟨x0, x1, x2, x3, x4⟩ := routeCells (hrec.keep bw hgw)
      have HT : Hid (rotL L d (k + 1) = rotL L d k ++ [L[j]]) := Lib.hid (by rw [rotL_succ, HM.out, hj, getElem!_pos L j hjl])
      have hcll : (rotL L d k).length ≤ 60 := by rw [rotL_len]; omega
      generalize L[j] = r at x0 x1 x2 x3 x4 HT
      obtain ⟨cl, hcl⟩ : ∃ cl, rotL L d k = cl := ⟨_, rfl⟩
      rw [hcl] at OW HT hcll
      have hjlt : (j : Int) < (m : Int) := by omega
      have hklt : (k : Int) < (m : Int) := by omega
      have hsz := bw.size
      have OD3 := Lib.hid (OW.out.alloc (.cells #[.bool r.1.1, .int .u64 (aH r.1.2.1), .int .u64 (aL r.1.2.1), .int .i64 r.1.2.2, .int .i64 r.2] 53))
      have hCN := Lib.hid (cell_new wr (rcs r) 53)
      have hnA := bw.alloc bw.size (.cells #[.bool r.1.1, .int .u64 (aH r.1.2.1), .int .u64 (aL r.1.2.1), .int .i64 r.1.2.2, .int .i64 r.2] 53)
      clear hj hrec hd0 hcl OW ed
      go_wp2_with fail
      refine (PK.out _).mono ?_
      rintro e w' ⟨rfl, rfl⟩
      have e0 : ((m : Int) == 0) = false := by simp; omega
      go_wp2_with (at_builtin; refine wpList_append_one rfl _ _ 27 rfl w4.heap.size 53 i0 _ 40 Try.underlying27 hii hz0 hz1 hz2 rfl (by decide) rcs_len rcs_one cl ⟨_, rfl, OD3.out⟩ r wr.heap.size 1 rfl hCN.out (by omega) (by decide) (by simp; omega) ?_; intro v5 w5 ho5 hg5 hb5)
      have hn5 := hnA.trans hb5
      have OD5 := Lib.hid ho5
      clear ho5 hg5 hb5 hnA OD3 hCN
      go_roundw
      case rel => exact ⟨k + 1, by omega, by go_num, hn5, Lib.hid (by rw [HT.out]; exact OD5.out)⟩
      case measure => simp [intOf]; omega
    · obtain rfl : k = m := by omega
      have HR : Hid (tabE (rotL L d k) = 0 ∧ srt (rotL L d k) = L ∧ WordsR (rotL L d k)) := Lib.hid (by
        rw [← HM.out]
        refine ⟨rot_tab I.out d, rot_srt I.out d, fun r hr => ?_⟩
        rcases Nat.eq_zero_or_pos L.length with h | h
        · rw [h] at hr; simp [rotL] at hr
        · exact WL.out r (rotL_mem h hr))
      have hRl : (rotL L d k).length = k := rotL_len _ _ _
      obtain ⟨R, hRe⟩ : ∃ R, rotL L d k = R := ⟨_, rfl⟩
      rw [hRe] at HR OW hRl
      obtain ⟨op, oc, hoe⟩ := OW.out.row.form
      rw [hRl] at hoe
      subst hoe
      have RO := Lib.hid (OwnR.row OW.out)
      have RA := Lib.hid (RA4.out.keep bw)
      have RB := Lib.hid (RB4.out.keep bw)
      have bW : Below w.heap.size w wr := thenBelow b4 bw
      have hRl60 : R.length ≤ 60 := by omega
      have DF := Lib.hid (fun (l m : List RT) (u1 u2 : Value) (ll : l.length ≤ 60) (lm : m.length ≤ 60) (wl : WordsR l) (wm : WordsR m) (W : World) (r1 : RowR W u1 l) (r2 : RowR W u2 m) => diff_calls l m u1 u2 (by omega) (by omega) wl wm W r1 r2)
      have E1 := Lib.hid (dfL_eq (tab_self I.out) (tab_self J.out) (srt_self I.out) (srt_self J.out))
      have E2 := Lib.hid (dfL_eq HR.out.1 (tab_self J.out) HR.out.2.1 (srt_self J.out))
      have E3 := Lib.hid (dfL_eq (tab_self I.out) HR.out.1 (srt_self I.out) HR.out.2.1)
      have E4 := Lib.hid one_dif
      have hLl : L.length ≤ 60 := by rw [HM.out]; exact hL60
      have hDl : (difL L M).length ≤ 1000 := by
        have c := cutsL_len L M
        have e := wiL_len M L
        rw [difL, List.length_append, putsL_len]; omega
      have hbyL : L.length * 40 ≤ 140737488355328 := by omega
      have h63L : L.length ≤ maxLen := by rw [HM.out]; unfold maxLen; omega
      have hbyM : M.length * 40 ≤ 140737488355328 := by omega
      have h63M : M.length ≤ maxLen := by unfold maxLen; omega
      have hbyR : R.length * 40 ≤ 140737488355328 := by omega
      have h63R : R.length ≤ maxLen := by rw [hRl]; unfold maxLen; omega
      clear hRe OW RA4 RB4 bw b4 AT hlt b0 b1
      have tok1 : True := trivial
      go_wp2_with (first
        | (have _t := tok1; at_builtin; refine wpList_append_copy rfl _ _ _ rfl 53 i0 _ 40 Try.underlying27 hii hz0 hz1 hz2 rfl (by decide) rcs_len rcs_one rfl _ _ rfl RA.out hbyL h63L ?_; intro v5 w5 ho5 hb5; have RB5 := Lib.hid (RB.out.keep hb5); clear tok1)
        | (at_builtin; refine wpList_append_copy rfl _ _ _ rfl 53 i0 _ 40 Try.underlying27 hii hz0 hz1 hz2 rfl (by decide) rcs_len rcs_one rfl _ _ rfl RB5.out hbyM h63M ?_; intro v6 w6 ho6 hb6))
      have D1 := DF.out L M v5 v6 (by omega) (by omega) WL.out WM.out w6 (OwnR.row (ownsKeep ho5 hb6)) (OwnR.row ho6)
      rw [E1.out.1, E1.out.2] at D1
      obtain ⟨D, hD⟩ : ∃ D, difL L M = D := ⟨_, rfl⟩
      rw [hD] at D1 hDl E2
      have HD1 := Lib.hid D1
      have c6 := thenBelow hb5 hb6
      clear D1 ho5 ho6 hb5 hb6 hD RB5 E1
      refine HD1.out.mono ?_
      rintro e w7 ⟨x, rfl, ox, hb7⟩
      have c7 := thenBelow c6 hb7
      have RX := Lib.hid (OwnA.row ox)
      have RB7 := Lib.hid (RB.out.keep c7)
      clear HD1 ox hb7 c6
      go_wp2_with (at_builtin; refine wpList_append_copy rfl _ _ _ rfl 53 i0 _ 40 Try.underlying27 hii hz0 hz1 hz2 rfl (by decide) rcs_len rcs_one rfl _ _ rfl RB7.out hbyM h63M ?_; intro v8 w8 ho8 hb8)
      have c8 := thenBelow c7 hb8
      have D2 := DF.out R M (.slice op k oc) v8 hRl60 (by omega) HR.out.2.2 WM.out w8 (RO.out.keep c8) (OwnR.row ho8)
      rw [E2.out.1, E2.out.2] at D2
      have HD2 := Lib.hid D2
      clear D2 ho8 RB7 E2
      refine HD2.out.mono ?_
      rintro e w9 ⟨y, rfl, oy, hb9⟩
      have c9 := thenBelow c8 hb9
      have RX9 := Lib.hid ((RX.out.keep hb8).keep hb9)
      have RY := Lib.hid (OwnA.row oy)
      have RA9 := Lib.hid (RA.out.keep c9)
      have RO9 := Lib.hid (RO.out.keep c9)
      clear HD2 oy hb8 hb9 c7 c8 RX
      have tok2 : True := trivial
      go_wp2_with (first
        | (have _t := tok2; at_builtin; refine wpList_append_copy rfl _ _ _ rfl 53 i0 _ 40 Try.underlying27 hii hz0 hz1 hz2 rfl (by decide) rcs_len rcs_one rfl _ _ rfl RA9.out hbyL h63L ?_; intro v10 w10 ho10 hb10; have RO10 := Lib.hid (RO9.out.keep hb10); clear tok2)
        | (at_builtin; refine wpList_append_copy rfl _ _ _ rfl 53 i0 _ 40 Try.underlying27 hii hz0 hz1 hz2 rfl (by decide) rcs_len rcs_one rfl _ _ rfl RO10.out hbyR h63R ?_; intro v11 w11 ho11 hb11))
      have D3 := DF.out L R v10 v11 (by omega) hRl60 WL.out HR.out.2.2 w11 (OwnR.row (ownsKeep ho10 hb11)) (OwnR.row ho11)
      rw [E3.out.1, E3.out.2, dif_self] at D3
      have HD3 := Lib.hid D3
      have c11 := thenBelow hb10 hb11
      have c11' := thenBelow c9 c11
      clear D3 ho10 ho11 hb10 hb11 E3 RO10 RA9 RO9
      refine HD3.out.mono ?_
      rintro e w12 ⟨z, rfl, oz, hb12⟩
      have c12 := thenBelow c11' hb12
      have c12' := thenBelow c11 hb12
      have RX12 := Lib.hid (RX9.out.keep c12')
      have RY12 := Lib.hid (RY.out.keep c12')
      obtain ⟨zp, zc, rfl⟩ := (OwnA.row oz).form
      simp only [List.length_nil]
      clear HD3 oz hb12 c11 c11' c12' RX9 RY c9
      have bO := (Below.refl w12.heap.size w12).alloc (Nat.le_refl _) (.cells #[.bool false, .int .u64 0, .int .u64 0, .int .i64 0, .int .i64 3] 53)
      have RN : RowR (w12.alloc (.cells #[.bool false, .int .u64 0, .int .u64 0, .int .i64 0, .int .i64 3] 53)) (.slice none 0 0) [] := .inl ⟨rfl, none, 0, rfl⟩
      have R1' : RowR (w12.alloc (.cells #[.bool false, .int .u64 0, .int .u64 0, .int .i64 0, .int .i64 3] 53)) (.slice (some ⟨w12.heap.size, 0, none⟩) 1 1) oneT := .inr ⟨w12.heap.size, 0, 1, rfl, by simp, by simp [oneT], fun i hi j u hj => by
        have hi0 : i = 0 := by simp [oneT] at hi; omega
        subst hi0
        have := cell_new w12 (rcs ((false, 0, 0), 3)) 53 j u hj
        simpa [rcs, aH_zero, aL_zero] using this⟩
      have D4 := DF.out [] oneT (.slice none 0 0) (.slice (some ⟨w12.heap.size, 0, none⟩) 1 1) (by simp) (by simp [oneT]) (fun r h => by cases h) (words_inv one_inv.val) _ RN R1'
      rw [E4.out.1] at D4
      have hx4 := E4.out.2
      obtain ⟨X4, hX4⟩ : ∃ X, dfL [] oneT = X := ⟨_, rfl⟩
      rw [hX4] at D4 hx4
      have HD4 := Lib.hid D4
      clear D4 RN R1' hX4 E4
      go_wp2_with fail
      refine HD4.out.mono ?_
      rintro e w13 ⟨o, rfl, oo, hb13⟩
      have c13' := thenBelow bO hb13
      have c13 := thenBelow c12 c13'
      have hn13 : Below B w w13 := by rw [← HB.out]; exact thenBelow bW c13
      obtain ⟨ap, ac, rfl⟩ := (OwnA.row oo).form
      rw [hx4]
      obtain ⟨xp, xc, rfl, _, ax⟩ := (RX12.out.keep c13').at
      obtain ⟨yp, yc, rfl, _, ay⟩ := (RY12.out.keep c13').at
      obtain ⟨n, hn⟩ : ∃ n, D.length = n := ⟨_, rfl⟩
      have HN := Lib.hid hn
      have AX := Lib.hid ax
      have AY := Lib.hid ay
      rw [hn] at hDl ⊢
      clear HD4 oo hb13 bO c12 c13 c13' RX12 RY12 ax ay hn hx4 DF RA RB RO HR WL WM I J
      go_wp2_with fail
      go_loopw [21] (fun i wr => ∃ k q : Nat, k ≤ n ∧ i = .int .i64 k ∧ wr = w13.drewN q) (fun i _ => n - (intOf i).toNat)
      case atStart => exact ⟨0, 0, Nat.zero_le _, rfl, rfl⟩
      case round =>
        obtain ⟨k2, q, hk2, rfl, rfl⟩ := hrel
        by_cases hlt2 : k2 < n
        · have hkl : k2 < D.length := by rw [HN.out]; exact hlt2
          obtain ⟨g, o, rfl, _, h1⟩ := AX.out k2 hkl
          obtain ⟨g', o', rfl, _, h2⟩ := AY.out k2 hkl
          obtain ⟨x0, x1, x2, x3, x4, x5, x6, x7, x8⟩ := actCells h1
          obtain ⟨y0, y1, y2, y3, y4, y5, y6, y7, y8⟩ := actCells h2
          generalize D[k2] = r at x0 x1 x2 x3 x4 x5 x6 x7 x8 y0 y1 y2 y3 y4 y5 y6 y7 y8
          have hlt3 : (k2 : Int) < (n : Int) := by omega
          clear h1 h2
          go_wp2_with fail
          go_quiet ((fail))
          go_wp2
          go_roundw
          case rel => exact ⟨k2 + 1, _, by omega, by go_num, rfl⟩
          case measure => simp [intOf]; omega
        · have hlt3 : ¬ (k2 : Int) < (n : Int) := by omega
          go_wp2
          go_ret
          exact ⟨by simp, below_drewN hn13 _⟩
theorem DNone.own : ownKnob Try.prog.godebug = none := by kernel_rfl
set_option maxRecDepth 100000 in
theorem DNone.lifted (os : Os) (started : os.Started) (H : Type) (enc : TypeId × Value → H) :
    ReturnsInHanded {} Try.checked os 9 .any (Rows.deltaNoneSpec.pre6 enc Try.prog Try.f9 Rows.deltaNoneRow.domain false) (Rows.deltaNoneSpec.post enc Try.prog Try.f9 false true false false) := by
  refine returnsInHanded_of_change (C := Try.checked) DNone.own started (by kernel_rfl) Try.func9
    (ChangeSpec.witness6 (enc := enc) (C := Try.checked) false ⟨#[], #[.slice none 0 0, .slice none 0 0, .int .i64 0], []⟩ 8 (by kernel_rfl) (by kernel_rfl) (by kernel_rfl) (by kernel_rfl)) ?_
  intro W base args ds gs before hval0 hW hcnd _
  have hval : ∀ (j : Nat) t v, Try.f9.params[j]? = some t → args[j]? = some v → Value.okWide Try.prog W .any base t v := hval0
  have hW' := hW
  obtain ⟨p, q, hA0, hV, rfl, hfz, hnd⟩ := hW
  have hA : DataW.TrodAll enc Try.prog W 0 (fun _ => true) true Try.f9.params.toList args.toList ds p := hA0
  rw [Try.params9] at hA hval
  obtain ⟨v0, vs0, d0, ds0, p0, q0, hargs, rfl, rfl, rd0, r0⟩ := trodAll_cons hA
  obtain ⟨v1, vs1, d1, ds1, p1, q1, rfl, rfl, rfl, rd1, r1⟩ := trodAll_cons r0
  obtain ⟨v2, vs2, d2, ds2, p2, q2, rfl, rfl, rfl, rd2, r2⟩ := trodAll_cons r1
  obtain ⟨rfl, rfl, rfl⟩ := trodAll_nil r2
  obtain rfl : args = #[v0, v1, v2] := by cases args; simp_all
  obtain ⟨rfl, rfl⟩ := trodVars_none hV
  obtain ⟨l0, row0, wrd0, len0⟩ := openJobs (hval 0 40 v0 rfl rfl) rd0
  obtain ⟨l1, row1, wrd1, len1⟩ := openJobs (hval 1 40 v1 rfl rfl) rd1
  obtain ⟨a2, rfl, rfl, rfl, wa2⟩ := open_int Try.underlying3 (hval 2 3 v2 rfl rfl) rd2
  clear hA0 hval0
  refine (DNone.walk v0 l0 v1 l1 a2 wrd0 len0 wrd1 len1 (i64_of_wf wa2).1 (i64_of_wf wa2).2 W row0 row1).mono fun e W' ⟨he, hb⟩ => ?_
  subst he
  exact ⟨_, rfl, postBelowR (pv := []) hW' hb (fun _ _ _ => trodAll_cons_mk (shut_bool Try.underlying4 _) trodAll_mk0) (trodAll_cons_mk (Below.trod laidOutR (by kernel_rfl) (of_decide_eq_true (by kernel_rfl)) rd0 hb (fun x hx => hW'.lt x (by simp [hx]))) (trodAll_cons_mk (Below.trod laidOutR (by kernel_rfl) (of_decide_eq_true (by kernel_rfl)) rd1 hb (fun x hx => hW'.lt x (by simp [hx]))) (trodAll_cons_mk (Below.trod laidOutR (by kernel_rfl) (of_decide_eq_true (by kernel_rfl)) rd2 hb (fun x hx => by cases hx)) trodAll_mk0))) (fun _ _ => rfl) rfl⟩

theorem DNone.holds : Rows.DeltaNoneSaid :=
  OpenClaim.holds_of_wide 9 Try.f9 rfl rfl rfl rfl rfl rfl rfl ⟨rfl, rfl, rfl, rfl, rfl⟩ rfl rfl rfl rfl rfl (by kernel_rfl) Try.func9 (by kernel_rfl)
    (of_decide_eq_true (by kernel_rfl)) (by unfold Func.isWrapper; first | (rw [if_pos (by decide +kernel)]; kernel_rfl) | (rw [if_neg (by decide +kernel)]; exact ⟨rfl, rfl⟩))
    (fun os started H enc _ => DNone.lifted os started H enc)
#print axioms DNone.holds
end Go.Proofs.Ytepfcphhgmmlhaa

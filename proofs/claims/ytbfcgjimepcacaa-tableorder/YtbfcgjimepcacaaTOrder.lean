/-
  TableOrder: for every list of jobs and number the routes put in any order make the same table. No conditions.
-/
import Derived.Test.YtbfcgjimepcacaaRows
import Derived.Test.YtbfcgjimepcacaaTUndone
import Derived.Test.YtbfcgjimepcacaaTOrderM
import Derived.Deep.CutRange
import Derived.Deep.DeepCutAuto
namespace Go.Proofs.Ytbfcgjimepcacaa
open Go.ChangeShapes Go.WideShapes Go.ChangeAt Go.RowKit Go.Joins
set_option linter.unusedSimpArgs false
set_option linter.unusedVariables false
set_option maxHeartbeats 8000000 in
set_option maxRecDepth 100000 in
theorem TOrder.walk (v0 : Value) (l0 : List JT) (a1 : Int) (wrd0 : WordsJ l0) (len0 : l0.length ≤ 9223372036854775807) (b0 : -9223372036854775808 ≤ a1) (b1 : a1 ≤ 9223372036854775807) (w : World) (row0 : RowJ w v0 l0) :
    Calls Try.prog 9 #[v0, .int .i64 a1] w fun e w' => e = .returned (.bool true) ∧ Below w.heap.size w w' := by
  obtain ⟨i0, hii, hz0, hz1, hz2⟩ := info_parts info_act
  have AC := Lib.hid (fun (W : World) (r : RowJ W v0 l0) => acts_calls l0 v0 60 (by decide) len0 wrd0 W r)
  have R0 := Lib.hid row0
  obtain ⟨p, c, rfl⟩ := row0.form
  have hal : (actsZ l0 60).length ≤ 60 := by unfold actsZ; rw [List.length_map, List.length_take]; omega
  have hwa : Hid (WordsA (actsZ l0 60)) := Lib.hid (actsZ_words l0 60)
  obtain ⟨as_, has⟩ : ∃ x, actsZ l0 60 = x := ⟨_, rfl⟩
  rw [has] at AC hal hwa
  have RC := Lib.hid (fun (m : List ActT) (u : Value) (hm : m.length ≤ 100) (hw : WordsA m) (W : World) (r : RowA W u m) => routesOf_calls m u hm hw W r)
  have SR := Lib.hid (fun (u1 u2 : Value) (m : List RT) (hm : m.length ≤ 1000) (W : World) (r1 : RowR W u1 m) (r2 : RowR W u2 m) => sameRoutes_calls u1 u2 m hm W r1 r2)
  have II := Lib.hid (InvR.run as_)
  clear row0 has
  go_enter Try.func9, Try.ntmps9
  go_wp2_with fail
  refine (AC.out _ R0.out).mono ?_
  rintro e w1 ⟨u, rfl, OA, hb1⟩
  obtain ⟨up, uc, rfl⟩ := OA.row.form
  have OA := Lib.hid OA
  clear AC R0
  go_wp2_with fail
  refine (RC.out as_ _ (by omega) hwa.out _ OA.out.row).mono ?_
  rintro e w3 ⟨rs, rfl, OR, hb3⟩
  have hn3 := thenBelow hb1 hb3
  have RR : Hid (OwnR w3 w.heap.size rs (runL as_)) := Lib.hid (ownsLow OR hb1.size)
  obtain ⟨L, hL⟩ : ∃ L, runL as_ = L := ⟨_, rfl⟩
  rw [hL] at RR II
  have hLl : L.length ≤ 60 := II.out.size
  clear OR OA hb3 hL hb1
  obtain ⟨rp, rc, rfl, _, at_⟩ := (OwnR.row RR.out).at
  have AT := Lib.hid at_
  clear at_
  obtain ⟨m, hm⟩ : ∃ m, L.length = m := ⟨_, rfl⟩
  have HM := Lib.hid hm
  rw [hm] at hLl RR
  rw [hm]
  clear hm
  have wL : WordsR L := fun r hr => by
    refine Nat.lt_of_lt_of_le (chk0 (II.out.val r hr)).1 (Nat.pow_le_pow_right (by decide) ?_)
    cases r.1.1 <;> decide
  have HWL := Lib.hid wL
  clear wL
  go_wp2_with fail
  go_loopw [7, 8] (fun u i wr => ∃ (k : Nat) (R : List RT), k ≤ m ∧ i = .int .i64 k ∧ Below w3.heap.size w3 wr ∧ Hid (OwnA wr w3.heap.size u (R.map putOf)) ∧ R.length = k ∧ Hid ((∀ x ∈ R, x ∈ L) ∧ ∀ t, t < k → ∀ h : (t + (a1 % (m : Int)).toNat) % m < L.length, L[(t + (a1 % (m : Int)).toNat) % m] ∈ R)) (fun _ i _ => m - (intOf i).toNat)
  case atStart => exact ⟨0, [], by omega, rfl, Below.refl _ _, Lib.hid (World.ownsRow_nil _ _ _ _), rfl, Lib.hid ⟨fun x hx => by (cases hx), fun t ht => by omega⟩⟩
  case round =>
    obtain ⟨k, R, hk, rfl, bw, OW, hRl, HR⟩ := hrel
    by_cases hlt : k < m
    · have hm0 : (0 : Int) < (m : Int) := by omega
      have hd0 := Int.emod_nonneg a1 (show (m : Int) ≠ 0 by omega)
      have hd1 := Int.emod_lt_of_pos a1 hm0
      have PK := Lib.hid (fun W => picked_calls a1 m (by omega) (by omega) b0 b1 W)
      obtain ⟨d, hd⟩ : ∃ d : Nat, a1 % (m : Int) = d := ⟨(a1 % (m : Int)).toNat, by omega⟩
      rw [hd] at PK HR hd1
      simp only [Int.toNat_natCast] at HR
      obtain ⟨j, hj⟩ : ∃ j : Nat, (k + d) % m = j := ⟨_, rfl⟩
      have hjm : j < m := by rw [← hj]; exact Nat.mod_lt _ (by omega)
      have hdm : d < m := by omega
      have e2 : ((k : Int) + (d : Int)) % (m : Int) = (j : Int) := by rw [← hj]; simp
      have hjl : j < L.length := by rw [HM.out]; exact hjm
      obtain ⟨g, o, rfl, hgw, hrec⟩ := AT.out j hjl
      obtain ⟨x0, x1, x2, x3, x4⟩ := routeCells (hrec.keep bw hgw)
      have HJ : Hid ((∀ x ∈ L[j] :: R, x ∈ L) ∧ ∀ t, t < k + 1 → ∀ h : (t + d) % m < L.length, L[(t + d) % m] ∈ L[j] :: R) := Lib.hid ⟨fun x hx => by
          rcases List.mem_cons.1 hx with rfl | hx
          · exact List.getElem_mem hjl
          · exact HR.out.1 x hx, fun t ht h => by
          by_cases e : t = k
          · subst e; simp [hj]
          · exact List.mem_cons_of_mem _ (HR.out.2 t (by omega) h)⟩
      generalize L[j] = r at x0 x1 x2 x3 x4 HJ
      clear hj hrec HR
      have hjlt : (j : Int) < (m : Int) := by omega
      go_wp2_with fail
      refine (PK.out _).mono ?_
      rintro e w' ⟨rfl, rfl⟩
      have e0 : ((m : Int) == 0) = false := by simp; omega
      have HPT : Hid (objA (putOf r) = .cells #[.int .i64 1, .bool r.1.1, .int .u64 (aH r.1.2.1), .int .u64 (aL r.1.2.1), .int .i64 r.1.2.2, .int .i64 r.2, .bool false, .int .u64 0, .int .u64 0] 53) := Lib.hid (by simp [objA, putOf, aH0, aL0])
      have OACT : Hid (∀ W : World, (W.alloc (.cells #[.int .i64 1, .bool r.1.1, .int .u64 (aH r.1.2.1), .int .u64 (aL r.1.2.1), .int .i64 r.1.2.2, .int .i64 r.2, .bool false, .int .u64 0, .int .u64 0] 53)).ownsRow W.heap.size 53 9 (.slice (some ⟨W.heap.size, 0, none⟩) 1 1) 1 (acs (putOf r))) := Lib.hid fun W => by rw [← HPT.out]; exact own_act W (putOf r)
      obtain ⟨M, hM⟩ : ∃ M, R.map putOf = M := ⟨_, rfl⟩
      have HMR := Lib.hid hM
      have hMl : M.length = k := by rw [← hM, List.length_map, hRl]
      rw [hM] at OW
      clear hM
      obtain ⟨RO, hRO⟩ : ∃ x : Obj, x = .cells #[.bool r.1.1, .int .u64 (aH r.1.2.1), .int .u64 (aL r.1.2.1), .int .i64 r.1.2.2, .int .i64 r.2] 57 := ⟨_, rfl⟩
      obtain ⟨AO, hAO⟩ : ∃ x : Obj, x = .cells #[.int .i64 1, .bool r.1.1, .int .u64 (aH r.1.2.1), .int .u64 (aL r.1.2.1), .int .i64 r.1.2.2, .int .i64 r.2, .bool false, .int .u64 0, .int .u64 0] 53 := ⟨_, rfl⟩
      have O1 := OACT.out (wr.alloc RO)
      have O2 := (OW.out.alloc RO).alloc AO
      have bA := ((Below.refl wr.heap.size wr).alloc (Nat.le_refl _) RO).alloc (by simp) AO
      have hsz : wr.heap.size + 1 ≤ ((wr.alloc RO).alloc AO).heap.size := by simp
      rw [hRO, hAO] at O2 bA hsz
      rw [hRO] at O1
      simp only [World.size_alloc] at O1
      obtain ⟨X, hX⟩ : ∃ X, acs (putOf r) = X := ⟨_, rfl⟩
      obtain ⟨Y, hY⟩ : ∃ Y, rowOf acs M = Y := ⟨_, rfl⟩
      have HXY : Hid (rowOf acs (putOf r :: M) = X ++ Y) := Lib.hid (by rw [← hX, ← hY]; rfl)
      have H1 : Hid (∀ u ∈ Y, u.oneCell' = true) := Lib.hid (by rw [← hY]; exact rowOf_one acs acs_one M)
      rw [hMl, hY] at O2
      rw [hX] at O1
      clear hX hY
      have HO1 := Lib.hid O1
      have HO2 := Lib.hid O2
      have HBA := Lib.hid bA
      have HSZ := Lib.hid hsz
      have hby : (1 + k) * 72 ≤ 140737488355328 := by omega
      have h63 : 1 + k ≤ maxLen := by unfold maxLen; omega
      clear O1 O2 bA hsz OACT HPT hRO hAO OW
      go_wp2_with (at_builtin; refine wpList_append_two rfl _ _ _ rfl (wr.heap.size + 1) 53 i0 _ 9 72 Try.underlying26 hii hz0 hz1 hz2 rfl (by decide) _ 1 X rfl HO1.out _ w3.heap.size k Y rfl HO2.out H1.out hby h63 HSZ.out ?_; intro v5 w5 ho5 hb5)
      go_roundw
      case rel =>
        have b5 : Below wr.heap.size wr w5 := HBA.out.trans (hb5.mono (by omega))
        refine ⟨k + 1, r :: R, by omega, by go_num, thenBelow bw b5, Lib.hid ?_, by simp [hRl], Lib.hid (by rw [hd]; simp only [Int.toNat_natCast]; exact HJ.out)⟩
        have : (r :: R).map putOf = putOf r :: M := by rw [List.map_cons, HMR.out]
        rw [this]
        unfold OwnA
        rw [List.length_cons, hMl, Nat.add_comm, HXY.out]
        exact ownsLow ho5 (by have := bw.size; omega)
      case measure => simp [intOf]; omega
    · obtain rfl : k = m := by omega
      have HS : Hid (runL (R.map putOf) = L ∧ WordsA (R.map putOf)) := Lib.hid ⟨puts_same II.out HR.out.1 (fun x hx => by
        obtain ⟨j, hj, rfl⟩ := List.getElem_of_mem hx
        have hjk : j < k := by rw [← HM.out]; exact hj
        have hm0 : (0 : Int) < (k : Int) := by omega
        have hd0 := Int.emod_nonneg a1 (show (k : Int) ≠ 0 by omega)
        have hd1 := Int.emod_lt_of_pos a1 hm0
        obtain ⟨i, hi, e⟩ := turned (m := k) (d := (a1 % (k : Int)).toNat) (j := j) (by omega) hjk
        have := HR.out.2 i hi (by rw [e]; exact hj)
        simp only [e] at this
        exact this), words_puts HWL.out HR.out.1⟩
      obtain ⟨M, hM⟩ : ∃ M, R.map putOf = M := ⟨_, rfl⟩
      have hMl : M.length = k := by rw [← hM, List.length_map, hRl]
      rw [hM] at OW HS
      obtain ⟨vp, vc, hv⟩ := OW.out.row.form
      rw [hMl] at hv
      subst hv
      have hM1 : M.length ≤ 100 := by omega
      have OWR := Lib.hid (OwnA.row OW.out)
      have CT := Lib.hid (fun (W : World) (u : Value) (r : RowR W u L) => tableCheck_calls L u (by rw [HM.out]; omega) HWL.out W r)
      have TI := Lib.hid (tab_inv II.out)
      rw [TI.out] at CT
      clear hM HR
      go_wp2_with fail
      refine (RC.out M (.slice vp k vc) hM1 HS.out.2 wr OWR.out).mono ?_
      rintro e w8 ⟨rs2, rfl, OR2, hb8⟩
      rw [HS.out.1] at OR2
      have b8 := thenBelow bw hb8
      have R8 := Lib.hid (OwnR.row (ownsKeep RR.out b8))
      have R9 := Lib.hid OR2.row
      obtain ⟨sp, sc, rfl⟩ := OR2.row.form
      have hn8 := thenBelow hn3 b8
      have SC := Lib.hid (SR.out _ _ L (by rw [HM.out]; omega) w8 R8.out R9.out)
      clear OR2 hb8 OW HS
      go_wp2_with fail
      refine SC.out.mono ?_
      rintro e w9 ⟨rfl, hb9⟩
      have R10 := Lib.hid (R8.out.keep hb9)
      have hn9 := thenBelow hn8 hb9
      clear SC R8 R9
      go_wp2_with fail
      refine (CT.out _ _ R10.out).mono ?_
      rintro e w10 ⟨rfl, hb10⟩
      go_wp2
      go_ret
      exact ⟨by simp, thenBelow hn9 hb10⟩
theorem TOrder.own : ownKnob Try.prog.godebug = none := by kernel_rfl
set_option maxRecDepth 100000 in
theorem TOrder.lifted (os : Os) (started : os.Started) (H : Type) (enc : TypeId × Value → H) :
    ReturnsInHanded {} Try.checked os 9 .any (Rows.tableOrderSpec.pre6 enc Try.prog Try.f9 Rows.tableOrderRow.domain false) (Rows.tableOrderSpec.post enc Try.prog Try.f9 false true false false) := by
  refine returnsInHanded_of_change (C := Try.checked) TOrder.own started (by kernel_rfl) Try.func9
    (ChangeSpec.witness6 (enc := enc) (C := Try.checked) false ⟨#[], #[.slice none 0 0, .int .i64 0], []⟩ 8 (by kernel_rfl) (by kernel_rfl) (by kernel_rfl) (by kernel_rfl)) ?_
  intro W base args ds gs before hval0 hW hcnd _
  have hval : ∀ (j : Nat) t v, Try.f9.params[j]? = some t → args[j]? = some v → Value.okWide Try.prog W .any base t v := hval0
  have hW' := hW
  obtain ⟨p, q, hA0, hV, rfl, hfz, hnd⟩ := hW
  have hA : DataW.TrodAll enc Try.prog W 0 (fun _ => true) true Try.f9.params.toList args.toList ds p := hA0
  rw [Try.params9] at hA hval
  obtain ⟨v0, vs0, d0, ds0, p0, q0, hargs, rfl, rfl, rd0, r0⟩ := trodAll_cons hA
  obtain ⟨v1, vs1, d1, ds1, p1, q1, rfl, rfl, rfl, rd1, r1⟩ := trodAll_cons r0
  obtain ⟨rfl, rfl, rfl⟩ := trodAll_nil r1
  obtain rfl : args = #[v0, v1] := by cases args; simp_all
  obtain ⟨rfl, rfl⟩ := trodVars_none hV
  obtain ⟨l0, row0, wrd0, len0⟩ := openJobs (hval 0 45 v0 rfl rfl) rd0
  obtain ⟨a1, rfl, rfl, rfl, wa1⟩ := open_int Try.underlying3 (hval 1 3 v1 rfl rfl) rd1
  clear hA0 hval0
  refine (TOrder.walk v0 l0 a1 wrd0 len0 (i64_of_wf wa1).1 (i64_of_wf wa1).2 W row0).mono fun e W' ⟨he, hb⟩ => ?_
  subst he
  exact ⟨_, rfl, postBelowR (pv := []) hW' hb (fun _ _ _ => trodAll_cons_mk (shut_bool Try.underlying4 _) trodAll_mk0) (trodAll_cons_mk (Below.trod laidOutR (by kernel_rfl) (of_decide_eq_true (by kernel_rfl)) rd0 hb (fun x hx => hW'.lt x (by simp [hx]))) (trodAll_cons_mk (Below.trod laidOutR (by kernel_rfl) (of_decide_eq_true (by kernel_rfl)) rd1 hb (fun x hx => by cases hx)) trodAll_mk0)) (fun _ _ => rfl) rfl⟩

theorem TOrder.holds : Rows.TableOrderSaid :=
  OpenClaim.holds_of_wide 9 Try.f9 rfl rfl rfl rfl rfl rfl rfl ⟨rfl, rfl, rfl, rfl, rfl⟩ rfl rfl rfl rfl rfl (by kernel_rfl) Try.func9 (by kernel_rfl)
    (of_decide_eq_true (by kernel_rfl)) (by unfold Func.isWrapper; first | (rw [if_pos (by decide +kernel)]; kernel_rfl) | (rw [if_neg (by decide +kernel)]; exact ⟨rfl, rfl⟩))
    (fun os started H enc _ => TOrder.lifted os started H enc)
#print axioms TOrder.holds
end Go.Proofs.Ytbfcgjimepcacaa

/-
  FewestGoes: for every list of jobs and all numbers the compressed table routes every address as the table does. No conditions.
-/
import Derived.Test.YtmjlmfbceccjdaaRows
import Derived.Test.YtmjlmfbceccjdaaFwW
import Derived.Deep.DeepCutAuto
import Derived.Deep.RegionHeld3
import Derived.Test.YtmjlmfbceccjdaaGoesTo
import Derived.Test.YtmjlmfbceccjdaaRowsJ
import Derived.Test.YtmjlmfbceccjdaaPicked
namespace Go.Proofs.Ytmjlmfbceccjdaa
open Go.ChangeShapes Go.WideShapes Go.ChangeAt Go.RowKit Go.Joins
set_option linter.unusedSimpArgs false
set_option linter.unusedVariables false
set_option maxHeartbeats 8000000 in
set_option maxRecDepth 100000 in
theorem FGoes.walk (v0 : Value) (l0 : List JT) (a1 : Int) (a2 : Int) (wrd0 : WordsJ l0) (len0 : l0.length ≤ 9223372036854775807) (b0 : -9223372036854775808 ≤ a1) (b1 : a1 ≤ 9223372036854775807) (b2 : -9223372036854775808 ≤ a2) (b3 : a2 ≤ 9223372036854775807) (w : World) (row0 : RowJ w v0 l0) :
    Calls Try.prog 5 #[v0, .int .i64 a1, .int .i64 a2] w fun e w' => e = .returned (.bool true) ∧ Below w.heap.size w w' := by
  obtain ⟨i0, hii, hz0, hz1, hz2⟩ := info_parts info_route
  have WC := Lib.hid (whole_calls l0 v0 a1 len0 wrd0 b0 b1 w row0)
  obtain ⟨hz, hlz⟩ := whole_fw l0 a1
  generalize wholeZ l0 a1 = Z at WC hz hlz
  have hx := Lib.hid (fw_tab hz)
  have hX := Nat.le_trans (fw_size hz) hlz
  have SW := Lib.hid (fw_same hz)
  have hd := Lib.hid (fw_def hz)
  have FW := Lib.hid (fun (u : Value) (W : World) (r : RowR W u Z) => fewest_ok Z u hz (words_tab (fwE_0 hz).1) W r)
  have NR := Lib.hid (fun W : World => near_calls a2 b2 b3 W)
  have hnz := nearZ_lt a2
  have TZ := Lib.hid (fwE_0 hz).1
  generalize fwL Z = X at FW hx hX SW hd
  have GE := Lib.hid (show ∀ y, y < 2 ^ wideN false → goesZ X false y = goesZ Z false y from fun y hy => by
    have e1 : lookE X false y = 0 := by rw [lookE, if_pos hx.out, if_pos hy]
    have e2 : lookE Z false y = 0 := by rw [lookE, if_pos TZ.out, if_pos hy]
    rw [goesZ, goesZ, if_pos e1, if_pos e2, lookA, lookA, if_pos e1, if_pos e2]; exact SW.out false y hy)
  have GX := Lib.hid (fun (u : Value) (y : Nat) (hy : y < 2 ^ 128) (W : World) (r : RowR W u X) => goesTo_calls X u false y (by omega) (words_tab hx.out) hy W r)
  have GZ := Lib.hid (fun (u : Value) (y : Nat) (hy : y < 2 ^ 128) (W : World) (r : RowR W u Z) => goesTo_calls Z u false y (by omega) (words_tab TZ.out) hy W r)
  have hpos : 0 < X.length := by obtain ⟨r, hr, _⟩ := hd.out; exact List.length_pos_of_mem hr
  obtain ⟨z, hzz⟩ : ∃ z, nearZ a2 = z := ⟨_, rfl⟩
  rw [hzz] at NR hnz
  have hz128 : z < 2 ^ 128 := Nat.lt_of_lt_of_le hnz (by decide)
  have GXz := Lib.hid (fun (u : Value) (W : World) (r : RowR W u X) => by have := GX.out u z hz128 W r; rw [GE.out z hnz] at this; exact this)
  have GZz := Lib.hid (fun (u : Value) (W : World) (r : RowR W u Z) => GZ.out u z hz128 W r)
  have GX0 := Lib.hid (fun (u : Value) (W : World) (r : RowR W u X) => by have := GX.out u 0 (by decide) W r; rw [GE.out 0 (by decide), aH0, aL0] at this; exact this)
  have GZ0 := Lib.hid (fun (u : Value) (W : World) (r : RowR W u Z) => by have := GZ.out u 0 (by decide) W r; rw [aH0, aL0] at this; exact this)
  generalize goesZ Z false z = g1 at GXz GZz
  generalize goesZ Z false 0 = g0 at GX0 GZ0
  have hby1 : Z.length * 40 ≤ 140737488355328 := by omega
  have h631 : Z.length ≤ maxLen := by unfold maxLen; omega
  have R0 := Lib.hid row0
  obtain ⟨q0, d0, rfl⟩ := row0.form
  clear row0 wrd0 hzz hd SW GE GX GZ
  go_enter Try.func5, Try.ntmps5
  go_wp2_with fail
  refine WC.out.mono ?_
  rintro e w1 ⟨u1, rfl, o1, hb1⟩
  have RZ1 := Lib.hid (OwnR.row o1)
  obtain ⟨p1, c1, rfl⟩ := RZ1.out.form
  clear o1 WC
  go_wp2_with (at_builtin; refine wpList_append_copy rfl _ _ _ rfl 51 i0 _ 40 Try.underlying23 hii hz0 hz1 hz2 rfl (by decide) rcs_len rcs_one rfl _ _ rfl RZ1.out hby1 h631 ?_; intro u2 w2 o2 hb2)
  have o2 : OwnR w2 w1.heap.size u2 Z := o2
  have RZ2 := Lib.hid (RZ1.out.keep hb2)
  clear RZ1
  have b2 : Below w.heap.size w w2 := thenBelow hb1 hb2
  clear hb1
  have CZ2 := Lib.hid (OwnR.row o2)
  obtain ⟨p2, c2, rfl⟩ := CZ2.out.form
  clear o2
  clear hb2
  refine (FW.out _ _ CZ2.out).mono ?_
  rintro e w3 ⟨u3, rfl, o3, hb3⟩
  have RZ3 := Lib.hid (RZ2.out.keep hb3)
  clear RZ2
  have CZ3 := Lib.hid (CZ2.out.keep hb3)
  clear CZ2
  have b3 : Below w.heap.size w w3 := thenBelow b2 hb3
  clear b2
  have RX3 := Lib.hid (OwnR.row o3)
  obtain ⟨p3, c3, rfl⟩ := RX3.out.form
  clear o3
  clear hb3
  clear CZ3
  go_wp2_with fail
  refine (NR.out _).mono ?_
  rintro e w4 ⟨rfl, hb4⟩
  have RZ4 := Lib.hid (RZ3.out.keep hb4)
  clear RZ3
  have RX4 := Lib.hid (RX3.out.keep hb4)
  clear RX3
  have b4 : Below w.heap.size w w4 := thenBelow b3 hb4
  clear b3
  clear hb4
  have A0 := AddrAt.new w4 false (aH z) (aL z) 30
  have bY := (Below.refl w4.heap.size w4).alloc (Nat.le_refl _) (.cells #[.bool false, .int .u64 (aH z), .int .u64 (aL z)] 30)
  have nY := thenBelow b4 bY
  have RXY := Lib.hid (RX4.out.keep bY)
  have RZY := Lib.hid (RZ4.out.keep bY)
  have hposI : (0 : Int) < (X.length : Int) := by omega
  go_upto_region 4 with fail
  revert A0 bY nY RXY RZY
  generalize w4.alloc (.cells #[.bool false, .int .u64 (aH z), .int .u64 (aL z)] 30) = Y
  intro A0 bY nY RXY RZY
  obtain ⟨a0, a1_, a2_, al⟩ := A0
  have HBB := Lib.hid (show ∀ W, Below Y.heap.size Y W → W.cell? ⟨w4.heap.size, 0, none⟩ = some (.bool false) ∧ W.cell? ⟨w4.heap.size, 1, none⟩ = some (.int .u64 (aH z)) ∧ W.cell? ⟨w4.heap.size, 2, none⟩ = some (.int .u64 (aL z)) from fun W hW => ⟨(hW.cell (p := ⟨w4.heap.size, 0, none⟩) al).trans a0, (hW.cell (p := ⟨w4.heap.size, 1, none⟩) al).trans a1_, (hW.cell (p := ⟨w4.heap.size, 2, none⟩) al).trans a2_⟩)
  clear a0 a1_ a2_ bY
  have t1 : True := trivial
  have t2 : True := trivial
  have t3 : True := trivial
  go_region_held3 (fun W => W.cell? ⟨w4.heap.size, 0, none⟩ = some (.bool false) ∧ W.cell? ⟨w4.heap.size, 1, none⟩ = some (.int .u64 (aH z)) ∧ W.cell? ⟨w4.heap.size, 2, none⟩ = some (.int .u64 (aL z)))
    (first | exact HBB.out _ ((Below.refl _ Y).drew) | exact HBB.out _ B4_ | exact HBB.out _ B3_ | exact HBB.out _ B2_ | exact HBB.out _ B1_ | fail)
    (first
      | (have _t := t1; go_at_call 20; refine (GXz.out _ _ (RXY.out.keep ((Below.refl _ Y).drew))).mono ?_; rintro e x1 ⟨rfl, hc1⟩; have B1_ : Below Y.heap.size Y x1 := thenBelow ((Below.refl _ Y).drew) hc1; clear t1)
      | (have _t := t2; go_at_call 20; refine (GZz.out _ _ (RZY.out.keep B1_)).mono ?_; rintro e x2 ⟨rfl, hc2⟩; have B2_ : Below Y.heap.size Y x2 := thenBelow B1_ hc2; clear t2)
      | (have _t := t3; go_at_call 20; refine (GX0.out _ _ (RXY.out.keep B2_)).mono ?_; rintro e x3 ⟨rfl, hc3⟩; have B3_ : Below Y.heap.size Y x3 := thenBelow B2_ hc3; clear t3)
      | (go_at_call 20; refine (GZ0.out _ _ (RZY.out.keep B3_)).mono ?_; rintro e x4 ⟨rfl, hc4⟩; have B4_ : Below Y.heap.size Y x4 := thenBelow B3_ hc4)
      | fail)
  all_goals
    go_wp2
    go_ret
    exact ⟨by simp, thenBelow nY B4_⟩
theorem FGoes.own : ownKnob Try.prog.godebug = none := by kernel_rfl
set_option maxRecDepth 100000 in
theorem FGoes.lifted (os : Os) (started : os.Started) (H : Type) (enc : TypeId × Value → H) :
    ReturnsInHanded {} Try.checked os 5 .any (Rows.fewestGoesSpec.pre6 enc Try.prog Try.f5 Rows.fewestGoesRow.domain false) (Rows.fewestGoesSpec.post enc Try.prog Try.f5 false true false false) := by
  refine returnsInHanded_of_change (C := Try.checked) FGoes.own started (by kernel_rfl) Try.func5
    (ChangeSpec.witness6 (enc := enc) (C := Try.checked) false ⟨#[], #[.slice none 0 0, .int .i64 0, .int .i64 0], []⟩ 8 (by kernel_rfl) (by kernel_rfl) (by kernel_rfl) (by kernel_rfl)) ?_
  intro W base args ds gs before hval0 hW hcnd _
  have hval : ∀ (j : Nat) t v, Try.f5.params[j]? = some t → args[j]? = some v → Value.okWide Try.prog W .any base t v := hval0
  have hW' := hW
  obtain ⟨p, q, hA0, hV, rfl, hfz, hnd⟩ := hW
  have hA : DataW.TrodAll enc Try.prog W 0 (fun _ => true) true Try.f5.params.toList args.toList ds p := hA0
  rw [Try.params5] at hA hval
  obtain ⟨v0, vs0, d0, ds0, p0, q0, hargs, rfl, rfl, rd0, r0⟩ := trodAll_cons hA
  obtain ⟨v1, vs1, d1, ds1, p1, q1, rfl, rfl, rfl, rd1, r1⟩ := trodAll_cons r0
  obtain ⟨v2, vs2, d2, ds2, p2, q2, rfl, rfl, rfl, rd2, r2⟩ := trodAll_cons r1
  obtain ⟨rfl, rfl, rfl⟩ := trodAll_nil r2
  obtain rfl : args = #[v0, v1, v2] := by cases args; simp_all
  obtain ⟨rfl, rfl⟩ := trodVars_none hV
  obtain ⟨l0, row0, wrd0, len0⟩ := openJobs (hval 0 22 v0 rfl rfl) rd0
  obtain ⟨a1, rfl, rfl, rfl, wa1⟩ := open_int Try.underlying3 (hval 1 3 v1 rfl rfl) rd1
  obtain ⟨a2, rfl, rfl, rfl, wa2⟩ := open_int Try.underlying3 (hval 2 3 v2 rfl rfl) rd2
  clear hA0 hval0
  refine (FGoes.walk v0 l0 a1 a2 wrd0 len0 (i64_of_wf wa1).1 (i64_of_wf wa1).2 (i64_of_wf wa2).1 (i64_of_wf wa2).2 W row0).mono fun e W' ⟨he, hb⟩ => ?_
  subst he
  exact ⟨_, rfl, postBelowR (pv := []) hW' hb (fun _ _ _ => trodAll_cons_mk (shut_bool Try.underlying4 _) trodAll_mk0) (trodAll_cons_mk (Below.trod laidOutR (by kernel_rfl) (of_decide_eq_true (by kernel_rfl)) rd0 hb (fun x hx => hW'.lt x (by simp [hx]))) (trodAll_cons_mk (Below.trod laidOutR (by kernel_rfl) (of_decide_eq_true (by kernel_rfl)) rd1 hb (fun x hx => by cases hx)) (trodAll_cons_mk (Below.trod laidOutR (by kernel_rfl) (of_decide_eq_true (by kernel_rfl)) rd2 hb (fun x hx => by cases hx)) trodAll_mk0))) (fun _ _ => rfl) rfl⟩

theorem FGoes.holds : Rows.FewestGoesSaid :=
  OpenClaim.holds_of_wide 5 Try.f5 rfl rfl rfl rfl rfl rfl rfl ⟨rfl, rfl, rfl, rfl, rfl⟩ rfl rfl rfl rfl rfl (by kernel_rfl) Try.func5 (by kernel_rfl)
    (of_decide_eq_true (by kernel_rfl)) (by unfold Func.isWrapper; first | (rw [if_pos (by decide +kernel)]; kernel_rfl) | (rw [if_neg (by decide +kernel)]; exact ⟨rfl, rfl⟩))
    (fun os started H enc _ => FGoes.lifted os started H enc)
#print axioms FGoes.holds
end Go.Proofs.Ytmjlmfbceccjdaa

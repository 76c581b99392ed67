/-
  RangeCut: a range that is cut in two is both parts, merged; for every argument.
-/
import Derived.Test.YtojdlhiibffnfaaDoorRows
import Derived.Test.YtojdlhiibffnfaaDoorCards
import Derived.Test.YtojdlhiibffnfaaDoorRCut
import Derived.Test.YtojdlhiibffnfaaDoorLaidF
import Derived.Test.YtojdlhiibffnfaaDoorShapesRaw
namespace Go.Proofs.YtojdlhiibffnfaaDoor
open Go.ChangeShapes Go.WideShapes Go.ChangeAt Go.RowKit Go.Joins
set_option linter.unusedVariables false
set_option linter.unusedSimpArgs false

set_option maxHeartbeats 1000000 in
theorem cut_no (six : Bool) (rh rl bi cu N : Int) (x : Nat) (n0 : 0 ≤ N) (n1 : N < 65536)
    (AO : Hid (∀ W : World, Calls Tryd.prog 21 #[.agg #[.bool six, .int .u64 rh, .int .u64 rl]] W fun e w' => e = .returned (.agg #[.bool six, .int .u64 (aH x), .int .u64 (aL x)]) ∧ Below W.heap.size W w'))
    (P1 : Hid (∀ W : World, Calls Tryd.prog 23 #[.int .i64 bi, .int .i64 65536] W fun e w' => e = .returned (.int .i64 N) ∧ W = w'))
    (X1 : Hid (∀ W : World, Calls Tryd.prog 22 #[.agg #[.bool six, .int .u64 (aH x), .int .u64 (aL x)], .int .i64 (1 + N)] W fun e w' => e = .returned (.tuple #[.agg #[.bool false, .int .u64 0, .int .u64 0], .int .i64 2]) ∧ Below W.heap.size W w'))
    (w : World) (hF : FamAt w) :
    Calls Tryd.prog 10 #[.agg #[.bool six, .int .u64 rh, .int .u64 rl], .int .i64 bi, .int .i64 cu] w fun e w' => e = .returned (.bool true) ∧ Below w.heap.size w w' := by
  have FM := Lib.hid hF
  have CS := Lib.hid (fun (W : World) h => cidrSure_calls W h)
  clear hF
  go_enter Tryd.func10, Tryd.ntmps10
  go_wp2_with fail
  refine (AO.out _).mono ?_
  rintro e w1 ⟨rfl, hb1⟩
  have b0 : Below w.heap.size w (w.alloc (.cells #[.bool six, .int .u64 rh, .int .u64 rl] 34)) := (Below.refl _ w).alloc (Nat.le_refl _) _
  have b1 := thenBelow b0 hb1
  have FM := Lib.hid (FM.out.keep b1)
  clear hb1 b0
  go_wp2_with fail
  refine (P1.out _).mono ?_
  rintro e w' ⟨rfl, rfl⟩
  go_wp2_with fail
  refine (X1.out _).mono ?_
  rintro e w2 ⟨rfl, hb2⟩
  have bA : Below w1.heap.size w1 (w1.alloc (.cells #[.bool six, .int .u64 (aH x), .int .u64 (aL x)] 24)) := (Below.refl _ w1).alloc (Nat.le_refl _) _
  have b2 := thenBelow (thenBelow b1 bA) hb2
  have FM := Lib.hid ((FM.out.keep bA).keep hb2)
  clear b1 hb2 bA
  have bB : Below w2.heap.size w2 (w2.alloc (.cells #[.bool false, .int .u64 0, .int .u64 0] 24)) := (Below.refl _ w2).alloc (Nat.le_refl _) _
  go_wp2_with fail
  refine (CS.out _ (FM.out.keep bB)).mono ?_
  rintro e w3 ⟨rfl, hb3⟩
  have b3 := thenBelow (thenBelow b2 bB) hb3
  go_wp2
  go_ret
  exact ⟨rfl, b3⟩
theorem RangeCut.walk (s0 : Bool) (h0 l0 a1 a2 : Int) (c0 : 0 ≤ h0) (c1 : h0 ≤ 18446744073709551615) (c2 : 0 ≤ l0) (c3 : l0 ≤ 18446744073709551615) (d0 : -9223372036854775808 ≤ a1) (d1 : a1 ≤ 9223372036854775807) (e0 : -9223372036854775808 ≤ a2) (e1 : a2 ≤ 9223372036854775807) (w : World) (hT : Laid1.Tabs w) :
    Calls Tryd.prog 10 #[.agg #[.bool s0, .int .u64 h0, .int .u64 l0], .int .i64 a1, .int .i64 a2] w fun e w' => e = .returned (.bool true) ∧ Below w.heap.size w w' := by
  have F : FamAt w := hT
  obtain ⟨x, hx⟩ : ∃ x, numR s0 h0 l0 = x := ⟨_, rfl⟩
  have hxl : x < 2 ^ wideN s0 := hx ▸ numR_lt s0 h0 l0 c0 c1 c2 c3
  obtain ⟨N, hN⟩ : ∃ N, a1 % 65536 = N := ⟨_, rfl⟩
  have n0 : 0 ≤ N := by rw [← hN]; exact Int.emod_nonneg _ (by decide)
  have n1 : N < 65536 := by rw [← hN]; exact Int.emod_lt_of_pos _ (by decide)
  have AO := Lib.hid (fun W : World => addrOfNum_calls s0 h0 l0 c0 c1 c2 c3 x hx W)
  have P1 : Hid (∀ W : World, Calls Tryd.prog 23 #[.int .i64 a1, .int .i64 65536] W fun e w' => e = .returned (.int .i64 N) ∧ W = w') := Lib.hid fun W => by
    have := picked_calls a1 65536 (by decide) (by decide) d0 d1 W
    rw [hN] at this
    exact this
  by_cases hb : x + (1 + N.toNat) < 2 ^ wideN s0
  · obtain ⟨M, hM⟩ : ∃ M, a2 % (1 + N) = M := ⟨_, rfl⟩
    have m0 : 0 ≤ M := by rw [← hM]; exact Int.emod_nonneg _ (by omega)
    have m1 : M < 1 + N := by rw [← hM]; exact Int.emod_lt_of_pos _ (by omega)
    have P2 : Hid (∀ W : World, Calls Tryd.prog 23 #[.int .i64 a2, .int .i64 (1 + N)] W fun e w' => e = .returned (.int .i64 M) ∧ W = w') := Lib.hid fun W => by
      have := picked_calls a2 (1 + N) (by omega) (by omega) e0 e1 W
      rw [hM] at this
      exact this
    obtain ⟨y, hy⟩ : ∃ y, x + (1 + N.toNat) = y := ⟨_, rfl⟩
    obtain ⟨m, hm⟩ : ∃ m, x + M.toNat = m := ⟨_, rfl⟩
    rw [hy] at hb
    have hmy : m + 1 ≤ y := by omega
    have hml : m < 2 ^ wideN s0 := by omega
    have hql : m + 1 < 2 ^ wideN s0 := by omega
    have b1 := canon_range_len x m 17 (by omega) (wideN s0) 0
    have b2 := canon_range_len (m + 1) y 17 (by omega) (wideN s0) 0
    have g1 : (cn s0 (fromTo x m) (wideN s0) 0).length ≤ 36 := by unfold cn; rw [List.length_map]; omega
    have g2 : (cn s0 (fromTo (m + 1) y) (wideN s0) 0).length ≤ 36 := by unfold cn; rw [List.length_map]; omega
    obtain ⟨z0, z1⟩ := merge_two (six := s0) (S := fromTo (m + 1) y) (T := fromTo x m) (U := fromTo x y) (fun a _ => by unfold fromTo; omega) (by omega)
    refine cut_yes s0 h0 l0 a1 a2 N M x y m (m + 1) _ _ _ n0 n1 (by omega) (Nat.le_trans (cn_range s0 x y _ _ (Nat.le_refl _)) (by decide)) AO P1
      (Lib.hid fun W => next_num s0 x y (1 + N) hxl hb (by omega) (by omega) (by omega) W) P2
      (Lib.hid fun W => next_num s0 x m M hxl hml (by omega) (by omega) (by omega) W)
      (Lib.hid fun W => next_num s0 m (m + 1) 1 hml hql (by decide) (by decide) (by omega) W)
      (Lib.hid fun W f => range_ok s0 x m hxl hml (by omega) W f) (Lib.hid fun W f => range_ok s0 (m + 1) y hql hb hmy W f) (Lib.hid fun W f => range_ok s0 x y hxl hb (by omega) W f)
      (Lib.hid fun W v r f => ?_) w F
    have := merge_calls (cn s0 (fromTo (m + 1) y) (wideN s0) 0 ++ cn s0 (fromTo x m) (wideN s0) 0) v (by rw [List.length_append]; omega) (fun p hp => by
      rcases List.mem_append.1 hp with c | c
      · exact cn_ok.2.1 p c
      · exact cn_ok.2.1 p c) W r f
    rw [z0, z1] at this
    exact this
  · exact cut_no s0 h0 l0 a1 a2 N x n0 n1 AO P1 (Lib.hid fun W => next_num_none s0 x (1 + N) hxl (.inr (by omega)) W) w F
theorem RangeCut.own : ownKnob Tryd.prog.godebug = none := by kernel_rfl
set_option maxRecDepth 100000 in
theorem RangeCut.lifted (os : Os) (started : os.Started) (H : Type) (enc : TypeId × Value → H) :
    ReturnsInHanded {} Tryd.checked os 10 .any (fun w args => (Rows.rangeCutSpec.pre enc Tryd.prog Tryd.f10 [] false w args ∧ laidMetH Tryd.prog Rows.rangeCutRow.laid w) ∧ sizedMet enc Tryd.prog Tryd.f10 (OpenSpec.ofChange Rows.rangeCutSpec) false w args) (Rows.rangeCutSpec.post enc Tryd.prog Tryd.f10 false true false false) := by
  refine returnsInHanded_of_change_and (C := Tryd.checked) (X := fun w _ => laidMetH Tryd.prog Rows.rangeCutRow.laid w) (fun _ _ _ hh h => h.of_heap hh) RangeCut.own started (by kernel_rfl) Tryd.func10
    (ChangeSpec.witness_at (enc := enc) (C := Tryd.checked) (os := os) (X := fun w _ => laidMetH Tryd.prog Rows.rangeCutRow.laid w) false (Laid1.world os) #[.agg #[.bool false, .int .u64 0, .int .u64 0], .int .i64 0, .int .i64 0] 8 rfl (by kernel_rfl) (by kernel_rfl) (by kernel_rfl) (by kernel_rfl) (by kernel_rfl) (Laid1.met os _)) ?_
  intro W base args ds gs before hval0 hW hcnd _ hL _
  have hT : Laid1.Tabs W := Laid1.of hL
  have hval : ∀ (j : Nat) t v, Tryd.f10.params[j]? = some t → args[j]? = some v → Value.okWide Tryd.prog W .any base t v := hval0
  have hW' := hW
  obtain ⟨p, q, hA0, hV, rfl, hfz, hnd⟩ := hW
  have hA : DataW.TrodAll enc Tryd.prog W 0 (fun _ => true) true Tryd.f10.params.toList args.toList ds p := hA0
  rw [Tryd.params10] at hA hval
  obtain ⟨v0, vs0, d0, ds0, p0, q0, hargs, rfl, rfl, rd0, r0⟩ := trodAll_cons hA
  obtain ⟨v1, vs1, d1, ds1, p1, q1, rfl, rfl, rfl, rd1, r1⟩ := trodAll_cons r0
  obtain ⟨v2, vs2, d2, ds2, p2, q2, rfl, rfl, rfl, rd2, r2⟩ := trodAll_cons r1
  obtain ⟨rfl, rfl, rfl⟩ := trodAll_nil r2
  obtain rfl : args = #[v0, v1, v2] := by cases args; simp_all
  obtain ⟨rfl, rfl⟩ := trodVars_none hV
  obtain ⟨s0, h0, l0, rfl, rfl, rfl, wa0, wb0⟩ := openRaw (hval 0 34 v0 rfl rfl) rd0
  obtain ⟨a1, rfl, rfl, rfl, wa1⟩ := open_int Tryd.underlying3 (hval 1 3 v1 rfl rfl) rd1
  obtain ⟨a2, rfl, rfl, rfl, wa2⟩ := open_int Tryd.underlying3 (hval 2 3 v2 rfl rfl) rd2
  clear hA0 hval0
  simp only [List.append_nil] at hW'
  refine (RangeCut.walk s0 h0 l0 a1 a2 (u64_of_wf wa0).1 (u64_of_wf wa0).2 (u64_of_wf wb0).1 (u64_of_wf wb0).2 (i64_of_wf wa1).1 (i64_of_wf wa1).2 (i64_of_wf wa2).1 (i64_of_wf wa2).2 W hT).mono fun e W' ⟨he, hb⟩ => ?_
  subst he
  exact ⟨_, rfl, postBelow (pa := []) (pv := []) hW' hb (fun _ _ _ => trodAll_cons_mk (shut_bool Tryd.underlying4 _) trodAll_mk0) (fun sp _ => trodAll_cons_mk (shutRaw wa0 wb0) (trodAll_cons_mk (shut_int Tryd.underlying3 wa1) (trodAll_cons_mk (shut_int Tryd.underlying3 wa2) trodAll_mk0))) (fun _ _ => rfl) rfl⟩

theorem RangeCut.holds : Rows.RangeCutSaid :=
  OpenClaim.holds_of_wide 10 Tryd.f10 rfl rfl rfl rfl rfl rfl rfl ⟨rfl, rfl, rfl, rfl, rfl⟩ rfl rfl rfl rfl rfl (by kernel_rfl) Tryd.func10 (by kernel_rfl)
    (of_decide_eq_true (by kernel_rfl)) (by unfold Func.isWrapper; first | (rw [if_pos (by decide +kernel)]; kernel_rfl) | (rw [if_neg (by decide +kernel)]; exact ⟨rfl, rfl⟩))
    (fun os started H enc _ => RangeCut.lifted os started H enc)
#print axioms RangeCut.holds
theorem RangeCut.card : Rows.RangeCutCardSaid :=
  Claim7.holds_tied_plain_at .later [] Rows.rangeCutCard.laidKinds true Rows.rangeCutCard.stood.harness Rows.rangeCutCard.stood.looks
    RangeCut.holds (fun _ h => by cases h) (by kernel_rfl) (fun _ h => by cases h) rangeCut_row_tie rfl ⟨rfl, rfl⟩ (by kernel_rfl) rfl
    (fun f fn hf hfn => by
      obtain rfl : f = 10 := Option.some.inj ((show Tryd.prog.funcNamed "whipcord/whipcordkeep.RangeCut" = some 10 by kernel_rfl).symm.trans hf) |>.symm
      obtain rfl : fn = Tryd.f10 := (Option.some.inj (Tryd.func10.symm.trans hfn)).symm
      exact ⟨by kernel_rfl, fun j t ht => by
        rw [Tryd.params10] at ht
        match j, ht with
        | 0, ht => obtain rfl := Option.some.inj ht; exact (show Tryd.prog.wantsStandIn 34 = false by kernel_rfl)
        | 1, ht => obtain rfl := Option.some.inj ht; exact (show Tryd.prog.wantsStandIn 3 = false by kernel_rfl)
        | 2, ht => obtain rfl := Option.some.inj ht; exact (show Tryd.prog.wantsStandIn 3 = false by kernel_rfl)
        | j + 3, ht => simp at ht⟩)
    (by kernel_rfl)
#print axioms RangeCut.card
end Go.Proofs.YtojdlhiibffnfaaDoor

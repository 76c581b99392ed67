/-
  PROVED: whipcordlaw.PreCommons returns true for all arguments, and they read afterwards as they read before. No condition.
-/
import Derived.Test.YthlkofbdfjpfpaaRows
import Derived.Test.YthlkofbdfjpfpaaRefCommon
import Derived.Test.YthlkofbdfjpfpaaShapesPre
namespace Go.Proofs.Ythlkofbdfjpfpaa
open Go.ChangeShapes Go.WideShapes Go.ChangeAt Go.RowKit Go.Joins
set_option linter.unusedVariables false
set_option linter.unusedSimpArgs false

set_option maxHeartbeats 1000000 in
theorem Commons.core (s0 s1 sa : Bool) (x y : Nat) (n m ah al an r : Int)
    (C1 : Hid (∀ W : World, Calls Try.prog 24 #[.agg #[.bool s0, .int .u64 (aH x), .int .u64 (aL x), .int .i64 n], .agg #[.bool s1, .int .u64 (aH y), .int .u64 (aL y), .int .i64 m]] W fun e w' => e = .returned (.tuple #[.agg #[.bool sa, .int .u64 ah, .int .u64 al, .int .i64 an], .int .i64 r]) ∧ Below W.heap.size W w'))
    (C2 : Hid (∀ W : World, Calls Try.prog 25 #[.agg #[.bool s0, .int .u64 (aH x), .int .u64 (aL x), .int .i64 n], .agg #[.bool s1, .int .u64 (aH y), .int .u64 (aL y), .int .i64 m]] W fun e w' => e = .returned (.tuple #[.agg #[.bool sa, .int .u64 ah, .int .u64 al, .int .i64 an], .int .i64 r]) ∧ Below W.heap.size W w')) (w : World) :
    Calls Try.prog 8 #[.agg #[.bool s0, .int .u64 (aH x), .int .u64 (aL x), .int .i64 n], .agg #[.bool s1, .int .u64 (aH y), .int .u64 (aL y), .int .i64 m]] w fun e w' => e = .returned (.bool true) ∧ Below w.heap.size w w' := by
  go_enter Try.func8, Try.ntmps8
  go_wp2_with fail
  refine (C1.out _).mono ?_
  rintro e w1 ⟨rfl, hb1⟩
  have b1 := thenBelow (show Below w.heap.size w _ from (by first | exact Below.refl _ _ | exact (Below.refl _ _).alloc (Nat.le_refl _) _ | exact ((Below.refl _ _).alloc (Nat.le_refl _) _).alloc (by simp) _ | exact (((Below.refl _ _).alloc (Nat.le_refl _) _).alloc (by simp) _).alloc (by simp; omega) _)) hb1
  have Gp := (PreAt.new (w) s0 (aH x) (aL x) n 26).via (by first | exact Below.refl _ _ | exact (Below.refl _ _).alloc (Nat.le_refl _) _ | exact ((Below.refl _ _).alloc (Nat.le_refl _) _).alloc (by simp) _ | exact (((Below.refl _ _).alloc (Nat.le_refl _) _).alloc (by simp) _).alloc (by simp; omega) _) hb1
  try simp only [World.size_alloc] at Gp
  have Fp := Lib.hid Gp
  clear Gp
  have Gq := (PreAt.new ((w.alloc (.cells #[.bool s0, .int .u64 (aH x), .int .u64 (aL x), .int .i64 n] 26))) s1 (aH y) (aL y) m 26).via (by first | exact Below.refl _ _ | exact (Below.refl _ _).alloc (Nat.le_refl _) _ | exact ((Below.refl _ _).alloc (Nat.le_refl _) _).alloc (by simp) _ | exact (((Below.refl _ _).alloc (Nat.le_refl _) _).alloc (by simp) _).alloc (by simp; omega) _) hb1
  try simp only [World.size_alloc] at Gq
  have Fq := Lib.hid Gq
  clear Gq
  clear hb1
  obtain ⟨p_0, p_1, p_2, p_3, p_l⟩ := Fp.out
  have p_m := Nat.lt_succ_of_lt p_l
  try simp only [Nat.succ_eq_add_one, Nat.add_lt_add_iff_right] at p_m
  obtain ⟨q_0, q_1, q_2, q_3, q_l⟩ := Fq.out
  have q_m := Nat.lt_succ_of_lt q_l
  try simp only [Nat.succ_eq_add_one, Nat.add_lt_add_iff_right] at q_m
  go_wp2_with fail
  refine (C2.out _).mono ?_
  rintro e w2 ⟨rfl, hb2⟩
  have b2 := thenBelow (thenBelow b1 (by first | exact Below.refl _ _ | exact (Below.refl _ _).alloc (Nat.le_refl _) _ | exact ((Below.refl _ _).alloc (Nat.le_refl _) _).alloc (by simp) _ | exact (((Below.refl _ _).alloc (Nat.le_refl _) _).alloc (by simp) _).alloc (by simp; omega) _)) hb2
  clear p_0 p_1 p_2 p_3 p_l p_m q_0 q_1 q_2 q_3 q_l q_m
  clear Fp
  clear Fq
  have Ga := (PreAt.new (w1) sa ah al an 26).via (by first | exact Below.refl _ _ | exact (Below.refl _ _).alloc (Nat.le_refl _) _ | exact ((Below.refl _ _).alloc (Nat.le_refl _) _).alloc (by simp) _ | exact (((Below.refl _ _).alloc (Nat.le_refl _) _).alloc (by simp) _).alloc (by simp; omega) _) hb2
  try simp only [World.size_alloc] at Ga
  have Fa := Lib.hid Ga
  clear Ga
  clear hb2 b1
  obtain ⟨a_0, a_1, a_2, a_3, a_l⟩ := Fa.out
  have a_m := Nat.lt_succ_of_lt a_l
  try simp only [Nat.succ_eq_add_one, Nat.add_lt_add_iff_right] at a_m
  go_wp2
  go_ret
  exact ⟨rfl, (thenBelow b2 (by first | exact Below.refl _ _ | exact (Below.refl _ _).alloc (Nat.le_refl _) _ | exact ((Below.refl _ _).alloc (Nat.le_refl _) _).alloc (by simp) _ | exact (((Below.refl _ _).alloc (Nat.le_refl _) _).alloc (by simp) _).alloc (by simp; omega) _))⟩

theorem Commons.walk (s0 : Bool) (h0 l0 n0 : Int) (s1 : Bool) (h1 l1 n1 : Int) (h00 : 0 ≤ h0) (h01 : h0 ≤ 18446744073709551615) (l00 : 0 ≤ l0) (l01 : l0 ≤ 18446744073709551615) (n00 : -9223372036854775808 ≤ n0) (n01 : n0 ≤ 9223372036854775807)
    (h10 : 0 ≤ h1) (h11 : h1 ≤ 18446744073709551615) (l10 : 0 ≤ l1) (l11 : l1 ≤ 18446744073709551615) (n10 : -9223372036854775808 ≤ n1) (n11 : n1 ≤ 9223372036854775807) (w : World) :
    Calls Try.prog 8 #[.agg #[.bool s0, .int .u64 h0, .int .u64 l0, .int .i64 n0], .agg #[.bool s1, .int .u64 h1, .int .u64 l1, .int .i64 n1]] w fun e w' => e = .returned (.bool true) ∧ Below w.heap.size w w' := by
  obtain ⟨x, hx, rfl, rfl⟩ := asNum h0 l0 h00 h01 l00 l01
  obtain ⟨y, hy, rfl, rfl⟩ := asNum h1 l1 h10 h11 l10 l11
  by_cases hb : bothE s0 x n0 s1 y n1 = 0
  · obtain ⟨c1, c2, rfl⟩ := both0 hb
    obtain ⟨hxv, n, rfl, hn, hl⟩ := chk0 c1
    obtain ⟨hyv, m, rfl, hm, hk⟩ := chk0 c2
    exact Commons.core s0 s0 _ x y n m _ _ _ 0 (Lib.hid (common_ok s0 x n y m _ hxv hyv hn hm hb rfl)) (Lib.hid (refCommon_ok s0 x n y m _ hxv hyv hn hm hb rfl)) w
  · have he : (bothE s0 x n0 s1 y n1 == 0) = false := by simpa using hb
    exact Commons.core s0 s1 _ x y n0 n1 _ _ _ _ (Lib.hid (common_err s0 s1 x y n0 n1 _ hx hy rfl he)) (Lib.hid (refCommon_err s0 s1 x y n0 n1 _ hx hy rfl he)) w

theorem Commons.own : ownKnob Try.prog.godebug = none := by kernel_rfl
set_option maxRecDepth 100000 in
theorem Commons.lifted (os : Os) (started : os.Started) (H : Type) (enc : TypeId × Value → H) :
    ReturnsInHanded {} Try.checked os 8 .any (Rows.preCommonsSpec.pre6 enc Try.prog Try.f8 Rows.preCommonsRow.domain false) (Rows.preCommonsSpec.post enc Try.prog Try.f8 false true false false) := by
  refine returnsInHanded_of_change (C := Try.checked) Commons.own started (by kernel_rfl) Try.func8
    (ChangeSpec.witness6 (enc := enc) (C := Try.checked) false ⟨#[], #[.agg #[.bool false, .int .u64 0, .int .u64 0, .int .i64 0], .agg #[.bool false, .int .u64 0, .int .u64 0, .int .i64 0]], []⟩ 8 (by kernel_rfl) (by kernel_rfl) (by kernel_rfl) (by kernel_rfl)) ?_
  intro W base args ds gs before hval0 hW hcnd _
  have hval : ∀ (j : Nat) t v, Try.f8.params[j]? = some t → args[j]? = some v → Value.okWide Try.prog W .any base t v := hval0
  have hW' := hW
  obtain ⟨p, q, hA0, hV, rfl, hfz, hnd⟩ := hW
  have hA : DataW.TrodAll enc Try.prog W 0 (fun _ => true) true Try.f8.params.toList args.toList ds p := hA0
  rw [Try.params8] at hA hval
  obtain ⟨v0, vs0, d0, ds0, p0, q0, hargs, rfl, rfl, rd0, r0⟩ := trodAll_cons hA
  obtain ⟨v1, vs1, d1, ds1, p1, q1, rfl, rfl, rfl, rd1, r1⟩ := trodAll_cons r0
  obtain ⟨rfl, rfl, rfl⟩ := trodAll_nil r1
  obtain rfl : args = #[v0, v1] := by cases args; simp_all
  obtain ⟨rfl, rfl⟩ := trodVars_none hV
  obtain ⟨s0, h0, l0, n0, rfl, rfl, rfl, wa0, wb0, wc0⟩ := openPrefix (hval 0 26 v0 rfl rfl) rd0
  obtain ⟨s1, h1, l1, n1, rfl, rfl, rfl, wa1, wb1, wc1⟩ := openPrefix (hval 1 26 v1 rfl rfl) rd1
  clear hA0 hval0
  simp only [List.append_nil] at hW'
  refine (Commons.walk s0 h0 l0 n0 s1 h1 l1 n1 (u64_of_wf wa0).1 (u64_of_wf wa0).2 (u64_of_wf wb0).1 (u64_of_wf wb0).2 (i64_of_wf wc0).1 (i64_of_wf wc0).2 (u64_of_wf wa1).1 (u64_of_wf wa1).2 (u64_of_wf wb1).1 (u64_of_wf wb1).2 (i64_of_wf wc1).1 (i64_of_wf wc1).2 W).mono fun e W' ⟨he, hb⟩ => ?_
  subst he
  exact ⟨_, rfl, postBelow (pa := []) (pv := []) hW' hb (fun _ _ _ => trodAll_cons_mk (shut_bool Try.underlying4 _) trodAll_mk0) (fun sp _ => trodAll_cons_mk (shutPrefix wa0 wb0 wc0) (trodAll_cons_mk (shutPrefix wa1 wb1 wc1) trodAll_mk0)) (fun _ _ => rfl) rfl⟩

theorem Commons.holds : Rows.PreCommonsSaid :=
  OpenClaim.holds_of_wide 8 Try.f8 rfl rfl rfl rfl rfl rfl rfl ⟨rfl, rfl, rfl, rfl, rfl⟩ rfl rfl rfl rfl rfl (by kernel_rfl) Try.func8 (by kernel_rfl)
    (of_decide_eq_true (by kernel_rfl)) (by unfold Func.isWrapper; first | (rw [if_pos (by decide +kernel)]; kernel_rfl) | (rw [if_neg (by decide +kernel)]; exact ⟨rfl, rfl⟩))
    (fun os started H enc _ => Commons.lifted os started H enc)
#print axioms Commons.holds
end Go.Proofs.Ythlkofbdfjpfpaa

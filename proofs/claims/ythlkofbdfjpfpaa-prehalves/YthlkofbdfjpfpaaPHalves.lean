/-
  PROVED: whipcordlaw.PreHalves returns true for all arguments, and they read afterwards as they read before. No condition.
-/
import Derived.Test.YthlkofbdfjpfpaaRows
import Derived.Test.YthlkofbdfjpfpaaRefHalves
import Derived.Test.YthlkofbdfjpfpaaShapesPre
namespace Go.Proofs.Ythlkofbdfjpfpaa
open Go.ChangeShapes Go.WideShapes Go.ChangeAt Go.RowKit Go.Joins
set_option linter.unusedVariables false
set_option linter.unusedSimpArgs false

set_option maxHeartbeats 1000000 in
theorem Halves.core (s0 sa sb : Bool) (x : Nat) (n ah al an bh bl bn r : Int)
    (C1 : Hid (∀ W : World, Calls Try.prog 22 #[.agg #[.bool s0, .int .u64 (aH x), .int .u64 (aL x), .int .i64 n]] W fun e w' => e = .returned (.tuple #[.agg #[.bool sa, .int .u64 ah, .int .u64 al, .int .i64 an], .agg #[.bool sb, .int .u64 bh, .int .u64 bl, .int .i64 bn], .int .i64 r]) ∧ Below W.heap.size W w'))
    (C2 : Hid (∀ W : World, Calls Try.prog 23 #[.agg #[.bool s0, .int .u64 (aH x), .int .u64 (aL x), .int .i64 n]] W fun e w' => e = .returned (.tuple #[.agg #[.bool sa, .int .u64 ah, .int .u64 al, .int .i64 an], .agg #[.bool sb, .int .u64 bh, .int .u64 bl, .int .i64 bn], .int .i64 r]) ∧ Below W.heap.size W w')) (w : World) :
    Calls Try.prog 7 #[.agg #[.bool s0, .int .u64 (aH x), .int .u64 (aL x), .int .i64 n]] w fun e w' => e = .returned (.bool true) ∧ Below w.heap.size w w' := by
  go_enter Try.func7, Try.ntmps7
  go_wp2_with fail
  refine (C1.out _).mono ?_
  rintro e w1 ⟨rfl, hb1⟩
  have b1 := thenBelow (show Below w.heap.size w _ from (by first | exact Below.refl _ _ | exact (Below.refl _ _).alloc (Nat.le_refl _) _ | exact ((Below.refl _ _).alloc (Nat.le_refl _) _).alloc (by simp) _ | exact (((Below.refl _ _).alloc (Nat.le_refl _) _).alloc (by simp) _).alloc (by simp; omega) _)) hb1
  have Gp := (PreAt.new (w) s0 (aH x) (aL x) n 26).via (by first | exact Below.refl _ _ | exact (Below.refl _ _).alloc (Nat.le_refl _) _ | exact ((Below.refl _ _).alloc (Nat.le_refl _) _).alloc (by simp) _ | exact (((Below.refl _ _).alloc (Nat.le_refl _) _).alloc (by simp) _).alloc (by simp; omega) _) hb1
  try simp only [World.size_alloc] at Gp
  have Fp := Lib.hid Gp
  clear Gp
  clear hb1
  obtain ⟨p_0, p_1, p_2, p_3, p_l⟩ := Fp.out
  have p_m := Nat.lt_succ_of_lt p_l
  try simp only [Nat.succ_eq_add_one, Nat.add_lt_add_iff_right] at p_m
  go_wp2_with fail
  refine (C2.out _).mono ?_
  rintro e w2 ⟨rfl, hb2⟩
  have b2 := thenBelow (thenBelow b1 (by first | exact Below.refl _ _ | exact (Below.refl _ _).alloc (Nat.le_refl _) _ | exact ((Below.refl _ _).alloc (Nat.le_refl _) _).alloc (by simp) _ | exact (((Below.refl _ _).alloc (Nat.le_refl _) _).alloc (by simp) _).alloc (by simp; omega) _)) hb2
  clear p_0 p_1 p_2 p_3 p_l p_m
  clear Fp
  have Ga := (PreAt.new (w1) sa ah al an 26).via (by first | exact Below.refl _ _ | exact (Below.refl _ _).alloc (Nat.le_refl _) _ | exact ((Below.refl _ _).alloc (Nat.le_refl _) _).alloc (by simp) _ | exact (((Below.refl _ _).alloc (Nat.le_refl _) _).alloc (by simp) _).alloc (by simp; omega) _) hb2
  try simp only [World.size_alloc] at Ga
  have Fa := Lib.hid Ga
  clear Ga
  have Gb := (PreAt.new ((w1.alloc (.cells #[.bool sa, .int .u64 ah, .int .u64 al, .int .i64 an] 26))) sb bh bl bn 26).via (by first | exact Below.refl _ _ | exact (Below.refl _ _).alloc (Nat.le_refl _) _ | exact ((Below.refl _ _).alloc (Nat.le_refl _) _).alloc (by simp) _ | exact (((Below.refl _ _).alloc (Nat.le_refl _) _).alloc (by simp) _).alloc (by simp; omega) _) hb2
  try simp only [World.size_alloc] at Gb
  have Fb := Lib.hid Gb
  clear Gb
  clear hb2 b1
  obtain ⟨a_0, a_1, a_2, a_3, a_l⟩ := Fa.out
  have a_m := Nat.lt_succ_of_lt a_l
  try simp only [Nat.succ_eq_add_one, Nat.add_lt_add_iff_right] at a_m
  obtain ⟨b_0, b_1, b_2, b_3, b_l⟩ := Fb.out
  have b_m := Nat.lt_succ_of_lt b_l
  try simp only [Nat.succ_eq_add_one, Nat.add_lt_add_iff_right] at b_m
  go_wp2
  go_ret
  exact ⟨rfl, (thenBelow b2 (by first | exact Below.refl _ _ | exact (Below.refl _ _).alloc (Nat.le_refl _) _ | exact ((Below.refl _ _).alloc (Nat.le_refl _) _).alloc (by simp) _ | exact (((Below.refl _ _).alloc (Nat.le_refl _) _).alloc (by simp) _).alloc (by simp; omega) _))⟩

theorem Halves.walk (s0 : Bool) (h0 l0 n0 : Int) (h00 : 0 ≤ h0) (h01 : h0 ≤ 18446744073709551615) (l00 : 0 ≤ l0) (l01 : l0 ≤ 18446744073709551615) (n00 : -9223372036854775808 ≤ n0) (n01 : n0 ≤ 9223372036854775807) (w : World) :
    Calls Try.prog 7 #[.agg #[.bool s0, .int .u64 h0, .int .u64 l0, .int .i64 n0]] w fun e w' => e = .returned (.bool true) ∧ Below w.heap.size w w' := by
  obtain ⟨x, hx, rfl, rfl⟩ := asNum h0 l0 h00 h01 l00 l01
  by_cases hc : chkE s0 x n0 = 0
  · obtain ⟨hxv, n, rfl, hn, hl⟩ := chk0 hc
    by_cases hw : n < wideN s0
    · exact Halves.core s0 _ _ x n _ _ _ _ _ _ _ (Lib.hid (halves_ok' s0 x n _ hx hw hc hl rfl)) (Lib.hid (refHalves_ok s0 x n _ hxv hw hc hl rfl)) w
    · have e : n = wideN s0 := by omega
      exact Halves.core s0 _ _ x n _ _ _ _ _ _ _ (Lib.hid (halves_none s0 x n (by rw [e]) hx hc)) (Lib.hid (refHalves_none s0 x n (by rw [e]) hx hc)) w
  · have he : (chkE s0 x n0 == 0) = false := by simpa using hc
    exact Halves.core s0 _ _ x n0 _ _ _ _ _ _ _ (Lib.hid (halves_err s0 x n0 _ hx rfl he)) (Lib.hid (refHalves_err s0 x n0 _ hx rfl he)) w

theorem Halves.own : ownKnob Try.prog.godebug = none := by kernel_rfl
set_option maxRecDepth 100000 in
theorem Halves.lifted (os : Os) (started : os.Started) (H : Type) (enc : TypeId × Value → H) :
    ReturnsInHanded {} Try.checked os 7 .any (Rows.preHalvesSpec.pre6 enc Try.prog Try.f7 Rows.preHalvesRow.domain false) (Rows.preHalvesSpec.post enc Try.prog Try.f7 false true false false) := by
  refine returnsInHanded_of_change (C := Try.checked) Halves.own started (by kernel_rfl) Try.func7
    (ChangeSpec.witness6 (enc := enc) (C := Try.checked) false ⟨#[], #[.agg #[.bool false, .int .u64 0, .int .u64 0, .int .i64 0]], []⟩ 8 (by kernel_rfl) (by kernel_rfl) (by kernel_rfl) (by kernel_rfl)) ?_
  intro W base args ds gs before hval0 hW hcnd _
  have hval : ∀ (j : Nat) t v, Try.f7.params[j]? = some t → args[j]? = some v → Value.okWide Try.prog W .any base t v := hval0
  have hW' := hW
  obtain ⟨p, q, hA0, hV, rfl, hfz, hnd⟩ := hW
  have hA : DataW.TrodAll enc Try.prog W 0 (fun _ => true) true Try.f7.params.toList args.toList ds p := hA0
  rw [Try.params7] at hA hval
  obtain ⟨v0, vs0, d0, ds0, p0, q0, hargs, rfl, rfl, rd0, r0⟩ := trodAll_cons hA
  obtain ⟨rfl, rfl, rfl⟩ := trodAll_nil r0
  obtain rfl : args = #[v0] := by cases args; simp_all
  obtain ⟨rfl, rfl⟩ := trodVars_none hV
  obtain ⟨s0, h0, l0, n0, rfl, rfl, rfl, wa0, wb0, wc0⟩ := openPrefix (hval 0 26 v0 rfl rfl) rd0
  clear hA0 hval0
  simp only [List.append_nil] at hW'
  refine (Halves.walk s0 h0 l0 n0 (u64_of_wf wa0).1 (u64_of_wf wa0).2 (u64_of_wf wb0).1 (u64_of_wf wb0).2 (i64_of_wf wc0).1 (i64_of_wf wc0).2 W).mono fun e W' ⟨he, hb⟩ => ?_
  subst he
  exact ⟨_, rfl, postBelow (pa := []) (pv := []) hW' hb (fun _ _ _ => trodAll_cons_mk (shut_bool Try.underlying4 _) trodAll_mk0) (fun sp _ => trodAll_cons_mk (shutPrefix wa0 wb0 wc0) trodAll_mk0) (fun _ _ => rfl) rfl⟩

theorem Halves.holds : Rows.PreHalvesSaid :=
  OpenClaim.holds_of_wide 7 Try.f7 rfl rfl rfl rfl rfl rfl rfl ⟨rfl, rfl, rfl, rfl, rfl⟩ rfl rfl rfl rfl rfl (by kernel_rfl) Try.func7 (by kernel_rfl)
    (of_decide_eq_true (by kernel_rfl)) (by unfold Func.isWrapper; first | (rw [if_pos (by decide +kernel)]; kernel_rfl) | (rw [if_neg (by decide +kernel)]; exact ⟨rfl, rfl⟩))
    (fun os started H enc _ => Halves.lifted os started H enc)
#print axioms Halves.holds
end Go.Proofs.Ythlkofbdfjpfpaa

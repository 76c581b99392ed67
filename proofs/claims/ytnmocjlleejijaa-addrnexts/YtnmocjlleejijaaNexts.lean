/-
  PROVED: whipcordlaw.AddrNexts returns true for every address and every number, and both read afterwards as they read before. No condition.
-/
import Derived.Test.YtnmocjlleejijaaRows
import Derived.Test.YtnmocjlleejijaaRefNext
import Derived.Test.YtnmocjlleejijaaShapes
namespace Go.Proofs.Ytnmocjlleejijaa
open Go.ChangeShapes Go.WideShapes Go.ChangeAt Go.RowKit Go.Joins
set_option linter.unusedVariables false
set_option linter.unusedSimpArgs false

set_option maxHeartbeats 1000000 in
theorem Nexts.walk (six : Bool) (hi lo i : Int) (h0 : 0 ≤ hi) (h1 : hi ≤ 18446744073709551615) (l0 : 0 ≤ lo) (l1 : lo ≤ 18446744073709551615) (i0 : -9223372036854775808 ≤ i) (i1 : i ≤ 9223372036854775807) (w : World) :
    Calls Try.prog 5 #[.agg #[.bool six, .int .u64 hi, .int .u64 lo], .int .i64 i] w fun e w' => e = .returned (.bool true) ∧ Below w.heap.size w w' := by
  go_enter Try.func5, Try.ntmps5
  go_wp2_with fail
  refine (next_calls six hi lo i h0 h1 l0 l1 _).mono ?_
  rintro e w1 ⟨rfl, hb1⟩
  obtain ⟨k0, k1, k2, f0, f1, f2⟩ := three hb1 (b := w.heap.size) (by simp)
  have hs1 := hb1.size
  simp at hs1 k0 k1 k2
  have z1 : w.heap.size < w1.heap.size := by omega
  clear f0 f1 f2
  go_wp2_with fail
  refine (refNext_calls six hi lo i h0 h1 l0 l1 _).mono ?_
  rintro e w2 ⟨rfl, hb2⟩
  obtain ⟨q0, q1, q2, f0, f1, f2⟩ := three hb2 (b := w1.heap.size) (by simp)
  have hs2 := hb2.size
  simp at hs2 q0 q1 q2
  have z2 : w1.heap.size < w2.heap.size := by omega
  clear f0 f1 f2
  go_wp2
  go_ret
  exact ⟨rfl, (thenBelow ((thenBelow ((Below.refl _ w).alloc (Nat.le_refl _) _) hb1).alloc (by omega) _) hb2).alloc (by omega) _⟩
theorem Nexts.own : ownKnob Try.prog.godebug = none := by kernel_rfl
set_option maxRecDepth 100000 in
theorem Nexts.lifted (os : Os) (started : os.Started) (H : Type) (enc : TypeId × Value → H) :
    ReturnsInHanded {} Try.checked os 5 .any (Rows.addrNextsSpec.pre6 enc Try.prog Try.f5 Rows.addrNextsRow.domain false) (Rows.addrNextsSpec.post enc Try.prog Try.f5 false true false false) := by
  refine returnsInHanded_of_change (C := Try.checked) Nexts.own started (by kernel_rfl) Try.func5
    (ChangeSpec.witness6 (enc := enc) (C := Try.checked) false ⟨#[], #[.agg #[.bool false, .int .u64 0, .int .u64 0], .int .i64 0], []⟩ 8 (by kernel_rfl) (by kernel_rfl) (by kernel_rfl) (by kernel_rfl)) ?_
  intro W base args ds gs before hval0 hW hcnd _
  have hval : ∀ (j : Nat) t v, Try.f5.params[j]? = some t → args[j]? = some v → Value.okWide Try.prog W .any base t v := hval0
  have hW' := hW
  obtain ⟨p, q, hA0, hV, rfl, hfz, hnd⟩ := hW
  have hA : DataW.TrodAll enc Try.prog W 0 (fun _ => true) true Try.f5.params.toList args.toList ds p := hA0
  rw [Try.params5] at hA hval
  obtain ⟨v0, vs0, d0, ds0, p0, q0, hargs, rfl, rfl, rd0, r0⟩ := trodAll_cons hA
  obtain ⟨v1, vs1, d1, ds1, p1, q1, rfl, rfl, rfl, rd1, r1⟩ := trodAll_cons r0
  obtain ⟨rfl, rfl, rfl⟩ := trodAll_nil r1
  obtain rfl : args = #[v0, v1] := by cases args; simp_all
  obtain ⟨rfl, rfl⟩ := trodVars_none hV
  obtain ⟨s0, h0, l0, rfl, rfl, rfl, wa0, wb0⟩ := openAddr (hval 0 24 v0 rfl rfl) rd0
  obtain ⟨a1, rfl, rfl, rfl, wa1⟩ := open_int Try.underlying3 (hval 1 3 v1 rfl rfl) rd1
  clear hA0 hval0
  simp only [List.append_nil] at hW'
  refine (Nexts.walk s0 h0 l0 a1 (u64_of_wf wa0).1 (u64_of_wf wa0).2 (u64_of_wf wb0).1 (u64_of_wf wb0).2 (i64_of_wf wa1).1 (i64_of_wf wa1).2 W).mono fun e W' ⟨he, hb⟩ => ?_
  subst he
  exact ⟨_, rfl, postBelow (pa := []) (pv := []) hW' hb (fun _ _ _ => trodAll_cons_mk (shut_bool Try.underlying4 _) trodAll_mk0) (fun sp _ => trodAll_cons_mk (shutAddr wa0 wb0) (trodAll_cons_mk (shut_int Try.underlying3 wa1) trodAll_mk0)) (fun _ _ => rfl) rfl⟩

theorem Nexts.holds : Rows.AddrNextsSaid :=
  OpenClaim.holds_of_wide 5 Try.f5 rfl rfl rfl rfl rfl rfl rfl ⟨rfl, rfl, rfl, rfl, rfl⟩ rfl rfl rfl rfl rfl (by kernel_rfl) Try.func5 (by kernel_rfl)
    (of_decide_eq_true (by kernel_rfl)) (by unfold Func.isWrapper; first | (rw [if_pos (by decide +kernel)]; kernel_rfl) | (rw [if_neg (by decide +kernel)]; exact ⟨rfl, rfl⟩))
    (fun os started H enc _ => Nexts.lifted os started H enc)
#print axioms Nexts.holds
end Go.Proofs.Ytnmocjlleejijaa

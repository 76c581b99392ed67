/-
  PROVED: whipcordlaw.PreChecks returns true for every argument, and it reads afterwards as it read before. No condition.
-/
import Derived.Test.YthlkofbdfjpfpaaRows
import Derived.Test.YthlkofbdfjpfpaaRefFault
import Derived.Test.YthlkofbdfjpfpaaShapesPre
namespace Go.Proofs.Ythlkofbdfjpfpaa
open Go.ChangeShapes Go.WideShapes Go.ChangeAt Go.RowKit Go.Joins
set_option linter.unusedVariables false
set_option linter.unusedSimpArgs false

set_option maxHeartbeats 400000 in
theorem Checks.core (six : Bool) (x : Nat) (n : Int) (hx : x < 2 ^ 128) (w : World) :
    Calls Try.prog 3 #[.agg #[.bool six, .int .u64 (aH x), .int .u64 (aL x), .int .i64 n]] w fun e w' => e = .returned (.bool true) ∧ Below w.heap.size w w' := by
  go_enter Try.func3, Try.ntmps3
  go_wp2_with fail
  go_region_held3 (fun w' => (w'.cell? ⟨w.heap.size, 0, none⟩ = some (.bool six) ∧ w'.cell? ⟨w.heap.size, 1, none⟩ = some (.int .u64 (aH x)) ∧ w'.cell? ⟨w.heap.size, 2, none⟩ = some (.int .u64 (aL x)) ∧ w'.cell? ⟨w.heap.size, 3, none⟩ = some (.int .i64 n))) (first | (simp [go_sem, World.cell?_alloc_past]; done) | with_reducible exact ⟨d0, d1, d2, d3⟩ | with_reducible exact ⟨c0, c1, c2, c3⟩)
    (first
      | (go_at_call 14; refine (check_calls six x n hx _).mono ?_; rintro e w1 ⟨rfl, hb1⟩; have P1 := (PreV.new w six (aH x) (aL x) n 26).drew.1.keep hb1; have b1 := thenBelow ((Below.refl _ w).alloc (Nat.le_refl _) _).drew hb1; clear hb1; have ⟨c0, c1, c2, c3, _⟩ := P1)
      | (go_at_call 15; refine (refFault_calls six x n hx _).mono ?_; rintro e w2 ⟨rfl, hb2⟩; have P2 := P1.keep hb2; have b2 := thenBelow b1 hb2; clear hb2; have ⟨d0, d1, d2, d3, _⟩ := P2))
  go_wp2
  go_ret
  exact ⟨rfl, b2⟩
theorem Checks.walk (s0 : Bool) (h0 l0 n0 : Int) (h00 : 0 ≤ h0) (h01 : h0 ≤ 18446744073709551615) (l00 : 0 ≤ l0) (l01 : l0 ≤ 18446744073709551615) (n00 : -9223372036854775808 ≤ n0) (n01 : n0 ≤ 9223372036854775807) (w : World) :
    Calls Try.prog 3 #[.agg #[.bool s0, .int .u64 h0, .int .u64 l0, .int .i64 n0]] w fun e w' => e = .returned (.bool true) ∧ Below w.heap.size w w' := by
  obtain ⟨x, hx, rfl, rfl⟩ := asNum h0 l0 h00 h01 l00 l01
  exact Checks.core s0 x n0 hx w

theorem Checks.own : ownKnob Try.prog.godebug = none := by kernel_rfl
set_option maxRecDepth 100000 in
theorem Checks.lifted (os : Os) (started : os.Started) (H : Type) (enc : TypeId × Value → H) :
    ReturnsInHanded {} Try.checked os 3 .any (Rows.preChecksSpec.pre6 enc Try.prog Try.f3 Rows.preChecksRow.domain false) (Rows.preChecksSpec.post enc Try.prog Try.f3 false true false false) := by
  refine returnsInHanded_of_change (C := Try.checked) Checks.own started (by kernel_rfl) Try.func3
    (ChangeSpec.witness6 (enc := enc) (C := Try.checked) false ⟨#[], #[.agg #[.bool false, .int .u64 0, .int .u64 0, .int .i64 0]], []⟩ 8 (by kernel_rfl) (by kernel_rfl) (by kernel_rfl) (by kernel_rfl)) ?_
  intro W base args ds gs before hval0 hW hcnd _
  have hval : ∀ (j : Nat) t v, Try.f3.params[j]? = some t → args[j]? = some v → Value.okWide Try.prog W .any base t v := hval0
  have hW' := hW
  obtain ⟨p, q, hA0, hV, rfl, hfz, hnd⟩ := hW
  have hA : DataW.TrodAll enc Try.prog W 0 (fun _ => true) true Try.f3.params.toList args.toList ds p := hA0
  rw [Try.params3] at hA hval
  obtain ⟨v0, vs0, d0, ds0, p0, q0, hargs, rfl, rfl, rd0, r0⟩ := trodAll_cons hA
  obtain ⟨rfl, rfl, rfl⟩ := trodAll_nil r0
  obtain rfl : args = #[v0] := by cases args; simp_all
  obtain ⟨rfl, rfl⟩ := trodVars_none hV
  obtain ⟨s0, h0, l0, n0, rfl, rfl, rfl, wa0, wb0, wc0⟩ := openPrefix (hval 0 26 v0 rfl rfl) rd0
  clear hA0 hval0
  simp only [List.append_nil] at hW'
  refine (Checks.walk s0 h0 l0 n0 (u64_of_wf wa0).1 (u64_of_wf wa0).2 (u64_of_wf wb0).1 (u64_of_wf wb0).2 (i64_of_wf wc0).1 (i64_of_wf wc0).2 W).mono fun e W' ⟨he, hb⟩ => ?_
  subst he
  exact ⟨_, rfl, postBelow (pa := []) (pv := []) hW' hb (fun _ _ _ => trodAll_cons_mk (shut_bool Try.underlying4 _) trodAll_mk0) (fun sp _ => trodAll_cons_mk (shutPrefix wa0 wb0 wc0) trodAll_mk0) (fun _ _ => rfl) rfl⟩

theorem Checks.holds : Rows.PreChecksSaid :=
  OpenClaim.holds_of_wide 3 Try.f3 rfl rfl rfl rfl rfl rfl rfl ⟨rfl, rfl, rfl, rfl, rfl⟩ rfl rfl rfl rfl rfl (by kernel_rfl) Try.func3 (by kernel_rfl)
    (of_decide_eq_true (by kernel_rfl)) (by unfold Func.isWrapper; first | (rw [if_pos (by decide +kernel)]; kernel_rfl) | (rw [if_neg (by decide +kernel)]; exact ⟨rfl, rfl⟩))
    (fun os started H enc _ => Checks.lifted os started H enc)
#print axioms Checks.holds
end Go.Proofs.Ythlkofbdfjpfpaa

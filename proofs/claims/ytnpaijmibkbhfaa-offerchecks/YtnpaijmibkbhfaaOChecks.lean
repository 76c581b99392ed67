/-
  OfferChecks: for every offer offers.Check answers what the document's OfferFault says, and the offer reads afterwards as it read before. No conditions.
-/
import Derived.Test.YtnpaijmibkbhfaaRows
import Derived.Test.YtnpaijmibkbhfaaOffA
import Derived.Test.YtnpaijmibkbhfaaShapesOff
namespace Go.Proofs.Ytnpaijmibkbhfaa
open Go.ChangeShapes Go.WideShapes Go.ChangeAt Go.RowKit Go.Joins
set_option linter.unusedVariables false
set_option linter.unusedSimpArgs false
set_option maxHeartbeats 1000000 in
theorem OChecks.core (six : Bool) (x : Nat) (n s p m h : Int) (hx : x < 2 ^ 128) (w : World) :
    Calls Try.prog 3 #[.agg #[.bool six, .int .u64 (aH x), .int .u64 (aL x), .int .i64 n, .int .i64 s, .int .i64 p, .int .i64 m, .int .i64 h]] w fun e w' => e = .returned (.bool true) ∧ Below w.heap.size w w' := by
  have C1 := Lib.hid (fun W => offCheck_calls six x n s p m h hx W)
  have C2 := Lib.hid (fun W => offFault_calls six x n s p m h hx W)
  generalize offE six x n s p m h = c at C1 C2
  have bA := (Below.refl w.heap.size w).alloc (Nat.le_refl _) (.cells #[.bool six, .int .u64 (aH x), .int .u64 (aL x), .int .i64 n, .int .i64 s, .int .i64 p, .int .i64 m, .int .i64 h] 28)
  have HC := cell_new w [.bool six, .int .u64 (aH x), .int .u64 (aL x), .int .i64 n, .int .i64 s, .int .i64 p, .int .i64 m, .int .i64 h] 28
  have hsz : w.heap.size < (w.alloc (.cells #[.bool six, .int .u64 (aH x), .int .u64 (aL x), .int .i64 n, .int .i64 s, .int .i64 p, .int .i64 m, .int .i64 h] 28)).heap.size := by simp
  go_enter Try.func3, Try.ntmps3
  go_wp2_with fail
  obtain ⟨Y, hY⟩ : ∃ Y, w.alloc (.cells #[.bool six, .int .u64 (aH x), .int .u64 (aL x), .int .i64 n, .int .i64 s, .int .i64 p, .int .i64 m, .int .i64 h] 28) = Y := ⟨_, rfl⟩
  have HC2 : ∀ (j : Nat) u, ([.bool six, .int .u64 (aH x), .int .u64 (aL x), .int .i64 n, .int .i64 s, .int .i64 p, .int .i64 m, .int .i64 h] : List Value)[j]? = some u → Y.cell? ⟨w.heap.size, j, none⟩ = some u := by rw [← hY]; exact HC
  rw [hY] at bA hsz ⊢
  have HBB := Lib.hid (show ∀ W, Below Y.heap.size Y W → W.cell? ⟨w.heap.size, 0, none⟩ = some (.bool six) ∧ W.cell? ⟨w.heap.size, 1, none⟩ = some (.int .u64 (aH x)) ∧ W.cell? ⟨w.heap.size, 2, none⟩ = some (.int .u64 (aL x)) ∧ W.cell? ⟨w.heap.size, 3, none⟩ = some (.int .i64 n) ∧ W.cell? ⟨w.heap.size, 4, none⟩ = some (.int .i64 s) ∧ W.cell? ⟨w.heap.size, 5, none⟩ = some (.int .i64 p) ∧ W.cell? ⟨w.heap.size, 6, none⟩ = some (.int .i64 m) ∧ W.cell? ⟨w.heap.size, 7, none⟩ = some (.int .i64 h) from fun W hW =>
    ⟨(hW.cell (p := ⟨w.heap.size, 0, none⟩) hsz).trans (HC2 0 _ rfl), (hW.cell (p := ⟨w.heap.size, 1, none⟩) hsz).trans (HC2 1 _ rfl), (hW.cell (p := ⟨w.heap.size, 2, none⟩) hsz).trans (HC2 2 _ rfl), (hW.cell (p := ⟨w.heap.size, 3, none⟩) hsz).trans (HC2 3 _ rfl), (hW.cell (p := ⟨w.heap.size, 4, none⟩) hsz).trans (HC2 4 _ rfl), (hW.cell (p := ⟨w.heap.size, 5, none⟩) hsz).trans (HC2 5 _ rfl), (hW.cell (p := ⟨w.heap.size, 6, none⟩) hsz).trans (HC2 6 _ rfl), (hW.cell (p := ⟨w.heap.size, 7, none⟩) hsz).trans (HC2 7 _ rfl)⟩)
  clear HC HC2 hY hsz
  go_region_held3 (fun W => W.cell? ⟨w.heap.size, 0, none⟩ = some (.bool six) ∧ W.cell? ⟨w.heap.size, 1, none⟩ = some (.int .u64 (aH x)) ∧ W.cell? ⟨w.heap.size, 2, none⟩ = some (.int .u64 (aL x)) ∧ W.cell? ⟨w.heap.size, 3, none⟩ = some (.int .i64 n) ∧ W.cell? ⟨w.heap.size, 4, none⟩ = some (.int .i64 s) ∧ W.cell? ⟨w.heap.size, 5, none⟩ = some (.int .i64 p) ∧ W.cell? ⟨w.heap.size, 6, none⟩ = some (.int .i64 m) ∧ W.cell? ⟨w.heap.size, 7, none⟩ = some (.int .i64 h))
    (first
      | exact HBB.out _ ((Below.refl _ Y).drew)
      | exact HBB.out _ B2
      | exact HBB.out _ B1
      | fail)
    (first
      | (go_at_call 15; refine (C1.out _).mono ?_; rintro e w1 ⟨rfl, hb1⟩; have B1 : Below Y.heap.size Y w1 := thenBelow ((Below.refl _ Y).drew) hb1)
      | (go_at_call 16; refine (C2.out _).mono ?_; rintro e w2 ⟨rfl, hb2⟩; have B2 : Below Y.heap.size Y w2 := thenBelow B1 hb2)
      | fail)
  all_goals
    go_wp2
    go_ret
    exact ⟨by simp, thenBelow bA B2⟩
theorem OChecks.walk (s0 : Bool) (h0 l0 n0 a0 b0 c0 d0 : Int) (h00 : 0 ≤ h0) (h01 : h0 ≤ 18446744073709551615) (l00 : 0 ≤ l0) (l01 : l0 ≤ 18446744073709551615) (n00 : -9223372036854775808 ≤ n0) (n01 : n0 ≤ 9223372036854775807) (w : World) :
    Calls Try.prog 3 #[.agg #[.bool s0, .int .u64 h0, .int .u64 l0, .int .i64 n0, .int .i64 a0, .int .i64 b0, .int .i64 c0, .int .i64 d0]] w fun e w' => e = .returned (.bool true) ∧ Below w.heap.size w w' := by
  obtain ⟨x, hx, rfl, rfl⟩ := asNum h0 l0 h00 h01 l00 l01
  exact OChecks.core s0 x n0 a0 b0 c0 d0 hx w
theorem OChecks.own : ownKnob Try.prog.godebug = none := by kernel_rfl
set_option maxRecDepth 100000 in
theorem OChecks.lifted (os : Os) (started : os.Started) (H : Type) (enc : TypeId × Value → H) :
    ReturnsInHanded {} Try.checked os 3 .any (Rows.offerChecksSpec.pre6 enc Try.prog Try.f3 Rows.offerChecksRow.domain false) (Rows.offerChecksSpec.post enc Try.prog Try.f3 false true false false) := by
  refine returnsInHanded_of_change (C := Try.checked) OChecks.own started (by kernel_rfl) Try.func3
    (ChangeSpec.witness6 (enc := enc) (C := Try.checked) false ⟨#[], #[.agg #[.bool false, .int .u64 0, .int .u64 0, .int .i64 0, .int .i64 0, .int .i64 0, .int .i64 0, .int .i64 0]], []⟩ 8 (by kernel_rfl) (by kernel_rfl) (by kernel_rfl) (by kernel_rfl)) ?_
  intro W base args ds gs before hval0 hW hcnd _
  have hval : ∀ (j : Nat) t v, Try.f3.params[j]? = some t → args[j]? = some v → Value.okWide Try.prog W .any base t v := hval0
  have hW' := hW
  obtain ⟨p, q, hA0, hV, rfl, hfz, hnd⟩ := hW
  have hA : DataW.TrodAll enc Try.prog W 0 (fun _ => true) true Try.f3.params.toList args.toList ds p := hA0
  rw [Try.params3] at hA hval
  obtain ⟨v0, vs0, d0, ds0, p0, q0, hargs, rfl, rfl, rd0, r0⟩ := trodAll_cons hA
  obtain ⟨rfl, rfl, rfl⟩ := trodAll_nil r0
  obtain rfl : args = #[v0] := by cases args; simp_all
  obtain ⟨rfl, rfl⟩ := trodVars_none hV
  obtain ⟨s0, h0, l0, n0, a0, b0, c0, d0, rfl, rfl, rfl, wa0, wb0, wc0, wd0, we0, wf0, wg0⟩ := openOffer (hval 0 28 v0 rfl rfl) rd0
  clear hA0 hval0
  simp only [List.append_nil] at hW'
  refine (OChecks.walk s0 h0 l0 n0 a0 b0 c0 d0 (u64_of_wf wa0).1 (u64_of_wf wa0).2 (u64_of_wf wb0).1 (u64_of_wf wb0).2 (i64_of_wf wc0).1 (i64_of_wf wc0).2 W).mono fun e W' ⟨he, hb⟩ => ?_
  subst he
  exact ⟨_, rfl, postBelow (pa := []) (pv := []) hW' hb (fun _ _ _ => trodAll_cons_mk (shut_bool Try.underlying4 _) trodAll_mk0) (fun sp _ => trodAll_cons_mk (shutOffer wa0 wb0 wc0 wd0 we0 wf0 wg0) trodAll_mk0) (fun _ _ => rfl) rfl⟩

theorem OChecks.holds : Rows.OfferChecksSaid :=
  OpenClaim.holds_of_wide 3 Try.f3 rfl rfl rfl rfl rfl rfl rfl ⟨rfl, rfl, rfl, rfl, rfl⟩ rfl rfl rfl rfl rfl (by kernel_rfl) Try.func3 (by kernel_rfl)
    (of_decide_eq_true (by kernel_rfl)) (by unfold Func.isWrapper; first | (rw [if_pos (by decide +kernel)]; kernel_rfl) | (rw [if_neg (by decide +kernel)]; exact ⟨rfl, rfl⟩))
    (fun os started H enc _ => OChecks.lifted os started H enc)
#print axioms OChecks.holds
end Go.Proofs.Ytnpaijmibkbhfaa

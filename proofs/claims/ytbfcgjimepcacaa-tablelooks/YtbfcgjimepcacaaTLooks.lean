/-
  TableLooks: for every list of routes and every address table.Look answers what the document's TableLook says. No conditions.
-/
import Derived.Test.YtbfcgjimepcacaaRows
import Derived.Test.YtbfcgjimepcacaaTabP
import Derived.Test.YtbfcgjimepcacaaRowsT
namespace Go.Proofs.Ytbfcgjimepcacaa
open Go.ChangeShapes Go.WideShapes Go.ChangeAt Go.RowKit Go.Joins
set_option linter.unusedSimpArgs false
set_option linter.unusedVariables false
set_option maxHeartbeats 2000000 in
theorem TLooks.walk (v0 : Value) (l0 : List RT) (s1 : Bool) (h1 l1 : Int) (wrd0 : WordsR l0) (len0 : l0.length ≤ 9223372036854775807) (a0 : 0 ≤ h1) (a1 : h1 ≤ 18446744073709551615) (a2 : 0 ≤ l1) (a3 : l1 ≤ 18446744073709551615) (w : World) (row0 : RowR w v0 l0) :
    Calls Try.prog 5 #[v0, .agg #[.bool s1, .int .u64 h1, .int .u64 l1]] w fun e w' => e = .returned (.bool true) ∧ Below w.heap.size w w' := by
  obtain ⟨y, hy, rfl, rfl⟩ := asNum h1 l1 a0 a1 a2 a3
  have C1 := Lib.hid (fun (W : World) (r : RowR W v0 l0) => tableLook_calls l0 v0 s1 y len0 wrd0 hy W r)
  have C2 := Lib.hid (fun (W : World) (r : RowR W v0 l0) => refLook_calls l0 v0 s1 y len0 wrd0 hy W r)
  have R0 := Lib.hid row0
  obtain ⟨p, c, rfl⟩ := row0.form
  clear row0
  go_enter Try.func5, Try.ntmps5
  go_wp2_with fail
  have bA := (Below.refl w.heap.size w).alloc (Nat.le_refl _) (.cells #[.bool s1, .int .u64 (aH y), .int .u64 (aL y)] 36)
  have A0 := AddrAt.new w s1 (aH y) (aL y) 36
  have R1 := Lib.hid (R0.out.keep bA)
  refine (C1.out _ R1.out).mono ?_
  rintro e w1 ⟨rfl, hb1⟩
  have A1 := (A0.keep hb1).alloc (.cells #[.int .i64 0, .int .i64 (lookA l0 s1 y).1, .int .i64 (lookA l0 s1 y).2] 38)
  have V1 := AnsV.new w1 0 (lookA l0 s1 y).1 (lookA l0 s1 y).2 38
  have bB := (thenBelow bA hb1).alloc (thenBelow bA hb1).size (.cells #[.int .i64 0, .int .i64 (lookA l0 s1 y).1, .int .i64 (lookA l0 s1 y).2] 38)
  have R2 := Lib.hid (R0.out.keep bB)
  obtain ⟨a0', a1', a2', al⟩ := A1
  clear A0 R1 bA hb1 C1
  go_wp2_with fail
  refine (C2.out _ R2.out).mono ?_
  rintro e w2 ⟨rfl, hb2⟩
  have V2 := V1.keep hb2 V1.2.2.2.2
  have bC := thenBelow bB hb2
  obtain ⟨z0, z1, z2, _, zl⟩ := V2
  clear a0' a1' a2' al R2 bB hb2 C2 V1
  have hz : ¬ w1.heap.size = w2.heap.size := by omega
  go_wp2
  go_ret
  exact ⟨by simp, bC.alloc bC.size _⟩
theorem TLooks.own : ownKnob Try.prog.godebug = none := by kernel_rfl
set_option maxRecDepth 100000 in
theorem TLooks.lifted (os : Os) (started : os.Started) (H : Type) (enc : TypeId × Value → H) :
    ReturnsInHanded {} Try.checked os 5 .any (Rows.tableLooksSpec.pre6 enc Try.prog Try.f5 Rows.tableLooksRow.domain false) (Rows.tableLooksSpec.post enc Try.prog Try.f5 false true false false) := by
  refine returnsInHanded_of_change (C := Try.checked) TLooks.own started (by kernel_rfl) Try.func5
    (ChangeSpec.witness6 (enc := enc) (C := Try.checked) false ⟨#[], #[.slice none 0 0, .agg #[.bool false, .int .u64 0, .int .u64 0]], []⟩ 8 (by kernel_rfl) (by kernel_rfl) (by kernel_rfl) (by kernel_rfl)) ?_
  intro W base args ds gs before hval0 hW hcnd _
  have hval : ∀ (j : Nat) t v, Try.f5.params[j]? = some t → args[j]? = some v → Value.okWide Try.prog W .any base t v := hval0
  have hW' := hW
  obtain ⟨p, q, hA0, hV, rfl, hfz, hnd⟩ := hW
  have hA : DataW.TrodAll enc Try.prog W 0 (fun _ => true) true Try.f5.params.toList args.toList ds p := hA0
  rw [Try.params5] at hA hval
  obtain ⟨v0, vs0, d0, ds0, p0, q0, hargs, rfl, rfl, rd0, r0⟩ := trodAll_cons hA
  obtain ⟨v1, vs1, d1, ds1, p1, q1, rfl, rfl, rfl, rd1, r1⟩ := trodAll_cons r0
  obtain ⟨rfl, rfl, rfl⟩ := trodAll_nil r1
  obtain rfl : args = #[v0, v1] := by cases args; simp_all
  obtain ⟨rfl, rfl⟩ := trodVars_none hV
  obtain ⟨l0, row0, wrd0, len0⟩ := openRoutes (hval 0 22 v0 rfl rfl) rd0
  obtain ⟨s1, h1, l1, rfl, rfl, rfl, wa1, wb1⟩ := openAddr (hval 1 36 v1 rfl rfl) rd1
  clear hA0 hval0
  refine (TLooks.walk v0 l0 s1 h1 l1 wrd0 len0 (u64_of_wf wa1).1 (u64_of_wf wa1).2 (u64_of_wf wb1).1 (u64_of_wf wb1).2 W row0).mono fun e W' ⟨he, hb⟩ => ?_
  subst he
  exact ⟨_, rfl, postBelowR (pv := []) hW' hb (fun _ _ _ => trodAll_cons_mk (shut_bool Try.underlying4 _) trodAll_mk0) (trodAll_cons_mk (Below.trod laidOutR (by kernel_rfl) (of_decide_eq_true (by kernel_rfl)) rd0 hb (fun x hx => hW'.lt x (by simp [hx]))) (trodAll_cons_mk (Below.trod laidOutR (by kernel_rfl) (of_decide_eq_true (by kernel_rfl)) rd1 hb (fun x hx => by cases hx)) trodAll_mk0)) (fun _ _ => rfl) rfl⟩

theorem TLooks.holds : Rows.TableLooksSaid :=
  OpenClaim.holds_of_wide 5 Try.f5 rfl rfl rfl rfl rfl rfl rfl ⟨rfl, rfl, rfl, rfl, rfl⟩ rfl rfl rfl rfl rfl (by kernel_rfl) Try.func5 (by kernel_rfl)
    (of_decide_eq_true (by kernel_rfl)) (by unfold Func.isWrapper; first | (rw [if_pos (by decide +kernel)]; kernel_rfl) | (rw [if_neg (by decide +kernel)]; exact ⟨rfl, rfl⟩))
    (fun os started H enc _ => TLooks.lifted os started H enc)
#print axioms TLooks.holds
end Go.Proofs.Ytbfcgjimepcacaa

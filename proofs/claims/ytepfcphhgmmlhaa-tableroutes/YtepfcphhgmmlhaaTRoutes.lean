/-
  TableRoutes: for every list of acts table.Routes answers what the document's TablePlayed says. No conditions.
-/
import Derived.Test.YtepfcphhgmmlhaaRows
import Derived.Test.YtepfcphhgmmlhaaSrtK
import Derived.Test.YtepfcphhgmmlhaaRefPlay
import Derived.Test.YtepfcphhgmmlhaaSameL
import Derived.Test.YtepfcphhgmmlhaaRowsA
namespace Go.Proofs.Ytepfcphhgmmlhaa
open Go.ChangeShapes Go.WideShapes Go.ChangeAt Go.RowKit Go.Joins
set_option linter.unusedSimpArgs false
set_option linter.unusedVariables false
set_option maxHeartbeats 2000000 in
theorem TRoutes.walk (v0 : Value) (l0 : List ActT) (wrd0 : WordsA l0) (len0 : l0.length ≤ 9223372036854775807) (w : World) (row0 : RowA w v0 l0) :
    Calls Try.prog 4 #[v0] w fun e w' => e = .returned (.bool true) ∧ Below w.heap.size w w' := by
  have C1 := Lib.hid (fun (W : World) (r : RowA W v0 l0) => routes_calls l0 v0 len0 wrd0 W r)
  have C2 := Lib.hid (fun (W : World) (r : RowA W v0 l0) => played_calls (Lib.hid sortR_calls) l0 v0 len0 wrd0 W r)
  have hx : (playL l0).length ≤ 1000 := by
    unfold playL
    split
    · simp
    · have := (InvR.run l0).size; omega
  have SM := Lib.hid (fun (u1 u2 : Value) (W : World) (r1 : RowR W u1 (playL l0)) (r2 : RowR W u2 (playL l0)) => sameRoutesL_calls u1 u2 _ hx W r1 r2)
  have R0 := Lib.hid row0
  obtain ⟨p, c, rfl⟩ := row0.form
  clear row0 hx
  go_enter Try.func4, Try.ntmps4
  go_wp2_with fail
  refine (C1.out _ R0.out).mono ?_
  rintro e w1 ⟨u, rfl, ho, hb1⟩
  have R1 := Lib.hid (R0.out.keep hb1)
  obtain ⟨up, uc, rfl⟩ := ho.row.form
  have HO := Lib.hid ho
  clear R0 C1 ho
  go_wp2_with fail
  refine (C2.out _ R1.out).mono ?_
  rintro e w2 ⟨u1, u2, rfl, ho1, ho2, hb2⟩
  have b2 := thenBelow hb1 hb2
  obtain ⟨vp, vc, rfl⟩ := ho1.row.form
  obtain ⟨wp, wc, rfl⟩ := ho2.row.form
  have SS := SM.out _ _ w2 (OwnR.row (ownsKeep HO.out hb2)) ho2.row
  clear HO R1 C2 ho1 ho2 hb2 hb1 SM
  generalize playE l0 = E
  go_wp2_with fail
  refine SS.mono ?_
  rintro e w3 ⟨rfl, hb3⟩
  have b3 := thenBelow b2 hb3
  clear SS
  go_wp2
  go_ret
  exact ⟨by simp, b3⟩
theorem TRoutes.own : ownKnob Try.prog.godebug = none := by kernel_rfl
set_option maxRecDepth 100000 in
theorem TRoutes.lifted (os : Os) (started : os.Started) (H : Type) (enc : TypeId × Value → H) :
    ReturnsInHanded {} Try.checked os 4 .any (Rows.tableRoutesSpec.pre6 enc Try.prog Try.f4 Rows.tableRoutesRow.domain false) (Rows.tableRoutesSpec.post enc Try.prog Try.f4 false true false false) := by
  refine returnsInHanded_of_change (C := Try.checked) TRoutes.own started (by kernel_rfl) Try.func4
    (ChangeSpec.witness6 (enc := enc) (C := Try.checked) false ⟨#[], #[.slice none 0 0], []⟩ 8 (by kernel_rfl) (by kernel_rfl) (by kernel_rfl) (by kernel_rfl)) ?_
  intro W base args ds gs before hval0 hW hcnd _
  have hval : ∀ (j : Nat) t v, Try.f4.params[j]? = some t → args[j]? = some v → Value.okWide Try.prog W .any base t v := hval0
  have hW' := hW
  obtain ⟨p, q, hA0, hV, rfl, hfz, hnd⟩ := hW
  have hA : DataW.TrodAll enc Try.prog W 0 (fun _ => true) true Try.f4.params.toList args.toList ds p := hA0
  rw [Try.params4] at hA hval
  obtain ⟨v0, vs0, d0, ds0, p0, q0, hargs, rfl, rfl, rd0, r0⟩ := trodAll_cons hA
  obtain ⟨rfl, rfl, rfl⟩ := trodAll_nil r0
  obtain rfl : args = #[v0] := by cases args; simp_all
  obtain ⟨rfl, rfl⟩ := trodVars_none hV
  obtain ⟨l0, row0, wrd0, len0⟩ := openActs (hval 0 22 v0 rfl rfl) rd0
  clear hA0 hval0
  refine (TRoutes.walk v0 l0 wrd0 len0 W row0).mono fun e W' ⟨he, hb⟩ => ?_
  subst he
  exact ⟨_, rfl, postBelowR (pv := []) hW' hb (fun _ _ _ => trodAll_cons_mk (shut_bool Try.underlying4 _) trodAll_mk0) (trodAll_cons_mk (Below.trod laidOutR (by kernel_rfl) (of_decide_eq_true (by kernel_rfl)) rd0 hb (fun x hx => hW'.lt x (by simp [hx]))) trodAll_mk0) (fun _ _ => rfl) rfl⟩

theorem TRoutes.holds : Rows.TableRoutesSaid :=
  OpenClaim.holds_of_wide 4 Try.f4 rfl rfl rfl rfl rfl rfl rfl ⟨rfl, rfl, rfl, rfl, rfl⟩ rfl rfl rfl rfl rfl (by kernel_rfl) Try.func4 (by kernel_rfl)
    (of_decide_eq_true (by kernel_rfl)) (by unfold Func.isWrapper; first | (rw [if_pos (by decide +kernel)]; kernel_rfl) | (rw [if_neg (by decide +kernel)]; exact ⟨rfl, rfl⟩))
    (fun os started H enc _ => TRoutes.lifted os started H enc)
#print axioms TRoutes.holds
end Go.Proofs.Ytepfcphhgmmlhaa

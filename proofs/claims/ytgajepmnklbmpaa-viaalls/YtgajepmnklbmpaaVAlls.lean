/-
  ViaAlls: for every list of vias via.All answers what the document's ViaAll says. No conditions.
-/
import Derived.Test.YtgajepmnklbmpaaRows
import Derived.Test.YtgajepmnklbmpaaViaF
import Derived.Test.YtgajepmnklbmpaaViaH
import Derived.Test.YtgajepmnklbmpaaRowsV
namespace Go.Proofs.Ytgajepmnklbmpaa
open Go.ChangeShapes Go.WideShapes Go.ChangeAt Go.RowKit Go.Joins
set_option linter.unusedSimpArgs false
set_option linter.unusedVariables false
set_option maxHeartbeats 4000000 in
set_option maxRecDepth 100000 in
theorem VAlls.walk (v0 : Value) (l0 : List VT) (wrd0 : WordsV l0) (len0 : l0.length ≤ 9223372036854775807) (w : World) (row0 : RowV w v0 l0) :
    Calls Try.prog 3 #[v0] w fun e w' => e = .returned (.bool true) ∧ Below w.heap.size w w' := by
  have C1 := Lib.hid (viaAll_calls l0 v0 len0 w row0)
  have C2 := Lib.hid (fun (W : World) (r : RowV W v0 l0) => refAll_calls l0 v0 len0 W r)
  have HQ := Lib.hid (show (if viaE l0 = 0 then allV l0 else []) = (if viaE l0 = 0 then refV l0 999 else []) by
    by_cases h : viaE l0 = 0
    · rw [if_pos h, if_pos h, all_ref h]
    · rw [if_neg h, if_neg h])
  have HL := Lib.hid (show (if viaE l0 = 0 then refV l0 999 else []).length ≤ 999 by
    split
    · exact refV_len l0 999
    · simp)
  rw [HQ.out] at C1
  generalize (if viaE l0 = 0 then refV l0 999 else []) = Z at C1 C2 HL
  have R0 := Lib.hid row0
  obtain ⟨p, n0, c, hv⟩ : ∃ p n c, v0 = .slice p n c := by obtain ⟨p, c, e⟩ := row0.form; exact ⟨_, _, _, e⟩
  subst hv
  generalize viaE l0 = E at C1 C2
  clear row0 HQ
  go_enter Try.func3, Try.ntmps3
  go_wp2_with fail
  refine C1.out.mono ?_
  rintro e w1 ⟨u1, rfl, o1, hb1⟩
  have R1 := Lib.hid (R0.out.keep hb1)
  have Z1 := Lib.hid (OwnV.row o1)
  obtain ⟨m, hm⟩ : ∃ m, Z.length = m := ⟨_, rfl⟩
  have HM := Lib.hid hm
  have hm9 : m ≤ 999 := by have := HL.out; rw [hm] at this; exact this
  obtain ⟨p1, c1, hv1⟩ := Z1.out.form
  rw [hm] at hv1
  subst hv1
  clear C1 R0 o1 hm
  go_wp2_with fail
  refine (C2.out _ R1.out).mono ?_
  rintro e w2 ⟨u2, rfl, o2, hb2⟩
  have Z1b := Lib.hid (Z1.out.keep hb2)
  have Z2 := Lib.hid (OwnV.row o2)
  obtain ⟨p2, c2, hv2⟩ := Z2.out.form
  rw [HM.out] at hv2
  subst hv2
  have b2 := thenBelow hb1 hb2
  have A1 := Lib.hid (show ∀ j (hj : j < Z.length), ∃ g o, p1 = some ⟨g, o, none⟩ ∧ g < w2.heap.size ∧ RecAt w2 g (o + j * 3) (vcs Z[j]) from by
    obtain ⟨p', c', e, _, h⟩ := Z1b.out.at
    injection e with e1 e2 e3
    subst e1
    exact h)
  have A2 := Lib.hid (show ∀ j (hj : j < Z.length), ∃ g o, p2 = some ⟨g, o, none⟩ ∧ g < w2.heap.size ∧ RecAt w2 g (o + j * 3) (vcs Z[j]) from by
    obtain ⟨p', c', e, _, h⟩ := Z2.out.at
    injection e with e1 e2 e3
    subst e1
    exact h)
  clear C2 R1 Z1 o2 Z1b Z2 hb1 hb2
  go_wp2_with fail
  go_loopw [7] (fun i wr => ∃ (j : Nat), i = .int .i64 j ∧ j ≤ m ∧ Below w2.heap.size w2 wr) (fun i _ => m - (intOf i).toNat)
  case atStart => exact ⟨0, rfl, by omega, Below.refl _ _⟩
  case round =>
    obtain ⟨j, rfl, hj, hnx⟩ := hrel
    have b3 := thenBelow b2 hnx
    by_cases hlt : j < m
    · have hjl : j < Z.length := by rw [HM.out]; exact hlt
      obtain ⟨g1, o1, rfl, hg1, hr1⟩ := A1.out j hjl
      obtain ⟨g2, o2, rfl, hg2, hr2⟩ := A2.out j hjl
      obtain ⟨x0, x1, x2⟩ := viaCells (hr1.keep hnx hg1)
      obtain ⟨y0, y1, y2⟩ := viaCells (hr2.keep hnx hg2)
      have hltj : (j : Int) < (m : Int) := by omega
      generalize Z[j] = r at x0 x1 x2 y0 y1 y2
      clear hr1 hr2
      go_wp2_with fail
      go_quiet ((fail))
      go_wp2_with fail
      exact ⟨⟨j + 1, by go_num, by omega, below_drewV hnx _⟩, by simp [intOf]; omega⟩
    · obtain rfl : m = j := by omega
      clear A1 A2
      go_wp2_with fail
      go_ret
      exact ⟨rfl, b3⟩
theorem VAlls.own : ownKnob Try.prog.godebug = none := by kernel_rfl
set_option maxRecDepth 100000 in
theorem VAlls.lifted (os : Os) (started : os.Started) (H : Type) (enc : TypeId × Value → H) :
    ReturnsInHanded {} Try.checked os 3 .any (Rows.viaAllsSpec.pre6 enc Try.prog Try.f3 Rows.viaAllsRow.domain false) (Rows.viaAllsSpec.post enc Try.prog Try.f3 false true false false) := by
  refine returnsInHanded_of_change (C := Try.checked) VAlls.own started (by kernel_rfl) Try.func3
    (ChangeSpec.witness6 (enc := enc) (C := Try.checked) false ⟨#[], #[.slice none 0 0], []⟩ 8 (by kernel_rfl) (by kernel_rfl) (by kernel_rfl) (by kernel_rfl)) ?_
  intro W base args ds gs before hval0 hW hcnd _
  have hval : ∀ (j : Nat) t v, Try.f3.params[j]? = some t → args[j]? = some v → Value.okWide Try.prog W .any base t v := hval0
  have hW' := hW
  obtain ⟨p, q, hA0, hV, rfl, hfz, hnd⟩ := hW
  have hA : DataW.TrodAll enc Try.prog W 0 (fun _ => true) true Try.f3.params.toList args.toList ds p := hA0
  rw [Try.params3] at hA hval
  obtain ⟨v0, vs0, d0, ds0, p0, q0, hargs, rfl, rfl, rd0, r0⟩ := trodAll_cons hA
  obtain ⟨rfl, rfl, rfl⟩ := trodAll_nil r0
  obtain rfl : args = #[v0] := by cases args; simp_all
  obtain ⟨rfl, rfl⟩ := trodVars_none hV
  obtain ⟨l0, row0, wrd0, len0⟩ := openVias (hval 0 22 v0 rfl rfl) rd0
  clear hA0 hval0
  refine (VAlls.walk v0 l0 wrd0 len0 W row0).mono fun e W' ⟨he, hb⟩ => ?_
  subst he
  exact ⟨_, rfl, postBelowR (pv := []) hW' hb (fun _ _ _ => trodAll_cons_mk (shut_bool Try.underlying4 _) trodAll_mk0) (trodAll_cons_mk (Below.trod laidOutR (by kernel_rfl) (of_decide_eq_true (by kernel_rfl)) rd0 hb (fun x hx => hW'.lt x (by simp [hx]))) trodAll_mk0) (fun _ _ => rfl) rfl⟩

theorem VAlls.holds : Rows.ViaAllsSaid :=
  OpenClaim.holds_of_wide 3 Try.f3 rfl rfl rfl rfl rfl rfl rfl ⟨rfl, rfl, rfl, rfl, rfl⟩ rfl rfl rfl rfl rfl (by kernel_rfl) Try.func3 (by kernel_rfl)
    (of_decide_eq_true (by kernel_rfl)) (by unfold Func.isWrapper; first | (rw [if_pos (by decide +kernel)]; kernel_rfl) | (rw [if_neg (by decide +kernel)]; exact ⟨rfl, rfl⟩))
    (fun os started H enc _ => VAlls.lifted os started H enc)
#print axioms VAlls.holds
end Go.Proofs.Ytgajepmnklbmpaa

/-
  routesOf of the laws of the whole: what the keep laws' is.
-/
import Derived.Test.YtifhakoeinalaaaDoorTabX
namespace Go.Proofs.YtifhakoeinalaaaDoor
open Go.RowKit Go.Shelf
set_option linter.unusedVariables false
set_option linter.unusedSimpArgs false
set_option maxHeartbeats 4000000 in
set_option maxRecDepth 100000 in
theorem routesTop_calls (l : List ActT) (v : Value) (hlen : l.length ≤ 100) (hw : WordsA l) (w : World) (row : RowA w v l) :
    Calls Tryd.prog 5 #[v] w fun e w' => ∃ u, e = .returned (.tuple #[u, .bool true]) ∧ OwnR w' w.heap.size u (runL l) ∧ Below w.heap.size w w' := by
  obtain ⟨i0, hii, hz0, hz1, hz2⟩ := info_parts info_act
  have RC := Lib.hid (fun (W : World) (u : Value) (r : RowA W u l) => routes_calls l u (by omega) hw W r)
  have RO := Lib.hid (fun (W : World) (u : Value) (r : RowA W u [oneA]) => routes_calls [oneA] u (by decide) (fun a ha => by simp at ha; subst ha; exact ⟨by decide, by decide⟩) W r)
  have E1 := Lib.hid (show playE l = 0 ∧ playL l = runL l by simp [playE, playL]; omega)
  have E2 := Lib.hid (show playE [oneA] = 0 ∧ playL [oneA] = [((false, 0, 0), 7)] by rw [← one_run]; exact ⟨rfl, rfl⟩)
  have RW := Lib.hid row
  have hby : l.length * 72 ≤ 140737488355328 := by omega
  have h63 : l.length ≤ maxLen := by unfold maxLen; omega
  obtain ⟨p, c, rfl⟩ := row.form
  clear row
  go_enter Tryd.func5, Tryd.ntmps5
  go_wp2_with (at_builtin; refine wpList_append_copy rfl _ _ _ rfl 55 i0 _ 72 Tryd.underlying26 hii hz0 hz1 hz2 rfl (by decide) acs_len acs_one rfl _ _ rfl RW.out hby h63 ?_; intro v1 w1 ho1 hb1)
  refine (RC.out _ _ (OwnA.row ho1)).mono ?_
  rw [E1.out.1, E1.out.2]
  rintro e w2 ⟨u, rfl, ho2, hb2⟩
  have b2 := thenBelow hb1 hb2
  have O2 := Lib.hid (ownsLow ho2 hb1.size)
  clear ho1 hb1 ho2 hb2 RC RW
  go_wp2_with fail
  have bA := (Below.refl w2.heap.size w2).alloc (Nat.le_refl _) (objA oneA)
  have R1 : RowA (w2.alloc (objA oneA)) (.slice (some ⟨w2.heap.size, 0, none⟩) 1 1) [oneA] := .inr ⟨w2.heap.size, 0, 1, rfl, by simp, by simp, fun i hi j u hj => by
    have hi0 : i = 0 := by simp at hi; omega
    subst hi0
    exact actNew w2 oneA j u (by simpa using hj)⟩
  refine (RO.out _ _ R1).mono ?_
  rw [E2.out.1, E2.out.2]
  rintro e w3 ⟨u2, rfl, ho3, hb3⟩
  have b3 := thenBelow (thenBelow b2 bA) hb3
  have O3 := Lib.hid (ownsKeep (ownsKeep O2.out bA) hb3)
  obtain ⟨q, d, hq, hcap, at_⟩ := ho3.row.at
  subst hq
  obtain ⟨g, o, rfl, _, hrec⟩ := at_ 0 (by simp)
  obtain ⟨x0, x1, x2, x3, x4⟩ := routeCells hrec
  simp only [List.getElem_cons_zero, Nat.zero_mul, Nat.add_zero] at x0 x1 x2 x3 x4
  clear O2 ho3 hb3 bA R1 RO hrec at_ b2 x0 x1 x2 x3
  simp only [List.length_cons, List.length_nil, Nat.zero_add]
  go_wp2_with fail
  go_quiet ((fail))
  go_wp2
  go_ret2
  exact ⟨_, by simp, O3.out, below_drewN b3 _⟩
end Go.Proofs.YtifhakoeinalaaaDoor

/-
  The document's TablePlayed.
-/
import Derived.Test.YtnpaijmibkbhfaaG13
import Derived.Test.YtnpaijmibkbhfaaAppRow
import Derived.Test.YtnpaijmibkbhfaaG4
import Derived.Test.YtnpaijmibkbhfaaG6
import Derived.Deep.CutRange
import Derived.Deep.DeepCutAuto
import Derived.Deep.CutBlock
namespace Go.Proofs.Ytnpaijmibkbhfaa
open Go.RowKit
set_option linter.unusedVariables false
set_option linter.unusedSimpArgs false
theorem AnsV.code {w : World} {b : Nat} {c h l : Int} (a : AnsV w b c h l) (u : Int) : AnsV (w.setCell ⟨b, 0, none⟩ (.int .i64 u)) b u h l := by
  obtain ⟨a0, a1, a2, af, az⟩ := a
  exact ⟨by simp [go_sem, a0, a1, a2], by simp [go_sem, a0, a1, a2], by simp [go_sem, a0, a1, a2], fun o => by simp only [World.frozen?_setCell]; exact af o, by simpa using az⟩
theorem AnsV.hop {w : World} {b : Nat} {c h l : Int} (a : AnsV w b c h l) (u : Int) : AnsV (w.setCell ⟨b, 1, none⟩ (.int .i64 u)) b c u l := by
  obtain ⟨a0, a1, a2, af, az⟩ := a
  exact ⟨by simp [go_sem, a0, a1, a2], by simp [go_sem, a0, a1, a2], by simp [go_sem, a0, a1, a2], fun o => by simp only [World.frozen?_setCell]; exact af o, by simpa using az⟩
theorem rowOf_hop (h : Int) : ∀ (L : List RT) (i : Nat) (hi : i < L.length), rowOf rcs (L.set i (L[i].1, h)) = (rowOf rcs L).set (i * 5 + 4) (.int .i64 h)
  | q :: t, 0, _ => by simp [rowOf, rcs]
  | q :: t, i + 1, hi => by
    have hi' : i < t.length := by simpa using hi
    have ih := rowOf_hop h t i hi'
    have e : rowOf rcs (q :: t) = rcs q ++ rowOf rcs t := rfl
    have hl : (rcs q).length = 5 := rfl
    rw [List.set_cons_succ, List.getElem_cons_succ, show rowOf rcs (q :: t.set i (t[i].1, h)) = rcs q ++ rowOf rcs (t.set i (t[i].1, h)) from rfl, ih, e]
    rw [List.set_append_right _ _ (by rw [hl]; omega), hl, show (i + 1) * 5 + 4 - 5 = i * 5 + 4 by omega]
end Go.Proofs.Ytnpaijmibkbhfaa

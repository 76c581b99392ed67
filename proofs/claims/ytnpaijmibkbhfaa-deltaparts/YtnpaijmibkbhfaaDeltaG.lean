/-
  delta.play: acts on a sorted table, up to the first one with an error.
-/
import Derived.Test.YtnpaijmibkbhfaaDeltaA
import Derived.Test.YtnpaijmibkbhfaaConcatR
import Derived.Test.YtnpaijmibkbhfaaTToldM
import Derived.Test.YtnpaijmibkbhfaaDNoneM
import Derived.Deep.QuietTactic
namespace Go.Proofs.Ytnpaijmibkbhfaa
open Go.RowKit
set_option linter.unusedVariables false
set_option linter.unusedSimpArgs false
/-- The error of an act in a list of acts that may be puts and cuts alone. -/
def actE (L : List RT) (a : ActT) : Int := if a.k = 1 ∨ a.k = 2 then (doA L a).1 else 3
def appE : List RT → List ActT → Int
  | _, [] => 0
  | L, a :: t => if actE L a = 0 then appE (doL L a) t else actE L a
def appL (L : List RT) (l : List ActT) : List RT := l.foldl doL L
theorem runX_app : ∀ (a b : List ActT) (L : List RT), runX L (a ++ b) = runX L a ++ runX (appL L a) b
  | [], b, L => rfl
  | x :: a, b, L => by
    show _ :: runX (doL L x) (a ++ b) = _ :: (runX (doL L x) a ++ _)
    rw [runX_app a b (doL L x)]
    rfl
theorem runL_app (a b : List ActT) : runL (a ++ b) = appL (runL a) b := List.foldl_append ..
theorem runX_atD : ∀ (l : List ActT) (L : List RT) (k : Nat) (hk : k < l.length), (runX L l)[k]? = some (doA (appL L (l.take k)) l[k])
  | a :: t, L, 0, _ => rfl
  | a :: t, L, k + 1, hk => by
    show (doA L a :: runX (doL L a) t)[k + 1]? = _
    rw [List.getElem?_cons_succ, runX_atD t (doL L a) k (by simpa using hk)]
    rfl
theorem appL_take {L : List RT} {l : List ActT} {k : Nat} (hk : k < l.length) : appL L (l.take (k + 1)) = doL (appL L (l.take k)) l[k] := by
  unfold appL; rw [take_snoc hk, List.foldl_append]; rfl
theorem appE_drop {L : List RT} {l : List ActT} {k : Nat} (hk : k < l.length) (h : actE (appL L (l.take k)) l[k] = 0) : appE (appL L (l.take k)) (l.drop k) = appE (appL L (l.take (k + 1))) (l.drop (k + 1)) := by
  rw [List.drop_eq_getElem_cons hk, appE, if_pos h, appL_take hk]
theorem appE_stop {L : List RT} {l : List ActT} {k : Nat} (hk : k < l.length) (h : actE (appL L (l.take k)) l[k] ≠ 0) : appE (appL L (l.take k)) (l.drop k) = actE (appL L (l.take k)) l[k] := by
  rw [List.drop_eq_getElem_cons hk, appE, if_neg h]
/-- A play of the puts of a sorted table and some acts. -/
theorem play_puts {S : List RT} (I : InvR S) {P : List ActT} (hP : P.length ≤ 40) : playE (putsL S ++ P) = 0 ∧ playL (putsL S ++ P) = appL S P ∧ playX (putsL S ++ P) = runX [] (putsL S) ++ runX S P := by
  have h1 : runL (putsL S) = S := by rw [(puts_run (tab_self I)).1, srt_self I]
  have hl : ¬ 100 < (putsL S ++ P).length := by rw [List.length_append, putsL_len]; have := I.size; omega
  refine ⟨by rw [playE, if_neg hl], by rw [playL, if_neg hl, runL_app, h1], by rw [playX, if_neg hl, runX_app]; rw [show appL [] (putsL S) = runL (putsL S) from rfl, h1]⟩
end Go.Proofs.Ytnpaijmibkbhfaa

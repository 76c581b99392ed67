/-
  Laid together: FwG, ConcatS, DeltaG.
-/
import Derived.Test.YtmjlmfbceccjdaaG21
import Derived.Test.YtmjlmfbceccjdaaG9
import Derived.Test.YtmjlmfbceccjdaaTabH
import Derived.Test.YtmjlmfbceccjdaaG5
import Derived.Test.YtmjlmfbceccjdaaG16
import Derived.Test.YtmjlmfbceccjdaaG15
import Derived.Test.YtmjlmfbceccjdaaG14
import Derived.Test.YtmjlmfbceccjdaaG30
import Derived.Deep.QuietTactic
/-
  fewest.check.
-/
namespace Go.Proofs.Ytmjlmfbceccjdaa
open Go.RowKit
set_option linter.unusedVariables false
set_option linter.unusedSimpArgs false
/-- The error of a table that is to be compressed. -/
def fwE (l : List RT) : Int := if tabE l = 0 then (if (l.any fun r => r.1.1) = true then 6 else if (l.any fun r => decide (r.1 = (false, 0, 0))) = true then 0 else 7) else tabE l
theorem fck1_calls (r : RT) (w : World) :
    Calls Try.prog 59 #[.agg #[.bool r.1.1, .int .u64 (aH r.1.2.1), .int .u64 (aL r.1.2.1), .int .i64 r.1.2.2, .int .i64 r.2]] w fun e w' => e = .returned (.bool r.1.1) ∧ Below w.heap.size w w' := by
  have b1 := (Below.refl w.heap.size w).alloc (Nat.le_refl _) (.cells #[.bool r.1.1, .int .u64 (aH r.1.2.1), .int .u64 (aL r.1.2.1), .int .i64 r.1.2.2, .int .i64 r.2] 51)
  go_enter Try.func59, Try.ntmps59
  go_wp2
  go_ret
  exact ⟨rfl, b1⟩
set_option maxHeartbeats 1000000 in
theorem fck2_calls (r : RT) (w : World) :
    Calls Try.prog 60 #[.agg #[.bool r.1.1, .int .u64 (aH r.1.2.1), .int .u64 (aL r.1.2.1), .int .i64 r.1.2.2, .int .i64 r.2]] w fun e w' => e = .returned (.bool (decide (r.1 = (false, 0, 0)))) ∧ Below w.heap.size w w' := by
  have b1 := (Below.refl w.heap.size w).alloc (Nat.le_refl _) (.cells #[.bool r.1.1, .int .u64 (aH r.1.2.1), .int .u64 (aL r.1.2.1), .int .i64 r.1.2.2, .int .i64 r.2] 51)
  have a0 : aH 0 = 0 := by unfold aH; simp
  have l0 : aL 0 = 0 := by unfold aL; simp
  obtain ⟨p, h⟩ := r
  simp only at b1 ⊢
  rcases pk_cases p (false, 0, 0) with e | e | ⟨e1, e⟩ | ⟨e1, e2, e⟩ | ⟨e1, e2, e3, e⟩
  · subst e
    simp only [a0, l0] at b1 ⊢
    go_enter Try.func60, Try.ntmps60
    go_wp2
    go_ret
    exact ⟨by simp, b1⟩
  all_goals
    have hd : decide (p = (false, 0, 0)) = false := decide_eq_false fun h => by rw [h] at e; simp at e
    rw [hd]
    simp only [a0, l0] at e
    try simp only [a0] at e2
    try simp only [l0] at e3
    try rw [e1] at b1 ⊢
    try rw [e2] at b1 ⊢
    try rw [e3] at b1 ⊢
    clear hd
    go_enter Try.func60, Try.ntmps60
    go_wp2
    go_ret
    exact ⟨by simp, b1⟩
end Go.Proofs.Ytmjlmfbceccjdaa
/-
  slices.Concat of two lists of routes.
-/
namespace Go.Proofs.Ytmjlmfbceccjdaa
open Go.RowKit
set_option linter.unusedVariables false
set_option linter.unusedSimpArgs false
set_option maxHeartbeats 4000000 in
set_option maxRecDepth 100000 in
theorem concatR_calls (l m : List RT) (v1 v2 : Value) (b : Nat) (hl : l.length ≤ 100) (hm : m.length ≤ 100) (w : World) (r1 : RowR w v1 l) (r2 : RowR w v2 m) (c0 : w.cell? ⟨b, 0, none⟩ = some v1) (c1 : w.cell? ⟨b, 1, none⟩ = some v2) (hb : b < w.heap.size) :
    Calls Try.prog 44 #[.slice (some ⟨b, 0, none⟩) 2 2] w fun e w' => ∃ v, e = .returned v ∧ OwnR w' w.heap.size v (l ++ m) ∧ Below w.heap.size w w' := by
  obtain ⟨i0, hii, hz0, hz1, hz2⟩ := info_parts info_route
  have IN := Lib.hid (And.intro hii (And.intro hz0 (And.intro hz1 hz2)))
  have R1 := Lib.hid r1
  have R2 := Lib.hid r2
  obtain ⟨p1, q1, rfl⟩ := r1.form
  obtain ⟨p2, q2, rfl⟩ := r2.form
  obtain ⟨n1, hn1⟩ : ∃ n, l.length = n := ⟨_, rfl⟩
  obtain ⟨n2, hn2⟩ : ∃ n, m.length = n := ⟨_, rfl⟩
  have HN1 := Lib.hid hn1
  have HN2 := Lib.hid hn2
  rw [hn1] at hl R1 c0
  rw [hn2] at hm R2 c1
  have GC := Lib.hid (fun W => growR_calls (n1 + n2) (by omega) W)
  have e1 : ((n1 + n2 : Nat) : Int) = (n1 : Int) + (n2 : Int) := by omega
  rw [e1] at GC
  have hz1' : ¬ (n1 : Int) < 0 := by omega
  have hz2' : ¬ (n1 : Int) + (n2 : Int) < 0 := by omega
  clear r1 r2 e1 hn1 hn2 hii hz0 hz1 hz2
  obtain ⟨B, hB⟩ : ∃ B, w.heap.size = B := ⟨_, rfl⟩
  have HB := Lib.hid hB
  have HBB : Hid (b < B) := Lib.hid (by omega)
  rw [hB]
  go_enter Try.func44, Try.ntmps44
  go_wp2_with fail
  go_loopw [3, 11] (fun u i wr => wr = w ∧ ((u = .int .i64 0 ∧ i = .int .i64 0) ∨ (u = .int .i64 n1 ∧ i = .int .i64 1) ∨ (u = .int .i64 ((n1 : Int) + (n2 : Int)) ∧ i = .int .i64 2))) (fun _ i _ => 2 - (intOf i).toNat)
  case atStart => exact ⟨rfl, .inl ⟨rfl, rfl⟩⟩
  case round =>
    obtain ⟨rfl, h | h | h⟩ := hrel
    · obtain ⟨rfl, rfl⟩ := h
      go_wp2
      go_roundw
      case rel => exact ⟨by first | rfl | trivial, .inr (.inl ⟨rfl, rfl⟩)⟩
      case measure => simp [intOf]
    · obtain ⟨rfl, rfl⟩ := h
      go_wp2
      go_roundw
      case rel => exact ⟨by first | rfl | trivial, .inr (.inr ⟨rfl, rfl⟩)⟩
      case measure => simp [intOf]
    · obtain ⟨rfl, rfl⟩ := h
      go_wp2_with fail
      refine (GC.out _).mono ?_
      rintro e w1 ⟨v, rfl, ho, hb1⟩
      have O1 : Hid (OwnR w1 B v []) := Lib.hid (by rw [← HB.out]; exact ho)
      have b1 : Below B wr w1 := by rw [← HB.out]; exact hb1
      have s1 : B ≤ w1.heap.size := by rw [← HB.out]; exact hb1.size
      clear ho hb1 GC
      go_wp2_with fail
      go_loopw [6, 27] (fun u i wx => Below B wr wx ∧ B ≤ wx.heap.size ∧ ((Hid (OwnR wx B u []) ∧ i = .int .i64 0) ∨ (Hid (OwnR wx B u l) ∧ i = .int .i64 1) ∨ (Hid (OwnR wx B u (l ++ m)) ∧ i = .int .i64 2))) (fun _ i _ => 2 - (intOf i).toNat)
      case atStart => exact ⟨b1, s1, .inl ⟨O1, rfl⟩⟩
      case round =>
        clear b1 s1 O1
        obtain ⟨b1, s1, h | h | h⟩ := hrel
        · obtain ⟨O, rfl⟩ := h
          have d0 := (b1.cell (p := ⟨b, 0, none⟩) HBB.out).trans c0
          have RR := Lib.hid (R1.out.keep (by rw [HB.out]; exact b1))
          obtain ⟨hii, hz0, hz1, hz2⟩ := IN.out
          have hby : (0 + l.length) * 40 ≤ 140737488355328 := by rw [HN1.out]; omega
          have h63 : 0 + l.length ≤ maxLen := by rw [HN1.out]; unfold maxLen; omega
          go_wp2_with (at_builtin; refine wpList_append_any rfl _ _ 23 rfl B 51 i0 _ 40 Try.underlying23 hii hz0 hz1 hz2 rfl (by decide) rcs_len rcs_one _ 0 [] rfl O.out _ l rfl RR.out hby h63 s1 ?_; intro v6 w6 ho6 hb6)
          have O6 : Hid (OwnR w6 B v6 l) := Lib.hid (by have := ho6; rw [Nat.zero_add, List.nil_append] at this; exact this)
          have b6 := b1.trans hb6
          have s6 : B ≤ w6.heap.size := Nat.le_trans s1 hb6.size
          clear ho6 hb6 hii hz0 hz1 hz2
          go_roundw
          case rel => exact ⟨b6, s6, .inr (.inl ⟨O6, rfl⟩)⟩
          case measure => simp [intOf]
        · obtain ⟨O, rfl⟩ := h
          have d1 := (b1.cell (p := ⟨b, 1, none⟩) HBB.out).trans c1
          have RR := Lib.hid (R2.out.keep (by rw [HB.out]; exact b1))
          obtain ⟨hii, hz0, hz1, hz2⟩ := IN.out
          have hby : (l.length + m.length) * 40 ≤ 140737488355328 := by rw [HN1.out, HN2.out]; omega
          have h63 : l.length + m.length ≤ maxLen := by rw [HN1.out, HN2.out]; unfold maxLen; omega
          go_wp2_with (at_builtin; refine wpList_append_any rfl _ _ 23 rfl B 51 i0 _ 40 Try.underlying23 hii hz0 hz1 hz2 rfl (by decide) rcs_len rcs_one _ l.length (rowOf rcs l) rfl O.out _ m rfl RR.out hby h63 s1 ?_; intro v6 w6 ho6 hb6)
          have O6 : Hid (OwnR w6 B v6 (l ++ m)) := Lib.hid (by unfold OwnR; rw [List.length_append, rowOf_app]; exact ho6)
          have b6 := b1.trans hb6
          have s6 : B ≤ w6.heap.size := Nat.le_trans s1 hb6.size
          clear ho6 hb6 hii hz0 hz1 hz2
          go_roundw
          case rel => exact ⟨b6, s6, .inr (.inr ⟨O6, rfl⟩)⟩
          case measure => simp [intOf]
        · obtain ⟨O, rfl⟩ := h
          go_wp2
          go_ret
          exact ⟨_, by simp, O.out, b1⟩
end Go.Proofs.Ytmjlmfbceccjdaa
/-
  delta.play: acts on a sorted table, up to the first one with an error.
-/
namespace Go.Proofs.Ytmjlmfbceccjdaa
open Go.RowKit
set_option linter.unusedVariables false
set_option linter.unusedSimpArgs false
/-- The error of an act in a list of acts that may be puts and cuts alone. -/
def actE (L : List RT) (a : ActT) : Int := if a.k = 1 ∨ a.k = 2 then (doA L a).1 else 3
def appE : List RT → List ActT → Int
  | _, [] => 0
  | L, a :: t => if actE L a = 0 then appE (doL L a) t else actE L a
def appL (L : List RT) (l : List ActT) : List RT := l.foldl doL L
theorem runX_app : ∀ (a b : List ActT) (L : List RT), runX L (a ++ b) = runX L a ++ runX (appL L a) b
  | [], b, L => rfl
  | x :: a, b, L => by
    show _ :: runX (doL L x) (a ++ b) = _ :: (runX (doL L x) a ++ _)
    rw [runX_app a b (doL L x)]
    rfl
theorem runL_app (a b : List ActT) : runL (a ++ b) = appL (runL a) b := List.foldl_append ..
theorem runX_atD : ∀ (l : List ActT) (L : List RT) (k : Nat) (hk : k < l.length), (runX L l)[k]? = some (doA (appL L (l.take k)) l[k])
  | a :: t, L, 0, _ => rfl
  | a :: t, L, k + 1, hk => by
    show (doA L a :: runX (doL L a) t)[k + 1]? = _
    rw [List.getElem?_cons_succ, runX_atD t (doL L a) k (by simpa using hk)]
    rfl
theorem appL_take {L : List RT} {l : List ActT} {k : Nat} (hk : k < l.length) : appL L (l.take (k + 1)) = doL (appL L (l.take k)) l[k] := by
  unfold appL; rw [take_snoc hk, List.foldl_append]; rfl
theorem appE_drop {L : List RT} {l : List ActT} {k : Nat} (hk : k < l.length) (h : actE (appL L (l.take k)) l[k] = 0) : appE (appL L (l.take k)) (l.drop k) = appE (appL L (l.take (k + 1))) (l.drop (k + 1)) := by
  rw [List.drop_eq_getElem_cons hk, appE, if_pos h, appL_take hk]
theorem appE_stop {L : List RT} {l : List ActT} {k : Nat} (hk : k < l.length) (h : actE (appL L (l.take k)) l[k] ≠ 0) : appE (appL L (l.take k)) (l.drop k) = actE (appL L (l.take k)) l[k] := by
  rw [List.drop_eq_getElem_cons hk, appE, if_neg h]
/-- A play of the puts of a sorted table and some acts. -/
theorem play_puts {S : List RT} (I : InvR S) {P : List ActT} (hP : P.length ≤ 40) : playE (putsL S ++ P) = 0 ∧ playL (putsL S ++ P) = appL S P ∧ playX (putsL S ++ P) = runX [] (putsL S) ++ runX S P := by
  have h1 : runL (putsL S) = S := by rw [(puts_run (tab_self I)).1, srt_self I]
  have hl : ¬ 100 < (putsL S ++ P).length := by rw [List.length_append, putsL_len]; have := I.size; omega
  refine ⟨by rw [playE, if_neg hl], by rw [playL, if_neg hl, runL_app, h1], by rw [playX, if_neg hl, runX_app]; rw [show appL [] (putsL S) = runL (putsL S) from rfl, h1]⟩
end Go.Proofs.Ytmjlmfbceccjdaa

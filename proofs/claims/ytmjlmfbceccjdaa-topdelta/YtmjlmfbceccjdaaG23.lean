/-
  Laid together: FwG, SameTop, TopRoutes.
-/
import Derived.Test.YtmjlmfbceccjdaaG21
import Derived.Test.YtmjlmfbceccjdaaG9
import Derived.Test.YtmjlmfbceccjdaaTabH
import Derived.Test.YtmjlmfbceccjdaaG5
import Derived.Test.YtmjlmfbceccjdaaG13
import Derived.Deep.QuietTactic
/-
  fewest.check.
-/
namespace Go.Proofs.Ytmjlmfbceccjdaa
open Go.RowKit
set_option linter.unusedVariables false
set_option linter.unusedSimpArgs false
/-- The error of a table that is to be compressed. -/
def fwE (l : List RT) : Int := if tabE l = 0 then (if (l.any fun r => r.1.1) = true then 6 else if (l.any fun r => decide (r.1 = (false, 0, 0))) = true then 0 else 7) else tabE l
theorem fck1_calls (r : RT) (w : World) :
    Calls Try.prog 59 #[.agg #[.bool r.1.1, .int .u64 (aH r.1.2.1), .int .u64 (aL r.1.2.1), .int .i64 r.1.2.2, .int .i64 r.2]] w fun e w' => e = .returned (.bool r.1.1) ∧ Below w.heap.size w w' := by
  have b1 := (Below.refl w.heap.size w).alloc (Nat.le_refl _) (.cells #[.bool r.1.1, .int .u64 (aH r.1.2.1), .int .u64 (aL r.1.2.1), .int .i64 r.1.2.2, .int .i64 r.2] 51)
  go_enter Try.func59, Try.ntmps59
  go_wp2
  go_ret
  exact ⟨rfl, b1⟩
set_option maxHeartbeats 1000000 in
theorem fck2_calls (r : RT) (w : World) :
    Calls Try.prog 60 #[.agg #[.bool r.1.1, .int .u64 (aH r.1.2.1), .int .u64 (aL r.1.2.1), .int .i64 r.1.2.2, .int .i64 r.2]] w fun e w' => e = .returned (.bool (decide (r.1 = (false, 0, 0)))) ∧ Below w.heap.size w w' := by
  have b1 := (Below.refl w.heap.size w).alloc (Nat.le_refl _) (.cells #[.bool r.1.1, .int .u64 (aH r.1.2.1), .int .u64 (aL r.1.2.1), .int .i64 r.1.2.2, .int .i64 r.2] 51)
  have a0 : aH 0 = 0 := by unfold aH; simp
  have l0 : aL 0 = 0 := by unfold aL; simp
  obtain ⟨p, h⟩ := r
  simp only at b1 ⊢
  rcases pk_cases p (false, 0, 0) with e | e | ⟨e1, e⟩ | ⟨e1, e2, e⟩ | ⟨e1, e2, e3, e⟩
  · subst e
    simp only [a0, l0] at b1 ⊢
    go_enter Try.func60, Try.ntmps60
    go_wp2
    go_ret
    exact ⟨by simp, b1⟩
  all_goals
    have hd : decide (p = (false, 0, 0)) = false := decide_eq_false fun h => by rw [h] at e; simp at e
    rw [hd]
    simp only [a0, l0] at e
    try simp only [a0] at e2
    try simp only [l0] at e3
    try rw [e1] at b1 ⊢
    try rw [e2] at b1 ⊢
    try rw [e3] at b1 ⊢
    clear hd
    go_enter Try.func60, Try.ntmps60
    go_wp2
    go_ret
    exact ⟨by simp, b1⟩
end Go.Proofs.Ytmjlmfbceccjdaa
/-
  whipcordtop.sameRoutes: lists that are the same.
-/
namespace Go.Proofs.Ytmjlmfbceccjdaa
open Go.RowKit
set_option linter.unusedVariables false
set_option linter.unusedSimpArgs false
set_option maxHeartbeats 2000000 in
theorem sameTop_calls (v1 v2 : Value) (l : List RT) (hlen : l.length ≤ 1000) (w : World) (r1 : RowR w v1 l) (r2 : RowR w v2 l) :
    Calls Try.prog 17 #[v1, v2] w fun e w' => e = .returned (.bool true) ∧ Below w.heap.size w w' := by
  obtain ⟨p1, c1, rfl, _, a1⟩ := r1.at
  obtain ⟨p2, c2, rfl, _, a2⟩ := r2.at
  obtain ⟨n, hn⟩ : ∃ n, l.length = n := ⟨_, rfl⟩
  have H1 := Lib.hid a1
  have H2 := Lib.hid a2
  have HN := Lib.hid hn
  rw [hn] at hlen ⊢
  clear a1 a2 hn r1 r2
  go_enter Try.func17, Try.ntmps17
  go_wp2
  go_loopw [5] (fun i wr => ∃ k q : Nat, k ≤ n ∧ i = .int .i64 k ∧ wr = w.drewN q) (fun i _ => n - (intOf i).toNat)
  case atStart => exact ⟨0, 0, Nat.zero_le _, rfl, rfl⟩
  case round =>
    obtain ⟨k, q, hk, rfl, rfl⟩ := hrel
    by_cases hlt : k < n
    · have hkl : k < l.length := by rw [HN.out]; exact hlt
      obtain ⟨g, o, rfl, _, h1⟩ := H1.out k hkl
      obtain ⟨g', o', rfl, _, h2⟩ := H2.out k hkl
      obtain ⟨x0, x1, x2, x3, x4⟩ := routeCells h1
      obtain ⟨y0, y1, y2, y3, y4⟩ := routeCells h2
      generalize l[k] = r at x0 x1 x2 x3 x4 y0 y1 y2 y3 y4
      go_wp2_with fail
      go_quiet ((fail))
      go_wp2
      go_roundw
      case rel => exact ⟨k + 1, _, by omega, by go_num, rfl⟩
      case measure => simp [intOf]; omega
    · go_wp2
      go_returns
      exact ⟨rfl, below_drewN (Below.refl _ _) _⟩
end Go.Proofs.Ytmjlmfbceccjdaa
/-
  routesOf of the laws of the whole: what the keep laws' is.
-/
namespace Go.Proofs.Ytmjlmfbceccjdaa
open Go.RowKit Go.Shelf
set_option linter.unusedVariables false
set_option linter.unusedSimpArgs false
set_option maxHeartbeats 4000000 in
set_option maxRecDepth 100000 in
theorem routesTop_calls (l : List ActT) (v : Value) (hlen : l.length ≤ 100) (hw : WordsA l) (w : World) (row : RowA w v l) :
    Calls Try.prog 10 #[v] w fun e w' => ∃ u, e = .returned (.tuple #[u, .bool true]) ∧ OwnR w' w.heap.size u (runL l) ∧ Below w.heap.size w w' := by
  obtain ⟨i0, hii, hz0, hz1, hz2⟩ := info_parts info_act
  have RC := Lib.hid (fun (W : World) (u : Value) (r : RowA W u l) => routes_calls l u (by omega) hw W r)
  have RO := Lib.hid (fun (W : World) (u : Value) (r : RowA W u [oneA]) => routes_calls [oneA] u (by decide) (fun a ha => by simp at ha; subst ha; exact ⟨by decide, by decide⟩) W r)
  have E1 := Lib.hid (show playE l = 0 ∧ playL l = runL l by simp [playE, playL]; omega)
  have E2 := Lib.hid (show playE [oneA] = 0 ∧ playL [oneA] = [((false, 0, 0), 7)] by rw [← one_run]; exact ⟨rfl, rfl⟩)
  have RW := Lib.hid row
  have hby : l.length * 72 ≤ 140737488355328 := by omega
  have h63 : l.length ≤ maxLen := by unfold maxLen; omega
  obtain ⟨p, c, rfl⟩ := row.form
  clear row
  go_enter Try.func10, Try.ntmps10
  go_wp2_with (at_builtin; refine wpList_append_copy rfl _ _ _ rfl 34 i0 _ 72 Try.underlying26 hii hz0 hz1 hz2 rfl (by decide) acs_len acs_one rfl _ _ rfl RW.out hby h63 ?_; intro v1 w1 ho1 hb1)
  refine (RC.out _ _ (OwnA.row ho1)).mono ?_
  rw [E1.out.1, E1.out.2]
  rintro e w2 ⟨u, rfl, ho2, hb2⟩
  have b2 := thenBelow hb1 hb2
  have O2 := Lib.hid (ownsLow ho2 hb1.size)
  clear ho1 hb1 ho2 hb2 RC RW
  go_wp2_with fail
  have bA := (Below.refl w2.heap.size w2).alloc (Nat.le_refl _) (objA oneA)
  have R1 : RowA (w2.alloc (objA oneA)) (.slice (some ⟨w2.heap.size, 0, none⟩) 1 1) [oneA] := .inr ⟨w2.heap.size, 0, 1, rfl, by simp, by simp, fun i hi j u hj => by
    have hi0 : i = 0 := by simp at hi; omega
    subst hi0
    exact actNew w2 oneA j u (by simpa using hj)⟩
  refine (RO.out _ _ R1).mono ?_
  rw [E2.out.1, E2.out.2]
  rintro e w3 ⟨u2, rfl, ho3, hb3⟩
  have b3 := thenBelow (thenBelow b2 bA) hb3
  have O3 := Lib.hid (ownsKeep (ownsKeep O2.out bA) hb3)
  obtain ⟨q, d, hq, hcap, at_⟩ := ho3.row.at
  subst hq
  obtain ⟨g, o, rfl, _, hrec⟩ := at_ 0 (by simp)
  obtain ⟨x0, x1, x2, x3, x4⟩ := routeCells hrec
  simp only [List.getElem_cons_zero, Nat.zero_mul, Nat.add_zero] at x0 x1 x2 x3 x4
  clear O2 ho3 hb3 bA R1 RO hrec at_ b2 x0 x1 x2 x3
  simp only [List.length_cons, List.length_nil, Nat.zero_add]
  go_wp2_with fail
  go_quiet ((fail))
  go_wp2
  go_ret2
  exact ⟨_, by simp, O3.out, below_drewN b3 _⟩
end Go.Proofs.Ytmjlmfbceccjdaa

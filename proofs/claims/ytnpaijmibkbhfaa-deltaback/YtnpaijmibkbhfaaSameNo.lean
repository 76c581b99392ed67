/-
  whipcordkeep.sameRoutes: whether two lists are the same.
-/
import Derived.Test.YtnpaijmibkbhfaaG7
namespace Go.Proofs.Ytnpaijmibkbhfaa
open Go.RowKit
set_option linter.unusedVariables false
set_option linter.unusedSimpArgs false
set_option maxHeartbeats 4000000 in
theorem sameRoutesG_calls (v1 v2 : Value) (l1 l2 : List RT) (len1 : l1.length ≤ 1000) (len2 : l2.length ≤ 1000) (w : World) (r1 : RowR w v1 l1) (r2 : RowR w v2 l2) :
    Calls Try.prog 23 #[v1, v2] w fun e w' => e = .returned (.bool (decide (l1 = l2))) ∧ Below w.heap.size w w' := by
  by_cases hl : l1.length = l2.length
  · obtain ⟨p1, c1, rfl, _, a1⟩ := r1.at
    obtain ⟨p2, c2, rfl, _, a2⟩ := r2.at
    obtain ⟨n, hn⟩ : ∃ n, l1.length = n := ⟨_, rfl⟩
    have H1 := Lib.hid a1
    have H2 := Lib.hid a2
    have HN := Lib.hid hn
    have HN2 := Lib.hid (hl.symm.trans hn)
    rw [HN2.out, hn]
    rw [hn] at len1
    obtain ⟨q, hq⟩ : ∃ q, decide (l1 = l2) = q := ⟨_, rfl⟩
    have HQ := Lib.hid hq
    rw [hq]
    clear a1 a2 hn r1 r2 hl hq len2
    go_enter Try.func23, Try.ntmps23
    go_wp2
    go_loopw [5] (fun i wr => ∃ k q : Nat, k ≤ n ∧ i = .int .i64 k ∧ wr = w.drewN q ∧ Hid (l1.take k = l2.take k)) (fun i _ => n - (intOf i).toNat)
    case atStart => exact ⟨0, 0, Nat.zero_le _, rfl, rfl, Lib.hid rfl⟩
    case round =>
      obtain ⟨k, q', hk, rfl, rfl, TK⟩ := hrel
      by_cases hlt : k < n
      · have hkl : k < l1.length := by rw [HN.out]; exact hlt
        have hkm : k < l2.length := by rw [HN2.out]; exact hlt
        obtain ⟨g, o, rfl, _, h1⟩ := H1.out k hkl
        obtain ⟨g', o', rfl, _, h2⟩ := H2.out k hkm
        obtain ⟨x0, x1, x2, x3, x4⟩ := routeCells h1
        obtain ⟨y0, y1, y2, y3, y4⟩ := routeCells h2
        have hlt' : (k : Int) < (n : Int) := by omega
        have EQ := Lib.hid (show l1[k] = l2[k] → l1.take (k + 1) = l2.take (k + 1) from fun h => by rw [List.take_succ_eq_append_getElem hkl, List.take_succ_eq_append_getElem hkm, TK.out, h])
        have NE := Lib.hid (show l1[k] ≠ l2[k] → q = false from fun h => by
          rw [← HQ.out, decide_eq_false]
          intro e; subst e; exact h rfl)
        generalize l1[k] = r at x0 x1 x2 x3 x4 EQ NE
        generalize l2[k] = s at y0 y1 y2 y3 y4 EQ NE
        clear h1 h2 TK
        rcases pk_cases r.1 s.1 with e | e | ⟨e1, e⟩ | ⟨e1, e2, e⟩ | ⟨e1, e2, e3, e⟩
        · by_cases hh : r.2 = s.2
          · have E2 := Lib.hid (EQ.out (Prod.ext e hh))
            rw [e] at x0 x1 x2 x3
            rw [hh] at x4
            clear EQ NE e hh
            go_wp2_with fail
            go_quiet ((fail))
            go_wp2
            go_roundw
            case rel => exact ⟨k + 1, _, by omega, by go_num, rfl, E2⟩
            case measure => simp [intOf]; omega
          · have hb : (r.2 == s.2) = false := by simpa using hh
            have E2 := Lib.hid (NE.out (fun h => hh (by rw [h])))
            rw [e] at x0 x1 x2 x3
            clear EQ NE e hh
            go_wp2_with fail
            go_quiet ((fail))
            go_wp2
            go_returns
            exact ⟨by rw [E2.out]; (first | done | rfl), below_drewN (below_drewN (Below.refl _ _) _) _⟩
        all_goals
          have E2 := Lib.hid (NE.out (fun h => by rw [h] at e; simp at e))
          clear EQ NE
          try rw [e1] at x0
          try rw [e2] at x1
          try rw [e3] at x2
          go_wp2_with fail
          go_quiet ((fail))
          go_wp2
          go_returns
          exact ⟨by rw [E2.out]; (first | done | rfl), below_drewN (below_drewN (Below.refl _ _) _) _⟩
      · obtain rfl : k = n := by omega
        have e1 : l1 = l2 := by
          have := TK.out
          rwa [show l1.take k = l1 from by rw [← HN.out]; exact List.take_length, show l2.take k = l2 from by rw [← HN2.out]; exact List.take_length] at this
        have E2 := Lib.hid (show q = true by rw [← HQ.out, decide_eq_true e1])
        go_wp2
        go_returns
        exact ⟨by rw [E2.out]; (first | done | rfl), below_drewN (Below.refl _ _) _⟩
  · obtain ⟨p1, c1, rfl⟩ := r1.form
    obtain ⟨p2, c2, rfl⟩ := r2.form
    have E2 := Lib.hid (show decide (l1 = l2) = false from decide_eq_false fun e => hl (by rw [e]))
    rw [E2.out]
    generalize l1.length = n at len1 hl
    generalize l2.length = m at len2 hl
    have h1 : ¬ ((n : Int) = (m : Int)) := by omega
    have h2 : ((n : Int) == (m : Int)) = false := by simpa using h1
    clear r1 r2
    go_enter Try.func23, Try.ntmps23
    go_wp2
    go_returns
    exact ⟨rfl, Below.refl _ _⟩
end Go.Proofs.Ytnpaijmibkbhfaa

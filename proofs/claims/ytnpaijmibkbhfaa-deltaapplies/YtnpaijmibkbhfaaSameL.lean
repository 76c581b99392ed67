/-
  whipcordlaw.sameRoutes, sameAnswers: lists that are the same.
-/
import Derived.Test.YtnpaijmibkbhfaaG7
namespace Go.Proofs.Ytnpaijmibkbhfaa
open Go.RowKit
set_option linter.unusedVariables false
set_option linter.unusedSimpArgs false
theorem ansCellsS {w : World} {g o : Nat} {x : Int × Int × Int} (h : RecAt w g o (xcs x)) : w.cell? ⟨g, o, none⟩ = some (.int .i64 x.1) ∧ w.cell? ⟨g, o + 1, none⟩ = some (.int .i64 x.2.1) ∧ w.cell? ⟨g, o + 2, none⟩ = some (.int .i64 x.2.2) := ⟨h 0 _ rfl, h 1 _ rfl, h 2 _ rfl⟩
set_option maxHeartbeats 4000000 in
theorem sameRoutesL_calls (v1 v2 : Value) (l : List RT) (hlen : l.length ≤ 1000) (w : World) (r1 : RowR w v1 l) (r2 : RowR w v2 l) :
    Calls Try.prog 19 #[v1, v2] w fun e w' => e = .returned (.bool true) ∧ Below w.heap.size w w' := by
  obtain ⟨p1, c1, rfl, _, a1⟩ := r1.at
  obtain ⟨p2, c2, rfl, _, a2⟩ := r2.at
  obtain ⟨n, hn⟩ : ∃ n, l.length = n := ⟨_, rfl⟩
  have H1 := Lib.hid a1
  have H2 := Lib.hid a2
  have HN := Lib.hid hn
  rw [hn] at hlen ⊢
  clear a1 a2 hn r1 r2
  go_enter Try.func19, Try.ntmps19
  go_wp2
  go_loopw [5] (fun i wr => ∃ k q : Nat, k ≤ n ∧ i = .int .i64 k ∧ wr = w.drewN q) (fun i _ => n - (intOf i).toNat)
  case atStart => exact ⟨0, 0, Nat.zero_le _, rfl, rfl⟩
  case round =>
    obtain ⟨k, q, hk, rfl, rfl⟩ := hrel
    by_cases hlt : k < n
    · have hkl : k < l.length := by rw [HN.out]; exact hlt
      obtain ⟨g, o, rfl, _, h1⟩ := H1.out k hkl
      obtain ⟨g', o', rfl, _, h2⟩ := H2.out k hkl
      obtain ⟨x0, x1, x2, x3, x4⟩ := routeCells h1
      obtain ⟨y0, y1, y2, y3, y4⟩ := routeCells h2
      generalize l[k] = r at x0 x1 x2 x3 x4 y0 y1 y2 y3 y4
      go_wp2_with fail
      go_quiet ((fail))
      go_wp2
      go_roundw
      case rel => exact ⟨k + 1, _, by omega, by go_num, rfl⟩
      case measure => simp [intOf]; omega
    · go_wp2
      go_returns
      exact ⟨rfl, below_drewN (Below.refl _ _) _⟩
end Go.Proofs.Ytnpaijmibkbhfaa

/-
  table.compare, the search in a table's routes: where a prefix stands.
-/
import Derived.Test.YtnpaijmibkbhfaaG6
import Derived.Test.YtnpaijmibkbhfaaG2
namespace Go.Proofs.Ytnpaijmibkbhfaa
open Go.RowKit
set_option linter.unusedVariables false
set_option linter.unusedSimpArgs false

theorem compare_calls (p q : PK) (w : World) :
    Calls Try.prog 141 #[.agg #[.bool p.1, .int .u64 (aH p.2.1), .int .u64 (aL p.2.1), .int .i64 p.2.2], .agg #[.bool q.1, .int .u64 (aH q.2.1), .int .u64 (aL q.2.1), .int .i64 q.2.2]] w fun e w' => e = .returned (.int .i64 (cmpK p q)) ∧ Below w.heap.size w w' := by
  obtain ⟨s, x, n⟩ := p
  obtain ⟨t, y, m⟩ := q
  by_cases h : s = t
  · subst h; exact compare_same s x y n m w
  · cases s <;> cases t
    · exact absurd rfl h
    · rw [show cmpK (false, x, n) (true, y, m) = -1 by simp [cmpK, ltK]]
      go_enter Try.func141, Try.ntmps141
      go_wp2
      go_ret
      exact ⟨rfl, by go_grown⟩
    · rw [show cmpK (true, x, n) (false, y, m) = 1 by simp [cmpK, ltK]]
      go_enter Try.func141, Try.ntmps141
      go_wp2
      go_ret
      exact ⟨rfl, by go_grown⟩
    · exact absurd rfl h
/-- A route as it lies in memory. -/
def rcs (r : RT) : List Value := [.bool r.1.1, .int .u64 (aH r.1.2.1), .int .u64 (aL r.1.2.1), .int .i64 r.1.2.2, .int .i64 r.2]
theorem rcs_len (r : RT) : (rcs r).length = 5 := rfl
theorem rcs_one (r : RT) : ∀ u ∈ rcs r, u.oneCell' = true := by
  intro u hu
  simp only [rcs, List.mem_cons, List.not_mem_nil, or_false] at hu
  rcases hu with h | h | h | h | h <;> subst h <;> rfl
theorem routeCells {w : World} {g o : Nat} {r : RT} (h : RecAt w g o (rcs r)) : w.cell? ⟨g, o, none⟩ = some (.bool r.1.1) ∧ w.cell? ⟨g, o + 1, none⟩ = some (.int .u64 (aH r.1.2.1)) ∧ w.cell? ⟨g, o + 2, none⟩ = some (.int .u64 (aL r.1.2.1)) ∧ w.cell? ⟨g, o + 3, none⟩ = some (.int .i64 r.1.2.2) ∧ w.cell? ⟨g, o + 4, none⟩ = some (.int .i64 r.2) :=
  ⟨h 0 _ rfl, h 1 _ rfl, h 2 _ rfl, h 3 _ rfl, h 4 _ rfl⟩
/-- A slice that holds these routes. -/
abbrev RowR (w : World) (v : Value) (l : List RT) : Prop := RowK rcs 5 w v l
theorem placeF_calls (r : RT) (q : PK) (w : World) :
    Calls Try.prog 140 #[.agg #[.bool r.1.1, .int .u64 (aH r.1.2.1), .int .u64 (aL r.1.2.1), .int .i64 r.1.2.2, .int .i64 r.2], .agg #[.bool q.1, .int .u64 (aH q.2.1), .int .u64 (aL q.2.1), .int .i64 q.2.2]] w fun e w' => e = .returned (.int .i64 (cmpK r.1 q)) ∧ Below w.heap.size w w' := by
  have C := Lib.hid (fun W => compare_calls r.1 q W)
  go_enter Try.func140, Try.ntmps140
  go_wp2_with fail
  refine (C.out _).mono ?_
  rintro e w1 ⟨rfl, hb1⟩
  have b1 := thenBelow (((Below.refl _ w).alloc (Nat.le_refl _) _).alloc (by simp) _) hb1
  go_wp2
  go_ret
  exact ⟨rfl, b1⟩
end Go.Proofs.Ytnpaijmibkbhfaa

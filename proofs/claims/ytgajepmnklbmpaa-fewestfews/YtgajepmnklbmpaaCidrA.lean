/-
  Package cidr: cmp.Compare, cmp.Or and less.
-/
import Derived.Test.YtgajepmnklbmpaaG14
import Derived.Test.YtgajepmnklbmpaaG1
namespace Go.Proofs.Ytgajepmnklbmpaa
open Go.RowKit
set_option linter.unusedVariables false
set_option linter.unusedSimpArgs false

theorem isNaN_calls (a : Int) (w : World) : Calls Try.prog 107 #[.int .u64 a] w fun e w' => e = .returned (.bool false) ∧ w' = w := by
  go_enter Try.func107, Try.ntmps107
  go_wp2
  go_returns
  exact ⟨by simp, rfl⟩
def cmpQ (a b : Int) : Int := if a < b then -1 else if b < a then 1 else 0
theorem cmp_calls (a b : Int) (w : World) : Calls Try.prog 104 #[.int .u64 a, .int .u64 b] w fun e w' => e = .returned (.int .i64 (cmpQ a b)) ∧ w' = w := by
  go_enter Try.func104, Try.ntmps104
  go_wp2_with (first
    | (go_at_call 107; refine (isNaN_calls _ _).mono ?_; rintro e w' ⟨rfl, rfl⟩))
  all_goals go_returns
  all_goals unfold cmpQ
  all_goals first
    | exact ⟨by rw [if_pos (by omega)]; rfl, rfl⟩
    | exact ⟨by rw [if_neg (by omega), if_pos (by omega)]; rfl, rfl⟩
    | exact ⟨by rw [if_neg (by omega), if_neg (by omega)]; rfl, rfl⟩
theorem or_calls (c d : Int) (g : Nat) (w : World) (h0 : w.cell? ⟨g, 0, none⟩ = some (.int .i64 c)) (h1 : w.cell? ⟨g, 1, none⟩ = some (.int .i64 d)) :
    Calls Try.prog 103 #[.slice (some ⟨g, 0, none⟩) 2 2] w fun e w' => e = .returned (.int .i64 (if c = 0 then d else c)) ∧ w' = w := by
  by_cases hc : c = 0
  · subst hc
    rw [if_pos rfl]
    by_cases hd : d = 0
    · subst hd
      go_enter Try.func103, Try.ntmps103
      go_wp2
      go_rounds 3
      go_returns
      exact ⟨rfl, rfl⟩
    · go_enter Try.func103, Try.ntmps103
      go_wp2
      go_rounds 3
      go_returns
      exact ⟨rfl, rfl⟩
  · rw [if_neg hc]
    go_enter Try.func103, Try.ntmps103
    go_wp2
    go_rounds 2
    go_returns
    exact ⟨rfl, rfl⟩
theorem or_is (c d r : Int) (hr : (if c = 0 then d else c) = r) (g : Nat) (w : World) (h0 : w.cell? ⟨g, 0, none⟩ = some (.int .i64 c)) (h1 : w.cell? ⟨g, 1, none⟩ = some (.int .i64 d)) :
    Calls Try.prog 103 #[.slice (some ⟨g, 0, none⟩) 2 2] w fun e w' => e = .returned (.int .i64 r) ∧ w' = w := by
  have := or_calls c d g w h0 h1
  rw [hr] at this
  exact this
theorem less_num (x y : Nat) : (if cmpQ (aH x) (aH y) = 0 then cmpQ (aL x) (aL y) else cmpQ (aH x) (aH y)) < 0 ↔ x < y := by
  unfold cmpQ aH aL
  repeat' split
  all_goals omega
end Go.Proofs.Ytgajepmnklbmpaa

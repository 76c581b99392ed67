/-
  Package cidr: cmp.Compare, cmp.Or and less.
-/
import Derived.Test.YtmjlmfbceccjdaaG18
import Derived.Test.YtmjlmfbceccjdaaG1
namespace Go.Proofs.Ytmjlmfbceccjdaa
open Go.RowKit
set_option linter.unusedVariables false
set_option linter.unusedSimpArgs false

theorem isNaN_calls (a : Int) (w : World) : Calls Try.prog 114 #[.int .u64 a] w fun e w' => e = .returned (.bool false) ∧ w' = w := by
  go_enter Try.func114, Try.ntmps114
  go_wp2
  go_returns
  exact ⟨by simp, rfl⟩
def cmpQ (a b : Int) : Int := if a < b then -1 else if b < a then 1 else 0
theorem cmp_calls (a b : Int) (w : World) : Calls Try.prog 111 #[.int .u64 a, .int .u64 b] w fun e w' => e = .returned (.int .i64 (cmpQ a b)) ∧ w' = w := by
  go_enter Try.func111, Try.ntmps111
  go_wp2_with (first
    | (go_at_call 114; refine (isNaN_calls _ _).mono ?_; rintro e w' ⟨rfl, rfl⟩))
  all_goals go_returns
  all_goals unfold cmpQ
  all_goals first
    | exact ⟨by rw [if_pos (by omega)]; rfl, rfl⟩
    | exact ⟨by rw [if_neg (by omega), if_pos (by omega)]; rfl, rfl⟩
    | exact ⟨by rw [if_neg (by omega), if_neg (by omega)]; rfl, rfl⟩
theorem or_calls (c d : Int) (g : Nat) (w : World) (h0 : w.cell? ⟨g, 0, none⟩ = some (.int .i64 c)) (h1 : w.cell? ⟨g, 1, none⟩ = some (.int .i64 d)) :
    Calls Try.prog 110 #[.slice (some ⟨g, 0, none⟩) 2 2] w fun e w' => e = .returned (.int .i64 (if c = 0 then d else c)) ∧ w' = w := by
  by_cases hc : c = 0
  · subst hc
    rw [if_pos rfl]
    by_cases hd : d = 0
    · subst hd
      go_enter Try.func110, Try.ntmps110
      go_wp2
      go_rounds 3
      go_returns
      exact ⟨rfl, rfl⟩
    · go_enter Try.func110, Try.ntmps110
      go_wp2
      go_rounds 3
      go_returns
      exact ⟨rfl, rfl⟩
  · rw [if_neg hc]
    go_enter Try.func110, Try.ntmps110
    go_wp2
    go_rounds 2
    go_returns
    exact ⟨rfl, rfl⟩
theorem or_is (c d r : Int) (hr : (if c = 0 then d else c) = r) (g : Nat) (w : World) (h0 : w.cell? ⟨g, 0, none⟩ = some (.int .i64 c)) (h1 : w.cell? ⟨g, 1, none⟩ = some (.int .i64 d)) :
    Calls Try.prog 110 #[.slice (some ⟨g, 0, none⟩) 2 2] w fun e w' => e = .returned (.int .i64 r) ∧ w' = w := by
  have := or_calls c d g w h0 h1
  rw [hr] at this
  exact this
theorem less_num (x y : Nat) : (if cmpQ (aH x) (aH y) = 0 then cmpQ (aL x) (aL y) else cmpQ (aH x) (aH y)) < 0 ↔ x < y := by
  unfold cmpQ aH aL
  repeat' split
  all_goals omega
end Go.Proofs.Ytmjlmfbceccjdaa

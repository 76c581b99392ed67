/-
  pre.Covers of two valid prefixes of one family.
-/
import Derived.Test.YtnpcofaonimpcaaDoorPreD
namespace Go.Proofs.YtnpcofaonimpcaaDoor
open Go.RowKit
set_option linter.unusedVariables false
set_option linter.unusedSimpArgs false
/-- Does the first cover the second? -/
def covD (six : Bool) (x n y m : Nat) : Bool := decide (n ≤ m) && decide (lowN y (wideN six - n) = x)
theorem covers_ok' (six : Bool) (x y n m : Nat) (hx : x < 2 ^ 128) (hy : y < 2 ^ 128) (hb : bothE six x n six y m = 0) (hn : n ≤ wideN six) (w : World) :
    Calls Tryd.prog 57 #[.agg #[.bool six, .int .u64 (aH x), .int .u64 (aL x), .int .i64 n], .agg #[.bool six, .int .u64 (aH y), .int .u64 (aL y), .int .i64 m]] w fun e w' => e = .returned (.tuple #[.bool (covD six x n y m), .int .i64 0]) ∧ Below w.heap.size w w' := by
  by_cases hm : n ≤ m
  · exact covers_short six x y n m _ _ hx hy hb hn hm rfl (by simp [covD, hm]) w
  · rw [show covD six x n y m = false from by simp [covD, hm]]
    exact covers_long six x y n m hx hy hb hn (by omega) w
end Go.Proofs.YtnpcofaonimpcaaDoor

/-
  Contracts of pre.Halves.
-/
import Derived.Test.YtepfcphhgmmlhaaPreE
import Derived.Test.YtepfcphhgmmlhaaPreCut
namespace Go.Proofs.Ytepfcphhgmmlhaa
open Go.RowKit
set_option linter.unusedVariables false
set_option linter.unusedSimpArgs false

theorem topN_lt128 (six : Bool) (x n : Nat) (hx : x < 2 ^ 128) : topN x (wideN six - n) < 2 ^ 128 := topN_lt x _ 128 hx (by have := wideN_le six; omega)
theorem lowN_lt128 (x k : Nat) (hx : x < 2 ^ 128) : lowN x k < 2 ^ 128 := lowN_lt x k 128 hx
/-- pre.end, the world above alone. -/
theorem pend_b (six : Bool) (x n : Nat) (hx : x < 2 ^ 128) (hn : n ≤ wideN six) (w : World) :
    Calls Try.prog 85 #[.agg #[.bool six, .int .u64 (aH x), .int .u64 (aL x)], .int .i64 n] w fun e w' => e = .returned (.agg #[.bool six, .int .u64 (aH (topN x (wideN six - n))), .int .u64 (aL (topN x (wideN six - n)))]) ∧ Below w.heap.size w w' :=
  (pend_calls six x n hx hn w).mono fun e w' ⟨he, hw⟩ => ⟨he, by subst hw; go_grown⟩

end Go.Proofs.Ytepfcphhgmmlhaa

/-
  Contracts of whipcordkeep.PreOf (one for all), preSure; addr.Next by the number.
-/
import Derived.Test.YtmjlmfbceccjdaaPreK
import Derived.Test.YtmjlmfbceccjdaaG4
import Derived.Test.YtmjlmfbceccjdaaG2
namespace Go.Proofs.Ytmjlmfbceccjdaa
open Go.RowKit
set_option linter.unusedVariables false
set_option linter.unusedSimpArgs false

/-- The number of the prefix that PreOf makes. -/
def preR (six : Bool) (hi lo n : Int) : Nat := lowN (numR six hi lo) (wideN six - lenR six n)
theorem lowN_low (x j k : Nat) (h : j ≤ k) : lowN (lowN x k) j = lowN x k := by
  refine Nat.eq_of_testBit_eq fun i => ?_
  rw [lowN_testBit, lowN_testBit]
  by_cases hk : k ≤ i
  · rw [decide_eq_true hk, decide_eq_true (Nat.le_trans h hk)]; simp
  · simp [hk]
theorem lowN_lower (x j k : Nat) (h : j ≤ k) : lowN (lowN x j) k = lowN x k := by
  refine Nat.eq_of_testBit_eq fun i => ?_
  rw [lowN_testBit, lowN_testBit, lowN_testBit]
  by_cases hk : k ≤ i
  · rw [decide_eq_true hk, decide_eq_true (Nat.le_trans h hk)]; simp
  · simp [hk]
theorem lowN_top (x j k : Nat) (h : j ≤ k) : lowN (topN x j) k = lowN x k := by
  refine Nat.eq_of_testBit_eq fun i => ?_
  rw [lowN_testBit, lowN_testBit, topN_testBit]
  by_cases hk : k ≤ i
  · rw [decide_eq_false (show ¬ i < j by omega)]; simp
  · simp [hk]
/-- What PreOf makes is valid. -/
theorem preR_ok (six : Bool) (hi lo n : Int) (h0 : 0 ≤ hi) (h1 : hi ≤ 18446744073709551615) (l0 : 0 ≤ lo) (l1 : lo ≤ 18446744073709551615) :
    preR six hi lo n < 2 ^ wideN six ∧ lenR six n ≤ wideN six ∧ lowN (preR six hi lo n) (wideN six - lenR six n) = preR six hi lo n ∧ chkE six (preR six hi lo n) (lenR six n) = 0 := by
  have a : preR six hi lo n < 2 ^ wideN six := lowN_lt _ _ _ (numR_lt six hi lo h0 h1 l0 l1)
  have b := lenR_le six n
  have c : lowN (preR six hi lo n) (wideN six - lenR six n) = preR six hi lo n := lowN_low _ _ _ (Nat.le_refl _)
  exact ⟨a, b, c, chk_mk six _ _ a b c⟩

theorem sureHas (w : World) :
    Calls Try.prog 52 #[.agg #[.bool false, .int .u64 0, .int .u64 16, .int .i64 28], .agg #[.bool false, .int .u64 0, .int .u64 17]] w fun e w' => e = .returned (.tuple #[.bool true, .int .i64 0]) ∧ Below w.heap.size w w' :=
  has_ok false 16 17 28 16 true (by decide) (by decide) (by decide) (by decide) (by decide) (by decide) (by decide) w
set_option maxHeartbeats 400000 in
theorem preSure_calls (w : World) :
    Calls Try.prog 24 #[] w fun e w' => e = .returned (.bool true) ∧ Below w.heap.size w w' := by
  go_enter Try.func24, Try.ntmps24
  go_wp2_with fail
  refine (sureHas _).mono ?_
  rintro e w1 ⟨rfl, hb1⟩
  go_wp2
  go_ret
  exact ⟨rfl, hb1⟩

/-- addr.Next by the number. -/
theorem next_num (six : Bool) (x y : Nat) (by' : Int) (hx : x < 2 ^ wideN six) (hy : y < 2 ^ wideN six) (b0 : -1099511627776 ≤ by') (b1 : by' ≤ 1099511627776) (h : (x : Int) + by' = y) (w : World) :
    Calls Try.prog 71 #[.agg #[.bool six, .int .u64 (aH x), .int .u64 (aL x)], .int .i64 by'] w fun e w' => e = .returned (.tuple #[.agg #[.bool six, .int .u64 (aH y), .int .u64 (aL y)], .int .i64 0]) ∧ Below w.heap.size w w' := by
  have hx' := lt128 hx
  have hn : numN (aH x) (aL x) by' = (y : Int) := by unfold numN aH aL; omega
  have hm : mayB six (aH x) (aL x) = true := (mayB_num six x hx').trans (decide_eq_true hx)
  have hl : limN six = ((2 ^ wideN six : Nat) : Int) := by cases six <;> rfl
  have hok : nextOk six (aH x) (aL x) by' = true := by
    rw [nextOk_iff six _ _ _ hm, hn, hl]
    exact ⟨⟨b0, b1⟩, by omega, by exact_mod_cast hy⟩
  exact next_yes six (aH x) (aL x) by' (aH y) (aL y) (aH_0 x) (aH_1 x hx') (aL_0 x) (aL_1 x) hok (by rw [hn]; unfold aH; omega) (by rw [hn]; unfold aL; omega) w
/-- .. where there is none. -/
theorem next_num_none (six : Bool) (x : Nat) (by' : Int) (hx : x < 2 ^ wideN six) (h : (x : Int) + by' < 0 ∨ ((2 ^ wideN six : Nat) : Int) ≤ (x : Int) + by') (w : World) :
    Calls Try.prog 71 #[.agg #[.bool six, .int .u64 (aH x), .int .u64 (aL x)], .int .i64 by'] w fun e w' => e = .returned (.tuple #[.agg #[.bool false, .int .u64 0, .int .u64 0], .int .i64 2]) ∧ Below w.heap.size w w' := by
  have hx' := lt128 hx
  have hn : numN (aH x) (aL x) by' = (x : Int) + by' := by unfold numN aH aL; omega
  have hm : mayB six (aH x) (aL x) = true := (mayB_num six x hx').trans (decide_eq_true hx)
  have hl : limN six = ((2 ^ wideN six : Nat) : Int) := by cases six <;> rfl
  have hok : nextOk six (aH x) (aL x) by' = false := by
    rw [Bool.eq_false_iff]
    intro hc
    rw [nextOk_iff six _ _ _ hm, hn, hl] at hc
    omega
  exact next_none six (aH x) (aL x) by' (aH_0 x) (aH_1 x hx') (aL_0 x) (aL_1 x) hm hok w
theorem AddrV.via {w W w' : World} {b : Nat} {s : Bool} {h l : Int} (a : AddrV w b s h l) (hb : Below w.heap.size w W) (hc : Below W.heap.size W w') : AddrV w' b s h l := (a.keep hb).keep hc
theorem PreV.via {w W w' : World} {b : Nat} {s : Bool} {h l n : Int} (a : PreV w b s h l n) (hb : Below w.heap.size w W) (hc : Below W.heap.size W w') : PreV w' b s h l n := (a.keep hb).keep hc
theorem AddrV.set0 {w : World} {b : Nat} {s : Bool} {h l : Int} (a : AddrV w b s h l) (s2 : Bool) : AddrV (w.setCell ⟨b, 0, none⟩ (.bool s2)) b s2 h l := by
  obtain ⟨⟨a0, a1, a2, az⟩, af⟩ := a
  exact ⟨⟨by simp [go_sem, a0, a1, a2], by simp [go_sem, a0, a1, a2], by simp [go_sem, a0, a1, a2], by simpa using az⟩, fun o => by simp only [World.frozen?_setCell]; exact af o⟩
end Go.Proofs.Ytmjlmfbceccjdaa

/-
  pre.Common of two blocks; whipcordkeep.ahead; two blocks of a smallest list are no halves of one.
-/
import Derived.Test.YtnpcofaonimpcaaDoorG2
import Derived.Test.YtnpcofaonimpcaaDoorPreH
namespace Go.Proofs.YtnpcofaonimpcaaDoor
open Go.RowKit
set_option linter.unusedVariables false
set_option linter.unusedSimpArgs false

theorem com_iff (six : Bool) (x n y m t : Nat) (hx : x < 2 ^ wideN six) (hy : y < 2 ^ wideN six) (ht : t ≤ wideN six) :
    t ≤ comN six x n y m ↔ t ≤ n ∧ t ≤ m ∧ lowN x (wideN six - t) = lowN y (wideN six - t) := by
  rw [← shared_iff six x y t hx hy ht]
  unfold comN
  omega
theorem com_le (six : Bool) (x n y m : Nat) : comN six x n y m ≤ n ∧ comN six x n y m ≤ m ∧ comN six x n y m ≤ wideN six := by
  have := shared_le six x y
  unfold comN
  omega
theorem com_low (six : Bool) (x n y m : Nat) (hx : x < 2 ^ wideN six) (hy : y < 2 ^ wideN six) : lowN x (wideN six - comN six x n y m) = lowN y (wideN six - comN six x n y m) :=
  ((com_iff six x n y m _ hx hy (com_le six x n y m).2.2).1 (Nat.le_refl _)).2.2
theorem ahead_yes (s s' : Bool) (ah al bh bl : Int) (h : ah < bh ∨ ah = bh ∧ al < bl) (w : World) :
    Calls Tryd.prog 29 #[.agg #[.bool s, .int .u64 ah, .int .u64 al], .agg #[.bool s', .int .u64 bh, .int .u64 bl]] w fun e w' => e = .returned (.bool true) ∧ (w.alloc (.cells #[.bool s, .int .u64 ah, .int .u64 al] 25)).alloc (.cells #[.bool s', .int .u64 bh, .int .u64 bl] 25) = w' := by
  rcases h with h | ⟨rfl, h⟩
  · go_enter Tryd.func29, Tryd.ntmps29
    go_wp2
    go_ret
    exact ⟨rfl, rfl⟩
  · go_enter Tryd.func29, Tryd.ntmps29
    go_wp2
    go_ret
    exact ⟨by simp [h], rfl⟩

theorem aheadNum (s s' : Bool) (x y : Nat) (h : x < y) (w : World) :
    Calls Tryd.prog 29 #[.agg #[.bool s, .int .u64 (aH x), .int .u64 (aL x)], .agg #[.bool s', .int .u64 (aH y), .int .u64 (aL y)]] w fun e w' => e = .returned (.bool true) ∧ Below w.heap.size w w' :=
  (ahead_yes s s' (aH x) (aL x) (aH y) (aL y) (by unfold aH aL; omega) w).mono fun e w' ⟨he, hw⟩ => ⟨he, hw ▸ ((Below.refl _ w).alloc (Nat.le_refl _) _).alloc (by simp) _⟩
theorem common_al {six : Bool} {x k y j : Nat} (hx : AL six x k) (hy : AL six y j) : ∃ z c : Nat, comN six x (wideN six - k) y (wideN six - j) = c ∧ ∀ w : World,
    Calls Tryd.prog 28 #[.agg #[.bool six, .int .u64 (aH x), .int .u64 (aL x), .int .i64 ((wideN six - k : Nat) : Int)], .agg #[.bool six, .int .u64 (aH y), .int .u64 (aL y), .int .i64 ((wideN six - j : Nat) : Int)]] w fun e w' => e = .returned (.tuple #[.agg #[.bool six, .int .u64 (aH z), .int .u64 (aL z), .int .i64 (c : Int)], .int .i64 0]) ∧ Below w.heap.size w w' :=
  ⟨_, _, rfl, fun w => common_ok six x (wideN six - k) y (wideN six - j) _ hx.lt hy.lt (Nat.sub_le _ _) (Nat.sub_le _ _) (both_al hx hy) rfl w⟩
theorem no_sib {six : Bool} {S : Nat → Prop} {p q : Nat × Nat} (hp : p ∈ canon S (wideN six) 0) (hq : q ∈ canon S (wideN six) 0) (ap : AL six p.1 p.2) (aq : AL six q.1 q.2) (h : p.1 + 2 ^ p.2 ≤ q.1) (e : p.2 = q.2) (c : Nat) (hc : comN six p.1 (wideN six - p.2) q.1 (wideN six - q.2) = c) : ¬ (c : Int) = ((wideN six - q.2 : Nat) : Int) - 1 := by
  intro hh
  have hk := ap.1
  have lw := com_low six p.1 (wideN six - p.2) q.1 (wideN six - q.2) ap.lt aq.lt
  rw [hc, show wideN six - c = p.2 + 1 by omega] at lw
  obtain ⟨c1, h1⟩ := ap.2.2
  obtain ⟨c2, h2⟩ := aq.2.2
  rw [← e] at h2
  have l1 := Nat.div_add_mod' p.1 (2 ^ (p.2 + 1))
  have l2 := Nat.div_add_mod' q.1 (2 ^ (p.2 + 1))
  have m1 := Nat.mod_lt p.1 (Nat.two_pow_pos (p.2 + 1))
  have m2 := Nat.mod_lt q.1 (Nat.two_pow_pos (p.2 + 1))
  unfold lowN at lw
  rw [← lw] at l2
  obtain ⟨d, hd⟩ : ∃ d, p.1 / 2 ^ (p.2 + 1) = d := ⟨_, rfl⟩
  rw [hd] at l1 l2
  rw [pow_up] at l1 l2 m1 m2
  have e1 : d * (2 ^ p.2 + 2 ^ p.2) = (2 * d) * 2 ^ p.2 := by rw [Nat.mul_add, Nat.mul_assoc, Nat.two_mul]
  rw [e1] at l1 l2
  have hP := pow_one p.2
  have g1 : c1 < 2 * d + 1 := by
    have : c1 * 2 ^ p.2 < (2 * d + 1) * 2 ^ p.2 := by rw [Nat.add_mul, ← h1]; omega
    exact Nat.lt_of_mul_lt_mul_right this
  have g2 : 2 * d ≤ c1 := by
    have : 2 * d * 2 ^ p.2 ≤ c1 * 2 ^ p.2 := by rw [← h1]; omega
    exact Nat.le_of_mul_le_mul_right this hP
  have g3 : c1 = 2 * d := by omega
  have g4 : c2 < 2 * d + 2 := by
    have : c2 * 2 ^ p.2 < (2 * d + 2) * 2 ^ p.2 := by rw [Nat.add_mul, ← h2]; omega
    exact Nat.lt_of_mul_lt_mul_right this
  have g5 : 2 * d + 1 ≤ c2 := by
    have : (2 * d + 1) * 2 ^ p.2 ≤ c2 * 2 ^ p.2 := by rw [Nat.add_mul, ← h2]; rw [g3] at h1; omega
    exact Nat.le_of_mul_le_mul_right this hP
  have g6 : c2 = 2 * d + 1 := by omega
  refine canon_sib hp hq e ?_ ⟨d, ?_⟩
  · rw [h1, h2, g3, g6, Nat.add_mul]; omega
  · rw [pow_up, Nat.zero_add, e1, ← g3]; exact h1
end Go.Proofs.YtnpcofaonimpcaaDoor

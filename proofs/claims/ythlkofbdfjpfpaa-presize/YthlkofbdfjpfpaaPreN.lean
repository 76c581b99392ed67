/-
  Plain mathematics of the two halves of a prefix, and of two prefixes of which none covers the other one.
-/
import Derived.Test.YthlkofbdfjpfpaaPreM
import Derived.Test.YthlkofbdfjpfpaaPreF
namespace Go.Proofs.Ythlkofbdfjpfpaa
open Go.RowKit
set_option linter.unusedVariables false
set_option linter.unusedSimpArgs false

/-- The first address of the high half. -/
def hiX (six : Bool) (x n : Nat) : Nat := lowN (topN x (wideN six - n)) (wideN six - (n + 1))
/-- A number in steps of 2^d and of twice as much. -/
theorem half_step (d x : Nat) : x / 2 ^ (d + 1) = x / 2 ^ d / 2 := by rw [Nat.pow_succ, Nat.div_div_eq_div_mul]
theorem half_x (d x : Nat) (h : lowN x (d + 1) = x) : x / 2 ^ d = 2 * (x / 2 ^ d / 2) ∧ x = x / 2 ^ d * 2 ^ d := by
  have hp := two_pow_pos' d
  unfold lowN at h
  rw [half_step, Nat.pow_succ] at h
  generalize x / 2 ^ d / 2 = q at *
  have e : x = 2 * q * 2 ^ d := by rw [← h, Nat.mul_comm (2 ^ d) 2, ← Nat.mul_assoc, Nat.mul_comm q 2]
  have e2 : x / 2 ^ d = 2 * q := by rw [e, Nat.mul_div_cancel _ hp]
  exact ⟨e2, by rw [e2]; exact e⟩
theorem half_h (d x : Nat) (h : lowN x (d + 1) = x) : lowN (topN x (d + 1)) d = (x / 2 ^ d + 1) * 2 ^ d := by
  have hp := two_pow_pos' d
  have hx := half_x d x h
  rw [topN_low, h]
  unfold lowN
  rw [Nat.pow_succ]
  generalize x / 2 ^ d = B at *
  obtain ⟨h1, h2⟩ := hx
  rw [show x + (2 ^ d * 2 - 1) = (2 ^ d - 1) + (B + 1) * 2 ^ d from by rw [Nat.add_mul]; omega, Nat.add_mul_div_right _ _ hp, Nat.div_eq_of_lt (by omega), Nat.zero_add]
theorem mul_inj (d a b : Nat) : a * 2 ^ d = b * 2 ^ d ↔ a = b := ⟨fun h => Nat.eq_of_mul_eq_mul_right (two_pow_pos' d) h, fun h => by rw [h]⟩
section
variable {six : Bool} {x n : Nat} (h : PV six x n) (hn : n < wideN six)
include h hn
theorem PV.d : ∃ d, wideN six - n = d + 1 ∧ wideN six - (n + 1) = d ∧ lowN x (d + 1) = x := ⟨wideN six - (n + 1), by omega, rfl, by rw [show wideN six - (n + 1) + 1 = wideN six - n from by omega]; exact h.2.2⟩
theorem low_eq : lowN x (wideN six - (n + 1)) = x := by
  have := h.2.2
  rw [← this, lowN_low _ _ _ (by omega)]
theorem low_pv : PV six x (n + 1) := ⟨h.1, hn, low_eq h hn⟩
theorem hi_pv : PV six (hiX six x n) (n + 1) := PV.of (topN_lt _ _ _ h.1 (by omega)) hn
theorem hi_next : topN x (wideN six - (n + 1)) + 1 = hiX six x n := by
  obtain ⟨d, e1, e2, e3⟩ := h.d hn
  have hl := low_eq h hn
  have hp := two_pow_pos' d
  unfold hiX
  rw [e1, e2, half_h d x e3, topN_low]
  rw [e2] at hl
  rw [hl, Nat.add_mul, ← (half_x d x e3).2]
  omega
/-- Which half has an address. -/
theorem half_has (a : Nat) : (hasB six x n a = true ∧ hasB six x (n + 1) a = true ∧ hasB six (hiX six x n) (n + 1) a = false) ∨ (hasB six x n a = true ∧ hasB six x (n + 1) a = false ∧ hasB six (hiX six x n) (n + 1) a = true) ∨ (hasB six x n a = false ∧ hasB six x (n + 1) a = false ∧ hasB six (hiX six x n) (n + 1) a = false) := by
  obtain ⟨d, e1, e2, e3⟩ := h.d hn
  have hx := half_x d x e3
  have hh := half_h d x e3
  have w1 : (lowN a (wideN six - n) = x) ↔ a / 2 ^ d / 2 = x / 2 ^ d / 2 := by
    rw [e1]
    conv => lhs; rhs; rw [← e3]
    unfold lowN
    rw [mul_inj, half_step, half_step]
  have w2 : (lowN a (wideN six - (n + 1)) = x) ↔ a / 2 ^ d = x / 2 ^ d := by
    rw [e2]
    conv => lhs; rhs; rw [hx.2]
    unfold lowN
    rw [mul_inj]
  have w3 : (lowN a (wideN six - (n + 1)) = hiX six x n) ↔ a / 2 ^ d = x / 2 ^ d + 1 := by
    unfold hiX
    rw [e1, e2, hh]
    unfold lowN
    rw [mul_inj]
  unfold hasB
  simp only [decide_eq_true_eq, decide_eq_false_iff_not, w1, w2, w3]
  omega
theorem half_com : comN six x (n + 1) (hiX six x n) (n + 1) = n := by
  have hp := hi_pv h hn
  refine len_ext (com_le ..).2.2 h.2.1 fun t ht => ?_
  rw [com_iff _ _ _ _ _ t h.1 hp.1 ht]
  constructor
  · rintro ⟨a, b, c⟩
    by_cases e : t = n + 1
    · exfalso
      subst e
      have e1 := low_eq h hn
      have e2 := hp.2.2
      rw [e1, e2, ← hi_next h hn] at c
      have := le_topN x (wideN six - (n + 1))
      omega
    · omega
  · intro a
    refine ⟨by omega, by omega, ?_⟩
    unfold hiX
    rw [lowN_lower _ _ _ (by omega), lowN_top _ _ _ (by omega)]
theorem half_comX : comX six x (n + 1) (hiX six x n) (n + 1) = x := by
  unfold comX; rw [half_com h hn]; exact h.2.2
end
theorem halves_pv (six : Bool) (x n h2 : Nat) (h : PV six x n) (hn : n < wideN six) (hh : hiX six x n = h2) (w : World) :
    Calls Try.prog 22 #[.agg #[.bool six, .int .u64 (aH x), .int .u64 (aL x), .int .i64 n]] w fun e w' => e = .returned (.tuple #[.agg #[.bool six, .int .u64 (aH x), .int .u64 (aL x), .int .i64 ((n + 1 : Nat) : Int)], .agg #[.bool six, .int .u64 (aH h2), .int .u64 (aL h2), .int .i64 ((n + 1 : Nat) : Int)], .int .i64 0]) ∧ Below w.heap.size w w' := by
  have := halves_ok six x n hn h.lt h.chk w
  rw [low_eq h hn] at this
  rw [← hh]
  exact this
theorem span_pv (six : Bool) (x n t : Nat) (h : PV six x n) (ht : topN x (wideN six - n) = t) (w : World) :
    Calls Try.prog 20 #[.agg #[.bool six, .int .u64 (aH x), .int .u64 (aL x), .int .i64 n]] w fun e w' => e = .returned (.tuple #[.agg #[.bool six, .int .u64 (aH x), .int .u64 (aL x)], .agg #[.bool six, .int .u64 (aH t), .int .u64 (aL t)], .int .i64 0]) ∧ Below w.heap.size w w' := by
  rw [← ht]
  exact span_ok six x n h.lt h.2.1 h.chk w

section
variable {six : Bool} {x n y m : Nat} (h : PV six x n) (k : PV six y m)
include h k
theorem cov_iff : covB six x n y m = true ↔ n ≤ m ∧ lowN y (wideN six - n) = x := by have _h := h; have _k := k; simp [covB]
theorem has_cov (hm : n ≤ m) : hasB six x n y = covB six x n y m := by have _h := h; have _k := k; simp [hasB, covB, hm]
theorem has_long (hm : m ≤ n) (hh : hasB six x n y = true) : x = y := by
  have _h := h
  simp [hasB] at hh
  rw [← hh]
  conv => rhs; rw [← k.2.2]
  conv => lhs; rw [← k.2.2]
  exact lowN_low _ _ _ (by omega)
theorem cov_com (hc : covB six x n y m = true) : comN six x n y m = n ∧ comX six x n y m = x := by
  obtain ⟨a, b⟩ := (cov_iff h k).1 hc
  have e : comN six x n y m = n := by
    refine len_ext (com_le ..).2.2 h.2.1 fun t ht => ?_
    rw [com_iff _ _ _ _ _ t h.1 k.1 ht]
    refine ⟨fun q => q.1, fun q => ⟨q, by omega, ?_⟩⟩
    rw [← b, lowN_lower _ _ _ (by omega)]
  exact ⟨e, by unfold comX; rw [e]; exact h.2.2⟩
theorem com_cov : covB six (comX six x n y m) (comN six x n y m) x n = true ∧ covB six (comX six x n y m) (comN six x n y m) y m = true := by
  have hl := com_le six x n y m
  exact ⟨by simp [covB, hl.1, comX], by simp [covB, hl.2.1, comX, com_low six x n y m h.1 k.1]⟩
/-- The ways in which two prefixes lie. -/
theorem nested_ways : (covB six x n y m = true ∧ covB six y m x n = true ∧ x = y ∧ n = m ∧ comX six x n y m = x ∧ comN six x n y m = n ∧ hasB six x n y = true ∧ hasB six y m x = true)
    ∨ (covB six x n y m = true ∧ covB six y m x n = false ∧ n < m ∧ comX six x n y m = x ∧ comN six x n y m = n ∧ hasB six x n y = true)
    ∨ (covB six x n y m = false ∧ covB six y m x n = true ∧ comX six x n y m = y ∧ comN six x n y m = m ∧ hasB six y m x = true)
    ∨ (covB six x n y m = false ∧ covB six y m x n = false ∧ hasB six x n y = false ∧ hasB six y m x = false ∧ comN six x n y m < n ∧ comN six x n y m < m) := by
  cases h1 : covB six x n y m
  · cases h2 : covB six y m x n
    · refine .inr (.inr (.inr ⟨rfl, rfl, ?_, ?_, ?_, ?_⟩))
      · rw [Bool.eq_false_iff]; intro hh
        by_cases hm : n ≤ m
        · rw [has_cov h k hm, h1] at hh; cases hh
        · have e := has_long h k (by omega) hh
          have : covB six y m x n = true := (cov_iff k h).2 ⟨by omega, by rw [e]; exact k.2.2⟩
          rw [h2] at this; cases this
      · rw [Bool.eq_false_iff]; intro hh
        by_cases hm : m ≤ n
        · rw [has_cov k h hm, h2] at hh; cases hh
        · have e := has_long k h (by omega) hh
          have : covB six x n y m = true := (cov_iff h k).2 ⟨by omega, by rw [e]; exact h.2.2⟩
          rw [h1] at this; cases this
      · have hl := com_le six x n y m
        by_cases e : comN six x n y m = n
        · exfalso
          have hc := (com_cov h k).2
          rw [cov_iff (com_pv six x n y m h.1) k, e] at hc
          have : covB six x n y m = true := (cov_iff h k).2 ⟨hc.1, by rw [hc.2]; unfold comX; rw [e]; exact h.2.2⟩
          rw [h1] at this; cases this
        · omega
      · have hl := com_le six x n y m
        by_cases e : comN six x n y m = m
        · exfalso
          have hc := (com_cov h k).1
          rw [cov_iff (com_pv six x n y m h.1) h, e] at hc
          have : covB six y m x n = true := (cov_iff k h).2 ⟨hc.1, by rw [hc.2]; unfold comX; rw [com_low six x n y m h.1 k.1, e]; exact k.2.2⟩
          rw [h2] at this; cases this
        · omega
    · have hc := cov_com k h h2
      refine .inr (.inr (.inl ⟨rfl, rfl, ?_, ?_, ?_⟩))
      · rw [comX_comm six x n y m h.1 k.1]; exact hc.2
      · rw [com_comm six x n y m h.1 k.1]; exact hc.1
      · rw [has_cov k h ((cov_iff k h).1 h2).1]; exact h2
  · have hc := cov_com h k h1
    have a := (cov_iff h k).1 h1
    have hh : hasB six x n y = true := by rw [has_cov h k a.1]; exact h1
    cases h2 : covB six y m x n
    · refine .inr (.inl ⟨rfl, rfl, ?_, hc.2, hc.1, hh⟩)
      by_cases e : n = m
      · exfalso
        subst e
        have : covB six y n x n = true := (cov_iff k h).2 ⟨Nat.le_refl _, by rw [← a.2, k.2.2]; exact k.2.2⟩
        rw [h2] at this; cases this
      · omega
    · have b := (cov_iff k h).1 h2
      have e : n = m := by omega
      subst e
      have e2 : x = y := by rw [← a.2]; exact k.2.2
      exact .inl ⟨rfl, rfl, e2, rfl, hc.2, hc.1, hh, by rw [has_cov k h (Nat.le_refl _)]; exact h2⟩
/-- If none covers the other one, one lies in the low half of what they have in common, one in the high half. -/
theorem apart_halves (hn : comN six x n y m < n) (hm : comN six x n y m < m) :
    covB six (comX six x n y m) (comN six x n y m + 1) x n = covB six (hiX six (comX six x n y m) (comN six x n y m)) (comN six x n y m + 1) y m := by
  have hc := com_pv six x n y m h.1
  have hl := com_low six x n y m h.1 k.1
  have hw : comN six x n y m < wideN six := by have := h.2.1; omega
  have hx := half_has hc hw x
  have hy := half_has hc hw y
  have bx : hasB six (comX six x n y m) (comN six x n y m) x = true := by simp [hasB, comX]
  have b2 : hasB six (comX six x n y m) (comN six x n y m) y = true := by simp [hasB, comX, hl]
  have ne : lowN x (wideN six - (comN six x n y m + 1)) ≠ lowN y (wideN six - (comN six x n y m + 1)) := by
    intro e
    have := (com_iff six x n y m (comN six x n y m + 1) h.1 k.1 hw).2 ⟨by omega, by omega, e⟩
    omega
  have c1 : covB six (comX six x n y m) (comN six x n y m + 1) x n = hasB six (comX six x n y m) (comN six x n y m + 1) x := by simp [covB, hasB]; omega
  have c2 : covB six (hiX six (comX six x n y m) (comN six x n y m)) (comN six x n y m + 1) y m = hasB six (hiX six (comX six x n y m) (comN six x n y m)) (comN six x n y m + 1) y := by simp [covB, hasB]; omega
  rw [c1, c2]
  generalize comX six x n y m = u at *
  generalize comN six x n y m = c at *
  rcases hx with ⟨_, x1, x2⟩ | ⟨_, x1, x2⟩ | ⟨x0, _, _⟩
  · rcases hy with ⟨_, y1, y2⟩ | ⟨_, y1, y2⟩ | ⟨y0, _, _⟩
    · exfalso
      simp [hasB] at x1 y1
      exact ne (x1.trans y1.symm)
    · rw [x1, y2]
    · rw [b2] at y0; cases y0
  · rcases hy with ⟨_, y1, y2⟩ | ⟨_, y1, y2⟩ | ⟨y0, _, _⟩
    · rw [x1, y2]
    · exfalso
      simp [hasB] at x2 y2
      exact ne (x2.trans y2.symm)
    · rw [b2] at y0; cases y0
  · rw [bx] at x0; cases x0
end
end Go.Proofs.Ythlkofbdfjpfpaa

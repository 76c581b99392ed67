/-
  Valid prefixes, and what two of them have in common: plain mathematics over the contracts of pre.Common, pre.Covers, pre.Has.
-/
import Derived.Test.YthlkofbdfjpfpaaPreH
import Derived.Test.YthlkofbdfjpfpaaPreD
import Derived.Test.YthlkofbdfjpfpaaPreK2
namespace Go.Proofs.Ythlkofbdfjpfpaa
open Go.RowKit
set_option linter.unusedVariables false
set_option linter.unusedSimpArgs false

/-- A valid prefix. -/
def PV (six : Bool) (x n : Nat) : Prop := x < 2 ^ wideN six ∧ n ≤ wideN six ∧ lowN x (wideN six - n) = x
theorem PV.chk {six : Bool} {x n : Nat} (h : PV six x n) : chkE six x n = 0 := chk_mk six x n h.1 h.2.1 h.2.2
theorem PV.lt {six : Bool} {x n : Nat} (h : PV six x n) : x < 2 ^ 128 := lt128 h.1
theorem PV.both {six : Bool} {x n y m : Nat} (h : PV six x n) (k : PV six y m) : bothE six x n six y m = 0 := by
  unfold bothE; rw [if_pos h.chk, if_pos k.chk, if_pos rfl]
theorem PV.of {six : Bool} {x n : Nat} (hx : x < 2 ^ wideN six) (hn : n ≤ wideN six) : PV six (lowN x (wideN six - n)) n :=
  ⟨lowN_lt _ _ _ hx, hn, lowN_low _ _ _ (Nat.le_refl _)⟩
theorem com_iff (six : Bool) (x n y m t : Nat) (hx : x < 2 ^ wideN six) (hy : y < 2 ^ wideN six) (ht : t ≤ wideN six) :
    t ≤ comN six x n y m ↔ t ≤ n ∧ t ≤ m ∧ lowN x (wideN six - t) = lowN y (wideN six - t) := by
  rw [← shared_iff six x y t hx hy ht]
  unfold comN
  omega
theorem com_le (six : Bool) (x n y m : Nat) : comN six x n y m ≤ n ∧ comN six x n y m ≤ m ∧ comN six x n y m ≤ wideN six := by
  have := shared_le six x y
  unfold comN
  omega
theorem com_low (six : Bool) (x n y m : Nat) (hx : x < 2 ^ wideN six) (hy : y < 2 ^ wideN six) : lowN x (wideN six - comN six x n y m) = lowN y (wideN six - comN six x n y m) :=
  ((com_iff six x n y m _ hx hy (com_le six x n y m).2.2).1 (Nat.le_refl _)).2.2
/-- Two lengths within W are the same if the same lie below them. -/
theorem len_ext {W a b : Nat} (ha : a ≤ W) (hb : b ≤ W) (h : ∀ t, t ≤ W → (t ≤ a ↔ t ≤ b)) : a = b := by
  have h1 := (h a ha).1 (Nat.le_refl _)
  have h2 := (h b hb).2 (Nat.le_refl _)
  omega
theorem com_comm (six : Bool) (x n y m : Nat) (hx : x < 2 ^ wideN six) (hy : y < 2 ^ wideN six) : comN six x n y m = comN six y m x n := by
  refine len_ext (com_le six x n y m).2.2 (com_le six y m x n).2.2 fun t ht => ?_
  rw [com_iff six x n y m t hx hy ht, com_iff six y m x n t hy hx ht]
  constructor
  · rintro ⟨a, b, c⟩; exact ⟨b, a, c.symm⟩
  · rintro ⟨a, b, c⟩; exact ⟨b, a, c.symm⟩
theorem com_self (six : Bool) (x n : Nat) (h : PV six x n) : comN six x n x n = n := by
  refine len_ext (com_le six x n x n).2.2 h.2.1 fun t ht => ?_
  rw [com_iff six x n x n t h.1 h.1 ht]
  exact ⟨fun a => a.1, fun a => ⟨a, a, rfl⟩⟩
/-- The prefix that two have in common. -/
def comX (six : Bool) (x n y m : Nat) : Nat := lowN x (wideN six - comN six x n y m)
theorem com_pv (six : Bool) (x n y m : Nat) (hx : x < 2 ^ wideN six) : PV six (comX six x n y m) (comN six x n y m) := PV.of hx (com_le six x n y m).2.2
theorem comX_comm (six : Bool) (x n y m : Nat) (hx : x < 2 ^ wideN six) (hy : y < 2 ^ wideN six) : comX six x n y m = comX six y m x n := by
  unfold comX; rw [com_low six x n y m hx hy, com_comm six x n y m hx hy]
theorem comX_self (six : Bool) (x n : Nat) (h : PV six x n) : comX six x n x n = x := by
  unfold comX; rw [com_self six x n h]; exact h.2.2
theorem com_assoc (six : Bool) (x n y m z k : Nat) (hx : x < 2 ^ wideN six) (hy : y < 2 ^ wideN six) (hz : z < 2 ^ wideN six) :
    comN six (comX six x n y m) (comN six x n y m) z k = comN six x n (comX six y m z k) (comN six y m z k) := by
  have p1 := com_pv six x n y m hx
  have p2 := com_pv six y m z k hy
  refine len_ext (com_le ..).2.2 (com_le ..).2.2 fun t ht => ?_
  rw [com_iff _ _ _ _ _ t p1.1 hz ht, com_iff _ _ _ _ _ t hx p2.1 ht, com_iff _ _ _ _ _ t hx hy ht, com_iff _ _ _ _ _ t hy hz ht]
  constructor
  · rintro ⟨⟨a, b, c⟩, d, e⟩
    have ht1 : t ≤ comN six x n y m := (com_iff _ _ _ _ _ t hx hy ht).2 ⟨a, b, c⟩
    rw [comX, lowN_lower _ _ _ (by omega)] at e
    have hyz : lowN y (wideN six - t) = lowN z (wideN six - t) := c.symm.trans e
    have ht2 : t ≤ comN six y m z k := (com_iff _ _ _ _ _ t hy hz ht).2 ⟨b, d, hyz⟩
    refine ⟨a, ⟨b, d, hyz⟩, ?_⟩
    rw [comX, lowN_lower _ _ _ (by omega)]; exact c
  · rintro ⟨a, ⟨b, d, e⟩, c⟩
    have ht2 : t ≤ comN six y m z k := (com_iff _ _ _ _ _ t hy hz ht).2 ⟨b, d, e⟩
    rw [comX, lowN_lower _ _ _ (by omega)] at c
    have ht1 : t ≤ comN six x n y m := (com_iff _ _ _ _ _ t hx hy ht).2 ⟨a, b, c⟩
    refine ⟨⟨a, b, c⟩, d, ?_⟩
    rw [comX, lowN_lower _ _ _ (by omega)]; exact c.trans e
theorem comX_assoc (six : Bool) (x n y m z k : Nat) (hx : x < 2 ^ wideN six) (hy : y < 2 ^ wideN six) (hz : z < 2 ^ wideN six) :
    comX six (comX six x n y m) (comN six x n y m) z k = comX six x n (comX six y m z k) (comN six y m z k) := by
  have hc := com_le six (comX six x n y m) (comN six x n y m) z k
  conv => lhs; rw [comX]
  conv => rhs; rw [comX]
  rw [← com_assoc six x n y m z k hx hy hz]
  conv => lhs; lhs; rw [comX]
  exact lowN_lower _ _ _ (by omega)

theorem common_pv (six : Bool) (x n y m u c : Nat) (h : PV six x n) (k : PV six y m) (hu : comX six x n y m = u) (hc : comN six x n y m = c) (w : World) :
    Calls Try.prog 24 #[.agg #[.bool six, .int .u64 (aH x), .int .u64 (aL x), .int .i64 n], .agg #[.bool six, .int .u64 (aH y), .int .u64 (aL y), .int .i64 m]] w fun e w' => e = .returned (.tuple #[.agg #[.bool six, .int .u64 (aH u), .int .u64 (aL u), .int .i64 c], .int .i64 0]) ∧ Below w.heap.size w w' := by
  rw [← hu]; unfold comX; rw [hc]
  exact common_ok six x n y m c h.1 k.1 h.2.1 k.2.1 (h.both k) hc w
/-- Does the first cover the second? -/
def covB (six : Bool) (x n y m : Nat) : Bool := decide (n ≤ m) && decide (lowN y (wideN six - n) = x)
theorem covers_pv (six : Bool) (x n y m : Nat) (b : Bool) (h : PV six x n) (k : PV six y m) (hb : covB six x n y m = b) (w : World) :
    Calls Try.prog 18 #[.agg #[.bool six, .int .u64 (aH x), .int .u64 (aL x), .int .i64 n], .agg #[.bool six, .int .u64 (aH y), .int .u64 (aL y), .int .i64 m]] w fun e w' => e = .returned (.tuple #[.bool b, .int .i64 0]) ∧ Below w.heap.size w w' := by
  by_cases hm : n ≤ m
  · exact covers_short six x y n m _ b h.lt k.lt (h.both k) h.2.1 hm rfl (by rw [← hb]; simp [covB, hm]) w
  · rw [show b = false from by rw [← hb]; simp [covB, hm]]
    exact covers_long six x y n m h.lt k.lt (h.both k) h.2.1 (by omega) w
/-- Has it the address? -/
def hasB (six : Bool) (x n a : Nat) : Bool := decide (lowN a (wideN six - n) = x)
theorem has_pv (six : Bool) (x n a : Nat) (b : Bool) (h : PV six x n) (ha : a < 2 ^ wideN six) (hb : hasB six x n a = b) (w : World) :
    Calls Try.prog 16 #[.agg #[.bool six, .int .u64 (aH x), .int .u64 (aL x), .int .i64 n], .agg #[.bool six, .int .u64 (aH a), .int .u64 (aL a)]] w fun e w' => e = .returned (.tuple #[.bool b, .int .i64 0]) ∧ Below w.heap.size w w' :=
  has_ok six x a n _ b h.lt (lt128 ha) h.chk h.2.1 ha rfl hb w
theorem preR_pv (six : Bool) (hi lo n : Int) (h0 : 0 ≤ hi) (h1 : hi ≤ 18446744073709551615) (l0 : 0 ≤ lo) (l1 : lo ≤ 18446744073709551615) : PV six (preR six hi lo n) (lenR six n) :=
  have h := preR_ok six hi lo n h0 h1 l0 l1
  ⟨h.1, h.2.1, h.2.2.1⟩
end Go.Proofs.Ythlkofbdfjpfpaa

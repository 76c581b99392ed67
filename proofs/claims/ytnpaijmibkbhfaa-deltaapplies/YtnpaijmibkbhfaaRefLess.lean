/-
  The document's addrLess.
-/
import Derived.Test.YtnpaijmibkbhfaaG6
namespace Go.Proofs.Ytnpaijmibkbhfaa
open Go.RowKit
set_option linter.unusedVariables false
set_option linter.unusedSimpArgs false

theorem lt_bits (x y i : Nat) (a : x.testBit i = false) (b : y.testBit i = true) (h : ∀ j, i < j → x.testBit j = y.testBit j) : x < y := by
  have e : x / 2 ^ (i + 1) = y / 2 ^ (i + 1) := Nat.eq_of_testBit_eq fun j => by rw [Nat.testBit_div_two_pow, Nat.testBit_div_two_pow]; exact h _ (by omega)
  rw [Nat.pow_succ, ← Nat.div_div_eq_div_mul, ← Nat.div_div_eq_div_mul] at e
  rw [Nat.testBit_eq_decide_div_mod_eq] at a b
  have a' := of_decide_eq_false a
  have b' := of_decide_eq_true b
  rcases Nat.lt_or_ge x y with hlt | hge
  · exact hlt
  · have := Nat.div_le_div_right (c := 2 ^ i) hge
    omega
theorem fB_less (six : Bool) (x y k : Nat) (hx : x < 2 ^ wideN six) (hy : y < 2 ^ wideN six) (hk : k < wideN six) (h : SameUpto six x y k) (a : fB six x k = false) (b : fB six y k = true) : x < y := by
  refine lt_bits x y (wideN six - 1 - k) a b fun j hj => ?_
  by_cases hW : j < wideN six
  · have := h (wideN six - 1 - j) (by omega)
    unfold fB at this
    rw [show wideN six - 1 - (wideN six - 1 - j) = j by omega] at this
    exact this
  · rw [Nat.testBit_lt_two_pow (Nat.lt_of_lt_of_le hx (Nat.pow_le_pow_right (by omega) (by omega))), Nat.testBit_lt_two_pow (Nat.lt_of_lt_of_le hy (Nat.pow_le_pow_right (by omega) (by omega)))]
theorem fB_decide (six : Bool) (x y k : Nat) (hx : x < 2 ^ wideN six) (hy : y < 2 ^ wideN six) (hk : k < wideN six) (h : SameUpto six x y k) (he : ¬ fB six x k = fB six y k) : decide (x < y) = decide (bI (fB six x k) < bI (fB six y k)) := by
  have h' : SameUpto six y x k := fun j hj => (h j hj).symm
  cases ea : fB six x k <;> cases eb : fB six y k
  · rw [ea, eb] at he; exact absurd rfl he
  · rw [decide_eq_true (fB_less six x y k hx hy hk h ea eb)]; rfl
  · have := fB_less six y x k hy hx hk h' eb ea
    rw [decide_eq_false (by omega)]; rfl
  · rw [ea, eb] at he; exact absurd rfl he
theorem same_all (six : Bool) (x y : Nat) (hx : x < 2 ^ wideN six) (hy : y < 2 ^ wideN six) (h : SameUpto six x y (wideN six)) : x = y := by
  refine Nat.eq_of_testBit_eq fun j => ?_
  by_cases hW : j < wideN six
  · have := h (wideN six - 1 - j) (by omega)
    unfold fB at this
    rw [show wideN six - 1 - (wideN six - 1 - j) = j by omega] at this
    exact this
  · rw [Nat.testBit_lt_two_pow (Nat.lt_of_lt_of_le hx (Nat.pow_le_pow_right (by omega) (by omega))), Nat.testBit_lt_two_pow (Nat.lt_of_lt_of_le hy (Nat.pow_le_pow_right (by omega) (by omega)))]
set_option maxHeartbeats 1000000 in
theorem refLess_calls (six : Bool) (x y : Nat) (b : Bool) (hx : x < 2 ^ wideN six) (hy : y < 2 ^ wideN six) (hb : decide (x < y) = b) (w : World) :
    Calls Try.prog 77 #[.agg #[.bool six, .int .u64 (aH x), .int .u64 (aL x)], .agg #[.bool six, .int .u64 (aH y), .int .u64 (aL y)]] w fun e w' => e = .returned (.bool b) ∧ Below w.heap.size w w' := by
  have hW := wideN_le six
  have hx' := lt128 hx
  have hy' := lt128 hy
  have SB := Lib.hid (fun k => fB_decide six x y k hx hy)
  have SA := Lib.hid (same_all six x y hx hy)
  have HB := Lib.hid hb
  obtain ⟨W, hWe⟩ : ∃ W, wideN six = W := ⟨_, rfl⟩
  rw [hWe] at hW
  have HWE := Lib.hid hWe
  clear hb hWe
  have hs : (six != six) = false := by cases six <;> rfl
  have hs2 : (!six == six) = false := by cases six <;> rfl
  go_enter Try.func77, Try.ntmps77
  go_wp2_with fail
  refine (bitsOf_num six x hx' _).mono ?_
  rw [HWE.out]
  rintro e w1 ⟨g, cap, rfl, hB1, hg1, hc1, hb1⟩
  have A1 := (AddrAt.new (w.alloc (.cells #[.bool six, .int .u64 (aH x), .int .u64 (aL x)] 24)) six (aH y) (aL y) 24).keep hb1
  have b1 := thenBelow (((Below.refl _ w).alloc (Nat.le_refl _) _).alloc (by simp) _) hb1
  simp only [World.size_alloc] at A1
  obtain ⟨a0, a1, a2, al⟩ := A1
  have HB1 := Lib.hid hB1
  clear hb1 hB1 hc1 hg1
  go_wp2_with fail
  refine (bitsOf_num six y hy' _).mono ?_
  rw [HWE.out]
  rintro e w2 ⟨g2, cap2, rfl, hB2, hg2, hc2, hb2⟩
  have B1 := Lib.hid (HB1.out.keep hb2)
  have b2 := thenBelow b1 hb2
  have B2 := Lib.hid hB2
  clear hb2 hB2 hc2 hg2 HB1 a0 a1 a2 al b1
  go_wp2
  go_loopw [22] (fun i wr => ∃ k q : Nat, k ≤ W ∧ i = .int .i64 k ∧ SameUpto six x y k ∧ wr = w2.drewN q) (fun i _ => W - (intOf i).toNat)
  case atStart => exact ⟨0, 0, Nat.zero_le _, rfl, fun j h => by omega, rfl⟩
  case round =>
    obtain ⟨k, q, hk, rfl, hrel, rfl⟩ := hrel
    have HREL := Lib.hid hrel
    clear hrel
    by_cases hlt : k < W
    · have c1 := B1.out.1 k (by omega)
      have c2 := B2.out.1 k (by omega)
      by_cases he : fB six x k = fB six y k
      · have HE := Lib.hid he
        rw [he] at c1
        clear he
        go_wp2_with fail
        go_quiet ((fail))
        go_wp2
        go_roundw
        case rel => exact ⟨k + 1, _, by omega, by go_num, fun j h => by
          by_cases e : j = k
          · rw [e]; exact HE.out
          · exact HREL.out j (by omega), rfl⟩
        case measure => simp [intOf]; omega
      · have n1 : (bI (fB six x k) == bI (fB six y k)) = false := by rw [bI_inj]; simpa using he
        have n2 : (bI (fB six x k) != bI (fB six y k)) = true := by simp [bne, n1]
        have eb : b = decide (bI (fB six x k) < bI (fB six y k)) := by
          rw [← HB.out]
          exact SB.out k (by rw [HWE.out]; exact hlt) HREL.out he
        subst eb
        clear he
        go_wp2_with fail
        go_quiet ((fail))
        go_wp2
        go_quiet ((fail))
        go_wp2
        go_ret
        exact ⟨rfl, below_drewN (below_drewN (below_drewN b2 _) _) _⟩
    · obtain rfl : k = W := by omega
      have eb : b = false := by
        rw [← HB.out, SA.out (by rw [HWE.out]; exact HREL.out)]
        exact decide_eq_false (Nat.lt_irrefl _)
      subst eb
      go_wp2
      go_ret
      exact ⟨rfl, below_drewN b2 _⟩
end Go.Proofs.Ytnpaijmibkbhfaa

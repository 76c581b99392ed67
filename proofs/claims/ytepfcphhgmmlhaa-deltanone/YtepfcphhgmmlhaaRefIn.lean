/-
  Contracts of the document's preIn, PreHas.
-/
import Derived.Test.YtepfcphhgmmlhaaRefFault
import Derived.WalkSmall
namespace Go.Proofs.Ytepfcphhgmmlhaa
open Go.RowKit
set_option linter.unusedVariables false
set_option linter.unusedSimpArgs false

/-- The first k bits are the same. -/
def SameUpto (six : Bool) (x y k : Nat) : Prop := ∀ j, j < k → fB six x j = fB six y j
theorem bI_inj (a b : Bool) : (bI a == bI b) = (a == b) := by cases a <;> cases b <;> rfl

set_option maxHeartbeats 1000000 in
theorem refIn_calls (six : Bool) (x y n : Nat) (b : Bool) (hx : x < 2 ^ wideN six) (hy : y < 2 ^ wideN six) (hn : n ≤ wideN six) (hb : decide (lowN y (wideN six - n) = lowN x (wideN six - n)) = b) (w : World) :
    Calls Try.prog 53 #[.agg #[.bool six, .int .u64 (aH x), .int .u64 (aL x), .int .i64 n], .agg #[.bool six, .int .u64 (aH y), .int .u64 (aL y)]] w fun e w' => e = .returned (.bool b) ∧ Below w.heap.size w w' := by
  have hW := wideN_le six
  have hx' := lt128 hx
  have hy' := lt128 hy
  have SB := Lib.hid (same_bits six x y n hx hy hn)
  have HB := Lib.hid hb
  obtain ⟨W, hWe⟩ : ∃ W, wideN six = W := ⟨_, rfl⟩
  rw [hWe] at hn hW
  have HWE := Lib.hid hWe
  clear hb hWe
  go_enter Try.func53, Try.ntmps53
  go_wp2_with fail
  refine (bitsOf_num six x hx' _).mono ?_
  rw [HWE.out]
  rintro e w1 ⟨g, cap, rfl, hB1, hg1, hc1, hb1⟩
  have P1 := ((PreAt.new w six (aH x) (aL x) n 51).alloc _).keep hb1
  have A1 := (AddrAt.new (w.alloc (.cells #[.bool six, .int .u64 (aH x), .int .u64 (aL x), .int .i64 n] 51)) six (aH y) (aL y) 49).keep hb1
  have b1 := thenBelow (((Below.refl _ w).alloc (Nat.le_refl _) _).alloc (by simp) _) hb1
  simp only [World.size_alloc] at A1
  obtain ⟨a0, a1, a2, al⟩ := A1
  have HP1 := Lib.hid P1
  have HB1 := Lib.hid hB1
  clear hb1 P1 hB1 hc1 hg1
  go_wp2_with fail
  refine (bitsOf_num six y hy' _).mono ?_
  rw [HWE.out]
  rintro e w2 ⟨g2, cap2, rfl, hB2, hg2, hc2, hb2⟩
  have B1 := Lib.hid (HB1.out.keep hb2)
  have b2 := thenBelow b1 hb2
  obtain ⟨p0, p1, p2, p3, pl⟩ := HP1.out.keep hb2
  have B2 := Lib.hid hB2
  clear hb2 hB2 hc2 hg2 HB1 HP1 a0 a1 a2 al b1
  go_wp2
  go_loopw [7] (fun i wr => ∃ k q : Nat, k ≤ n ∧ i = .int .i64 k ∧ SameUpto six x y k ∧ wr = w2.drewN q) (fun i _ => n - (intOf i).toNat)
  case atStart => exact ⟨0, 0, Nat.zero_le _, rfl, fun j h => by omega, rfl⟩
  case round =>
    obtain ⟨k, q, hk, rfl, hrel, rfl⟩ := hrel
    have HREL := Lib.hid hrel
    clear hrel
    by_cases hlt : k < n
    · have c1 := B1.out.1 k (by omega)
      have c2 := B2.out.1 k (by omega)
      by_cases he : fB six x k = fB six y k
      · have HE := Lib.hid he
        rw [he] at c1
        clear he
        go_wp2_with fail
        go_quiet ((fail))
        go_wp2
        go_roundw
        case rel => exact ⟨k + 1, _, by omega, by go_num, fun j h => by
          by_cases e : j = k
          · rw [e]; exact HE.out
          · exact HREL.out j (by omega), rfl⟩
        case measure => simp [intOf]; omega
      · have n1 : (bI (fB six x k) == bI (fB six y k)) = false := by rw [bI_inj]; simpa using he
        have n2 : (bI (fB six x k) != bI (fB six y k)) = true := by simp [bne, n1]
        have eb : b = false := by
          rw [← HB.out]
          exact decide_eq_false fun hc => he (SB.out.1 hc k hlt)
        subst eb
        clear he
        go_wp2_with fail
        go_quiet ((fail))
        go_wp2
        go_ret
        exact ⟨rfl, below_drewN (below_drewN b2 _) _⟩
    · obtain rfl : k = n := by omega
      have eb : b = true := by
        rw [← HB.out]
        exact decide_eq_true (SB.out.2 HREL.out)
      subst eb
      go_wp2
      go_ret
      exact ⟨rfl, below_drewN b2 _⟩
end Go.Proofs.Ytepfcphhgmmlhaa

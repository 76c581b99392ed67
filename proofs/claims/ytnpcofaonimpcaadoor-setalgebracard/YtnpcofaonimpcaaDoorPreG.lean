/-
  Contract of pre.sharedBits: how many bits two addresses have in common at their beginning.
-/
import Derived.Test.YtnpcofaonimpcaaDoorPreC
import Derived.Test.YtnpcofaonimpcaaDoorShelf
namespace Go.Proofs.YtnpcofaonimpcaaDoor
open Go.RowKit
set_option linter.unusedVariables false
set_option linter.unusedSimpArgs false

theorem xor_u64 (a b : Nat) (ha : a < 18446744073709551616) (hb : b < 18446744073709551616) : bits .xor .u64 (a : Int) (b : Int) = ((a ^^^ b : Nat) : Int) := by
  show IntKind.u64.wrap ((BitVec.ofInt 64 (a : Int) ^^^ BitVec.ofInt 64 (b : Int)).toNat : Int) = _
  rw [ofInt_nat, ofInt_nat, wrap_nat64 _ (BitVec.isLt _), BitVec.toNat_xor, BitVec.toNat_ofNat, BitVec.toNat_ofNat, Nat.mod_eq_of_lt ha, Nat.mod_eq_of_lt hb]
theorem xor_lt64 {a b : Nat} (ha : a < 18446744073709551616) (hb : b < 18446744073709551616) : a ^^^ b < 18446744073709551616 := Nat.xor_lt_two_pow (n := 64) ha hb
theorem lt_bitLen (z : Nat) (h : z < 2 ^ 64) : z < 2 ^ Lib.bitLen z := by
  induction z using Nat.strongRecOn with
  | ind z ih =>
    by_cases h0 : z = 0
    · subst h0; exact Nat.two_pow_pos _
    · have := ih (z / 2) (by omega) (by omega)
      rw [Lib.bitLen_half z h0 h, Nat.add_comm, Nat.pow_succ]
      omega
theorem bitLen_iff (z k : Nat) (h : z < 2 ^ 64) : Lib.bitLen z ≤ k ↔ z < 2 ^ k := by
  constructor
  · intro hk; exact Nat.lt_of_lt_of_le (lt_bitLen z h) (Nat.pow_le_pow_right (by omega) hk)
  · intro hk
    by_cases h64 : k ≤ 64
    · exact Lib.bitLen_le z k h64 hk
    · exact Nat.le_trans (Lib.bitLen_le z 64 (by omega) h) (by omega)
/-- How many bits a number of 128 bits wants. -/
def blen (z : Nat) : Nat := if z < 18446744073709551616 then Lib.bitLen z else 64 + Lib.bitLen (z / 18446744073709551616)
theorem blen_iff (z k : Nat) (h : z < 2 ^ 128) : blen z ≤ k ↔ z < 2 ^ k := by
  unfold blen
  split
  · rename_i hz; exact bitLen_iff z k hz
  · rename_i hz
    have hq : z / 18446744073709551616 < 2 ^ 64 := by omega
    have e : (64 + Lib.bitLen (z / 18446744073709551616) ≤ k) ↔ 64 ≤ k ∧ Lib.bitLen (z / 18446744073709551616) ≤ k - 64 := by omega
    rw [e, bitLen_iff _ _ hq]
    constructor
    · rintro ⟨h1, h2⟩
      rw [Nat.div_lt_iff_lt_mul (by decide)] at h2
      have : 2 ^ (k - 64) * 2 ^ 64 = 2 ^ k := by rw [← Nat.pow_add, Nat.sub_add_cancel h1]
      exact this ▸ h2
    · intro h2
      have h1 : 64 ≤ k := by
        by_cases hk : 64 ≤ k
        · exact hk
        · have : 2 ^ k ≤ 2 ^ 64 := Nat.pow_le_pow_right (by omega) (by omega)
          exact absurd (Nat.lt_of_lt_of_le h2 this) hz
      refine ⟨h1, ?_⟩
      rw [Nat.div_lt_iff_lt_mul (by decide)]
      have : 2 ^ (k - 64) * 2 ^ 64 = 2 ^ k := by rw [← Nat.pow_add, Nat.sub_add_cancel h1]
      exact this.symm ▸ h2
/-- With how many bits do two addresses begin alike? -/
def shared (six : Bool) (x y : Nat) : Nat := wideN six - blen (x ^^^ y)
theorem low_xor (x y k : Nat) : lowN x k = lowN y k ↔ x ^^^ y < 2 ^ k := by
  constructor
  · intro h
    refine Nat.lt_pow_two_of_testBit _ fun j hj => ?_
    have := congrArg (fun z => z.testBit j) h
    simp only [lowN_testBit, decide_eq_true hj, Bool.true_and] at this
    rw [Nat.testBit_xor, this]; simp
  · intro h
    refine Nat.eq_of_testBit_eq fun j => ?_
    rw [lowN_testBit, lowN_testBit]
    by_cases hj : k ≤ j
    · have := Nat.testBit_lt_two_pow (Nat.lt_of_lt_of_le h (Nat.pow_le_pow_right (by omega) hj))
      rw [Nat.testBit_xor] at this
      simp at this
      rw [this]
    · simp [hj]
theorem shared_iff (six : Bool) (x y n : Nat) (hx : x < 2 ^ wideN six) (hy : y < 2 ^ wideN six) (hn : n ≤ wideN six) : n ≤ shared six x y ↔ lowN x (wideN six - n) = lowN y (wideN six - n) := by
  have hz : x ^^^ y < 2 ^ wideN six := Nat.xor_lt_two_pow hx hy
  have hz' : x ^^^ y < 2 ^ 128 := lt128 hz
  have hl := (blen_iff _ _ hz').2 hz
  rw [low_xor, ← blen_iff _ _ hz']
  unfold shared
  omega
theorem shared_le (six : Bool) (x y : Nat) : shared six x y ≤ wideN six := Nat.sub_le _ _

theorem xor_words (x y : Nat) : x ^^^ y = (x / 18446744073709551616 ^^^ y / 18446744073709551616) * 18446744073709551616 + (x % 18446744073709551616 ^^^ y % 18446744073709551616) := by
  have h1 : x % 18446744073709551616 < 18446744073709551616 := by omega
  have h2 : y % 18446744073709551616 < 18446744073709551616 := by omega
  refine Nat.eq_of_testBit_eq fun j => ?_
  rw [testBit_words _ _ _ (xor_lt64 h1 h2), Nat.testBit_xor, Nat.testBit_xor, Nat.testBit_xor]
  conv => lhs; rw [words x, words y]
  rw [testBit_words _ _ _ h1, testBit_words _ _ _ h2]
  by_cases hj : j < 64
  · simp only [if_pos hj]
  · simp only [if_neg hj]

theorem lz_calls (v : Nat) (r : Int) (h : v < 18446744073709551616) (hr : 64 - (Lib.bitLen v : Int) = r) (w : World) :
    Calls Tryd.prog 52 #[.int .u64 (v : Int)] w fun e w' => e = .returned (.int .i64 r) ∧ w = w' := by
  refine (Tryd.bits_LeadingZeros64 (v : Int) w (by omega) (by omega)).mono ?_
  rintro e w' ⟨rfl, rfl⟩
  exact ⟨by rw [← hr]; rfl, rfl⟩

set_option maxHeartbeats 400000 in
theorem sharedBits_far (s1 s2 : Bool) (x y : Nat) (r : Int) (hx : x < 2 ^ 128) (hy : y < 2 ^ 128) (hr : 64 - (Lib.bitLen (x / 18446744073709551616 ^^^ y / 18446744073709551616) : Int) = r) (hne : (r == 64) = false) (r0 : 0 ≤ r) (r1 : r ≤ 64) (w : World) :
    Calls Tryd.prog 43 #[.agg #[.bool s1, .int .u64 (aH x), .int .u64 (aL x)], .agg #[.bool s2, .int .u64 (aH y), .int .u64 (aL y)]] w fun e w' => e = .returned (.int .i64 (r - (128 - (wideN s1 : Nat)))) ∧ Below w.heap.size w w' := by
  have hw := wideN_le s1
  have e1 := Lib.hid (xor_u64 (x / 18446744073709551616) (y / 18446744073709551616) (by omega) (by omega))
  have R := Lib.hid hr
  have hv := xor_lt64 (a := x / 18446744073709551616) (b := y / 18446744073709551616) (by omega) (by omega)
  clear hr
  go_enter Tryd.func43, Tryd.ntmps43
  go_wp2_with fail
  rw [show bits .xor .u64 (aH x) (aH y) = _ from e1.out]
  refine (lz_calls _ r hv R.out _).mono ?_
  rintro e w1 ⟨rfl, rfl⟩
  go_wp2_with fail
  refine (pwidth_calls s1 _ _ _).mono ?_
  rintro e w1 ⟨rfl, rfl⟩
  go_wp2
  go_ret
  exact ⟨rfl, by go_grown⟩
set_option maxHeartbeats 400000 in
theorem sharedBits_near (s1 s2 : Bool) (x y : Nat) (r : Int) (hx : x < 2 ^ 128) (hy : y < 2 ^ 128) (hz : x / 18446744073709551616 ^^^ y / 18446744073709551616 = 0) (hr : 64 - (Lib.bitLen (x % 18446744073709551616 ^^^ y % 18446744073709551616) : Int) = r) (r0 : 0 ≤ r) (r1 : r ≤ 64) (w : World) :
    Calls Tryd.prog 43 #[.agg #[.bool s1, .int .u64 (aH x), .int .u64 (aL x)], .agg #[.bool s2, .int .u64 (aH y), .int .u64 (aL y)]] w fun e w' => e = .returned (.int .i64 (64 + r - (128 - (wideN s1 : Nat)))) ∧ Below w.heap.size w w' := by
  have hw := wideN_le s1
  have e1 := Lib.hid (xor_u64 (x / 18446744073709551616) (y / 18446744073709551616) (by omega) (by omega))
  have e2 := Lib.hid (xor_u64 (x % 18446744073709551616) (y % 18446744073709551616) (by omega) (by omega))
  have R := Lib.hid hr
  have Z := Lib.hid hz
  have hv := xor_lt64 (a := x % 18446744073709551616) (b := y % 18446744073709551616) (by omega) (by omega)
  clear hr hz
  go_enter Tryd.func43, Tryd.ntmps43
  go_wp2_with fail
  rw [show bits .xor .u64 (aH x) (aH y) = _ from e1.out, Z.out]
  refine (lz_calls 0 64 (by decide) rfl _).mono ?_
  rintro e w1 ⟨rfl, rfl⟩
  go_wp2_with fail
  rw [show bits .xor .u64 (aL x) (aL y) = _ from e2.out]
  refine (lz_calls _ r hv R.out _).mono ?_
  rintro e w1 ⟨rfl, rfl⟩
  go_wp2_with fail
  refine (pwidth_calls s1 _ _ _).mono ?_
  rintro e w1 ⟨rfl, rfl⟩
  go_wp2
  go_ret
  exact ⟨rfl, by go_grown⟩
theorem sharedBits_calls (six : Bool) (x y : Nat) (hx : x < 2 ^ wideN six) (hy : y < 2 ^ wideN six) (w : World) :
    Calls Tryd.prog 43 #[.agg #[.bool six, .int .u64 (aH x), .int .u64 (aL x)], .agg #[.bool six, .int .u64 (aH y), .int .u64 (aL y)]] w fun e w' => e = .returned (.int .i64 (shared six x y : Nat)) ∧ Below w.heap.size w w' := by
  have hx' := lt128 hx
  have hy' := lt128 hy
  have hW := wideN_le six
  have hz : x ^^^ y < 2 ^ wideN six := Nat.xor_lt_two_pow hx hy
  have hz' : x ^^^ y < 2 ^ 128 := lt128 hz
  have hl := (blen_iff _ _ hz').2 hz
  have ew := xor_words x y
  have hlo := xor_lt64 (a := x % 18446744073709551616) (b := y % 18446744073709551616) (by omega) (by omega)
  have hhi := xor_lt64 (a := x / 18446744073709551616) (b := y / 18446744073709551616) (by omega) (by omega)
  by_cases h0 : x / 18446744073709551616 ^^^ y / 18446744073709551616 = 0
  · have hb := Lib.bitLen_le _ 64 (by omega) hlo
    have ez : x ^^^ y = x % 18446744073709551616 ^^^ y % 18446744073709551616 := by rw [ew, h0]; omega
    have eb : blen (x ^^^ y) = Lib.bitLen (x % 18446744073709551616 ^^^ y % 18446744073709551616) := by unfold blen; rw [ez, if_pos hlo]
    rw [show ((shared six x y : Nat) : Int) = 64 + (64 - (Lib.bitLen (x % 18446744073709551616 ^^^ y % 18446744073709551616) : Int)) - (128 - (wideN six : Nat)) from by unfold shared; rw [eb] at hl ⊢; omega]
    exact sharedBits_near six six x y _ hx' hy' h0 rfl (by omega) (by omega) w
  · have hb := Lib.bitLen_le _ 64 (by omega) hhi
    have hb1 : Lib.bitLen (x / 18446744073709551616 ^^^ y / 18446744073709551616) ≠ 0 := by
      intro hc
      have := lt_bitLen _ hhi
      rw [hc] at this; omega
    have eb : blen (x ^^^ y) = 64 + Lib.bitLen (x / 18446744073709551616 ^^^ y / 18446744073709551616) := by
      unfold blen
      rw [if_neg (by omega), show (x ^^^ y) / 18446744073709551616 = x / 18446744073709551616 ^^^ y / 18446744073709551616 from by omega]
    rw [show ((shared six x y : Nat) : Int) = 64 - (Lib.bitLen (x / 18446744073709551616 ^^^ y / 18446744073709551616) : Int) - (128 - (wideN six : Nat)) from by unfold shared; rw [eb] at hl ⊢; omega]
    exact sharedBits_far six six x y _ hx' hy' rfl (by simp; omega) (by omega) (by omega) w
end Go.Proofs.YtnpcofaonimpcaaDoor

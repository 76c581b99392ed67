/-
  Texts that the proof rests on, laid together: Base, May, Num, PreNum, PreA, PreB, AddrAt, PreAt, PreC, PreA2, PreE, PreCut, PreF, Owns, CidrA, Canon, AppTwo, CidrB, Sets, PreBothC, PreD, CovD, Plain, BitsOf, SamePres, CidrE, Via, CidrF, CidrG, CidrH, CidrI, CidrJ, CidrK, CidrL, Shapes, ShapesPre, LaidF.
-/
import Derived.WalkKit
import Derived.WalkSpells
import Derived.WalkLawsBesides
import Derived.ProofKit
import Derived.OpenShut
import Derived.Handy
import Derived.Lib.Hide
import Derived.Lib.SmallJoins
import Derived.Deep.AppendLies
import Derived.Deep.RegionHeld3
import Derived.Deep.QuietTactic
import Derived.BigQuiet
import Derived.Deep.LoopGhost
import Derived.Test.YtojdlhiibffnfaaDoorProg
import Derived.WalkSmall
import Derived.RowKit
import Derived.Laws.AppendOwnNone
import Derived.Deep.RegionLaw
import Derived.Test.YtojdlhiibffnfaaDoorCards
import Derived.Test.YtojdlhiibffnfaaDoorTie
import Derived.Lib.LaidTab
import Derived.ChangeSame
import Derived.ChangeVars
import Derived.JoinedOf
import Derived.LaidLaws
import Derived.LaidHandle
import Derived.MakeChecks
import Derived.Stop.Joined
import Derived.Stop.LaidErr

/-
  Plain lemmas for the proofs of this seat (no program in sight): a callee that only makes memory keeps what was there; the row's last step for a law that returns true and of whose world 'Below' alone is known.
-/
namespace Go.Proofs.YtojdlhiibffnfaaDoor
open Go.ChangeShapes Go.WideShapes Go.ChangeAt Go.RowKit Go.Joins

/-- Cells and marks of blocks that were there. -/
theorem bcell {W w1 : World} (hb : Below W.heap.size W w1) : (∀ b o, b < W.heap.size → w1.cell? ⟨b, o, none⟩ = W.cell? ⟨b, o, none⟩) ∧ (∀ b o, b < W.heap.size → w1.frozen? ⟨b, o, none⟩ = W.frozen? ⟨b, o, none⟩) :=
  ⟨fun b o h => hb.cell (p := ⟨b, o, none⟩) h, fun b o h => hb.frozen (p := ⟨b, o, none⟩) h⟩

/-- Two calls behind one another. -/
theorem thenBelow {W w1 w2 : World} (h : Below W.heap.size W w1) (k : Below w1.heap.size w1 w2) : Below W.heap.size W w2 :=
  h.trans (k.mono h.size)

section
variable {H : Type} {enc : TypeId × Value → H} {P : Program}
/-- The last step of a law's row, where the law made memory and left all else: asked of the world behind it is 'Below' alone. -/
theorem postBelow {f : Func} {s : ChangeSpec} {apart fresh handsOn : Bool} {W W' : World} {args : Array Value} {v : Value} {ds gs : List (DataW H)} {before pa pv : List MemPlace}
    (hW : DataW.Whole enc P f.params.toList s.vars apart W args.toList ds gs before) (hb : Below W.heap.size W W')
    (hres : ∀ (b : Nat) (sp : Nat → Bool) (hd : Bool), DataW.TrodAll enc P W' b sp hd f.resultTypes.toList (v.resultList f.resultTypes.size) (s.fn H (ds ++ gs)).results [])
    (hargs : ∀ sp : Nat → Bool, (∀ p ∈ before, sp p.block = true) → DataW.TrodAll enc P W' 0 sp true f.params.toList args.toList (s.fn H (ds ++ gs)).args pa)
    (hvars : ∀ sp : Nat → Bool, (∀ p ∈ before, sp p.block = true) → DataW.TrodVars enc P W' sp s.vars (s.fn H (ds ++ gs)).vars pv)
    (hps : before = pa ++ pv) : s.post enc P f apart fresh handsOn false W args v W' := by
  have seen : ∀ p ∈ before, (fun b => decide (b < W.heap.size)) p.block = true := fun p hp => decide_eq_true (hW.lt p hp)
  exact ⟨ds, gs, before, [], pa, pv, hW, hres _ _ _, hargs _ seen, hvars _ seen, World.keptBut_mono (fun p hp => ⟨hp, Or.inr (List.mem_append.1 (hps ▸ hp))⟩) (hb.frame (· ∈ before)), fun h => by cases h⟩
end

/-- What 'open_int' hands over of a uint64. -/
theorem u64_of_wf {x : Int} (h : (Lit.int .u64 x).wf = true) : 0 ≤ x ∧ x ≤ 18446744073709551615 := by
  simp [Lit.wf, IntKind.min, IntKind.max, IntKind.signed, IntKind.bits] at h
  omega
/-- .. and of an int. -/
theorem i64_of_wf {x : Int} (h : (Lit.int .i64 x).wf = true) : -9223372036854775808 ≤ x ∧ x ≤ 9223372036854775807 := by
  simp [Lit.wf, IntKind.min, IntKind.max, IntKind.signed, IntKind.bits] at h
  omega
end Go.Proofs.YtojdlhiibffnfaaDoor

/-
  Contracts of addr.May and of the document's AddrMay.
-/
namespace Go.Proofs.YtojdlhiibffnfaaDoor
open Go.RowKit
set_option linter.unusedVariables false
set_option linter.unusedSimpArgs false

/-- Is an address valid? -/
def mayB (six : Bool) (hi lo : Int) : Bool := six || (decide (hi = 0) && decide (lo < 4294967296))

set_option maxHeartbeats 400000 in
theorem may_calls (six : Bool) (hi lo : Int) (h0 : 0 ≤ hi) (l0 : 0 ≤ lo) (w : World) :
    Calls Tryd.prog 33 #[.agg #[.bool six, .int .u64 hi, .int .u64 lo]] w fun e w' => e = .returned (.bool (mayB six hi lo)) ∧ w.alloc (.cells #[.bool six, .int .u64 hi, .int .u64 lo] 24) = w' := by
  cases six
  · by_cases hz : hi = 0
    · subst hz
      by_cases hl : lo < 4294967296
      · go_enter Tryd.func33, Tryd.ntmps33
        go_wp2
        go_ret
        exact ⟨by simp [mayB, hl], rfl⟩
      · go_enter Tryd.func33, Tryd.ntmps33
        go_wp2
        go_ret
        exact ⟨by simp [mayB, hl], rfl⟩
    · have hz' : (hi == 0) = false := by simpa using hz
      go_enter Tryd.func33, Tryd.ntmps33
      go_wp2
      go_ret
      exact ⟨by simp [mayB, hz], rfl⟩
  · go_enter Tryd.func33, Tryd.ntmps33
    go_wp2
    go_ret
    exact ⟨by simp [mayB], rfl⟩

set_option maxHeartbeats 400000 in
theorem refMay_calls (six : Bool) (hi lo : Int) (h0 : 0 ≤ hi) (l0 : 0 ≤ lo) (w : World) :
    Calls Tryd.prog 37 #[.agg #[.bool six, .int .u64 hi, .int .u64 lo]] w fun e w' => e = .returned (.bool (mayB six hi lo)) ∧ w.alloc (.cells #[.bool six, .int .u64 hi, .int .u64 lo] 24) = w' := by
  cases six
  · by_cases hz : hi = 0
    · subst hz
      by_cases hl : lo < 4294967296
      · have hl' : lo ≤ 4294967295 := by omega
        go_enter Tryd.func37, Tryd.ntmps37
        go_wp2
        go_ret
        exact ⟨by simp [mayB, hl], rfl⟩
      · have hl' : ¬ lo ≤ 4294967295 := by omega
        go_enter Tryd.func37, Tryd.ntmps37
        go_wp2
        go_ret
        exact ⟨by simp [mayB, hl], rfl⟩
    · have hz' : (hi == 0) = false := by simpa using hz
      go_enter Tryd.func37, Tryd.ntmps37
      go_wp2
      go_ret
      exact ⟨by simp [mayB, hz], rfl⟩
  · go_enter Tryd.func37, Tryd.ntmps37
    go_wp2
    go_ret
    exact ⟨by simp [mayB], rfl⟩
end Go.Proofs.YtojdlhiibffnfaaDoor

/-
  Plain definitions and lemmas on the bits of numbers; what a pair of ints returns.
-/
namespace Go.Proofs.YtojdlhiibffnfaaDoor
open Go.RowKit
set_option linter.unusedVariables false
set_option linter.unusedSimpArgs false

/-- How many bits an address has. -/
def wideB (six : Bool) : Int := if six then 128 else 32
/-- The bit with the weight 2^k. -/
def bitW (x : Int) (k : Nat) : Int := x / 2 ^ k % 2
theorem bitW_01 (x : Int) (k : Nat) : bitW x k = 0 ∨ bitW x k = 1 := by unfold bitW; omega
/-- Bit i of an address, counted from the most significant one. -/
def bitAt (six : Bool) (hi lo : Int) (i : Nat) : Int := if six then (if i < 64 then bitW hi (63 - i) else bitW lo (127 - i)) else bitW lo (31 - i)

theorem shrAnd1 (x : Int) (k : Nat) (h0 : 0 ≤ x) (h1 : x ≤ 18446744073709551615) : wrap64 (bits .and .u64 (x / 2 ^ k) 1) = bitW x k := by
  have p0 : (0 : Int) < 2 ^ k := Int.pow_pos (by decide)
  have g0 : 0 ≤ x / 2 ^ k := Int.ediv_nonneg h0 (by omega)
  have g1 : x / 2 ^ k ≤ x := Int.ediv_le_self _ h0
  rw [and_one_u64 _ g0 (by omega)]
  have := bitW_01 x k
  unfold bitW at *
  unfold wrap64
  omega
theorem ret2 {a b c d : Int} {k l : IntKind} (h : a = b) (g : c = d) : Ending.returned (.tuple #[.int k a, .int l c]) = .returned (.tuple #[.int k b, .int l d]) := by rw [h, g]

end Go.Proofs.YtojdlhiibffnfaaDoor

/-
  Plain mathematics: an address as one number; its first bits, and its last ones set to 0 or 1.
-/
namespace Go.Proofs.YtojdlhiibffnfaaDoor
open Go.RowKit
set_option linter.unusedVariables false
set_option linter.unusedSimpArgs false

/-- How many bits an address has. -/
def wideN (six : Bool) : Nat := if six then 128 else 32
theorem wideN_le (six : Bool) : wideN six ≤ 128 := by cases six <;> decide
theorem wideB_eq (six : Bool) : wideB six = (wideN six : Int) := by cases six <;> rfl
/-- The two words of a number of 128 bits. -/
def aH (x : Nat) : Int := ((x / 18446744073709551616 : Nat) : Int)
def aL (x : Nat) : Int := ((x % 18446744073709551616 : Nat) : Int)
/-- The number of two words. -/
def numA (hi lo : Int) : Nat := (hi * 18446744073709551616 + lo).toNat
theorem aH_numA (hi lo : Int) (h0 : 0 ≤ hi) (l0 : 0 ≤ lo) (l1 : lo ≤ 18446744073709551615) : aH (numA hi lo) = hi := by unfold aH numA; omega
theorem aL_numA (hi lo : Int) (h0 : 0 ≤ hi) (l0 : 0 ≤ lo) (l1 : lo ≤ 18446744073709551615) : aL (numA hi lo) = lo := by unfold aL numA; omega
theorem aH_0 (x : Nat) : 0 ≤ aH x := by unfold aH; omega
theorem aL_0 (x : Nat) : 0 ≤ aL x := by unfold aL; omega
theorem aL_1 (x : Nat) : aL x ≤ 18446744073709551615 := by unfold aL; omega
theorem aH_1 (x : Nat) (h : x < 2 ^ 128) : aH x ≤ 18446744073709551615 := by unfold aH; omega
theorem numA_lt (hi lo : Int) (h0 : 0 ≤ hi) (h1 : hi ≤ 18446744073709551615) (l0 : 0 ≤ lo) (l1 : lo ≤ 18446744073709551615) : numA hi lo < 2 ^ 128 := by unfold numA; omega
theorem a_inj {x y : Nat} (h : aH x = aH y) (l : aL x = aL y) : x = y := by unfold aH at h; unfold aL at l; omega
theorem two_pow_pos' (k : Nat) : 0 < 2 ^ k := Nat.two_pow_pos k

/-- The last k bits are 0. -/
def lowN (x k : Nat) : Nat := x / 2 ^ k * 2 ^ k
/-- The last k bits are 1. -/
def topN (x k : Nat) : Nat := x / 2 ^ k * 2 ^ k + (2 ^ k - 1)
theorem lowN_testBit (x k j : Nat) : (lowN x k).testBit j = (decide (k ≤ j) && x.testBit j) := by
  unfold lowN
  rw [Nat.testBit_mul_two_pow, Nat.testBit_div_two_pow]
  by_cases h : k ≤ j
  · rw [Nat.sub_add_cancel h]
  · simp [h]
theorem topN_testBit (x k j : Nat) : (topN x k).testBit j = (decide (j < k) || x.testBit j) := by
  unfold topN
  rw [Nat.mul_comm, Nat.testBit_two_pow_mul_add _ (by have := two_pow_pos' k; omega), Nat.testBit_two_pow_sub_one]
  by_cases h : j < k
  · simp [h]
  · rw [if_neg h, Nat.testBit_div_two_pow, Nat.sub_add_cancel (by omega)]
    simp [h]
theorem lowN_le (x k : Nat) : lowN x k ≤ x := Nat.div_mul_le_self x (2 ^ k)
theorem lowN_mod (x k : Nat) : lowN x k = x - x % 2 ^ k := by
  unfold lowN; have := Nat.div_add_mod x (2 ^ k); rw [Nat.mul_comm]; omega
theorem topN_low (x k : Nat) : topN x k = lowN x k + (2 ^ k - 1) := rfl
theorem le_topN (x k : Nat) : x ≤ topN x k := by
  have := Nat.mod_lt x (two_pow_pos' k); have := Nat.mod_le x (2 ^ k); rw [topN_low, lowN_mod]; omega
theorem topN_lt (x k n : Nat) (h : x < 2 ^ n) (hk : k ≤ n) : topN x k < 2 ^ n := by
  refine Nat.lt_pow_two_of_testBit _ fun j hj => ?_
  rw [topN_testBit, Nat.testBit_lt_two_pow (Nat.lt_of_lt_of_le h (Nat.pow_le_pow_right (by omega) hj))]
  simp; omega
theorem lowN_lt (x k n : Nat) (h : x < 2 ^ n) : lowN x k < 2 ^ n := Nat.lt_of_le_of_lt (lowN_le x k) h
theorem testBit_words (h l j : Nat) (hl : l < 18446744073709551616) : (h * 18446744073709551616 + l).testBit j = if j < 64 then l.testBit j else h.testBit (j - 64) := by
  have := Nat.testBit_two_pow_mul_add (i := 64) h (b := l) hl j
  rw [Nat.mul_comm]; exact this
theorem lowN_words (h l k : Nat) (hl : l < 18446744073709551616) : lowN (h * 18446744073709551616 + l) k = lowN h (k - 64) * 18446744073709551616 + lowN l (min k 64) := by
  have hl' : lowN l (min k 64) < 18446744073709551616 := Nat.lt_of_le_of_lt (lowN_le _ _) hl
  refine Nat.eq_of_testBit_eq fun j => ?_
  rw [lowN_testBit, testBit_words _ _ _ hl, testBit_words _ _ _ hl', lowN_testBit, lowN_testBit]
  by_cases hj : j < 64
  · rw [if_pos hj, if_pos hj, show decide (k ≤ j) = decide (min k 64 ≤ j) from decide_eq_decide.2 (by omega)]
  · rw [if_neg hj, if_neg hj, show decide (k ≤ j) = decide (k - 64 ≤ j - 64) from decide_eq_decide.2 (by omega)]
theorem topN_words (h l k : Nat) (hl : l < 18446744073709551616) : topN (h * 18446744073709551616 + l) k = topN h (k - 64) * 18446744073709551616 + topN l (min k 64) := by
  have hl' : topN l (min k 64) < 18446744073709551616 := topN_lt l (min k 64) 64 hl (by omega)
  refine Nat.eq_of_testBit_eq fun j => ?_
  rw [topN_testBit, testBit_words _ _ _ hl, testBit_words _ _ _ hl', topN_testBit, topN_testBit]
  by_cases hj : j < 64
  · rw [if_pos hj, if_pos hj, show decide (j < k) = decide (j < min k 64) from decide_eq_decide.2 (by omega)]
  · rw [if_neg hj, if_neg hj, show decide (j < k) = decide (j - 64 < k - 64) from decide_eq_decide.2 (by omega)]
theorem words (x : Nat) : x = x / 18446744073709551616 * 18446744073709551616 + x % 18446744073709551616 := by omega
theorem aH_low (x k : Nat) : aH (lowN x k) = ((lowN (x / 18446744073709551616) (k - 64) : Nat) : Int) := by
  have hl : x % 18446744073709551616 < 18446744073709551616 := by omega
  have hl' : lowN (x % 18446744073709551616) (min k 64) < 18446744073709551616 := Nat.lt_of_le_of_lt (lowN_le _ _) hl
  have e := lowN_words (x / 18446744073709551616) (x % 18446744073709551616) k hl
  rw [← words x] at e
  unfold aH; rw [e]; omega
theorem aL_low (x k : Nat) : aL (lowN x k) = ((lowN (x % 18446744073709551616) (min k 64) : Nat) : Int) := by
  have hl : x % 18446744073709551616 < 18446744073709551616 := by omega
  have hl' : lowN (x % 18446744073709551616) (min k 64) < 18446744073709551616 := Nat.lt_of_le_of_lt (lowN_le _ _) hl
  have e := lowN_words (x / 18446744073709551616) (x % 18446744073709551616) k hl
  rw [← words x] at e
  unfold aL; rw [e]; omega
theorem aH_top (x k : Nat) : aH (topN x k) = ((topN (x / 18446744073709551616) (k - 64) : Nat) : Int) := by
  have hl : x % 18446744073709551616 < 18446744073709551616 := by omega
  have hl' : topN (x % 18446744073709551616) (min k 64) < 18446744073709551616 := topN_lt _ (min k 64) 64 hl (by omega)
  have e := topN_words (x / 18446744073709551616) (x % 18446744073709551616) k hl
  rw [← words x] at e
  unfold aH; rw [e]; omega
theorem aL_top (x k : Nat) : aL (topN x k) = ((topN (x % 18446744073709551616) (min k 64) : Nat) : Int) := by
  have hl : x % 18446744073709551616 < 18446744073709551616 := by omega
  have hl' : topN (x % 18446744073709551616) (min k 64) < 18446744073709551616 := topN_lt _ (min k 64) 64 hl (by omega)
  have e := topN_words (x / 18446744073709551616) (x % 18446744073709551616) k hl
  rw [← words x] at e
  unfold aL; rw [e]; omega
end Go.Proofs.YtojdlhiibffnfaaDoor

/-
  Contracts of pre.width, pre.ones.
-/
namespace Go.Proofs.YtojdlhiibffnfaaDoor
open Go.RowKit
set_option linter.unusedVariables false
set_option linter.unusedSimpArgs false

set_option maxHeartbeats 400000 in
theorem pwidth_calls (six : Bool) (hi lo : Int) (w : World) :
    Calls Tryd.prog 74 #[.agg #[.bool six, .int .u64 hi, .int .u64 lo]] w fun e w' => e = .returned (.int .i64 (wideN six : Nat)) ∧ w.alloc (.cells #[.bool six, .int .u64 hi, .int .u64 lo] 24) = w' := by
  cases six
  · go_enter Tryd.func74, Tryd.ntmps74
    go_wp2
    go_ret
    exact ⟨rfl, rfl⟩
  · go_enter Tryd.func74, Tryd.ntmps74
    go_wp2
    go_ret
    exact ⟨rfl, rfl⟩

/-- A word whose last k bits are 1. -/
def mskI (k : Nat) : Int := ((2 ^ k - 1 : Nat) : Int)
theorem msk_wrap (k : Nat) (h : k ≤ 64) : IntKind.u64.wrap (IntKind.u64.wrap (2 ^ k) - 1) = mskI k := by
  have h1 : 2 ^ k ≤ 2 ^ 64 := Nat.pow_le_pow_right (by omega) h
  have h2 : 0 < 2 ^ k := Nat.two_pow_pos k
  have e : (2 : Int) ^ k = ((2 ^ k : Nat) : Int) := by simp
  rw [e, IntKind.wrap_u64, IntKind.wrap_u64]
  unfold mskI
  generalize 2 ^ k = y at *
  omega

set_option maxHeartbeats 400000 in
theorem ones_calls (m : Nat) (h1 : m ≤ 128) (w : World) :
    Calls Tryd.prog 76 #[.int .i64 m] w fun e w' => e = .returned (.tuple #[.int .u64 (mskI (m - 64)), .int .u64 (mskI (min m 64))]) ∧ w = w' := by
  by_cases h : 64 < m
  · go_enter Tryd.func76, Tryd.ntmps76
    go_wp2
    go_ret2
    exact ⟨ret2 (msk_wrap _ (by omega)) (by rw [Nat.min_eq_right (by omega)]; rfl), rfl⟩
  · by_cases hz : 64 = m
    · subst hz
      go_enter Tryd.func76, Tryd.ntmps76
      go_wp2
      go_ret2
      exact ⟨ret2 rfl rfl, rfl⟩
    · go_enter Tryd.func76, Tryd.ntmps76
      go_wp2
      go_ret2
      exact ⟨ret2 (by rw [show m - 64 = 0 from by omega]; rfl) (by rw [Nat.min_eq_left (by omega)]; exact msk_wrap _ (by omega)), rfl⟩

theorem wrap_nat64 (n : Nat) (h : n < 18446744073709551616) : IntKind.u64.wrap (n : Int) = (n : Int) := by rw [IntKind.wrap_u64]; omega
theorem ofInt_nat (a : Nat) : BitVec.ofInt 64 (a : Int) = BitVec.ofNat 64 a := by simp
theorem andNot_msk (a k : Nat) (ha : a < 18446744073709551616) (hk : k ≤ 64) : bits .andNot .u64 (a : Int) (mskI k) = ((lowN a k : Nat) : Int) := by
  show IntKind.u64.wrap ((BitVec.ofInt 64 (a : Int) &&& ~~~ BitVec.ofInt 64 (mskI k)).toNat : Int) = _
  unfold mskI
  rw [ofInt_nat, ofInt_nat, wrap_nat64 _ (BitVec.isLt _)]
  congr 1
  refine Nat.eq_of_testBit_eq fun j => ?_
  rw [lowN_testBit, BitVec.testBit_toNat, BitVec.getLsbD_and, BitVec.getLsbD_not, BitVec.getLsbD_ofNat, BitVec.getLsbD_ofNat, Nat.testBit_two_pow_sub_one]
  by_cases hj : j < 64
  · by_cases h : k ≤ j
    · have h2 : ¬ j < k := by omega
      simp [hj, h, h2]
    · have h2 : j < k := by omega
      simp [hj, h, h2]
  · have : a.testBit j = false := Nat.testBit_lt_two_pow (Nat.lt_of_lt_of_le ha (Nat.pow_le_pow_right (n := 2) (by omega) (show 64 ≤ j by omega)))
    simp [hj, this]
theorem or_msk (a k : Nat) (ha : a < 18446744073709551616) (hk : k ≤ 64) : bits .or .u64 (a : Int) (mskI k) = ((topN a k : Nat) : Int) := by
  show IntKind.u64.wrap ((BitVec.ofInt 64 (a : Int) ||| BitVec.ofInt 64 (mskI k)).toNat : Int) = _
  unfold mskI
  rw [ofInt_nat, ofInt_nat, wrap_nat64 _ (BitVec.isLt _)]
  congr 1
  refine Nat.eq_of_testBit_eq fun j => ?_
  rw [topN_testBit, BitVec.testBit_toNat, BitVec.getLsbD_or, BitVec.getLsbD_ofNat, BitVec.getLsbD_ofNat, Nat.testBit_two_pow_sub_one]
  by_cases hj : j < 64
  · by_cases h : j < k
    · simp [hj, h]
    · simp [hj, h]
  · have : a.testBit j = false := Nat.testBit_lt_two_pow (Nat.lt_of_lt_of_le ha (Nat.pow_le_pow_right (n := 2) (by omega) (show 64 ≤ j by omega)))
    have h2 : ¬ j < k := by omega
    simp [hj, this, h2]
theorem aH_andNot (x m : Nat) (hx : x < 2 ^ 128) (hm : m ≤ 128) : bits .andNot .u64 (aH x) (mskI (m - 64)) = aH (lowN x m) := by
  rw [aH_low]; exact andNot_msk _ _ (by omega) (by omega)
theorem aL_andNot (x m : Nat) : bits .andNot .u64 (aL x) (mskI (min m 64)) = aL (lowN x m) := by
  rw [aL_low]; exact andNot_msk _ _ (by omega) (by omega)
theorem aH_or (x m : Nat) (hx : x < 2 ^ 128) (hm : m ≤ 128) : bits .or .u64 (aH x) (mskI (m - 64)) = aH (topN x m) := by
  rw [aH_top]; exact or_msk _ _ (by omega) (by omega)
theorem aL_or (x m : Nat) : bits .or .u64 (aL x) (mskI (min m 64)) = aL (topN x m) := by
  rw [aL_top]; exact or_msk _ _ (by omega) (by omega)

set_option maxHeartbeats 400000 in
theorem start_calls (six : Bool) (x n : Nat) (hx : x < 2 ^ 128) (hn : n ≤ wideN six) (w : World) :
    Calls Tryd.prog 75 #[.agg #[.bool six, .int .u64 (aH x), .int .u64 (aL x)], .int .i64 n] w fun e w' => e = .returned (.agg #[.bool six, .int .u64 (aH (lowN x (wideN six - n))), .int .u64 (aL (lowN x (wideN six - n)))]) ∧ ((w.alloc (.cells #[.bool six, .int .u64 (aH (lowN x (wideN six - n))), .int .u64 (aL (lowN x (wideN six - n)))] 24)).alloc (.cells #[.bool six, .int .u64 (aH (lowN x (wideN six - n))), .int .u64 (aL (lowN x (wideN six - n)))] 24)).alloc (.cells #[.bool six, .int .u64 (aH x), .int .u64 (aL x)] 24) = w' := by
  have hw := wideN_le six
  obtain ⟨m, hm⟩ : ∃ m, wideN six - n = m := ⟨_, rfl⟩
  have e : ((wideN six : Nat) : Int) - (n : Int) = (m : Int) := by omega
  have m1 : m ≤ 128 := by omega
  rw [hm]
  have E := Lib.hid e
  clear e hm
  go_enter Tryd.func75, Tryd.ntmps75
  go_wp2_with fail
  refine (pwidth_calls six _ _ _).mono ?_
  rintro e w1 ⟨rfl, rfl⟩
  go_wp2_with fail
  rw [E.out]
  refine (ones_calls m m1 _).mono ?_
  rintro e w1 ⟨rfl, rfl⟩
  go_wp2
  go_returns
  rw [aH_andNot x m hx m1, aL_andNot]
  exact ⟨rfl, rfl⟩
end Go.Proofs.YtojdlhiibffnfaaDoor

/-
  Contracts of pre.Check.
-/
namespace Go.Proofs.YtojdlhiibffnfaaDoor
open Go.RowKit
set_option linter.unusedVariables false
set_option linter.unusedSimpArgs false

/-- What Check answers. -/
def chkE (six : Bool) (x : Nat) (n : Int) : Int := if x < 2 ^ wideN six then (if 0 ≤ n ∧ n ≤ wideN six then (if lowN x (wideN six - n.toNat) = x then 0 else 5) else 2) else 4
theorem mayB_num (six : Bool) (x : Nat) (hx : x < 2 ^ 128) : mayB six (aH x) (aL x) = decide (x < 2 ^ wideN six) := by
  cases six
  · show (decide (aH x = 0) && decide (aL x < 4294967296)) = decide (x < 4294967296)
    unfold aH aL
    rw [Bool.eq_iff_iff]; simp; omega
  · simp [mayB]; exact hx

set_option maxHeartbeats 400000 in
theorem check_form (six : Bool) (x : Nat) (n : Int) (hx : x < 2 ^ 128) (hv : ¬ x < 2 ^ wideN six) (w : World) :
    Calls Tryd.prog 55 #[.agg #[.bool six, .int .u64 (aH x), .int .u64 (aL x), .int .i64 n]] w fun e w' => e = .returned (.int .i64 4) ∧ Below w.heap.size w w' := by
  have hm := Lib.hid ((mayB_num six x hx).trans (decide_eq_false hv))
  have b0 := aH_0 x; have b1 := aL_0 x
  go_enter Tryd.func55, Tryd.ntmps55
  go_wp2_with fail
  refine (may_calls six _ _ b0 b1 _).mono ?_
  rintro e w1 ⟨rfl, rfl⟩
  rw [hm.out]
  go_wp2
  go_ret
  exact ⟨rfl, by go_grown⟩

set_option maxHeartbeats 400000 in
theorem check_neg (six : Bool) (x : Nat) (n : Int) (hx : x < 2 ^ 128) (hv : x < 2 ^ wideN six) (hn : n < 0) (w : World) :
    Calls Tryd.prog 55 #[.agg #[.bool six, .int .u64 (aH x), .int .u64 (aL x), .int .i64 n]] w fun e w' => e = .returned (.int .i64 2) ∧ Below w.heap.size w w' := by
  have hm := Lib.hid ((mayB_num six x hx).trans (decide_eq_true hv))
  have b0 := aH_0 x; have b1 := aL_0 x
  go_enter Tryd.func55, Tryd.ntmps55
  go_wp2_with fail
  refine (may_calls six _ _ b0 b1 _).mono ?_
  rintro e w1 ⟨rfl, rfl⟩
  rw [hm.out]
  go_wp2_with fail
  go_quiet ((fail))
  go_wp2
  go_ret
  exact ⟨rfl, below_drewN (by go_grown) _⟩

set_option maxHeartbeats 400000 in
theorem check_big (six : Bool) (x : Nat) (n : Int) (hx : x < 2 ^ 128) (hv : x < 2 ^ wideN six) (hn : (wideN six : Int) < n) (w : World) :
    Calls Tryd.prog 55 #[.agg #[.bool six, .int .u64 (aH x), .int .u64 (aL x), .int .i64 n]] w fun e w' => e = .returned (.int .i64 2) ∧ Below w.heap.size w w' := by
  have hm := Lib.hid ((mayB_num six x hx).trans (decide_eq_true hv))
  have b0 := aH_0 x; have b1 := aL_0 x
  have h0 : ¬ n < 0 := by omega
  have hd : decide (n < 0) = false := by simpa using h0
  go_enter Tryd.func55, Tryd.ntmps55
  go_wp2_with fail
  refine (may_calls six _ _ b0 b1 _).mono ?_
  rintro e w1 ⟨rfl, rfl⟩
  rw [hm.out]
  go_wp2_with fail
  go_region_held3 (fun w' => w'.cell? ⟨w.heap.size, 0, none⟩ = some (.bool six) ∧ w'.cell? ⟨w.heap.size, 1, none⟩ = some (.int .u64 (aH x)) ∧ w'.cell? ⟨w.heap.size, 2, none⟩ = some (.int .u64 (aL x)) ∧ w'.cell? ⟨w.heap.size, 3, none⟩ = some (.int .i64 n)) (simp [go_sem, World.cell?_alloc_past])
    ((go_at_call 74; refine (pwidth_calls six _ _ _).mono ?_; rintro e w' ⟨rfl, rfl⟩))
  go_wp2
  go_ret
  exact ⟨rfl, by go_grown⟩

set_option maxHeartbeats 400000 in
theorem check_ok (six : Bool) (x n : Nat) (hx : x < 2 ^ 128) (hv : x < 2 ^ wideN six) (hn : n ≤ wideN six) (hl : lowN x (wideN six - n) = x) (w : World) :
    Calls Tryd.prog 55 #[.agg #[.bool six, .int .u64 (aH x), .int .u64 (aL x), .int .i64 n]] w fun e w' => e = .returned (.int .i64 0) ∧ Below w.heap.size w w' := by
  have hm := Lib.hid ((mayB_num six x hx).trans (decide_eq_true hv))
  have b0 := aH_0 x; have b1 := aL_0 x
  have HL := Lib.hid hl
  clear hl
  go_enter Tryd.func55, Tryd.ntmps55
  go_wp2_with fail
  refine (may_calls six _ _ b0 b1 _).mono ?_
  rintro e w1 ⟨rfl, rfl⟩
  rw [hm.out]
  go_wp2_with fail
  go_region_held3 (fun w' => w'.cell? ⟨w.heap.size, 0, none⟩ = some (.bool six) ∧ w'.cell? ⟨w.heap.size, 1, none⟩ = some (.int .u64 (aH x)) ∧ w'.cell? ⟨w.heap.size, 2, none⟩ = some (.int .u64 (aL x)) ∧ w'.cell? ⟨w.heap.size, 3, none⟩ = some (.int .i64 n)) (simp [go_sem, World.cell?_alloc_past])
    ((go_at_call 74; refine (pwidth_calls six _ _ _).mono ?_; rintro e w' ⟨rfl, rfl⟩))
  go_wp2_with fail
  go_region_held3 (fun w' => w'.cell? ⟨w.heap.size, 0, none⟩ = some (.bool six) ∧ w'.cell? ⟨w.heap.size, 1, none⟩ = some (.int .u64 (aH x)) ∧ w'.cell? ⟨w.heap.size, 2, none⟩ = some (.int .u64 (aL x)) ∧ w'.cell? ⟨w.heap.size, 3, none⟩ = some (.int .i64 n)) (simp [go_sem, World.cell?_alloc_past])
    ((go_at_call 75; refine (start_calls six x n hx hn _).mono ?_; rintro e w' ⟨rfl, rfl⟩; rw [HL.out]))
  go_wp2
  go_ret
  exact ⟨rfl, by go_grown⟩

set_option maxHeartbeats 400000 in
theorem check_bits (six : Bool) (x n : Nat) (hx : x < 2 ^ 128) (hv : x < 2 ^ wideN six) (hn : n ≤ wideN six) (hl : lowN x (wideN six - n) ≠ x) (w : World) :
    Calls Tryd.prog 55 #[.agg #[.bool six, .int .u64 (aH x), .int .u64 (aL x), .int .i64 n]] w fun e w' => e = .returned (.int .i64 5) ∧ Below w.heap.size w w' := by
  have hm := Lib.hid ((mayB_num six x hx).trans (decide_eq_true hv))
  have b0 := aH_0 x; have b1 := aL_0 x
  obtain ⟨y, hy⟩ : ∃ y, lowN x (wideN six - n) = y := ⟨_, rfl⟩
  rw [hy] at hl
  have HL := Lib.hid hy
  clear hy
  by_cases hh : ¬ aH y = aH x
  · have hq : (aH y == aH x) = false := by simpa using hh
    go_enter Tryd.func55, Tryd.ntmps55
    go_wp2_with fail
    refine (may_calls six _ _ b0 b1 _).mono ?_
    rintro e w1 ⟨rfl, rfl⟩
    rw [hm.out]
    go_wp2_with fail
    go_region_held3 (fun w' => w'.cell? ⟨w.heap.size, 0, none⟩ = some (.bool six) ∧ w'.cell? ⟨w.heap.size, 1, none⟩ = some (.int .u64 (aH x)) ∧ w'.cell? ⟨w.heap.size, 2, none⟩ = some (.int .u64 (aL x)) ∧ w'.cell? ⟨w.heap.size, 3, none⟩ = some (.int .i64 n)) (simp [go_sem, World.cell?_alloc_past])
      ((go_at_call 74; refine (pwidth_calls six _ _ _).mono ?_; rintro e w' ⟨rfl, rfl⟩))
    go_wp2_with fail
    go_region_held3 (fun w' => w'.cell? ⟨w.heap.size, 0, none⟩ = some (.bool six) ∧ w'.cell? ⟨w.heap.size, 1, none⟩ = some (.int .u64 (aH x)) ∧ w'.cell? ⟨w.heap.size, 2, none⟩ = some (.int .u64 (aL x)) ∧ w'.cell? ⟨w.heap.size, 3, none⟩ = some (.int .i64 n)) (simp [go_sem, World.cell?_alloc_past])
      ((go_at_call 75; refine (start_calls six x n hx hn _).mono ?_; rintro e w' ⟨rfl, rfl⟩; rw [HL.out]))
    go_wp2
    go_ret
    exact ⟨rfl, by go_grown⟩
  · have hq : (aL y == aL x) = false := by
      have : aL y ≠ aL x := fun h => hl (a_inj (Decidable.of_not_not hh) h)
      simpa using this
    have HH := Lib.hid (Decidable.of_not_not hh)
    clear hh
    go_enter Tryd.func55, Tryd.ntmps55
    go_wp2_with fail
    refine (may_calls six _ _ b0 b1 _).mono ?_
    rintro e w1 ⟨rfl, rfl⟩
    rw [hm.out]
    go_wp2_with fail
    go_region_held3 (fun w' => w'.cell? ⟨w.heap.size, 0, none⟩ = some (.bool six) ∧ w'.cell? ⟨w.heap.size, 1, none⟩ = some (.int .u64 (aH x)) ∧ w'.cell? ⟨w.heap.size, 2, none⟩ = some (.int .u64 (aL x)) ∧ w'.cell? ⟨w.heap.size, 3, none⟩ = some (.int .i64 n)) (simp [go_sem, World.cell?_alloc_past])
      ((go_at_call 74; refine (pwidth_calls six _ _ _).mono ?_; rintro e w' ⟨rfl, rfl⟩))
    go_wp2_with fail
    go_region_held3 (fun w' => w'.cell? ⟨w.heap.size, 0, none⟩ = some (.bool six) ∧ w'.cell? ⟨w.heap.size, 1, none⟩ = some (.int .u64 (aH x)) ∧ w'.cell? ⟨w.heap.size, 2, none⟩ = some (.int .u64 (aL x)) ∧ w'.cell? ⟨w.heap.size, 3, none⟩ = some (.int .i64 n)) (simp [go_sem, World.cell?_alloc_past])
      ((go_at_call 75; refine (start_calls six x n hx hn _).mono ?_; rintro e w' ⟨rfl, rfl⟩; rw [HL.out, HH.out]))
    go_wp2
    go_ret
    exact ⟨rfl, by go_grown⟩
end Go.Proofs.YtojdlhiibffnfaaDoor

/-
  Block b holds this address.
-/
namespace Go.Proofs.YtojdlhiibffnfaaDoor
open Go.RowKit
def AddrAt (w : World) (b : Nat) (s : Bool) (h l : Int) : Prop := w.cell? ⟨b, 0, none⟩ = some (.bool s) ∧ w.cell? ⟨b, 1, none⟩ = some (.int .u64 h) ∧ w.cell? ⟨b, 2, none⟩ = some (.int .u64 l) ∧ b < w.heap.size
theorem AddrAt.keep {w w' : World} {b : Nat} {s : Bool} {h l : Int} (a : AddrAt w b s h l) (hb : Below w.heap.size w w') : AddrAt w' b s h l :=
  ⟨(hb.cell (p := ⟨b, 0, none⟩) a.2.2.2).trans a.1, (hb.cell (p := ⟨b, 1, none⟩) a.2.2.2).trans a.2.1, (hb.cell (p := ⟨b, 2, none⟩) a.2.2.2).trans a.2.2.1, Nat.lt_of_lt_of_le a.2.2.2 hb.size⟩
theorem AddrAt.alloc {w : World} {b : Nat} {s : Bool} {h l : Int} (a : AddrAt w b s h l) (o : Obj) : AddrAt (w.alloc o) b s h l :=
  a.keep ((Below.refl _ _).alloc (Nat.le_refl _) o)
theorem AddrAt.new (w : World) (s : Bool) (h l : Int) (t : TypeId) : AddrAt (w.alloc (.cells #[.bool s, .int .u64 h, .int .u64 l] t)) w.heap.size s h l :=
  ⟨by simp, by simp, by simp, by simp⟩
end Go.Proofs.YtojdlhiibffnfaaDoor

/-
  Block b holds this prefix.
-/
namespace Go.Proofs.YtojdlhiibffnfaaDoor
open Go.RowKit
set_option linter.unusedVariables false
set_option linter.unusedSimpArgs false
def PreAt (w : World) (b : Nat) (s : Bool) (h l n : Int) : Prop := w.cell? ⟨b, 0, none⟩ = some (.bool s) ∧ w.cell? ⟨b, 1, none⟩ = some (.int .u64 h) ∧ w.cell? ⟨b, 2, none⟩ = some (.int .u64 l) ∧ w.cell? ⟨b, 3, none⟩ = some (.int .i64 n) ∧ b < w.heap.size
theorem PreAt.keep {w w' : World} {b : Nat} {s : Bool} {h l n : Int} (a : PreAt w b s h l n) (hb : Below w.heap.size w w') : PreAt w' b s h l n :=
  ⟨(hb.cell (p := ⟨b, 0, none⟩) a.2.2.2.2).trans a.1, (hb.cell (p := ⟨b, 1, none⟩) a.2.2.2.2).trans a.2.1, (hb.cell (p := ⟨b, 2, none⟩) a.2.2.2.2).trans a.2.2.1, (hb.cell (p := ⟨b, 3, none⟩) a.2.2.2.2).trans a.2.2.2.1, Nat.lt_of_lt_of_le a.2.2.2.2 hb.size⟩
theorem PreAt.alloc {w : World} {b : Nat} {s : Bool} {h l n : Int} (a : PreAt w b s h l n) (o : Obj) : PreAt (w.alloc o) b s h l n :=
  a.keep ((Below.refl _ _).alloc (Nat.le_refl _) o)
theorem PreAt.new (w : World) (s : Bool) (h l n : Int) (t : TypeId) : PreAt (w.alloc (.cells #[.bool s, .int .u64 h, .int .u64 l, .int .i64 n] t)) w.heap.size s h l n :=
  ⟨by simp, by simp, by simp, by simp, by simp⟩
/-- .. and it may be written. -/
def PreV (w : World) (b : Nat) (s : Bool) (h l n : Int) : Prop := PreAt w b s h l n ∧ ∀ o, w.frozen? ⟨b, o, none⟩ = false
theorem PreV.keep {w w' : World} {b : Nat} {s : Bool} {h l n : Int} (a : PreV w b s h l n) (hb : Below w.heap.size w w') : PreV w' b s h l n :=
  ⟨a.1.keep hb, fun o => (hb.frozen (p := ⟨b, o, none⟩) a.1.2.2.2.2).trans (a.2 o)⟩
theorem PreV.alloc {w : World} {b : Nat} {s : Bool} {h l n : Int} (a : PreV w b s h l n) (o : Obj) : PreV (w.alloc o) b s h l n :=
  a.keep ((Below.refl _ _).alloc (Nat.le_refl _) o)
theorem PreV.new (w : World) (s : Bool) (h l n : Int) (t : TypeId) : PreV (w.alloc (.cells #[.bool s, .int .u64 h, .int .u64 l, .int .i64 n] t)) w.heap.size s h l n :=
  ⟨PreAt.new w s h l n t, fun o => by simp [go_sem]⟩
def AddrV (w : World) (b : Nat) (s : Bool) (h l : Int) : Prop := AddrAt w b s h l ∧ ∀ o, w.frozen? ⟨b, o, none⟩ = false
theorem AddrV.keep {w w' : World} {b : Nat} {s : Bool} {h l : Int} (a : AddrV w b s h l) (hb : Below w.heap.size w w') : AddrV w' b s h l :=
  ⟨a.1.keep hb, fun o => (hb.frozen (p := ⟨b, o, none⟩) a.1.2.2.2).trans (a.2 o)⟩
theorem AddrV.alloc {w : World} {b : Nat} {s : Bool} {h l : Int} (a : AddrV w b s h l) (o : Obj) : AddrV (w.alloc o) b s h l :=
  a.keep ((Below.refl _ _).alloc (Nat.le_refl _) o)
theorem AddrV.new (w : World) (s : Bool) (h l : Int) (t : TypeId) : AddrV (w.alloc (.cells #[.bool s, .int .u64 h, .int .u64 l] t)) w.heap.size s h l :=
  ⟨AddrAt.new w s h l t, fun o => by simp [go_sem]⟩
theorem AddrV.drew {w : World} {b : Nat} {s : Bool} {h l : Int} (a : AddrV w b s h l) : AddrV w.drew b s h l := a.keep (Below.refl _ _).drew
theorem PreV.drew {w : World} {b : Nat} {s : Bool} {h l n : Int} (a : PreV w b s h l n) : PreV w.drew b s h l n := a.keep (Below.refl _ _).drew
theorem AddrV.far {w : World} {b : Nat} {s : Bool} {h l : Int} (a : AddrV w b s h l) {p : Addr} (hp : b ≠ p.block) (u : Value) : AddrV (w.setCell p u) b s h l := by
  have ne : ∀ o, p ≠ ⟨b, o, none⟩ := fun o e => hp (by rw [e])
  exact ⟨⟨(World.cell?_setCell_other w p _ u (ne 0)).trans a.1.1, (World.cell?_setCell_other w p _ u (ne 1)).trans a.1.2.1, (World.cell?_setCell_other w p _ u (ne 2)).trans a.1.2.2.1, by simpa using a.1.2.2.2⟩, fun o => by rw [World.frozen?_setCell]; exact a.2 o⟩
theorem AddrV.store {w : World} {b : Nat} {s : Bool} {h l : Int} (a : AddrV w b s h l) (s2 : Bool) (h2 l2 : Int) :
    AddrV (((w.setCell ⟨b, 0, none⟩ (.bool s2)).setCell ⟨b, 1, none⟩ (.int .u64 h2)).setCell ⟨b, 2, none⟩ (.int .u64 l2)) b s2 h2 l2 := by
  obtain ⟨⟨a0, a1, a2, az⟩, af⟩ := a
  exact ⟨⟨by simp [go_sem, a0, a1, a2], by simp [go_sem, a0, a1, a2], by simp [go_sem, a0, a1, a2], by simpa using az⟩, fun o => by simp only [World.frozen?_setCell]; exact af o⟩
theorem PreV.far {w : World} {b : Nat} {s : Bool} {h l n : Int} (a : PreV w b s h l n) {p : Addr} (hp : b ≠ p.block) (u : Value) : PreV (w.setCell p u) b s h l n := by
  have ne : ∀ o, p ≠ ⟨b, o, none⟩ := fun o e => hp (by rw [e])
  exact ⟨⟨(World.cell?_setCell_other w p _ u (ne 0)).trans a.1.1, (World.cell?_setCell_other w p _ u (ne 1)).trans a.1.2.1, (World.cell?_setCell_other w p _ u (ne 2)).trans a.1.2.2.1, (World.cell?_setCell_other w p _ u (ne 3)).trans a.1.2.2.2.1, by simpa using a.1.2.2.2.2⟩, fun o => by rw [World.frozen?_setCell]; exact a.2 o⟩
theorem PreV.store {w : World} {b : Nat} {s : Bool} {h l n : Int} (a : PreV w b s h l n) (s2 : Bool) (h2 l2 n2 : Int) :
    PreV ((((w.setCell ⟨b, 0, none⟩ (.bool s2)).setCell ⟨b, 1, none⟩ (.int .u64 h2)).setCell ⟨b, 2, none⟩ (.int .u64 l2)).setCell ⟨b, 3, none⟩ (.int .i64 n2)) b s2 h2 l2 n2 := by
  obtain ⟨⟨a0, a1, a2, a3, az⟩, af⟩ := a
  exact ⟨⟨by simp [go_sem, a0, a1, a2, a3], by simp [go_sem, a0, a1, a2, a3], by simp [go_sem, a0, a1, a2, a3], by simp [go_sem, a0, a1, a2, a3], by simpa using az⟩, fun o => by simp only [World.frozen?_setCell]; exact af o⟩
end Go.Proofs.YtojdlhiibffnfaaDoor

/-
  Contract of pre.Check (one for all).
-/
namespace Go.Proofs.YtojdlhiibffnfaaDoor
open Go.RowKit
set_option linter.unusedVariables false
set_option linter.unusedSimpArgs false

theorem check_calls (six : Bool) (x : Nat) (n : Int) (hx : x < 2 ^ 128) (w : World) :
    Calls Tryd.prog 55 #[.agg #[.bool six, .int .u64 (aH x), .int .u64 (aL x), .int .i64 n]] w fun e w' => e = .returned (.int .i64 (chkE six x n)) ∧ Below w.heap.size w w' := by
  by_cases hv : x < 2 ^ wideN six
  · by_cases hn : 0 ≤ n ∧ n ≤ wideN six
    · obtain ⟨k, rfl⟩ := Int.eq_ofNat_of_zero_le hn.1
      have hk : k ≤ wideN six := by omega
      by_cases hl : lowN x (wideN six - k) = x
      · rw [show chkE six x k = 0 from by unfold chkE; rw [if_pos hv, if_pos hn, if_pos (by simpa using hl)]]
        exact check_ok six x k hx hv hk hl w
      · rw [show chkE six x k = 5 from by unfold chkE; rw [if_pos hv, if_pos hn, if_neg (by simpa using hl)]]
        exact check_bits six x k hx hv hk hl w
    · rw [show chkE six x n = 2 from by unfold chkE; rw [if_pos hv, if_neg hn]]
      by_cases h0 : n < 0
      · exact check_neg six x n hx hv h0 w
      · exact check_big six x n hx hv (by omega) w
  · rw [show chkE six x n = 4 from by unfold chkE; rw [if_neg hv]]
    exact check_form six x n hx hv w
theorem chk0 {six : Bool} {x : Nat} {n : Int} (h : chkE six x n = 0) : x < 2 ^ wideN six ∧ ∃ k : Nat, n = k ∧ k ≤ wideN six ∧ lowN x (wideN six - k) = x := by
  unfold chkE at h
  split at h
  · rename_i hv
    split at h
    · rename_i hn
      split at h
      · rename_i hl; exact ⟨hv, n.toNat, by omega, by omega, hl⟩
      · omega
    · omega
  · omega
theorem chk_mk (six : Bool) (x k : Nat) (hv : x < 2 ^ wideN six) (hk : k ≤ wideN six) (hl : lowN x (wideN six - k) = x) : chkE six x k = 0 := by
  unfold chkE; rw [if_pos hv, if_pos (by omega), if_pos (by simpa using hl)]
theorem lt128 {six : Bool} {x : Nat} (h : x < 2 ^ wideN six) : x < 2 ^ 128 := Nat.lt_of_lt_of_le h (Nat.pow_le_pow_right (by omega) (wideN_le six))

theorem may_num (six : Bool) (x : Nat) (hx : x < 2 ^ 128) (b : Bool) (hb : decide (x < 2 ^ wideN six) = b) (w : World) :
    Calls Tryd.prog 33 #[.agg #[.bool six, .int .u64 (aH x), .int .u64 (aL x)]] w fun e w' => e = .returned (.bool b) ∧ w.alloc (.cells #[.bool six, .int .u64 (aH x), .int .u64 (aL x)] 24) = w' := by
  rw [← hb, ← mayB_num six x hx]
  exact may_calls six _ _ (aH_0 x) (aL_0 x) w

/-- Two numbers are the same, or differ in a word. -/
theorem eq3 (y x : Nat) : y = x ∨ (aH y == aH x) = false ∨ aH y = aH x ∧ (aL y == aL x) = false := by
  by_cases h : aH y = aH x
  · by_cases l : aL y = aL x
    · exact .inl (a_inj h l)
    · exact .inr (.inr ⟨h, by simpa using l⟩)
  · exact .inr (.inl (by simpa using h))
theorem ne_of_h {y x : Nat} (h : (aH y == aH x) = false) : y ≠ x := by rintro rfl; simp at h
theorem ne_of_l {y x : Nat} (h : (aL y == aL x) = false) : y ≠ x := by rintro rfl; simp at h

end Go.Proofs.YtojdlhiibffnfaaDoor

/-
  Package pre: the last address of a prefix.
-/
namespace Go.Proofs.YtojdlhiibffnfaaDoor
open Go.RowKit
set_option linter.unusedVariables false
set_option linter.unusedSimpArgs false
set_option maxHeartbeats 400000 in
theorem pend_calls (six : Bool) (x n : Nat) (hx : x < 2 ^ 128) (hn : n ≤ wideN six) (w : World) :
    Calls Tryd.prog 56 #[.agg #[.bool six, .int .u64 (aH x), .int .u64 (aL x)], .int .i64 n] w fun e w' => e = .returned (.agg #[.bool six, .int .u64 (aH (topN x (wideN six - n))), .int .u64 (aL (topN x (wideN six - n)))]) ∧ ((w.alloc (.cells #[.bool six, .int .u64 (aH (topN x (wideN six - n))), .int .u64 (aL (topN x (wideN six - n)))] 24)).alloc (.cells #[.bool six, .int .u64 (aH (topN x (wideN six - n))), .int .u64 (aL (topN x (wideN six - n)))] 24)).alloc (.cells #[.bool six, .int .u64 (aH x), .int .u64 (aL x)] 24) = w' := by
  have hw := wideN_le six
  obtain ⟨m, hm⟩ : ∃ m, wideN six - n = m := ⟨_, rfl⟩
  have e : ((wideN six : Nat) : Int) - (n : Int) = (m : Int) := by omega
  have m1 : m ≤ 128 := by omega
  rw [hm]
  have E := Lib.hid e
  clear e hm
  go_enter Tryd.func56, Tryd.ntmps56
  go_wp2_with fail
  refine (pwidth_calls six _ _ _).mono ?_
  rintro e w1 ⟨rfl, rfl⟩
  go_wp2_with fail
  rw [E.out]
  refine (ones_calls m m1 _).mono ?_
  rintro e w1 ⟨rfl, rfl⟩
  go_wp2
  go_returns
  rw [aH_or x m hx m1, aL_or]
  exact ⟨rfl, rfl⟩
end Go.Proofs.YtojdlhiibffnfaaDoor

/-
  Contracts of pre.Span.
-/
namespace Go.Proofs.YtojdlhiibffnfaaDoor
open Go.RowKit
set_option linter.unusedVariables false
set_option linter.unusedSimpArgs false

set_option maxHeartbeats 400000 in
theorem span_err (six : Bool) (x : Nat) (n e0 : Int) (hx : x < 2 ^ 128) (hc : chkE six x n = e0) (he : (e0 == 0) = false) (w : World) :
    Calls Tryd.prog 27 #[.agg #[.bool six, .int .u64 (aH x), .int .u64 (aL x), .int .i64 n]] w fun e w' => e = .returned (.tuple #[.agg #[.bool false, .int .u64 0, .int .u64 0], .agg #[.bool false, .int .u64 0, .int .u64 0], .int .i64 e0]) ∧ Below w.heap.size w w' := by
  have C := Lib.hid hc
  clear hc
  go_enter Tryd.func27, Tryd.ntmps27
  go_wp2_with fail
  refine (check_calls six x n hx _).mono ?_
  rw [C.out]
  rintro e w1 ⟨rfl, hb1⟩
  have b1 := thenBelow ((((Below.refl _ w).alloc (Nat.le_refl _) _).alloc (by simp) _).alloc (by simp; omega) _) hb1
  have R := ((AddrV.new (w.alloc (.cells #[.bool six, .int .u64 (aH x), .int .u64 (aL x), .int .i64 n] 44)) false 0 0 24).alloc _).keep hb1
  have T := (AddrV.new ((w.alloc (.cells #[.bool six, .int .u64 (aH x), .int .u64 (aL x), .int .i64 n] 44)).alloc (.cells #[.bool false, .int .u64 0, .int .u64 0] 24)) false 0 0 24).keep hb1
  obtain ⟨⟨r0, r1, r2, rl⟩, rf⟩ := R
  obtain ⟨⟨t0, t1, t2, tl⟩, tf⟩ := T
  simp at r0 r1 r2 rl rf t0 t1 t2 tl tf
  have f0 := rf 0; have f1 := rf 1; have f2 := rf 2
  have g0 := tf 0; have g1 := tf 1; have g2 := tf 2
  clear hb1 rf tf
  go_wp2
  try simp only [Exit.inBlock, Exit.then]
  refine bodyPost_ret (by simp [results, Tryd.results27, go_sem, r0, r1, r2, t0, t1, t2]; try rfl) rfl ?_
  exact ⟨rfl, (((((b1.setCell (by simp) _).setCell (by simp) _).setCell (by simp) _).setCell (by simp; omega) _).setCell (by simp; omega) _).setCell (by simp; omega) _⟩
set_option maxHeartbeats 400000 in
theorem span_ok (six : Bool) (x n : Nat) (hx : x < 2 ^ 128) (hn : n ≤ wideN six) (hc : chkE six x n = 0) (w : World) :
    Calls Tryd.prog 27 #[.agg #[.bool six, .int .u64 (aH x), .int .u64 (aL x), .int .i64 n]] w fun e w' => e = .returned (.tuple #[.agg #[.bool six, .int .u64 (aH x), .int .u64 (aL x)], .agg #[.bool six, .int .u64 (aH (topN x (wideN six - n))), .int .u64 (aL (topN x (wideN six - n)))], .int .i64 0]) ∧ Below w.heap.size w w' := by
  have C := Lib.hid hc
  clear hc
  go_enter Tryd.func27, Tryd.ntmps27
  go_wp2_with fail
  refine (check_calls six x n hx _).mono ?_
  rw [C.out]
  rintro e w1 ⟨rfl, hb1⟩
  have b1 := thenBelow ((((Below.refl _ w).alloc (Nat.le_refl _) _).alloc (by simp) _).alloc (by simp; omega) _) hb1
  have P := (((PreAt.new w six (aH x) (aL x) n 44).alloc _).alloc _).keep hb1
  have R := ((AddrV.new (w.alloc (.cells #[.bool six, .int .u64 (aH x), .int .u64 (aL x), .int .i64 n] 44)) false 0 0 24).alloc _).keep hb1
  have T := (AddrV.new ((w.alloc (.cells #[.bool six, .int .u64 (aH x), .int .u64 (aL x), .int .i64 n] 44)).alloc (.cells #[.bool false, .int .u64 0, .int .u64 0] 24)) false 0 0 24).keep hb1
  obtain ⟨p0, p1, p2, p3, pl⟩ := P
  have HR := Lib.hid R
  have HT := Lib.hid T
  obtain ⟨⟨r0, r1, r2, rl⟩, rf⟩ := R
  obtain ⟨⟨t0, t1, t2, tl⟩, tf⟩ := T
  simp at r0 r1 r2 rl rf t0 t1 t2 tl tf
  have f0 := rf 0; have f1 := rf 1; have f2 := rf 2
  have g0 := tf 0; have g1 := tf 1; have g2 := tf 2
  clear hb1 rf tf
  go_wp2_with fail
  go_region_held3 (fun w' => w'.cell? ⟨w.heap.size, 0, none⟩ = some (.bool six) ∧ w'.cell? ⟨w.heap.size, 1, none⟩ = some (.int .u64 (aH x)) ∧ w'.cell? ⟨w.heap.size, 2, none⟩ = some (.int .u64 (aL x)) ∧ w'.cell? ⟨w.heap.size, 3, none⟩ = some (.int .i64 n)) (simp (disch := first | assumption | (simp; done) | (simp; omega)) [go_sem, World.cell?_alloc_past, World.cell?_setCell_far, p0, p1, p2, p3])
      ((go_at_call 56; refine (pend_calls six x n hx hn _).mono ?_; rintro e w' ⟨rfl, rfl⟩))
  rename_i K hK hH
  clear hH
  refine hK _ _ (wp_ret ?_)
  have hs := b1.size
  have BW := (((((((((b1.setCell (p := ⟨w.heap.size + 1, 0, none⟩) (by simp) (.bool six)).setCell (p := ⟨w.heap.size + 1, 1, none⟩) (by simp) (.int .u64 (aH x))).setCell (p := ⟨w.heap.size + 1, 2, none⟩) (by simp) (.int .u64 (aL x))).setCell (p := ⟨w.heap.size + 1 + 1, 0, none⟩) (by simp; omega) (.bool six)).setCell (p := ⟨w.heap.size + 1 + 1, 1, none⟩) (by simp; omega) (.int .u64 (aH (topN x (wideN six - n))))).setCell (p := ⟨w.heap.size + 1 + 1, 2, none⟩) (by simp; omega) (.int .u64 (aL (topN x (wideN six - n))))).alloc (by simp; omega) (.cells #[.bool six, .int .u64 (aH (topN x (wideN six - n))), .int .u64 (aL (topN x (wideN six - n)))] 24)).alloc (by simp; omega) (.cells #[.bool six, .int .u64 (aH (topN x (wideN six - n))), .int .u64 (aL (topN x (wideN six - n)))] 24)).alloc (by simp; omega) (.cells #[.bool six, .int .u64 (aH x), .int .u64 (aL x)] 24)).drew
  have RW := ((((((((HR.out.store six (aH x) (aL x)).far (p := ⟨w.heap.size + 1 + 1, 0, none⟩) (by simp) (.bool six)).far (p := ⟨w.heap.size + 1 + 1, 1, none⟩) (by simp) (.int .u64 (aH (topN x (wideN six - n))))).far (p := ⟨w.heap.size + 1 + 1, 2, none⟩) (by simp) (.int .u64 (aL (topN x (wideN six - n))))).alloc (.cells #[.bool six, .int .u64 (aH (topN x (wideN six - n))), .int .u64 (aL (topN x (wideN six - n)))] 24)).alloc (.cells #[.bool six, .int .u64 (aH (topN x (wideN six - n))), .int .u64 (aL (topN x (wideN six - n)))] 24)).alloc (.cells #[.bool six, .int .u64 (aH x), .int .u64 (aL x)] 24)).drew)
  have TW := ((((((HT.out.far (p := ⟨w.heap.size + 1, 0, none⟩) (by simp) (.bool six)).far (p := ⟨w.heap.size + 1, 1, none⟩) (by simp) (.int .u64 (aH x))).far (p := ⟨w.heap.size + 1, 2, none⟩) (by simp) (.int .u64 (aL x))).store six (aH (topN x (wideN six - n))) (aL (topN x (wideN six - n)))).alloc (.cells #[.bool six, .int .u64 (aH (topN x (wideN six - n))), .int .u64 (aL (topN x (wideN six - n)))] 24)).alloc (.cells #[.bool six, .int .u64 (aH (topN x (wideN six - n))), .int .u64 (aL (topN x (wideN six - n)))] 24)).alloc (.cells #[.bool six, .int .u64 (aH x), .int .u64 (aL x)] 24)
  have TW := TW.drew
  simp only [World.size_alloc] at RW TW
  revert BW RW TW
  generalize World.drew _ = W
  intro BW RW TW
  obtain ⟨⟨k0, k1, k2, _⟩, _⟩ := RW
  obtain ⟨⟨l0, l1, l2, _⟩, _⟩ := TW
  refine bodyPost_ret (v := .tuple #[.agg #[.bool six, .int .u64 (aH x), .int .u64 (aL x)], .agg #[.bool six, .int .u64 (aH (topN x (wideN six - n))), .int .u64 (aL (topN x (wideN six - n)))], .int .i64 0]) (by simp [results, Tryd.results27, go_sem, k0, k1, k2, l0, l1, l2]) rfl ⟨rfl, BW⟩
end Go.Proofs.YtojdlhiibffnfaaDoor

/-
  Contract of pre.cut.
-/
namespace Go.Proofs.YtojdlhiibffnfaaDoor
open Go.RowKit
set_option linter.unusedVariables false
set_option linter.unusedSimpArgs false

set_option maxHeartbeats 400000 in
theorem cut_calls (six : Bool) (x n : Nat) (hx : x < 2 ^ 128) (hn : n ≤ wideN six) (w : World) :
    Calls Tryd.prog 73 #[.agg #[.bool six, .int .u64 (aH x), .int .u64 (aL x)], .int .i64 n] w fun e w' => e = .returned (.agg #[.bool six, .int .u64 (aH (lowN x (wideN six - n))), .int .u64 (aL (lowN x (wideN six - n))), .int .i64 n]) ∧ Below w.heap.size w w' := by
  go_enter Tryd.func73, Tryd.ntmps73
  go_wp2_with fail
  refine (start_calls six x n hx hn _).mono ?_
  rintro e w1 ⟨rfl, rfl⟩
  go_wp2
  go_returns
  exact ⟨rfl, by go_grown⟩

end Go.Proofs.YtojdlhiibffnfaaDoor

/-
  Contracts of pre.Halves.
-/
namespace Go.Proofs.YtojdlhiibffnfaaDoor
open Go.RowKit
set_option linter.unusedVariables false
set_option linter.unusedSimpArgs false

theorem topN_lt128 (six : Bool) (x n : Nat) (hx : x < 2 ^ 128) : topN x (wideN six - n) < 2 ^ 128 := topN_lt x _ 128 hx (by have := wideN_le six; omega)
theorem lowN_lt128 (x k : Nat) (hx : x < 2 ^ 128) : lowN x k < 2 ^ 128 := lowN_lt x k 128 hx
/-- pre.end, the world above alone. -/
theorem pend_b (six : Bool) (x n : Nat) (hx : x < 2 ^ 128) (hn : n ≤ wideN six) (w : World) :
    Calls Tryd.prog 56 #[.agg #[.bool six, .int .u64 (aH x), .int .u64 (aL x)], .int .i64 n] w fun e w' => e = .returned (.agg #[.bool six, .int .u64 (aH (topN x (wideN six - n))), .int .u64 (aL (topN x (wideN six - n)))]) ∧ Below w.heap.size w w' :=
  (pend_calls six x n hx hn w).mono fun e w' ⟨he, hw⟩ => ⟨he, by subst hw; go_grown⟩

set_option maxHeartbeats 400000 in
theorem halves_err (six : Bool) (x : Nat) (n e0 : Int) (hx : x < 2 ^ 128) (hc : chkE six x n = e0) (he : (e0 == 0) = false) (w : World) :
    Calls Tryd.prog 60 #[.agg #[.bool six, .int .u64 (aH x), .int .u64 (aL x), .int .i64 n]] w fun e w' => e = .returned (.tuple #[.agg #[.bool false, .int .u64 0, .int .u64 0, .int .i64 0], .agg #[.bool false, .int .u64 0, .int .u64 0, .int .i64 0], .int .i64 e0]) ∧ Below w.heap.size w w' := by
  have C := Lib.hid hc
  clear hc
  go_enter Tryd.func60, Tryd.ntmps60
  go_wp2_with fail
  refine (check_calls six x n hx _).mono ?_
  rw [C.out]
  rintro e w1 ⟨rfl, hb1⟩
  have b1 := thenBelow ((((Below.refl _ w).alloc (Nat.le_refl _) _).alloc (by simp) _).alloc (by simp; omega) _) hb1
  have P := (((PreV.new w six (aH x) (aL x) n 44).alloc _).alloc _).keep hb1
  have R := ((PreV.new (w.alloc (.cells #[.bool six, .int .u64 (aH x), .int .u64 (aL x), .int .i64 n] 44)) false 0 0 0 44).alloc _).keep hb1
  have T := (PreV.new ((w.alloc (.cells #[.bool six, .int .u64 (aH x), .int .u64 (aL x), .int .i64 n] 44)).alloc (.cells #[.bool false, .int .u64 0, .int .u64 0, .int .i64 0] 44)) false 0 0 0 44).keep hb1
  simp only [World.size_alloc] at P R T
  have HP := Lib.hid P
  have HR := Lib.hid R
  have HT := Lib.hid T
  obtain ⟨⟨p0, p1, p2, p3, pl⟩, pf⟩ := P
  obtain ⟨⟨r0, r1, r2, r3, rl⟩, rf⟩ := R
  obtain ⟨⟨t0, t1, t2, t3, tl⟩, tf⟩ := T
  have f0 := rf 0; have f1 := rf 1; have f2 := rf 2; have f3 := rf 3
  have g0 := tf 0; have g1 := tf 1; have g2 := tf 2; have g3 := tf 3
  clear hb1 rf tf pf
  go_wp2
  try simp only [Exit.inBlock, Exit.then]
  refine bodyPost_ret (v := .tuple #[.agg #[.bool false, .int .u64 0, .int .u64 0, .int .i64 0], .agg #[.bool false, .int .u64 0, .int .u64 0, .int .i64 0], .int .i64 e0]) (by simp [results, Tryd.results60, go_sem, r0, r1, r2, r3, t0, t1, t2, t3]) rfl ?_
  exact ⟨rfl, (((((((b1.setCell (by simp) _).setCell (by simp) _).setCell (by simp) _).setCell (by simp) _).setCell (by simp; omega) _).setCell (by simp; omega) _).setCell (by simp; omega) _).setCell (by simp; omega) _⟩
set_option maxHeartbeats 400000 in
theorem halves_none (six : Bool) (x : Nat) (n : Int) (hn : n = (wideN six : Nat)) (hx : x < 2 ^ 128) (hc : chkE six x n = 0) (w : World) :
    Calls Tryd.prog 60 #[.agg #[.bool six, .int .u64 (aH x), .int .u64 (aL x), .int .i64 n]] w fun e w' => e = .returned (.tuple #[.agg #[.bool false, .int .u64 0, .int .u64 0, .int .i64 0], .agg #[.bool false, .int .u64 0, .int .u64 0, .int .i64 0], .int .i64 7]) ∧ Below w.heap.size w w' := by
  subst hn
  obtain ⟨n, hn⟩ : ∃ n : Int, ((wideN six : Nat) : Int) = n := ⟨_, rfl⟩
  have HN := Lib.hid hn
  rw [hn] at hc ⊢
  clear hn
  have C := Lib.hid hc
  clear hc
  go_enter Tryd.func60, Tryd.ntmps60
  go_wp2_with fail
  refine (check_calls six x n hx _).mono ?_
  rw [C.out]
  rintro e w1 ⟨rfl, hb1⟩
  have b1 := thenBelow ((((Below.refl _ w).alloc (Nat.le_refl _) _).alloc (by simp) _).alloc (by simp; omega) _) hb1
  have P := (((PreV.new w six (aH x) (aL x) n 44).alloc _).alloc _).keep hb1
  have R := ((PreV.new (w.alloc (.cells #[.bool six, .int .u64 (aH x), .int .u64 (aL x), .int .i64 n] 44)) false 0 0 0 44).alloc _).keep hb1
  have T := (PreV.new ((w.alloc (.cells #[.bool six, .int .u64 (aH x), .int .u64 (aL x), .int .i64 n] 44)).alloc (.cells #[.bool false, .int .u64 0, .int .u64 0, .int .i64 0] 44)) false 0 0 0 44).keep hb1
  simp only [World.size_alloc] at P R T
  have HP := Lib.hid P
  have HR := Lib.hid R
  have HT := Lib.hid T
  obtain ⟨⟨p0, p1, p2, p3, pl⟩, pf⟩ := P
  obtain ⟨⟨r0, r1, r2, r3, rl⟩, rf⟩ := R
  obtain ⟨⟨t0, t1, t2, t3, tl⟩, tf⟩ := T
  have f0 := rf 0; have f1 := rf 1; have f2 := rf 2; have f3 := rf 3
  have g0 := tf 0; have g1 := tf 1; have g2 := tf 2; have g3 := tf 3
  clear hb1 rf tf pf
  go_wp2_with fail
  go_region_held3 (fun w' => w'.cell? ⟨w.heap.size, 0, none⟩ = some (.bool six) ∧ w'.cell? ⟨w.heap.size, 1, none⟩ = some (.int .u64 (aH x)) ∧ w'.cell? ⟨w.heap.size, 2, none⟩ = some (.int .u64 (aL x)) ∧ w'.cell? ⟨w.heap.size, 3, none⟩ = some (.int .i64 n)) (simp (disch := first | assumption | (simp; done) | (simp; omega)) [go_sem, World.cell?_alloc_past, World.cell?_setCell_far, p0, p1, p2, p3])
      ((go_at_call 74; refine (pwidth_calls six _ _ _).mono ?_; rintro e w' ⟨rfl, rfl⟩; rw [HN.out]))
  have hs := b1.size
  have R2 := ((HR.out.alloc (.cells #[.bool six, .int .u64 (aH x), .int .u64 (aL x)] 24)).drew)
  have T2 := ((HT.out.alloc (.cells #[.bool six, .int .u64 (aH x), .int .u64 (aL x)] 24)).drew)
  have B2 := (b1.alloc (by omega) (.cells #[.bool six, .int .u64 (aH x), .int .u64 (aL x)] 24)).drew
  rename_i K hK hH
  clear hH HR HT HP p0 p1 p2 p3 pl r0 r1 r2 r3 rl t0 t1 t2 t3 tl f0 f1 f2 f3 g0 g1 g2 g3
  revert R2 T2 B2
  generalize World.drew _ = W
  intro R2 T2 B2
  obtain ⟨⟨r0, r1, r2, r3, rl⟩, rf⟩ := R2
  obtain ⟨⟨t0, t1, t2, t3, tl⟩, tf⟩ := T2
  have f0 := rf 0; have f1 := rf 1; have f2 := rf 2; have f3 := rf 3
  have g0 := tf 0; have g1 := tf 1; have g2 := tf 2; have g3 := tf 3
  clear rf tf
  go_wp2
  try simp only [Exit.inBlock, Exit.then]
  refine bodyPost_ret (v := .tuple #[.agg #[.bool false, .int .u64 0, .int .u64 0, .int .i64 0], .agg #[.bool false, .int .u64 0, .int .u64 0, .int .i64 0], .int .i64 7]) (by simp [results, Tryd.results60, go_sem, r0, r1, r2, r3, t0, t1, t2, t3]) rfl ?_
  exact ⟨rfl, (((((((B2.setCell (by simp) _).setCell (by simp) _).setCell (by simp) _).setCell (by simp) _).setCell (by simp; omega) _).setCell (by simp; omega) _).setCell (by simp; omega) _).setCell (by simp; omega) _⟩
/-- pre.cut at one more bit. -/
theorem cut_s (six : Bool) (x n : Nat) (hx : x < 2 ^ 128) (hn : n < wideN six) (w : World) :
    Calls Tryd.prog 73 #[.agg #[.bool six, .int .u64 (aH x), .int .u64 (aL x)], .int .i64 ((n : Int) + 1)] w fun e w' => e = .returned (.agg #[.bool six, .int .u64 (aH (lowN x (wideN six - (n + 1)))), .int .u64 (aL (lowN x (wideN six - (n + 1)))), .int .i64 ((n : Int) + 1)]) ∧ Below w.heap.size w w' :=
  cut_calls six x (n + 1) hx hn w

set_option maxHeartbeats 1000000 in
theorem halves_ok (six : Bool) (x n : Nat) (hn : n < wideN six) (hx : x < 2 ^ 128) (hc : chkE six x n = 0) (w : World) :
    Calls Tryd.prog 60 #[.agg #[.bool six, .int .u64 (aH x), .int .u64 (aL x), .int .i64 n]] w fun e w' => e = .returned (.tuple #[.agg #[.bool six, .int .u64 (aH (lowN x (wideN six - (n + 1)))), .int .u64 (aL (lowN x (wideN six - (n + 1)))), .int .i64 ((n : Int) + 1)], .agg #[.bool six, .int .u64 (aH (lowN (topN x (wideN six - n)) (wideN six - (n + 1)))), .int .u64 (aL (lowN (topN x (wideN six - n)) (wideN six - (n + 1)))), .int .i64 ((n : Int) + 1)], .int .i64 0]) ∧ Below w.heap.size w w' := by
  have hw128 := wideN_le six
  have hne : ((n : Int) == ((wideN six : Nat) : Int)) = false := by simp; omega
  have ht := topN_lt128 six x n hx
  have C := Lib.hid hc
  clear hc
  go_enter Tryd.func60, Tryd.ntmps60
  go_wp2_with fail
  refine (check_calls six x n hx _).mono ?_
  rw [C.out]
  rintro e w1 ⟨rfl, hb1⟩
  have b1 := thenBelow ((((Below.refl _ w).alloc (Nat.le_refl _) _).alloc (by simp) _).alloc (by simp; omega) _) hb1
  have P := (((PreV.new w six (aH x) (aL x) n 44).alloc _).alloc _).keep hb1
  have R := ((PreV.new (w.alloc (.cells #[.bool six, .int .u64 (aH x), .int .u64 (aL x), .int .i64 n] 44)) false 0 0 0 44).alloc _).keep hb1
  have T := (PreV.new ((w.alloc (.cells #[.bool six, .int .u64 (aH x), .int .u64 (aL x), .int .i64 n] 44)).alloc (.cells #[.bool false, .int .u64 0, .int .u64 0, .int .i64 0] 44)) false 0 0 0 44).keep hb1
  simp only [World.size_alloc] at P R T
  have HP := Lib.hid P
  have HR := Lib.hid R
  have HT := Lib.hid T
  obtain ⟨⟨p0, p1, p2, p3, pl⟩, pf⟩ := P
  obtain ⟨⟨r0, r1, r2, r3, rl⟩, rf⟩ := R
  obtain ⟨⟨t0, t1, t2, t3, tl⟩, tf⟩ := T
  have f0 := rf 0; have f1 := rf 1; have f2 := rf 2; have f3 := rf 3
  have g0 := tf 0; have g1 := tf 1; have g2 := tf 2; have g3 := tf 3
  clear hb1 rf tf pf
  go_wp2_with fail
  go_region_held3 (fun w' => w'.cell? ⟨w.heap.size, 0, none⟩ = some (.bool six) ∧ w'.cell? ⟨w.heap.size, 1, none⟩ = some (.int .u64 (aH x)) ∧ w'.cell? ⟨w.heap.size, 2, none⟩ = some (.int .u64 (aL x)) ∧ w'.cell? ⟨w.heap.size, 3, none⟩ = some (.int .i64 n)) (simp (disch := first | assumption | (simp; done) | (simp; omega)) [go_sem, World.cell?_alloc_past, World.cell?_setCell_far, p0, p1, p2, p3])
      ((go_at_call 74; refine (pwidth_calls six _ _ _).mono ?_; rintro e w' ⟨rfl, rfl⟩))
  have hs := b1.size
  go_wp2_with fail
  refine (cut_s six x n hx hn _).mono ?_
  rintro e w2 ⟨rfl, hb2⟩
  have P2 := ((HP.out.alloc _).drew).keep hb2
  have R2 := ((HR.out.alloc _).drew).keep hb2
  have T2 := ((HT.out.alloc _).drew).keep hb2
  have B2 := thenBelow (b1.alloc (by omega) _).drew hb2
  clear hb2 HR HT HP p0 p1 p2 p3 pl r0 r1 r2 r3 rl t0 t1 t2 t3 tl f0 f1 f2 f3 g0 g1 g2 g3
  have HP := Lib.hid P2
  have HR := Lib.hid R2
  have HT := Lib.hid T2
  obtain ⟨⟨p0, p1, p2, p3, pl⟩, pf⟩ := P2
  obtain ⟨⟨r0, r1, r2, r3, rl⟩, rf⟩ := R2
  have f0 := rf 0; have f1 := rf 1; have f2 := rf 2; have f3 := rf 3
  clear rf pf T2
  go_wp2_with fail
  have P3 := ((((HP.out.far (p := ⟨w.heap.size + 1, 0, none⟩) (by simp) (.bool six)).far (p := ⟨w.heap.size + 1, 1, none⟩) (by simp) (.int .u64 (aH (lowN x (wideN six - (n + 1)))))).far (p := ⟨w.heap.size + 1, 2, none⟩) (by simp) (.int .u64 (aL (lowN x (wideN six - (n + 1)))))).far (p := ⟨w.heap.size + 1, 3, none⟩) (by simp) (.int .i64 ((n : Int) + 1)))
  have R3 := HR.out.store six (aH (lowN x (wideN six - (n + 1)))) (aL (lowN x (wideN six - (n + 1)))) ((n : Int) + 1)
  have T3 := ((((HT.out.far (p := ⟨w.heap.size + 1, 0, none⟩) (by simp) (.bool six)).far (p := ⟨w.heap.size + 1, 1, none⟩) (by simp) (.int .u64 (aH (lowN x (wideN six - (n + 1)))))).far (p := ⟨w.heap.size + 1, 2, none⟩) (by simp) (.int .u64 (aL (lowN x (wideN six - (n + 1)))))).far (p := ⟨w.heap.size + 1, 3, none⟩) (by simp) (.int .i64 ((n : Int) + 1)))
  have B3 := ((((B2.setCell (p := ⟨w.heap.size + 1, 0, none⟩) (by show w.heap.size ≤ w.heap.size + 1; omega) (.bool six)).setCell (p := ⟨w.heap.size + 1, 1, none⟩) (by show w.heap.size ≤ w.heap.size + 1; omega) (.int .u64 (aH (lowN x (wideN six - (n + 1)))))).setCell (p := ⟨w.heap.size + 1, 2, none⟩) (by show w.heap.size ≤ w.heap.size + 1; omega) (.int .u64 (aL (lowN x (wideN six - (n + 1)))))).setCell (p := ⟨w.heap.size + 1, 3, none⟩) (by show w.heap.size ≤ w.heap.size + 1; omega) (.int .i64 ((n : Int) + 1)))
  clear HR HT HP p0 p1 p2 p3 pl r0 r1 r2 r3 rl f0 f1 f2 f3 B2
  revert P3 R3 T3 B3
  generalize ((((w2.setCell ⟨w.heap.size + 1, 0, none⟩ (.bool six)).setCell ⟨w.heap.size + 1, 1, none⟩ (.int .u64 (aH (lowN x (wideN six - (n + 1)))))).setCell ⟨w.heap.size + 1, 2, none⟩ (.int .u64 (aL (lowN x (wideN six - (n + 1)))))).setCell ⟨w.heap.size + 1, 3, none⟩ (.int .i64 ((n : Int) + 1))) = W
  intro P3 R3 T3 B3
  have HP := Lib.hid P3
  have HR := Lib.hid R3
  have HT := Lib.hid T3
  obtain ⟨⟨p0, p1, p2, p3, pl⟩, pf⟩ := P3
  clear R3 T3 pf
  have hwr : IntKind.i64.wrap ((n : Int) + 1) = (n : Int) + 1 := by rw [IntKind.wrap_i64]; omega
  go_region_held3 (fun w' => w'.cell? ⟨w.heap.size, 0, none⟩ = some (.bool six) ∧ w'.cell? ⟨w.heap.size, 1, none⟩ = some (.int .u64 (aH x)) ∧ w'.cell? ⟨w.heap.size, 2, none⟩ = some (.int .u64 (aL x)) ∧ w'.cell? ⟨w.heap.size, 3, none⟩ = some (.int .i64 n)) (first | (simp (disch := first | assumption | (simp; done) | (simp; omega)) [go_sem, World.cell?_alloc_past, World.cell?_setCell_far, p0, p1, p2, p3]; done) | exact ⟨P5.1.1, P5.1.2.1, P5.1.2.2.1, P5.1.2.2.2.1⟩ | exact ⟨P4.1.1, P4.1.2.1, P4.1.2.2.1, P4.1.2.2.2.1⟩ | (simp (disch := first | assumption | (simp; done) | (simp; omega)) [go_sem, World.cell?_alloc_past, World.cell?_setCell_far, P5.1.1, P5.1.2.1, P5.1.2.2.1, P5.1.2.2.2.1]; done))
    (first
      | (go_at_call 56; refine (pend_b six x n hx (by omega) _).mono ?_; rintro e w4 ⟨rfl, hb4⟩; have P4 := HP.out.drew.keep hb4; have R4 := HR.out.drew.keep hb4; have T4 := HT.out.drew.keep hb4; have b4 := thenBelow B3.drew hb4; clear hb4)
      | (go_at_call 73; refine (cut_s six (topN x (wideN six - n)) n ht hn _).mono ?_; rintro e w5 ⟨rfl, hb5⟩; have P5 := P4.keep hb5; have R5 := R4.keep hb5; have T5 := T4.keep hb5; have b5 := thenBelow b4 hb5; clear hb5; obtain ⟨⟨t0, t1, t2, t3, tl⟩, tf⟩ := T5; have g0 := tf 0; have g1 := tf 1; have g2 := tf 2; have g3 := tf 3))
  have R6 := ((((R5.far (p := ⟨w.heap.size + 1 + 1, 0, none⟩) (by simp) (.bool six)).far (p := ⟨w.heap.size + 1 + 1, 1, none⟩) (by simp) (.int .u64 (aH (lowN (topN x (wideN six - n)) (wideN six - (n + 1)))))).far (p := ⟨w.heap.size + 1 + 1, 2, none⟩) (by simp) (.int .u64 (aL (lowN (topN x (wideN six - n)) (wideN six - (n + 1)))))).far (p := ⟨w.heap.size + 1 + 1, 3, none⟩) (by simp) (.int .i64 ((n : Int) + 1)))
  have T6 := (show PreV w5 (w.heap.size + 1 + 1) false 0 0 0 from ⟨⟨t0, t1, t2, t3, tl⟩, tf⟩).store six (aH (lowN (topN x (wideN six - n)) (wideN six - (n + 1)))) (aL (lowN (topN x (wideN six - n)) (wideN six - (n + 1)))) ((n : Int) + 1)
  have B6 := ((((b5.setCell (p := ⟨w.heap.size + 1 + 1, 0, none⟩) (by show w.heap.size ≤ w.heap.size + 1 + 1; omega) (.bool six)).setCell (p := ⟨w.heap.size + 1 + 1, 1, none⟩) (by show w.heap.size ≤ w.heap.size + 1 + 1; omega) (.int .u64 (aH (lowN (topN x (wideN six - n)) (wideN six - (n + 1)))))).setCell (p := ⟨w.heap.size + 1 + 1, 2, none⟩) (by show w.heap.size ≤ w.heap.size + 1 + 1; omega) (.int .u64 (aL (lowN (topN x (wideN six - n)) (wideN six - (n + 1)))))).setCell (p := ⟨w.heap.size + 1 + 1, 3, none⟩) (by show w.heap.size ≤ w.heap.size + 1 + 1; omega) (.int .i64 ((n : Int) + 1)))
  clear HP HR HT p0 p1 p2 p3 pl P4 R4 T4 b4 P5 R5 t0 t1 t2 t3 tl tf g0 g1 g2 g3 B3
  revert R6 T6 B6
  generalize ((((w5.setCell ⟨w.heap.size + 1 + 1, 0, none⟩ (.bool six)).setCell ⟨w.heap.size + 1 + 1, 1, none⟩ (.int .u64 (aH (lowN (topN x (wideN six - n)) (wideN six - (n + 1)))))).setCell ⟨w.heap.size + 1 + 1, 2, none⟩ (.int .u64 (aL (lowN (topN x (wideN six - n)) (wideN six - (n + 1)))))).setCell ⟨w.heap.size + 1 + 1, 3, none⟩ (.int .i64 ((n : Int) + 1))) = W6
  intro R6 T6 B6
  have HR := Lib.hid R6
  have HT := Lib.hid T6
  obtain ⟨⟨r0, r1, r2, r3, rl⟩, rf⟩ := R6
  obtain ⟨⟨t0, t1, t2, t3, tl⟩, tf⟩ := T6
  have f0 := rf 0; have f1 := rf 1; have f2 := rf 2; have f3 := rf 3
  have g0 := tf 0; have g1 := tf 1; have g2 := tf 2; have g3 := tf 3
  clear rf tf
  go_wp2_with fail
  go_region
  rename_i K hK
  refine hK _ _ (wp_ret ?_)
  have R7 := (((((HR.out.store six (aH (lowN x (wideN six - (n + 1)))) (aL (lowN x (wideN six - (n + 1)))) ((n : Int) + 1)).far (p := ⟨w.heap.size + 1 + 1, 0, none⟩) (by simp) (.bool six)).far (p := ⟨w.heap.size + 1 + 1, 1, none⟩) (by simp) (.int .u64 (aH (lowN (topN x (wideN six - n)) (wideN six - (n + 1)))))).far (p := ⟨w.heap.size + 1 + 1, 2, none⟩) (by simp) (.int .u64 (aL (lowN (topN x (wideN six - n)) (wideN six - (n + 1)))))).far (p := ⟨w.heap.size + 1 + 1, 3, none⟩) (by simp) (.int .i64 ((n : Int) + 1))).drew
  have T7 := (((((HT.out.far (p := ⟨w.heap.size + 1, 0, none⟩) (by simp) (.bool six)).far (p := ⟨w.heap.size + 1, 1, none⟩) (by simp) (.int .u64 (aH (lowN x (wideN six - (n + 1)))))).far (p := ⟨w.heap.size + 1, 2, none⟩) (by simp) (.int .u64 (aL (lowN x (wideN six - (n + 1)))))).far (p := ⟨w.heap.size + 1, 3, none⟩) (by simp) (.int .i64 ((n : Int) + 1))).store six (aH (lowN (topN x (wideN six - n)) (wideN six - (n + 1)))) (aL (lowN (topN x (wideN six - n)) (wideN six - (n + 1)))) ((n : Int) + 1)).drew
  have B7 := ((((((((B6.setCell (p := ⟨w.heap.size + 1, 0, none⟩) (by show w.heap.size ≤ w.heap.size + 1; omega) (.bool six)).setCell (p := ⟨w.heap.size + 1, 1, none⟩) (by show w.heap.size ≤ w.heap.size + 1; omega) (.int .u64 (aH (lowN x (wideN six - (n + 1)))))).setCell (p := ⟨w.heap.size + 1, 2, none⟩) (by show w.heap.size ≤ w.heap.size + 1; omega) (.int .u64 (aL (lowN x (wideN six - (n + 1)))))).setCell (p := ⟨w.heap.size + 1, 3, none⟩) (by show w.heap.size ≤ w.heap.size + 1; omega) (.int .i64 ((n : Int) + 1))).setCell (p := ⟨w.heap.size + 1 + 1, 0, none⟩) (by show w.heap.size ≤ w.heap.size + 1 + 1; omega) (.bool six)).setCell (p := ⟨w.heap.size + 1 + 1, 1, none⟩) (by show w.heap.size ≤ w.heap.size + 1 + 1; omega) (.int .u64 (aH (lowN (topN x (wideN six - n)) (wideN six - (n + 1)))))).setCell (p := ⟨w.heap.size + 1 + 1, 2, none⟩) (by show w.heap.size ≤ w.heap.size + 1 + 1; omega) (.int .u64 (aL (lowN (topN x (wideN six - n)) (wideN six - (n + 1)))))).setCell (p := ⟨w.heap.size + 1 + 1, 3, none⟩) (by show w.heap.size ≤ w.heap.size + 1 + 1; omega) (.int .i64 ((n : Int) + 1))).drew
  clear HR HT r0 r1 r2 r3 rl t0 t1 t2 t3 tl f0 f1 f2 f3 g0 g1 g2 g3
  revert R7 T7 B7
  generalize World.drew _ = W7
  intro R7 T7 B7
  obtain ⟨⟨k0, k1, k2, k3, _⟩, _⟩ := R7
  obtain ⟨⟨l0, l1, l2, l3, _⟩, _⟩ := T7
  refine bodyPost_ret (v := .tuple #[.agg #[.bool six, .int .u64 (aH (lowN x (wideN six - (n + 1)))), .int .u64 (aL (lowN x (wideN six - (n + 1)))), .int .i64 ((n : Int) + 1)], .agg #[.bool six, .int .u64 (aH (lowN (topN x (wideN six - n)) (wideN six - (n + 1)))), .int .u64 (aL (lowN (topN x (wideN six - n)) (wideN six - (n + 1)))), .int .i64 ((n : Int) + 1)], .int .i64 0]) (by simp [results, Tryd.results60, go_sem, k0, k1, k2, k3, l0, l1, l2, l3]) rfl ⟨rfl, B7⟩
end Go.Proofs.YtojdlhiibffnfaaDoor

/-
  A row of cells that a call has made: it lies as well above a lower mark; it lies there as long as no block from before is touched.
-/
namespace Go.Proofs.YtojdlhiibffnfaaDoor
open Go.RowKit
theorem ownsLow {w : World} {base base' : Nat} {e : TypeId} {size : Nat} {v : Value} {n : Nat} {xs : List Value} (h : w.ownsRow base e size v n xs) (hb : base' ≤ base) : w.ownsRow base' e size v n xs := by
  refine ⟨h.1, ?_⟩
  rcases h.2 with h2 | ⟨g, cap, cur, a, b, c⟩
  · exact .inl h2
  · exact .inr ⟨g, cap, cur, a, Nat.le_trans hb b, c⟩
theorem ownsKeep {w w' : World} {base : Nat} {e : TypeId} {size : Nat} {v : Value} {n : Nat} {xs : List Value} (h : w.ownsRow base e size v n xs) (hb : Below w.heap.size w w') : w'.ownsRow base e size v n xs := by
  refine ⟨h.1, ?_⟩
  rcases h.2 with h2 | ⟨g, cap, cur, a, b, c, d⟩
  · exact .inl h2
  · have hg : g < w.heap.size := by
      by_cases hl : g < w.heap.size
      · exact hl
      · rw [Array.getElem?_eq_none (Nat.le_of_not_lt hl)] at c; cases c
    exact .inr ⟨g, cap, cur, a, b, (hb.block g hg).trans c, d⟩
end Go.Proofs.YtojdlhiibffnfaaDoor

/-
  Package cidr: cmp.Compare, cmp.Or and less.
-/
namespace Go.Proofs.YtojdlhiibffnfaaDoor
open Go.RowKit
set_option linter.unusedVariables false
set_option linter.unusedSimpArgs false

theorem isNaN_calls (a : Int) (w : World) : Calls Tryd.prog 77 #[.int .u64 a] w fun e w' => e = .returned (.bool false) ∧ w' = w := by
  go_enter Tryd.func77, Tryd.ntmps77
  go_wp2
  go_returns
  exact ⟨by simp, rfl⟩
def cmpI (a b : Int) : Int := if a < b then -1 else if b < a then 1 else 0
theorem cmp_calls (a b : Int) (w : World) : Calls Tryd.prog 59 #[.int .u64 a, .int .u64 b] w fun e w' => e = .returned (.int .i64 (cmpI a b)) ∧ w' = w := by
  go_enter Tryd.func59, Tryd.ntmps59
  go_wp2_with (first
    | (go_at_call 77; refine (isNaN_calls _ _).mono ?_; rintro e w' ⟨rfl, rfl⟩))
  all_goals go_returns
  all_goals unfold cmpI
  all_goals first
    | exact ⟨by rw [if_pos (by omega)]; rfl, rfl⟩
    | exact ⟨by rw [if_neg (by omega), if_pos (by omega)]; rfl, rfl⟩
    | exact ⟨by rw [if_neg (by omega), if_neg (by omega)]; rfl, rfl⟩
theorem or_calls (c d : Int) (g : Nat) (w : World) (h0 : w.cell? ⟨g, 0, none⟩ = some (.int .i64 c)) (h1 : w.cell? ⟨g, 1, none⟩ = some (.int .i64 d)) :
    Calls Tryd.prog 58 #[.slice (some ⟨g, 0, none⟩) 2 2] w fun e w' => e = .returned (.int .i64 (if c = 0 then d else c)) ∧ w' = w := by
  by_cases hc : c = 0
  · subst hc
    rw [if_pos rfl]
    by_cases hd : d = 0
    · subst hd
      go_enter Tryd.func58, Tryd.ntmps58
      go_wp2
      go_rounds 3
      go_returns
      exact ⟨rfl, rfl⟩
    · go_enter Tryd.func58, Tryd.ntmps58
      go_wp2
      go_rounds 3
      go_returns
      exact ⟨rfl, rfl⟩
  · rw [if_neg hc]
    go_enter Tryd.func58, Tryd.ntmps58
    go_wp2
    go_rounds 2
    go_returns
    exact ⟨rfl, rfl⟩
theorem or_is (c d r : Int) (hr : (if c = 0 then d else c) = r) (g : Nat) (w : World) (h0 : w.cell? ⟨g, 0, none⟩ = some (.int .i64 c)) (h1 : w.cell? ⟨g, 1, none⟩ = some (.int .i64 d)) :
    Calls Tryd.prog 58 #[.slice (some ⟨g, 0, none⟩) 2 2] w fun e w' => e = .returned (.int .i64 r) ∧ w' = w := by
  have := or_calls c d g w h0 h1
  rw [hr] at this
  exact this
theorem less_num (x y : Nat) : (if cmpI (aH x) (aH y) = 0 then cmpI (aL x) (aL y) else cmpI (aH x) (aH y)) < 0 ↔ x < y := by
  unfold cmpI aH aL
  repeat' split
  all_goals omega
set_option maxHeartbeats 400000 in
theorem less_calls (s t : Bool) (x y : Nat) (w : World) :
    Calls Tryd.prog 34 #[.agg #[.bool s, .int .u64 (aH x), .int .u64 (aL x)], .agg #[.bool t, .int .u64 (aH y), .int .u64 (aL y)]] w fun e w' => e = .returned (.bool (decide (x < y))) ∧ Below w.heap.size w w' := by
  have E : decide (x < y) = decide ((if cmpI (aH x) (aH y) = 0 then cmpI (aL x) (aL y) else cmpI (aH x) (aH y)) < 0) := decide_eq_decide.2 (less_num x y).symm
  have C0 := Lib.hid (cmp_calls (aH x) (aH y))
  have C1 := Lib.hid (cmp_calls (aL x) (aL y))
  rw [E]
  clear E
  obtain ⟨c, hc⟩ : ∃ c, cmpI (aH x) (aH y) = c := ⟨_, rfl⟩
  obtain ⟨d, hd⟩ : ∃ d, cmpI (aL x) (aL y) = d := ⟨_, rfl⟩
  rw [hc] at C0 ⊢
  rw [hd] at C1 ⊢
  clear hc hd
  obtain ⟨r, hr⟩ : ∃ r, (if c = 0 then d else c) = r := ⟨_, rfl⟩
  rw [hr]
  have O := Lib.hid (or_is c d r hr)
  clear hr
  have A := (AddrAt.new w s (aH x) (aL x) 24).alloc (.cells #[.bool t, .int .u64 (aH y), .int .u64 (aL y)] 24)
  have B := AddrAt.new (w.alloc (.cells #[.bool s, .int .u64 (aH x), .int .u64 (aL x)] 24)) t (aH y) (aL y) 24
  have bw : Below w.heap.size w ((w.alloc (.cells #[.bool s, .int .u64 (aH x), .int .u64 (aL x)] 24)).alloc (.cells #[.bool t, .int .u64 (aH y), .int .u64 (aL y)] 24)) := by go_grown
  simp only [World.size_alloc] at A B
  go_enter Tryd.func34, Tryd.ntmps34
  go_wp2_with fail
  revert A B bw
  generalize ((w.alloc (.cells #[.bool s, .int .u64 (aH x), .int .u64 (aL x)] 24)).alloc (.cells #[.bool t, .int .u64 (aH y), .int .u64 (aL y)] 24)) = w1
  intro A bw B
  obtain ⟨p0, p1, p2, pl⟩ := A
  obtain ⟨q0, q1, q2, ql⟩ := B
  have k0 := fun o => World.cell?_alloc_lt w1 o ⟨w.heap.size, 1, none⟩ pl
  have k1 := fun o => World.cell?_alloc_lt w1 o ⟨w.heap.size, 2, none⟩ pl
  have k2 := fun o => World.cell?_alloc_lt w1 o ⟨w.heap.size + 1, 1, none⟩ ql
  have k3 := fun o => World.cell?_alloc_lt w1 o ⟨w.heap.size + 1, 2, none⟩ ql
  go_region_held3 (fun w' => w'.cell? ⟨w.heap.size, 1, none⟩ = some (.int .u64 (aH x)) ∧ w'.cell? ⟨w.heap.size, 2, none⟩ = some (.int .u64 (aL x)) ∧ w'.cell? ⟨w.heap.size + 1, 1, none⟩ = some (.int .u64 (aH y)) ∧ w'.cell? ⟨w.heap.size + 1, 2, none⟩ = some (.int .u64 (aL y))) (simp (disch := first | assumption | (simp; done) | (simp; omega)) [go_sem, World.cell?_alloc_past, World.cell?_setCell_far, p1, p2, q1, q2, k0, k1, k2, k3])
    (first
      | (go_at_call 59; with_reducible refine (C0.out _).mono ?_; rintro e w' ⟨rfl, rfl⟩)
      | (go_at_call 59; with_reducible refine (C1.out _).mono ?_; rintro e w' ⟨rfl, rfl⟩)
      | (go_at_call 58; refine (O.out _ _ (by simp) (by simp)).mono ?_; rintro e w' ⟨rfl, rfl⟩))
  go_wp2
  go_returns
  exact ⟨rfl, by go_grown⟩
end Go.Proofs.YtojdlhiibffnfaaDoor

/-
  Sets of addresses as the smallest lists of blocks: of the program's text nothing is said here.
-/
namespace Go.Proofs.YtojdlhiibffnfaaDoor
set_option linter.unusedVariables false
set_option linter.unusedSimpArgs false

/-- An address of the block of 2^k addresses from x on. -/
def inB (x k a : Nat) : Prop := x ≤ a ∧ a < x + 2 ^ k
theorem pow_up (k : Nat) : 2 ^ (k + 1) = 2 ^ k + 2 ^ k := by rw [Nat.pow_succ]; omega
theorem pow_one (k : Nat) : 1 ≤ 2 ^ k := Nat.one_le_two_pow
theorem inB_self (x k : Nat) : inB x k x := ⟨Nat.le_refl _, by have := pow_one k; omega⟩
theorem inB_zero {x a : Nat} : inB x 0 a ↔ a = x := by unfold inB; simp; omega
theorem inB_up {x k a : Nat} : inB x (k + 1) a ↔ inB x k a ∨ inB (x + 2 ^ k) k a := by
  unfold inB; rw [pow_up]; omega
theorem inB_low {x k a : Nat} (h : inB x k a) : inB x (k + 1) a := inB_up.2 (.inl h)
theorem inB_high {x k a : Nat} (h : inB (x + 2 ^ k) k a) : inB x (k + 1) a := inB_up.2 (.inr h)
open Classical in
/-- The smallest list of blocks for the addresses of S in the block (x, k), in order. -/
noncomputable def canon (S : Nat → Prop) : Nat → Nat → List (Nat × Nat)
  | 0, x => if S x then [(x, 0)] else []
  | k + 1, x => if (∀ a, inB x (k + 1) a → S a) then [(x, k + 1)] else canon S k x ++ canon S k (x + 2 ^ k)
theorem canon_all {S : Nat → Prop} : ∀ {k x : Nat}, (∀ a, inB x k a → S a) → canon S k x = [(x, k)]
  | 0, x, h => by unfold canon; rw [if_pos (h x (inB_self x 0))]
  | k + 1, x, h => by unfold canon; rw [if_pos h]
theorem canon_half {S : Nat → Prop} {k x : Nat} (h : ¬ ∀ a, inB x (k + 1) a → S a) : canon S (k + 1) x = canon S k x ++ canon S k (x + 2 ^ k) := by
  conv => lhs; unfold canon
  rw [if_neg h]
theorem canon_none {S : Nat → Prop} : ∀ {k x : Nat}, (∀ a, inB x k a → ¬ S a) → canon S k x = []
  | 0, x, h => by unfold canon; rw [if_neg (h x (inB_self x 0))]
  | k + 1, x, h => by
    rw [canon_half (fun c => h x (inB_self _ _) (c x (inB_self _ _))), canon_none (fun a ha => h a (inB_low ha)), canon_none (fun a ha => h a (inB_high ha))]; rfl
theorem canon_ext {S T : Nat → Prop} : ∀ {k x : Nat}, (∀ a, inB x k a → (S a ↔ T a)) → canon S k x = canon T k x
  | 0, x, h => by
    unfold canon
    have := h x (inB_self x 0)
    by_cases c : S x
    · rw [if_pos c, if_pos (this.1 c)]
    · rw [if_neg c, if_neg (fun d => c (this.2 d))]
  | k + 1, x, h => by
    by_cases c : ∀ a, inB x (k + 1) a → S a
    · rw [canon_all c, canon_all (fun a ha => (h a ha).1 (c a ha))]
    · rw [canon_half c, canon_half (fun d => c (fun a ha => (h a ha).2 (d a ha))), canon_ext (fun a ha => h a (inB_low ha)), canon_ext (fun a ha => h a (inB_high ha))]
theorem canon_mem {S : Nat → Prop} {a : Nat} : ∀ {k x : Nat}, (∃ p ∈ canon S k x, inB p.1 p.2 a) ↔ inB x k a ∧ S a
  | 0, x => by
    unfold canon
    by_cases c : S x
    · rw [if_pos c]
      simp only [List.mem_singleton, exists_eq_left]
      exact ⟨fun h => ⟨h, (inB_zero.1 h) ▸ c⟩, fun h => h.1⟩
    · rw [if_neg c]
      constructor
      · rintro ⟨p, hp, _⟩; cases hp
      · rintro ⟨h, d⟩; exact absurd ((inB_zero.1 h) ▸ d) c
  | k + 1, x => by
    by_cases c : ∀ a, inB x (k + 1) a → S a
    · rw [canon_all c]
      simp only [List.mem_singleton, exists_eq_left]
      exact ⟨fun h => ⟨h, c a h⟩, fun h => h.1⟩
    · rw [canon_half c]
      constructor
      · rintro ⟨p, hp, hi⟩
        rcases List.mem_append.1 hp with h | h
        · have := (canon_mem (k := k) (x := x)).1 ⟨p, h, hi⟩; exact ⟨inB_low this.1, this.2⟩
        · have := (canon_mem (k := k) (x := x + 2 ^ k)).1 ⟨p, h, hi⟩; exact ⟨inB_high this.1, this.2⟩
      · rintro ⟨h, s⟩
        rcases inB_up.1 h with h | h
        · obtain ⟨p, hp, hi⟩ := canon_mem.2 ⟨h, s⟩; exact ⟨p, List.mem_append.2 (.inl hp), hi⟩
        · obtain ⟨p, hp, hi⟩ := canon_mem.2 ⟨h, s⟩; exact ⟨p, List.mem_append.2 (.inr hp), hi⟩
/-- Two whole halves: all is in. -/
theorem canon_join {S : Nat → Prop} {k x : Nat} (h : canon S k x ++ canon S k (x + 2 ^ k) = [(x, k), (x + 2 ^ k, k)]) : ∀ a, inB x (k + 1) a → S a := by
  intro a ha
  have : ∃ p ∈ canon S k x ++ canon S k (x + 2 ^ k), inB p.1 p.2 a := by
    rw [h]
    rcases inB_up.1 ha with c | c
    · exact ⟨_, .head _, c⟩
    · exact ⟨_, .tail _ (.head _), c⟩
  obtain ⟨p, hp, hi⟩ := this
  rcases List.mem_append.1 hp with c | c
  · exact (canon_mem.1 ⟨p, c, hi⟩).2
  · exact (canon_mem.1 ⟨p, c, hi⟩).2
theorem canon_whole {S : Nat → Prop} {k x : Nat} (h : canon S k x = [(x, k)]) : ∀ a, inB x k a → S a := fun a ha =>
  (canon_mem.1 ⟨(x, k), by rw [h]; exact .head _, ha⟩).2
/-- What lies in the list. -/
theorem canon_sub {S : Nat → Prop} : ∀ {k x : Nat} {p : Nat × Nat}, p ∈ canon S k x → x ≤ p.1 ∧ p.1 + 2 ^ p.2 ≤ x + 2 ^ k ∧ p.2 ≤ k ∧ ∃ c, p.1 = x + c * 2 ^ p.2
  | 0, x, p, h => by
    unfold canon at h
    split at h
    · rw [List.mem_singleton] at h; subst h; exact ⟨Nat.le_refl _, Nat.le_refl _, Nat.le_refl _, 0, by simp⟩
    · cases h
  | k + 1, x, p, h => by
    by_cases c : ∀ a, inB x (k + 1) a → S a
    · rw [canon_all c, List.mem_singleton] at h; subst h; exact ⟨Nat.le_refl _, Nat.le_refl _, Nat.le_refl _, 0, by simp⟩
    · rw [canon_half c] at h
      have h1k := pow_one k
      rw [pow_up]
      rcases List.mem_append.1 h with h | h
      · obtain ⟨a, b, e, d⟩ := canon_sub h; exact ⟨a, by omega, by omega, d⟩
      · obtain ⟨a, b, e, d, hd⟩ := canon_sub h
        refine ⟨by omega, by omega, by omega, d + 2 ^ (k - p.2), ?_⟩
        rw [Nat.add_mul, ← Nat.pow_add, show k - p.2 + p.2 = k by omega]; omega
theorem canon_in {S : Nat → Prop} {k x : Nat} {p : Nat × Nat} (h : p ∈ canon S k x) : ∀ a, inB p.1 p.2 a → S a := fun a ha => (canon_mem.1 ⟨p, h, ha⟩).2
/-- One behind the other. -/
theorem canon_row {S : Nat → Prop} : ∀ {k x : Nat}, List.Pairwise (fun p q : Nat × Nat => p.1 + 2 ^ p.2 ≤ q.1) (canon S k x)
  | 0, x => by unfold canon; split <;> simp
  | k + 1, x => by
    by_cases c : ∀ a, inB x (k + 1) a → S a
    · rw [canon_all c]; simp
    · rw [canon_half c]
      refine List.pairwise_append.2 ⟨canon_row, canon_row, fun p hp q hq => ?_⟩
      have h1 := canon_sub hp
      have h2 := canon_sub hq
      omega
/-- A block that is not the whole: its other half is not all in. -/
theorem canon_sib {S : Nat → Prop} : ∀ {k x : Nat} {p q : Nat × Nat}, p ∈ canon S k x → q ∈ canon S k x → p.2 = q.2 → p.1 + 2 ^ p.2 = q.1 → ¬ ∃ c, p.1 = x + c * 2 ^ (p.2 + 1)
  | 0, x, p, q, hp, hq, e, f => by
    have h1 := canon_sub hp; have h2 := canon_sub hq
    have := pow_one p.2; have := pow_one q.2; simp at h1 h2
    omega
  | k + 1, x, p, q, hp, hq, e, f => by
    by_cases c : ∀ a, inB x (k + 1) a → S a
    · rw [canon_all c, List.mem_singleton] at hp hq
      subst hp; subst hq
      have := pow_one (k + 1); simp at f
    · rw [canon_half c] at hp hq
      rcases List.mem_append.1 hp with hp | hp <;> rcases List.mem_append.1 hq with hq | hq
      · exact canon_sib hp hq e f
      · -- p the last of the lower, q the first of the upper: then both are the halves, or p's parent does not begin at p
        have h1 := canon_sub hp; have h2 := canon_sub hq
        rintro ⟨d, hd⟩
        have hk : p.2 ≤ k := h1.2.2.1
        by_cases hlt : p.2 < k
        · -- x + 2^k = p.1 + 2^p.2 = x + (2 d + 1) 2^p.2, but 2^(p.2+1) divides 2^k
          have h3 : d * 2 ^ (p.2 + 1) + 2 ^ p.2 = 2 ^ k := by omega
          have h4 : 2 ^ k = 2 ^ (k - p.2 - 1) * 2 ^ (p.2 + 1) := by rw [← Nat.pow_add]; congr 1; omega
          rw [h4] at h3
          have h5 : (d * 2 ^ (p.2 + 1) + 2 ^ p.2) % 2 ^ (p.2 + 1) = 0 := by rw [h3]; exact Nat.mul_mod_left _ _
          rw [Nat.add_comm, Nat.add_mul_mod_self_right, Nat.mod_eq_of_lt (by rw [pow_up]; have := pow_one p.2; omega)] at h5
          have := pow_one p.2; omega
        · have hpk : p.2 = k := by omega
          have hq1 : q.2 = k := by omega
          have hp1 : p.1 = x := by rw [hpk] at h1; omega
          have hq2 : q.1 = x + 2 ^ k := by rw [hpk] at f; omega
          refine c (fun a ha => ?_)
          rcases inB_up.1 ha with h | h
          · exact canon_in hp a (by rw [hp1, hpk]; exact h)
          · exact canon_in hq a (by rw [hq2, hq1]; exact h)
      · have h1 := canon_sub hp; have h2 := canon_sub hq; have := pow_one q.2; have := pow_one p.2; omega
      · rintro ⟨d, hd⟩
        have h1 := canon_sub hp
        by_cases hlt : p.2 < k
        · refine canon_sib hp hq e f ⟨d - 2 ^ (k - p.2 - 1), ?_⟩
          have h4 : 2 ^ k = 2 ^ (k - p.2 - 1) * 2 ^ (p.2 + 1) := by rw [← Nat.pow_add]; congr 1; omega
          have h5 : 2 ^ (k - p.2 - 1) ≤ d := by
            have : 2 ^ (k - p.2 - 1) * 2 ^ (p.2 + 1) ≤ d * 2 ^ (p.2 + 1) := by omega
            exact Nat.le_of_mul_le_mul_right this (pow_one _)
          rw [Nat.sub_mul, ← h4]; have : 2 ^ k ≤ d * 2 ^ (p.2 + 1) := by omega
          omega
        · have h2 := canon_sub hq
          have hpk : p.2 = k := by omega
          rw [hpk] at f h1
          have := pow_one q.2
          omega
end Go.Proofs.YtojdlhiibffnfaaDoor

/-
  append(x, y...) of two rows that calls have made.
-/
namespace Go.Proofs.YtojdlhiibffnfaaDoor
open Go.RowKit
set_option linter.unusedVariables false
set_option linter.unusedSimpArgs false

theorem below_grown {base n size : Nat} {w w1 : World} {e : TypeId} {v : Value} {xs : List Value} (hown : w.ownsRow base e size v n xs) (hg : w.grownBy w1 v.ownBlock) (hB : base ≤ w.heap.size) : Below base w w1 :=
  (Below.refl base w).grown hg hB (fun k hk => (hown.lt k hk).1)
/-- The cells of a row. -/
theorem owns_cells {base n size : Nat} {w : World} {e : TypeId} {v : Value} {xs : List Value} (h : w.ownsRow base e size v n xs) :
    (v = .slice none 0 0 ∧ n = 0 ∧ xs = []) ∨ ∃ g cap, v = .slice (some ⟨g, 0, none⟩) n cap ∧ base ≤ g ∧ g < w.heap.size ∧ n ≤ cap ∧ ∀ j u, xs[j]? = some u → w.cell? ((⟨g, 0, none⟩ : Addr).add j) = some u := by
  rcases h.2 with ⟨hv, h0⟩ | ⟨g, cap, cur, hv, hb, hg, hc, _, _, ht⟩
  · refine .inl ⟨hv, h0, ?_⟩
    have := h.1
    rw [h0, Nat.zero_mul] at this
    exact List.eq_nil_of_length_eq_zero this
  · refine .inr ⟨g, cap, hv, hb, ?_, hc, fun j u hu => World.news_of_block hg j u ?_⟩
    · rcases Nat.lt_or_ge g w.heap.size with hlt | hge
      · exact hlt
      · rw [Array.getElem?_eq_none hge] at hg; cases hg
    · rw [← ht, List.getElem?_take] at hu
      split at hu
      · exact hu
      · cases hu
section
variable {P : Program} {w : World}
theorem wp_append_two {o : Oper} {a : Act} {K : Act → World → Prop} {Q : Exit → Act → World → Prop} (s x : Operand) (t : TypeId)
    (ho : o.op = .call { callee := .builtin .append, args := #[s, x], argTypes := #[t, t] })
    (base : Nat) (e : TypeId) (i : TypeInfo) (z : Value) (size bytes : Nat) (ht : P.underlying t = some (.slice e)) (hi : P.info? e = some i) (hz : i.zero = some z)
    (hsize : i.size = size) (hby : i.bytes = bytes) (hzs : z.cells.size = size) (hsz : 0 < size)
    (v : Value) (n : Nat) (xs : List Value) (hs : a.eval s = v) (hown : w.ownsRow base e size v n xs)
    (v2 : Value) (base2 m : Nat) (ys : List Value) (hx : a.eval x = v2) (hown2 : w.ownsRow base2 e size v2 m ys) (h1 : ∀ u ∈ ys, u.oneCell' = true)
    (hbytes : (n + m) * bytes ≤ 140737488355328) (h63 : n + m ≤ maxLen) (hbase : base ≤ w.heap.size)
    (h : ∀ v' w', w'.ownsRow base e size v' (n + m) (xs ++ ys) → Below base w w' → K (a.put o.dst v') w') : o.wp P a w K Q := by
  rcases owns_cells hown2 with ⟨hv, h0, he⟩ | ⟨g, cap, hv, _, _, _, hc⟩
  · subst hv; subst h0; subst he
    have hrun := run_append_owned_none (P := P) (w := w) base t o.type e i size ht hi v n xs hown
    unfold Oper.wp
    simp [execOp, ho, resolve, invoke, builtin, hs, hx, hrun, Result.andThen]
    exact h v w (by simpa using hown) (Below.refl _ _)
  · subst hv
    exact wp_append_own w s x t ho base e i z size bytes ht hi hz hsize hby hzs hsz v n xs hs hown ⟨g, 0, none⟩ m cap ys hx hown2.1 hc h1 h63 hbytes hbase fun v' w' h2 h3 _ => h v' w' h2 (below_grown hown h3 hbase)
/-- At the list of a plain region's operations. -/
theorem wpList_append_two {ops : Array Oper} {rest : List Oper} {o : Oper} {a : Act} {Q : Exit → Act → World → Prop} (hgd : o.guard = none) (s x : Operand) (t : TypeId)
    (ho : o.op = .call { callee := .builtin .append, args := #[s, x], argTypes := #[t, t] })
    (base : Nat) (e : TypeId) (i : TypeInfo) (z : Value) (size bytes : Nat) (ht : P.underlying t = some (.slice e)) (hi : P.info? e = some i) (hz : i.zero = some z)
    (hsize : i.size = size) (hby : i.bytes = bytes) (hzs : z.cells.size = size) (hsz : 0 < size)
    (v : Value) (n : Nat) (xs : List Value) (hs : a.eval s = v) (hown : w.ownsRow base e size v n xs)
    (v2 : Value) (base2 m : Nat) (ys : List Value) (hx : a.eval x = v2) (hown2 : w.ownsRow base2 e size v2 m ys) (h1 : ∀ u ∈ ys, u.oneCell' = true)
    (hbytes : (n + m) * bytes ≤ 140737488355328) (h63 : n + m ≤ maxLen) (hbase : base ≤ w.heap.size)
    (h : ∀ v' w', w'.ownsRow base e size v' (n + m) (xs ++ ys) → Below base w w' → wpList P ops Q rest (a.put o.dst v') w') : wpList P ops Q (o :: rest) a w :=
  wpList_plain hgd fun _ hK => wp_append_two s x t ho base e i z size bytes ht hi hz hsize hby hzs hsz v n xs hs hown v2 base2 m ys hx hown2 h1 hbytes h63 hbase fun v' w' h2 h3 => hK _ _ (h v' w' h2 h3)
/-- At a step of a region that draws its order. -/
theorem step_append_two {ops : Array Oper} {o : Oper} {a : Act} {K : Act → World → Prop} {Q : Exit → Act → World → Prop} {E : Prop} (hgd : o.guard = none) (s x : Operand) (t : TypeId)
    (ho : o.op = .call { callee := .builtin .append, args := #[s, x], argTypes := #[t, t] })
    (base : Nat) (e : TypeId) (i : TypeInfo) (z : Value) (size bytes : Nat) (ht : P.underlying t = some (.slice e)) (hi : P.info? e = some i) (hz : i.zero = some z)
    (hsize : i.size = size) (hby : i.bytes = bytes) (hzs : z.cells.size = size) (hsz : 0 < size)
    (v : Value) (n : Nat) (xs : List Value) (hs : a.eval s = v) (hown : w.ownsRow base e size v n xs)
    (v2 : Value) (base2 m : Nat) (ys : List Value) (hx : a.eval x = v2) (hown2 : w.ownsRow base2 e size v2 m ys) (h1 : ∀ u ∈ ys, u.oneCell' = true)
    (hbytes : (n + m) * bytes ≤ 140737488355328) (h63 : n + m ≤ maxLen) (hbase : base ≤ w.heap.size)
    (h : ∀ v' w', w'.ownsRow base e size v' (n + m) (xs ++ ys) → Below base w w' → K (a.put o.dst v') w') :
    if Region.wanted o (yielded ops a.tmps) = true then Oper.wp P o a w K Q else E := by
  have hw : Region.wanted o (yielded ops a.tmps) = true := by simp [Region.wanted, hgd]
  rw [if_pos hw]
  exact wp_append_two s x t ho base e i z size bytes ht hi hz hsize hby hzs hsz v n xs hs hown v2 base2 m ys hx hown2 h1 hbytes h63 hbase h
end
end Go.Proofs.YtojdlhiibffnfaaDoor

/-
  Blocks of addresses as prefixes in memory; pre.Span and pre.Halves of a block.
-/
namespace Go.Proofs.YtojdlhiibffnfaaDoor
open Go.RowKit
set_option linter.unusedVariables false
set_option linter.unusedSimpArgs false

/-- The addresses from x on, 2^k of them, are a block of this family. -/
def AL (six : Bool) (x k : Nat) : Prop := k ≤ wideN six ∧ x + 2 ^ k ≤ 2 ^ wideN six ∧ ∃ c, x = c * 2 ^ k
theorem AL.top (six : Bool) : AL six 0 (wideN six) := ⟨Nat.le_refl _, by omega, 0, by simp⟩
theorem AL.low {six : Bool} {x k : Nat} (h : AL six x (k + 1)) : AL six x k := by
  obtain ⟨a, b, c, d⟩ := h
  have := pow_one k
  rw [pow_up] at b d
  exact ⟨by omega, by omega, c * 2, by rw [d, Nat.mul_add, Nat.mul_assoc, Nat.two_mul, Nat.mul_add]⟩
theorem AL.high {six : Bool} {x k : Nat} (h : AL six x (k + 1)) : AL six (x + 2 ^ k) k := by
  obtain ⟨a, b, c, d⟩ := h
  rw [pow_up] at b d
  refine ⟨by omega, by omega, c * 2 + 1, ?_⟩
  rw [d, Nat.add_mul, Nat.one_mul, Nat.mul_add, Nat.mul_assoc, Nat.two_mul, Nat.mul_add]
theorem AL.lt {six : Bool} {x k : Nat} (h : AL six x k) : x < 2 ^ wideN six := by have := pow_one k; have := h.2.1; omega
theorem AL.lt128 {six : Bool} {x k : Nat} (h : AL six x k) : x < 2 ^ 128 := YtojdlhiibffnfaaDoor.lt128 h.lt
theorem low_mul (c k : Nat) : lowN (c * 2 ^ k) k = c * 2 ^ k := by unfold lowN; rw [Nat.mul_div_cancel _ (Nat.two_pow_pos k)]
theorem AL.lowN {six : Bool} {x k : Nat} (h : AL six x k) : lowN x k = x := by obtain ⟨c, d⟩ := h.2.2; rw [d, low_mul]
theorem AL.topN {six : Bool} {x k : Nat} (h : AL six x k) : topN x k = x + (2 ^ k - 1) := by rw [topN_low, h.lowN]
theorem AL.chk {six : Bool} {x k : Nat} (h : AL six x k) : chkE six x ((wideN six - k : Nat) : Int) = 0 :=
  chk_mk six x _ h.lt (Nat.sub_le _ _) (by rw [show wideN six - (wideN six - k) = k by have := h.1; omega]; exact h.lowN)
theorem AL.halfTop {six : Bool} {x k : Nat} (h : AL six x (k + 1)) : Go.Proofs.YtojdlhiibffnfaaDoor.lowN (x + (2 ^ (k + 1) - 1)) k = x + 2 ^ k := by
  obtain ⟨c, d⟩ := h.high.2.2
  have h1 := pow_one k
  unfold Go.Proofs.YtojdlhiibffnfaaDoor.lowN
  have e : x + (2 ^ (k + 1) - 1) = 2 ^ k * c + (2 ^ k - 1) := by rw [pow_up, Nat.mul_comm, ← d]; omega
  rw [e, Nat.mul_add_div (Nat.two_pow_pos k), Nat.div_eq_of_lt (by omega), Nat.add_zero, d]

theorem span_al {six : Bool} {x k : Nat} (h : AL six x k) (w : World) :
    Calls Tryd.prog 27 #[.agg #[.bool six, .int .u64 (aH x), .int .u64 (aL x), .int .i64 ((wideN six - k : Nat) : Int)]] w fun e w' => e = .returned (.tuple #[.agg #[.bool six, .int .u64 (aH x), .int .u64 (aL x)], .agg #[.bool six, .int .u64 (aH (x + (2 ^ k - 1))), .int .u64 (aL (x + (2 ^ k - 1)))], .int .i64 0]) ∧ Below w.heap.size w w' := by
  have c := span_ok six x (wideN six - k) h.lt128 (Nat.sub_le _ _) h.chk w
  rw [show wideN six - (wideN six - k) = k by have := h.1; omega, h.topN] at c
  exact c
theorem halves_al {six : Bool} {x k : Nat} (h : AL six x (k + 1)) (w : World) :
    Calls Tryd.prog 60 #[.agg #[.bool six, .int .u64 (aH x), .int .u64 (aL x), .int .i64 ((wideN six - (k + 1) : Nat) : Int)]] w fun e w' => e = .returned (.tuple #[.agg #[.bool six, .int .u64 (aH x), .int .u64 (aL x), .int .i64 ((wideN six - k : Nat) : Int)], .agg #[.bool six, .int .u64 (aH (x + 2 ^ k)), .int .u64 (aL (x + 2 ^ k)), .int .i64 ((wideN six - k : Nat) : Int)], .int .i64 0]) ∧ Below w.heap.size w w' := by
  have hk := h.1
  have c := halves_ok six x (wideN six - (k + 1)) (by omega) h.lt128 h.chk w
  rw [show wideN six - (wideN six - (k + 1) + 1) = k by omega, show wideN six - (wideN six - (k + 1)) = k + 1 by omega, h.topN, h.halfTop, h.low.lowN, show ((wideN six - (k + 1) : Nat) : Int) + 1 = ((wideN six - k : Nat) : Int) by omega] at c
  exact c

/-- A prefix as it lies in a slice: family, address, Len. -/
abbrev PT := Bool × Nat × Int
def pcs (p : PT) : List Value := [.bool p.1, .int .u64 (aH p.2.1), .int .u64 (aL p.2.1), .int .i64 p.2.2]
def pRow (l : List PT) : List Value := l.flatMap pcs
theorem pRow_len (l : List PT) : (pRow l).length = l.length * 4 := by
  unfold pRow
  induction l with
  | nil => rfl
  | cons a l ih => rw [List.flatMap_cons, List.length_append, ih, List.length_cons]; simp [pcs]; omega
theorem pRow_app (l m : List PT) : pRow (l ++ m) = pRow l ++ pRow m := by unfold pRow; exact List.flatMap_append
theorem pRow_one (l : List PT) : ∀ u ∈ pRow l, u.oneCell' = true := by
  intro u hu
  unfold pRow at hu
  obtain ⟨p, _, h⟩ := List.mem_flatMap.1 hu
  simp only [pcs, List.mem_cons, List.not_mem_nil, or_false] at h
  rcases h with h | h | h | h <;> subst h <;> rfl
/-- A slice of prefixes that a call has made, its blocks from 'base' on. -/
abbrev Owned (w : World) (base : Nat) (v : Value) (l : List PT) : Prop := w.ownsRow base 44 4 v l.length (pRow l)
theorem owned_nil (w : World) (base : Nat) : Owned w base (.slice none 0 0) [] := World.ownsRow_nil _ _ _ _
theorem owned_one (w : World) (base : Nat) (hb : base ≤ w.heap.size) (s : Bool) (x : Nat) (n : Int) :
    Owned (w.alloc (.cells #[.bool s, .int .u64 (aH x), .int .u64 (aL x), .int .i64 n] 44)) base (.slice (some ⟨w.heap.size, 0, none⟩) 1 1) [(s, x, n)] :=
  ⟨rfl, .inr ⟨w.heap.size, 1, #[.bool s, .int .u64 (aH x), .int .u64 (aL x), .int .i64 n], rfl, hb, heap_alloc_new w _, Nat.le_refl _, by unfold maxLen; omega, rfl, rfl⟩⟩
theorem preCells {w : World} {b : Nat} {s : Bool} {h l n : Int} (a : PreAt w b s h l n) : w.cell? ⟨b, 0, none⟩ = some (.bool s) ∧ w.cell? ⟨b, 1, none⟩ = some (.int .u64 h) ∧ w.cell? ⟨b, 2, none⟩ = some (.int .u64 l) ∧ w.cell? ⟨b, 3, none⟩ = some (.int .i64 n) ∧ b < w.heap.size := a
theorem addrCells {w : World} {b : Nat} {s : Bool} {h l : Int} (a : AddrAt w b s h l) : w.cell? ⟨b, 0, none⟩ = some (.bool s) ∧ w.cell? ⟨b, 1, none⟩ = some (.int .u64 h) ∧ w.cell? ⟨b, 2, none⟩ = some (.int .u64 l) ∧ b < w.heap.size := a
theorem info_pre : (Tryd.prog.info? 44).map (fun i => (i.zero, i.size, i.bytes)) = some (some (.agg #[.bool false, .int .u64 0, .int .u64 0, .int .i64 0]), 4, 32) := by kernel_rfl
/-- What a call that hands back a list of prefixes says. -/
abbrev PresOut (l : List PT) (w : World) (e : Ending) (w' : World) : Prop := ∃ v, e = .returned v ∧ Owned w' w.heap.size v l ∧ Below w.heap.size w w'
/-- What a call that hands back a list of prefixes and an error says. -/
abbrev PresOutE (l : List PT) (E : Int) (w : World) (e : Ending) (w' : World) : Prop := ∃ v, e = .returned (.tuple #[v, .int .i64 E]) ∧ Owned w' w.heap.size v l ∧ Below w.heap.size w w'
def bl (six : Bool) (p : Nat × Nat) : PT := (six, p.1, ((wideN six - p.2 : Nat) : Int))
/-- The smallest list of prefixes of one family for the addresses of S in the block (x, k). -/
noncomputable def cn (six : Bool) (S : Nat → Prop) (k x : Nat) : List PT := (canon S k x).map (bl six)
theorem cn_all {six : Bool} {S : Nat → Prop} {k x : Nat} (h : ∀ a, inB x k a → S a) : cn six S k x = [(six, x, ((wideN six - k : Nat) : Int))] := by unfold cn; rw [canon_all h]; rfl
theorem cn_none {six : Bool} {S : Nat → Prop} {k x : Nat} (h : ∀ a, inB x k a → ¬ S a) : cn six S k x = [] := by unfold cn; rw [canon_none h]; rfl
theorem cn_half {six : Bool} {S : Nat → Prop} {k x : Nat} (h : ¬ ∀ a, inB x (k + 1) a → S a) : cn six S (k + 1) x = cn six S k x ++ cn six S k (x + 2 ^ k) := by unfold cn; rw [canon_half h, List.map_append]
end Go.Proofs.YtojdlhiibffnfaaDoor

/-
  Lists of blocks as sets of addresses: what 'within' leaves of a list, and what the recursion over halves answers. Of the program's text nothing is said here.
-/
namespace Go.Proofs.YtojdlhiibffnfaaDoor
set_option linter.unusedVariables false
set_option linter.unusedSimpArgs false

/-- The block (x, k) has all of the block (y, j). -/
def cov (x k y j : Nat) : Bool := decide (x ≤ y ∧ y + 2 ^ j ≤ x + 2 ^ k)
theorem cov_iff {x k y j : Nat} : cov x k y j = true ↔ x ≤ y ∧ y + 2 ^ j ≤ x + 2 ^ k := by unfold cov; exact decide_eq_true_iff
theorem cov_self (x k : Nat) : cov x k x k = true := cov_iff.2 ⟨Nat.le_refl _, Nat.le_refl _⟩
theorem cov_in {x k y j a : Nat} (h : cov x k y j = true) (ha : inB y j a) : inB x k a := by
  have := cov_iff.1 h; unfold inB at *; omega
/-- Blocks of one family: the one has the other one, or they have nothing of each other. -/
theorem al_three {six : Bool} {x k y j a : Nat} (hx : AL six x k) (hy : AL six y j) (h1 : inB x k a) (h2 : inB y j a) : cov x k y j = true ∨ cov y j x k = true := by
  obtain ⟨_, _, c, rfl⟩ := hx
  obtain ⟨_, _, d, rfl⟩ := hy
  unfold inB at h1 h2
  rcases Nat.le_total j k with hjk | hjk
  · refine .inl (cov_iff.2 ?_)
    obtain ⟨e, he⟩ : ∃ e, 2 ^ k = e * 2 ^ j := ⟨2 ^ (k - j), by rw [← Nat.pow_add]; congr 1; omega⟩
    have hp := pow_one j
    have e1 : c * 2 ^ k = c * e * 2 ^ j := by rw [he, Nat.mul_assoc]
    have e2 : c * 2 ^ k + 2 ^ k = (c * e + e) * 2 ^ j := by rw [Nat.add_mul, ← e1, ← he]
    have l1 : c * e < d + 1 := by
      have : c * e * 2 ^ j < (d + 1) * 2 ^ j := by rw [← e1, Nat.add_mul]; omega
      exact Nat.lt_of_mul_lt_mul_right this
    have l2 : d < c * e + e := by
      have : d * 2 ^ j < (c * e + e) * 2 ^ j := by rw [← e2]; omega
      exact Nat.lt_of_mul_lt_mul_right this
    constructor
    · rw [e1]; exact Nat.mul_le_mul_right _ (by omega)
    · rw [e2, show d * 2 ^ j + 2 ^ j = (d + 1) * 2 ^ j by rw [Nat.add_mul]; omega]; exact Nat.mul_le_mul_right _ (by omega)
  · refine .inr (cov_iff.2 ?_)
    obtain ⟨e, he⟩ : ∃ e, 2 ^ j = e * 2 ^ k := ⟨2 ^ (j - k), by rw [← Nat.pow_add]; congr 1; omega⟩
    have hp := pow_one k
    have e1 : d * 2 ^ j = d * e * 2 ^ k := by rw [he, Nat.mul_assoc]
    have e2 : d * 2 ^ j + 2 ^ j = (d * e + e) * 2 ^ k := by rw [Nat.add_mul, ← e1, ← he]
    have l1 : d * e < c + 1 := by
      have : d * e * 2 ^ k < (c + 1) * 2 ^ k := by rw [← e1, Nat.add_mul]; omega
      exact Nat.lt_of_mul_lt_mul_right this
    have l2 : c < d * e + e := by
      have : c * 2 ^ k < (d * e + e) * 2 ^ k := by rw [← e2]; omega
      exact Nat.lt_of_mul_lt_mul_right this
    constructor
    · rw [e1]; exact Nat.mul_le_mul_right _ (by omega)
    · rw [e2, show c * 2 ^ k + 2 ^ k = (c + 1) * 2 ^ k by rw [Nat.add_mul]; omega]; exact Nat.mul_le_mul_right _ (by omega)

abbrev BL := List (Nat × Nat)
/-- All are blocks of this family. -/
def AllAL (six : Bool) (l : BL) : Prop := ∀ q ∈ l, AL six q.1 q.2
/-- An address of one of them. -/
def inS (l : BL) (a : Nat) : Prop := ∃ q ∈ l, inB q.1 q.2 a
/-- Is one of them above the block? -/
def abv (x k : Nat) (l : BL) : Bool := l.any fun q => cov q.1 q.2 x k
/-- Those that lie in the block. -/
def blw (x k : Nat) (l : BL) : BL := l.filter fun q => cov x k q.1 q.2
/-- What the code's 'within' leaves. -/
def wth (x k : Nat) (l : BL) : BL := if abv x k l then [(x, k)] else blw x k l
theorem wth_al {six : Bool} {x k : Nat} {l : BL} (hx : AL six x k) (hl : AllAL six l) : AllAL six (wth x k l) := by
  intro q hq
  unfold wth at hq
  split at hq
  · rw [List.mem_singleton] at hq; subst hq; exact hx
  · exact hl q (List.mem_filter.1 hq).1
theorem wth_len (x k : Nat) (l : BL) : (wth x k l).length ≤ l.length := by
  unfold wth
  split
  · rename_i h
    obtain ⟨q, hq, _⟩ := List.any_eq_true.1 h
    have := List.length_pos_of_mem hq
    simp; omega
  · exact List.length_filter_le _ _
theorem abv_all {x k : Nat} {l : BL} (h : abv x k l = true) : ∀ a, inB x k a → inS l a := by
  intro a ha
  obtain ⟨q, hq, hc⟩ := List.any_eq_true.1 h
  exact ⟨q, hq, cov_in hc ha⟩
theorem blw_in {six : Bool} {x k : Nat} {l : BL} (hx : AL six x k) (hl : AllAL six l) (h : abv x k l = false) {a : Nat} (ha : inB x k a) : inS (blw x k l) a ↔ inS l a := by
  constructor
  · rintro ⟨q, hq, hi⟩; exact ⟨q, (List.mem_filter.1 hq).1, hi⟩
  · rintro ⟨q, hq, hi⟩
    rcases al_three hx (hl q hq) ha hi with c | c
    · exact ⟨q, List.mem_filter.2 ⟨hq, c⟩, hi⟩
    · have := List.any_eq_false.1 h q hq
      exact absurd c this
theorem wth_in {six : Bool} {x k : Nat} {l : BL} (hx : AL six x k) (hl : AllAL six l) {a : Nat} (ha : inB x k a) : inS (wth x k l) a ↔ inS l a := by
  unfold wth
  split
  · rename_i h
    exact ⟨fun _ => abv_all h a ha, fun _ => ⟨(x, k), .head _, ha⟩⟩
  · rename_i h
    exact blw_in hx hl (by simpa using h) ha
/-- The code's 'uniform', on what 'within' left. -/
def unif (x k : Nat) (l : BL) : Bool := match l with
  | [] => true
  | q :: _ => decide (q = (x, k))
theorem unif_wth {six : Bool} {x k : Nat} {l : BL} (hx : AL six x k) (hl : AllAL six l) (h : unif x k (wth x k l) = true) : (wth x k l = [(x, k)] ∧ ∀ a, inB x k a → inS l a) ∨ (wth x k l = [] ∧ ∀ a, inB x k a → ¬ inS l a) := by
  by_cases ha : abv x k l = true
  · exact .inl ⟨by unfold wth; rw [if_pos ha], abv_all ha⟩
  · have ha' : abv x k l = false := by simpa using ha
    have e : wth x k l = blw x k l := by unfold wth; rw [if_neg ha]
    rw [e] at h ⊢
    cases hb : blw x k l with
    | nil =>
      refine .inr ⟨rfl, fun a hi hs => ?_⟩
      obtain ⟨q, hq, _⟩ := (blw_in hx hl ha' hi).2 hs
      rw [hb] at hq; cases hq
    | cons q t =>
      rw [hb] at h
      have hq : q = (x, k) := of_decide_eq_true h
      have hm : q ∈ blw x k l := by rw [hb]; exact .head _
      have := List.any_eq_false.1 ha' q (List.mem_filter.1 hm).1
      rw [hq] at this
      exact absurd (cov_self x k) this
theorem nonunif_pos {x k : Nat} {l : BL} (h : unif x k (wth x k l) = false) : ∃ j, k = j + 1 := by
  cases k with
  | succ j => exact ⟨j, rfl⟩
  | zero =>
    exfalso
    unfold wth at h
    split at h
    · simp [unif] at h
    · cases hb : blw x 0 l with
      | nil => rw [hb] at h; simp [unif] at h
      | cons q t =>
        rw [hb] at h
        have hm : q ∈ blw x 0 l := by rw [hb]; exact .head _
        have c := cov_iff.1 (List.mem_filter.1 hm).2
        have hq : q.2 = 0 := by
          rcases Nat.eq_zero_or_pos q.2 with e | e
          · exact e
          · have : 2 ^ 1 ≤ 2 ^ q.2 := Nat.pow_le_pow_right (by omega) e
            simp at c this; omega
        have hq1 : q.1 = x := by have := c.2; rw [hq] at this; simp at this c; omega
        have : q = (x, 0) := by cases q; simp at hq hq1; rw [hq, hq1]
        simp [unif, this] at h
open Classical in
/-- The addresses that are chosen. -/
noncomputable def chS (c : Bool → Bool → Bool) (l m : BL) (a : Nat) : Prop := c (decide (inS l a)) (decide (inS m a)) = true
theorem chS_ext {c : Bool → Bool → Bool} {l m l' m' : BL} {a : Nat} (h1 : inS l a ↔ inS l' a) (h2 : inS m a ↔ inS m' a) : chS c l m a ↔ chS c l' m' a := by
  unfold chS
  rw [show (inS l a) = (inS l' a) from propext h1, show (inS m a) = (inS m' a) from propext h2]
theorem cn_ext {six : Bool} {S T : Nat → Prop} {k x : Nat} (h : ∀ a, inB x k a → (S a ↔ T a)) : cn six S k x = cn six T k x := by unfold cn; rw [canon_ext h]
/-- Inside the block the lists may be cut by 'within'. -/
theorem cn_wth {six : Bool} {c : Bool → Bool → Bool} {x k y j : Nat} {l m : BL} (hx : AL six x k) (hl : AllAL six l) (hm : AllAL six m) (hy : ∀ a, inB y j a → inB x k a) : cn six (chS c (wth x k l) (wth x k m)) j y = cn six (chS c l m) j y :=
  cn_ext fun a ha => chS_ext (wth_in hx hl (hy a ha)) (wth_in hx hm (hy a ha))
/-- Both lists are uniform: all or nothing. -/
theorem cn_unif {six : Bool} {c : Bool → Bool → Bool} {x k : Nat} {l m : BL} (hx : AL six x k) (hl : AllAL six l) (hm : AllAL six m) (h1 : unif x k (wth x k l) = true) (h2 : unif x k (wth x k m) = true) :
    cn six (chS c l m) k x = if c (decide (0 < (wth x k l).length)) (decide (0 < (wth x k m).length)) then [(six, x, ((wideN six - k : Nat) : Int))] else [] := by
  have key : ∀ (n : BL), AllAL six n → unif x k (wth x k n) = true → ∀ a, inB x k a → (inS n a ↔ 0 < (wth x k n).length) := by
    intro n hn hu a ha
    rcases unif_wth hx hn hu with ⟨e, h⟩ | ⟨e, h⟩
    · rw [e]; exact ⟨fun _ => by simp, fun _ => h a ha⟩
    · rw [e]; exact ⟨fun hs => absurd hs (h a ha), fun h => by simp at h⟩
  have k1 := key l hl h1
  have k2 := key m hm h2
  have e : ∀ a, inB x k a → (chS c l m a ↔ c (decide (0 < (wth x k l).length)) (decide (0 < (wth x k m).length)) = true) := by
    intro a ha
    unfold chS
    rw [decide_eq_decide.2 (k1 a ha), decide_eq_decide.2 (k2 a ha)]
  split
  · rename_i h
    exact cn_all fun a ha => (e a ha).2 h
  · rename_i h
    exact cn_none fun a ha hs => h ((e a ha).1 hs)
theorem bl_inj {six : Bool} {p q : Nat × Nat} (hp : p.2 ≤ wideN six) (hq : q.2 ≤ wideN six) (h : bl six p = bl six q) : p = q := by
  unfold bl at h
  simp only [Prod.mk.injEq, true_and] at h
  cases p; cases q
  simp only [Prod.mk.injEq] at *
  omega
/-- Halves: their lists behind one another, or the whole where both halves are whole. -/
theorem cn_join {six : Bool} {S : Nat → Prop} {x k : Nat} (hx : AL six x (k + 1)) :
    cn six S (k + 1) x = if cn six S k x ++ cn six S k (x + 2 ^ k) = [(six, x, ((wideN six - k : Nat) : Int)), (six, x + 2 ^ k, ((wideN six - k : Nat) : Int))] then [(six, x, ((wideN six - (k + 1) : Nat) : Int))] else cn six S k x ++ cn six S k (x + 2 ^ k) := by
  by_cases h : ∀ a, inB x (k + 1) a → S a
  · rw [if_pos, cn_all h]
    rw [cn_all (fun a ha => h a (inB_low ha)), cn_all (fun a ha => h a (inB_high ha))]; rfl
  · rw [if_neg, cn_half h]
    intro e
    refine h (canon_join (k := k) (x := x) ?_)
    have e2 : (canon S k x ++ canon S k (x + 2 ^ k)).map (bl six) = [(x, k), (x + 2 ^ k, k)].map (bl six) := by rw [List.map_append]; exact e
    have hk := hx.1
    have b1 : ∀ p ∈ canon S k x ++ canon S k (x + 2 ^ k), p.2 ≤ wideN six := by
      intro p hp
      rcases List.mem_append.1 hp with q | q <;> have := (canon_sub q).2.2.1 <;> omega
    generalize canon S k x ++ canon S k (x + 2 ^ k) = L at e2 b1
    match L, e2, b1 with
    | [p, q], e2, b1 =>
      simp only [List.map_cons, List.map_nil, List.cons.injEq, and_true] at e2
      rw [bl_inj (b1 p (by simp)) (by simp; omega) e2.1, bl_inj (b1 q (by simp)) (by simp; omega) e2.2]
    | [], e2, _ => simp at e2
    | [_], e2, _ => simp at e2
    | _ :: _ :: _ :: _, e2, _ => simp at e2
/-- How many of them lie in the block and are not the block. -/
def nb (x k : Nat) (l : BL) : Nat := l.countP fun q => cov x k q.1 q.2 && !decide (q = (x, k))
theorem nb_le (x k : Nat) (l : BL) : nb x k l ≤ l.length := List.countP_le_length
theorem count_two {α : Type} (P Q R : α → Bool) : ∀ l : List α, (∀ q ∈ l, P q = true → R q = true) → (∀ q ∈ l, Q q = true → R q = true) → (∀ q ∈ l, P q = true → Q q = true → False) → l.countP P + l.countP Q ≤ l.countP R
  | [], _, _, _ => by simp
  | q :: l, h1, h2, h3 => by
    have ih := count_two P Q R l (fun q hq => h1 q (.tail _ hq)) (fun q hq => h2 q (.tail _ hq)) (fun q hq => h3 q (.tail _ hq))
    have a := h1 q (.head _); have b := h2 q (.head _); have c := h3 q (.head _)
    rw [List.countP_cons, List.countP_cons, List.countP_cons]
    cases hp : P q <;> cases hq : Q q <;> cases hr : R q <;> simp_all <;> omega
theorem nb_half (x k : Nat) (l : BL) : nb x k l + nb (x + 2 ^ k) k l ≤ nb x (k + 1) l := by
  have hp := pow_one k
  refine count_two _ _ _ l (fun q _ h => ?_) (fun q _ h => ?_) (fun q _ h1 h2 => ?_)
  · simp only [Bool.and_eq_true, Bool.not_eq_true', decide_eq_false_iff_not] at h ⊢
    have c := cov_iff.1 h.1
    refine ⟨cov_iff.2 (by rw [pow_up]; omega), fun e => ?_⟩
    rw [e] at c; simp only [pow_up] at c; omega
  · simp only [Bool.and_eq_true, Bool.not_eq_true', decide_eq_false_iff_not] at h ⊢
    have c := cov_iff.1 h.1
    refine ⟨cov_iff.2 (by rw [pow_up]; omega), fun e => ?_⟩
    rw [e] at c; simp only [pow_up] at c; omega
  · simp only [Bool.and_eq_true] at h1 h2
    have c := cov_iff.1 h1.1
    have d := cov_iff.1 h2.1
    have := pow_one q.2
    omega
theorem nb_pos {x k : Nat} {l : BL} (h : unif x k (wth x k l) = false) : 1 ≤ nb x k l := by
  unfold wth at h
  split at h
  · simp [unif] at h
  · cases hb : blw x k l with
    | nil => rw [hb] at h; simp [unif] at h
    | cons q t =>
      rw [hb] at h
      have hm : q ∈ blw x k l := by rw [hb]; exact .head _
      obtain ⟨m1, m2⟩ := List.mem_filter.1 hm
      refine List.countP_pos_iff.2 ⟨q, m1, ?_⟩
      rw [m2]
      simpa [unif] using h
theorem cn_le_sum {six : Bool} {S : Nat → Prop} {k x : Nat} : (cn six S (k + 1) x).length ≤ 1 ∨ (cn six S (k + 1) x).length = (cn six S k x).length + (cn six S k (x + 2 ^ k)).length := by
  by_cases h : ∀ a, inB x (k + 1) a → S a
  · rw [cn_all h]; exact .inl (by simp)
  · rw [cn_half h, List.length_append]; exact .inr rfl
/-- How long such a list can be, at the most. -/
theorem cn_len {six : Bool} {c : Bool → Bool → Bool} {l m : BL} (hl : AllAL six l) (hm : AllAL six m) : ∀ {k x : Nat}, AL six x k → (cn six (chS c l m) k x).length ≤ 1 + k * (nb x k l + nb x k m)
  | k, x, hx => by
    by_cases h : unif x k (wth x k l) = true ∧ unif x k (wth x k m) = true
    · rw [cn_unif hx hl hm h.1 h.2]; split <;> simp
    · have hk : (∃ j, k = j + 1) ∧ 1 ≤ nb x k l + nb x k m := by
        by_cases h1 : unif x k (wth x k l) = true
        · have h2 : unif x k (wth x k m) = false := by
            cases e : unif x k (wth x k m) with
            | false => rfl
            | true => exact absurd ⟨h1, e⟩ h
          exact ⟨nonunif_pos h2, by have := nb_pos h2; omega⟩
        · have h2 : unif x k (wth x k l) = false := by simpa using h1
          exact ⟨nonunif_pos h2, by have := nb_pos h2; omega⟩
      obtain ⟨⟨j, rfl⟩, h1⟩ := hk
      rcases cn_le_sum (six := six) (S := chS c l m) (k := j) (x := x) with h | h
      · omega
      · rw [h]
        have a := cn_len hl hm (c := c) (k := j) (x := x) hx.low
        have b := cn_len hl hm (c := c) (k := j) (x := x + 2 ^ j) hx.high
        have e1 := nb_half x j l
        have e2 := nb_half x j m
        have e3 : (nb x j l + nb x j m) + (nb (x + 2 ^ j) j l + nb (x + 2 ^ j) j m) ≤ nb x (j + 1) l + nb x (j + 1) m := by omega
        generalize nb x (j + 1) l + nb x (j + 1) m = N at h1 e3 ⊢
        generalize nb x j l + nb x j m = A at a e3
        generalize nb (x + 2 ^ j) j l + nb (x + 2 ^ j) j m = B at b e3
        have e4 : j * A + j * B ≤ j * N := by rw [← Nat.mul_add]; exact Nat.mul_le_mul_left _ e3
        have e5 : (j + 1) * N = j * N + N := by rw [Nat.add_mul]; omega
        omega
theorem cn_len' {six : Bool} {c : Bool → Bool → Bool} {l m : BL} (hl : AllAL six l) (hm : AllAL six m) {k x : Nat} (hx : AL six x k) : (cn six (chS c l m) k x).length ≤ 1 + 128 * (l.length + m.length) := by
  have h1 := cn_len hl hm (c := c) hx
  have h2 := nb_le x k l
  have h3 := nb_le x k m
  have hk : k ≤ 128 := Nat.le_trans hx.1 (wideN_le six)
  have : k * (nb x k l + nb x k m) ≤ 128 * (l.length + m.length) := Nat.mul_le_mul hk (by omega)
  omega
end Go.Proofs.YtojdlhiibffnfaaDoor

/-
  Contracts of pre.checkBoth.
-/
namespace Go.Proofs.YtojdlhiibffnfaaDoor
open Go.RowKit
set_option linter.unusedVariables false
set_option linter.unusedSimpArgs false

/-- What checkBoth answers. -/
def bothE (s1 : Bool) (x : Nat) (n : Int) (s2 : Bool) (y : Nat) (m : Int) : Int := if chkE s1 x n = 0 then (if chkE s2 y m = 0 then (if s1 = s2 then 0 else 6) else chkE s2 y m) else chkE s1 x n

set_option maxHeartbeats 400000 in
theorem checkBoth_one (s1 s2 : Bool) (x y : Nat) (n m e0 : Int) (hx : x < 2 ^ 128) (hc : chkE s1 x n = e0) (he : (e0 == 0) = false) (w : World) :
    Calls Tryd.prog 71 #[.agg #[.bool s1, .int .u64 (aH x), .int .u64 (aL x), .int .i64 n], .agg #[.bool s2, .int .u64 (aH y), .int .u64 (aL y), .int .i64 m]] w fun e w' => e = .returned (.int .i64 e0) ∧ Below w.heap.size w w' := by
  have C := Lib.hid hc
  clear hc
  go_enter Tryd.func71, Tryd.ntmps71
  go_wp2_with fail
  refine (check_calls s1 x n hx _).mono ?_
  rw [C.out]
  rintro e w1 ⟨rfl, hb1⟩
  have b1 := thenBelow (((Below.refl _ w).alloc (Nat.le_refl _) _).alloc (by simp) _) hb1
  clear hb1
  go_wp2
  go_ret
  exact ⟨rfl, b1⟩
set_option maxHeartbeats 400000 in
theorem checkBoth_two (s1 s2 : Bool) (x y : Nat) (n m e0 : Int) (hx : x < 2 ^ 128) (hy : y < 2 ^ 128) (hc : chkE s1 x n = 0) (hd : chkE s2 y m = e0) (he : (e0 == 0) = false) (w : World) :
    Calls Tryd.prog 71 #[.agg #[.bool s1, .int .u64 (aH x), .int .u64 (aL x), .int .i64 n], .agg #[.bool s2, .int .u64 (aH y), .int .u64 (aL y), .int .i64 m]] w fun e w' => e = .returned (.int .i64 e0) ∧ Below w.heap.size w w' := by
  have C := Lib.hid hc
  have D := Lib.hid hd
  clear hc hd
  go_enter Tryd.func71, Tryd.ntmps71
  go_wp2_with fail
  refine (check_calls s1 x n hx _).mono ?_
  rw [C.out]
  rintro e w1 ⟨rfl, hb1⟩
  have b1 := thenBelow (((Below.refl _ w).alloc (Nat.le_refl _) _).alloc (by simp) _) hb1
  obtain ⟨q0, q1, q2, q3, ql⟩ := (PreAt.new (w.alloc (.cells #[.bool s1, .int .u64 (aH x), .int .u64 (aL x), .int .i64 n] 44)) s2 (aH y) (aL y) m 44).keep hb1
  simp at q0 q1 q2 q3 ql
  clear hb1
  go_wp2_with fail
  refine (check_calls s2 y m hy _).mono ?_
  rw [D.out]
  rintro e w2 ⟨rfl, hb2⟩
  have b2 := thenBelow b1 hb2
  clear hb2
  go_wp2
  go_ret
  exact ⟨rfl, b2⟩
set_option maxHeartbeats 400000 in
theorem checkBoth_fam (s1 s2 : Bool) (x y : Nat) (n m e0 : Int) (b : Bool) (hs : (!s1 == s2) = b) (hx : x < 2 ^ 128) (hy : y < 2 ^ 128) (hc : chkE s1 x n = 0) (hd : chkE s2 y m = 0) (he : (if b then 6 else 0) = e0) (w : World) :
    Calls Tryd.prog 71 #[.agg #[.bool s1, .int .u64 (aH x), .int .u64 (aL x), .int .i64 n], .agg #[.bool s2, .int .u64 (aH y), .int .u64 (aL y), .int .i64 m]] w fun e w' => e = .returned (.int .i64 e0) ∧ Below w.heap.size w w' := by
  subst he
  have C := Lib.hid hc
  have D := Lib.hid hd
  clear hc hd
  go_enter Tryd.func71, Tryd.ntmps71
  go_wp2_with fail
  refine (check_calls s1 x n hx _).mono ?_
  rw [C.out]
  rintro e w1 ⟨rfl, hb1⟩
  have b1 := thenBelow (((Below.refl _ w).alloc (Nat.le_refl _) _).alloc (by simp) _) hb1
  have P1 := ((PreAt.new w s1 (aH x) (aL x) n 44).alloc _).keep hb1
  have Q1 := (PreAt.new (w.alloc (.cells #[.bool s1, .int .u64 (aH x), .int .u64 (aL x), .int .i64 n] 44)) s2 (aH y) (aL y) m 44).keep hb1
  have Q1' := Q1
  obtain ⟨q0, q1, q2, q3, ql⟩ := Q1'
  simp at q0 q1 q2 q3 ql
  clear hb1
  go_wp2_with fail
  refine (check_calls s2 y m hy _).mono ?_
  rw [D.out]
  rintro e w2 ⟨rfl, hb2⟩
  have b2 := thenBelow b1 hb2
  clear q0 q1 q2 q3 ql
  obtain ⟨q0, q1, q2, q3, ql⟩ := Q1.keep hb2
  obtain ⟨p0, p1, p2, p3, pl⟩ := P1.keep hb2
  simp at q0 q1 q2 q3 ql
  clear hb2 P1 Q1
  cases b
  · go_wp2
    go_ret
    exact ⟨rfl, b2⟩
  · go_wp2
    go_ret
    exact ⟨rfl, b2⟩
theorem checkBoth_calls (s1 s2 : Bool) (x y : Nat) (n m : Int) (hx : x < 2 ^ 128) (hy : y < 2 ^ 128) (w : World) :
    Calls Tryd.prog 71 #[.agg #[.bool s1, .int .u64 (aH x), .int .u64 (aL x), .int .i64 n], .agg #[.bool s2, .int .u64 (aH y), .int .u64 (aL y), .int .i64 m]] w fun e w' => e = .returned (.int .i64 (bothE s1 x n s2 y m)) ∧ Below w.heap.size w w' := by
  unfold bothE
  by_cases h1 : chkE s1 x n = 0
  · rw [if_pos h1]
    by_cases h2 : chkE s2 y m = 0
    · rw [if_pos h2]
      exact checkBoth_fam s1 s2 x y n m _ (!s1 == s2) rfl hx hy h1 h2 (by cases s1 <;> cases s2 <;> rfl) w
    · rw [if_neg h2]
      exact checkBoth_two s1 s2 x y n m _ hx hy h1 rfl (by simpa using h2) w
  · rw [if_neg h1]
    exact checkBoth_one s1 s2 x y n m _ hx rfl (by simpa using h1) w
end Go.Proofs.YtojdlhiibffnfaaDoor

/-
  Contracts of pre.Covers.
-/
namespace Go.Proofs.YtojdlhiibffnfaaDoor
open Go.RowKit
set_option linter.unusedVariables false
set_option linter.unusedSimpArgs false

set_option maxHeartbeats 400000 in
theorem covers_err (s1 s2 : Bool) (x y : Nat) (n m e0 : Int) (hx : x < 2 ^ 128) (hy : y < 2 ^ 128) (hc : bothE s1 x n s2 y m = e0) (he : (e0 == 0) = false) (w : World) :
    Calls Tryd.prog 83 #[.agg #[.bool s1, .int .u64 (aH x), .int .u64 (aL x), .int .i64 n], .agg #[.bool s2, .int .u64 (aH y), .int .u64 (aL y), .int .i64 m]] w fun e w' => e = .returned (.tuple #[.bool false, .int .i64 e0]) ∧ Below w.heap.size w w' := by
  have C := Lib.hid hc
  clear hc
  go_enter Tryd.func83, Tryd.ntmps83
  go_wp2_with fail
  refine (checkBoth_calls s1 s2 x y n m hx hy _).mono ?_
  rw [C.out]
  rintro e w1 ⟨rfl, hb1⟩
  have b1 := thenBelow (((Below.refl _ w).alloc (Nat.le_refl _) _).alloc (by simp) _) hb1
  clear hb1
  go_wp2
  go_ret2
  exact ⟨rfl, b1⟩

set_option maxHeartbeats 1000000 in
theorem covers_long (six : Bool) (x y n m : Nat) (hx : x < 2 ^ 128) (hy : y < 2 ^ 128) (hc : bothE six x n six y m = 0) (hn : n ≤ wideN six) (hm : m < n) (w : World) :
    Calls Tryd.prog 83 #[.agg #[.bool six, .int .u64 (aH x), .int .u64 (aL x), .int .i64 n], .agg #[.bool six, .int .u64 (aH y), .int .u64 (aL y), .int .i64 m]] w fun e w' => e = .returned (.tuple #[.bool false, .int .i64 0]) ∧ Below w.heap.size w w' := by
  have C := Lib.hid hc
  have hd : decide (n ≤ m) = false := by simpa using hm
  clear hc
  go_enter Tryd.func83, Tryd.ntmps83
  go_wp2_with fail
  refine (checkBoth_calls six six x y n m hx hy _).mono ?_
  rw [C.out]
  rintro e w1 ⟨rfl, hb1⟩
  have b1 := thenBelow (((Below.refl _ w).alloc (Nat.le_refl _) _).alloc (by simp) _) hb1
  obtain ⟨q0, q1, q2, q3, ql⟩ := (PreAt.new (w.alloc (.cells #[.bool six, .int .u64 (aH x), .int .u64 (aL x), .int .i64 n] 44)) six (aH y) (aL y) m 44).keep hb1
  obtain ⟨p0, p1, p2, p3, pl⟩ := ((PreAt.new w six (aH x) (aL x) n 44).alloc _).keep hb1
  simp at q0 q1 q2 q3 ql
  clear hb1
  go_wp2_with fail
  go_quiet ((fail))
  go_wp2
  go_ret2
  exact ⟨rfl, below_drewN b1 _⟩

set_option maxHeartbeats 1000000 in
theorem covers_short (six : Bool) (x y n m z : Nat) (b : Bool) (hx : x < 2 ^ 128) (hy : y < 2 ^ 128) (hc : bothE six x n six y m = 0) (hn : n ≤ wideN six) (hm : n ≤ m) (hz : lowN y (wideN six - n) = z) (hb : decide (z = x) = b) (w : World) :
    Calls Tryd.prog 83 #[.agg #[.bool six, .int .u64 (aH x), .int .u64 (aL x), .int .i64 n], .agg #[.bool six, .int .u64 (aH y), .int .u64 (aL y), .int .i64 m]] w fun e w' => e = .returned (.tuple #[.bool b, .int .i64 0]) ∧ Below w.heap.size w w' := by
  have C := Lib.hid hc
  have Z := Lib.hid hz
  have B := Lib.hid hb
  clear hz hb
  clear hc
  go_enter Tryd.func83, Tryd.ntmps83
  go_wp2_with fail
  refine (checkBoth_calls six six x y n m hx hy _).mono ?_
  rw [C.out]
  rintro e w1 ⟨rfl, hb1⟩
  have b1 := thenBelow (((Below.refl _ w).alloc (Nat.le_refl _) _).alloc (by simp) _) hb1
  obtain ⟨q0, q1, q2, q3, ql⟩ := (PreAt.new (w.alloc (.cells #[.bool six, .int .u64 (aH x), .int .u64 (aL x), .int .i64 n] 44)) six (aH y) (aL y) m 44).keep hb1
  obtain ⟨p0, p1, p2, p3, pl⟩ := ((PreAt.new w six (aH x) (aL x) n 44).alloc _).keep hb1
  simp at q0 q1 q2 q3 ql
  clear hb1
  go_wp2_with fail
  rcases eq3 z x with h | h | ⟨h1, h⟩
  · go_region_held3 (fun w' => (w'.cell? ⟨w.heap.size + 1, 0, none⟩ = some (.bool six) ∧ w'.cell? ⟨w.heap.size + 1, 1, none⟩ = some (.int .u64 (aH y)) ∧ w'.cell? ⟨w.heap.size + 1, 2, none⟩ = some (.int .u64 (aL y)) ∧ w'.cell? ⟨w.heap.size + 1, 3, none⟩ = some (.int .i64 m)) ∧ w'.cell? ⟨w.heap.size, 0, none⟩ = some (.bool six) ∧ w'.cell? ⟨w.heap.size, 1, none⟩ = some (.int .u64 (aH x)) ∧ w'.cell? ⟨w.heap.size, 2, none⟩ = some (.int .u64 (aL x)) ∧ w'.cell? ⟨w.heap.size, 3, none⟩ = some (.int .i64 n)) (simp (disch := first | assumption | (simp; omega)) [go_sem, World.cell?_alloc_past, q0, q1, q2, q3, p0, p1, p2, p3])
      ((go_at_call 75; refine (start_calls six y n hy hn _).mono ?_; rintro e w' ⟨rfl, rfl⟩; rw [Z.out, h]))
    go_wp2
    go_ret2
    exact ⟨by rw [← B.out, h]; simp, by go_grown⟩
  · go_region_held3 (fun w' => (w'.cell? ⟨w.heap.size + 1, 0, none⟩ = some (.bool six) ∧ w'.cell? ⟨w.heap.size + 1, 1, none⟩ = some (.int .u64 (aH y)) ∧ w'.cell? ⟨w.heap.size + 1, 2, none⟩ = some (.int .u64 (aL y)) ∧ w'.cell? ⟨w.heap.size + 1, 3, none⟩ = some (.int .i64 m)) ∧ w'.cell? ⟨w.heap.size, 0, none⟩ = some (.bool six) ∧ w'.cell? ⟨w.heap.size, 1, none⟩ = some (.int .u64 (aH x)) ∧ w'.cell? ⟨w.heap.size, 2, none⟩ = some (.int .u64 (aL x)) ∧ w'.cell? ⟨w.heap.size, 3, none⟩ = some (.int .i64 n)) (simp (disch := first | assumption | (simp; omega)) [go_sem, World.cell?_alloc_past, q0, q1, q2, q3, p0, p1, p2, p3])
      ((go_at_call 75; refine (start_calls six y n hy hn _).mono ?_; rintro e w' ⟨rfl, rfl⟩; rw [Z.out]))
    go_wp2
    go_ret2
    exact ⟨by rw [← B.out, decide_eq_false (ne_of_h h)]; rfl, by go_grown⟩
  · have H1 := Lib.hid h1
    clear h1
    go_region_held3 (fun w' => (w'.cell? ⟨w.heap.size + 1, 0, none⟩ = some (.bool six) ∧ w'.cell? ⟨w.heap.size + 1, 1, none⟩ = some (.int .u64 (aH y)) ∧ w'.cell? ⟨w.heap.size + 1, 2, none⟩ = some (.int .u64 (aL y)) ∧ w'.cell? ⟨w.heap.size + 1, 3, none⟩ = some (.int .i64 m)) ∧ w'.cell? ⟨w.heap.size, 0, none⟩ = some (.bool six) ∧ w'.cell? ⟨w.heap.size, 1, none⟩ = some (.int .u64 (aH x)) ∧ w'.cell? ⟨w.heap.size, 2, none⟩ = some (.int .u64 (aL x)) ∧ w'.cell? ⟨w.heap.size, 3, none⟩ = some (.int .i64 n)) (simp (disch := first | assumption | (simp; omega)) [go_sem, World.cell?_alloc_past, q0, q1, q2, q3, p0, p1, p2, p3])
      ((go_at_call 75; refine (start_calls six y n hy hn _).mono ?_; rintro e w' ⟨rfl, rfl⟩; rw [Z.out, H1.out]))
    go_wp2
    go_ret2
    exact ⟨by rw [← B.out, decide_eq_false (ne_of_l h)]; rfl, by go_grown⟩
end Go.Proofs.YtojdlhiibffnfaaDoor

/-
  pre.Covers of two valid prefixes of one family.
-/
namespace Go.Proofs.YtojdlhiibffnfaaDoor
open Go.RowKit
set_option linter.unusedVariables false
set_option linter.unusedSimpArgs false
/-- Does the first cover the second? -/
def covD (six : Bool) (x n y m : Nat) : Bool := decide (n ≤ m) && decide (lowN y (wideN six - n) = x)
theorem covers_ok' (six : Bool) (x y n m : Nat) (hx : x < 2 ^ 128) (hy : y < 2 ^ 128) (hb : bothE six x n six y m = 0) (hn : n ≤ wideN six) (w : World) :
    Calls Tryd.prog 83 #[.agg #[.bool six, .int .u64 (aH x), .int .u64 (aL x), .int .i64 n], .agg #[.bool six, .int .u64 (aH y), .int .u64 (aL y), .int .i64 m]] w fun e w' => e = .returned (.tuple #[.bool (covD six x n y m), .int .i64 0]) ∧ Below w.heap.size w w' := by
  by_cases hm : n ≤ m
  · exact covers_short six x y n m _ _ hx hy hb hn hm rfl (by simp [covD, hm]) w
  · rw [show covD six x n y m = false from by simp [covD, hm]]
    exact covers_long six x y n m hx hy hb hn (by omega) w
end Go.Proofs.YtojdlhiibffnfaaDoor

/-
  Plain mathematics: the number that bits spell; adding a number to bits, from the lowest on.
-/
namespace Go.Proofs.YtojdlhiibffnfaaDoor
open Go.RowKit
set_option linter.unusedVariables false
set_option linter.unusedSimpArgs false

/-- The first k of the n lowest bits of x, the highest first. -/
def bitsTo (x : Int) (n k : Nat) : List Int := (List.range k).map fun j => bitW x (n - 1 - j)
theorem bitsTo_succ (x : Int) (n k : Nat) : bitsTo x n (k + 1) = bitsTo x n k ++ [bitW x (n - 1 - k)] := by simp [bitsTo, List.range_succ]
theorem bitsTo_length (x : Int) (n k : Nat) : (bitsTo x n k).length = k := by simp [bitsTo]
/-- The number that bits spell, the highest first. -/
def spell (l : List Int) : Int := l.foldl (fun a b => 2 * a + b) 0
theorem spell_snoc (l : List Int) (b : Int) : spell (l ++ [b]) = 2 * spell l + b := by simp [spell]
theorem spell_nil : spell [] = 0 := rfl
theorem spell_from (l : List Int) : ∀ a : Int, 0 ≤ a → (∀ b ∈ l, b = 0 ∨ b = 1) → 0 ≤ l.foldl (fun a b => 2 * a + b) a ∧ l.foldl (fun a b => 2 * a + b) a + 1 ≤ (a + 1) * 2 ^ l.length := by
  induction l with
  | nil => intro a ha _; simp; omega
  | cons b l ih =>
    intro a ha h
    have hb := h b (by simp)
    obtain ⟨g1, g2⟩ := ih (2 * a + b) (by omega) (fun x hx => h x (by simp [hx]))
    refine ⟨g1, Int.le_trans g2 ?_⟩
    rw [List.length_cons, Int.pow_succ]
    have hp : (0 : Int) < 2 ^ l.length := Int.pow_pos (by decide)
    have : (2 * a + b + 1) * 2 ^ l.length ≤ (2 * (a + 1)) * 2 ^ l.length := Int.mul_le_mul_of_nonneg_right (by omega) (by omega)
    have e : (a + 1) * (2 ^ l.length * 2) = 2 * (a + 1) * 2 ^ l.length := by rw [← Int.mul_assoc, Int.mul_comm _ 2, ← Int.mul_assoc]
    rw [e]; exact this
theorem spell_bd (l : List Int) (h : ∀ b ∈ l, b = 0 ∨ b = 1) : 0 ≤ spell l ∧ spell l + 1 ≤ 2 ^ l.length := by
  have := spell_from l 0 (by omega) h
  simpa [spell] using this

def hiTo (l : List Int) (k : Nat) : Int := spell (l.take (min k 64))
def loTo (l : List Int) (k : Nat) : Int := spell ((l.take k).drop 64)
def fourTo (l : List Int) (k : Nat) : Int := spell (l.take k)
theorem hiTo_lt (l : List Int) (k : Nat) (hk : k < 64) (hl : k < l.length) : hiTo l (k + 1) = 2 * hiTo l k + l[k] := by
  unfold hiTo
  rw [Nat.min_eq_left (by omega), Nat.min_eq_left (by omega), List.take_succ_eq_append_getElem hl, spell_snoc]
theorem loTo_lt (l : List Int) (k : Nat) (hk : k < 64) : loTo l (k + 1) = loTo l k := by
  unfold loTo
  rw [List.drop_of_length_le (by rw [List.length_take]; omega), List.drop_of_length_le (by rw [List.length_take]; omega)]
theorem hiTo_ge (l : List Int) (k : Nat) (hk : 64 ≤ k) : hiTo l (k + 1) = hiTo l k := by
  unfold hiTo
  rw [Nat.min_eq_right (by omega), Nat.min_eq_right hk]
theorem loTo_ge (l : List Int) (k : Nat) (hk : 64 ≤ k) (hl : k < l.length) : loTo l (k + 1) = 2 * loTo l k + l[k] := by
  unfold loTo
  rw [List.take_succ_eq_append_getElem hl, List.drop_append_of_le_length (by rw [List.length_take]; omega), spell_snoc]
theorem fourTo_succ (l : List Int) (k : Nat) (hl : k < l.length) : fourTo l (k + 1) = 2 * fourTo l k + l[k] := by
  unfold fourTo
  rw [List.take_succ_eq_append_getElem hl, spell_snoc]
theorem pow_le63 (n : Nat) (h : n ≤ 63) : (2 : Int) ^ n ≤ 9223372036854775808 := by
  have : (2 : Nat) ^ n ≤ 2 ^ 63 := Nat.pow_le_pow_right (by omega) h
  have h2 : ((2 ^ n : Nat) : Int) ≤ ((2 ^ 63 : Nat) : Int) := by exact_mod_cast this
  simpa using h2
theorem hiTo_bd (l : List Int) (k : Nat) (hk : k < 64) (h : ∀ b ∈ l, b = 0 ∨ b = 1) : 0 ≤ hiTo l k ∧ hiTo l k < 9223372036854775808 := by
  have := spell_bd (l.take (min k 64)) (fun b hb => h b (List.mem_of_mem_take hb))
  have h2 := pow_le63 (l.take (min k 64)).length (by rw [List.length_take]; omega)
  unfold hiTo; omega
theorem loTo_bd (l : List Int) (k : Nat) (hk : k < 128) (h : ∀ b ∈ l, b = 0 ∨ b = 1) : 0 ≤ loTo l k ∧ loTo l k < 9223372036854775808 := by
  have := spell_bd ((l.take k).drop 64) (fun b hb => h b (List.mem_of_mem_take (List.mem_of_mem_drop hb)))
  have h2 := pow_le63 ((l.take k).drop 64).length (by rw [List.length_drop, List.length_take]; omega)
  unfold loTo; omega
theorem fourTo_bd (l : List Int) (k : Nat) (hk : k < 64) (h : ∀ b ∈ l, b = 0 ∨ b = 1) : 0 ≤ fourTo l k ∧ fourTo l k < 9223372036854775808 := by
  have := spell_bd (l.take k) (fun b hb => h b (List.mem_of_mem_take hb))
  have h2 := pow_le63 (l.take k).length (by rw [List.length_take]; omega)
  unfold fourTo; omega


theorem spell_cons (b : Int) (l : List Int) : spell (b :: l) = b * 2 ^ l.length + spell l := by
  have key : ∀ (l : List Int) (a : Int), l.foldl (fun a b => 2 * a + b) a = a * 2 ^ l.length + l.foldl (fun a b => 2 * a + b) 0 := by
    intro l
    induction l with
    | nil => intro a; simp
    | cons c l ih =>
      intro a
      rw [List.foldl_cons, ih, List.foldl_cons, ih (2 * 0 + c), List.length_cons, Int.pow_succ, Int.add_mul]
      have : 2 * a * 2 ^ l.length = a * (2 ^ l.length * 2) := by rw [← Int.mul_assoc, Int.mul_comm 2 a, Int.mul_assoc a 2, Int.mul_comm 2, ← Int.mul_assoc]
      rw [this]
      simp [Int.add_assoc]
  unfold spell
  rw [List.foldl_cons, key]
  simp
theorem spell_append (l r : List Int) : spell (l ++ r) = spell l * 2 ^ r.length + spell r := by
  induction l with
  | nil => simp [spell_nil]
  | cons b l ih =>
    rw [List.cons_append, spell_cons, ih, spell_cons, List.length_append, Int.pow_add, Int.add_mul, Int.mul_assoc, Int.add_assoc]

/-- Adding c to bits, the lowest last: the bits, and what is carried out. -/
def addBits : List Int → Int → List Int × Int
  | [], c => ([], c)
  | b :: l, c => ((b + (addBits l c).2) % 2 :: (addBits l c).1, (b + (addBits l c).2) / 2)
theorem addBits_length (l : List Int) (c : Int) : (addBits l c).1.length = l.length := by
  induction l with
  | nil => rfl
  | cons b l ih => simp [addBits, ih]
theorem addBits_01 (l : List Int) (c : Int) : ∀ b ∈ (addBits l c).1, b = 0 ∨ b = 1 := by
  induction l with
  | nil => intro b hb; simp [addBits] at hb
  | cons b l ih =>
    intro x hx
    simp only [addBits, List.mem_cons] at hx
    rcases hx with rfl | hx
    · omega
    · exact ih x hx
theorem addBits_bd (l : List Int) (c m : Int) (hm : 1 ≤ m) (h : ∀ b ∈ l, b = 0 ∨ b = 1) (hc : -m ≤ c ∧ c ≤ m) : -m ≤ (addBits l c).2 ∧ (addBits l c).2 ≤ m := by
  induction l with
  | nil => exact hc
  | cons b l ih =>
    have h1 := ih (fun x hx => h x (by simp [hx]))
    have h2 := h b (by simp)
    simp only [addBits]
    omega
theorem addBits_sum (l : List Int) (c : Int) : spell l + c = (addBits l c).2 * 2 ^ l.length + spell (addBits l c).1 := by
  induction l with
  | nil => simp [addBits, spell_nil]
  | cons b l ih =>
    rw [spell_cons, addBits]
    simp only
    rw [spell_cons, addBits_length, List.length_cons, Int.pow_succ]
    generalize (addBits l c).2 = d at *
    generalize spell (addBits l c).1 = s at *
    generalize (2 : Int) ^ l.length = p at *
    have h : b + d = 2 * ((b + d) / 2) + (b + d) % 2 := by omega
    have e1 : b * p + spell l + c = b * p + (d * p + s) := by omega
    have e2 : (b + d) / 2 * (p * 2) + ((b + d) % 2 * p + s) = (2 * ((b + d) / 2) + (b + d) % 2) * p + s := by
      rw [Int.add_mul, Int.mul_comm p 2, ← Int.mul_assoc, Int.mul_comm _ 2, Int.add_assoc]
    rw [e1, e2, ← h, Int.add_mul, Int.add_assoc]

theorem bitW_nat (x k : Nat) : bitW (x : Int) k = ((x / 2 ^ k % 2 : Nat) : Int) := by
  unfold bitW; simp
theorem spell_bitsTo_nat (x n : Nat) : ∀ k, k ≤ n → spell (bitsTo (x : Int) n k) = ((x / 2 ^ (n - k) % 2 ^ k : Nat) : Int) := by
  intro k
  induction k with
  | zero => intro _; simp [bitsTo, spell_nil, Nat.mod_one]
  | succ k ih =>
    intro hk
    rw [bitsTo_succ, spell_snoc, ih (by omega), bitW_nat]
    have e : n - k = (n - (k + 1)) + 1 := by omega
    rw [e, Nat.pow_succ, ← Nat.div_div_eq_div_mul, show n - 1 - k = n - (k + 1) from by omega]
    generalize x / 2 ^ (n - (k + 1)) = y
    have := Nat.mod_mul (x := y) (a := 2) (b := 2 ^ k)
    rw [Nat.pow_succ, Nat.mul_comm (2 ^ k) 2, this]
    omega
theorem spell_bits (x : Int) (n : Nat) (h0 : 0 ≤ x) (h1 : x < 2 ^ n) : spell (bitsTo x n n) = x := by
  obtain ⟨x, rfl⟩ := Int.eq_ofNat_of_zero_le h0
  rw [spell_bitsTo_nat x n n (Nat.le_refl _)]
  have : x < 2 ^ n := by exact_mod_cast h1
  simp [Nat.mod_eq_of_lt this]
theorem bitsTo_01 (x : Int) (n k : Nat) : ∀ b ∈ bitsTo x n k, b = 0 ∨ b = 1 := by
  intro b hb
  simp only [bitsTo, List.mem_map] at hb
  obtain ⟨j, _, rfl⟩ := hb
  exact bitW_01 x _

/-- 'n & 1' of an int. -/
theorem and1_i64 (n : Int) : bits .and .i64 n 1 = n % 2 := by
  show IntKind.i64.wrap ((BitVec.ofInt 64 n &&& BitVec.ofInt 64 1).toNat : Int) = _
  rw [BitVec.toNat_and, show (BitVec.ofInt 64 1).toNat = 1 from rfl, Nat.and_one_is_mod, BitVec.toNat_ofInt, IntKind.wrap_i64]
  omega
theorem tdiv2 (n : Int) : (n - n % 2).tdiv 2 = n / 2 := by
  rw [Int.tdiv_eq_ediv_of_dvd (by omega)]; omega
end Go.Proofs.YtojdlhiibffnfaaDoor

/-
  The contract of the document's bitsOf: the bits of an address, the highest first, in new memory.
-/
namespace Go.Proofs.YtojdlhiibffnfaaDoor
open Go.RowKit
set_option linter.unusedVariables false
set_option linter.unusedSimpArgs false

/-- The bits of an address. -/
def bitsL (six : Bool) (hi lo : Int) : List Int := if six then bitsTo hi 64 64 ++ bitsTo lo 64 64 else bitsTo lo 32 32

theorem info_int : (Tryd.prog.info? 3).map (fun i => (i.zero, i.size, i.bytes)) = some (some (.int .i64 0), 1, 8) := by kernel_rfl

/-- A slice of ints that a call has made (its blocks from 'base' on). -/
def OwnInts (w : World) (base : Nat) (v : Value) (xs : List Int) : Prop := w.ownsRow base 3 1 v xs.length (xs.map (Value.int .i64))

theorem below_app {B b0 : Nat} {w wr w1 : World} {e : TypeId} {size n : Nat} {v : Value} {xs : List Value} {o : Obj} (hb : Below B w wr) (hB : B ≤ b0) (hw : B ≤ w.heap.size) (hown : wr.ownsRow b0 e size v n xs) (hg : (wr.alloc o).grownBy w1 v.ownBlock) : Below B w w1 :=
  (hb.alloc (Nat.le_trans hw hb.size) o).grown hg (by have := hb.size; simp; omega) (fun k hk => Nat.le_trans hB (hown.lt k hk).1)

set_option maxHeartbeats 1000000 in
set_option maxRecDepth 100000 in
theorem bitsOf_four (hi lo : Int) (l0 : 0 ≤ lo) (l1 : lo ≤ 18446744073709551615) (w : World) :
    Calls Tryd.prog 61 #[.agg #[.bool false, .int .u64 hi, .int .u64 lo]] w fun e w' => ∃ v, e = .returned v ∧ OwnInts w' (w.heap.size + 1) v (bitsTo lo 32 32) ∧ Below w.heap.size w w' := by
  obtain ⟨i0, hii, hz0, hz1, hz2⟩ := info_parts info_int
  go_enter Tryd.func61, Tryd.ntmps61
  go_wp2
  go_loopw [3, 6] (fun v i wr => ∃ k : Nat, k ≤ 32 ∧ i = .int .i64 (31 - (k : Int)) ∧ wr.ownsRow (w.heap.size + 1) 3 1 v k ((bitsTo lo 32 k).map (Value.int .i64)) ∧ Below (w.heap.size + 1) (w.alloc (.cells #[.bool false, .int .u64 hi, .int .u64 lo] 24)) wr)
    (fun _ i _ => ((intOf i) + 1).toNat)
  case atStart => exact ⟨0, by omega, rfl, World.ownsRow_nil _ _ _ _, Below.refl _ _⟩
  case round =>
    obtain ⟨k, hk, rfl, hown, hnx⟩ := hrel
    have hcx : wr.cell? ⟨w.heap.size, 2, none⟩ = some (.int .u64 lo) := (hnx.cell (by simp)).trans (by simp)
    have hsz := hnx.size
    simp at hsz
    by_cases hlt : k < 32
    · have hbit : wrap64 (bits .and .u64 (lo / 2 ^ (31 - k)) 1) = bitW lo (31 - k) := shrAnd1 _ _ l0 l1
      go_wp2_with (first
        | (at_builtin; refine wpList_append_own _ rfl _ _ 46 rfl (w.heap.size + 1) 3 i0 (.int .i64 0) 1 8 Tryd.underlying46 hii hz0 hz1 hz2 rfl (by decide) _ _ _ rfl (hown.alloc _) ⟨wr.heap.size, 0, none⟩ 1 1 [.int .i64 (bitW lo (31 - k))] rfl rfl ?c1 ?c2 ?c3 ?c4 ?c5 ?_))
      case c1 => exact cell_one_new _ _ _
      case c2 => intro u hu; simp at hu; subst hu; rfl
      case c3 => unfold maxLen; omega
      case c4 => omega
      case c5 => simp; omega
      · intro v' w1 hown' hgrow _
        have hb1 := below_app hnx (Nat.le_refl _) (by simp) hown hgrow
        have hown2 : w1.ownsRow (w.heap.size + 1) 3 1 v' (k + 1) ((bitsTo lo 32 (k + 1)).map (Value.int .i64)) := by rw [bitsTo_succ, List.map_append]; exact hown'
        clear hown' hgrow hown hnx hcx hbit
        go_wp2
        go_roundw
        case rel => exact ⟨k + 1, by omega, by go_num, hown2, hb1⟩
        case measure => simp [intOf]; omega
    · obtain rfl : k = 32 := by omega
      go_wp2
      go_ret
      exact ⟨_, rfl, by unfold OwnInts; rw [bitsTo_length]; exact hown, ((Below.refl _ _).alloc (Nat.le_refl _) _).trans (hnx.mono (by simp))⟩
set_option maxHeartbeats 1000000 in
set_option maxRecDepth 100000 in
theorem bitsOf_six (hi lo : Int) (h0 : 0 ≤ hi) (h1 : hi ≤ 18446744073709551615) (l0 : 0 ≤ lo) (l1 : lo ≤ 18446744073709551615) (w : World) :
    Calls Tryd.prog 61 #[.agg #[.bool true, .int .u64 hi, .int .u64 lo]] w fun e w' => ∃ v, e = .returned v ∧ OwnInts w' (w.heap.size + 1) v (bitsTo hi 64 64 ++ bitsTo lo 64 64) ∧ Below w.heap.size w w' := by
  obtain ⟨i0, hii, hz0, hz1, hz2⟩ := info_parts info_int
  go_enter Tryd.func61, Tryd.ntmps61
  go_wp2
  go_loopw [3, 4] (fun v i wr => ∃ k : Nat, k ≤ 64 ∧ i = .int .i64 (63 - (k : Int)) ∧ wr.ownsRow (w.heap.size + 1) 3 1 v k ((bitsTo hi 64 k).map (Value.int .i64)) ∧ Below (w.heap.size + 1) (w.alloc (.cells #[.bool true, .int .u64 hi, .int .u64 lo] 24)) wr)
    (fun _ i _ => ((intOf i) + 1).toNat)
  case atStart => exact ⟨0, by omega, rfl, World.ownsRow_nil _ _ _ _, Below.refl _ _⟩
  case round =>
    obtain ⟨k, hk, rfl, hown, hnx⟩ := hrel
    have hcx : wr.cell? ⟨w.heap.size, 1, none⟩ = some (.int .u64 hi) := (hnx.cell (by simp)).trans (by simp)
    have hsz := hnx.size
    simp at hsz
    by_cases hlt : k < 64
    · have hbit : wrap64 (bits .and .u64 (hi / 2 ^ (63 - k)) 1) = bitW hi (63 - k) := shrAnd1 _ _ h0 h1
      go_wp2_with (first
        | (at_builtin; refine wpList_append_own _ rfl _ _ 46 rfl (w.heap.size + 1) 3 i0 (.int .i64 0) 1 8 Tryd.underlying46 hii hz0 hz1 hz2 rfl (by decide) _ _ _ rfl (hown.alloc _) ⟨wr.heap.size, 0, none⟩ 1 1 [.int .i64 (bitW hi (63 - k))] rfl rfl ?c1 ?c2 ?c3 ?c4 ?c5 ?_))
      case c1 => exact cell_one_new _ _ _
      case c2 => intro u hu; simp at hu; subst hu; rfl
      case c3 => unfold maxLen; omega
      case c4 => omega
      case c5 => simp; omega
      · intro v' w1 hown' hgrow _
        have hb1 := below_app hnx (Nat.le_refl _) (by simp) hown hgrow
        have hown2 : w1.ownsRow (w.heap.size + 1) 3 1 v' (k + 1) ((bitsTo hi 64 (k + 1)).map (Value.int .i64)) := by rw [bitsTo_succ, List.map_append]; exact hown'
        clear hown' hgrow hown hnx hcx hbit
        go_wp2
        go_roundw
        case rel => exact ⟨k + 1, by omega, by go_num, hown2, hb1⟩
        case measure => simp [intOf]; omega
    · obtain rfl : k = 64 := by omega
      obtain ⟨wo, rfl⟩ : ∃ wo : World, wo = wr := ⟨_, rfl⟩
      clear hcx
      rw [show (63 : Int) - ((64 : Nat) : Int) = -1 from rfl]
      go_wp2
      go_loopw [3, 5] (fun v i wr => ∃ k : Nat, k ≤ 64 ∧ i = .int .i64 (63 - (k : Int)) ∧ wr.ownsRow (w.heap.size + 1) 3 1 v (64 + k) ((bitsTo hi 64 64 ++ bitsTo lo 64 k).map (Value.int .i64)) ∧ Below (w.heap.size + 1) (w.alloc (.cells #[.bool true, .int .u64 hi, .int .u64 lo] 24)) wr)
        (fun _ i _ => ((intOf i) + 1).toNat)
      case atStart => exact ⟨0, by omega, rfl, by simpa [bitsTo] using hown, hnx⟩
      case round =>
        clear hown hnx hsz
        obtain ⟨k, hk, rfl, hown, hnx⟩ := hrel
        have hcx : wr.cell? ⟨w.heap.size, 2, none⟩ = some (.int .u64 lo) := (hnx.cell (by simp)).trans (by simp)
        have hsz := hnx.size
        simp at hsz
        by_cases hlt : k < 64
        · have hbit : wrap64 (bits .and .u64 (lo / 2 ^ (63 - k)) 1) = bitW lo (63 - k) := shrAnd1 _ _ l0 l1
          go_wp2_with (first
            | (at_builtin; refine wpList_append_own _ rfl _ _ 46 rfl (w.heap.size + 1) 3 i0 (.int .i64 0) 1 8 Tryd.underlying46 hii hz0 hz1 hz2 rfl (by decide) _ _ _ rfl (hown.alloc _) ⟨wr.heap.size, 0, none⟩ 1 1 [.int .i64 (bitW lo (63 - k))] rfl rfl ?d1 ?d2 ?d3 ?d4 ?d5 ?_))
          case d1 => exact cell_one_new _ _ _
          case d2 => intro u hu; simp at hu; subst hu; rfl
          case d3 => unfold maxLen; omega
          case d4 => omega
          case d5 => simp; omega
          · intro v' w1 hown' hgrow _
            have hb1 := below_app hnx (Nat.le_refl _) (by simp) hown hgrow
            have hown2 : w1.ownsRow (w.heap.size + 1) 3 1 v' (64 + (k + 1)) ((bitsTo hi 64 64 ++ bitsTo lo 64 (k + 1)).map (Value.int .i64)) := by rw [bitsTo_succ lo 64 k, List.map_append, List.map_append]; exact hown'
            clear hown' hgrow hown hnx hcx hbit
            go_wp2
            go_roundw
            case rel => exact ⟨k + 1, by omega, by go_num, hown2, hb1⟩
            case measure => simp [intOf]; omega
        · obtain rfl : k = 64 := by omega
          go_wp2
          go_ret
          exact ⟨_, rfl, by unfold OwnInts; rw [List.length_append, bitsTo_length, bitsTo_length]; exact hown, ((Below.refl _ _).alloc (Nat.le_refl _) _).trans (hnx.mono (by simp))⟩

theorem bitsL_length (six : Bool) (hi lo : Int) : (bitsL six hi lo).length = if six then 128 else 32 := by
  cases six <;> simp [bitsL, bitsTo_length]
theorem bitsTo_get (x : Int) (n k j : Nat) (h : j < k) : (bitsTo x n k)[j]? = some (bitW x (n - 1 - j)) := by
  simp [bitsTo, List.getElem?_range h]
theorem bitsL_get (six : Bool) (hi lo : Int) (j : Nat) (h : j < if six then 128 else 32) : (bitsL six hi lo)[j]? = some (bitAt six hi lo j) := by
  cases six
  · simp at h
    simp only [bitsL, bitAt]
    exact bitsTo_get _ _ _ _ h
  · simp at h
    simp only [bitsL, bitAt, if_true]
    by_cases hj : j < 64
    · rw [List.getElem?_append_left (by rw [bitsTo_length]; exact hj), if_pos hj]; exact bitsTo_get _ _ _ _ hj
    · rw [List.getElem?_append_right (by rw [bitsTo_length]; omega), if_neg hj, bitsTo_length, bitsTo_get _ _ _ _ (by omega)]
      rw [show 64 - 1 - (j - 64) = 127 - j from by omega]

/-- bitsOf of an IPv6 address. -/
theorem bitsOf_six' (hi lo : Int) (h0 : 0 ≤ hi) (h1 : hi ≤ 18446744073709551615) (l0 : 0 ≤ lo) (l1 : lo ≤ 18446744073709551615) (w : World) :
    Calls Tryd.prog 61 #[.agg #[.bool true, .int .u64 hi, .int .u64 lo]] w fun e w' => ∃ g cap, e = .returned (.slice (some ⟨g, 0, none⟩) 128 cap) ∧ w'.ownsRow (w.heap.size + 1) 3 1 (.slice (some ⟨g, 0, none⟩) 128 cap) 128 ((bitsL true hi lo).map (Value.int .i64)) ∧ Below w.heap.size w w' := by
  refine (bitsOf_six hi lo h0 h1 l0 l1 w).mono ?_
  rintro e w' ⟨v, rfl, hown, hb⟩
  unfold OwnInts at hown
  have hl := bitsL_length true hi lo
  simp only [if_true] at hl
  have hown' : w'.ownsRow (w.heap.size + 1) 3 1 v 128 ((bitsL true hi lo).map (Value.int .i64)) := hl ▸ hown
  obtain ⟨g, cap, rfl, _, _⟩ := hown'.form (by omega)
  exact ⟨g, cap, rfl, hown', hb⟩
/-- bitsOf of an IPv4 address. -/
theorem bitsOf_four' (hi lo : Int) (l0 : 0 ≤ lo) (l1 : lo ≤ 18446744073709551615) (w : World) :
    Calls Tryd.prog 61 #[.agg #[.bool false, .int .u64 hi, .int .u64 lo]] w fun e w' => ∃ g cap, e = .returned (.slice (some ⟨g, 0, none⟩) 32 cap) ∧ w'.ownsRow (w.heap.size + 1) 3 1 (.slice (some ⟨g, 0, none⟩) 32 cap) 32 ((bitsL false hi lo).map (Value.int .i64)) ∧ Below w.heap.size w w' := by
  refine (bitsOf_four hi lo l0 l1 w).mono ?_
  rintro e w' ⟨v, rfl, hown, hb⟩
  unfold OwnInts at hown
  have hl := bitsL_length false hi lo
  simp only [Bool.false_eq_true, if_false] at hl
  have hown' : w'.ownsRow (w.heap.size + 1) 3 1 v 32 ((bitsL false hi lo).map (Value.int .i64)) := hl ▸ hown
  obtain ⟨g, cap, rfl, _, _⟩ := hown'.form (by omega)
  exact ⟨g, cap, rfl, hown', hb⟩
end Go.Proofs.YtojdlhiibffnfaaDoor

/-
  The law's samePres of two lists of prefixes that are the same.
-/
namespace Go.Proofs.YtojdlhiibffnfaaDoor
open Go.RowKit
set_option linter.unusedVariables false
set_option linter.unusedSimpArgs false

/-- A list of prefixes that can be read: its k-th one lies there. -/
theorem owned_at {w : World} {base g cap n : Nat} {l : List PT} (h : Owned w base (.slice (some ⟨g, 0, none⟩) n cap) l) (hn : n = l.length) (k : Nat) (hk : k < l.length) :
    w.cell? ⟨g, k * 4, none⟩ = some (.bool (l[k]'hk).1) ∧ w.cell? ⟨g, k * 4 + 1, none⟩ = some (.int .u64 (aH (l[k]'hk).2.1)) ∧ w.cell? ⟨g, k * 4 + 2, none⟩ = some (.int .u64 (aL (l[k]'hk).2.1)) ∧ w.cell? ⟨g, k * 4 + 3, none⟩ = some (.int .i64 (l[k]'hk).2.2) := by
  subst hn
  have key : ∀ (m : List PT) (k : Nat) (hk : k < m.length) (j : Nat) (hj : j < 4), (pRow m)[k * 4 + j]? = (pcs (m[k]'hk))[j]? := by
    intro m
    induction m with
    | nil => intro k hk; cases hk
    | cons p m ih =>
      intro k hk j hj
      show (pcs p ++ pRow m)[k * 4 + j]? = _
      cases k with
      | zero => rw [List.getElem?_append_left (by simp [pcs]; omega)]; simp
      | succ k =>
        rw [List.getElem?_append_right (by simp [pcs]; omega), show (k + 1) * 4 + j - (pcs p).length = k * 4 + j by simp [pcs]; omega]
        exact ih k (by simpa using hk) j hj
  have c : ∀ j, j < 4 → w.cell? ⟨g, k * 4 + j, none⟩ = (pcs (l[k]'hk))[j]? := fun j hj => by
    rw [h.cellAt (k * 4 + j) (by omega), key l k hk j hj]
  exact ⟨c 0 (by omega), c 1 (by omega), c 2 (by omega), c 3 (by omega)⟩
set_option maxHeartbeats 2000000 in
theorem samePres_calls (b1 b2 : Nat) (v1 v2 : Value) (l : List PT) (hlen : l.length ≤ 1000000000) (w : World) (h1 : Owned w b1 v1 l) (h2 : Owned w b2 v2 l) :
    Calls Tryd.prog 14 #[v1, v2] w fun e w' => e = .returned (.bool true) ∧ Below w.heap.size w w' := by
  by_cases h0 : l.length = 0
  · obtain rfl := List.eq_nil_of_length_eq_zero h0
    obtain ⟨p1, c1, rfl⟩ : ∃ p c, v1 = .slice p 0 c := by
      rcases h1.2 with ⟨e, _⟩ | ⟨g, c, _, e, _⟩
      · exact ⟨none, 0, e⟩
      · exact ⟨_, c, e⟩
    obtain ⟨p2, c2, rfl⟩ : ∃ p c, v2 = .slice p 0 c := by
      rcases h2.2 with ⟨e, _⟩ | ⟨g, c, _, e, _⟩
      · exact ⟨none, 0, e⟩
      · exact ⟨_, c, e⟩
    go_enter Tryd.func14, Tryd.ntmps14
    go_wp2
    go_rounds 1
    go_returns
    exact ⟨rfl, Below.refl _ _⟩
  · obtain ⟨g1, c1, rfl, _, _⟩ := h1.form (by omega)
    obtain ⟨g2, c2, rfl, _, _⟩ := h2.form (by omega)
    obtain ⟨n, hn⟩ : ∃ n, l.length = n := ⟨_, rfl⟩
    have H1 := Lib.hid (fun k hk => owned_at h1 rfl k hk)
    have H2 := Lib.hid (fun k hk => owned_at h2 rfl k hk)
    have HN := Lib.hid hn
    rw [hn] at hlen ⊢
    clear h1 h2 h0 hn
    go_enter Tryd.func14, Tryd.ntmps14
    go_wp2
    go_loopw [5] (fun i wr => ∃ k q : Nat, k ≤ n ∧ i = .int .i64 k ∧ wr = w.drewN q) (fun i _ => n - (intOf i).toNat)
    case atStart => exact ⟨0, 0, Nat.zero_le _, rfl, rfl⟩
    case round =>
      obtain ⟨k, q, hk, rfl, rfl⟩ := hrel
      by_cases hlt : k < n
      · obtain ⟨x0, x1, x2, x3⟩ := H1.out k (by rw [HN.out]; exact hlt)
        obtain ⟨y0, y1, y2, y3⟩ := H2.out k (by rw [HN.out]; exact hlt)
        generalize (l[k]'(by rw [HN.out]; exact hlt)) = p at x0 x1 x2 x3 y0 y1 y2 y3
        obtain ⟨s, x, m⟩ := p
        simp only at x0 x1 x2 x3 y0 y1 y2 y3
        go_wp2_with fail
        go_quiet ((fail))
        go_wp2
        go_roundw
        case rel => exact ⟨k + 1, _, by omega, by go_num, rfl⟩
        case measure => simp [intOf]; omega
      · go_wp2
        go_returns
        exact ⟨rfl, below_drewN (Below.refl _ _) _⟩
end Go.Proofs.YtojdlhiibffnfaaDoor

/-
  Package cidr: pre.Covers of two blocks; slices of prefixes that can be read; within.
-/
namespace Go.Proofs.YtojdlhiibffnfaaDoor
open Go.RowKit
set_option linter.unusedVariables false
set_option linter.unusedSimpArgs false

theorem covD_cov {six : Bool} {x k y j : Nat} (hx : AL six x k) (hy : AL six y j) : covD six x (wideN six - k) y (wideN six - j) = cov x k y j := by
  have hk := hx.1
  have hj := hy.1
  unfold covD cov
  rw [← Bool.decide_and, decide_eq_decide, show wideN six - (wideN six - k) = k by omega]
  obtain ⟨c, hc⟩ := hx.2.2
  have pj := pow_one j
  constructor
  · rintro ⟨h1, h2⟩
    have hle := lowN_le y k
    have hjk : 2 ^ j ≤ 2 ^ k := Nat.pow_le_pow_right (by omega) (by omega)
    have hlt : y < x + 2 ^ k := by
      rw [← h2]; unfold lowN
      have e1 := Nat.div_add_mod' y (2 ^ k)
      have e2 := Nat.mod_lt y (Nat.two_pow_pos k)
      generalize y / 2 ^ k * 2 ^ k = A at e1 ⊢
      generalize y % 2 ^ k = B at e1 e2
      generalize 2 ^ k = C at e2 ⊢
      omega
    rcases al_three hx hy (a := y) ⟨by omega, hlt⟩ (inB_self _ _) with h | h
    · exact cov_iff.1 h
    · have := cov_iff.1 h; omega
  · rintro ⟨h1, h2⟩
    have hjk : j ≤ k := by
      rcases Nat.lt_or_ge k j with h | h
      · have : 2 ^ (k + 1) ≤ 2 ^ j := Nat.pow_le_pow_right (by omega) h
        rw [pow_up] at this; have := pow_one k; omega
      · exact h
    refine ⟨by omega, ?_⟩
    unfold lowN
    rw [hc] at h1 h2 ⊢
    rw [Nat.div_eq_of_lt_le (k := c) h1 (by rw [Nat.add_mul]; omega)]
theorem both_al {six : Bool} {x k y j : Nat} (hx : AL six x k) (hy : AL six y j) : bothE six x ((wideN six - k : Nat) : Int) six y ((wideN six - j : Nat) : Int) = 0 := by
  unfold bothE
  rw [if_pos hx.chk, if_pos hy.chk]
  simp
theorem covers_al {six : Bool} {x k y j : Nat} (hx : AL six x k) (hy : AL six y j) (b : Bool) (hb : cov x k y j = b) (w : World) :
    Calls Tryd.prog 83 #[.agg #[.bool six, .int .u64 (aH x), .int .u64 (aL x), .int .i64 ((wideN six - k : Nat) : Int)], .agg #[.bool six, .int .u64 (aH y), .int .u64 (aL y), .int .i64 ((wideN six - j : Nat) : Int)]] w fun e w' => e = .returned (.tuple #[.bool b, .int .i64 0]) ∧ Below w.heap.size w w' := by
  have c := covers_ok' six x y (wideN six - k) (wideN six - j) hx.lt128 hy.lt128 (both_al hx hy) (Nat.sub_le _ _) w
  rw [covD_cov hx hy, hb] at c
  exact c

/-- The prefix p lies from cell o of block g on. -/
def PCell (w : World) (g o : Nat) (p : PT) : Prop := w.cell? ⟨g, o, none⟩ = some (.bool p.1) ∧ w.cell? ⟨g, o + 1, none⟩ = some (.int .u64 (aH p.2.1)) ∧ w.cell? ⟨g, o + 2, none⟩ = some (.int .u64 (aL p.2.1)) ∧ w.cell? ⟨g, o + 3, none⟩ = some (.int .i64 p.2.2)
/-- A slice of prefixes that can be read. -/
def RowP (w : World) (v : Value) (l : List PT) : Prop := (l = [] ∧ ∃ p c, v = .slice p 0 c) ∨ ∃ g o c, v = .slice (some ⟨g, o, none⟩) l.length c ∧ g < w.heap.size ∧ ∀ k (hk : k < l.length), PCell w g (o + k * 4) l[k]
theorem PCell.keep {w w' : World} {g o : Nat} {p : PT} (h : PCell w g o p) (hg : g < w.heap.size) (hb : Below w.heap.size w w') : PCell w' g o p :=
  ⟨(hb.cell (p := ⟨g, o, none⟩) hg).trans h.1, (hb.cell (p := ⟨g, o + 1, none⟩) hg).trans h.2.1, (hb.cell (p := ⟨g, o + 2, none⟩) hg).trans h.2.2.1, (hb.cell (p := ⟨g, o + 3, none⟩) hg).trans h.2.2.2⟩
theorem RowP.keep {w w' : World} {v : Value} {l : List PT} (h : RowP w v l) (hb : Below w.heap.size w w') : RowP w' v l := by
  rcases h with h | ⟨g, o, c, e, hg, hc⟩
  · exact .inl h
  · exact .inr ⟨g, o, c, e, Nat.lt_of_lt_of_le hg hb.size, fun k hk => (hc k hk).keep hg hb⟩
theorem RowP.owned {w : World} {base : Nat} {v : Value} {l : List PT} (h : Owned w base v l) : RowP w v l := by
  rcases h.2 with ⟨e, h0⟩ | ⟨g, c, cur, e, hb, hg, _⟩
  · exact .inl ⟨List.eq_nil_of_length_eq_zero h0, none, 0, e⟩
  · subst e
    refine .inr ⟨g, 0, c, rfl, ?_, fun k hk => ?_⟩
    · rcases Nat.lt_or_ge g w.heap.size with hlt | hge
      · exact hlt
      · rw [Array.getElem?_eq_none hge] at hg; cases hg
    · rw [Nat.zero_add]; exact owned_at h rfl k hk
theorem RowP.form {w : World} {v : Value} {l : List PT} (h : RowP w v l) : ∃ p c, v = .slice p l.length c := by
  rcases h with ⟨rfl, p, c, e⟩ | ⟨g, o, c, e, _⟩
  · exact ⟨p, c, e⟩
  · exact ⟨_, c, e⟩
theorem blw_take_yes {x k : Nat} {l : BL} {i : Nat} (hi : i < l.length) (h : cov x k l[i].1 l[i].2 = true) : blw x k (l.take (i + 1)) = blw x k (l.take i) ++ [l[i]] := by
  unfold blw
  rw [List.take_succ_eq_append_getElem hi, List.filter_append]
  simp [h]
theorem blw_take_no {x k : Nat} {l : BL} {i : Nat} (hi : i < l.length) (h : cov x k l[i].1 l[i].2 = false) : blw x k (l.take (i + 1)) = blw x k (l.take i) := by
  unfold blw
  rw [List.take_succ_eq_append_getElem hi, List.filter_append]
  simp [h]
theorem abv_take {x k : Nat} {l : BL} {i : Nat} (hi : i < l.length) (h : cov l[i].1 l[i].2 x k = false) (h0 : abv x k (l.take i) = false) : abv x k (l.take (i + 1)) = false := by
  unfold abv at *
  rw [List.take_succ_eq_append_getElem hi, List.any_append, h0]
  simp [h]
theorem abv_at {x k : Nat} {l : BL} {i : Nat} (hi : i < l.length) (h : cov l[i].1 l[i].2 x k = true) : abv x k l = true := List.any_eq_true.2 ⟨l[i], List.getElem_mem hi, h⟩
theorem blw_len (x k : Nat) (l : BL) : (blw x k l).length ≤ l.length := List.length_filter_le _ _
theorem within_nil (six : Bool) (x k : Nat) (p : Option Addr) (c : Nat) (w : World) :
    Calls Tryd.prog 78 #[.agg #[.bool six, .int .u64 (aH x), .int .u64 (aL x), .int .i64 ((wideN six - k : Nat) : Int)], .slice p 0 c] w (PresOut ((wth x k []).map (bl six)) w) := by
  go_enter Tryd.func78, Tryd.ntmps78
  go_wp2
  go_rounds 1
  go_returns
  exact ⟨_, rfl, owned_nil _ _, by go_grown⟩
end Go.Proofs.YtojdlhiibffnfaaDoor

/-
  The worlds between two calls.
-/
namespace Go.Proofs.YtojdlhiibffnfaaDoor
open Go.RowKit
theorem PreAt.via {w W w' : World} {b : Nat} {s : Bool} {h l n : Int} (a : PreAt w b s h l n) (hb : Below w.heap.size w W) (hc : Below W.heap.size W w') : PreAt w' b s h l n := (a.keep hb).keep hc
theorem AddrAt.via {w W w' : World} {b : Nat} {s : Bool} {h l : Int} (a : AddrAt w b s h l) (hb : Below w.heap.size w W) (hc : Below W.heap.size W w') : AddrAt w' b s h l := (a.keep hb).keep hc
end Go.Proofs.YtojdlhiibffnfaaDoor

/-
  cidr.within.
-/
namespace Go.Proofs.YtojdlhiibffnfaaDoor
open Go.RowKit
set_option linter.unusedVariables false
set_option linter.unusedSimpArgs false

set_option maxHeartbeats 4000000 in
set_option maxRecDepth 100000 in
theorem within_row (six : Bool) (x k : Nat) (hA : AL six x k) (ls : BL) (hl : AllAL six ls) (n : Nat) (hn : ls.length = n) (hlen : n ≤ 1000000) (g o cap : Nat) (w : World) (hg : g < w.heap.size) (hc : ∀ i (hi : i < ls.length), PCell w g (o + i * 4) (bl six ls[i])) :
    Calls Tryd.prog 78 #[.agg #[.bool six, .int .u64 (aH x), .int .u64 (aL x), .int .i64 ((wideN six - k : Nat) : Int)], .slice (some ⟨g, o, none⟩) n cap] w (PresOut ((wth x k ls).map (bl six)) w) := by
  obtain ⟨i0, hii, hz0, hz1, hz2⟩ := info_parts info_pre
  have HA := Lib.hid hA
  have HL := Lib.hid hl
  have HN := Lib.hid hn
  have B1 : Below w.heap.size w (w.alloc (.cells #[.bool six, .int .u64 (aH x), .int .u64 (aL x), .int .i64 ((wideN six - k : Nat) : Int)] 44)) := (Below.refl _ w).alloc (Nat.le_refl _) _
  have GP := Lib.hid (PreAt.new w six (aH x) (aL x) ((wideN six - k : Nat) : Int) 44)
  have HC := Lib.hid (fun i hi => (hc i hi).keep hg B1)
  have hg1 : g < (w.alloc (.cells #[.bool six, .int .u64 (aH x), .int .u64 (aL x), .int .i64 ((wideN six - k : Nat) : Int)] 44)).heap.size := by simp; omega
  clear hA hl hn hc hg
  go_enter Tryd.func78, Tryd.ntmps78
  go_wp2
  revert GP B1 HC hg1
  generalize w.alloc (.cells #[.bool six, .int .u64 (aH x), .int .u64 (aL x), .int .i64 ((wideN six - k : Nat) : Int)] 44) = w1
  intro B1 GP HC hg1
  go_loopw [5, 14] (fun v i wr => ∃ j : Nat, j ≤ n ∧ i = .int .i64 j ∧ Owned wr w1.heap.size v ((blw x k (ls.take j)).map (bl six)) ∧ Below w1.heap.size w1 wr ∧ Hid (abv x k (ls.take j) = false)) (fun _ i _ => n - (intOf i).toNat)
  case atStart => exact ⟨0, Nat.zero_le _, rfl, owned_nil _ _, Below.refl _ _, Lib.hid rfl⟩
  case round =>
    obtain ⟨j, hj, rfl, hown, hnx, habv⟩ := hrel
    have hsz := hnx.size
    by_cases hlt : j < n
    · have hjl : j < ls.length := by rw [HN.out]; exact hlt
      obtain ⟨c0, c1, c2, c3⟩ := (HC.out j hjl).keep hg1 hnx
      have hq := HL.out _ (List.getElem_mem hjl)
      have T1 := Lib.hid (fun h => blw_take_yes (x := x) (k := k) hjl h)
      have T2 := Lib.hid (fun h => blw_take_no (x := x) (k := k) hjl h)
      have T3 := Lib.hid (fun h => abv_take (x := x) (k := k) hjl h habv.out)
      have T4 := Lib.hid (fun h => abv_at (x := x) (k := k) hjl h)
      generalize ls[j] = q at c0 c1 c2 c3 hq T1 T2 T3 T4
      obtain ⟨y, m⟩ := q
      simp only [bl] at c0 c1 c2 c3 hq T1 T2 T3 T4
      have GQ := GP.out.keep hnx
      obtain ⟨p0, p1, p2, p3, pl⟩ := GQ
      have HQ : Hid (PreAt wr w.heap.size six (aH x) (aL x) ((wideN six - k : Nat) : Int)) := Lib.hid ⟨p0, p1, p2, p3, pl⟩
      have pm := Nat.lt_succ_of_lt pl
      simp only [Nat.succ_eq_add_one] at pm
      clear HL habv
      cases hcv : cov y m x k with
      | true =>
        have C1 := Lib.hid (covers_al hq HA.out true hcv)
        have E : (wth x k ls).map (bl six) = [(six, x, ((wideN six - k : Nat) : Int))] := by unfold wth; rw [if_pos (T4.out hcv)]; rfl
        clear hcv hq T1 T2 T3 T4
        go_wp2_with fail
        refine (C1.out _).mono ?_
        rintro e w2 ⟨rfl, hb2⟩
        obtain ⟨r0, r1, r2, r3, rl⟩ := (HQ.out.via ((Below.refl _ _).alloc (Nat.le_refl _) _) hb2)
        have b2 := thenBelow (thenBelow hnx ((Below.refl _ wr).alloc (Nat.le_refl _) _)) hb2
        clear c0 c1 c2 c3 p0 p1 p2 p3 pl pm C1 hb2 HQ
        go_wp2
        go_returns
        have b3 := thenBelow B1 b2
        refine ⟨_, rfl, ?_, ?_⟩
        · rw [E]; exact owned_one _ _ b3.size _ _ _
        · exact b3.alloc b3.size _
      | false =>
        have C1 := Lib.hid (covers_al hq HA.out false hcv)
        have T3' := T3.out hcv
        clear hcv T3 T4
        go_wp2_with fail
        refine (C1.out _).mono ?_
        rintro e w2 ⟨rfl, hb2⟩
        obtain ⟨r0, r1, r2, r3, rl⟩ := (HQ.out.via ((Below.refl _ _).alloc (Nat.le_refl _) _) hb2)
        obtain ⟨s0, s1, s2, s3, sl⟩ := (PreAt.new wr six (aH y) (aL y) ((wideN six - m : Nat) : Int) 44).keep hb2
        have HS : Hid (PreAt w2 wr.heap.size six (aH y) (aL y) ((wideN six - m : Nat) : Int)) := Lib.hid ⟨s0, s1, s2, s3, sl⟩
        have b2 := thenBelow (thenBelow hnx ((Below.refl _ wr).alloc (Nat.le_refl _) _)) hb2
        have hown2 := ownsKeep (hown.alloc _) hb2
        clear c0 c1 c2 c3 p0 p1 p2 p3 pl pm C1 hb2 HQ hown hnx
        cases hcw : cov x k y m with
        | false =>
          have C2 := Lib.hid (covers_al HA.out hq false hcw)
          have T2' := T2.out hcw
          clear hcw T1 T2
          go_wp2_with fail
          refine (C2.out _).mono ?_
          rintro e w3 ⟨rfl, hb3⟩
          have b3 := thenBelow b2 hb3
          have hown3 := ownsKeep hown2 hb3
          clear r0 r1 r2 r3 rl s0 s1 s2 s3 sl HS hown2 hb3 b2 C2
          go_wp2
          go_roundw
          case rel => exact ⟨j + 1, by omega, by go_num, by rw [T2']; exact hown3, b3, Lib.hid T3'⟩
          case measure => simp [intOf]; omega
        | true =>
          have C2 := Lib.hid (covers_al HA.out hq true hcw)
          have T1' := T1.out hcw
          have hbl := blw_len x k (ls.take j)
          have htl : (ls.take j).length ≤ j := by rw [List.length_take]; omega
          clear hcw T1 T2
          go_wp2_with fail
          refine (C2.out _).mono ?_
          rintro e w3 ⟨rfl, hb3⟩
          have b3 := thenBelow b2 hb3
          have hown3 := ownsKeep hown2 hb3
          have b3s := b3.size
          clear r0 r1 r2 r3 rl s0 s1 s2 s3 sl hown2 b2 C2
          obtain ⟨s0, s1, s2, s3, sl⟩ := HS.out.keep hb3
          have hbm : ((blw x k (ls.take j)).map (bl six)).length ≤ 1000000 := by rw [List.length_map]; omega
          clear hb3
          go_wp2_with (first
            | (at_builtin; refine wpList_append_own _ rfl _ _ 25 rfl w1.heap.size 44 i0 _ 4 32 Tryd.underlying25 hii hz0 hz1 hz2 rfl (by decide) _ _ _ rfl (hown3.alloc _) ⟨w3.heap.size, 0, none⟩ 1 1 (pRow [(six, y, ((wideN six - m : Nat) : Int))]) rfl rfl ?c1 (pRow_one _) ?c3 ?c4 ?c5 ?_))
          case c1 => exact World.news_of_block (heap_alloc_new w3 _)
          case c3 => unfold maxLen; omega
          case c4 => omega
          case c5 => simp; omega
          intro v' w4 hown' hgrow _
          have hb4 := below_app b3 (Nat.le_refl _) (Nat.le_refl _) hown3 hgrow
          have hown4 : Owned w4 w1.heap.size v' ((blw x k (ls.take (j + 1))).map (bl six)) := by
            rw [T1', List.map_append]
            unfold Owned
            rw [pRow_app, List.length_append, List.length_map]
            exact hown'
          clear hown' hgrow hown3 b3
          go_wp2
          go_roundw
          case rel => exact ⟨j + 1, by omega, by go_num, hown4, hb4, Lib.hid T3'⟩
          case measure => simp [intOf]; omega
    · obtain rfl : j = n := by omega
      have E : (wth x k ls).map (bl six) = (blw x k (ls.take j)).map (bl six) := by
        have ha := habv.out
        rw [List.take_of_length_le (by rw [HN.out]; omega)] at ha ⊢
        unfold wth; rw [ha]; rfl
      go_wp2
      go_returns
      refine ⟨_, rfl, ?_, thenBelow B1 hnx⟩
      rw [E]
      exact ownsLow hown (by have := B1.size; omega)
theorem within_calls (six : Bool) (x k : Nat) (hA : AL six x k) (ls : BL) (hl : AllAL six ls) (hlen : ls.length ≤ 1000000) (v : Value) (w : World) (hr : RowP w v (ls.map (bl six))) :
    Calls Tryd.prog 78 #[.agg #[.bool six, .int .u64 (aH x), .int .u64 (aL x), .int .i64 ((wideN six - k : Nat) : Int)], v] w (PresOut ((wth x k ls).map (bl six)) w) := by
  rcases hr with ⟨e, p, c, rfl⟩ | ⟨g, o, c, rfl, hg, hc⟩
  · obtain rfl : ls = [] := by simpa using e
    exact within_nil six x k p c w
  · rw [List.length_map]
    refine within_row six x k hA ls hl _ rfl hlen g o c w hg fun i hi => ?_
    have := hc i (by rw [List.length_map]; exact hi)
    rw [List.getElem_map] at this
    exact this
end Go.Proofs.YtojdlhiibffnfaaDoor

/-
  cidr.uniform; slices.Equal at prefixes.
-/
namespace Go.Proofs.YtojdlhiibffnfaaDoor
open Go.RowKit
set_option linter.unusedVariables false
set_option linter.unusedSimpArgs false

/-- Two prefixes are one, or differ at a first cell. -/
theorem pt_ne (p q : PT) : p = q ∨ (p.1 == q.1) = false ∨ (p.1 = q.1 ∧ (aH p.2.1 == aH q.2.1) = false) ∨ (p.1 = q.1 ∧ aH p.2.1 = aH q.2.1 ∧ (aL p.2.1 == aL q.2.1) = false) ∨ (p.1 = q.1 ∧ p.2.1 = q.2.1 ∧ (p.2.2 == q.2.2) = false) := by
  obtain ⟨s, x, n⟩ := p
  obtain ⟨t, y, m⟩ := q
  by_cases h1 : s = t
  · rcases eq3 x y with h | h | ⟨h, h'⟩
    · by_cases h2 : n = m
      · exact .inl (by rw [h1, h, h2])
      · exact .inr (.inr (.inr (.inr ⟨h1, h, by simpa using h2⟩)))
    · exact .inr (.inr (.inl ⟨h1, h⟩))
    · exact .inr (.inr (.inr (.inl ⟨h1, h, h'⟩)))
  · exact .inr (.inl (by simpa using h1))
theorem unif_bl {six : Bool} {x k : Nat} {q : Nat × Nat} {t : BL} (hk : k ≤ wideN six) (hq : q.2 ≤ wideN six) : unif x k (q :: t) = decide (bl six q = (six, x, ((wideN six - k : Nat) : Int))) := by
  show decide (q = (x, k)) = _
  rw [decide_eq_decide]
  exact ⟨fun h => by rw [h]; rfl, fun h => bl_inj hq hk h⟩
set_option maxHeartbeats 2000000 in
theorem uniform_row (six : Bool) (x : Nat) (n : Int) (q : PT) (b : Bool) (hb : decide (q = (six, x, n)) = b) (g o c m : Nat) (hm : m ≤ 1000000) (w : World) (hg : g < w.heap.size) (hc : PCell w g o q) :
    Calls Tryd.prog 79 #[.agg #[.bool six, .int .u64 (aH x), .int .u64 (aL x), .int .i64 n], .slice (some ⟨g, o, none⟩) (m + 1) c] w fun e w' => e = .returned (.bool b) ∧ Below w.heap.size w w' := by
  have B1 : Below w.heap.size w (w.alloc (.cells #[.bool six, .int .u64 (aH x), .int .u64 (aL x), .int .i64 n] 44)) := (Below.refl _ w).alloc (Nat.le_refl _) _
  obtain ⟨p0, p1, p2, p3, pl⟩ := PreAt.new w six (aH x) (aL x) n 44
  obtain ⟨c0, c1, c2, c3⟩ := hc.keep hg B1
  have hm0 : (((m + 1 : Nat) : Int) == 0) = false := by simp; omega
  have hm1 : ((m : Int) + 1 == 0) = false := by simp; omega
  have hm2 : (0 : Int) < (m : Int) + 1 := by omega
  rcases pt_ne q (six, x, n) with h | h | ⟨h, h'⟩ | ⟨h, h', h''⟩ | ⟨h, h', h''⟩
  · subst h
    obtain rfl : b = true := by rw [← hb]; simp
    clear hb
    simp only at c0 c1 c2 c3
    go_enter Tryd.func79, Tryd.ntmps79
    go_wp2_with fail
    revert B1 p0 p1 p2 p3 pl c0 c1 c2 c3
    generalize w.alloc (.cells #[.bool six, .int .u64 (aH x), .int .u64 (aL x), .int .i64 n] 44) = w1
    intro B1 p0 p1 p2 p3 pl c0 c1 c2 c3
    go_quiet ((fail))
    go_wp2
    go_ret
    exact ⟨by simp, below_drewN B1 _⟩
  all_goals
    obtain rfl : b = false := by
      rw [← hb, decide_eq_false_iff_not]
      rintro rfl
      simp at *
    obtain ⟨s, y, l⟩ := q
    simp only at *
    clear hb
    try subst h
    try subst h'
    go_enter Tryd.func79, Tryd.ntmps79
    go_wp2_with fail
    revert B1 p0 p1 p2 p3 pl c0 c1 c2 c3
    generalize w.alloc (.cells #[.bool _, .int .u64 (aH _), .int .u64 (aL _), .int .i64 _] 44) = w1
    intro B1 p0 p1 p2 p3 pl c0 c1 c2 c3
    go_quiet ((fail))
    go_wp2
    go_ret
    exact ⟨by simp [*], below_drewN B1 _⟩
theorem uniform_calls (six : Bool) (x k : Nat) (hk : k ≤ wideN six) (ls : BL) (hl : AllAL six ls) (hlen : ls.length ≤ 1000000) (b : Bool) (hb : unif x k ls = b) (v : Value) (w : World) (hr : RowP w v (ls.map (bl six))) :
    Calls Tryd.prog 79 #[.agg #[.bool six, .int .u64 (aH x), .int .u64 (aL x), .int .i64 ((wideN six - k : Nat) : Int)], v] w fun e w' => e = .returned (.bool b) ∧ Below w.heap.size w w' := by
  cases ls with
  | nil =>
    obtain ⟨p, c, rfl⟩ := hr.form
    obtain rfl : b = true := hb.symm
    go_enter Tryd.func79, Tryd.ntmps79
    go_wp2_with fail
    go_quiet ((fail))
    go_wp2
    go_ret
    exact ⟨by simp, below_drewN ((Below.refl _ w).alloc (Nat.le_refl _) _) _⟩
  | cons q t =>
    rw [unif_bl (six := six) hk (hl q (.head _)).1] at hb
    rcases hr with ⟨e, _⟩ | ⟨g, o, c, rfl, hg, hc⟩
    · simp at e
    · have h0 := hc 0 (by simp)
      simp only [Nat.zero_mul, Nat.add_zero, List.map_cons, List.getElem_cons_zero] at h0
      simp only [List.length_cons] at hlen
      rw [List.map_cons, List.length_cons, List.length_map]
      exact uniform_row six x _ (bl six q) b hb g o c t.length (by omega) w hg h0
set_option maxHeartbeats 2000000 in
theorem equal_row (l1 l2 : List PT) (n : Nat) (h1 : l1.length = n) (h2 : l2.length = n) (hn : n ≤ 1000000000) (b : Bool) (hb : decide (l1 = l2) = b) (g1 o1 c1 g2 o2 c2 : Nat) (w : World) (hc1 : ∀ k (hk : k < l1.length), PCell w g1 (o1 + k * 4) l1[k]) (hc2 : ∀ k (hk : k < l2.length), PCell w g2 (o2 + k * 4) l2[k]) :
    Calls Tryd.prog 80 #[.slice (some ⟨g1, o1, none⟩) n c1, .slice (some ⟨g2, o2, none⟩) n c2] w fun e w' => e = .returned (.bool b) ∧ Below w.heap.size w w' := by
  have H1 := Lib.hid hc1
  have H2 := Lib.hid hc2
  have N1 := Lib.hid h1
  have N2 := Lib.hid h2
  have HB := Lib.hid hb
  clear hc1 hc2 h1 h2 hb
  go_enter Tryd.func80, Tryd.ntmps80
  go_wp2
  go_loopw [13] (fun i wr => ∃ k q : Nat, k ≤ n ∧ i = .int .i64 k ∧ Hid (l1.take k = l2.take k) ∧ wr = w.drewN q) (fun i _ => n - (intOf i).toNat)
  case atStart => exact ⟨0, 0, Nat.zero_le _, rfl, Lib.hid rfl, rfl⟩
  case round =>
    obtain ⟨k, q, hk, rfl, hsame, rfl⟩ := hrel
    by_cases hlt : k < n
    · have k1 : k < l1.length := by rw [N1.out]; exact hlt
      have k2 : k < l2.length := by rw [N2.out]; exact hlt
      obtain ⟨x0, x1, x2, x3⟩ := H1.out k k1
      obtain ⟨y0, y1, y2, y3⟩ := H2.out k k2
      have T := Lib.hid (fun (e : l1[k] = l2[k]) => show l1.take (k + 1) = l2.take (k + 1) by rw [List.take_succ_eq_append_getElem k1, List.take_succ_eq_append_getElem k2, hsame.out, e])
      have D := Lib.hid (fun (e : l1[k] ≠ l2[k]) (f : l1 = l2) => e (by subst f; rfl))
      clear H1 H2 hsame
      generalize l1[k] = p at x0 x1 x2 x3 T D
      generalize l2[k] = r at y0 y1 y2 y3 T D
      rcases pt_ne p r with h | h | ⟨h, h'⟩ | ⟨h, h', h''⟩ | ⟨h, h', h''⟩
      · have T' := Lib.hid (T.out h)
        subst h
        obtain ⟨s, x, m⟩ := p
        simp only at x0 x1 x2 x3 y0 y1 y2 y3
        clear T D
        go_wp2_with fail
        go_quiet ((fail))
        go_wp2
        go_roundw
        case rel => exact ⟨k + 1, _, by omega, by go_num, T', rfl⟩
        case measure => simp [intOf]; omega
      all_goals
        obtain rfl : b = false := by
          rw [← HB.out, decide_eq_false_iff_not]
          refine D.out ?_
          rintro rfl
          simp at *
        obtain ⟨s, x, m⟩ := p
        obtain ⟨t, y, l⟩ := r
        simp only at x0 x1 x2 x3 y0 y1 y2 y3 h
        try simp only at h'
        try simp only at h''
        clear T D HB N1 N2
        try subst h
        try subst h'
        go_wp2_with fail
        go_quiet ((fail))
        go_wp2
        go_ret
        exact ⟨rfl, below_drewN (below_drewN (Below.refl _ _) _) _⟩
    · obtain rfl : k = n := by omega
      obtain rfl : b = true := by
        have := hsame.out
        rw [List.take_of_length_le (by rw [N1.out]; omega), List.take_of_length_le (by rw [N2.out]; omega)] at this
        rw [← HB.out, this]; simp
      go_wp2
      go_ret
      exact ⟨rfl, below_drewN (Below.refl _ _) _⟩
theorem equal_calls (l1 l2 : List PT) (h1 : l1.length ≤ 1000000000) (h2 : l2.length ≤ 1000000000) (b : Bool) (hb : decide (l1 = l2) = b) (v1 v2 : Value) (w : World) (r1 : RowP w v1 l1) (r2 : RowP w v2 l2) :
    Calls Tryd.prog 80 #[v1, v2] w fun e w' => e = .returned (.bool b) ∧ Below w.heap.size w w' := by
  by_cases hn : l1.length = l2.length
  · rcases r1 with ⟨rfl, p, c, rfl⟩ | ⟨g1, o1, c1, rfl, _, hc1⟩
    · obtain rfl : l2 = [] := List.eq_nil_of_length_eq_zero (by simpa using hn.symm)
      obtain ⟨p2, c2, rfl⟩ := r2.form
      obtain rfl : b = true := by rw [← hb]; rfl
      go_enter Tryd.func80, Tryd.ntmps80
      go_wp2
      go_rounds 1
      go_ret
      exact ⟨rfl, Below.refl _ _⟩
    · rcases r2 with ⟨rfl, p, c, rfl⟩ | ⟨g2, o2, c2, rfl, _, hc2⟩
      · obtain rfl : l1 = [] := List.eq_nil_of_length_eq_zero (by simpa using hn)
        obtain rfl : b = true := by rw [← hb]; rfl
        go_enter Tryd.func80, Tryd.ntmps80
        go_wp2
        go_rounds 1
        go_ret
        exact ⟨rfl, Below.refl _ _⟩
      · rw [hn]
        exact equal_row l1 l2 l2.length hn rfl h2 b hb g1 o1 c1 g2 o2 c2 w hc1 hc2
  · obtain ⟨p1, c1, rfl⟩ := r1.form
    obtain ⟨p2, c2, rfl⟩ := r2.form
    obtain rfl : b = false := by rw [← hb, decide_eq_false_iff_not]; rintro rfl; exact hn rfl
    have n1 : ((l1.length : Int) == (l2.length : Int)) = false := by simp; omega
    have n2 : ((l1.length : Int) != (l2.length : Int)) = true := by simp; omega
    have n3 : ¬ (l1.length : Int) = (l2.length : Int) := by omega
    clear hn r1 r2 hb
    go_enter Tryd.func80, Tryd.ntmps80
    go_wp2
    go_ret
    exact ⟨rfl, Below.refl _ _⟩
end Go.Proofs.YtojdlhiibffnfaaDoor

/-
  cidr.combineWithin, way by way.
-/
namespace Go.Proofs.YtojdlhiibffnfaaDoor
open Go.RowKit
set_option linter.unusedVariables false
set_option linter.unusedSimpArgs false

theorem row_two (w : World) (s : Bool) (x : Nat) (n : Int) (t : Bool) (y : Nat) (m : Int) : RowP (w.alloc (.cells #[.bool s, .int .u64 (aH x), .int .u64 (aL x), .int .i64 n, .bool t, .int .u64 (aH y), .int .u64 (aL y), .int .i64 m] 44)) (.slice (some ⟨w.heap.size, 0, none⟩) 2 2) [(s, x, n), (t, y, m)] := by
  refine .inr ⟨w.heap.size, 0, 2, rfl, by simp, fun k hk => ?_⟩
  match k, hk with
  | 0, _ => exact ⟨by simp, by simp, by simp, by simp⟩
  | 1, _ => exact ⟨by simp, by simp, by simp, by simp⟩
set_option maxHeartbeats 4000000 in
set_option maxRecDepth 100000 in
theorem cw_unif (six : Bool) (x k F : Nat) (vl vm : Value) (l m l1 l2 : List PT) (n1 : l1.length ≤ 1000000) (n2 : l2.length ≤ 1000000) (U1 : Hid (∀ (W : World) (v : Value), RowP W v l1 → Calls Tryd.prog 79 #[.agg #[.bool six, .int .u64 (aH x), .int .u64 (aL x), .int .i64 ((wideN six - k : Nat) : Int)], v] W fun e w' => e = .returned (.bool true) ∧ Below W.heap.size W w')) (U2 : Hid (∀ (W : World) (v : Value), RowP W v l2 → Calls Tryd.prog 79 #[.agg #[.bool six, .int .u64 (aH x), .int .u64 (aL x), .int .i64 ((wideN six - k : Nat) : Int)], v] W fun e w' => e = .returned (.bool true) ∧ Below W.heap.size W w')) (CF : Hid (∀ (args : Array Value) (W : World), Sem.run Tryd.prog (callFunc F args) W = .ok (.enter F args) W)) (r : Bool) (KF : Hid (∀ W : World, Calls Tryd.prog F #[.bool (decide (0 < l1.length)), .bool (decide (0 < l2.length))] W fun e w' => e = .returned (.bool r) ∧ Below W.heap.size W w')) (R : List PT) (hR : Hid (R = if r then [(six, x, ((wideN six - k : Nat) : Int))] else [])) (w : World) (hrl : RowP w vl l) (hrm : RowP w vm m)
    (W1 : Hid (∀ W : World, RowP W vl l → Calls Tryd.prog 78 #[.agg #[.bool six, .int .u64 (aH x), .int .u64 (aL x), .int .i64 ((wideN six - k : Nat) : Int)], vl] W (PresOut l1 W)))
    (W2 : Hid (∀ W : World, RowP W vm m → Calls Tryd.prog 78 #[.agg #[.bool six, .int .u64 (aH x), .int .u64 (aL x), .int .i64 ((wideN six - k : Nat) : Int)], vm] W (PresOut l2 W))) :
    Calls Tryd.prog 66 #[.agg #[.bool six, .int .u64 (aH x), .int .u64 (aL x), .int .i64 ((wideN six - k : Nat) : Int)], vl, vm, .func (.func F) #[] #[]] w (PresOut R w) := by
  have b0 : Below w.heap.size w (w.alloc (.cells #[.bool six, .int .u64 (aH x), .int .u64 (aL x), .int .i64 ((wideN six - k : Nat) : Int)] 44)) := (Below.refl _ w).alloc (Nat.le_refl _) _
  have GP := PreAt.new w six (aH x) (aL x) ((wideN six - k : Nat) : Int) 44
  have RL := Lib.hid (hrl.keep b0)
  have RM := Lib.hid (hrm.keep b0)
  clear hrl hrm
  go_enter Tryd.func66, Tryd.ntmps66
  go_wp2_with fail
  revert b0 GP RL RM
  generalize w.alloc (.cells #[.bool six, .int .u64 (aH x), .int .u64 (aL x), .int .i64 ((wideN six - k : Nat) : Int)] 44) = W
  intro b0 GP RL RM
  have FP := Lib.hid GP
  have hWs := b0.size
  obtain ⟨p0, p1, p2, p3, _⟩ := GP
  go_region_held3 (fun w' => w'.cell? ⟨w.heap.size, 0, none⟩ = some (.bool six) ∧ w'.cell? ⟨w.heap.size, 1, none⟩ = some (.int .u64 (aH x)) ∧ w'.cell? ⟨w.heap.size, 2, none⟩ = some (.int .u64 (aL x)) ∧ w'.cell? ⟨w.heap.size, 3, none⟩ = some (.int .i64 ((wideN six - k : Nat) : Int)))
    (first
      | (simp [go_sem, p0, p1, p2, p3]; done)
      | (simp [go_sem, xp0, xp1, xp2, xp3]; done)
      | (simp [go_sem, yp0, yp1, yp2, yp3]; done)
      | fail)
    (first
      | (go_at_call 78; with_reducible refine (W1.out _ (RL.out.keep (Below.refl _ _).drew)).mono ?_; rintro e wa ⟨va, rfl, oa, ba⟩; obtain ⟨xp0, xp1, xp2, xp3, _⟩ := preCells (FP.out.via (Below.refl _ _).drew ba))
      | (go_at_call 78; with_reducible refine (W2.out _ ((RM.out.keep (Below.refl _ _).drew).keep ba)).mono ?_; rintro e wb ⟨vb, rfl, ob, bb⟩; obtain ⟨yp0, yp1, yp2, yp3, ypl⟩ := preCells ((FP.out.via (Below.refl _ _).drew ba).keep bb); have oa2 := ownsKeep oa bb)
      | fail)
  have FB := Lib.hid ((FP.out.via (Below.refl _ _).drew ba).keep bb)
  have b1 := thenBelow (thenBelow b0.drew ba) bb
  have RA := Lib.hid (RowP.owned oa2)
  have RB := Lib.hid (RowP.owned ob)
  clear FP RL RM b0 ba bb oa oa2 ob W1 W2 p0 p1 p2 p3 xp0 xp1 xp2 xp3
  go_wp2_with fail
  refine (U1.out _ _ RA.out).mono ?_
  rintro e w3 ⟨rfl, hb3⟩
  have b3 := thenBelow b1 hb3
  have RA := Lib.hid (RA.out.keep hb3)
  have RB := Lib.hid (RB.out.keep hb3)
  have FB := Lib.hid (FB.out.keep hb3)
  clear yp0 yp1 yp2 yp3 ypl hb3 b1
  obtain ⟨yp0, yp1, yp2, yp3, ypl⟩ := preCells FB.out
  go_wp2_with fail
  refine (U2.out _ _ RB.out).mono ?_
  rintro e w4 ⟨rfl, hb4⟩
  have b4 := thenBelow b3 hb4
  have RA := Lib.hid (RA.out.keep hb4)
  have RB := Lib.hid (RB.out.keep hb4)
  have FB := Lib.hid (FB.out.keep hb4)
  clear yp0 yp1 yp2 yp3 ypl hb4 b3
  obtain ⟨yp0, yp1, yp2, yp3, ypl⟩ := preCells FB.out
  have FA := RA.out.form
  have FBB := RB.out.form
  obtain ⟨pa, ca, rfl⟩ := FA
  obtain ⟨pb, cb, rfl⟩ := FBB
  go_wp2_with fail
  rw [CF.out, Oper.upon_enter]
  refine (KF.out _).mono ?_
  rintro e w5 ⟨rfl, hb5⟩
  have b5 := thenBelow b4 hb5
  have FB := Lib.hid (FB.out.keep hb5)
  clear yp0 yp1 yp2 yp3 ypl hb5 b4
  obtain ⟨yp0, yp1, yp2, yp3, ypl⟩ := preCells FB.out
  cases r
  · go_wp2
    go_returns
    exact ⟨_, rfl, by rw [hR.out]; exact owned_nil _ _, b5⟩
  · go_wp2
    go_returns
    exact ⟨_, rfl, by rw [hR.out]; exact owned_one _ _ b5.size _ _ _, b5.alloc b5.size _⟩
end Go.Proofs.YtojdlhiibffnfaaDoor

/-
  cidr.combineWithin, the ways over the halves.
-/
namespace Go.Proofs.YtojdlhiibffnfaaDoor
open Go.RowKit
set_option linter.unusedVariables false
set_option linter.unusedSimpArgs false

set_option maxHeartbeats 4000000 in
set_option maxRecDepth 100000 in
theorem cw_split1 (six : Bool) (x k F : Nat) (vl vm : Value) (l m l1 l2 : List PT) (hA : AL six x (k + 1)) (c1 c2 : List PT) (hlen : c1.length + c2.length ≤ 1000000000)
    (K1 : Hid (∀ (W : World) (va vb : Value), RowP W va l1 → RowP W vb l2 → Calls Tryd.prog 66 #[.agg #[.bool six, .int .u64 (aH x), .int .u64 (aL x), .int .i64 ((wideN six - k : Nat) : Int)], va, vb, .func (.func F) #[] #[]] W (PresOut c1 W)))
    (K2 : Hid (∀ (W : World) (va vb : Value), RowP W va l1 → RowP W vb l2 → Calls Tryd.prog 66 #[.agg #[.bool six, .int .u64 (aH (x + 2 ^ k)), .int .u64 (aL (x + 2 ^ k)), .int .i64 ((wideN six - k : Nat) : Int)], va, vb, .func (.func F) #[] #[]] W (PresOut c2 W)))
    (e : Bool) (hE : Hid (decide (c1 ++ c2 = [(six, x, ((wideN six - k : Nat) : Int)), (six, x + 2 ^ k, ((wideN six - k : Nat) : Int))]) = e)) (R : List PT) (hR : Hid (R = if e then [(six, x, ((wideN six - (k + 1) : Nat) : Int))] else c1 ++ c2)) (U1 : Hid (∀ (W : World) (v : Value), RowP W v l1 → Calls Tryd.prog 79 #[.agg #[.bool six, .int .u64 (aH x), .int .u64 (aL x), .int .i64 ((wideN six - (k + 1) : Nat) : Int)], v] W fun e w' => e = .returned (.bool false) ∧ Below W.heap.size W w')) (w : World) (hrl : RowP w vl l) (hrm : RowP w vm m)
    (W1 : Hid (∀ W : World, RowP W vl l → Calls Tryd.prog 78 #[.agg #[.bool six, .int .u64 (aH x), .int .u64 (aL x), .int .i64 ((wideN six - (k + 1) : Nat) : Int)], vl] W (PresOut l1 W)))
    (W2 : Hid (∀ W : World, RowP W vm m → Calls Tryd.prog 78 #[.agg #[.bool six, .int .u64 (aH x), .int .u64 (aL x), .int .i64 ((wideN six - (k + 1) : Nat) : Int)], vm] W (PresOut l2 W))) :
    Calls Tryd.prog 66 #[.agg #[.bool six, .int .u64 (aH x), .int .u64 (aL x), .int .i64 ((wideN six - (k + 1) : Nat) : Int)], vl, vm, .func (.func F) #[] #[]] w (PresOut R w) := by
  have HH := Lib.hid (halves_al hA)
  obtain ⟨i0, hii, hz0, hz1, hz2⟩ := info_parts info_pre
  have b0 : Below w.heap.size w (w.alloc (.cells #[.bool six, .int .u64 (aH x), .int .u64 (aL x), .int .i64 ((wideN six - (k + 1) : Nat) : Int)] 44)) := (Below.refl _ w).alloc (Nat.le_refl _) _
  have GP := PreAt.new w six (aH x) (aL x) ((wideN six - (k + 1) : Nat) : Int) 44
  have RL := Lib.hid (hrl.keep b0)
  have RM := Lib.hid (hrm.keep b0)
  clear hrl hrm
  go_enter Tryd.func66, Tryd.ntmps66
  go_wp2_with fail
  revert b0 GP RL RM
  generalize w.alloc (.cells #[.bool six, .int .u64 (aH x), .int .u64 (aL x), .int .i64 ((wideN six - (k + 1) : Nat) : Int)] 44) = W
  intro b0 GP RL RM
  have FP := Lib.hid GP
  have hWs := b0.size
  obtain ⟨p0, p1, p2, p3, _⟩ := GP
  go_region_held3 (fun w' => w'.cell? ⟨w.heap.size, 0, none⟩ = some (.bool six) ∧ w'.cell? ⟨w.heap.size, 1, none⟩ = some (.int .u64 (aH x)) ∧ w'.cell? ⟨w.heap.size, 2, none⟩ = some (.int .u64 (aL x)) ∧ w'.cell? ⟨w.heap.size, 3, none⟩ = some (.int .i64 ((wideN six - (k + 1) : Nat) : Int)))
    (first
      | (simp [go_sem, p0, p1, p2, p3]; done)
      | (simp [go_sem, xp0, xp1, xp2, xp3]; done)
      | (simp [go_sem, yp0, yp1, yp2, yp3]; done)
      | fail)
    (first
      | (go_at_call 78; with_reducible refine (W1.out _ (RL.out.keep (Below.refl _ _).drew)).mono ?_; rintro e wa ⟨va, rfl, oa, ba⟩; obtain ⟨xp0, xp1, xp2, xp3, _⟩ := preCells (FP.out.via (Below.refl _ _).drew ba))
      | (go_at_call 78; with_reducible refine (W2.out _ ((RM.out.keep (Below.refl _ _).drew).keep ba)).mono ?_; rintro e wb ⟨vb, rfl, ob, bb⟩; obtain ⟨yp0, yp1, yp2, yp3, ypl⟩ := preCells ((FP.out.via (Below.refl _ _).drew ba).keep bb); have oa2 := ownsKeep oa bb)
      | fail)
  have FB := Lib.hid ((FP.out.via (Below.refl _ _).drew ba).keep bb)
  have b1 := thenBelow (thenBelow b0.drew ba) bb
  have RA := Lib.hid (RowP.owned oa2)
  have RB := Lib.hid (RowP.owned ob)
  clear FP RL RM b0 ba bb oa oa2 ob W1 W2 p0 p1 p2 p3 xp0 xp1 xp2 xp3
  go_wp2_with fail
  refine (U1.out _ _ RA.out).mono ?_
  rintro e w3 ⟨rfl, hb3⟩
  have b3 := thenBelow b1 hb3
  have RA := Lib.hid (RA.out.keep hb3)
  have RB := Lib.hid (RB.out.keep hb3)
  have FB := Lib.hid (FB.out.keep hb3)
  clear yp0 yp1 yp2 yp3 ypl hb3 b1
  obtain ⟨yp0, yp1, yp2, yp3, ypl⟩ := preCells FB.out
  go_wp2_with fail
  refine (HH.out _).mono ?_
  rintro e1 w5 ⟨rfl, hb5⟩
  have b5 := thenBelow b3 hb5
  have RA := Lib.hid (RA.out.keep hb5)
  have RB := Lib.hid (RB.out.keep hb5)
  have FB := Lib.hid (FB.out.keep hb5)
  clear yp0 yp1 yp2 yp3 ypl hb5 b3 HH
  go_wp2_with fail
  have bLU : Below w5.heap.size w5 ((w5.alloc (.cells #[.bool six, .int .u64 (aH x), .int .u64 (aL x), .int .i64 ((wideN six - k : Nat) : Int)] 44)).alloc (.cells #[.bool six, .int .u64 (aH (x + 2 ^ k)), .int .u64 (aL (x + 2 ^ k)), .int .i64 ((wideN six - k : Nat) : Int)] 44)) := ((Below.refl _ w5).alloc (Nat.le_refl _) _).alloc (by simp) _
  have GL := (PreAt.new w5 six (aH x) (aL x) ((wideN six - k : Nat) : Int) 44).alloc (.cells #[.bool six, .int .u64 (aH (x + 2 ^ k)), .int .u64 (aL (x + 2 ^ k)), .int .i64 ((wideN six - k : Nat) : Int)] 44)
  have GU := PreAt.new (w5.alloc (.cells #[.bool six, .int .u64 (aH x), .int .u64 (aL x), .int .i64 ((wideN six - k : Nat) : Int)] 44)) six (aH (x + 2 ^ k)) (aL (x + 2 ^ k)) ((wideN six - k : Nat) : Int) 44
  have GP := FB.out.keep bLU
  have RA := Lib.hid (RA.out.keep bLU)
  have RB := Lib.hid (RB.out.keep bLU)
  have GB := thenBelow b5 bLU
  rw [World.size_alloc] at GU
  clear FB b5 bLU
  revert GL GU GP RA RB GB
  generalize ((w5.alloc (.cells #[.bool six, .int .u64 (aH x), .int .u64 (aL x), .int .i64 ((wideN six - k : Nat) : Int)] 44)).alloc (.cells #[.bool six, .int .u64 (aH (x + 2 ^ k)), .int .u64 (aL (x + 2 ^ k)), .int .i64 ((wideN six - k : Nat) : Int)] 44)) = W9
  intro GL GU GP RA RB GB
  have FL := Lib.hid GL
  have FU := Lib.hid GU
  have FB := Lib.hid GP
  have hWs9 := GB.size
  have hWd : w.heap.size ≤ W9.drew.heap.size := hWs9
  have hby : (c1.length + c2.length) * 32 ≤ 140737488355328 := by omega
  have h63 : c1.length + c2.length ≤ maxLen := by unfold maxLen; omega
  obtain ⟨l0, l1', l2', l3, _⟩ := GL
  obtain ⟨u0, u1, u2, u3, _⟩ := GU
  clear GP
  go_region_held3 (fun w' => w'.cell? ⟨w5.heap.size, 0, none⟩ = some (.bool six) ∧ w'.cell? ⟨w5.heap.size, 1, none⟩ = some (.int .u64 (aH x)) ∧ w'.cell? ⟨w5.heap.size, 2, none⟩ = some (.int .u64 (aL x)) ∧ w'.cell? ⟨w5.heap.size, 3, none⟩ = some (.int .i64 ((wideN six - k : Nat) : Int)) ∧ w'.cell? ⟨w5.heap.size + 1, 0, none⟩ = some (.bool six) ∧ w'.cell? ⟨w5.heap.size + 1, 1, none⟩ = some (.int .u64 (aH (x + 2 ^ k))) ∧ w'.cell? ⟨w5.heap.size + 1, 2, none⟩ = some (.int .u64 (aL (x + 2 ^ k))) ∧ w'.cell? ⟨w5.heap.size + 1, 3, none⟩ = some (.int .i64 ((wideN six - k : Nat) : Int)))
    (first
      | (simp [go_sem, l0, l1', l2', l3, u0, u1, u2, u3]; done)
      | (simp [go_sem, xl0, xl1, xl2, xl3, xu0, xu1, xu2, xu3]; done)
      | (simp [go_sem, yl0, yl1, yl2, yl3, yu0, yu1, yu2, yu3]; done)
      | (simp [go_sem, zl0, zl1, zl2, zl3, zu0, zu1, zu2, zu3]; done)
      | fail)
    (first
      | (go_at_call 66; with_reducible refine (K1.out _ _ _ (RA.out.keep (Below.refl _ _).drew) (RB.out.keep (Below.refl _ _).drew)).mono ?_; rintro e2 wc ⟨vc, rfl, oc, bc⟩; obtain ⟨xl0, xl1, xl2, xl3, _⟩ := preCells (FL.out.via (Below.refl _ _).drew bc); obtain ⟨xu0, xu1, xu2, xu3, _⟩ := preCells (FU.out.via (Below.refl _ _).drew bc))
      | (go_at_call 66; with_reducible refine (K2.out _ _ _ ((RA.out.keep (Below.refl _ _).drew).keep bc) ((RB.out.keep (Below.refl _ _).drew).keep bc)).mono ?_; rintro e2 wd ⟨vd, rfl, od, bd⟩; obtain ⟨yl0, yl1, yl2, yl3, _⟩ := preCells ((FL.out.via (Below.refl _ _).drew bc).keep bd); obtain ⟨yu0, yu1, yu2, yu3, _⟩ := preCells ((FU.out.via (Below.refl _ _).drew bc).keep bd); have oc2 := ownsKeep oc bd)
      | (refine step_append_two (by rfl) _ _ _ (by rfl) W9.drew.heap.size 44 i0 _ 4 32 Tryd.underlying25 hii hz0 hz1 hz2 rfl (by decide) _ _ _ (by rfl) oc2 _ _ _ _ (by rfl) od (pRow_one _) hby h63 (Nat.le_trans bc.size bd.size) ?_; intro ve we he0 be; have b6 := (thenBelow bc bd).trans be; obtain ⟨zl0, zl1, zl2, zl3, zll⟩ := preCells (FL.out.via (Below.refl _ _).drew b6); obtain ⟨zu0, zu1, zu2, zu3, zul⟩ := preCells (FU.out.via (Below.refl _ _).drew b6))
      | fail)
  have FE := Lib.hid (FB.out.via (Below.refl _ _).drew b6)
  have B6 := thenBelow GB.drew b6
  have OE : Hid (Owned we w.heap.size ve (c1 ++ c2)) := Lib.hid (by
    unfold Owned
    rw [List.length_append, pRow_app]
    exact ownsLow he0 hWd)
  clear FL FU FB RA RB GB oc oc2 od bc bd be b6 he0 l0 l1' l2' l3 u0 u1 u2 u3 xl0 xl1 xl2 xl3 xu0 xu1 xu2 xu3 yl0 yl1 yl2 yl3 yu0 yu1 yu2 yu3 K1 K2
  go_wp2_with fail
  have EQ := equal_calls (c1 ++ c2) [(six, x, ((wideN six - k : Nat) : Int)), (six, x + 2 ^ k, ((wideN six - k : Nat) : Int))] (by rw [List.length_append]; exact hlen) (by simp) e hE.out ve (.slice (some ⟨we.heap.size, 0, none⟩) 2 2) _ ((RowP.owned OE.out).keep ((Below.refl _ _).alloc (Nat.le_refl _) _)) (row_two we six x ((wideN six - k : Nat) : Int) six (x + 2 ^ k) ((wideN six - k : Nat) : Int))
  refine EQ.mono ?_
  rintro e3 w7 ⟨rfl, hb7⟩
  have bT := thenBelow ((Below.refl _ we).alloc (Nat.le_refl _) _) hb7
  have B7 := thenBelow B6 bT
  obtain ⟨p0, p1, p2, p3, _⟩ := preCells (FE.out.keep bT)
  have OE := Lib.hid (ownsKeep OE.out bT)
  clear zl0 zl1 zl2 zl3 zll zu0 zu1 zu2 zu3 zul hb7 EQ bT B6 FE
  cases e
  · go_wp2
    go_returns
    exact ⟨_, rfl, by rw [hR.out]; exact OE.out, B7⟩
  · go_wp2
    go_returns
    exact ⟨_, rfl, by rw [hR.out]; exact owned_one _ _ B7.size _ _ _, B7.alloc B7.size _⟩
set_option maxHeartbeats 4000000 in
set_option maxRecDepth 100000 in
theorem cw_split2 (six : Bool) (x k F : Nat) (vl vm : Value) (l m l1 l2 : List PT) (hA : AL six x (k + 1)) (c1 c2 : List PT) (hlen : c1.length + c2.length ≤ 1000000000)
    (K1 : Hid (∀ (W : World) (va vb : Value), RowP W va l1 → RowP W vb l2 → Calls Tryd.prog 66 #[.agg #[.bool six, .int .u64 (aH x), .int .u64 (aL x), .int .i64 ((wideN six - k : Nat) : Int)], va, vb, .func (.func F) #[] #[]] W (PresOut c1 W)))
    (K2 : Hid (∀ (W : World) (va vb : Value), RowP W va l1 → RowP W vb l2 → Calls Tryd.prog 66 #[.agg #[.bool six, .int .u64 (aH (x + 2 ^ k)), .int .u64 (aL (x + 2 ^ k)), .int .i64 ((wideN six - k : Nat) : Int)], va, vb, .func (.func F) #[] #[]] W (PresOut c2 W)))
    (e : Bool) (hE : Hid (decide (c1 ++ c2 = [(six, x, ((wideN six - k : Nat) : Int)), (six, x + 2 ^ k, ((wideN six - k : Nat) : Int))]) = e)) (R : List PT) (hR : Hid (R = if e then [(six, x, ((wideN six - (k + 1) : Nat) : Int))] else c1 ++ c2)) (U1 : Hid (∀ (W : World) (v : Value), RowP W v l1 → Calls Tryd.prog 79 #[.agg #[.bool six, .int .u64 (aH x), .int .u64 (aL x), .int .i64 ((wideN six - (k + 1) : Nat) : Int)], v] W fun e w' => e = .returned (.bool true) ∧ Below W.heap.size W w')) (U2 : Hid (∀ (W : World) (v : Value), RowP W v l2 → Calls Tryd.prog 79 #[.agg #[.bool six, .int .u64 (aH x), .int .u64 (aL x), .int .i64 ((wideN six - (k + 1) : Nat) : Int)], v] W fun e w' => e = .returned (.bool false) ∧ Below W.heap.size W w')) (w : World) (hrl : RowP w vl l) (hrm : RowP w vm m)
    (W1 : Hid (∀ W : World, RowP W vl l → Calls Tryd.prog 78 #[.agg #[.bool six, .int .u64 (aH x), .int .u64 (aL x), .int .i64 ((wideN six - (k + 1) : Nat) : Int)], vl] W (PresOut l1 W)))
    (W2 : Hid (∀ W : World, RowP W vm m → Calls Tryd.prog 78 #[.agg #[.bool six, .int .u64 (aH x), .int .u64 (aL x), .int .i64 ((wideN six - (k + 1) : Nat) : Int)], vm] W (PresOut l2 W))) :
    Calls Tryd.prog 66 #[.agg #[.bool six, .int .u64 (aH x), .int .u64 (aL x), .int .i64 ((wideN six - (k + 1) : Nat) : Int)], vl, vm, .func (.func F) #[] #[]] w (PresOut R w) := by
  have HH := Lib.hid (halves_al hA)
  obtain ⟨i0, hii, hz0, hz1, hz2⟩ := info_parts info_pre
  have b0 : Below w.heap.size w (w.alloc (.cells #[.bool six, .int .u64 (aH x), .int .u64 (aL x), .int .i64 ((wideN six - (k + 1) : Nat) : Int)] 44)) := (Below.refl _ w).alloc (Nat.le_refl _) _
  have GP := PreAt.new w six (aH x) (aL x) ((wideN six - (k + 1) : Nat) : Int) 44
  have RL := Lib.hid (hrl.keep b0)
  have RM := Lib.hid (hrm.keep b0)
  clear hrl hrm
  go_enter Tryd.func66, Tryd.ntmps66
  go_wp2_with fail
  revert b0 GP RL RM
  generalize w.alloc (.cells #[.bool six, .int .u64 (aH x), .int .u64 (aL x), .int .i64 ((wideN six - (k + 1) : Nat) : Int)] 44) = W
  intro b0 GP RL RM
  have FP := Lib.hid GP
  have hWs := b0.size
  obtain ⟨p0, p1, p2, p3, _⟩ := GP
  go_region_held3 (fun w' => w'.cell? ⟨w.heap.size, 0, none⟩ = some (.bool six) ∧ w'.cell? ⟨w.heap.size, 1, none⟩ = some (.int .u64 (aH x)) ∧ w'.cell? ⟨w.heap.size, 2, none⟩ = some (.int .u64 (aL x)) ∧ w'.cell? ⟨w.heap.size, 3, none⟩ = some (.int .i64 ((wideN six - (k + 1) : Nat) : Int)))
    (first
      | (simp [go_sem, p0, p1, p2, p3]; done)
      | (simp [go_sem, xp0, xp1, xp2, xp3]; done)
      | (simp [go_sem, yp0, yp1, yp2, yp3]; done)
      | fail)
    (first
      | (go_at_call 78; with_reducible refine (W1.out _ (RL.out.keep (Below.refl _ _).drew)).mono ?_; rintro e wa ⟨va, rfl, oa, ba⟩; obtain ⟨xp0, xp1, xp2, xp3, _⟩ := preCells (FP.out.via (Below.refl _ _).drew ba))
      | (go_at_call 78; with_reducible refine (W2.out _ ((RM.out.keep (Below.refl _ _).drew).keep ba)).mono ?_; rintro e wb ⟨vb, rfl, ob, bb⟩; obtain ⟨yp0, yp1, yp2, yp3, ypl⟩ := preCells ((FP.out.via (Below.refl _ _).drew ba).keep bb); have oa2 := ownsKeep oa bb)
      | fail)
  have FB := Lib.hid ((FP.out.via (Below.refl _ _).drew ba).keep bb)
  have b1 := thenBelow (thenBelow b0.drew ba) bb
  have RA := Lib.hid (RowP.owned oa2)
  have RB := Lib.hid (RowP.owned ob)
  clear FP RL RM b0 ba bb oa oa2 ob W1 W2 p0 p1 p2 p3 xp0 xp1 xp2 xp3
  go_wp2_with fail
  refine (U1.out _ _ RA.out).mono ?_
  rintro e w3 ⟨rfl, hb3⟩
  have b3 := thenBelow b1 hb3
  have RA := Lib.hid (RA.out.keep hb3)
  have RB := Lib.hid (RB.out.keep hb3)
  have FB := Lib.hid (FB.out.keep hb3)
  clear yp0 yp1 yp2 yp3 ypl hb3 b1
  obtain ⟨yp0, yp1, yp2, yp3, ypl⟩ := preCells FB.out
  go_wp2_with fail
  refine (U2.out _ _ RB.out).mono ?_
  rintro e w4 ⟨rfl, hb4⟩
  have b4 := thenBelow b3 hb4
  have RA := Lib.hid (RA.out.keep hb4)
  have RB := Lib.hid (RB.out.keep hb4)
  have FB := Lib.hid (FB.out.keep hb4)
  clear yp0 yp1 yp2 yp3 ypl hb4 b3
  obtain ⟨yp0, yp1, yp2, yp3, ypl⟩ := preCells FB.out
  go_wp2_with fail
  refine (HH.out _).mono ?_
  rintro e1 w5 ⟨rfl, hb5⟩
  have b5 := thenBelow b4 hb5
  have RA := Lib.hid (RA.out.keep hb5)
  have RB := Lib.hid (RB.out.keep hb5)
  have FB := Lib.hid (FB.out.keep hb5)
  clear yp0 yp1 yp2 yp3 ypl hb5 b4 HH
  go_wp2_with fail
  have bLU : Below w5.heap.size w5 ((w5.alloc (.cells #[.bool six, .int .u64 (aH x), .int .u64 (aL x), .int .i64 ((wideN six - k : Nat) : Int)] 44)).alloc (.cells #[.bool six, .int .u64 (aH (x + 2 ^ k)), .int .u64 (aL (x + 2 ^ k)), .int .i64 ((wideN six - k : Nat) : Int)] 44)) := ((Below.refl _ w5).alloc (Nat.le_refl _) _).alloc (by simp) _
  have GL := (PreAt.new w5 six (aH x) (aL x) ((wideN six - k : Nat) : Int) 44).alloc (.cells #[.bool six, .int .u64 (aH (x + 2 ^ k)), .int .u64 (aL (x + 2 ^ k)), .int .i64 ((wideN six - k : Nat) : Int)] 44)
  have GU := PreAt.new (w5.alloc (.cells #[.bool six, .int .u64 (aH x), .int .u64 (aL x), .int .i64 ((wideN six - k : Nat) : Int)] 44)) six (aH (x + 2 ^ k)) (aL (x + 2 ^ k)) ((wideN six - k : Nat) : Int) 44
  have GP := FB.out.keep bLU
  have RA := Lib.hid (RA.out.keep bLU)
  have RB := Lib.hid (RB.out.keep bLU)
  have GB := thenBelow b5 bLU
  rw [World.size_alloc] at GU
  clear FB b5 bLU
  revert GL GU GP RA RB GB
  generalize ((w5.alloc (.cells #[.bool six, .int .u64 (aH x), .int .u64 (aL x), .int .i64 ((wideN six - k : Nat) : Int)] 44)).alloc (.cells #[.bool six, .int .u64 (aH (x + 2 ^ k)), .int .u64 (aL (x + 2 ^ k)), .int .i64 ((wideN six - k : Nat) : Int)] 44)) = W9
  intro GL GU GP RA RB GB
  have FL := Lib.hid GL
  have FU := Lib.hid GU
  have FB := Lib.hid GP
  have hWs9 := GB.size
  have hWd : w.heap.size ≤ W9.drew.heap.size := hWs9
  have hby : (c1.length + c2.length) * 32 ≤ 140737488355328 := by omega
  have h63 : c1.length + c2.length ≤ maxLen := by unfold maxLen; omega
  obtain ⟨l0, l1', l2', l3, _⟩ := GL
  obtain ⟨u0, u1, u2, u3, _⟩ := GU
  clear GP
  go_region_held3 (fun w' => w'.cell? ⟨w5.heap.size, 0, none⟩ = some (.bool six) ∧ w'.cell? ⟨w5.heap.size, 1, none⟩ = some (.int .u64 (aH x)) ∧ w'.cell? ⟨w5.heap.size, 2, none⟩ = some (.int .u64 (aL x)) ∧ w'.cell? ⟨w5.heap.size, 3, none⟩ = some (.int .i64 ((wideN six - k : Nat) : Int)) ∧ w'.cell? ⟨w5.heap.size + 1, 0, none⟩ = some (.bool six) ∧ w'.cell? ⟨w5.heap.size + 1, 1, none⟩ = some (.int .u64 (aH (x + 2 ^ k))) ∧ w'.cell? ⟨w5.heap.size + 1, 2, none⟩ = some (.int .u64 (aL (x + 2 ^ k))) ∧ w'.cell? ⟨w5.heap.size + 1, 3, none⟩ = some (.int .i64 ((wideN six - k : Nat) : Int)))
    (first
      | (simp [go_sem, l0, l1', l2', l3, u0, u1, u2, u3]; done)
      | (simp [go_sem, xl0, xl1, xl2, xl3, xu0, xu1, xu2, xu3]; done)
      | (simp [go_sem, yl0, yl1, yl2, yl3, yu0, yu1, yu2, yu3]; done)
      | (simp [go_sem, zl0, zl1, zl2, zl3, zu0, zu1, zu2, zu3]; done)
      | fail)
    (first
      | (go_at_call 66; with_reducible refine (K1.out _ _ _ (RA.out.keep (Below.refl _ _).drew) (RB.out.keep (Below.refl _ _).drew)).mono ?_; rintro e2 wc ⟨vc, rfl, oc, bc⟩; obtain ⟨xl0, xl1, xl2, xl3, _⟩ := preCells (FL.out.via (Below.refl _ _).drew bc); obtain ⟨xu0, xu1, xu2, xu3, _⟩ := preCells (FU.out.via (Below.refl _ _).drew bc))
      | (go_at_call 66; with_reducible refine (K2.out _ _ _ ((RA.out.keep (Below.refl _ _).drew).keep bc) ((RB.out.keep (Below.refl _ _).drew).keep bc)).mono ?_; rintro e2 wd ⟨vd, rfl, od, bd⟩; obtain ⟨yl0, yl1, yl2, yl3, _⟩ := preCells ((FL.out.via (Below.refl _ _).drew bc).keep bd); obtain ⟨yu0, yu1, yu2, yu3, _⟩ := preCells ((FU.out.via (Below.refl _ _).drew bc).keep bd); have oc2 := ownsKeep oc bd)
      | (refine step_append_two (by rfl) _ _ _ (by rfl) W9.drew.heap.size 44 i0 _ 4 32 Tryd.underlying25 hii hz0 hz1 hz2 rfl (by decide) _ _ _ (by rfl) oc2 _ _ _ _ (by rfl) od (pRow_one _) hby h63 (Nat.le_trans bc.size bd.size) ?_; intro ve we he0 be; have b6 := (thenBelow bc bd).trans be; obtain ⟨zl0, zl1, zl2, zl3, zll⟩ := preCells (FL.out.via (Below.refl _ _).drew b6); obtain ⟨zu0, zu1, zu2, zu3, zul⟩ := preCells (FU.out.via (Below.refl _ _).drew b6))
      | fail)
  have FE := Lib.hid (FB.out.via (Below.refl _ _).drew b6)
  have B6 := thenBelow GB.drew b6
  have OE : Hid (Owned we w.heap.size ve (c1 ++ c2)) := Lib.hid (by
    unfold Owned
    rw [List.length_append, pRow_app]
    exact ownsLow he0 hWd)
  clear FL FU FB RA RB GB oc oc2 od bc bd be b6 he0 l0 l1' l2' l3 u0 u1 u2 u3 xl0 xl1 xl2 xl3 xu0 xu1 xu2 xu3 yl0 yl1 yl2 yl3 yu0 yu1 yu2 yu3 K1 K2
  go_wp2_with fail
  have EQ := equal_calls (c1 ++ c2) [(six, x, ((wideN six - k : Nat) : Int)), (six, x + 2 ^ k, ((wideN six - k : Nat) : Int))] (by rw [List.length_append]; exact hlen) (by simp) e hE.out ve (.slice (some ⟨we.heap.size, 0, none⟩) 2 2) _ ((RowP.owned OE.out).keep ((Below.refl _ _).alloc (Nat.le_refl _) _)) (row_two we six x ((wideN six - k : Nat) : Int) six (x + 2 ^ k) ((wideN six - k : Nat) : Int))
  refine EQ.mono ?_
  rintro e3 w7 ⟨rfl, hb7⟩
  have bT := thenBelow ((Below.refl _ we).alloc (Nat.le_refl _) _) hb7
  have B7 := thenBelow B6 bT
  obtain ⟨p0, p1, p2, p3, _⟩ := preCells (FE.out.keep bT)
  have OE := Lib.hid (ownsKeep OE.out bT)
  clear zl0 zl1 zl2 zl3 zll zu0 zu1 zu2 zu3 zul hb7 EQ bT B6 FE
  cases e
  · go_wp2
    go_returns
    exact ⟨_, rfl, by rw [hR.out]; exact OE.out, B7⟩
  · go_wp2
    go_returns
    exact ⟨_, rfl, by rw [hR.out]; exact owned_one _ _ B7.size _ _ _, B7.alloc B7.size _⟩
end Go.Proofs.YtojdlhiibffnfaaDoor

/-
  cidr.combineWithin, whole.
-/
namespace Go.Proofs.YtojdlhiibffnfaaDoor
open Go.RowKit
set_option linter.unusedVariables false
set_option linter.unusedSimpArgs false

/-- What is asked of a function value 'chosen'. -/
def Chooses (F : Nat) (c : Bool → Bool → Bool) : Prop :=
  (∀ (args : Array Value) (W : World), Sem.run Tryd.prog (callFunc F args) W = .ok (.enter F args) W) ∧
  ∀ (a b : Bool) (W : World), Calls Tryd.prog F #[.bool a, .bool b] W fun e w' => e = .returned (.bool (c a b)) ∧ Below W.heap.size W w'
section
variable {six : Bool} {F : Nat} {c : Bool → Bool → Bool} (hc : Chooses F c)
include hc
theorem cw_u {k x : Nat} {ls ms : BL} (hA : AL six x k) (hl : AllAL six ls) (hm : AllAL six ms) (n1 : ls.length ≤ 80) (n2 : ms.length ≤ 80) (u1 : unif x k (wth x k ls) = true) (u2 : unif x k (wth x k ms) = true) (w : World) (vl vm : Value) (hrl : RowP w vl (ls.map (bl six))) (hrm : RowP w vm (ms.map (bl six))) :
    Calls Tryd.prog 66 #[.agg #[.bool six, .int .u64 (aH x), .int .u64 (aL x), .int .i64 ((wideN six - k : Nat) : Int)], vl, vm, .func (.func F) #[] #[]] w (PresOut (cn six (chS c ls ms) k x) w) := by
  have m1 := wth_len x k ls
  have m2 := wth_len x k ms
  refine cw_unif six x k F vl vm _ _ ((wth x k ls).map (bl six)) ((wth x k ms).map (bl six)) (by rw [List.length_map]; omega) (by rw [List.length_map]; omega)
    (Lib.hid fun W v h => uniform_calls six x k hA.1 _ (wth_al hA hl) (by omega) true u1 v W h) (Lib.hid fun W v h => uniform_calls six x k hA.1 _ (wth_al hA hm) (by omega) true u2 v W h)
    (Lib.hid hc.1) _ (Lib.hid fun W => hc.2 _ _ W) _ (Lib.hid ?_) w hrl hrm (Lib.hid fun W h => within_calls six x k hA ls hl (by omega) vl W h) (Lib.hid fun W h => within_calls six x k hA ms hm (by omega) vm W h)
  rw [cn_unif hA hl hm u1 u2, List.length_map, List.length_map]
theorem cw_calls : ∀ (k x : Nat) (ls ms : BL), AL six x k → AllAL six ls → AllAL six ms → ls.length ≤ 80 → ms.length ≤ 80 → ∀ (w : World) (vl vm : Value), RowP w vl (ls.map (bl six)) → RowP w vm (ms.map (bl six)) →
    Calls Tryd.prog 66 #[.agg #[.bool six, .int .u64 (aH x), .int .u64 (aL x), .int .i64 ((wideN six - k : Nat) : Int)], vl, vm, .func (.func F) #[] #[]] w (PresOut (cn six (chS c ls ms) k x) w)
  | 0, x, ls, ms, hA, hl, hm, n1, n2, w, vl, vm, hrl, hrm => by
    have u : ∀ l : BL, unif x 0 (wth x 0 l) = true := fun l => by
      cases h : unif x 0 (wth x 0 l) with
      | true => rfl
      | false => obtain ⟨j, hj⟩ := nonunif_pos h; omega
    exact cw_u hc hA hl hm n1 n2 (u ls) (u ms) w vl vm hrl hrm
  | k + 1, x, ls, ms, hA, hl, hm, n1, n2, w, vl, vm, hrl, hrm => by
    have m1 := wth_len x (k + 1) ls
    have m2 := wth_len x (k + 1) ms
    have hlen : (cn six (chS c ls ms) k x).length + (cn six (chS c ls ms) k (x + 2 ^ k)).length ≤ 1000000000 := by
      have := cn_len' hl hm (c := c) hA.low
      have := cn_len' hl hm (c := c) hA.high
      omega
    have e1 : cn six (chS c (wth x (k + 1) ls) (wth x (k + 1) ms)) k x = cn six (chS c ls ms) k x := cn_wth hA hl hm (fun a h => inB_low h)
    have e2 : cn six (chS c (wth x (k + 1) ls) (wth x (k + 1) ms)) k (x + 2 ^ k) = cn six (chS c ls ms) k (x + 2 ^ k) := cn_wth hA hl hm (fun a h => inB_high h)
    have K1 : Hid (∀ (W : World) (va vb : Value), RowP W va ((wth x (k + 1) ls).map (bl six)) → RowP W vb ((wth x (k + 1) ms).map (bl six)) → Calls Tryd.prog 66 #[.agg #[.bool six, .int .u64 (aH x), .int .u64 (aL x), .int .i64 ((wideN six - k : Nat) : Int)], va, vb, .func (.func F) #[] #[]] W (PresOut (cn six (chS c ls ms) k x) W)) :=
      Lib.hid fun W va vb h1 h2 => by rw [← e1]; exact cw_calls k x _ _ hA.low (wth_al hA hl) (wth_al hA hm) (by omega) (by omega) W va vb h1 h2
    have K2 : Hid (∀ (W : World) (va vb : Value), RowP W va ((wth x (k + 1) ls).map (bl six)) → RowP W vb ((wth x (k + 1) ms).map (bl six)) → Calls Tryd.prog 66 #[.agg #[.bool six, .int .u64 (aH (x + 2 ^ k)), .int .u64 (aL (x + 2 ^ k)), .int .i64 ((wideN six - k : Nat) : Int)], va, vb, .func (.func F) #[] #[]] W (PresOut (cn six (chS c ls ms) k (x + 2 ^ k)) W)) :=
      Lib.hid fun W va vb h1 h2 => by rw [← e2]; exact cw_calls k (x + 2 ^ k) _ _ hA.high (wth_al hA hl) (wth_al hA hm) (by omega) (by omega) W va vb h1 h2
    have W1 : Hid (∀ W : World, RowP W vl (ls.map (bl six)) → Calls Tryd.prog 78 #[.agg #[.bool six, .int .u64 (aH x), .int .u64 (aL x), .int .i64 ((wideN six - (k + 1) : Nat) : Int)], vl] W (PresOut ((wth x (k + 1) ls).map (bl six)) W)) := Lib.hid fun W h => within_calls six x (k + 1) hA ls hl (by omega) vl W h
    have W2 : Hid (∀ W : World, RowP W vm (ms.map (bl six)) → Calls Tryd.prog 78 #[.agg #[.bool six, .int .u64 (aH x), .int .u64 (aL x), .int .i64 ((wideN six - (k + 1) : Nat) : Int)], vm] W (PresOut ((wth x (k + 1) ms).map (bl six)) W)) := Lib.hid fun W h => within_calls six x (k + 1) hA ms hm (by omega) vm W h
    have hj : cn six (chS c ls ms) (k + 1) x = if decide (cn six (chS c ls ms) k x ++ cn six (chS c ls ms) k (x + 2 ^ k) = [(six, x, ((wideN six - k : Nat) : Int)), (six, x + 2 ^ k, ((wideN six - k : Nat) : Int))]) then [(six, x, ((wideN six - (k + 1) : Nat) : Int))] else cn six (chS c ls ms) k x ++ cn six (chS c ls ms) k (x + 2 ^ k) := by
      rw [cn_join hA]; simp only [decide_eq_true_eq]
    cases u1 : unif x (k + 1) (wth x (k + 1) ls) with
    | false => exact cw_split1 six x k F vl vm _ _ _ _ hA _ _ hlen K1 K2 _ (Lib.hid rfl) _ (Lib.hid hj) (Lib.hid fun W v h => uniform_calls six x (k + 1) hA.1 _ (wth_al hA hl) (by omega) false u1 v W h) w hrl hrm W1 W2
    | true =>
      cases u2 : unif x (k + 1) (wth x (k + 1) ms) with
      | true => exact cw_u hc hA hl hm n1 n2 u1 u2 w vl vm hrl hrm
      | false => exact cw_split2 six x k F vl vm _ _ _ _ hA _ _ hlen K1 K2 _ (Lib.hid rfl) _ (Lib.hid hj) (Lib.hid fun W v h => uniform_calls six x (k + 1) hA.1 _ (wth_al hA hl) (by omega) true u1 v W h) (Lib.hid fun W v h => uniform_calls six x (k + 1) hA.1 _ (wth_al hA hm) (by omega) false u2 v W h) w hrl hrm W1 W2
end
end Go.Proofs.YtojdlhiibffnfaaDoor

/-
  cidr.check.
-/
namespace Go.Proofs.YtojdlhiibffnfaaDoor
open Go.RowKit
set_option linter.unusedVariables false
set_option linter.unusedSimpArgs false

def chkP (p : PT) : Int := chkE p.1 p.2.1 p.2.2
/-- The first error of a list of prefixes. -/
def ferr : List PT → Int
  | [] => 0
  | p :: t => if chkP p = 0 then ferr t else chkP p
/-- The error of two lists. -/
def listsE (l m : List PT) : Int := if 80 < l.length ∨ 80 < m.length then 1 else if ferr l = 0 then ferr m else ferr l
def Words (l : List PT) : Prop := ∀ p ∈ l, p.2.1 < 2 ^ 128
theorem ferr_drop_ok {l : List PT} {i : Nat} (hi : i < l.length) (h : chkP l[i] = 0) : ferr (l.drop i) = ferr (l.drop (i + 1)) := by
  rw [List.drop_eq_getElem_cons hi]; simp [ferr, h]
theorem ferr_drop_bad {l : List PT} {i : Nat} (hi : i < l.length) (h : ¬ chkP l[i] = 0) : ferr (l.drop i) = chkP l[i] := by
  rw [List.drop_eq_getElem_cons hi]; simp [ferr, h]
theorem RowP.at {w : World} {v : Value} {l : List PT} (h : RowP w v l) : ∃ p c, v = .slice p l.length c ∧ ∀ k (hk : k < l.length), ∃ g o, p = some ⟨g, o, none⟩ ∧ g < w.heap.size ∧ PCell w g (o + k * 4) l[k] := by
  rcases h with ⟨rfl, p, c, e⟩ | ⟨g, o, c, e, hg, hc⟩
  · exact ⟨p, c, e, fun k hk => by simp at hk⟩
  · exact ⟨_, c, e, fun k hk => ⟨g, o, rfl, hg, hc k hk⟩⟩
theorem cidrCheck_big (l m : List PT) (vl vm : Value) (hn : l.length ≤ 9223372036854775807) (hm : m.length ≤ 9223372036854775807) (h : 80 < l.length ∨ 80 < m.length) (b : Nat) (w : World) (rl : RowP w vl l) (rm : RowP w vm m) (h0 : w.cell? ⟨b, 0, none⟩ = some vl) (h1 : w.cell? ⟨b, 1, none⟩ = some vm) :
    Calls Tryd.prog 64 #[.slice (some ⟨b, 0, none⟩) 2 2] w fun e w' => e = .returned (.int .i64 1) ∧ Below w.heap.size w w' := by
  obtain ⟨p1, c1, rfl, _⟩ := rl.at
  obtain ⟨p2, c2, rfl, _⟩ := rm.at
  by_cases hl : 80 < l.length
  · have hl' : (80 : Int) < (l.length : Int) := by omega
    go_enter Tryd.func64, Tryd.ntmps64
    go_wp2
    go_rounds 1
    go_ret
    exact ⟨rfl, Below.refl _ _⟩
  · have hl' : ¬ (80 : Int) < (l.length : Int) := by omega
    have hm' : (80 : Int) < (m.length : Int) := by omega
    go_enter Tryd.func64, Tryd.ntmps64
    go_wp2
    go_rounds 2
    go_ret
    exact ⟨rfl, Below.refl _ _⟩
set_option maxHeartbeats 4000000 in
set_option maxRecDepth 100000 in
theorem cidrCheck_small (l m : List PT) (vl vm : Value) (hn : l.length ≤ 80) (hm : m.length ≤ 80) (wl : Words l) (wm : Words m) (E : Int) (hE : (if ferr l = 0 then ferr m else ferr l) = E) (b : Nat) (w : World) (hb : b < w.heap.size) (rl : RowP w vl l) (rm : RowP w vm m) (h0 : w.cell? ⟨b, 0, none⟩ = some vl) (h1 : w.cell? ⟨b, 1, none⟩ = some vm) :
    Calls Tryd.prog 64 #[.slice (some ⟨b, 0, none⟩) 2 2] w fun e w' => e = .returned (.int .i64 E) ∧ Below w.heap.size w w' := by
  obtain ⟨p1, c1, rfl, q1⟩ := rl.at
  obtain ⟨p2, c2, rfl, q2⟩ := rm.at
  have hl' : ¬ (80 : Int) < (l.length : Int) := by omega
  have hm' : ¬ (80 : Int) < (m.length : Int) := by omega
  have LE := Lib.hid hE
  have WL := Lib.hid wl
  have WM := Lib.hid wm
  have Q1 := Lib.hid q1
  have Q2 := Lib.hid q2
  clear hE wl wm q1 q2 rl rm
  go_enter Tryd.func64, Tryd.ntmps64
  go_wp2
  go_rounds 3
  go_wp2
  go_loopw [22] (fun i wr => ∃ j : Nat, j ≤ 2 ∧ i = .int .i64 j ∧ Below w.heap.size w wr ∧ Hid (1 ≤ j → ferr l = 0) ∧ Hid (2 ≤ j → ferr m = 0)) (fun i _ => 2 - (intOf i).toNat)
  case atStart => exact ⟨0, by omega, rfl, Below.refl _ _, Lib.hid (fun h => by omega), Lib.hid (fun h => by omega)⟩
  case round =>
    obtain ⟨j, hj, rfl, hnx, i1, i2⟩ := hrel
    by_cases hlt : j < 2
    · have pick : ∃ (L : List PT) (p : Option Addr) (c : Nat), wr.cell? ⟨b, j, none⟩ = some (.slice p L.length c) ∧ L.length ≤ 80 ∧ Words L ∧ (∀ k (hk : k < L.length), ∃ g o, p = some ⟨g, o, none⟩ ∧ g < w.heap.size ∧ PCell w g (o + k * 4) L[k]) ∧ (ferr L ≠ 0 → E = ferr L) ∧ (ferr L = 0 → (1 ≤ j + 1 → ferr l = 0) ∧ (2 ≤ j + 1 → ferr m = 0)) := by
        have e := LE.out
        match j, hlt with
        | 0, _ => exact ⟨l, p1, c1, (hnx.cell (p := ⟨b, 0, none⟩) hb).trans h0, hn, WL.out, Q1.out, fun h => by rw [if_neg h] at e; exact e.symm, fun h => ⟨fun _ => h, fun h => by omega⟩⟩
        | 1, _ =>
          have z := i1.out (by omega)
          exact ⟨m, p2, c2, (hnx.cell (p := ⟨b, 1, none⟩) hb).trans h1, hm, WM.out, Q2.out, fun h => by rw [if_pos z] at e; exact e.symm, fun h => ⟨fun _ => z, fun _ => h⟩⟩
      obtain ⟨L, p, c, hcell, hL, hW, hC, hbad, hok⟩ := pick
      have HW := Lib.hid hW
      have HC := Lib.hid hC
      have HBAD := Lib.hid hbad
      have HOK := Lib.hid hok
      clear hW hC hbad hok i1 i2
      have hj2 : (j : Int) < 2 := by omega
      have hj3 : decide ((j : Int) < 2) = true := decide_eq_true hj2
      go_wp2
      go_loopw [28] (fun i wq => ∃ k : Nat, k ≤ L.length ∧ i = .int .i64 k ∧ Below w.heap.size w wq ∧ Hid (ferr L = ferr (L.drop k))) (fun i _ => L.length - (intOf i).toNat)
      case atStart => exact ⟨0, by omega, rfl, hnx, Lib.hid rfl⟩
      case round =>
        obtain ⟨k, hk, rfl, hny, hf⟩ := hrel
        by_cases hkl : k < L.length
        · obtain ⟨g, o, rfl, hg, hP⟩ := HC.out k hkl
          obtain ⟨x0, x1, x2, x3⟩ := hP.keep hg hny
          have hw := HW.out _ (List.getElem_mem hkl)
          have T1 := Lib.hid (fun h => ferr_drop_ok hkl h)
          have T2 := Lib.hid (fun h => ferr_drop_bad hkl h)
          generalize L[k] = q at x0 x1 x2 x3 hw T1 T2
          obtain ⟨s, x, n⟩ := q
          simp only at x0 x1 x2 x3 hw
          have CK := Lib.hid (fun W : World => check_calls s x n hw W)
          have hgs := Nat.lt_of_lt_of_le hg hny.size
          go_wp2_with fail
          refine (CK.out _).mono ?_
          rintro e w2 ⟨rfl, hb2⟩
          have b2 := thenBelow (thenBelow hny ((Below.refl _ _).alloc (Nat.le_refl _) _)) hb2
          clear x0 x1 x2 x3 hb2
          by_cases hz : chkP (s, x, n) = 0
          · have T1' := T1.out hz
            have hz' : chkE s x n = 0 := hz
            clear T1 T2 hz
            rw [hz']
            go_wp2
            go_roundw
            case rel => exact ⟨k + 1, by omega, by go_num, b2, Lib.hid (hf.out.trans T1')⟩
            case measure => simp [intOf]; omega
          · have T2' := T2.out hz
            have hz' : ¬ chkE s x n = 0 := hz
            have hz1 : (chkE s x n == 0) = false := by simpa using hz'
            have hz2 : (chkE s x n != 0) = true := by simp [bne, hz1]
            obtain rfl : E = chkE s x n := by
              have := hf.out.trans T2'
              rw [HBAD.out (by rw [this]; exact hz), this]
              rfl
            clear T1 T2 hz
            go_wp2
            go_ret
            exact ⟨rfl, b2⟩
        · obtain rfl : k = L.length := by omega
          have z : ferr L = 0 := by rw [hf.out, List.drop_length]; rfl
          obtain ⟨z1, z2⟩ := HOK.out z
          go_wp2
          go_roundw
          case rel => exact ⟨j + 1, by omega, by go_num, hny, Lib.hid z1, Lib.hid z2⟩
          case measure => simp [intOf]; omega
    · obtain rfl : j = 2 := by omega
      obtain rfl : E = 0 := by
        have e := LE.out
        rw [if_pos (i1.out (by omega)), i2.out (by omega)] at e
        exact e.symm
      go_wp2
      go_ret
      exact ⟨rfl, hnx⟩
theorem cidrCheck (l m : List PT) (vl vm : Value) (hn : l.length ≤ 9223372036854775807) (hm : m.length ≤ 9223372036854775807) (wl : Words l) (wm : Words m) (b : Nat) (w : World) (hb : b < w.heap.size) (rl : RowP w vl l) (rm : RowP w vm m) (h0 : w.cell? ⟨b, 0, none⟩ = some vl) (h1 : w.cell? ⟨b, 1, none⟩ = some vm) :
    Calls Tryd.prog 64 #[.slice (some ⟨b, 0, none⟩) 2 2] w fun e w' => e = .returned (.int .i64 (listsE l m)) ∧ Below w.heap.size w w' := by
  unfold listsE
  by_cases h : 80 < l.length ∨ 80 < m.length
  · rw [if_pos h]; exact cidrCheck_big l m vl vm hn hm h b w rl rm h0 h1
  · rw [if_neg h]; exact cidrCheck_small l m vl vm (by omega) (by omega) wl wm _ rfl b w hb rl rm h0 h1
end Go.Proofs.YtojdlhiibffnfaaDoor

/-
  cidr.byFamily.
-/
namespace Go.Proofs.YtojdlhiibffnfaaDoor
open Go.RowKit
set_option linter.unusedVariables false
set_option linter.unusedSimpArgs false

/-- Block b holds two slices, rows of their own from 'base' on; block r holds what nobody has written yet. -/
structure FamSt (b r base i j : Nat) (w : World) (v u : Value) (l m : List PT) : Prop where
  ci : w.cell? ⟨b, i, none⟩ = some v
  cj : w.cell? ⟨b, j, none⟩ = some u
  fb : ∀ o, w.frozen? ⟨b, o, none⟩ = false
  r0 : w.cell? ⟨r, 0, none⟩ = some (.slice none 0 0)
  r1 : w.cell? ⟨r, 1, none⟩ = some (.slice none 0 0)
  fr : ∀ o, w.frozen? ⟨r, o, none⟩ = false
  oi : Owned w base v l
  oj : Owned w base u m
  ap : ∀ q, v.ownBlock = some q → u.ownBlock ≠ some q
  ij : i ≠ j
  br : b ≠ r
  lb : b < base
  lr : r < base
  lB : base ≤ w.heap.size
section
variable {b r base i j : Nat} {w w' : World} {v u : Value} {l m : List PT}
theorem FamSt.swap (h : FamSt b r base i j w v u l m) : FamSt b r base j i w u v m l :=
  ⟨h.cj, h.ci, h.fb, h.r0, h.r1, h.fr, h.oj, h.oi, fun q hq e => h.ap q e hq, fun e => h.ij e.symm, h.br, h.lb, h.lr, h.lB⟩
theorem FamSt.keep (h : FamSt b r base i j w v u l m) (hb : Below w.heap.size w w') : FamSt b r base i j w' v u l m := by
  have hb' : b < w.heap.size := Nat.lt_of_lt_of_le h.lb h.lB
  have hr' : r < w.heap.size := Nat.lt_of_lt_of_le h.lr h.lB
  exact ⟨(hb.cell (p := ⟨b, i, none⟩) hb').trans h.ci, (hb.cell (p := ⟨b, j, none⟩) hb').trans h.cj, fun o => (hb.frozen (p := ⟨b, o, none⟩) hb').trans (h.fb o), (hb.cell (p := ⟨r, 0, none⟩) hr').trans h.r0, (hb.cell (p := ⟨r, 1, none⟩) hr').trans h.r1, fun o => (hb.frozen (p := ⟨r, o, none⟩) hr').trans (h.fr o),
    ownsKeep h.oi hb, ownsKeep h.oj hb, h.ap, h.ij, h.br, h.lb, h.lr, Nat.le_trans h.lB hb.size⟩
/-- A row lies as it lay if its block is as it was. -/
theorem owned_block {w w' : World} {base : Nat} {v : Value} {l : List PT} (h : Owned w base v l) (hb : ∀ q, v.ownBlock = some q → w'.heap[q]? = w.heap[q]?) : Owned w' base v l := by
  refine ⟨h.1, ?_⟩
  rcases h.2 with h2 | ⟨g, cap, cur, a, b, c, d⟩
  · exact .inl h2
  · refine .inr ⟨g, cap, cur, a, b, (hb g ?_).trans c, d⟩
    rw [a]; rfl
/-- One more in the first row, stored. -/
theorem FamSt.app {g cap : Nat} {w4 : World} {p : PT} {o : Obj} (h : FamSt b r base i j w v u l m) (hg : (w.alloc o).grownBy w4 v.ownBlock)
    (own : Owned w4 base (.slice (some ⟨g, 0, none⟩) (l.length + 1) cap) (l ++ [p])) (hat : v.ownBlock = some g ∨ w.heap.size ≤ g) :
    FamSt b r base i j (w4.setCell ⟨b, i, none⟩ (.slice (some ⟨g, 0, none⟩) (l.length + 1) cap)) (.slice (some ⟨g, 0, none⟩) (l.length + 1) cap) u (l ++ [p]) m ∧
    w4.cell? ⟨b, i, none⟩ = some v ∧ w4.frozen? ⟨b, i, none⟩ = false ∧ ∀ B, Below B w w → B ≤ b → B ≤ base → B ≤ w.heap.size → Below B w (w4.setCell ⟨b, i, none⟩ (.slice (some ⟨g, 0, none⟩) (l.length + 1) cap)) := by
  have hlt := h.oi.lt
  have hlu := h.oj.lt
  have hsz : (w.alloc o).heap.size = w.heap.size + 1 := by simp
  have blk : ∀ k, k < w.heap.size → v.ownBlock ≠ some k → w4.heap[k]? = w.heap[k]? := fun k hk hn =>
    (hg.block k (by omega) (fun e => hn e.symm)).trans (Below.heap_alloc w o k hk)
  have nb : ∀ k, k < base → v.ownBlock ≠ some k := fun k hk e => by have := (hlt k e).1; omega
  have cl : ∀ k q, k < base → w4.cell? ⟨k, q, none⟩ = w.cell? ⟨k, q, none⟩ := fun k q hk => World.cell?_of_block (a := ⟨k, q, none⟩) (blk k (Nat.lt_of_lt_of_le hk h.lB) (nb k hk))
  have fl : ∀ k q, k < base → w4.frozen? ⟨k, q, none⟩ = w.frozen? ⟨k, q, none⟩ := fun k q hk => World.frozen?_of_block (a := ⟨k, q, none⟩) (blk k (Nat.lt_of_lt_of_le hk h.lB) (nb k hk))
  have s4 : w.heap.size ≤ w4.heap.size := by have := hg.size; omega
  have ci4 : w4.cell? ⟨b, i, none⟩ = some v := (cl b i h.lb).trans h.ci
  refine ⟨⟨?_, ?_, ?_, ?_, ?_, ?_, ownsRow_setCell_below own h.lb _, ownsRow_setCell_below (owned_block h.oj fun q hq => ?_) h.lb _, ?_, h.ij, h.br, h.lb, h.lr, ?_⟩, ci4, (fl b i h.lb).trans (h.fb i), fun B _ hBb hBs hBw => ?_⟩
  · simp [go_sem, ci4]
  · exact (World.cell?_setCell_other w4 ⟨b, i, none⟩ ⟨b, j, none⟩ _ (fun e => h.ij (by cases e; rfl))).trans ((cl b j h.lb).trans h.cj)
  · intro q; rw [World.frozen?_setCell]; exact (fl b q h.lb).trans (h.fb q)
  · exact (World.cell?_setCell_other w4 ⟨b, i, none⟩ ⟨r, 0, none⟩ _ (fun e => h.br (by cases e; rfl))).trans ((cl r 0 h.lr).trans h.r0)
  · exact (World.cell?_setCell_other w4 ⟨b, i, none⟩ ⟨r, 1, none⟩ _ (fun e => h.br (by cases e; rfl))).trans ((cl r 1 h.lr).trans h.r1)
  · intro q; rw [World.frozen?_setCell]; exact (fl r q h.lr).trans (h.fr q)
  · exact blk q (hlu q hq).2 (fun e => h.ap q e hq)
  · intro q hq e
    have hq' : g = q := by simpa [Value.ownBlock] using hq
    subst hq'
    rcases hat with c | c
    · exact h.ap g c e
    · have := (hlu g e).2; omega
  · have := h.lB; simp; omega
  · have g1 : Below B w w4 := ((Below.refl B w).alloc hBw o).grown hg (by simp; omega) (fun k hk => Nat.le_trans hBs (hlt k hk).1)
    exact g1.setCell (p := ⟨b, i, none⟩) hBb _
end
theorem family_calls2 (six : Bool) (h l : Int) (w : World) :
    Calls Tryd.prog 36 #[.agg #[.bool six, .int .u64 h, .int .u64 l]] w fun e w' => e = .returned (.int .i64 (if six then 1 else 0)) ∧ w.alloc (.cells #[.bool six, .int .u64 h, .int .u64 l] 24) = w' := by
  cases six
  all_goals
    go_enter Tryd.func36, Tryd.ntmps36
    go_wp2
    go_returns
    exact ⟨rfl, rfl⟩
theorem filt_yes {l : List PT} {k : Nat} (s : Bool) (hk : k < l.length) (h : l[k].1 = s) : (l.take (k + 1)).filter (·.1 == s) = (l.take k).filter (·.1 == s) ++ [l[k]] := by
  rw [List.take_succ_eq_append_getElem hk, List.filter_append]; simp [h]
theorem filt_no {l : List PT} {k : Nat} (s : Bool) (hk : k < l.length) (h : l[k].1 ≠ s) : (l.take (k + 1)).filter (·.1 == s) = (l.take k).filter (·.1 == s) := by
  rw [List.take_succ_eq_append_getElem hk, List.filter_append]; simp [h]
theorem filt_len (l : List PT) (s : Bool) (k : Nat) : ((l.take k).filter (·.1 == s)).length ≤ l.length := by
  have h1 := List.length_filter_le (·.1 == s) (l.take k)
  have h2 : (l.take k).length ≤ l.length := by rw [List.length_take]; omega
  omega
set_option maxHeartbeats 4000000 in
set_option maxRecDepth 100000 in
theorem byFam_calls (l : List PT) (v : Value) (hlen : l.length ≤ 1000) (w : World) (hr : RowP w v l) :
    Calls Tryd.prog 65 #[v] w fun e w' => (∃ v0 v1, e = .returned (.agg #[v0, v1]) ∧ Owned w' w.heap.size v0 (l.filter (·.1 == false)) ∧ Owned w' w.heap.size v1 (l.filter (·.1 == true))) ∧ Below w.heap.size w w' := by
  obtain ⟨i0, hii, hz0, hz1, hz2⟩ := info_parts info_pre
  obtain ⟨p, c, rfl, hc⟩ := hr.at
  have b0 : Below w.heap.size w ((w.alloc (.cells #[.slice none 0 0, .slice none 0 0] 80)).alloc (.cells #[.slice none 0 0, .slice none 0 0] 80)) := ((Below.refl _ w).alloc (Nat.le_refl _) _).alloc (by simp) _
  have ST : FamSt (w.heap.size + 1) w.heap.size (w.heap.size + 1 + 1) 0 1 ((w.alloc (.cells #[.slice none 0 0, .slice none 0 0] 80)).alloc (.cells #[.slice none 0 0, .slice none 0 0] 80)) (.slice none 0 0) (.slice none 0 0) [] [] :=
    ⟨by simp, by simp, fun o => by simp [go_sem], by simp, by simp, fun o => by simp [go_sem], owned_nil _ _, owned_nil _ _, fun q h => by simp [Value.ownBlock] at h, by omega, by omega, by omega, by omega, by simp⟩
  have HC := Lib.hid hc
  clear hc hr
  go_enter Tryd.func65, Tryd.ntmps65
  go_wp2
  revert b0 ST
  generalize ((w.alloc (.cells #[.slice none 0 0, .slice none 0 0] 80)).alloc (.cells #[.slice none 0 0, .slice none 0 0] 80)) = w1
  intro b0 ST
  go_loopw [9] (fun i wr => ∃ (k : Nat) (v0 v1 : Value), k ≤ l.length ∧ i = .int .i64 k ∧ FamSt (w.heap.size + 1) w.heap.size (w.heap.size + 1 + 1) 0 1 wr v0 v1 ((l.take k).filter (·.1 == false)) ((l.take k).filter (·.1 == true)) ∧ Below w.heap.size w wr) (fun i _ => l.length - (intOf i).toNat)
  case atStart => exact ⟨0, _, _, by omega, rfl, ST, b0⟩
  case round =>
    obtain ⟨k, v0, v1, hk, rfl, hst, hnx⟩ := hrel
    have lf := filt_len l false k
    have lt := filt_len l true k
    by_cases hlt : k < l.length
    · obtain ⟨g, o, rfl, hg, hP⟩ := HC.out k hlt
      obtain ⟨x0, x1, x2, x3⟩ := hP.keep hg hnx
      have hgs := Nat.lt_of_lt_of_le hg hnx.size
      have Y1 := Lib.hid (fun s h => filt_yes s hlt h)
      have Y2 := Lib.hid (fun s h => filt_no s hlt h)
      generalize l[k] = q at x0 x1 x2 x3 Y1 Y2
      obtain ⟨s, x, n⟩ := q
      simp only at x0 x1 x2 x3 Y1 Y2
      have HST := Lib.hid hst
      clear hst HC ST
      generalize hlf : (l.take k).filter (·.1 == false) = l0 at HST lf Y1 Y2
      generalize hlt' : (l.take k).filter (·.1 == true) = l1 at HST lt Y1 Y2
      have HLF := Lib.hid hlf
      have HLT := Lib.hid hlt'
      clear hlf hlt'
      cases s
      · go_wp2_with fail
        refine (family_calls2 false (aH x) (aL x) _).mono ?_
        rintro e w2 ⟨rfl, rfl⟩
        have bq : Below wr.heap.size wr ((wr.alloc (.cells #[.bool false, .int .u64 (aH x), .int .u64 (aL x), .int .i64 n] 44)).alloc (.cells #[.bool false, .int .u64 (aH x), .int .u64 (aL x)] 24)) := ((Below.refl _ _).alloc (Nat.le_refl _) _).alloc (by simp) _
        have GQ := (PreAt.new wr false (aH x) (aL x) n 44).alloc (.cells #[.bool false, .int .u64 (aH x), .int .u64 (aL x)] 24)
        have S2 := Lib.hid (HST.out.keep bq)
        have b2 := thenBelow hnx bq
        clear x0 x1 x2 x3 HST bq hnx
        go_wp2_with fail
        revert GQ S2 b2
        generalize ((wr.alloc (.cells #[.bool false, .int .u64 (aH x), .int .u64 (aL x), .int .i64 n] 44)).alloc (.cells #[.bool false, .int .u64 (aH x), .int .u64 (aL x)] 24)) = W
        intro GQ S2 b2
        obtain ⟨q0, q1, q2, q3, ql⟩ := GQ
        have S3 := Lib.hid (S2.out.keep (Below.refl _ _).drew)
        have ci := S2.out.ci
        have lB := S2.out.lB
        have hdz : W.drew.heap.size = W.heap.size := rfl
        have hbW : w.heap.size + 1 < W.heap.size := by omega
        have hbN : ¬ w.heap.size + 1 = W.heap.size := by omega
        have hbN' : ¬ W.heap.size = w.heap.size + 1 := by omega
        have hqN : ¬ wr.heap.size = W.heap.size := by omega
        go_region_law (refine step_append_lies _ rfl (.tmp 19) (.tmp 21) 25 rfl (w.heap.size + 1 + 1) 44 i0 _ 4 32 Tryd.underlying25 hii hz0 hz1 hz2 rfl (by decide) v0 _ _ (by simp [Act.eval, Act.put]) (S3.out.oi.alloc _) ⟨W.heap.size, 0, none⟩ 1 1 (pRow [(false, x, n)]) (by simp [Act.eval, Act.put]) rfl (World.news_of_block (heap_alloc_new W.drew _)) (pRow_one _) (by decide) (by unfold maxLen; omega) (by omega) (by simp; omega) _ rfl ?_; intro g9 cap9 w9 own9 hgrow hat hlt9; have own9' : Owned w9 (w.heap.size + 1 + 1) (.slice (some ⟨g9, 0, none⟩) (l0.length + 1) cap9) (l0 ++ [(false, x, n)]) := (by unfold Owned; rw [pRow_app, List.length_append]; exact own9); have FIN := S3.out.app hgrow own9' (hat.imp id (fun h => by simp at h; omega)); have cO := FIN.2.1; have zO := FIN.2.2.1; have FIN := Lib.hid FIN; clear own9 own9' hgrow)
        all_goals
          go_wp2
          go_roundw
          case rel => exact ⟨k + 1, _, _, by omega, by go_num, by rw [Y1.out false rfl, Y2.out true (by decide), HLF.out, HLT.out]; exact FIN.out.1, b2.drew.trans (FIN.out.2.2.2 w.heap.size (Below.refl _ _) (by omega) (by omega) (by have := b2.size; omega))⟩
          case measure => simp [intOf]; omega
      · go_wp2_with fail
        refine (family_calls2 true (aH x) (aL x) _).mono ?_
        rintro e w2 ⟨rfl, rfl⟩
        have bq : Below wr.heap.size wr ((wr.alloc (.cells #[.bool true, .int .u64 (aH x), .int .u64 (aL x), .int .i64 n] 44)).alloc (.cells #[.bool true, .int .u64 (aH x), .int .u64 (aL x)] 24)) := ((Below.refl _ _).alloc (Nat.le_refl _) _).alloc (by simp) _
        have GQ := (PreAt.new wr true (aH x) (aL x) n 44).alloc (.cells #[.bool true, .int .u64 (aH x), .int .u64 (aL x)] 24)
        have S2 := Lib.hid (HST.out.keep bq)
        have b2 := thenBelow hnx bq
        clear x0 x1 x2 x3 HST bq hnx
        go_wp2_with fail
        revert GQ S2 b2
        generalize ((wr.alloc (.cells #[.bool true, .int .u64 (aH x), .int .u64 (aL x), .int .i64 n] 44)).alloc (.cells #[.bool true, .int .u64 (aH x), .int .u64 (aL x)] 24)) = W
        intro GQ S2 b2
        obtain ⟨q0, q1, q2, q3, ql⟩ := GQ
        have S3 := Lib.hid (S2.out.keep (Below.refl _ _).drew)
        have ci := S2.out.cj
        have lB := S2.out.lB
        have hdz : W.drew.heap.size = W.heap.size := rfl
        have hbW : w.heap.size + 1 < W.heap.size := by omega
        have hbN : ¬ w.heap.size + 1 = W.heap.size := by omega
        have hbN' : ¬ W.heap.size = w.heap.size + 1 := by omega
        have hqN : ¬ wr.heap.size = W.heap.size := by omega
        go_region_law (refine step_append_lies _ rfl (.tmp 19) (.tmp 21) 25 rfl (w.heap.size + 1 + 1) 44 i0 _ 4 32 Tryd.underlying25 hii hz0 hz1 hz2 rfl (by decide) v1 _ _ (by simp [Act.eval, Act.put]) (S3.out.oj.alloc _) ⟨W.heap.size, 0, none⟩ 1 1 (pRow [(true, x, n)]) (by simp [Act.eval, Act.put]) rfl (World.news_of_block (heap_alloc_new W.drew _)) (pRow_one _) (by decide) (by unfold maxLen; omega) (by omega) (by simp; omega) _ rfl ?_; intro g9 cap9 w9 own9 hgrow hat hlt9; have own9' : Owned w9 (w.heap.size + 1 + 1) (.slice (some ⟨g9, 0, none⟩) (l1.length + 1) cap9) (l1 ++ [(true, x, n)]) := (by unfold Owned; rw [pRow_app, List.length_append]; exact own9); have FIN := S3.out.swap.app hgrow own9' (hat.imp id (fun h => by simp at h; omega)); have cO := FIN.2.1; have zO := FIN.2.2.1; have FIN := Lib.hid FIN; clear own9 own9' hgrow)
        all_goals
          go_wp2
          go_roundw
          case rel => exact ⟨k + 1, _, _, by omega, by go_num, by rw [Y2.out false (by decide), Y1.out true rfl, HLF.out, HLT.out]; exact FIN.out.1.swap, b2.drew.trans (FIN.out.2.2.2 w.heap.size (Below.refl _ _) (by omega) (by omega) (by have := b2.size; omega))⟩
          case measure => simp [intOf]; omega
    · obtain rfl : k = l.length := by omega
      rw [List.take_length] at hst
      obtain ⟨c0, c1, fb, r0, r1, fr, o0, o1, _, _, _, lb, lr, lB⟩ := hst
      have f0 := fr 0
      have f1 := fr 1
      clear fb fr
      obtain ⟨pa, ca, rfl⟩ := (RowP.owned o0).form
      obtain ⟨pb, cb, rfl⟩ := (RowP.owned o1).form
      go_wp2
      try simp only [Exit.inBlock, Exit.then]
      refine bodyPost_ret (v := .agg #[.slice pa (l.filter (·.1 == false)).length ca, .slice pb (l.filter (·.1 == true)).length cb]) (by simp [results, Tryd.results65, go_sem, r0, r1, c0, c1]; try rfl) rfl ?_
      refine ⟨⟨_, _, rfl, ?_, ?_⟩, ?_⟩
      · exact ownsLow (ownsRow_setCell_below (ownsRow_setCell_below o0 lr _) lr _) (by omega)
      · exact ownsLow (ownsRow_setCell_below (ownsRow_setCell_below o1 lr _) lr _) (by omega)
      · exact (hnx.setCell (by simp) _).setCell (by simp) _
end Go.Proofs.YtojdlhiibffnfaaDoor

/-
  How an address reads as an argument, and as it reads again.
-/
namespace Go.Proofs.YtojdlhiibffnfaaDoor
open Go.ChangeShapes Go.WideShapes Go.ChangeAt Go.RowKit Go.Joins
set_option linter.unusedSimpArgs false
set_option maxRecDepth 100000
section
variable {H : Type} {enc : TypeId × Value → H} {w : World} {base : Nat} {spare : Nat → Bool} {held : Bool}

theorem cellsAddr : Tryd.prog.cellsOf 24 = 3 := by kernel_rfl

/-- An address by value. -/
theorem openAddr {r : Reach} {b0 : Nat} {v : Value} {d : DataW H} {p : List MemPlace} (hv : Value.okWide Tryd.prog w r b0 24 v) (h : DataW.Trod enc Tryd.prog w base spare held 24 v d p) :
    ∃ (six : Bool) (hi lo : Int), v = .agg #[.bool six, .int .u64 hi, .int .u64 lo] ∧ d = .agg [.lit (.bool six), .lit (.int .u64 hi), .lit (.int .u64 lo)] ∧ p = [] ∧ (Lit.int .u64 hi).wf = true ∧ (Lit.int .u64 lo).wf = true := by
  obtain ⟨c0, c1, c2, y0, y1, y2, m, rfl, rfl, rfl, hy0, hy1, hy2⟩ := open_agg3 Tryd.underlying24 (by kernel_rfl) cellsAddr hv h
  obtain ⟨six, e0, rfl⟩ := DataW.trod_bool Tryd.underlying4 hy0
  obtain ⟨hi, e1, rfl, w1⟩ := DataW.trod_int Tryd.underlying22 hy1
  obtain ⟨lo, e2, rfl, w2⟩ := DataW.trod_int Tryd.underlying22 hy2
  simp at e0 e1 e2
  subst e0 e1 e2
  exact ⟨six, hi, lo, rfl, rfl, rfl, w1, w2⟩

theorem shutAddr {six : Bool} {hi lo : Int} (w1 : (Lit.int .u64 hi).wf = true) (w2 : (Lit.int .u64 lo).wf = true) :
    DataW.Trod enc Tryd.prog w base spare held 24 (.agg #[.bool six, .int .u64 hi, .int .u64 lo]) (.agg [.lit (.bool six), .lit (.int .u64 hi), .lit (.int .u64 lo)]) [] :=
  shut_agg3 (y0 := (.lit (.bool six), [])) (y1 := (.lit (.int .u64 hi), [])) (y2 := (.lit (.int .u64 lo), [])) Tryd.underlying24 (by kernel_rfl) cellsAddr ⟨1, by simp [DataW.trod, Tryd.underlying4]⟩ ⟨1, by simp [DataW.trod, Tryd.underlying22, w1]⟩ ⟨1, by simp [DataW.trod, Tryd.underlying22, w2]⟩
end
end Go.Proofs.YtojdlhiibffnfaaDoor

/-
  How a prefix reads as an argument, and as it reads again.
-/
namespace Go.Proofs.YtojdlhiibffnfaaDoor
open Go.ChangeShapes Go.WideShapes Go.ChangeAt Go.RowKit Go.Joins
set_option linter.unusedSimpArgs false
set_option maxRecDepth 100000
section
variable {H : Type} {enc : TypeId × Value → H} {w : World} {base : Nat} {spare : Nat → Bool} {held : Bool}

theorem cellsPrefix : Tryd.prog.cellsOf 44 = 4 := by kernel_rfl
theorem cellsInt : Tryd.prog.cellsOf 3 = 1 := by kernel_rfl
theorem cellsBool : Tryd.prog.cellsOf 4 = 1 := by kernel_rfl
theorem cellsU64 : Tryd.prog.cellsOf 22 = 1 := by kernel_rfl

/-- A prefix by value. -/
theorem openPrefix {r : Reach} {b0 : Nat} {v : Value} {d : DataW H} {p : List MemPlace} (hv : Value.okWide Tryd.prog w r b0 44 v) (h : DataW.Trod enc Tryd.prog w base spare held 44 v d p) :
    ∃ (six : Bool) (hi lo n : Int), v = .agg #[.bool six, .int .u64 hi, .int .u64 lo, .int .i64 n] ∧ d = .agg [.agg [.lit (.bool six), .lit (.int .u64 hi), .lit (.int .u64 lo)], .lit (.int .i64 n)] ∧ p = [] ∧ (Lit.int .u64 hi).wf = true ∧ (Lit.int .u64 lo).wf = true ∧ (Lit.int .i64 n).wf = true := by
  obtain ⟨cs, rfl, hsz⟩ := okWide_struct Tryd.underlying44 hv
  obtain ⟨c0, c1, c2, c3, rfl⟩ := array4 (hsz.trans cellsPrefix)
  obtain ⟨fuel, hf⟩ := h
  obtain ⟨y0, y1, n, hx, _, h0, h1⟩ := trod_struct2 Tryd.underlying44 hf
  simp only [Prod.mk.injEq] at hx
  obtain ⟨rfl, rfl⟩ := hx
  simp only [cellsAddr, cellsInt, Value.cells, List.drop_zero, List.take, List.drop] at h0 h1
  obtain ⟨z0, z1, z2, m, rfl, _, k0, k1, k2⟩ := Go.Deep.trod_struct3 Tryd.underlying24 h0
  simp only [cellsBool, cellsU64, List.drop_zero, List.take, List.drop] at k0 k1 k2
  obtain ⟨six, e0, rfl⟩ := DataW.trod_bool Tryd.underlying4 k0
  obtain ⟨hi, e1, rfl, w1⟩ := DataW.trod_int Tryd.underlying22 k1
  obtain ⟨lo, e2, rfl, w2⟩ := DataW.trod_int Tryd.underlying22 k2
  obtain ⟨l, e3, rfl, w3⟩ := DataW.trod_int Tryd.underlying3 h1
  simp at e0 e1 e2 e3
  subst e0 e1 e2 e3
  exact ⟨six, hi, lo, l, rfl, rfl, rfl, w1, w2, w3⟩

theorem shutPrefix {six : Bool} {hi lo n : Int} (w1 : (Lit.int .u64 hi).wf = true) (w2 : (Lit.int .u64 lo).wf = true) (w3 : (Lit.int .i64 n).wf = true) :
    DataW.Trod enc Tryd.prog w base spare held 44 (.agg #[.bool six, .int .u64 hi, .int .u64 lo, .int .i64 n]) (.agg [.agg [.lit (.bool six), .lit (.int .u64 hi), .lit (.int .u64 lo)], .lit (.int .i64 n)]) [] := by
  obtain ⟨k, hk⟩ := shutAddr (enc := enc) (w := w) (base := base) (spare := spare) (held := held) (six := six) w1 w2
  exact ⟨k + 1 + 1, trod_struct2_mk (y0 := (.agg [.lit (.bool six), .lit (.int .u64 hi), .lit (.int .u64 lo)], [])) (y1 := (.lit (.int .i64 n), [])) Tryd.underlying44 (by rw [cellsPrefix]; rfl)
    (by simp only [cellsAddr, Value.cells, List.drop_zero, List.take, List.drop]; exact DataW.trod_le (Nat.le_succ k) hk)
    (by simp only [cellsInt, Value.cells, List.take, List.drop]; exact trod_int_mk k Tryd.underlying3 w3)⟩
end
/-- Two words are those of a number. -/
theorem asNum (hi lo : Int) (h0 : 0 ≤ hi) (h1 : hi ≤ 18446744073709551615) (l0 : 0 ≤ lo) (l1 : lo ≤ 18446744073709551615) : ∃ x : Nat, x < 2 ^ 128 ∧ hi = aH x ∧ lo = aL x :=
  ⟨numA hi lo, numA_lt hi lo h0 h1 l0 l1, (aH_numA hi lo h0 l0 l1).symm, (aL_numA hi lo h0 l0 l1).symm⟩
end Go.Proofs.YtojdlhiibffnfaaDoor

/-
  The rows that list one variable, cidr.families: a world in which it lies as listed, and what a walk has of the rows' condition.
-/
namespace Go.Proofs.YtojdlhiibffnfaaDoor
open Go.ChangeShapes Go.WideShapes Go.ChangeAt Go.RowKit Go.Joins
set_option linter.unusedSimpArgs false
set_option linter.unusedVariables false

section
variable {H : Type} {enc : TypeId × Value → H} {w : World} {base : Nat} {spare : Nat → Bool} {held : Bool}
/-- The cells of a prefix, from how it reads. -/
theorem trodPrefix {fuel : Nat} {cs : List Value} {x : DataW H × List MemPlace} (hl : cs.length = 4) (h : DataW.trod enc Tryd.prog w base spare held fuel 44 cs = some x) :
    ∃ (six : Bool) (hi lo n : Int), cs = [.bool six, .int .u64 hi, .int .u64 lo, .int .i64 n] ∧ x = (.agg [.agg [.lit (.bool six), .lit (.int .u64 hi), .lit (.int .u64 lo)], .lit (.int .i64 n)], []) ∧ (Lit.int .u64 hi).wf = true ∧ (Lit.int .u64 lo).wf = true ∧ (Lit.int .i64 n).wf = true := by
  match cs, hl with
  | [c0, c1, c2, c3], _ =>
    obtain ⟨y0, y1, n, hx, _, h0, h1⟩ := trod_struct2 Tryd.underlying44 h
    subst hx
    simp only [cellsAddr, cellsInt, List.drop_zero, List.take, List.drop] at h0 h1
    obtain ⟨z0, z1, z2, m, rfl, _, k0, k1, k2⟩ := Go.Deep.trod_struct3 Tryd.underlying24 h0
    simp only [cellsBool, cellsU64, List.drop_zero, List.take, List.drop] at k0 k1 k2
    obtain ⟨six, e0, rfl⟩ := DataW.trod_bool Tryd.underlying4 k0
    obtain ⟨hi, e1, rfl, w1⟩ := DataW.trod_int Tryd.underlying22 k1
    obtain ⟨lo, e2, rfl, w2⟩ := DataW.trod_int Tryd.underlying22 k2
    obtain ⟨l, e3, rfl, w3⟩ := DataW.trod_int Tryd.underlying3 h1
    simp at e0 e1 e2 e3
    subst e0 e1 e2 e3
    exact ⟨six, hi, lo, l, rfl, rfl, w1, w2, w3⟩
end
/-- The variable 'families' lies as the program's text lays it. -/
def FamAt (w : World) : Prop := (w.cell? ⟨0, 0, none⟩ = some (.bool false) ∧ w.cell? ⟨0, 1, none⟩ = some (.int .u64 0) ∧ w.cell? ⟨0, 2, none⟩ = some (.int .u64 0) ∧ w.cell? ⟨0, 3, none⟩ = some (.int .i64 0)) ∧
  (w.cell? ⟨0, 4, none⟩ = some (.bool true) ∧ w.cell? ⟨0, 5, none⟩ = some (.int .u64 0) ∧ w.cell? ⟨0, 6, none⟩ = some (.int .u64 0) ∧ w.cell? ⟨0, 7, none⟩ = some (.int .i64 0)) ∧ 0 < w.heap.size
theorem FamAt.keep {w w' : World} (h : FamAt w) (hb : Below w.heap.size w w') : FamAt w' := by
  obtain ⟨⟨a0, a1, a2, a3⟩, ⟨b0, b1, b2, b3⟩, l⟩ := h
  exact ⟨⟨(hb.cell (p := ⟨0, 0, none⟩) l).trans a0, (hb.cell (p := ⟨0, 1, none⟩) l).trans a1, (hb.cell (p := ⟨0, 2, none⟩) l).trans a2, (hb.cell (p := ⟨0, 3, none⟩) l).trans a3⟩,
    ⟨(hb.cell (p := ⟨0, 4, none⟩) l).trans b0, (hb.cell (p := ⟨0, 5, none⟩) l).trans b1, (hb.cell (p := ⟨0, 6, none⟩) l).trans b2, (hb.cell (p := ⟨0, 7, none⟩) l).trans b3⟩, Nat.lt_of_lt_of_le l hb.size⟩
def Laid1.Tabs (w : World) : Prop := FamAt w
noncomputable def Laid1.world (os : Os) : World :=
  let w0 := World.holding Tryd.prog os ⟨#[], #[], []⟩
  { w0 with heap := w0.heap.modify 0 fun
    | .cells _ t frozen => .cells #[.bool false, .int .u64 0, .int .u64 0, .int .i64 0, .bool true, .int .u64 0, .int .u64 0, .int .i64 0] t frozen
    | o => o }
theorem Laid1.met (os : Os) (args : Array Value) : laidMetH Tryd.prog Rows.cidrRangesRow.laid ((Laid1.world os).forCall (fun _ _ => 0) ⟨#[], args, []⟩).memory := by
  rw [Go.MakeChecks.laidMetH_plain _ _ _ (by kernel_rfl)]
  exact laidMet_of_run' 8 (by kernel_rfl) (by kernel_rfl)
set_option maxRecDepth 100000 in
theorem Laid1.of {W : World} (h : laidMetH Tryd.prog Rows.cidrRangesRow.laid W) : Laid1.Tabs W := by
  rw [Go.MakeChecks.laidMetH_plain _ _ _ (by kernel_rfl)] at h
  have hg : Tryd.prog.globalNamed "whipcord/cidr.families" = some 0 := by kernel_rfl
  have hty : (Tryd.prog.globals[0]?).map (·.type) = some 57 := by kernel_rfl
  obtain ⟨ps, ⟨g', t', cs, fuel, p, q, hg', ht', hvar, hd, _, _⟩, _⟩ := h
  obtain rfl := Option.some.inj (hg.symm.trans hg')
  obtain rfl := Option.some.inj (hty.symm.trans ht')
  obtain ⟨xs, m, _, hx, hlen, hxl, hat⟩ := DataW.trod_array (n := 2) (e := 44) Tryd.underlying57 hd
  have hc : Tryd.prog.cellsOf 57 = 8 := by kernel_rfl
  rw [hc] at hlen
  match xs, hxl with
  | [x0, x1], _ =>
    have h0 := hat 0 (by decide)
    have h1 := hat 1 (by decide)
    have hl8 : cs.size = 8 := by simpa using hlen
    rw [cellsPrefix] at h0 h1
    obtain ⟨s0, i0, j0, n0, e0, rfl, _⟩ := trodPrefix (by simp; omega) h0
    obtain ⟨s1, i1, j1, n1, e1, rfl, _⟩ := trodPrefix (by simp; omega) h1
    simp [Rows.laid_whipcord_cidr_families] at hx
    obtain ⟨⟨⟨⟨rfl, rfl, rfl⟩, rfl⟩, ⟨rfl, rfl, rfl⟩, rfl⟩, _⟩ := hx
    obtain ⟨l⟩ := cs
    match l, hl8 with
    | [c0, c1, c2, c3, c4, c5, c6, c7], _ =>
      simp at e0 e1
      obtain ⟨rfl, rfl, rfl, rfl⟩ := e0
      obtain ⟨rfl, rfl, rfl, rfl⟩ := e1
      have sz : 0 < W.heap.size := by
        unfold World.var? at hvar
        simp only [hg, Option.bind_some] at hvar
        by_cases hlt : 0 < W.heap.size
        · exact hlt
        · simp [Array.getElem?_eq_none (Nat.le_of_not_lt hlt)] at hvar
      exact ⟨⟨World.var?_cell hg hvar 0, World.var?_cell hg hvar 1, World.var?_cell hg hvar 2, World.var?_cell hg hvar 3⟩, ⟨World.var?_cell hg hvar 4, World.var?_cell hg hvar 5, World.var?_cell hg hvar 6, World.var?_cell hg hvar 7⟩, sz⟩
end Go.Proofs.YtojdlhiibffnfaaDoor

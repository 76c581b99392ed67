/-
  Laid together: Base, Owns, Num, Plain, PreNum.
-/
import Derived.WalkKit
import Derived.WalkSpells
import Derived.WalkLawsBesides
import Derived.ProofKit
import Derived.OpenShut
import Derived.Handy
import Derived.Lib.Hide
import Derived.Lib.SmallJoins
import Derived.Deep.AppendLies
import Derived.Deep.RegionHeld3
import Derived.Deep.QuietTactic
import Derived.BigQuiet
import Derived.Deep.LoopGhost
/-
  Plain lemmas for the proofs of this seat (no program in sight): a callee that only makes memory keeps what was there; the row's last step for a law that returns true and of whose world 'Below' alone is known.
-/
namespace Go.Proofs.Ytgajepmnklbmpaa
open Go.ChangeShapes Go.WideShapes Go.ChangeAt Go.RowKit Go.Joins

/-- Cells and marks of blocks that were there. -/
theorem bcell {W w1 : World} (hb : Below W.heap.size W w1) : (∀ b o, b < W.heap.size → w1.cell? ⟨b, o, none⟩ = W.cell? ⟨b, o, none⟩) ∧ (∀ b o, b < W.heap.size → w1.frozen? ⟨b, o, none⟩ = W.frozen? ⟨b, o, none⟩) :=
  ⟨fun b o h => hb.cell (p := ⟨b, o, none⟩) h, fun b o h => hb.frozen (p := ⟨b, o, none⟩) h⟩

/-- Two calls behind one another. -/
theorem thenBelow {W w1 w2 : World} (h : Below W.heap.size W w1) (k : Below w1.heap.size w1 w2) : Below W.heap.size W w2 :=
  h.trans (k.mono h.size)

section
variable {H : Type} {enc : TypeId × Value → H} {P : Program}
/-- The last step of a law's row, where the law made memory and left all else: asked of the world behind it is 'Below' alone. -/
theorem postBelow {f : Func} {s : ChangeSpec} {apart fresh handsOn : Bool} {W W' : World} {args : Array Value} {v : Value} {ds gs : List (DataW H)} {before pa pv : List MemPlace}
    (hW : DataW.Whole enc P f.params.toList s.vars apart W args.toList ds gs before) (hb : Below W.heap.size W W')
    (hres : ∀ (b : Nat) (sp : Nat → Bool) (hd : Bool), DataW.TrodAll enc P W' b sp hd f.resultTypes.toList (v.resultList f.resultTypes.size) (s.fn H (ds ++ gs)).results [])
    (hargs : ∀ sp : Nat → Bool, (∀ p ∈ before, sp p.block = true) → DataW.TrodAll enc P W' 0 sp true f.params.toList args.toList (s.fn H (ds ++ gs)).args pa)
    (hvars : ∀ sp : Nat → Bool, (∀ p ∈ before, sp p.block = true) → DataW.TrodVars enc P W' sp s.vars (s.fn H (ds ++ gs)).vars pv)
    (hps : before = pa ++ pv) : s.post enc P f apart fresh handsOn false W args v W' := by
  have seen : ∀ p ∈ before, (fun b => decide (b < W.heap.size)) p.block = true := fun p hp => decide_eq_true (hW.lt p hp)
  exact ⟨ds, gs, before, [], pa, pv, hW, hres _ _ _, hargs _ seen, hvars _ seen, World.keptBut_mono (fun p hp => ⟨hp, Or.inr (List.mem_append.1 (hps ▸ hp))⟩) (hb.frame (· ∈ before)), fun h => by cases h⟩
end

/-- What 'open_int' hands over of a uint64. -/
theorem u64_of_wf {x : Int} (h : (Lit.int .u64 x).wf = true) : 0 ≤ x ∧ x ≤ 18446744073709551615 := by
  simp [Lit.wf, IntKind.min, IntKind.max, IntKind.signed, IntKind.bits] at h
  omega
/-- .. and of an int. -/
theorem i64_of_wf {x : Int} (h : (Lit.int .i64 x).wf = true) : -9223372036854775808 ≤ x ∧ x ≤ 9223372036854775807 := by
  simp [Lit.wf, IntKind.min, IntKind.max, IntKind.signed, IntKind.bits] at h
  omega
end Go.Proofs.Ytgajepmnklbmpaa
/-
  A row of cells that a call has made: it lies as well above a lower mark; it lies there as long as no block from before is touched.
-/
namespace Go.Proofs.Ytgajepmnklbmpaa
open Go.RowKit
theorem ownsLow {w : World} {base base' : Nat} {e : TypeId} {size : Nat} {v : Value} {n : Nat} {xs : List Value} (h : w.ownsRow base e size v n xs) (hb : base' ≤ base) : w.ownsRow base' e size v n xs := by
  refine ⟨h.1, ?_⟩
  rcases h.2 with h2 | ⟨g, cap, cur, a, b, c⟩
  · exact .inl h2
  · exact .inr ⟨g, cap, cur, a, Nat.le_trans hb b, c⟩
theorem ownsKeep {w w' : World} {base : Nat} {e : TypeId} {size : Nat} {v : Value} {n : Nat} {xs : List Value} (h : w.ownsRow base e size v n xs) (hb : Below w.heap.size w w') : w'.ownsRow base e size v n xs := by
  refine ⟨h.1, ?_⟩
  rcases h.2 with h2 | ⟨g, cap, cur, a, b, c, d⟩
  · exact .inl h2
  · have hg : g < w.heap.size := by
      by_cases hl : g < w.heap.size
      · exact hl
      · rw [Array.getElem?_eq_none (Nat.le_of_not_lt hl)] at c; cases c
    exact .inr ⟨g, cap, cur, a, b, (hb.block g hg).trans c, d⟩
end Go.Proofs.Ytgajepmnklbmpaa
/-
  Plain definitions and lemmas on the bits of numbers; what a pair of ints returns.
-/
namespace Go.Proofs.Ytgajepmnklbmpaa
open Go.RowKit
set_option linter.unusedVariables false
set_option linter.unusedSimpArgs false

/-- How many bits an address has. -/
def wideB (six : Bool) : Int := if six then 128 else 32
/-- The bit with the weight 2^k. -/
def bitW (x : Int) (k : Nat) : Int := x / 2 ^ k % 2
theorem bitW_01 (x : Int) (k : Nat) : bitW x k = 0 ∨ bitW x k = 1 := by unfold bitW; omega
/-- Bit i of an address, counted from the most significant one. -/
def bitAt (six : Bool) (hi lo : Int) (i : Nat) : Int := if six then (if i < 64 then bitW hi (63 - i) else bitW lo (127 - i)) else bitW lo (31 - i)

theorem shrAnd1 (x : Int) (k : Nat) (h0 : 0 ≤ x) (h1 : x ≤ 18446744073709551615) : wrap64 (bits .and .u64 (x / 2 ^ k) 1) = bitW x k := by
  have p0 : (0 : Int) < 2 ^ k := Int.pow_pos (by decide)
  have g0 : 0 ≤ x / 2 ^ k := Int.ediv_nonneg h0 (by omega)
  have g1 : x / 2 ^ k ≤ x := Int.ediv_le_self _ h0
  rw [and_one_u64 _ g0 (by omega)]
  have := bitW_01 x k
  unfold bitW at *
  unfold wrap64
  omega
theorem ret2 {a b c d : Int} {k l : IntKind} (h : a = b) (g : c = d) : Ending.returned (.tuple #[.int k a, .int l c]) = .returned (.tuple #[.int k b, .int l d]) := by rw [h, g]

end Go.Proofs.Ytgajepmnklbmpaa
/-
  Plain mathematics: the number that bits spell; adding a number to bits, from the lowest on.
-/
namespace Go.Proofs.Ytgajepmnklbmpaa
open Go.RowKit
set_option linter.unusedVariables false
set_option linter.unusedSimpArgs false

/-- The first k of the n lowest bits of x, the highest first. -/
def bitsTo (x : Int) (n k : Nat) : List Int := (List.range k).map fun j => bitW x (n - 1 - j)
theorem bitsTo_succ (x : Int) (n k : Nat) : bitsTo x n (k + 1) = bitsTo x n k ++ [bitW x (n - 1 - k)] := by simp [bitsTo, List.range_succ]
theorem bitsTo_length (x : Int) (n k : Nat) : (bitsTo x n k).length = k := by simp [bitsTo]
/-- The number that bits spell, the highest first. -/
def spell (l : List Int) : Int := l.foldl (fun a b => 2 * a + b) 0
theorem spell_snoc (l : List Int) (b : Int) : spell (l ++ [b]) = 2 * spell l + b := by simp [spell]
theorem spell_nil : spell [] = 0 := rfl
theorem spell_from (l : List Int) : ∀ a : Int, 0 ≤ a → (∀ b ∈ l, b = 0 ∨ b = 1) → 0 ≤ l.foldl (fun a b => 2 * a + b) a ∧ l.foldl (fun a b => 2 * a + b) a + 1 ≤ (a + 1) * 2 ^ l.length := by
  induction l with
  | nil => intro a ha _; simp; omega
  | cons b l ih =>
    intro a ha h
    have hb := h b (by simp)
    obtain ⟨g1, g2⟩ := ih (2 * a + b) (by omega) (fun x hx => h x (by simp [hx]))
    refine ⟨g1, Int.le_trans g2 ?_⟩
    rw [List.length_cons, Int.pow_succ]
    have hp : (0 : Int) < 2 ^ l.length := Int.pow_pos (by decide)
    have : (2 * a + b + 1) * 2 ^ l.length ≤ (2 * (a + 1)) * 2 ^ l.length := Int.mul_le_mul_of_nonneg_right (by omega) (by omega)
    have e : (a + 1) * (2 ^ l.length * 2) = 2 * (a + 1) * 2 ^ l.length := by rw [← Int.mul_assoc, Int.mul_comm _ 2, ← Int.mul_assoc]
    rw [e]; exact this
theorem spell_bd (l : List Int) (h : ∀ b ∈ l, b = 0 ∨ b = 1) : 0 ≤ spell l ∧ spell l + 1 ≤ 2 ^ l.length := by
  have := spell_from l 0 (by omega) h
  simpa [spell] using this

def hiTo (l : List Int) (k : Nat) : Int := spell (l.take (min k 64))
def loTo (l : List Int) (k : Nat) : Int := spell ((l.take k).drop 64)
def fourTo (l : List Int) (k : Nat) : Int := spell (l.take k)
theorem hiTo_lt (l : List Int) (k : Nat) (hk : k < 64) (hl : k < l.length) : hiTo l (k + 1) = 2 * hiTo l k + l[k] := by
  unfold hiTo
  rw [Nat.min_eq_left (by omega), Nat.min_eq_left (by omega), List.take_succ_eq_append_getElem hl, spell_snoc]
theorem loTo_lt (l : List Int) (k : Nat) (hk : k < 64) : loTo l (k + 1) = loTo l k := by
  unfold loTo
  rw [List.drop_of_length_le (by rw [List.length_take]; omega), List.drop_of_length_le (by rw [List.length_take]; omega)]
theorem hiTo_ge (l : List Int) (k : Nat) (hk : 64 ≤ k) : hiTo l (k + 1) = hiTo l k := by
  unfold hiTo
  rw [Nat.min_eq_right (by omega), Nat.min_eq_right hk]
theorem loTo_ge (l : List Int) (k : Nat) (hk : 64 ≤ k) (hl : k < l.length) : loTo l (k + 1) = 2 * loTo l k + l[k] := by
  unfold loTo
  rw [List.take_succ_eq_append_getElem hl, List.drop_append_of_le_length (by rw [List.length_take]; omega), spell_snoc]
theorem fourTo_succ (l : List Int) (k : Nat) (hl : k < l.length) : fourTo l (k + 1) = 2 * fourTo l k + l[k] := by
  unfold fourTo
  rw [List.take_succ_eq_append_getElem hl, spell_snoc]
theorem pow_le63 (n : Nat) (h : n ≤ 63) : (2 : Int) ^ n ≤ 9223372036854775808 := by
  have : (2 : Nat) ^ n ≤ 2 ^ 63 := Nat.pow_le_pow_right (by omega) h
  have h2 : ((2 ^ n : Nat) : Int) ≤ ((2 ^ 63 : Nat) : Int) := by exact_mod_cast this
  simpa using h2
theorem hiTo_bd (l : List Int) (k : Nat) (hk : k < 64) (h : ∀ b ∈ l, b = 0 ∨ b = 1) : 0 ≤ hiTo l k ∧ hiTo l k < 9223372036854775808 := by
  have := spell_bd (l.take (min k 64)) (fun b hb => h b (List.mem_of_mem_take hb))
  have h2 := pow_le63 (l.take (min k 64)).length (by rw [List.length_take]; omega)
  unfold hiTo; omega
theorem loTo_bd (l : List Int) (k : Nat) (hk : k < 128) (h : ∀ b ∈ l, b = 0 ∨ b = 1) : 0 ≤ loTo l k ∧ loTo l k < 9223372036854775808 := by
  have := spell_bd ((l.take k).drop 64) (fun b hb => h b (List.mem_of_mem_take (List.mem_of_mem_drop hb)))
  have h2 := pow_le63 ((l.take k).drop 64).length (by rw [List.length_drop, List.length_take]; omega)
  unfold loTo; omega
theorem fourTo_bd (l : List Int) (k : Nat) (hk : k < 64) (h : ∀ b ∈ l, b = 0 ∨ b = 1) : 0 ≤ fourTo l k ∧ fourTo l k < 9223372036854775808 := by
  have := spell_bd (l.take k) (fun b hb => h b (List.mem_of_mem_take hb))
  have h2 := pow_le63 (l.take k).length (by rw [List.length_take]; omega)
  unfold fourTo; omega


theorem spell_cons (b : Int) (l : List Int) : spell (b :: l) = b * 2 ^ l.length + spell l := by
  have key : ∀ (l : List Int) (a : Int), l.foldl (fun a b => 2 * a + b) a = a * 2 ^ l.length + l.foldl (fun a b => 2 * a + b) 0 := by
    intro l
    induction l with
    | nil => intro a; simp
    | cons c l ih =>
      intro a
      rw [List.foldl_cons, ih, List.foldl_cons, ih (2 * 0 + c), List.length_cons, Int.pow_succ, Int.add_mul]
      have : 2 * a * 2 ^ l.length = a * (2 ^ l.length * 2) := by rw [← Int.mul_assoc, Int.mul_comm 2 a, Int.mul_assoc a 2, Int.mul_comm 2, ← Int.mul_assoc]
      rw [this]
      simp [Int.add_assoc]
  unfold spell
  rw [List.foldl_cons, key]
  simp
theorem spell_append (l r : List Int) : spell (l ++ r) = spell l * 2 ^ r.length + spell r := by
  induction l with
  | nil => simp [spell_nil]
  | cons b l ih =>
    rw [List.cons_append, spell_cons, ih, spell_cons, List.length_append, Int.pow_add, Int.add_mul, Int.mul_assoc, Int.add_assoc]

/-- Adding c to bits, the lowest last: the bits, and what is carried out. -/
def addBits : List Int → Int → List Int × Int
  | [], c => ([], c)
  | b :: l, c => ((b + (addBits l c).2) % 2 :: (addBits l c).1, (b + (addBits l c).2) / 2)
theorem addBits_length (l : List Int) (c : Int) : (addBits l c).1.length = l.length := by
  induction l with
  | nil => rfl
  | cons b l ih => simp [addBits, ih]
theorem addBits_01 (l : List Int) (c : Int) : ∀ b ∈ (addBits l c).1, b = 0 ∨ b = 1 := by
  induction l with
  | nil => intro b hb; simp [addBits] at hb
  | cons b l ih =>
    intro x hx
    simp only [addBits, List.mem_cons] at hx
    rcases hx with rfl | hx
    · omega
    · exact ih x hx
theorem addBits_bd (l : List Int) (c m : Int) (hm : 1 ≤ m) (h : ∀ b ∈ l, b = 0 ∨ b = 1) (hc : -m ≤ c ∧ c ≤ m) : -m ≤ (addBits l c).2 ∧ (addBits l c).2 ≤ m := by
  induction l with
  | nil => exact hc
  | cons b l ih =>
    have h1 := ih (fun x hx => h x (by simp [hx]))
    have h2 := h b (by simp)
    simp only [addBits]
    omega
theorem addBits_sum (l : List Int) (c : Int) : spell l + c = (addBits l c).2 * 2 ^ l.length + spell (addBits l c).1 := by
  induction l with
  | nil => simp [addBits, spell_nil]
  | cons b l ih =>
    rw [spell_cons, addBits]
    simp only
    rw [spell_cons, addBits_length, List.length_cons, Int.pow_succ]
    generalize (addBits l c).2 = d at *
    generalize spell (addBits l c).1 = s at *
    generalize (2 : Int) ^ l.length = p at *
    have h : b + d = 2 * ((b + d) / 2) + (b + d) % 2 := by omega
    have e1 : b * p + spell l + c = b * p + (d * p + s) := by omega
    have e2 : (b + d) / 2 * (p * 2) + ((b + d) % 2 * p + s) = (2 * ((b + d) / 2) + (b + d) % 2) * p + s := by
      rw [Int.add_mul, Int.mul_comm p 2, ← Int.mul_assoc, Int.mul_comm _ 2, Int.add_assoc]
    rw [e1, e2, ← h, Int.add_mul, Int.add_assoc]

theorem bitW_nat (x k : Nat) : bitW (x : Int) k = ((x / 2 ^ k % 2 : Nat) : Int) := by
  unfold bitW; simp
theorem spell_bitsTo_nat (x n : Nat) : ∀ k, k ≤ n → spell (bitsTo (x : Int) n k) = ((x / 2 ^ (n - k) % 2 ^ k : Nat) : Int) := by
  intro k
  induction k with
  | zero => intro _; simp [bitsTo, spell_nil, Nat.mod_one]
  | succ k ih =>
    intro hk
    rw [bitsTo_succ, spell_snoc, ih (by omega), bitW_nat]
    have e : n - k = (n - (k + 1)) + 1 := by omega
    rw [e, Nat.pow_succ, ← Nat.div_div_eq_div_mul, show n - 1 - k = n - (k + 1) from by omega]
    generalize x / 2 ^ (n - (k + 1)) = y
    have := Nat.mod_mul (x := y) (a := 2) (b := 2 ^ k)
    rw [Nat.pow_succ, Nat.mul_comm (2 ^ k) 2, this]
    omega
theorem spell_bits (x : Int) (n : Nat) (h0 : 0 ≤ x) (h1 : x < 2 ^ n) : spell (bitsTo x n n) = x := by
  obtain ⟨x, rfl⟩ := Int.eq_ofNat_of_zero_le h0
  rw [spell_bitsTo_nat x n n (Nat.le_refl _)]
  have : x < 2 ^ n := by exact_mod_cast h1
  simp [Nat.mod_eq_of_lt this]
theorem bitsTo_01 (x : Int) (n k : Nat) : ∀ b ∈ bitsTo x n k, b = 0 ∨ b = 1 := by
  intro b hb
  simp only [bitsTo, List.mem_map] at hb
  obtain ⟨j, _, rfl⟩ := hb
  exact bitW_01 x _

/-- 'n & 1' of an int. -/
theorem and1_i64 (n : Int) : bits .and .i64 n 1 = n % 2 := by
  show IntKind.i64.wrap ((BitVec.ofInt 64 n &&& BitVec.ofInt 64 1).toNat : Int) = _
  rw [BitVec.toNat_and, show (BitVec.ofInt 64 1).toNat = 1 from rfl, Nat.and_one_is_mod, BitVec.toNat_ofInt, IntKind.wrap_i64]
  omega
theorem tdiv2 (n : Int) : (n - n % 2).tdiv 2 = n / 2 := by
  rw [Int.tdiv_eq_ediv_of_dvd (by omega)]; omega
end Go.Proofs.Ytgajepmnklbmpaa
/-
  Plain mathematics: an address as one number; its first bits, and its last ones set to 0 or 1.
-/
namespace Go.Proofs.Ytgajepmnklbmpaa
open Go.RowKit
set_option linter.unusedVariables false
set_option linter.unusedSimpArgs false

/-- How many bits an address has. -/
def wideN (six : Bool) : Nat := if six then 128 else 32
theorem wideN_le (six : Bool) : wideN six ≤ 128 := by cases six <;> decide
theorem wideB_eq (six : Bool) : wideB six = (wideN six : Int) := by cases six <;> rfl
/-- The two words of a number of 128 bits. -/
def aH (x : Nat) : Int := ((x / 18446744073709551616 : Nat) : Int)
def aL (x : Nat) : Int := ((x % 18446744073709551616 : Nat) : Int)
/-- The number of two words. -/
def numA (hi lo : Int) : Nat := (hi * 18446744073709551616 + lo).toNat
theorem aH_numA (hi lo : Int) (h0 : 0 ≤ hi) (l0 : 0 ≤ lo) (l1 : lo ≤ 18446744073709551615) : aH (numA hi lo) = hi := by unfold aH numA; omega
theorem aL_numA (hi lo : Int) (h0 : 0 ≤ hi) (l0 : 0 ≤ lo) (l1 : lo ≤ 18446744073709551615) : aL (numA hi lo) = lo := by unfold aL numA; omega
theorem aH_0 (x : Nat) : 0 ≤ aH x := by unfold aH; omega
theorem aL_0 (x : Nat) : 0 ≤ aL x := by unfold aL; omega
theorem aL_1 (x : Nat) : aL x ≤ 18446744073709551615 := by unfold aL; omega
theorem aH_1 (x : Nat) (h : x < 2 ^ 128) : aH x ≤ 18446744073709551615 := by unfold aH; omega
theorem numA_lt (hi lo : Int) (h0 : 0 ≤ hi) (h1 : hi ≤ 18446744073709551615) (l0 : 0 ≤ lo) (l1 : lo ≤ 18446744073709551615) : numA hi lo < 2 ^ 128 := by unfold numA; omega
theorem a_inj {x y : Nat} (h : aH x = aH y) (l : aL x = aL y) : x = y := by unfold aH at h; unfold aL at l; omega
theorem two_pow_pos' (k : Nat) : 0 < 2 ^ k := Nat.two_pow_pos k

/-- The last k bits are 0. -/
def lowN (x k : Nat) : Nat := x / 2 ^ k * 2 ^ k
/-- The last k bits are 1. -/
def topN (x k : Nat) : Nat := x / 2 ^ k * 2 ^ k + (2 ^ k - 1)
theorem lowN_testBit (x k j : Nat) : (lowN x k).testBit j = (decide (k ≤ j) && x.testBit j) := by
  unfold lowN
  rw [Nat.testBit_mul_two_pow, Nat.testBit_div_two_pow]
  by_cases h : k ≤ j
  · rw [Nat.sub_add_cancel h]
  · simp [h]
theorem topN_testBit (x k j : Nat) : (topN x k).testBit j = (decide (j < k) || x.testBit j) := by
  unfold topN
  rw [Nat.mul_comm, Nat.testBit_two_pow_mul_add _ (by have := two_pow_pos' k; omega), Nat.testBit_two_pow_sub_one]
  by_cases h : j < k
  · simp [h]
  · rw [if_neg h, Nat.testBit_div_two_pow, Nat.sub_add_cancel (by omega)]
    simp [h]
theorem lowN_le (x k : Nat) : lowN x k ≤ x := Nat.div_mul_le_self x (2 ^ k)
theorem lowN_mod (x k : Nat) : lowN x k = x - x % 2 ^ k := by
  unfold lowN; have := Nat.div_add_mod x (2 ^ k); rw [Nat.mul_comm]; omega
theorem topN_low (x k : Nat) : topN x k = lowN x k + (2 ^ k - 1) := rfl
theorem le_topN (x k : Nat) : x ≤ topN x k := by
  have := Nat.mod_lt x (two_pow_pos' k); have := Nat.mod_le x (2 ^ k); rw [topN_low, lowN_mod]; omega
theorem topN_lt (x k n : Nat) (h : x < 2 ^ n) (hk : k ≤ n) : topN x k < 2 ^ n := by
  refine Nat.lt_pow_two_of_testBit _ fun j hj => ?_
  rw [topN_testBit, Nat.testBit_lt_two_pow (Nat.lt_of_lt_of_le h (Nat.pow_le_pow_right (by omega) hj))]
  simp; omega
theorem lowN_lt (x k n : Nat) (h : x < 2 ^ n) : lowN x k < 2 ^ n := Nat.lt_of_le_of_lt (lowN_le x k) h
theorem testBit_words (h l j : Nat) (hl : l < 18446744073709551616) : (h * 18446744073709551616 + l).testBit j = if j < 64 then l.testBit j else h.testBit (j - 64) := by
  have := Nat.testBit_two_pow_mul_add (i := 64) h (b := l) hl j
  rw [Nat.mul_comm]; exact this
theorem lowN_words (h l k : Nat) (hl : l < 18446744073709551616) : lowN (h * 18446744073709551616 + l) k = lowN h (k - 64) * 18446744073709551616 + lowN l (min k 64) := by
  have hl' : lowN l (min k 64) < 18446744073709551616 := Nat.lt_of_le_of_lt (lowN_le _ _) hl
  refine Nat.eq_of_testBit_eq fun j => ?_
  rw [lowN_testBit, testBit_words _ _ _ hl, testBit_words _ _ _ hl', lowN_testBit, lowN_testBit]
  by_cases hj : j < 64
  · rw [if_pos hj, if_pos hj, show decide (k ≤ j) = decide (min k 64 ≤ j) from decide_eq_decide.2 (by omega)]
  · rw [if_neg hj, if_neg hj, show decide (k ≤ j) = decide (k - 64 ≤ j - 64) from decide_eq_decide.2 (by omega)]
theorem topN_words (h l k : Nat) (hl : l < 18446744073709551616) : topN (h * 18446744073709551616 + l) k = topN h (k - 64) * 18446744073709551616 + topN l (min k 64) := by
  have hl' : topN l (min k 64) < 18446744073709551616 := topN_lt l (min k 64) 64 hl (by omega)
  refine Nat.eq_of_testBit_eq fun j => ?_
  rw [topN_testBit, testBit_words _ _ _ hl, testBit_words _ _ _ hl', topN_testBit, topN_testBit]
  by_cases hj : j < 64
  · rw [if_pos hj, if_pos hj, show decide (j < k) = decide (j < min k 64) from decide_eq_decide.2 (by omega)]
  · rw [if_neg hj, if_neg hj, show decide (j < k) = decide (j - 64 < k - 64) from decide_eq_decide.2 (by omega)]
theorem words (x : Nat) : x = x / 18446744073709551616 * 18446744073709551616 + x % 18446744073709551616 := by omega
theorem aH_low (x k : Nat) : aH (lowN x k) = ((lowN (x / 18446744073709551616) (k - 64) : Nat) : Int) := by
  have hl : x % 18446744073709551616 < 18446744073709551616 := by omega
  have hl' : lowN (x % 18446744073709551616) (min k 64) < 18446744073709551616 := Nat.lt_of_le_of_lt (lowN_le _ _) hl
  have e := lowN_words (x / 18446744073709551616) (x % 18446744073709551616) k hl
  rw [← words x] at e
  unfold aH; rw [e]; omega
theorem aL_low (x k : Nat) : aL (lowN x k) = ((lowN (x % 18446744073709551616) (min k 64) : Nat) : Int) := by
  have hl : x % 18446744073709551616 < 18446744073709551616 := by omega
  have hl' : lowN (x % 18446744073709551616) (min k 64) < 18446744073709551616 := Nat.lt_of_le_of_lt (lowN_le _ _) hl
  have e := lowN_words (x / 18446744073709551616) (x % 18446744073709551616) k hl
  rw [← words x] at e
  unfold aL; rw [e]; omega
theorem aH_top (x k : Nat) : aH (topN x k) = ((topN (x / 18446744073709551616) (k - 64) : Nat) : Int) := by
  have hl : x % 18446744073709551616 < 18446744073709551616 := by omega
  have hl' : topN (x % 18446744073709551616) (min k 64) < 18446744073709551616 := topN_lt _ (min k 64) 64 hl (by omega)
  have e := topN_words (x / 18446744073709551616) (x % 18446744073709551616) k hl
  rw [← words x] at e
  unfold aH; rw [e]; omega
theorem aL_top (x k : Nat) : aL (topN x k) = ((topN (x % 18446744073709551616) (min k 64) : Nat) : Int) := by
  have hl : x % 18446744073709551616 < 18446744073709551616 := by omega
  have hl' : topN (x % 18446744073709551616) (min k 64) < 18446744073709551616 := topN_lt _ (min k 64) 64 hl (by omega)
  have e := topN_words (x / 18446744073709551616) (x % 18446744073709551616) k hl
  rw [← words x] at e
  unfold aL; rw [e]; omega
end Go.Proofs.Ytgajepmnklbmpaa

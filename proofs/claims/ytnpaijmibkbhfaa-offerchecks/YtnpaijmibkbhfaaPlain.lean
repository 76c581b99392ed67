/-
  Plain mathematics: the number that bits spell; adding a number to bits, from the lowest on.
-/
import Derived.Test.YtnpaijmibkbhfaaNum
namespace Go.Proofs.Ytnpaijmibkbhfaa
open Go.RowKit
set_option linter.unusedVariables false
set_option linter.unusedSimpArgs false

/-- The first k of the n lowest bits of x, the highest first. -/
def bitsTo (x : Int) (n k : Nat) : List Int := (List.range k).map fun j => bitW x (n - 1 - j)
theorem bitsTo_succ (x : Int) (n k : Nat) : bitsTo x n (k + 1) = bitsTo x n k ++ [bitW x (n - 1 - k)] := by simp [bitsTo, List.range_succ]
theorem bitsTo_length (x : Int) (n k : Nat) : (bitsTo x n k).length = k := by simp [bitsTo]
/-- The number that bits spell, the highest first. -/
def spell (l : List Int) : Int := l.foldl (fun a b => 2 * a + b) 0
theorem spell_snoc (l : List Int) (b : Int) : spell (l ++ [b]) = 2 * spell l + b := by simp [spell]
theorem spell_nil : spell [] = 0 := rfl
theorem spell_from (l : List Int) : ∀ a : Int, 0 ≤ a → (∀ b ∈ l, b = 0 ∨ b = 1) → 0 ≤ l.foldl (fun a b => 2 * a + b) a ∧ l.foldl (fun a b => 2 * a + b) a + 1 ≤ (a + 1) * 2 ^ l.length := by
  induction l with
  | nil => intro a ha _; simp; omega
  | cons b l ih =>
    intro a ha h
    have hb := h b (by simp)
    obtain ⟨g1, g2⟩ := ih (2 * a + b) (by omega) (fun x hx => h x (by simp [hx]))
    refine ⟨g1, Int.le_trans g2 ?_⟩
    rw [List.length_cons, Int.pow_succ]
    have hp : (0 : Int) < 2 ^ l.length := Int.pow_pos (by decide)
    have : (2 * a + b + 1) * 2 ^ l.length ≤ (2 * (a + 1)) * 2 ^ l.length := Int.mul_le_mul_of_nonneg_right (by omega) (by omega)
    have e : (a + 1) * (2 ^ l.length * 2) = 2 * (a + 1) * 2 ^ l.length := by rw [← Int.mul_assoc, Int.mul_comm _ 2, ← Int.mul_assoc]
    rw [e]; exact this
theorem spell_bd (l : List Int) (h : ∀ b ∈ l, b = 0 ∨ b = 1) : 0 ≤ spell l ∧ spell l + 1 ≤ 2 ^ l.length := by
  have := spell_from l 0 (by omega) h
  simpa [spell] using this

def hiTo (l : List Int) (k : Nat) : Int := spell (l.take (min k 64))
def loTo (l : List Int) (k : Nat) : Int := spell ((l.take k).drop 64)
def fourTo (l : List Int) (k : Nat) : Int := spell (l.take k)
theorem hiTo_lt (l : List Int) (k : Nat) (hk : k < 64) (hl : k < l.length) : hiTo l (k + 1) = 2 * hiTo l k + l[k] := by
  unfold hiTo
  rw [Nat.min_eq_left (by omega), Nat.min_eq_left (by omega), List.take_succ_eq_append_getElem hl, spell_snoc]
theorem loTo_lt (l : List Int) (k : Nat) (hk : k < 64) : loTo l (k + 1) = loTo l k := by
  unfold loTo
  rw [List.drop_of_length_le (by rw [List.length_take]; omega), List.drop_of_length_le (by rw [List.length_take]; omega)]
theorem hiTo_ge (l : List Int) (k : Nat) (hk : 64 ≤ k) : hiTo l (k + 1) = hiTo l k := by
  unfold hiTo
  rw [Nat.min_eq_right (by omega), Nat.min_eq_right hk]
theorem loTo_ge (l : List Int) (k : Nat) (hk : 64 ≤ k) (hl : k < l.length) : loTo l (k + 1) = 2 * loTo l k + l[k] := by
  unfold loTo
  rw [List.take_succ_eq_append_getElem hl, List.drop_append_of_le_length (by rw [List.length_take]; omega), spell_snoc]
theorem fourTo_succ (l : List Int) (k : Nat) (hl : k < l.length) : fourTo l (k + 1) = 2 * fourTo l k + l[k] := by
  unfold fourTo
  rw [List.take_succ_eq_append_getElem hl, spell_snoc]
theorem pow_le63 (n : Nat) (h : n ≤ 63) : (2 : Int) ^ n ≤ 9223372036854775808 := by
  have : (2 : Nat) ^ n ≤ 2 ^ 63 := Nat.pow_le_pow_right (by omega) h
  have h2 : ((2 ^ n : Nat) : Int) ≤ ((2 ^ 63 : Nat) : Int) := by exact_mod_cast this
  simpa using h2
theorem hiTo_bd (l : List Int) (k : Nat) (hk : k < 64) (h : ∀ b ∈ l, b = 0 ∨ b = 1) : 0 ≤ hiTo l k ∧ hiTo l k < 9223372036854775808 := by
  have := spell_bd (l.take (min k 64)) (fun b hb => h b (List.mem_of_mem_take hb))
  have h2 := pow_le63 (l.take (min k 64)).length (by rw [List.length_take]; omega)
  unfold hiTo; omega
theorem loTo_bd (l : List Int) (k : Nat) (hk : k < 128) (h : ∀ b ∈ l, b = 0 ∨ b = 1) : 0 ≤ loTo l k ∧ loTo l k < 9223372036854775808 := by
  have := spell_bd ((l.take k).drop 64) (fun b hb => h b (List.mem_of_mem_take (List.mem_of_mem_drop hb)))
  have h2 := pow_le63 ((l.take k).drop 64).length (by rw [List.length_drop, List.length_take]; omega)
  unfold loTo; omega
theorem fourTo_bd (l : List Int) (k : Nat) (hk : k < 64) (h : ∀ b ∈ l, b = 0 ∨ b = 1) : 0 ≤ fourTo l k ∧ fourTo l k < 9223372036854775808 := by
  have := spell_bd (l.take k) (fun b hb => h b (List.mem_of_mem_take hb))
  have h2 := pow_le63 (l.take k).length (by rw [List.length_take]; omega)
  unfold fourTo; omega


theorem spell_cons (b : Int) (l : List Int) : spell (b :: l) = b * 2 ^ l.length + spell l := by
  have key : ∀ (l : List Int) (a : Int), l.foldl (fun a b => 2 * a + b) a = a * 2 ^ l.length + l.foldl (fun a b => 2 * a + b) 0 := by
    intro l
    induction l with
    | nil => intro a; simp
    | cons c l ih =>
      intro a
      rw [List.foldl_cons, ih, List.foldl_cons, ih (2 * 0 + c), List.length_cons, Int.pow_succ, Int.add_mul]
      have : 2 * a * 2 ^ l.length = a * (2 ^ l.length * 2) := by rw [← Int.mul_assoc, Int.mul_comm 2 a, Int.mul_assoc a 2, Int.mul_comm 2, ← Int.mul_assoc]
      rw [this]
      simp [Int.add_assoc]
  unfold spell
  rw [List.foldl_cons, key]
  simp
theorem spell_append (l r : List Int) : spell (l ++ r) = spell l * 2 ^ r.length + spell r := by
  induction l with
  | nil => simp [spell_nil]
  | cons b l ih =>
    rw [List.cons_append, spell_cons, ih, spell_cons, List.length_append, Int.pow_add, Int.add_mul, Int.mul_assoc, Int.add_assoc]

/-- Adding c to bits, the lowest last: the bits, and what is carried out. -/
def addBits : List Int → Int → List Int × Int
  | [], c => ([], c)
  | b :: l, c => ((b + (addBits l c).2) % 2 :: (addBits l c).1, (b + (addBits l c).2) / 2)
theorem addBits_length (l : List Int) (c : Int) : (addBits l c).1.length = l.length := by
  induction l with
  | nil => rfl
  | cons b l ih => simp [addBits, ih]
theorem addBits_01 (l : List Int) (c : Int) : ∀ b ∈ (addBits l c).1, b = 0 ∨ b = 1 := by
  induction l with
  | nil => intro b hb; simp [addBits] at hb
  | cons b l ih =>
    intro x hx
    simp only [addBits, List.mem_cons] at hx
    rcases hx with rfl | hx
    · omega
    · exact ih x hx
theorem addBits_bd (l : List Int) (c m : Int) (hm : 1 ≤ m) (h : ∀ b ∈ l, b = 0 ∨ b = 1) (hc : -m ≤ c ∧ c ≤ m) : -m ≤ (addBits l c).2 ∧ (addBits l c).2 ≤ m := by
  induction l with
  | nil => exact hc
  | cons b l ih =>
    have h1 := ih (fun x hx => h x (by simp [hx]))
    have h2 := h b (by simp)
    simp only [addBits]
    omega
theorem addBits_sum (l : List Int) (c : Int) : spell l + c = (addBits l c).2 * 2 ^ l.length + spell (addBits l c).1 := by
  induction l with
  | nil => simp [addBits, spell_nil]
  | cons b l ih =>
    rw [spell_cons, addBits]
    simp only
    rw [spell_cons, addBits_length, List.length_cons, Int.pow_succ]
    generalize (addBits l c).2 = d at *
    generalize spell (addBits l c).1 = s at *
    generalize (2 : Int) ^ l.length = p at *
    have h : b + d = 2 * ((b + d) / 2) + (b + d) % 2 := by omega
    have e1 : b * p + spell l + c = b * p + (d * p + s) := by omega
    have e2 : (b + d) / 2 * (p * 2) + ((b + d) % 2 * p + s) = (2 * ((b + d) / 2) + (b + d) % 2) * p + s := by
      rw [Int.add_mul, Int.mul_comm p 2, ← Int.mul_assoc, Int.mul_comm _ 2, Int.add_assoc]
    rw [e1, e2, ← h, Int.add_mul, Int.add_assoc]

theorem bitW_nat (x k : Nat) : bitW (x : Int) k = ((x / 2 ^ k % 2 : Nat) : Int) := by
  unfold bitW; simp
theorem spell_bitsTo_nat (x n : Nat) : ∀ k, k ≤ n → spell (bitsTo (x : Int) n k) = ((x / 2 ^ (n - k) % 2 ^ k : Nat) : Int) := by
  intro k
  induction k with
  | zero => intro _; simp [bitsTo, spell_nil, Nat.mod_one]
  | succ k ih =>
    intro hk
    rw [bitsTo_succ, spell_snoc, ih (by omega), bitW_nat]
    have e : n - k = (n - (k + 1)) + 1 := by omega
    rw [e, Nat.pow_succ, ← Nat.div_div_eq_div_mul, show n - 1 - k = n - (k + 1) from by omega]
    generalize x / 2 ^ (n - (k + 1)) = y
    have := Nat.mod_mul (x := y) (a := 2) (b := 2 ^ k)
    rw [Nat.pow_succ, Nat.mul_comm (2 ^ k) 2, this]
    omega
theorem spell_bits (x : Int) (n : Nat) (h0 : 0 ≤ x) (h1 : x < 2 ^ n) : spell (bitsTo x n n) = x := by
  obtain ⟨x, rfl⟩ := Int.eq_ofNat_of_zero_le h0
  rw [spell_bitsTo_nat x n n (Nat.le_refl _)]
  have : x < 2 ^ n := by exact_mod_cast h1
  simp [Nat.mod_eq_of_lt this]
theorem bitsTo_01 (x : Int) (n k : Nat) : ∀ b ∈ bitsTo x n k, b = 0 ∨ b = 1 := by
  intro b hb
  simp only [bitsTo, List.mem_map] at hb
  obtain ⟨j, _, rfl⟩ := hb
  exact bitW_01 x _

/-- 'n & 1' of an int. -/
theorem and1_i64 (n : Int) : bits .and .i64 n 1 = n % 2 := by
  show IntKind.i64.wrap ((BitVec.ofInt 64 n &&& BitVec.ofInt 64 1).toNat : Int) = _
  rw [BitVec.toNat_and, show (BitVec.ofInt 64 1).toNat = 1 from rfl, Nat.and_one_is_mod, BitVec.toNat_ofInt, IntKind.wrap_i64]
  omega
theorem tdiv2 (n : Int) : (n - n % 2).tdiv 2 = n / 2 := by
  rw [Int.tdiv_eq_ediv_of_dvd (by omega)]; omega
end Go.Proofs.Ytnpaijmibkbhfaa

/-
  Blocks of addresses as prefixes in memory; pre.Span and pre.Halves of a block.
-/
import Derived.Test.YtojdlhiibffnfaaDoorCidrA
import Derived.Test.YtojdlhiibffnfaaDoorCanon
import Derived.Test.YtojdlhiibffnfaaDoorAppTwo
namespace Go.Proofs.YtojdlhiibffnfaaDoor
open Go.RowKit
set_option linter.unusedVariables false
set_option linter.unusedSimpArgs false

/-- The addresses from x on, 2^k of them, are a block of this family. -/
def AL (six : Bool) (x k : Nat) : Prop := k ≤ wideN six ∧ x + 2 ^ k ≤ 2 ^ wideN six ∧ ∃ c, x = c * 2 ^ k
theorem AL.top (six : Bool) : AL six 0 (wideN six) := ⟨Nat.le_refl _, by omega, 0, by simp⟩
theorem AL.low {six : Bool} {x k : Nat} (h : AL six x (k + 1)) : AL six x k := by
  obtain ⟨a, b, c, d⟩ := h
  have := pow_one k
  rw [pow_up] at b d
  exact ⟨by omega, by omega, c * 2, by rw [d, Nat.mul_add, Nat.mul_assoc, Nat.two_mul, Nat.mul_add]⟩
theorem AL.high {six : Bool} {x k : Nat} (h : AL six x (k + 1)) : AL six (x + 2 ^ k) k := by
  obtain ⟨a, b, c, d⟩ := h
  rw [pow_up] at b d
  refine ⟨by omega, by omega, c * 2 + 1, ?_⟩
  rw [d, Nat.add_mul, Nat.one_mul, Nat.mul_add, Nat.mul_assoc, Nat.two_mul, Nat.mul_add]
theorem AL.lt {six : Bool} {x k : Nat} (h : AL six x k) : x < 2 ^ wideN six := by have := pow_one k; have := h.2.1; omega
theorem AL.lt128 {six : Bool} {x k : Nat} (h : AL six x k) : x < 2 ^ 128 := YtojdlhiibffnfaaDoor.lt128 h.lt
theorem low_mul (c k : Nat) : lowN (c * 2 ^ k) k = c * 2 ^ k := by unfold lowN; rw [Nat.mul_div_cancel _ (Nat.two_pow_pos k)]
theorem AL.lowN {six : Bool} {x k : Nat} (h : AL six x k) : lowN x k = x := by obtain ⟨c, d⟩ := h.2.2; rw [d, low_mul]
theorem AL.topN {six : Bool} {x k : Nat} (h : AL six x k) : topN x k = x + (2 ^ k - 1) := by rw [topN_low, h.lowN]
theorem AL.chk {six : Bool} {x k : Nat} (h : AL six x k) : chkE six x ((wideN six - k : Nat) : Int) = 0 :=
  chk_mk six x _ h.lt (Nat.sub_le _ _) (by rw [show wideN six - (wideN six - k) = k by have := h.1; omega]; exact h.lowN)
theorem AL.halfTop {six : Bool} {x k : Nat} (h : AL six x (k + 1)) : Go.Proofs.YtojdlhiibffnfaaDoor.lowN (x + (2 ^ (k + 1) - 1)) k = x + 2 ^ k := by
  obtain ⟨c, d⟩ := h.high.2.2
  have h1 := pow_one k
  unfold Go.Proofs.YtojdlhiibffnfaaDoor.lowN
  have e : x + (2 ^ (k + 1) - 1) = 2 ^ k * c + (2 ^ k - 1) := by rw [pow_up, Nat.mul_comm, ← d]; omega
  rw [e, Nat.mul_add_div (Nat.two_pow_pos k), Nat.div_eq_of_lt (by omega), Nat.add_zero, d]

theorem span_al {six : Bool} {x k : Nat} (h : AL six x k) (w : World) :
    Calls Tryd.prog 27 #[.agg #[.bool six, .int .u64 (aH x), .int .u64 (aL x), .int .i64 ((wideN six - k : Nat) : Int)]] w fun e w' => e = .returned (.tuple #[.agg #[.bool six, .int .u64 (aH x), .int .u64 (aL x)], .agg #[.bool six, .int .u64 (aH (x + (2 ^ k - 1))), .int .u64 (aL (x + (2 ^ k - 1)))], .int .i64 0]) ∧ Below w.heap.size w w' := by
  have c := span_ok six x (wideN six - k) h.lt128 (Nat.sub_le _ _) h.chk w
  rw [show wideN six - (wideN six - k) = k by have := h.1; omega, h.topN] at c
  exact c
theorem halves_al {six : Bool} {x k : Nat} (h : AL six x (k + 1)) (w : World) :
    Calls Tryd.prog 60 #[.agg #[.bool six, .int .u64 (aH x), .int .u64 (aL x), .int .i64 ((wideN six - (k + 1) : Nat) : Int)]] w fun e w' => e = .returned (.tuple #[.agg #[.bool six, .int .u64 (aH x), .int .u64 (aL x), .int .i64 ((wideN six - k : Nat) : Int)], .agg #[.bool six, .int .u64 (aH (x + 2 ^ k)), .int .u64 (aL (x + 2 ^ k)), .int .i64 ((wideN six - k : Nat) : Int)], .int .i64 0]) ∧ Below w.heap.size w w' := by
  have hk := h.1
  have c := halves_ok six x (wideN six - (k + 1)) (by omega) h.lt128 h.chk w
  rw [show wideN six - (wideN six - (k + 1) + 1) = k by omega, show wideN six - (wideN six - (k + 1)) = k + 1 by omega, h.topN, h.halfTop, h.low.lowN, show ((wideN six - (k + 1) : Nat) : Int) + 1 = ((wideN six - k : Nat) : Int) by omega] at c
  exact c

/-- A prefix as it lies in a slice: family, address, Len. -/
abbrev PT := Bool × Nat × Int
def pcs (p : PT) : List Value := [.bool p.1, .int .u64 (aH p.2.1), .int .u64 (aL p.2.1), .int .i64 p.2.2]
def pRow (l : List PT) : List Value := l.flatMap pcs
theorem pRow_len (l : List PT) : (pRow l).length = l.length * 4 := by
  unfold pRow
  induction l with
  | nil => rfl
  | cons a l ih => rw [List.flatMap_cons, List.length_append, ih, List.length_cons]; simp [pcs]; omega
theorem pRow_app (l m : List PT) : pRow (l ++ m) = pRow l ++ pRow m := by unfold pRow; exact List.flatMap_append
theorem pRow_one (l : List PT) : ∀ u ∈ pRow l, u.oneCell' = true := by
  intro u hu
  unfold pRow at hu
  obtain ⟨p, _, h⟩ := List.mem_flatMap.1 hu
  simp only [pcs, List.mem_cons, List.not_mem_nil, or_false] at h
  rcases h with h | h | h | h <;> subst h <;> rfl
/-- A slice of prefixes that a call has made, its blocks from 'base' on. -/
abbrev Owned (w : World) (base : Nat) (v : Value) (l : List PT) : Prop := w.ownsRow base 44 4 v l.length (pRow l)
theorem owned_nil (w : World) (base : Nat) : Owned w base (.slice none 0 0) [] := World.ownsRow_nil _ _ _ _
theorem owned_one (w : World) (base : Nat) (hb : base ≤ w.heap.size) (s : Bool) (x : Nat) (n : Int) :
    Owned (w.alloc (.cells #[.bool s, .int .u64 (aH x), .int .u64 (aL x), .int .i64 n] 44)) base (.slice (some ⟨w.heap.size, 0, none⟩) 1 1) [(s, x, n)] :=
  ⟨rfl, .inr ⟨w.heap.size, 1, #[.bool s, .int .u64 (aH x), .int .u64 (aL x), .int .i64 n], rfl, hb, heap_alloc_new w _, Nat.le_refl _, by unfold maxLen; omega, rfl, rfl⟩⟩
theorem preCells {w : World} {b : Nat} {s : Bool} {h l n : Int} (a : PreAt w b s h l n) : w.cell? ⟨b, 0, none⟩ = some (.bool s) ∧ w.cell? ⟨b, 1, none⟩ = some (.int .u64 h) ∧ w.cell? ⟨b, 2, none⟩ = some (.int .u64 l) ∧ w.cell? ⟨b, 3, none⟩ = some (.int .i64 n) ∧ b < w.heap.size := a
theorem addrCells {w : World} {b : Nat} {s : Bool} {h l : Int} (a : AddrAt w b s h l) : w.cell? ⟨b, 0, none⟩ = some (.bool s) ∧ w.cell? ⟨b, 1, none⟩ = some (.int .u64 h) ∧ w.cell? ⟨b, 2, none⟩ = some (.int .u64 l) ∧ b < w.heap.size := a
theorem info_pre : (Tryd.prog.info? 44).map (fun i => (i.zero, i.size, i.bytes)) = some (some (.agg #[.bool false, .int .u64 0, .int .u64 0, .int .i64 0]), 4, 32) := by kernel_rfl
/-- What a call that hands back a list of prefixes says. -/
abbrev PresOut (l : List PT) (w : World) (e : Ending) (w' : World) : Prop := ∃ v, e = .returned v ∧ Owned w' w.heap.size v l ∧ Below w.heap.size w w'
def bl (six : Bool) (p : Nat × Nat) : PT := (six, p.1, ((wideN six - p.2 : Nat) : Int))
/-- The smallest list of prefixes of one family for the addresses of S in the block (x, k). -/
noncomputable def cn (six : Bool) (S : Nat → Prop) (k x : Nat) : List PT := (canon S k x).map (bl six)
theorem cn_all {six : Bool} {S : Nat → Prop} {k x : Nat} (h : ∀ a, inB x k a → S a) : cn six S k x = [(six, x, ((wideN six - k : Nat) : Int))] := by unfold cn; rw [canon_all h]; rfl
theorem cn_none {six : Bool} {S : Nat → Prop} {k x : Nat} (h : ∀ a, inB x k a → ¬ S a) : cn six S k x = [] := by unfold cn; rw [canon_none h]; rfl
theorem cn_half {six : Bool} {S : Nat → Prop} {k x : Nat} (h : ¬ ∀ a, inB x (k + 1) a → S a) : cn six S (k + 1) x = cn six S k x ++ cn six S k (x + 2 ^ k) := by unfold cn; rw [canon_half h, List.map_append]
end Go.Proofs.YtojdlhiibffnfaaDoor

/-
  The document's bitsOf and addrOf, by the number of the address: bits in a block of memory.
-/
import Derived.Test.YtgajepmnklbmpaaG3
import Derived.Test.YtgajepmnklbmpaaG1
namespace Go.Proofs.Ytgajepmnklbmpaa
open Go.RowKit
set_option linter.unusedVariables false
set_option linter.unusedSimpArgs false

/-- A bit as an int. -/
def bI (b : Bool) : Int := if b then 1 else 0
/-- The first bit of an address, the second one .. -/
def fB (six : Bool) (x j : Nat) : Bool := x.testBit (wideN six - 1 - j)
/-- Block g holds these W bits, and they may be written. -/
def BitsF (w : World) (g W : Nat) (f : Nat → Bool) : Prop := (∀ j, j < W → w.cell? ⟨g, j, none⟩ = some (.int .i64 (bI (f j)))) ∧ (∀ j, w.frozen? ⟨g, j, none⟩ = false) ∧ g < w.heap.size
theorem BitsF.keep {w w' : World} {g W : Nat} {f : Nat → Bool} (h : BitsF w g W f) (hb : Below w.heap.size w w') : BitsF w' g W f :=
  ⟨fun j hj => (hb.cell (p := ⟨g, j, none⟩) h.2.2).trans (h.1 j hj), fun j => (hb.frozen (p := ⟨g, j, none⟩) h.2.2).trans (h.2.1 j), Nat.lt_of_lt_of_le h.2.2 hb.size⟩
theorem BitsF.alloc {w : World} {g W : Nat} {f : Nat → Bool} (h : BitsF w g W f) (o : Obj) : BitsF (w.alloc o) g W f := h.keep ((Below.refl _ _).alloc (Nat.le_refl _) o)
theorem BitsF.drew {w : World} {g W : Nat} {f : Nat → Bool} (h : BitsF w g W f) : BitsF w.drew g W f := h.keep (Below.refl _ _).drew
theorem BitsF.congr {w : World} {g W : Nat} {f f' : Nat → Bool} (h : BitsF w g W f) (e : ∀ j, j < W → f j = f' j) : BitsF w g W f' :=
  ⟨fun j hj => by rw [← e j hj]; exact h.1 j hj, h.2⟩
theorem BitsF.far {w : World} {g W : Nat} {f : Nat → Bool} (h : BitsF w g W f) {p : Addr} (hp : g ≠ p.block) (u : Value) : BitsF (w.setCell p u) g W f := by
  have ne : ∀ o, p ≠ ⟨g, o, none⟩ := fun o e => hp (by rw [e])
  exact ⟨fun j hj => (World.cell?_setCell_other w p _ u (ne j)).trans (h.1 j hj), fun j => by rw [World.frozen?_setCell]; exact h.2.1 j, by simpa using h.2.2⟩
theorem BitsF.set {w : World} {g W : Nat} {f : Nat → Bool} (h : BitsF w g W f) (k : Nat) (hk : k < W) (v : Bool) : BitsF (w.setCell ⟨g, k, none⟩ (.int .i64 (bI v))) g W (fun j => if j = k then v else f j) := by
  refine ⟨fun j hj => ?_, fun j => by rw [World.frozen?_setCell]; exact h.2.1 j, by simpa using h.2.2⟩
  by_cases e : j = k
  · subst e
    simp only [if_true]
    exact World.cell?_setCell_same w _ _ (h.1 j hj)
  · simp only [if_neg e]
    rw [World.cell?_setCell_other w ⟨g, k, none⟩ ⟨g, j, none⟩ _ (fun h => e (Addr.mk.inj h).2.1.symm)]
    exact h.1 j hj

theorem bitW_test (x k : Nat) : bitW (x : Int) k = bI (x.testBit k) := by
  rw [bitW_nat, Nat.testBit_eq_decide_div_mod_eq]
  unfold bI
  by_cases h : x / 2 ^ k % 2 = 1
  · rw [decide_eq_true h, if_pos rfl, h]; rfl
  · have : x / 2 ^ k % 2 = 0 := by omega
    rw [decide_eq_false h, this]; rfl
theorem bitAt_num (six : Bool) (x j : Nat) (hj : j < wideN six) : bitAt six (aH x) (aL x) j = bI (fB six x j) := by
  unfold fB
  cases six
  · have hj' : j < 32 := hj
    show bitW (aL x) (31 - j) = bI (x.testBit (32 - 1 - j))
    unfold aL
    rw [bitW_test, show (18446744073709551616 : Nat) = 2 ^ 64 from rfl, Nat.testBit_mod_two_pow, decide_eq_true (show 31 - j < 64 by omega), Bool.true_and]
  · have hj' : j < 128 := hj
    show (if j < 64 then bitW (aH x) (63 - j) else bitW (aL x) (127 - j)) = bI (x.testBit (128 - 1 - j))
    by_cases h : j < 64
    · rw [if_pos h]
      unfold aH
      rw [bitW_test, show (18446744073709551616 : Nat) = 2 ^ 64 from rfl, Nat.testBit_div_two_pow, show 63 - j + 64 = 128 - 1 - j from by omega]
    · rw [if_neg h]
      unfold aL
      rw [bitW_test, show (18446744073709551616 : Nat) = 2 ^ 64 from rfl, Nat.testBit_mod_two_pow, decide_eq_true (show 127 - j < 64 by omega), Bool.true_and]
theorem owns_cap {w : World} {base g W cap : Nat} {e : TypeId} {xs : List Value} (h : w.ownsRow base e 1 (.slice (some ⟨g, 0, none⟩) W cap) W xs) : W ≤ cap ∧ cap ≤ maxLen := by
  rcases h.2 with ⟨h', _⟩ | ⟨g', cap', cur, h', _, _, hc, hm, _⟩
  · simp at h'
  · simp only [Value.slice.injEq, Option.some.injEq, Addr.mk.injEq, and_true, true_and] at h'
    obtain ⟨rfl, rfl⟩ := h'
    exact ⟨hc, hm⟩
theorem bits_of_owns {w : World} {base g W cap : Nat} {six : Bool} {x : Nat} (hW : wideN six = W) (h : w.ownsRow base 3 1 (.slice (some ⟨g, 0, none⟩) W cap) W ((bitsL six (aH x) (aL x)).map (Value.int .i64))) : BitsF w g (wideN six) (fB six x) := by
  refine ⟨fun j hj => ?_, fun j => h.frozenAt j, (h.lt g rfl).2⟩
  rw [h.cellAt j (by omega), List.getElem?_map, bitsL_get six _ _ j (by cases six <;> exact hj), bitAt_num six x j hj]; rfl
theorem bitsOf_num (six : Bool) (x : Nat) (hx : x < 2 ^ 128) (w : World) :
    Calls Try.prog 70 #[.agg #[.bool six, .int .u64 (aH x), .int .u64 (aL x)]] w fun e w' => ∃ g cap, e = .returned (.slice (some ⟨g, 0, none⟩) (wideN six) cap) ∧ BitsF w' g (wideN six) (fB six x) ∧ w.heap.size < g ∧ (wideN six ≤ cap ∧ cap ≤ maxLen) ∧ Below w.heap.size w w' := by
  cases six
  · refine (bitsOf_four' (aH x) (aL x) (aL_0 x) (aL_1 x) w).mono ?_
    rintro e w' ⟨g, cap, rfl, ho, hb⟩
    exact ⟨g, cap, rfl, bits_of_owns rfl ho, (ho.lt g rfl).1, owns_cap ho, hb⟩
  · refine (bitsOf_six' (aH x) (aL x) (aH_0 x) (aH_1 x hx) (aL_0 x) (aL_1 x) w).mono ?_
    rintro e w' ⟨g, cap, rfl, ho, hb⟩
    exact ⟨g, cap, rfl, bits_of_owns rfl ho, (ho.lt g rfl).1, owns_cap ho, hb⟩
/-- The bits of a number, as a list. -/
def bitsN (six : Bool) (x : Nat) : List Int := (List.range (wideN six)).map fun j => bI (fB six x j)
theorem bitsN_length (six : Bool) (x : Nat) : (bitsN six x).length = wideN six := by simp [bitsN]
theorem bitsN_get (six : Bool) (x j : Nat) (hj : j < wideN six) : (bitsN six x)[j]? = some (bI (fB six x j)) := by simp [bitsN, List.getElem?_range hj]
theorem bitsN_01 (six : Bool) (x : Nat) : ∀ b ∈ bitsN six x, b = 0 ∨ b = 1 := by
  intro b hb
  simp only [bitsN, List.mem_map] at hb
  obtain ⟨j, _, rfl⟩ := hb
  unfold bI; split <;> simp
theorem bitsN_eq (six : Bool) (x : Nat) : bitsN six x = bitsL six (aH x) (aL x) := by
  refine List.ext_getElem? fun j => ?_
  by_cases hj : j < wideN six
  · rw [bitsN_get six x j hj, bitsL_get six _ _ j (by cases six <;> exact hj), bitAt_num six x j hj]
  · rw [List.getElem?_eq_none (by rw [bitsN_length]; omega), List.getElem?_eq_none (by rw [bitsL_length]; cases six <;> simp_all [wideN] <;> omega)]
theorem BitsF.list {w : World} {g : Nat} {six : Bool} {x : Nat} (h : BitsF w g (wideN six) (fB six x)) : ∀ j u, (bitsN six x)[j]? = some u → w.cell? ⟨g, j, none⟩ = some (.int .i64 u) := by
  intro j u hj
  have hl := (List.getElem?_eq_some_iff.1 hj).1
  rw [bitsN_length] at hl
  rw [bitsN_get six x j hl] at hj
  rw [h.1 j hl, Option.some.inj hj]
theorem addrOf_bits (six : Bool) (x g cap : Nat) (hx : x < 2 ^ wideN six) (w : World) (h : BitsF w g (wideN six) (fB six x)) :
    Calls Try.prog 72 #[.slice (some ⟨g, 0, none⟩) (wideN six) cap] w fun e w' => e = .returned (.agg #[.bool six, .int .u64 (aH x), .int .u64 (aL x)]) ∧ Below w.heap.size w w' := by
  cases six
  · have hx' : x < 4294967296 := hx
    have c := addrOf_four (bitsN false x) (bitsN_length false x) (bitsN_01 false x) g cap w h.2.2 h.list
    have e1 : aH x = 0 := by unfold aH; omega
    have e2 : spell (bitsN false x) = aL x := by
      rw [bitsN_eq]
      exact spell_bits (aL x) 32 (aL_0 x) (by show aL x < 4294967296; unfold aL; omega)
    rw [e2] at c
    rw [e1]
    exact c
  · have hx' : x < 2 ^ 128 := hx
    have c := addrOf_six (bitsN true x) (bitsN_length true x) (bitsN_01 true x) g cap w h.2.2 h.list
    have e : bitsN true x = bitsTo (aH x) 64 64 ++ bitsTo (aL x) 64 64 := bitsN_eq true x
    have e1 : spell ((bitsN true x).take 64) = aH x := by
      rw [e, List.take_left' (bitsTo_length _ _ _)]
      exact spell_bits (aH x) 64 (aH_0 x) (by have := aH_1 x hx'; show aH x < 18446744073709551616; omega)
    have e2 : spell ((bitsN true x).drop 64) = aL x := by
      rw [e, List.drop_left' (bitsTo_length _ _ _)]
      exact spell_bits (aL x) 64 (aL_0 x) (by have := aL_1 x; show aL x < 18446744073709551616; omega)
    rw [e1, e2] at c
    exact c
theorem fB_low (six : Bool) (x n j : Nat) (hn : n ≤ wideN six) (hj : j < wideN six) : fB six (lowN x (wideN six - n)) j = (decide (j < n) && fB six x j) := by
  unfold fB; rw [lowN_testBit, show decide (wideN six - n ≤ wideN six - 1 - j) = decide (j < n) from decide_eq_decide.2 (by omega)]
theorem fB_top (six : Bool) (x n j : Nat) (hn : n ≤ wideN six) (hj : j < wideN six) : fB six (topN x (wideN six - n)) j = (decide (n ≤ j) || fB six x j) := by
  unfold fB; rw [topN_testBit, show decide (wideN six - 1 - j < wideN six - n) = decide (n ≤ j) from decide_eq_decide.2 (by omega)]
/-- Numbers with the same bits are the same. -/
theorem fB_ext (six : Bool) (x y : Nat) (hx : x < 2 ^ wideN six) (hy : y < 2 ^ wideN six) (h : ∀ j, j < wideN six → fB six x j = fB six y j) : x = y := by
  refine Nat.eq_of_testBit_eq fun i => ?_
  by_cases hi : i < wideN six
  · have := h (wideN six - 1 - i) (by omega)
    unfold fB at this
    rw [show wideN six - 1 - (wideN six - 1 - i) = i from by omega] at this
    exact this
  · rw [Nat.testBit_lt_two_pow (Nat.lt_of_lt_of_le hx (Nat.pow_le_pow_right (by omega) (by omega))), Nat.testBit_lt_two_pow (Nat.lt_of_lt_of_le hy (Nat.pow_le_pow_right (by omega) (by omega)))]
/-- The last bits are 0. -/
theorem lowBits_iff (six : Bool) (x n : Nat) (hx : x < 2 ^ wideN six) (hn : n ≤ wideN six) : lowN x (wideN six - n) = x ↔ ∀ j, n ≤ j → j < wideN six → fB six x j = false := by
  constructor
  · intro h j hj hl
    rw [← h, fB_low six x n j hn hl, decide_eq_false (by omega), Bool.false_and]
  · intro h
    refine fB_ext six _ _ (lowN_lt _ _ _ hx) hx fun j hj => ?_
    rw [fB_low six x n j hn hj]
    by_cases hl : j < n
    · simp [hl]
    · rw [h j (by omega) hj]; simp
/-- The first n bits are the same. -/
theorem same_bits (six : Bool) (x y n : Nat) (hx : x < 2 ^ wideN six) (hy : y < 2 ^ wideN six) (hn : n ≤ wideN six) : lowN y (wideN six - n) = lowN x (wideN six - n) ↔ ∀ j, j < n → fB six x j = fB six y j := by
  constructor
  · intro h j hj
    have := congrArg (fun z => fB six z j) h
    simp only [fB_low six _ n j hn (by omega), decide_eq_true hj, Bool.true_and] at this
    exact this.symm
  · intro h
    refine fB_ext six _ _ (lowN_lt _ _ _ hy) (lowN_lt _ _ _ hx) fun j hj => ?_
    rw [fB_low six y n j hn hj, fB_low six x n j hn hj]
    by_cases hl : j < n
    · rw [h j hl]
    · simp [hl]
end Go.Proofs.Ytgajepmnklbmpaa

/-
  Laid together: May, PreA, BitsOf, RefAddrOf, RefPre, Picked, AddrOf, PreA2, PreCut, Shapes, ShapesPre.
-/
import Derived.Test.YtifhakoeinalaaaDoorProg
import Derived.Test.YtifhakoeinalaaaDoorG1
/-
  Contracts of addr.May and of the document's AddrMay.
-/
namespace Go.Proofs.YtifhakoeinalaaaDoor
open Go.RowKit
set_option linter.unusedVariables false
set_option linter.unusedSimpArgs false

/-- Is an address valid? -/
def mayB (six : Bool) (hi lo : Int) : Bool := six || (decide (hi = 0) && decide (lo < 4294967296))

set_option maxHeartbeats 400000 in
theorem may_calls (six : Bool) (hi lo : Int) (h0 : 0 ≤ hi) (l0 : 0 ≤ lo) (w : World) :
    Calls Tryd.prog 21 #[.agg #[.bool six, .int .u64 hi, .int .u64 lo]] w fun e w' => e = .returned (.bool (mayB six hi lo)) ∧ w.alloc (.cells #[.bool six, .int .u64 hi, .int .u64 lo] 31) = w' := by
  cases six
  · by_cases hz : hi = 0
    · subst hz
      by_cases hl : lo < 4294967296
      · go_enter Tryd.func21, Tryd.ntmps21
        go_wp2
        go_ret
        exact ⟨by simp [mayB, hl], rfl⟩
      · go_enter Tryd.func21, Tryd.ntmps21
        go_wp2
        go_ret
        exact ⟨by simp [mayB, hl], rfl⟩
    · have hz' : (hi == 0) = false := by simpa using hz
      go_enter Tryd.func21, Tryd.ntmps21
      go_wp2
      go_ret
      exact ⟨by simp [mayB, hz], rfl⟩
  · go_enter Tryd.func21, Tryd.ntmps21
    go_wp2
    go_ret
    exact ⟨by simp [mayB], rfl⟩

end Go.Proofs.YtifhakoeinalaaaDoor
/-
  Contracts of pre.width, pre.ones.
-/
namespace Go.Proofs.YtifhakoeinalaaaDoor
open Go.RowKit
set_option linter.unusedVariables false
set_option linter.unusedSimpArgs false

set_option maxHeartbeats 400000 in
theorem pwidth_calls (six : Bool) (hi lo : Int) (w : World) :
    Calls Tryd.prog 35 #[.agg #[.bool six, .int .u64 hi, .int .u64 lo]] w fun e w' => e = .returned (.int .i64 (wideN six : Nat)) ∧ w.alloc (.cells #[.bool six, .int .u64 hi, .int .u64 lo] 31) = w' := by
  cases six
  · go_enter Tryd.func35, Tryd.ntmps35
    go_wp2
    go_ret
    exact ⟨rfl, rfl⟩
  · go_enter Tryd.func35, Tryd.ntmps35
    go_wp2
    go_ret
    exact ⟨rfl, rfl⟩

/-- A word whose last k bits are 1. -/
def mskI (k : Nat) : Int := ((2 ^ k - 1 : Nat) : Int)
theorem msk_wrap (k : Nat) (h : k ≤ 64) : IntKind.u64.wrap (IntKind.u64.wrap (2 ^ k) - 1) = mskI k := by
  have h1 : 2 ^ k ≤ 2 ^ 64 := Nat.pow_le_pow_right (by omega) h
  have h2 : 0 < 2 ^ k := Nat.two_pow_pos k
  have e : (2 : Int) ^ k = ((2 ^ k : Nat) : Int) := by simp
  rw [e, IntKind.wrap_u64, IntKind.wrap_u64]
  unfold mskI
  generalize 2 ^ k = y at *
  omega

set_option maxHeartbeats 400000 in
theorem ones_calls (m : Nat) (h1 : m ≤ 128) (w : World) :
    Calls Tryd.prog 36 #[.int .i64 m] w fun e w' => e = .returned (.tuple #[.int .u64 (mskI (m - 64)), .int .u64 (mskI (min m 64))]) ∧ w = w' := by
  by_cases h : 64 < m
  · go_enter Tryd.func36, Tryd.ntmps36
    go_wp2
    go_ret2
    exact ⟨ret2 (msk_wrap _ (by omega)) (by rw [Nat.min_eq_right (by omega)]; rfl), rfl⟩
  · by_cases hz : 64 = m
    · subst hz
      go_enter Tryd.func36, Tryd.ntmps36
      go_wp2
      go_ret2
      exact ⟨ret2 rfl rfl, rfl⟩
    · go_enter Tryd.func36, Tryd.ntmps36
      go_wp2
      go_ret2
      exact ⟨ret2 (by rw [show m - 64 = 0 from by omega]; rfl) (by rw [Nat.min_eq_left (by omega)]; exact msk_wrap _ (by omega)), rfl⟩

theorem wrap_nat64 (n : Nat) (h : n < 18446744073709551616) : IntKind.u64.wrap (n : Int) = (n : Int) := by rw [IntKind.wrap_u64]; omega
theorem ofInt_nat (a : Nat) : BitVec.ofInt 64 (a : Int) = BitVec.ofNat 64 a := by simp
theorem andNot_msk (a k : Nat) (ha : a < 18446744073709551616) (hk : k ≤ 64) : bits .andNot .u64 (a : Int) (mskI k) = ((lowN a k : Nat) : Int) := by
  show IntKind.u64.wrap ((BitVec.ofInt 64 (a : Int) &&& ~~~ BitVec.ofInt 64 (mskI k)).toNat : Int) = _
  unfold mskI
  rw [ofInt_nat, ofInt_nat, wrap_nat64 _ (BitVec.isLt _)]
  congr 1
  refine Nat.eq_of_testBit_eq fun j => ?_
  rw [lowN_testBit, BitVec.testBit_toNat, BitVec.getLsbD_and, BitVec.getLsbD_not, BitVec.getLsbD_ofNat, BitVec.getLsbD_ofNat, Nat.testBit_two_pow_sub_one]
  by_cases hj : j < 64
  · by_cases h : k ≤ j
    · have h2 : ¬ j < k := by omega
      simp [hj, h, h2]
    · have h2 : j < k := by omega
      simp [hj, h, h2]
  · have : a.testBit j = false := Nat.testBit_lt_two_pow (Nat.lt_of_lt_of_le ha (Nat.pow_le_pow_right (n := 2) (by omega) (show 64 ≤ j by omega)))
    simp [hj, this]
theorem or_msk (a k : Nat) (ha : a < 18446744073709551616) (hk : k ≤ 64) : bits .or .u64 (a : Int) (mskI k) = ((topN a k : Nat) : Int) := by
  show IntKind.u64.wrap ((BitVec.ofInt 64 (a : Int) ||| BitVec.ofInt 64 (mskI k)).toNat : Int) = _
  unfold mskI
  rw [ofInt_nat, ofInt_nat, wrap_nat64 _ (BitVec.isLt _)]
  congr 1
  refine Nat.eq_of_testBit_eq fun j => ?_
  rw [topN_testBit, BitVec.testBit_toNat, BitVec.getLsbD_or, BitVec.getLsbD_ofNat, BitVec.getLsbD_ofNat, Nat.testBit_two_pow_sub_one]
  by_cases hj : j < 64
  · by_cases h : j < k
    · simp [hj, h]
    · simp [hj, h]
  · have : a.testBit j = false := Nat.testBit_lt_two_pow (Nat.lt_of_lt_of_le ha (Nat.pow_le_pow_right (n := 2) (by omega) (show 64 ≤ j by omega)))
    have h2 : ¬ j < k := by omega
    simp [hj, this, h2]
theorem aH_andNot (x m : Nat) (hx : x < 2 ^ 128) (hm : m ≤ 128) : bits .andNot .u64 (aH x) (mskI (m - 64)) = aH (lowN x m) := by
  rw [aH_low]; exact andNot_msk _ _ (by omega) (by omega)
theorem aL_andNot (x m : Nat) : bits .andNot .u64 (aL x) (mskI (min m 64)) = aL (lowN x m) := by
  rw [aL_low]; exact andNot_msk _ _ (by omega) (by omega)
theorem aH_or (x m : Nat) (hx : x < 2 ^ 128) (hm : m ≤ 128) : bits .or .u64 (aH x) (mskI (m - 64)) = aH (topN x m) := by
  rw [aH_top]; exact or_msk _ _ (by omega) (by omega)
theorem aL_or (x m : Nat) : bits .or .u64 (aL x) (mskI (min m 64)) = aL (topN x m) := by
  rw [aL_top]; exact or_msk _ _ (by omega) (by omega)

set_option maxHeartbeats 400000 in
theorem start_calls (six : Bool) (x n : Nat) (hx : x < 2 ^ 128) (hn : n ≤ wideN six) (w : World) :
    Calls Tryd.prog 22 #[.agg #[.bool six, .int .u64 (aH x), .int .u64 (aL x)], .int .i64 n] w fun e w' => e = .returned (.agg #[.bool six, .int .u64 (aH (lowN x (wideN six - n))), .int .u64 (aL (lowN x (wideN six - n)))]) ∧ ((w.alloc (.cells #[.bool six, .int .u64 (aH (lowN x (wideN six - n))), .int .u64 (aL (lowN x (wideN six - n)))] 31)).alloc (.cells #[.bool six, .int .u64 (aH (lowN x (wideN six - n))), .int .u64 (aL (lowN x (wideN six - n)))] 31)).alloc (.cells #[.bool six, .int .u64 (aH x), .int .u64 (aL x)] 31) = w' := by
  have hw := wideN_le six
  obtain ⟨m, hm⟩ : ∃ m, wideN six - n = m := ⟨_, rfl⟩
  have e : ((wideN six : Nat) : Int) - (n : Int) = (m : Int) := by omega
  have m1 : m ≤ 128 := by omega
  rw [hm]
  have E := Lib.hid e
  clear e hm
  go_enter Tryd.func22, Tryd.ntmps22
  go_wp2_with fail
  refine (pwidth_calls six _ _ _).mono ?_
  rintro e w1 ⟨rfl, rfl⟩
  go_wp2_with fail
  rw [E.out]
  refine (ones_calls m m1 _).mono ?_
  rintro e w1 ⟨rfl, rfl⟩
  go_wp2
  go_returns
  rw [aH_andNot x m hx m1, aL_andNot]
  exact ⟨rfl, rfl⟩
end Go.Proofs.YtifhakoeinalaaaDoor
/-
  The contract of the document's bitsOf: the bits of an address, the highest first, in new memory.
-/
namespace Go.Proofs.YtifhakoeinalaaaDoor
open Go.RowKit
set_option linter.unusedVariables false
set_option linter.unusedSimpArgs false

/-- The bits of an address. -/
def bitsL (six : Bool) (hi lo : Int) : List Int := if six then bitsTo hi 64 64 ++ bitsTo lo 64 64 else bitsTo lo 32 32

theorem info_int : (Tryd.prog.info? 3).map (fun i => (i.zero, i.size, i.bytes)) = some (some (.int .i64 0), 1, 8) := by kernel_rfl

/-- A slice of ints that a call has made (its blocks from 'base' on). -/
def OwnInts (w : World) (base : Nat) (v : Value) (xs : List Int) : Prop := w.ownsRow base 3 1 v xs.length (xs.map (Value.int .i64))

theorem below_app {B b0 : Nat} {w wr w1 : World} {e : TypeId} {size n : Nat} {v : Value} {xs : List Value} {o : Obj} (hb : Below B w wr) (hB : B ≤ b0) (hw : B ≤ w.heap.size) (hown : wr.ownsRow b0 e size v n xs) (hg : (wr.alloc o).grownBy w1 v.ownBlock) : Below B w w1 :=
  (hb.alloc (Nat.le_trans hw hb.size) o).grown hg (by have := hb.size; simp; omega) (fun k hk => Nat.le_trans hB (hown.lt k hk).1)

theorem bitsL_length (six : Bool) (hi lo : Int) : (bitsL six hi lo).length = if six then 128 else 32 := by
  cases six <;> simp [bitsL, bitsTo_length]
theorem bitsTo_get (x : Int) (n k j : Nat) (h : j < k) : (bitsTo x n k)[j]? = some (bitW x (n - 1 - j)) := by
  simp [bitsTo, List.getElem?_range h]
theorem bitsL_get (six : Bool) (hi lo : Int) (j : Nat) (h : j < if six then 128 else 32) : (bitsL six hi lo)[j]? = some (bitAt six hi lo j) := by
  cases six
  · simp at h
    simp only [bitsL, bitAt]
    exact bitsTo_get _ _ _ _ h
  · simp at h
    simp only [bitsL, bitAt, if_true]
    by_cases hj : j < 64
    · rw [List.getElem?_append_left (by rw [bitsTo_length]; exact hj), if_pos hj]; exact bitsTo_get _ _ _ _ hj
    · rw [List.getElem?_append_right (by rw [bitsTo_length]; omega), if_neg hj, bitsTo_length, bitsTo_get _ _ _ _ (by omega)]
      rw [show 64 - 1 - (j - 64) = 127 - j from by omega]

end Go.Proofs.YtifhakoeinalaaaDoor
/-
  The contract of the document's addrOf.
-/
namespace Go.Proofs.YtifhakoeinalaaaDoor
open Go.RowKit
set_option linter.unusedVariables false
set_option linter.unusedSimpArgs false

theorem two_alloc {w : World} {g k : Nat} {u : Value} (hg : g < w.heap.size) (h : w.cell? ⟨g, k, none⟩ = some u) (o1 o2 : Obj) : ((w.alloc o1).alloc o2).cell? ⟨g, k, none⟩ = some u := by
  rw [World.cell?_alloc_lt _ _ _ (by simp; omega), World.cell?_alloc_lt _ _ _ hg]; exact h

end Go.Proofs.YtifhakoeinalaaaDoor
/-
  The document's bitsOf and addrOf, by the number of the address: bits in a block of memory.
-/
namespace Go.Proofs.YtifhakoeinalaaaDoor
open Go.RowKit
set_option linter.unusedVariables false
set_option linter.unusedSimpArgs false

/-- A bit as an int. -/
def bI (b : Bool) : Int := if b then 1 else 0
/-- The first bit of an address, the second one .. -/
def fB (six : Bool) (x j : Nat) : Bool := x.testBit (wideN six - 1 - j)
/-- Block g holds these W bits, and they may be written. -/
def BitsF (w : World) (g W : Nat) (f : Nat → Bool) : Prop := (∀ j, j < W → w.cell? ⟨g, j, none⟩ = some (.int .i64 (bI (f j)))) ∧ (∀ j, w.frozen? ⟨g, j, none⟩ = false) ∧ g < w.heap.size
theorem BitsF.keep {w w' : World} {g W : Nat} {f : Nat → Bool} (h : BitsF w g W f) (hb : Below w.heap.size w w') : BitsF w' g W f :=
  ⟨fun j hj => (hb.cell (p := ⟨g, j, none⟩) h.2.2).trans (h.1 j hj), fun j => (hb.frozen (p := ⟨g, j, none⟩) h.2.2).trans (h.2.1 j), Nat.lt_of_lt_of_le h.2.2 hb.size⟩
theorem BitsF.alloc {w : World} {g W : Nat} {f : Nat → Bool} (h : BitsF w g W f) (o : Obj) : BitsF (w.alloc o) g W f := h.keep ((Below.refl _ _).alloc (Nat.le_refl _) o)
theorem BitsF.drew {w : World} {g W : Nat} {f : Nat → Bool} (h : BitsF w g W f) : BitsF w.drew g W f := h.keep (Below.refl _ _).drew
theorem BitsF.congr {w : World} {g W : Nat} {f f' : Nat → Bool} (h : BitsF w g W f) (e : ∀ j, j < W → f j = f' j) : BitsF w g W f' :=
  ⟨fun j hj => by rw [← e j hj]; exact h.1 j hj, h.2⟩
theorem BitsF.far {w : World} {g W : Nat} {f : Nat → Bool} (h : BitsF w g W f) {p : Addr} (hp : g ≠ p.block) (u : Value) : BitsF (w.setCell p u) g W f := by
  have ne : ∀ o, p ≠ ⟨g, o, none⟩ := fun o e => hp (by rw [e])
  exact ⟨fun j hj => (World.cell?_setCell_other w p _ u (ne j)).trans (h.1 j hj), fun j => by rw [World.frozen?_setCell]; exact h.2.1 j, by simpa using h.2.2⟩
theorem BitsF.set {w : World} {g W : Nat} {f : Nat → Bool} (h : BitsF w g W f) (k : Nat) (hk : k < W) (v : Bool) : BitsF (w.setCell ⟨g, k, none⟩ (.int .i64 (bI v))) g W (fun j => if j = k then v else f j) := by
  refine ⟨fun j hj => ?_, fun j => by rw [World.frozen?_setCell]; exact h.2.1 j, by simpa using h.2.2⟩
  by_cases e : j = k
  · subst e
    simp only [if_true]
    exact World.cell?_setCell_same w _ _ (h.1 j hj)
  · simp only [if_neg e]
    rw [World.cell?_setCell_other w ⟨g, k, none⟩ ⟨g, j, none⟩ _ (fun h => e (Addr.mk.inj h).2.1.symm)]
    exact h.1 j hj

theorem bitW_test (x k : Nat) : bitW (x : Int) k = bI (x.testBit k) := by
  rw [bitW_nat, Nat.testBit_eq_decide_div_mod_eq]
  unfold bI
  by_cases h : x / 2 ^ k % 2 = 1
  · rw [decide_eq_true h, if_pos rfl, h]; rfl
  · have : x / 2 ^ k % 2 = 0 := by omega
    rw [decide_eq_false h, this]; rfl
theorem bitAt_num (six : Bool) (x j : Nat) (hj : j < wideN six) : bitAt six (aH x) (aL x) j = bI (fB six x j) := by
  unfold fB
  cases six
  · have hj' : j < 32 := hj
    show bitW (aL x) (31 - j) = bI (x.testBit (32 - 1 - j))
    unfold aL
    rw [bitW_test, show (18446744073709551616 : Nat) = 2 ^ 64 from rfl, Nat.testBit_mod_two_pow, decide_eq_true (show 31 - j < 64 by omega), Bool.true_and]
  · have hj' : j < 128 := hj
    show (if j < 64 then bitW (aH x) (63 - j) else bitW (aL x) (127 - j)) = bI (x.testBit (128 - 1 - j))
    by_cases h : j < 64
    · rw [if_pos h]
      unfold aH
      rw [bitW_test, show (18446744073709551616 : Nat) = 2 ^ 64 from rfl, Nat.testBit_div_two_pow, show 63 - j + 64 = 128 - 1 - j from by omega]
    · rw [if_neg h]
      unfold aL
      rw [bitW_test, show (18446744073709551616 : Nat) = 2 ^ 64 from rfl, Nat.testBit_mod_two_pow, decide_eq_true (show 127 - j < 64 by omega), Bool.true_and]
theorem owns_cap {w : World} {base g W cap : Nat} {e : TypeId} {xs : List Value} (h : w.ownsRow base e 1 (.slice (some ⟨g, 0, none⟩) W cap) W xs) : W ≤ cap ∧ cap ≤ maxLen := by
  rcases h.2 with ⟨h', _⟩ | ⟨g', cap', cur, h', _, _, hc, hm, _⟩
  · simp at h'
  · simp only [Value.slice.injEq, Option.some.injEq, Addr.mk.injEq, and_true, true_and] at h'
    obtain ⟨rfl, rfl⟩ := h'
    exact ⟨hc, hm⟩
theorem bits_of_owns {w : World} {base g W cap : Nat} {six : Bool} {x : Nat} (hW : wideN six = W) (h : w.ownsRow base 3 1 (.slice (some ⟨g, 0, none⟩) W cap) W ((bitsL six (aH x) (aL x)).map (Value.int .i64))) : BitsF w g (wideN six) (fB six x) := by
  refine ⟨fun j hj => ?_, fun j => h.frozenAt j, (h.lt g rfl).2⟩
  rw [h.cellAt j (by omega), List.getElem?_map, bitsL_get six _ _ j (by cases six <;> exact hj), bitAt_num six x j hj]; rfl
/-- The bits of a number, as a list. -/
def bitsN (six : Bool) (x : Nat) : List Int := (List.range (wideN six)).map fun j => bI (fB six x j)
theorem bitsN_length (six : Bool) (x : Nat) : (bitsN six x).length = wideN six := by simp [bitsN]
theorem bitsN_get (six : Bool) (x j : Nat) (hj : j < wideN six) : (bitsN six x)[j]? = some (bI (fB six x j)) := by simp [bitsN, List.getElem?_range hj]
theorem bitsN_01 (six : Bool) (x : Nat) : ∀ b ∈ bitsN six x, b = 0 ∨ b = 1 := by
  intro b hb
  simp only [bitsN, List.mem_map] at hb
  obtain ⟨j, _, rfl⟩ := hb
  unfold bI; split <;> simp
theorem bitsN_eq (six : Bool) (x : Nat) : bitsN six x = bitsL six (aH x) (aL x) := by
  refine List.ext_getElem? fun j => ?_
  by_cases hj : j < wideN six
  · rw [bitsN_get six x j hj, bitsL_get six _ _ j (by cases six <;> exact hj), bitAt_num six x j hj]
  · rw [List.getElem?_eq_none (by rw [bitsN_length]; omega), List.getElem?_eq_none (by rw [bitsL_length]; cases six <;> simp_all [wideN] <;> omega)]
theorem BitsF.list {w : World} {g : Nat} {six : Bool} {x : Nat} (h : BitsF w g (wideN six) (fB six x)) : ∀ j u, (bitsN six x)[j]? = some u → w.cell? ⟨g, j, none⟩ = some (.int .i64 u) := by
  intro j u hj
  have hl := (List.getElem?_eq_some_iff.1 hj).1
  rw [bitsN_length] at hl
  rw [bitsN_get six x j hl] at hj
  rw [h.1 j hl, Option.some.inj hj]
theorem fB_low (six : Bool) (x n j : Nat) (hn : n ≤ wideN six) (hj : j < wideN six) : fB six (lowN x (wideN six - n)) j = (decide (j < n) && fB six x j) := by
  unfold fB; rw [lowN_testBit, show decide (wideN six - n ≤ wideN six - 1 - j) = decide (j < n) from decide_eq_decide.2 (by omega)]
theorem fB_top (six : Bool) (x n j : Nat) (hn : n ≤ wideN six) (hj : j < wideN six) : fB six (topN x (wideN six - n)) j = (decide (n ≤ j) || fB six x j) := by
  unfold fB; rw [topN_testBit, show decide (wideN six - 1 - j < wideN six - n) = decide (n ≤ j) from decide_eq_decide.2 (by omega)]
/-- Numbers with the same bits are the same. -/
theorem fB_ext (six : Bool) (x y : Nat) (hx : x < 2 ^ wideN six) (hy : y < 2 ^ wideN six) (h : ∀ j, j < wideN six → fB six x j = fB six y j) : x = y := by
  refine Nat.eq_of_testBit_eq fun i => ?_
  by_cases hi : i < wideN six
  · have := h (wideN six - 1 - i) (by omega)
    unfold fB at this
    rw [show wideN six - 1 - (wideN six - 1 - i) = i from by omega] at this
    exact this
  · rw [Nat.testBit_lt_two_pow (Nat.lt_of_lt_of_le hx (Nat.pow_le_pow_right (by omega) (by omega))), Nat.testBit_lt_two_pow (Nat.lt_of_lt_of_le hy (Nat.pow_le_pow_right (by omega) (by omega)))]
/-- The last bits are 0. -/
theorem lowBits_iff (six : Bool) (x n : Nat) (hx : x < 2 ^ wideN six) (hn : n ≤ wideN six) : lowN x (wideN six - n) = x ↔ ∀ j, n ≤ j → j < wideN six → fB six x j = false := by
  constructor
  · intro h j hj hl
    rw [← h, fB_low six x n j hn hl, decide_eq_false (by omega), Bool.false_and]
  · intro h
    refine fB_ext six _ _ (lowN_lt _ _ _ hx) hx fun j hj => ?_
    rw [fB_low six x n j hn hj]
    by_cases hl : j < n
    · simp [hl]
    · rw [h j (by omega) hj]; simp
/-- The first n bits are the same. -/
theorem same_bits (six : Bool) (x y n : Nat) (hx : x < 2 ^ wideN six) (hy : y < 2 ^ wideN six) (hn : n ≤ wideN six) : lowN y (wideN six - n) = lowN x (wideN six - n) ↔ ∀ j, j < n → fB six x j = fB six y j := by
  constructor
  · intro h j hj
    have := congrArg (fun z => fB six z j) h
    simp only [fB_low six _ n j hn (by omega), decide_eq_true hj, Bool.true_and] at this
    exact this.symm
  · intro h
    refine fB_ext six _ _ (lowN_lt _ _ _ hy) (lowN_lt _ _ _ hx) fun j hj => ?_
    rw [fB_low six y n j hn hj, fB_low six x n j hn hj]
    by_cases hl : j < n
    · rw [h j hl]
    · simp [hl]
end Go.Proofs.YtifhakoeinalaaaDoor
/-
  Contract of whipcordkeep.Picked.
-/
namespace Go.Proofs.YtifhakoeinalaaaDoor
open Go.RowKit
set_option linter.unusedVariables false
set_option linter.unusedSimpArgs false

set_option maxHeartbeats 400000 in
theorem picked_calls (a n : Int) (n0 : 0 < n) (n1 : n ≤ 1152921504606846976) (a0 : -9223372036854775808 ≤ a) (a1 : a ≤ 9223372036854775807) (w : World) :
    Calls Tryd.prog 12 #[.int .i64 a, .int .i64 n] w fun e w' => e = .returned (.int .i64 (a % n)) ∧ w = w' := by
  have e1 : a.tmod n = if a.tmod n < 0 then a % n - n else a % n := by
    have h1 := Int.tmod_eq_emod_of_nonneg (a := a) (b := n)
    rw [Int.tmod_eq_emod]
    have hz := Int.emod_nonneg a (show n ≠ 0 by omega)
    have hl := Int.emod_lt_of_pos a n0
    have hd : a % n = 0 ↔ n ∣ a := Int.dvd_iff_emod_eq_zero.symm
    split
    · rw [if_neg (by omega)]; omega
    · rw [if_pos (by omega)]; omega
  have hz := Int.emod_nonneg a (show n ≠ 0 by omega)
  have hl := Int.emod_lt_of_pos a n0
  obtain ⟨t, ht⟩ : ∃ t, a.tmod n = t := ⟨_, rfl⟩
  rw [ht] at e1
  have hne : (n == 0) = false := by simp; omega
  have hn1 : (n == -1) = false := by simp; omega
  by_cases hneg : t < 0
  · rw [if_pos hneg] at e1
    have e2 : Hid (t + n = a % n) := by show t + n = a % n; omega
    obtain ⟨z, hze⟩ : ∃ z, a % n = z := ⟨_, rfl⟩
    rw [hze] at hz hl e1 e2
    rw [hze]
    have hb0 : -1152921504606846976 ≤ t := by omega
    clear e1 hze
    go_enter Tryd.func12, Tryd.ntmps12
    go_wp2
    go_ret
    exact ⟨by show Ending.returned (.int .i64 (t + n)) = _; rw [e2.out], rfl⟩
  · rw [if_neg hneg] at e1
    have e2 : Hid (t = a % n) := e1
    obtain ⟨z, hze⟩ : ∃ z, a % n = z := ⟨_, rfl⟩
    rw [hze] at hz hl e1 e2
    rw [hze]
    have hb0 : 0 ≤ t := by omega
    have hb1 : t < 1152921504606846976 := by omega
    clear e1 hze
    go_enter Tryd.func12, Tryd.ntmps12
    go_wp2
    go_ret
    exact ⟨by show Ending.returned (.int .i64 t) = _; rw [e2.out], rfl⟩

end Go.Proofs.YtifhakoeinalaaaDoor
/-
  Contract of whipcordkeep.AddrOf.
-/
namespace Go.Proofs.YtifhakoeinalaaaDoor
open Go.RowKit
set_option linter.unusedVariables false
set_option linter.unusedSimpArgs false

/-- What AddrOf makes of raw numbers. -/
def ofH (six : Bool) (hi : Int) : Int := if six then hi else 0
def ofL (six : Bool) (lo : Int) : Int := if six then lo else lo % 4294967296
theorem of_ok (six : Bool) (hi lo : Int) (h0 : 0 ≤ hi) (h1 : hi ≤ 18446744073709551615) (l0 : 0 ≤ lo) (l1 : lo ≤ 18446744073709551615) :
    0 ≤ ofH six hi ∧ ofH six hi ≤ 18446744073709551615 ∧ 0 ≤ ofL six lo ∧ ofL six lo ≤ 18446744073709551615 ∧ mayB six (ofH six hi) (ofL six lo) = true := by
  cases six
  · simp [ofH, ofL, mayB]; omega
  · simp [ofH, ofL, mayB]; omega

end Go.Proofs.YtifhakoeinalaaaDoor
/-
  Package pre: the last address of a prefix.
-/
namespace Go.Proofs.YtifhakoeinalaaaDoor
open Go.RowKit
set_option linter.unusedVariables false
set_option linter.unusedSimpArgs false
set_option maxHeartbeats 400000 in
theorem pend_calls (six : Bool) (x n : Nat) (hx : x < 2 ^ 128) (hn : n ≤ wideN six) (w : World) :
    Calls Tryd.prog 54 #[.agg #[.bool six, .int .u64 (aH x), .int .u64 (aL x)], .int .i64 n] w fun e w' => e = .returned (.agg #[.bool six, .int .u64 (aH (topN x (wideN six - n))), .int .u64 (aL (topN x (wideN six - n)))]) ∧ ((w.alloc (.cells #[.bool six, .int .u64 (aH (topN x (wideN six - n))), .int .u64 (aL (topN x (wideN six - n)))] 31)).alloc (.cells #[.bool six, .int .u64 (aH (topN x (wideN six - n))), .int .u64 (aL (topN x (wideN six - n)))] 31)).alloc (.cells #[.bool six, .int .u64 (aH x), .int .u64 (aL x)] 31) = w' := by
  have hw := wideN_le six
  obtain ⟨m, hm⟩ : ∃ m, wideN six - n = m := ⟨_, rfl⟩
  have e : ((wideN six : Nat) : Int) - (n : Int) = (m : Int) := by omega
  have m1 : m ≤ 128 := by omega
  rw [hm]
  have E := Lib.hid e
  clear e hm
  go_enter Tryd.func54, Tryd.ntmps54
  go_wp2_with fail
  refine (pwidth_calls six _ _ _).mono ?_
  rintro e w1 ⟨rfl, rfl⟩
  go_wp2_with fail
  rw [E.out]
  refine (ones_calls m m1 _).mono ?_
  rintro e w1 ⟨rfl, rfl⟩
  go_wp2
  go_returns
  rw [aH_or x m hx m1, aL_or]
  exact ⟨rfl, rfl⟩
end Go.Proofs.YtifhakoeinalaaaDoor
/-
  Contract of pre.cut.
-/
namespace Go.Proofs.YtifhakoeinalaaaDoor
open Go.RowKit
set_option linter.unusedVariables false
set_option linter.unusedSimpArgs false

set_option maxHeartbeats 400000 in
theorem pcut_calls (six : Bool) (x n : Nat) (hx : x < 2 ^ 128) (hn : n ≤ wideN six) (w : World) :
    Calls Tryd.prog 55 #[.agg #[.bool six, .int .u64 (aH x), .int .u64 (aL x)], .int .i64 n] w fun e w' => e = .returned (.agg #[.bool six, .int .u64 (aH (lowN x (wideN six - n))), .int .u64 (aL (lowN x (wideN six - n))), .int .i64 n]) ∧ Below w.heap.size w w' := by
  go_enter Tryd.func55, Tryd.ntmps55
  go_wp2_with fail
  refine (start_calls six x n hx hn _).mono ?_
  rintro e w1 ⟨rfl, rfl⟩
  go_wp2
  go_returns
  exact ⟨rfl, by go_grown⟩

end Go.Proofs.YtifhakoeinalaaaDoor
/-
  How an address reads as an argument, and as it reads again.
-/
namespace Go.Proofs.YtifhakoeinalaaaDoor
open Go.ChangeShapes Go.WideShapes Go.ChangeAt Go.RowKit Go.Joins
set_option linter.unusedSimpArgs false
set_option maxRecDepth 100000
section
variable {H : Type} {enc : TypeId × Value → H} {w : World} {base : Nat} {spare : Nat → Bool} {held : Bool}

theorem cellsAddr : Tryd.prog.cellsOf 31 = 3 := by kernel_rfl

/-- An address by value. -/
theorem openAddr {r : Reach} {b0 : Nat} {v : Value} {d : DataW H} {p : List MemPlace} (hv : Value.okWide Tryd.prog w r b0 31 v) (h : DataW.Trod enc Tryd.prog w base spare held 31 v d p) :
    ∃ (six : Bool) (hi lo : Int), v = .agg #[.bool six, .int .u64 hi, .int .u64 lo] ∧ d = .agg [.lit (.bool six), .lit (.int .u64 hi), .lit (.int .u64 lo)] ∧ p = [] ∧ (Lit.int .u64 hi).wf = true ∧ (Lit.int .u64 lo).wf = true := by
  obtain ⟨c0, c1, c2, y0, y1, y2, m, rfl, rfl, rfl, hy0, hy1, hy2⟩ := open_agg3 Tryd.underlying31 (by kernel_rfl) cellsAddr hv h
  obtain ⟨six, e0, rfl⟩ := DataW.trod_bool Tryd.underlying4 hy0
  obtain ⟨hi, e1, rfl, w1⟩ := DataW.trod_int Tryd.underlying29 hy1
  obtain ⟨lo, e2, rfl, w2⟩ := DataW.trod_int Tryd.underlying29 hy2
  simp at e0 e1 e2
  subst e0 e1 e2
  exact ⟨six, hi, lo, rfl, rfl, rfl, w1, w2⟩

theorem shutAddr {six : Bool} {hi lo : Int} (w1 : (Lit.int .u64 hi).wf = true) (w2 : (Lit.int .u64 lo).wf = true) :
    DataW.Trod enc Tryd.prog w base spare held 31 (.agg #[.bool six, .int .u64 hi, .int .u64 lo]) (.agg [.lit (.bool six), .lit (.int .u64 hi), .lit (.int .u64 lo)]) [] :=
  shut_agg3 (y0 := (.lit (.bool six), [])) (y1 := (.lit (.int .u64 hi), [])) (y2 := (.lit (.int .u64 lo), [])) Tryd.underlying31 (by kernel_rfl) cellsAddr ⟨1, by simp [DataW.trod, Tryd.underlying4]⟩ ⟨1, by simp [DataW.trod, Tryd.underlying29, w1]⟩ ⟨1, by simp [DataW.trod, Tryd.underlying29, w2]⟩
end
end Go.Proofs.YtifhakoeinalaaaDoor
/-
  How a prefix reads as an argument, and as it reads again.
-/
namespace Go.Proofs.YtifhakoeinalaaaDoor
open Go.ChangeShapes Go.WideShapes Go.ChangeAt Go.RowKit Go.Joins
set_option linter.unusedSimpArgs false
set_option maxRecDepth 100000
section
variable {H : Type} {enc : TypeId × Value → H} {w : World} {base : Nat} {spare : Nat → Bool} {held : Bool}

theorem cellsPrefix : Tryd.prog.cellsOf 33 = 4 := by kernel_rfl
theorem cellsInt : Tryd.prog.cellsOf 3 = 1 := by kernel_rfl
theorem cellsBool : Tryd.prog.cellsOf 4 = 1 := by kernel_rfl
theorem cellsU64 : Tryd.prog.cellsOf 29 = 1 := by kernel_rfl

/-- A prefix by value. -/
theorem openPrefix {r : Reach} {b0 : Nat} {v : Value} {d : DataW H} {p : List MemPlace} (hv : Value.okWide Tryd.prog w r b0 33 v) (h : DataW.Trod enc Tryd.prog w base spare held 33 v d p) :
    ∃ (six : Bool) (hi lo n : Int), v = .agg #[.bool six, .int .u64 hi, .int .u64 lo, .int .i64 n] ∧ d = .agg [.agg [.lit (.bool six), .lit (.int .u64 hi), .lit (.int .u64 lo)], .lit (.int .i64 n)] ∧ p = [] ∧ (Lit.int .u64 hi).wf = true ∧ (Lit.int .u64 lo).wf = true ∧ (Lit.int .i64 n).wf = true := by
  obtain ⟨cs, rfl, hsz⟩ := okWide_struct Tryd.underlying33 hv
  obtain ⟨c0, c1, c2, c3, rfl⟩ := array4 (hsz.trans cellsPrefix)
  obtain ⟨fuel, hf⟩ := h
  obtain ⟨y0, y1, n, hx, _, h0, h1⟩ := trod_struct2 Tryd.underlying33 hf
  simp only [Prod.mk.injEq] at hx
  obtain ⟨rfl, rfl⟩ := hx
  simp only [cellsAddr, cellsInt, Value.cells, List.drop_zero, List.take, List.drop] at h0 h1
  obtain ⟨z0, z1, z2, m, rfl, _, k0, k1, k2⟩ := Go.Deep.trod_struct3 Tryd.underlying31 h0
  simp only [cellsBool, cellsU64, List.drop_zero, List.take, List.drop] at k0 k1 k2
  obtain ⟨six, e0, rfl⟩ := DataW.trod_bool Tryd.underlying4 k0
  obtain ⟨hi, e1, rfl, w1⟩ := DataW.trod_int Tryd.underlying29 k1
  obtain ⟨lo, e2, rfl, w2⟩ := DataW.trod_int Tryd.underlying29 k2
  obtain ⟨l, e3, rfl, w3⟩ := DataW.trod_int Tryd.underlying3 h1
  simp at e0 e1 e2 e3
  subst e0 e1 e2 e3
  exact ⟨six, hi, lo, l, rfl, rfl, rfl, w1, w2, w3⟩

theorem shutPrefix {six : Bool} {hi lo n : Int} (w1 : (Lit.int .u64 hi).wf = true) (w2 : (Lit.int .u64 lo).wf = true) (w3 : (Lit.int .i64 n).wf = true) :
    DataW.Trod enc Tryd.prog w base spare held 33 (.agg #[.bool six, .int .u64 hi, .int .u64 lo, .int .i64 n]) (.agg [.agg [.lit (.bool six), .lit (.int .u64 hi), .lit (.int .u64 lo)], .lit (.int .i64 n)]) [] := by
  obtain ⟨k, hk⟩ := shutAddr (enc := enc) (w := w) (base := base) (spare := spare) (held := held) (six := six) w1 w2
  exact ⟨k + 1 + 1, trod_struct2_mk (y0 := (.agg [.lit (.bool six), .lit (.int .u64 hi), .lit (.int .u64 lo)], [])) (y1 := (.lit (.int .i64 n), [])) Tryd.underlying33 (by rw [cellsPrefix]; rfl)
    (by simp only [cellsAddr, Value.cells, List.drop_zero, List.take, List.drop]; exact DataW.trod_le (Nat.le_succ k) hk)
    (by simp only [cellsInt, Value.cells, List.take, List.drop]; exact trod_int_mk k Tryd.underlying3 w3)⟩
end
/-- Two words are those of a number. -/
theorem asNum (hi lo : Int) (h0 : 0 ≤ hi) (h1 : hi ≤ 18446744073709551615) (l0 : 0 ≤ lo) (l1 : lo ≤ 18446744073709551615) : ∃ x : Nat, x < 2 ^ 128 ∧ hi = aH x ∧ lo = aL x :=
  ⟨numA hi lo, numA_lt hi lo h0 h1 l0 l1, (aH_numA hi lo h0 l0 l1).symm, (aL_numA hi lo h0 l0 l1).symm⟩
end Go.Proofs.YtifhakoeinalaaaDoor

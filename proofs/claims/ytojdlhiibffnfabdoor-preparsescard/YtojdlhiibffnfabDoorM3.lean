/-
  Texts that the proof rests on, laid together: RefPre, RefFault, RefPText, RefPParse, ShelfD, PParse, PParseAll, PParseEnd, RefPPAll, Shapes.
-/
import Derived.Shelf.Strings.Builder1
import Derived.Shelf.Strings.Builder2
import Derived.Shelf.Strings.OnBuilder
import Derived.Shelf.Utf8.RuneCount
import Derived.Shelf.Strconv.Atoi
import Derived.Shelf.Strconv.Itoa0
import Derived.Shelf.Strconv.Itoa1
import Derived.Shelf.LaysM
import Derived.Shelf.Strconv.Itoa2
import Derived.Shelf.Strconv.Itoa3
import Derived.Shelf.Strconv.AtoiErrFast
import Derived.Shelf.Strconv.ParseIntEmpty
import Derived.Shelf.Strconv.AtoiFail
import Derived.Shelf.Strconv.Clone
import Derived.Shelf.Strconv.SyntaxError
import Derived.Shelf.LaysC
import Derived.Shelf.Strconv.ToError
import Derived.Shelf.Strconv.Lower
import Derived.Shelf.Strconv.ParseUint10
import Derived.Shelf.Strconv.ParseUint10Empty
import Derived.Shelf.Strconv.ParseUint10Any
import Derived.Shelf.Strconv.ParseInt10
import Derived.Shelf.Strconv.AtoiLong
import Derived.Shelf.Strconv.AtoiInnerAll
import Derived.Shelf.Strconv.RangeError
import Derived.Shelf.Strconv.ToErrorRange
import Derived.Shelf.Strconv.AtoiAll
import Derived.Shelf.Strconv.ErrVarAll
import Derived.Shelf.Strconv.ParseUintEmpty
import Derived.Shelf.Strconv.ParseUint10b8
import Derived.Ground.MpProg
import Derived.Shelf.Pu.ParseUintPublic10
import Derived.Shelf.Pu.ErrVarParseUint
import Derived.Shelf.Strings.Search1
import Derived.Shelf.Strings.Search2
import Derived.Shelf.Strings.Search3
import Derived.Shelf.Strings.Cut
import Derived.Shelf.Strings.Count
import Derived.Shelf.Strings.Shaped
import Derived.Shelf.Strings.Split
import Derived.Shelf.Strings.SplitShaped
import Derived.Shelf.Unicode.Decode
import Derived.Shelf.Strings.RuneCount
import Derived.Shelf.Strings.Explode
import Derived.Shelf.Unicode.DecodeSlow
import Derived.Shelf.Unicode.DecodeAny
import Derived.Test.YtojdlhiibffnfabDoorProg
import Derived.Lib.AtoiErrMem
import Derived.WalkSmall
import Derived.Test.YtojdlhiibffnfabDoorM1
import Derived.Test.YtojdlhiibffnfabDoorM2

/-
  The document's bitsOf and addrOf, by the number of the address: bits in a block of memory.
-/
namespace Go.Proofs.YtojdlhiibffnfabDoor
open Go.RowKit
set_option linter.unusedVariables false
set_option linter.unusedSimpArgs false

/-- A bit as an int. -/
def bI (b : Bool) : Int := if b then 1 else 0
/-- The first bit of an address, the second one .. -/
def fB (six : Bool) (x j : Nat) : Bool := x.testBit (wideN six - 1 - j)
/-- Block g holds these W bits, and they may be written. -/
def BitsF (w : World) (g W : Nat) (f : Nat → Bool) : Prop := (∀ j, j < W → w.cell? ⟨g, j, none⟩ = some (.int .i64 (bI (f j)))) ∧ (∀ j, w.frozen? ⟨g, j, none⟩ = false) ∧ g < w.heap.size
theorem BitsF.keep {w w' : World} {g W : Nat} {f : Nat → Bool} (h : BitsF w g W f) (hb : Below w.heap.size w w') : BitsF w' g W f :=
  ⟨fun j hj => (hb.cell (p := ⟨g, j, none⟩) h.2.2).trans (h.1 j hj), fun j => (hb.frozen (p := ⟨g, j, none⟩) h.2.2).trans (h.2.1 j), Nat.lt_of_lt_of_le h.2.2 hb.size⟩
theorem BitsF.alloc {w : World} {g W : Nat} {f : Nat → Bool} (h : BitsF w g W f) (o : Obj) : BitsF (w.alloc o) g W f := h.keep ((Below.refl _ _).alloc (Nat.le_refl _) o)
theorem BitsF.drew {w : World} {g W : Nat} {f : Nat → Bool} (h : BitsF w g W f) : BitsF w.drew g W f := h.keep (Below.refl _ _).drew
theorem BitsF.congr {w : World} {g W : Nat} {f f' : Nat → Bool} (h : BitsF w g W f) (e : ∀ j, j < W → f j = f' j) : BitsF w g W f' :=
  ⟨fun j hj => by rw [← e j hj]; exact h.1 j hj, h.2⟩
theorem BitsF.far {w : World} {g W : Nat} {f : Nat → Bool} (h : BitsF w g W f) {p : Addr} (hp : g ≠ p.block) (u : Value) : BitsF (w.setCell p u) g W f := by
  have ne : ∀ o, p ≠ ⟨g, o, none⟩ := fun o e => hp (by rw [e])
  exact ⟨fun j hj => (World.cell?_setCell_other w p _ u (ne j)).trans (h.1 j hj), fun j => by rw [World.frozen?_setCell]; exact h.2.1 j, by simpa using h.2.2⟩
theorem BitsF.set {w : World} {g W : Nat} {f : Nat → Bool} (h : BitsF w g W f) (k : Nat) (hk : k < W) (v : Bool) : BitsF (w.setCell ⟨g, k, none⟩ (.int .i64 (bI v))) g W (fun j => if j = k then v else f j) := by
  refine ⟨fun j hj => ?_, fun j => by rw [World.frozen?_setCell]; exact h.2.1 j, by simpa using h.2.2⟩
  by_cases e : j = k
  · subst e
    simp only [if_true]
    exact World.cell?_setCell_same w _ _ (h.1 j hj)
  · simp only [if_neg e]
    rw [World.cell?_setCell_other w ⟨g, k, none⟩ ⟨g, j, none⟩ _ (fun h => e (Addr.mk.inj h).2.1.symm)]
    exact h.1 j hj

theorem bitW_test (x k : Nat) : bitW (x : Int) k = bI (x.testBit k) := by
  rw [bitW_nat, Nat.testBit_eq_decide_div_mod_eq]
  unfold bI
  by_cases h : x / 2 ^ k % 2 = 1
  · rw [decide_eq_true h, if_pos rfl, h]; rfl
  · have : x / 2 ^ k % 2 = 0 := by omega
    rw [decide_eq_false h, this]; rfl
theorem bitAt_num (six : Bool) (x j : Nat) (hj : j < wideN six) : bitAt six (aH x) (aL x) j = bI (fB six x j) := by
  unfold fB
  cases six
  · have hj' : j < 32 := hj
    show bitW (aL x) (31 - j) = bI (x.testBit (32 - 1 - j))
    unfold aL
    rw [bitW_test, show (18446744073709551616 : Nat) = 2 ^ 64 from rfl, Nat.testBit_mod_two_pow, decide_eq_true (show 31 - j < 64 by omega), Bool.true_and]
  · have hj' : j < 128 := hj
    show (if j < 64 then bitW (aH x) (63 - j) else bitW (aL x) (127 - j)) = bI (x.testBit (128 - 1 - j))
    by_cases h : j < 64
    · rw [if_pos h]
      unfold aH
      rw [bitW_test, show (18446744073709551616 : Nat) = 2 ^ 64 from rfl, Nat.testBit_div_two_pow, show 63 - j + 64 = 128 - 1 - j from by omega]
    · rw [if_neg h]
      unfold aL
      rw [bitW_test, show (18446744073709551616 : Nat) = 2 ^ 64 from rfl, Nat.testBit_mod_two_pow, decide_eq_true (show 127 - j < 64 by omega), Bool.true_and]
theorem owns_cap {w : World} {base g W cap : Nat} {e : TypeId} {xs : List Value} (h : w.ownsRow base e 1 (.slice (some ⟨g, 0, none⟩) W cap) W xs) : W ≤ cap ∧ cap ≤ maxLen := by
  rcases h.2 with ⟨h', _⟩ | ⟨g', cap', cur, h', _, _, hc, hm, _⟩
  · simp at h'
  · simp only [Value.slice.injEq, Option.some.injEq, Addr.mk.injEq, and_true, true_and] at h'
    obtain ⟨rfl, rfl⟩ := h'
    exact ⟨hc, hm⟩
theorem bits_of_owns {w : World} {base g W cap : Nat} {six : Bool} {x : Nat} (hW : wideN six = W) (h : w.ownsRow base 3 1 (.slice (some ⟨g, 0, none⟩) W cap) W ((bitsL six (aH x) (aL x)).map (Value.int .i64))) : BitsF w g (wideN six) (fB six x) := by
  refine ⟨fun j hj => ?_, fun j => h.frozenAt j, (h.lt g rfl).2⟩
  rw [h.cellAt j (by omega), List.getElem?_map, bitsL_get six _ _ j (by cases six <;> exact hj), bitAt_num six x j hj]; rfl
theorem bitsOf_num (six : Bool) (x : Nat) (hx : x < 2 ^ 128) (w : World) :
    Calls Tryd.prog 41 #[.agg #[.bool six, .int .u64 (aH x), .int .u64 (aL x)]] w fun e w' => ∃ g cap, e = .returned (.slice (some ⟨g, 0, none⟩) (wideN six) cap) ∧ BitsF w' g (wideN six) (fB six x) ∧ w.heap.size < g ∧ (wideN six ≤ cap ∧ cap ≤ maxLen) ∧ Below w.heap.size w w' := by
  cases six
  · refine (bitsOf_four' (aH x) (aL x) (aL_0 x) (aL_1 x) w).mono ?_
    rintro e w' ⟨g, cap, rfl, ho, hb⟩
    exact ⟨g, cap, rfl, bits_of_owns rfl ho, (ho.lt g rfl).1, owns_cap ho, hb⟩
  · refine (bitsOf_six' (aH x) (aL x) (aH_0 x) (aH_1 x hx) (aL_0 x) (aL_1 x) w).mono ?_
    rintro e w' ⟨g, cap, rfl, ho, hb⟩
    exact ⟨g, cap, rfl, bits_of_owns rfl ho, (ho.lt g rfl).1, owns_cap ho, hb⟩
/-- The bits of a number, as a list. -/
def bitsN (six : Bool) (x : Nat) : List Int := (List.range (wideN six)).map fun j => bI (fB six x j)
theorem bitsN_length (six : Bool) (x : Nat) : (bitsN six x).length = wideN six := by simp [bitsN]
theorem bitsN_get (six : Bool) (x j : Nat) (hj : j < wideN six) : (bitsN six x)[j]? = some (bI (fB six x j)) := by simp [bitsN, List.getElem?_range hj]
theorem bitsN_01 (six : Bool) (x : Nat) : ∀ b ∈ bitsN six x, b = 0 ∨ b = 1 := by
  intro b hb
  simp only [bitsN, List.mem_map] at hb
  obtain ⟨j, _, rfl⟩ := hb
  unfold bI; split <;> simp
theorem bitsN_eq (six : Bool) (x : Nat) : bitsN six x = bitsL six (aH x) (aL x) := by
  refine List.ext_getElem? fun j => ?_
  by_cases hj : j < wideN six
  · rw [bitsN_get six x j hj, bitsL_get six _ _ j (by cases six <;> exact hj), bitAt_num six x j hj]
  · rw [List.getElem?_eq_none (by rw [bitsN_length]; omega), List.getElem?_eq_none (by rw [bitsL_length]; cases six <;> simp_all [wideN] <;> omega)]
theorem BitsF.list {w : World} {g : Nat} {six : Bool} {x : Nat} (h : BitsF w g (wideN six) (fB six x)) : ∀ j u, (bitsN six x)[j]? = some u → w.cell? ⟨g, j, none⟩ = some (.int .i64 u) := by
  intro j u hj
  have hl := (List.getElem?_eq_some_iff.1 hj).1
  rw [bitsN_length] at hl
  rw [bitsN_get six x j hl] at hj
  rw [h.1 j hl, Option.some.inj hj]
theorem addrOf_bits (six : Bool) (x g cap : Nat) (hx : x < 2 ^ wideN six) (w : World) (h : BitsF w g (wideN six) (fB six x)) :
    Calls Tryd.prog 12 #[.slice (some ⟨g, 0, none⟩) (wideN six) cap] w fun e w' => e = .returned (.agg #[.bool six, .int .u64 (aH x), .int .u64 (aL x)]) ∧ Below w.heap.size w w' := by
  cases six
  · have hx' : x < 4294967296 := hx
    have c := addrOf_four (bitsN false x) (bitsN_length false x) (bitsN_01 false x) g cap w h.2.2 h.list
    have e1 : aH x = 0 := by unfold aH; omega
    have e2 : spell (bitsN false x) = aL x := by
      rw [bitsN_eq]
      exact spell_bits (aL x) 32 (aL_0 x) (by show aL x < 4294967296; unfold aL; omega)
    rw [e2] at c
    rw [e1]
    exact c
  · have hx' : x < 2 ^ 128 := hx
    have c := addrOf_six (bitsN true x) (bitsN_length true x) (bitsN_01 true x) g cap w h.2.2 h.list
    have e : bitsN true x = bitsTo (aH x) 64 64 ++ bitsTo (aL x) 64 64 := bitsN_eq true x
    have e1 : spell ((bitsN true x).take 64) = aH x := by
      rw [e, List.take_left' (bitsTo_length _ _ _)]
      exact spell_bits (aH x) 64 (aH_0 x) (by have := aH_1 x hx'; show aH x < 18446744073709551616; omega)
    have e2 : spell ((bitsN true x).drop 64) = aL x := by
      rw [e, List.drop_left' (bitsTo_length _ _ _)]
      exact spell_bits (aL x) 64 (aL_0 x) (by have := aL_1 x; show aL x < 18446744073709551616; omega)
    rw [e1, e2] at c
    exact c
theorem fB_low (six : Bool) (x n j : Nat) (hn : n ≤ wideN six) (hj : j < wideN six) : fB six (lowN x (wideN six - n)) j = (decide (j < n) && fB six x j) := by
  unfold fB; rw [lowN_testBit, show decide (wideN six - n ≤ wideN six - 1 - j) = decide (j < n) from decide_eq_decide.2 (by omega)]
theorem fB_top (six : Bool) (x n j : Nat) (hn : n ≤ wideN six) (hj : j < wideN six) : fB six (topN x (wideN six - n)) j = (decide (n ≤ j) || fB six x j) := by
  unfold fB; rw [topN_testBit, show decide (wideN six - 1 - j < wideN six - n) = decide (n ≤ j) from decide_eq_decide.2 (by omega)]
/-- Numbers with the same bits are the same. -/
theorem fB_ext (six : Bool) (x y : Nat) (hx : x < 2 ^ wideN six) (hy : y < 2 ^ wideN six) (h : ∀ j, j < wideN six → fB six x j = fB six y j) : x = y := by
  refine Nat.eq_of_testBit_eq fun i => ?_
  by_cases hi : i < wideN six
  · have := h (wideN six - 1 - i) (by omega)
    unfold fB at this
    rw [show wideN six - 1 - (wideN six - 1 - i) = i from by omega] at this
    exact this
  · rw [Nat.testBit_lt_two_pow (Nat.lt_of_lt_of_le hx (Nat.pow_le_pow_right (by omega) (by omega))), Nat.testBit_lt_two_pow (Nat.lt_of_lt_of_le hy (Nat.pow_le_pow_right (by omega) (by omega)))]
/-- The last bits are 0. -/
theorem lowBits_iff (six : Bool) (x n : Nat) (hx : x < 2 ^ wideN six) (hn : n ≤ wideN six) : lowN x (wideN six - n) = x ↔ ∀ j, n ≤ j → j < wideN six → fB six x j = false := by
  constructor
  · intro h j hj hl
    rw [← h, fB_low six x n j hn hl, decide_eq_false (by omega), Bool.false_and]
  · intro h
    refine fB_ext six _ _ (lowN_lt _ _ _ hx) hx fun j hj => ?_
    rw [fB_low six x n j hn hj]
    by_cases hl : j < n
    · simp [hl]
    · rw [h j (by omega) hj]; simp
/-- The first n bits are the same. -/
theorem same_bits (six : Bool) (x y n : Nat) (hx : x < 2 ^ wideN six) (hy : y < 2 ^ wideN six) (hn : n ≤ wideN six) : lowN y (wideN six - n) = lowN x (wideN six - n) ↔ ∀ j, j < n → fB six x j = fB six y j := by
  constructor
  · intro h j hj
    have := congrArg (fun z => fB six z j) h
    simp only [fB_low six _ n j hn (by omega), decide_eq_true hj, Bool.true_and] at this
    exact this.symm
  · intro h
    refine fB_ext six _ _ (lowN_lt _ _ _ hy) (lowN_lt _ _ _ hx) fun j hj => ?_
    rw [fB_low six y n j hn hj, fB_low six x n j hn hj]
    by_cases hl : j < n
    · rw [h j hl]
    · simp [hl]
end Go.Proofs.YtojdlhiibffnfabDoor

/-
  The contract of the document's PreFault.
-/
namespace Go.Proofs.YtojdlhiibffnfabDoor
open Go.RowKit
set_option linter.unusedVariables false
set_option linter.unusedSimpArgs false

/-- No bit from n on, among k. -/
def FaultUpto (six : Bool) (x n k : Nat) : Prop := ∀ j, n ≤ j → j < n + k → fB six x j = false
theorem refMay_num (six : Bool) (x : Nat) (hx : x < 2 ^ 128) (b : Bool) (hb : decide (x < 2 ^ wideN six) = b) (w : World) :
    Calls Tryd.prog 24 #[.agg #[.bool six, .int .u64 (aH x), .int .u64 (aL x)]] w fun e w' => e = .returned (.bool b) ∧ w.alloc (.cells #[.bool six, .int .u64 (aH x), .int .u64 (aL x)] 24) = w' := by
  rw [← hb, ← mayB_num six x hx]
  exact refMay_calls six _ _ (aH_0 x) (aL_0 x) w
set_option maxHeartbeats 400000 in
theorem refFault_form (six : Bool) (x : Nat) (n : Int) (hx : x < 2 ^ 128) (hv : ¬ x < 2 ^ wideN six) (w : World) :
    Calls Tryd.prog 31 #[.agg #[.bool six, .int .u64 (aH x), .int .u64 (aL x), .int .i64 n]] w fun e w' => e = .returned (.int .i64 4) ∧ Below w.heap.size w w' := by
  go_enter Tryd.func31, Tryd.ntmps31
  go_wp2_with fail
  refine (refMay_num six x hx false (decide_eq_false hv) _).mono ?_
  rintro e w1 ⟨rfl, rfl⟩
  go_wp2
  go_ret
  exact ⟨rfl, by go_grown⟩
set_option maxHeartbeats 400000 in
theorem refFault_out (six : Bool) (x : Nat) (n : Int) (hx : x < 2 ^ 128) (hv : x < 2 ^ wideN six) (hn : n < 0 ∨ (wideN six : Int) < n) (w : World) :
    Calls Tryd.prog 31 #[.agg #[.bool six, .int .u64 (aH x), .int .u64 (aL x), .int .i64 n]] w fun e w' => e = .returned (.int .i64 2) ∧ Below w.heap.size w w' := by
  go_enter Tryd.func31, Tryd.ntmps31
  go_wp2_with fail
  refine (refMay_num six x hx true (decide_eq_true hv) _).mono ?_
  rintro e w1 ⟨rfl, rfl⟩
  go_wp2_with fail
  refine (bitsOf_num six x hx _).mono ?_
  rintro e w1 ⟨g, cap, rfl, hB, hg, hc, hb⟩
  obtain ⟨p0, p1, p2, p3, pl⟩ := ((PreAt.new w six (aH x) (aL x) n 30).alloc _).keep hb
  have b1 := thenBelow (((Below.refl _ w).alloc (Nat.le_refl _) _).alloc (by simp) _) hb
  clear hb hB
  rcases hn with hn | hn
  · go_wp2
    go_ret
    exact ⟨rfl, b1⟩
  · have h0 : ¬ n < 0 := by omega
    go_wp2
    go_ret
    exact ⟨rfl, b1⟩
set_option maxHeartbeats 1000000 in
theorem refFault_in (six : Bool) (x n : Nat) (r : Int) (hx : x < 2 ^ 128) (hv : x < 2 ^ wideN six) (hn : n ≤ wideN six) (hr : (if lowN x (wideN six - n) = x then 0 else 5) = r) (w : World) :
    Calls Tryd.prog 31 #[.agg #[.bool six, .int .u64 (aH x), .int .u64 (aL x), .int .i64 n]] w fun e w' => e = .returned (.int .i64 r) ∧ Below w.heap.size w w' := by
  have hW := wideN_le six
  obtain ⟨W, hWe⟩ : ∃ W, wideN six = W := ⟨_, rfl⟩
  have LB := Lib.hid (lowBits_iff six x n hv hn)
  rw [hWe] at hn hW hr LB
  have HR := Lib.hid hr
  have HWE := Lib.hid hWe
  clear hr hWe
  go_enter Tryd.func31, Tryd.ntmps31
  go_wp2_with fail
  refine (refMay_num six x hx true (decide_eq_true hv) _).mono ?_
  rintro e w1 ⟨rfl, rfl⟩
  go_wp2_with fail
  refine (bitsOf_num six x hx _).mono ?_
  rw [HWE.out]
  rintro e w1 ⟨g, cap, rfl, hB, hg, hc, hb⟩
  obtain ⟨p0, p1, p2, p3, pl⟩ := ((PreAt.new w six (aH x) (aL x) n 30).alloc _).keep hb
  have b1 := thenBelow (((Below.refl _ w).alloc (Nat.le_refl _) _).alloc (by simp) _) hb
  have HB := Lib.hid hB
  obtain ⟨hc1, hc2⟩ := hc
  unfold maxLen at hc2
  clear hb hB hg
  by_cases hcap : n < cap
  · have hne : cap ≠ n := by omega
    have hwn := Lib.hid (show W - n ≤ 128 by omega)
    go_wp2
    go_loop [28] (fun i => ∃ k : Nat, k ≤ W - n ∧ i = .int .i64 k ∧ FaultUpto six x n k) (fun i => W - n - (intOf i).toNat)
    case atStart => exact ⟨0, Nat.zero_le _, rfl, fun j h1 h2 => by omega⟩
    case round =>
      obtain ⟨k, hk, rfl, hrel⟩ := hrel
      have HREL := Lib.hid hrel
      clear hrel
      by_cases hlt : k < W - n
      · have hcell := HB.out.1 (n + k) (by omega)
        cases hf : fB six x (n + k)
        · rw [hf] at hcell
          have hcell' : w1.cell? ⟨g, n + k, none⟩ = some (.int .i64 0) := hcell
          have HF := Lib.hid hf
          clear hcell hf
          go_wp2
          go_round
          case rel => exact ⟨k + 1, by omega, by go_num, fun j h1 h2 => by
            by_cases e : j = n + k
            · rw [e]; exact HF.out
            · exact HREL.out j h1 (by omega)⟩
          case measure => simp [intOf]; omega
        · rw [hf] at hcell
          have hcell' : w1.cell? ⟨g, n + k, none⟩ = some (.int .i64 1) := hcell
          have e5 : r = 5 := by
            rw [← HR.out, if_neg]
            intro hl
            have := LB.out.1 hl (n + k) (by omega) (by omega)
            rw [hf] at this; cases this
          clear hcell hf
          subst e5
          go_wp2
          go_ret
          exact ⟨rfl, b1⟩
      · obtain rfl : k = W - n := by omega
        have e0 : r = 0 := by
          rw [← HR.out, if_pos (LB.out.2 fun j h1 h2 => HREL.out j h1 (by omega))]
        subst e0
        go_wp2
        go_ret
        exact ⟨rfl, b1⟩
  · have e1 : cap = n := by omega
    have e2 : W = n := by omega
    have e0 : r = 0 := by
      rw [← HR.out, if_pos (LB.out.2 fun j h1 h2 => by omega)]
    subst e0
    subst e1
    subst e2
    clear hcap
    go_wp2
    go_loop [28] (fun i => i = .int .i64 0) (fun i => 0)
    case atStart => rfl
    case round =>
      subst hrel
      go_wp2
      go_ret
      exact ⟨rfl, b1⟩
theorem refFault_calls (six : Bool) (x : Nat) (n : Int) (hx : x < 2 ^ 128) (w : World) :
    Calls Tryd.prog 31 #[.agg #[.bool six, .int .u64 (aH x), .int .u64 (aL x), .int .i64 n]] w fun e w' => e = .returned (.int .i64 (chkE six x n)) ∧ Below w.heap.size w w' := by
  by_cases hv : x < 2 ^ wideN six
  · by_cases hn : 0 ≤ n ∧ n ≤ wideN six
    · obtain ⟨k, rfl⟩ := Int.eq_ofNat_of_zero_le hn.1
      exact refFault_in six x k _ hx hv (by omega) (by unfold chkE; rw [if_pos hv, if_pos hn]; rfl) w
    · rw [show chkE six x n = 2 from by unfold chkE; rw [if_pos hv, if_neg hn]]
      exact refFault_out six x n hx hv (by omega) w
  · rw [show chkE six x n = 4 from by unfold chkE; rw [if_neg hv]]
    exact refFault_form six x n hx hv w
end Go.Proofs.YtojdlhiibffnfabDoor

/-
  Contracts of the document's PreText.
-/
namespace Go.Proofs.YtojdlhiibffnfabDoor
open Go.RowKit Go.Sort
set_option linter.unusedVariables false
set_option linter.unusedSimpArgs false

set_option maxHeartbeats 400000 in
theorem refPText_err (six : Bool) (x : Nat) (n e0 : Int) (hx : x < 2 ^ 128) (hc : chkE six x n = e0) (he : (e0 == 0) = false) (w : World) :
    Calls Tryd.prog 17 #[.agg #[.bool six, .int .u64 (aH x), .int .u64 (aL x), .int .i64 n]] w fun e w' => e = .returned (.tuple #[.string ⟨#[]⟩, .int .i64 e0]) ∧ Below w.heap.size w w' := by
  have C := Lib.hid hc
  clear hc
  go_enter Tryd.func17, Tryd.ntmps17
  go_wp2_with fail
  refine (refFault_calls six x n hx _).mono ?_
  rw [C.out]
  rintro e w1 ⟨rfl, hb1⟩
  have b1 := thenBelow ((Below.refl _ w).alloc (Nat.le_refl _) _) hb1
  clear hb1
  go_wp2
  go_ret2
  exact ⟨rfl, b1⟩
set_option maxHeartbeats 1000000 in
theorem refPText_ok (six : Bool) (x n : Nat) (hx : x < 2 ^ wideN six) (hn : n ≤ wideN six) (hc : chkE six x n = 0) (w : World) :
    Calls Tryd.prog 17 #[.agg #[.bool six, .int .u64 (aH x), .int .u64 (aL x), .int .i64 n]] w fun e w' => e = .returned (.tuple #[.string ⟨(preT six x n).toArray⟩, .int .i64 0]) ∧ Below w.heap.size w w' := by
  have hW := wideN_le six
  have hx' := lt128 hx
  have T1 := Lib.hid (fun (W : World) => refText_calls six (x / 18446744073709551616) (x % 18446744073709551616) (by omega) (by omega) W)
  rw [textE0 six x hx] at T1
  have I1 := Lib.hid (fun (W : World) => numberText_calls 10 (.inl rfl) 3 n (by omega) (by omega) (by omega) (by omega) W)
  have C := Lib.hid hc
  have hdef : preT six x n = textL six (x / 18446744073709551616) (x % 18446744073709551616) ++ [47] ++ numText 10 3 n := rfl
  have HD := Lib.hid hdef
  clear hc hdef
  have lT := textL_le six (x / 18446744073709551616) (x % 18446744073709551616)
  have lN := numText_le 10 3 n
  generalize textL six (x / 18446744073709551616) (x % 18446744073709551616) = T at *
  generalize numText 10 3 n = N at *
  generalize preT six x n = R at *
  go_enter Tryd.func17, Tryd.ntmps17
  go_wp2_with fail
  refine (refFault_calls six x n hx' _).mono ?_
  rw [C.out]
  rintro e w1 ⟨rfl, hb1⟩
  have b1 := thenBelow ((Below.refl _ w).alloc (Nat.le_refl _) _) hb1
  have P1 := (PreAt.new w six (aH x) (aL x) n 30).keep hb1
  have HP1 := Lib.hid P1
  obtain ⟨p0, p1, p2, p3, pl⟩ := P1
  clear hb1
  go_wp2_with fail
  refine (T1.out _).mono ?_
  rintro e w2 ⟨rfl, hb2⟩
  have b2 := thenBelow b1 hb2
  clear p0 p1 p2 p3 pl
  obtain ⟨p0, p1, p2, p3, pl⟩ := HP1.out.keep hb2
  clear hb2 b1 HP1
  go_wp2_with fail
  refine (I1.out _).mono ?_
  rintro e w3 ⟨rfl, rfl⟩
  go_wp2
  go_ret2
  refine ⟨?_, b2⟩
  rw [HD.out, ← cat3]
  rfl
end Go.Proofs.YtojdlhiibffnfabDoor

/-
  The document's PreParse, way by way.
-/
namespace Go.Proofs.YtojdlhiibffnfabDoor
open Go.RowKit Go.Sort
set_option linter.unusedVariables false
set_option linter.unusedSimpArgs false

theorem byte_ne47 {x : UInt8} (h : x ≠ 47) : ((x.toNat : Int) == 47) = false ∧ ((x.toNat : Int) != 47) = true ∧ ¬ (x.toNat : Int) = 47 := by
  have : ¬ (x.toNat : Int) = 47 := fun e => h (UInt8.toNat_inj.1 (show x.toNat = 47 by omega))
  simp [this]
/-- A reading: whether it is one, and then its numbers. -/
theorem nums_len (s : List UInt8) (hl : s.length ≤ 600) (w : World) :
    Calls Tryd.prog 14 #[.string ⟨s.toArray⟩, .int .u8 47, .int .i64 10, .int .i64 128] w fun e w' => (∃ v, e = .returned (.tuple #[v, .bool (rn 10 128 47 [] (-1) s).isSome]) ∧ w'.ownsRow w.heap.size 3 1 v ((rn 10 128 47 [] (-1) s).getD []).length (((rn 10 128 47 [] (-1) s).getD []).map (Value.int .i64))) ∧ Below w.heap.size w w' := by
  refine (refNums_calls 10 128 (by decide) (by decide) (by decide) (by decide) 47 s hl w).mono ?_
  rintro e w' ⟨ho, hb⟩
  refine ⟨?_, hb⟩
  cases hr : rn 10 128 47 [] (-1) s with
  | none => rw [hr] at ho; exact ⟨_, ho, World.ownsRow_nil _ _ _ _⟩
  | some ns => rw [hr] at ho; exact ho
def pErr : Value := .tuple #[.agg #[.bool false, .int .u64 0, .int .u64 0, .int .i64 0], .int .i64 4]
theorem pd_long (s : List UInt8) (hl : 600 < s.length) (hm : s.length ≤ 9223372036854775807) (w : World) :
    Calls Tryd.prog 8 #[.string ⟨s.toArray⟩] w fun e w' => e = .returned (.tuple #[.agg #[.bool false, .int .u64 0, .int .u64 0, .int .i64 0], .int .i64 1]) ∧ Below w.heap.size w w' := by
  have hsz : (⟨s.toArray⟩ : ByteArray).size = s.length := by simp [ByteArray.size]
  have hli : 600 < (s.length : Int) := by omega
  go_enter Tryd.func8, Tryd.ntmps8
  go_wp2
  go_returns
  exact ⟨rfl, by go_grown⟩
set_option maxHeartbeats 4000000 in
set_option maxRecDepth 100000 in
theorem pd_none (s : List UInt8) (hl : s.length ≤ 600) (hno : ∀ k (h : k < s.length), s[k] ≠ 47) (w : World) :
    Calls Tryd.prog 8 #[.string ⟨s.toArray⟩] w fun e w' => e = .returned pErr ∧ Below w.heap.size w w' := by
  have hsz : (⟨s.toArray⟩ : ByteArray).size = s.length := by simp [ByteArray.size]
  have hli : ¬ 600 < (s.length : Int) := by omega
  have NO := Lib.hid hno
  have HR := Lib.hid (PreV.new w false 0 0 0 30)
  have b0 : Below w.heap.size w (w.alloc (.cells #[.bool false, .int .u64 0, .int .u64 0, .int .i64 0] 30)) := (Below.refl _ w).alloc (Nat.le_refl _) _
  clear hno
  go_enter Tryd.func8, Tryd.ntmps8
  go_wp2
  go_loopw [4] (fun iv wr => ∃ k : Nat, k ≤ s.length ∧ iv = .int .i64 k ∧ wr = w.alloc (.cells #[.bool false, .int .u64 0, .int .u64 0, .int .i64 0] 30)) (fun iv _ => s.length - (intOf iv).toNat)
  case atStart => exact ⟨0, by omega, rfl, by first | rfl | trivial⟩
  case round =>
    obtain ⟨k, hk, rfl, rfl⟩ := hrel
    by_cases hlt : k < s.length
    · have hx := index_list s k (by omega)
      have hn := NO.out k (by omega)
      generalize s[k]'(by omega) = x at hx hn
      obtain ⟨x0, x1, x2⟩ := byte_ne47 hn
      clear hn
      go_wp2_with fail
      go_roundw
      case rel => exact ⟨k + 1, by omega, by go_num, by first | rfl | trivial⟩
      case measure => simp [intOf]; omega
    · have HRX := HR
      obtain ⟨⟨r0, r1, r2, r3, rl⟩, rf⟩ := HRX.out
      have f0 := rf 0; have f1 := rf 1; have f2 := rf 2; have f3 := rf 3
      clear rf HRX
      go_wp2
      try simp only [Exit.inBlock, Exit.then]
      refine bodyPost_ret (v := .tuple #[.agg #[.bool false, .int .u64 0, .int .u64 0, .int .i64 0], .int .i64 4]) (by simp [results, Tryd.results8, go_sem, r0, r1, r2, r3]) rfl ?_
      exact ⟨rfl, by first | exact (((b0.setCell (by simp) _).setCell (by simp) _).setCell (by simp) _).setCell (by simp) _ | exact b0 | go_grown⟩
set_option maxHeartbeats 4000000 in
set_option maxRecDepth 100000 in
theorem pd_noaddr (s : List UInt8) (hl : s.length ≤ 600) (F : Nat) (hF : F < s.length) (e0 : s[F] = 47) (hno : ∀ k (h : k < s.length), k < F → s[k] ≠ 47) (sx : Bool) (H L : Int) (E : Int) (KA : Hid (∀ W : World, Calls Tryd.prog 6 #[.string ⟨(s.take F).toArray⟩] W fun e w' => e = .returned (.tuple #[.agg #[.bool sx, .int .u64 H, .int .u64 L], .int .i64 E]) ∧ Below W.heap.size W w')) (hE : (E == 0) = false) (w : World) :
    Calls Tryd.prog 8 #[.string ⟨s.toArray⟩] w fun e w' => e = .returned pErr ∧ Below w.heap.size w w' := by
  have hsz : (⟨s.toArray⟩ : ByteArray).size = s.length := by simp [ByteArray.size]
  have hli : ¬ 600 < (s.length : Int) := by omega
  have NO := Lib.hid hno
  have HR := Lib.hid (PreV.new w false 0 0 0 30)
  have b0 : Below w.heap.size w (w.alloc (.cells #[.bool false, .int .u64 0, .int .u64 0, .int .i64 0] 30)) := (Below.refl _ w).alloc (Nat.le_refl _) _
  clear hno
  have hx := index_list s F hF
  rw [e0] at hx
  replace hx : ∀ W, (Instr.index 9 (.string ⟨s.toArray⟩) (.int .i64 (F : Int))).run Tryd.prog W = .ok (.int .u8 47) W := hx
  have HX := Lib.hid hx
  have EXT := Lib.hid (ext_to s F)
  have EXF := Lib.hid (ext_from s (F + 1))
  have KN := Lib.hid (fun W : World => nums_len (s.drop (F + 1)) (by rw [List.length_drop]; omega) W)
  clear hx e0
  have hE2 : (E != 0) = true := by simp [bne, hE]
  have hE3 : ¬ E = 0 := by simpa using hE
  go_enter Tryd.func8, Tryd.ntmps8
  go_wp2
  go_loopw [4] (fun iv wr => ∃ k : Nat, k ≤ F ∧ iv = .int .i64 k ∧ wr = w.alloc (.cells #[.bool false, .int .u64 0, .int .u64 0, .int .i64 0] 30)) (fun iv _ => s.length - (intOf iv).toNat)
  case atStart => exact ⟨0, by omega, rfl, by first | rfl | trivial⟩
  case round =>
    obtain ⟨k, hk, rfl, rfl⟩ := hrel
    by_cases hlt : k < F
    · have hx := index_list s k (by omega)
      have hn := NO.out k (by omega) hlt
      generalize s[k]'(by omega) = x at hx hn
      obtain ⟨x0, x1, x2⟩ := byte_ne47 hn
      clear hn
      go_wp2_with fail
      go_roundw
      case rel => exact ⟨k + 1, by omega, by go_num, by first | rfl | trivial⟩
      case measure => simp [intOf]; omega
    · obtain rfl : k = F := by omega
      have hx := HX.out
      have hF1 : (k : Int) < (s.length : Int) := by omega
      have hF2 : (k : Int) ≤ (s.length : Int) := by omega
      have hF3 : (k : Int) + 1 ≤ (s.length : Int) := by omega
      have hF4 : ((k : Int) + 1).toNat = k + 1 := by omega
      clear HX NO hlt hk
      go_wp2_with fail
      rw [EXT.out]
      refine (KA.out _).mono ?_
      rintro e w1 ⟨rfl, hb1⟩
      have b1 := thenBelow b0 hb1
      have HR1 := Lib.hid (HR.out.keep hb1)
      clear hb1 b0 HR KA
      go_wp2_with fail
      first | rw [EXF.out] | rw [hF4, hsz, EXF.out] | rw [hsz, EXF.out] | rw [hF4, EXF.out]
      refine (KN.out _).mono ?_
      rintro e w2 ⟨⟨v, rfl, ov⟩, hb2⟩
      have HA := (AddrAt.new w1 sx H L 24).keep hb2
      have b2 := thenBelow (thenBelow b1 ((Below.refl _ w1).alloc (Nat.le_refl _) (.cells #[.bool sx, .int .u64 H, .int .u64 L] 24))) hb2
      have HRX := Lib.hid ((HR1.out.alloc (.cells #[.bool sx, .int .u64 H, .int .u64 L] 24)).keep hb2)
      have hw21 : w1.heap.size ≤ w2.heap.size := by have := hb2.size; simp at this; omega
      have hw1 := b1.size
      clear hb2 b1 HR1 KN EXT EXF
      obtain ⟨p, c, rfl⟩ := owns_slice ov
      clear HA
      obtain ⟨⟨r0, r1, r2, r3, rl⟩, rf⟩ := HRX.out
      have f0 := rf 0; have f1 := rf 1; have f2 := rf 2; have f3 := rf 3
      clear rf HRX
      go_wp2
      try simp only [Exit.inBlock, Exit.then]
      refine bodyPost_ret (v := .tuple #[.agg #[.bool false, .int .u64 0, .int .u64 0, .int .i64 0], .int .i64 4]) (by simp [results, Tryd.results8, go_sem, r0, r1, r2, r3]) rfl ?_
      exact ⟨rfl, by first | exact (((b2.setCell (by simp) _).setCell (by simp) _).setCell (by simp) _).setCell (by simp) _ | exact b2 | go_grown⟩
set_option maxHeartbeats 4000000 in
set_option maxRecDepth 100000 in
theorem pd_nonum (s : List UInt8) (hl : s.length ≤ 600) (F : Nat) (hF : F < s.length) (e0 : s[F] = 47) (hno : ∀ k (h : k < s.length), k < F → s[k] ≠ 47) (sx : Bool) (H L : Int) (KA : Hid (∀ W : World, Calls Tryd.prog 6 #[.string ⟨(s.take F).toArray⟩] W fun e w' => e = .returned (.tuple #[.agg #[.bool sx, .int .u64 H, .int .u64 L], .int .i64 0]) ∧ Below W.heap.size W w')) (hn : (rn 10 128 47 [] (-1) (s.drop (F + 1))).isSome = false) (w : World) :
    Calls Tryd.prog 8 #[.string ⟨s.toArray⟩] w fun e w' => e = .returned pErr ∧ Below w.heap.size w w' := by
  have hsz : (⟨s.toArray⟩ : ByteArray).size = s.length := by simp [ByteArray.size]
  have hli : ¬ 600 < (s.length : Int) := by omega
  have NO := Lib.hid hno
  have HR := Lib.hid (PreV.new w false 0 0 0 30)
  have b0 : Below w.heap.size w (w.alloc (.cells #[.bool false, .int .u64 0, .int .u64 0, .int .i64 0] 30)) := (Below.refl _ w).alloc (Nat.le_refl _) _
  clear hno
  have hx := index_list s F hF
  rw [e0] at hx
  replace hx : ∀ W, (Instr.index 9 (.string ⟨s.toArray⟩) (.int .i64 (F : Int))).run Tryd.prog W = .ok (.int .u8 47) W := hx
  have HX := Lib.hid hx
  have EXT := Lib.hid (ext_to s F)
  have EXF := Lib.hid (ext_from s (F + 1))
  have KN := Lib.hid (fun W : World => nums_len (s.drop (F + 1)) (by rw [List.length_drop]; omega) W)
  clear hx e0
  rw [hn] at KN
  clear hn
  go_enter Tryd.func8, Tryd.ntmps8
  go_wp2
  go_loopw [4] (fun iv wr => ∃ k : Nat, k ≤ F ∧ iv = .int .i64 k ∧ wr = w.alloc (.cells #[.bool false, .int .u64 0, .int .u64 0, .int .i64 0] 30)) (fun iv _ => s.length - (intOf iv).toNat)
  case atStart => exact ⟨0, by omega, rfl, by first | rfl | trivial⟩
  case round =>
    obtain ⟨k, hk, rfl, rfl⟩ := hrel
    by_cases hlt : k < F
    · have hx := index_list s k (by omega)
      have hn := NO.out k (by omega) hlt
      generalize s[k]'(by omega) = x at hx hn
      obtain ⟨x0, x1, x2⟩ := byte_ne47 hn
      clear hn
      go_wp2_with fail
      go_roundw
      case rel => exact ⟨k + 1, by omega, by go_num, by first | rfl | trivial⟩
      case measure => simp [intOf]; omega
    · obtain rfl : k = F := by omega
      have hx := HX.out
      have hF1 : (k : Int) < (s.length : Int) := by omega
      have hF2 : (k : Int) ≤ (s.length : Int) := by omega
      have hF3 : (k : Int) + 1 ≤ (s.length : Int) := by omega
      have hF4 : ((k : Int) + 1).toNat = k + 1 := by omega
      clear HX NO hlt hk
      go_wp2_with fail
      rw [EXT.out]
      refine (KA.out _).mono ?_
      rintro e w1 ⟨rfl, hb1⟩
      have b1 := thenBelow b0 hb1
      have HR1 := Lib.hid (HR.out.keep hb1)
      clear hb1 b0 HR KA
      go_wp2_with fail
      first | rw [EXF.out] | rw [hF4, hsz, EXF.out] | rw [hsz, EXF.out] | rw [hF4, EXF.out]
      refine (KN.out _).mono ?_
      rintro e w2 ⟨⟨v, rfl, ov⟩, hb2⟩
      have HA := (AddrAt.new w1 sx H L 24).keep hb2
      have b2 := thenBelow (thenBelow b1 ((Below.refl _ w1).alloc (Nat.le_refl _) (.cells #[.bool sx, .int .u64 H, .int .u64 L] 24))) hb2
      have HRX := Lib.hid ((HR1.out.alloc (.cells #[.bool sx, .int .u64 H, .int .u64 L] 24)).keep hb2)
      have hw21 : w1.heap.size ≤ w2.heap.size := by have := hb2.size; simp at this; omega
      have hw1 := b1.size
      clear hb2 b1 HR1 KN EXT EXF
      obtain ⟨p, c, rfl⟩ := owns_slice ov
      clear HA
      obtain ⟨⟨r0, r1, r2, r3, rl⟩, rf⟩ := HRX.out
      have f0 := rf 0; have f1 := rf 1; have f2 := rf 2; have f3 := rf 3
      clear rf HRX
      go_wp2
      try simp only [Exit.inBlock, Exit.then]
      refine bodyPost_ret (v := .tuple #[.agg #[.bool false, .int .u64 0, .int .u64 0, .int .i64 0], .int .i64 4]) (by simp [results, Tryd.results8, go_sem, r0, r1, r2, r3]) rfl ?_
      exact ⟨rfl, by first | exact (((b2.setCell (by simp) _).setCell (by simp) _).setCell (by simp) _).setCell (by simp) _ | exact b2 | go_grown⟩
set_option maxHeartbeats 4000000 in
set_option maxRecDepth 100000 in
theorem pd_len (s : List UInt8) (hl : s.length ≤ 600) (F : Nat) (hF : F < s.length) (e0 : s[F] = 47) (hno : ∀ k (h : k < s.length), k < F → s[k] ≠ 47) (sx : Bool) (H L : Int) (KA : Hid (∀ W : World, Calls Tryd.prog 6 #[.string ⟨(s.take F).toArray⟩] W fun e w' => e = .returned (.tuple #[.agg #[.bool sx, .int .u64 H, .int .u64 L], .int .i64 0]) ∧ Below W.heap.size W w')) (ns : List Int) (hn : rn 10 128 47 [] (-1) (s.drop (F + 1)) = some ns) (hl1 : ns.length ≠ 1) (w : World) :
    Calls Tryd.prog 8 #[.string ⟨s.toArray⟩] w fun e w' => e = .returned pErr ∧ Below w.heap.size w w' := by
  have hsz : (⟨s.toArray⟩ : ByteArray).size = s.length := by simp [ByteArray.size]
  have hli : ¬ 600 < (s.length : Int) := by omega
  have NO := Lib.hid hno
  have HR := Lib.hid (PreV.new w false 0 0 0 30)
  have b0 : Below w.heap.size w (w.alloc (.cells #[.bool false, .int .u64 0, .int .u64 0, .int .i64 0] 30)) := (Below.refl _ w).alloc (Nat.le_refl _) _
  clear hno
  have hx := index_list s F hF
  rw [e0] at hx
  replace hx : ∀ W, (Instr.index 9 (.string ⟨s.toArray⟩) (.int .i64 (F : Int))).run Tryd.prog W = .ok (.int .u8 47) W := hx
  have HX := Lib.hid hx
  have EXT := Lib.hid (ext_to s F)
  have EXF := Lib.hid (ext_from s (F + 1))
  have KN := Lib.hid (fun W : World => nums_len (s.drop (F + 1)) (by rw [List.length_drop]; omega) W)
  clear hx e0
  rw [hn] at KN
  simp only [Option.isSome_some, Option.getD_some] at KN
  clear hn
  have hl2 : ¬ (ns.length : Int) = 1 := by omega
  have hl3 : ((ns.length : Int) == 1) = false := by simpa using hl2
  have hl4 : ((ns.length : Int) != 1) = true := by simp [bne, hl3]
  go_enter Tryd.func8, Tryd.ntmps8
  go_wp2
  go_loopw [4] (fun iv wr => ∃ k : Nat, k ≤ F ∧ iv = .int .i64 k ∧ wr = w.alloc (.cells #[.bool false, .int .u64 0, .int .u64 0, .int .i64 0] 30)) (fun iv _ => s.length - (intOf iv).toNat)
  case atStart => exact ⟨0, by omega, rfl, by first | rfl | trivial⟩
  case round =>
    obtain ⟨k, hk, rfl, rfl⟩ := hrel
    by_cases hlt : k < F
    · have hx := index_list s k (by omega)
      have hn := NO.out k (by omega) hlt
      generalize s[k]'(by omega) = x at hx hn
      obtain ⟨x0, x1, x2⟩ := byte_ne47 hn
      clear hn
      go_wp2_with fail
      go_roundw
      case rel => exact ⟨k + 1, by omega, by go_num, by first | rfl | trivial⟩
      case measure => simp [intOf]; omega
    · obtain rfl : k = F := by omega
      have hx := HX.out
      have hF1 : (k : Int) < (s.length : Int) := by omega
      have hF2 : (k : Int) ≤ (s.length : Int) := by omega
      have hF3 : (k : Int) + 1 ≤ (s.length : Int) := by omega
      have hF4 : ((k : Int) + 1).toNat = k + 1 := by omega
      clear HX NO hlt hk
      go_wp2_with fail
      rw [EXT.out]
      refine (KA.out _).mono ?_
      rintro e w1 ⟨rfl, hb1⟩
      have b1 := thenBelow b0 hb1
      have HR1 := Lib.hid (HR.out.keep hb1)
      clear hb1 b0 HR KA
      go_wp2_with fail
      first | rw [EXF.out] | rw [hF4, hsz, EXF.out] | rw [hsz, EXF.out] | rw [hF4, EXF.out]
      refine (KN.out _).mono ?_
      rintro e w2 ⟨⟨v, rfl, ov⟩, hb2⟩
      have HA := (AddrAt.new w1 sx H L 24).keep hb2
      have b2 := thenBelow (thenBelow b1 ((Below.refl _ w1).alloc (Nat.le_refl _) (.cells #[.bool sx, .int .u64 H, .int .u64 L] 24))) hb2
      have HRX := Lib.hid ((HR1.out.alloc (.cells #[.bool sx, .int .u64 H, .int .u64 L] 24)).keep hb2)
      have hw21 : w1.heap.size ≤ w2.heap.size := by have := hb2.size; simp at this; omega
      have hw1 := b1.size
      clear hb2 b1 HR1 KN EXT EXF
      obtain ⟨p, c, rfl⟩ := owns_slice ov
      clear HA
      obtain ⟨⟨r0, r1, r2, r3, rl⟩, rf⟩ := HRX.out
      have f0 := rf 0; have f1 := rf 1; have f2 := rf 2; have f3 := rf 3
      clear rf HRX
      go_wp2
      try simp only [Exit.inBlock, Exit.then]
      refine bodyPost_ret (v := .tuple #[.agg #[.bool false, .int .u64 0, .int .u64 0, .int .i64 0], .int .i64 4]) (by simp [results, Tryd.results8, go_sem, r0, r1, r2, r3]) rfl ?_
      exact ⟨rfl, by first | exact (((b2.setCell (by simp) _).setCell (by simp) _).setCell (by simp) _).setCell (by simp) _ | exact b2 | go_grown⟩
set_option maxHeartbeats 4000000 in
set_option maxRecDepth 100000 in
theorem pd_err (s : List UInt8) (hl : s.length ≤ 600) (F : Nat) (hF : F < s.length) (e0 : s[F] = 47) (hno : ∀ k (h : k < s.length), k < F → s[k] ≠ 47) (sx : Bool) (H L : Int) (KA : Hid (∀ W : World, Calls Tryd.prog 6 #[.string ⟨(s.take F).toArray⟩] W fun e w' => e = .returned (.tuple #[.agg #[.bool sx, .int .u64 H, .int .u64 L], .int .i64 0]) ∧ Below W.heap.size W w')) (n : Int) (hn : rn 10 128 47 [] (-1) (s.drop (F + 1)) = some [n]) (T : List UInt8) (E : Int) (KT : Hid (∀ W : World, Calls Tryd.prog 17 #[.agg #[.bool sx, .int .u64 H, .int .u64 L, .int .i64 n]] W fun e w' => e = .returned (.tuple #[.string ⟨T.toArray⟩, .int .i64 E]) ∧ Below W.heap.size W w')) (hE : (E == 0) = false) (w : World) :
    Calls Tryd.prog 8 #[.string ⟨s.toArray⟩] w fun e w' => e = .returned pErr ∧ Below w.heap.size w w' := by
  have hsz : (⟨s.toArray⟩ : ByteArray).size = s.length := by simp [ByteArray.size]
  have hli : ¬ 600 < (s.length : Int) := by omega
  have NO := Lib.hid hno
  have HR := Lib.hid (PreV.new w false 0 0 0 30)
  have b0 : Below w.heap.size w (w.alloc (.cells #[.bool false, .int .u64 0, .int .u64 0, .int .i64 0] 30)) := (Below.refl _ w).alloc (Nat.le_refl _) _
  clear hno
  have hx := index_list s F hF
  rw [e0] at hx
  replace hx : ∀ W, (Instr.index 9 (.string ⟨s.toArray⟩) (.int .i64 (F : Int))).run Tryd.prog W = .ok (.int .u8 47) W := hx
  have HX := Lib.hid hx
  have EXT := Lib.hid (ext_to s F)
  have EXF := Lib.hid (ext_from s (F + 1))
  have KN := Lib.hid (fun W : World => nums_len (s.drop (F + 1)) (by rw [List.length_drop]; omega) W)
  clear hx e0
  rw [hn] at KN
  simp only [Option.isSome_some, Option.getD_some] at KN
  clear hn
  have hE2 : (E != 0) = true := by simp [bne, hE]
  have hE3 : ¬ E = 0 := by simpa using hE
  go_enter Tryd.func8, Tryd.ntmps8
  go_wp2
  go_loopw [4] (fun iv wr => ∃ k : Nat, k ≤ F ∧ iv = .int .i64 k ∧ wr = w.alloc (.cells #[.bool false, .int .u64 0, .int .u64 0, .int .i64 0] 30)) (fun iv _ => s.length - (intOf iv).toNat)
  case atStart => exact ⟨0, by omega, rfl, by first | rfl | trivial⟩
  case round =>
    obtain ⟨k, hk, rfl, rfl⟩ := hrel
    by_cases hlt : k < F
    · have hx := index_list s k (by omega)
      have hn := NO.out k (by omega) hlt
      generalize s[k]'(by omega) = x at hx hn
      obtain ⟨x0, x1, x2⟩ := byte_ne47 hn
      clear hn
      go_wp2_with fail
      go_roundw
      case rel => exact ⟨k + 1, by omega, by go_num, by first | rfl | trivial⟩
      case measure => simp [intOf]; omega
    · obtain rfl : k = F := by omega
      have hx := HX.out
      have hF1 : (k : Int) < (s.length : Int) := by omega
      have hF2 : (k : Int) ≤ (s.length : Int) := by omega
      have hF3 : (k : Int) + 1 ≤ (s.length : Int) := by omega
      have hF4 : ((k : Int) + 1).toNat = k + 1 := by omega
      clear HX NO hlt hk
      go_wp2_with fail
      rw [EXT.out]
      refine (KA.out _).mono ?_
      rintro e w1 ⟨rfl, hb1⟩
      have b1 := thenBelow b0 hb1
      have HR1 := Lib.hid (HR.out.keep hb1)
      clear hb1 b0 HR KA
      go_wp2_with fail
      first | rw [EXF.out] | rw [hF4, hsz, EXF.out] | rw [hsz, EXF.out] | rw [hF4, EXF.out]
      refine (KN.out _).mono ?_
      rintro e w2 ⟨⟨v, rfl, ov⟩, hb2⟩
      have HA := (AddrAt.new w1 sx H L 24).keep hb2
      have b2 := thenBelow (thenBelow b1 ((Below.refl _ w1).alloc (Nat.le_refl _) (.cells #[.bool sx, .int .u64 H, .int .u64 L] 24))) hb2
      have HRX := Lib.hid ((HR1.out.alloc (.cells #[.bool sx, .int .u64 H, .int .u64 L] 24)).keep hb2)
      have hw21 : w1.heap.size ≤ w2.heap.size := by have := hb2.size; simp at this; omega
      have hw1 := b1.size
      clear hb2 b1 HR1 KN EXT EXF
      obtain ⟨g, c, rfl, hg0, hg1⟩ := ov.form (by simp)
      have cN : w2.cell? ⟨g, 0, none⟩ = some (.int .i64 n) := by rw [ov.cellAt 0 (by simp)]; rfl
      obtain ⟨a0, a1, a2, al⟩ := HA
      clear ov
      go_wp2_with fail
      go_region
      go_wp2_with fail
      refine (KT.out _).mono ?_
      rintro e w3 ⟨rfl, hb3⟩
      have bq : Below w2.heap.size w2 (w2.alloc (.cells #[.bool sx, .int .u64 H, .int .u64 L, .int .i64 n] 30)).drew := ((Below.refl _ w2).alloc (Nat.le_refl _) _).drew
      have b3 := thenBelow (thenBelow b2 bq) hb3
      have hr2 : w.heap.size < w2.heap.size := HRX.out.1.2.2.2.2
      have HRX := Lib.hid ((HRX.out.keep bq).keep hb3)
      obtain ⟨q0, q1, q2, q3, ql⟩ := ((PreAt.new w2 sx H L n 30).keep (Below.refl _ _).drew).keep hb3
      have hw2 := b2.size
      clear a0 a1 a2 al cN hb3 bq b2 KT
      obtain ⟨⟨r0, r1, r2, r3, rl⟩, rf⟩ := HRX.out
      have f0 := rf 0; have f1 := rf 1; have f2 := rf 2; have f3 := rf 3
      clear rf HRX
      go_wp2
      try simp only [Exit.inBlock, Exit.then]
      refine bodyPost_ret (v := .tuple #[.agg #[.bool false, .int .u64 0, .int .u64 0, .int .i64 0], .int .i64 4]) (by simp [results, Tryd.results8, go_sem, r0, r1, r2, r3]) rfl ?_
      exact ⟨rfl, by first | exact (((b3.setCell (by simp) _).setCell (by simp) _).setCell (by simp) _).setCell (by simp) _ | exact b3 | go_grown⟩
set_option maxHeartbeats 4000000 in
set_option maxRecDepth 100000 in
theorem pd_ne (s : List UInt8) (hl : s.length ≤ 600) (F : Nat) (hF : F < s.length) (e0 : s[F] = 47) (hno : ∀ k (h : k < s.length), k < F → s[k] ≠ 47) (sx : Bool) (H L : Int) (KA : Hid (∀ W : World, Calls Tryd.prog 6 #[.string ⟨(s.take F).toArray⟩] W fun e w' => e = .returned (.tuple #[.agg #[.bool sx, .int .u64 H, .int .u64 L], .int .i64 0]) ∧ Below W.heap.size W w')) (n : Int) (hn : rn 10 128 47 [] (-1) (s.drop (F + 1)) = some [n]) (T : List UInt8) (E : Int) (KT : Hid (∀ W : World, Calls Tryd.prog 17 #[.agg #[.bool sx, .int .u64 H, .int .u64 L, .int .i64 n]] W fun e w' => e = .returned (.tuple #[.string ⟨T.toArray⟩, .int .i64 E]) ∧ Below W.heap.size W w')) (hE : E = 0) (hT : (T == s) = false) (w : World) :
    Calls Tryd.prog 8 #[.string ⟨s.toArray⟩] w fun e w' => e = .returned pErr ∧ Below w.heap.size w w' := by
  have hsz : (⟨s.toArray⟩ : ByteArray).size = s.length := by simp [ByteArray.size]
  have hli : ¬ 600 < (s.length : Int) := by omega
  have NO := Lib.hid hno
  have HR := Lib.hid (PreV.new w false 0 0 0 30)
  have b0 : Below w.heap.size w (w.alloc (.cells #[.bool false, .int .u64 0, .int .u64 0, .int .i64 0] 30)) := (Below.refl _ w).alloc (Nat.le_refl _) _
  clear hno
  have hx := index_list s F hF
  rw [e0] at hx
  replace hx : ∀ W, (Instr.index 9 (.string ⟨s.toArray⟩) (.int .i64 (F : Int))).run Tryd.prog W = .ok (.int .u8 47) W := hx
  have HX := Lib.hid hx
  have EXT := Lib.hid (ext_to s F)
  have EXF := Lib.hid (ext_from s (F + 1))
  have KN := Lib.hid (fun W : World => nums_len (s.drop (F + 1)) (by rw [List.length_drop]; omega) W)
  clear hx e0
  rw [hn] at KN
  simp only [Option.isSome_some, Option.getD_some] at KN
  clear hn
  subst hE
  go_enter Tryd.func8, Tryd.ntmps8
  go_wp2
  go_loopw [4] (fun iv wr => ∃ k : Nat, k ≤ F ∧ iv = .int .i64 k ∧ wr = w.alloc (.cells #[.bool false, .int .u64 0, .int .u64 0, .int .i64 0] 30)) (fun iv _ => s.length - (intOf iv).toNat)
  case atStart => exact ⟨0, by omega, rfl, by first | rfl | trivial⟩
  case round =>
    obtain ⟨k, hk, rfl, rfl⟩ := hrel
    by_cases hlt : k < F
    · have hx := index_list s k (by omega)
      have hn := NO.out k (by omega) hlt
      generalize s[k]'(by omega) = x at hx hn
      obtain ⟨x0, x1, x2⟩ := byte_ne47 hn
      clear hn
      go_wp2_with fail
      go_roundw
      case rel => exact ⟨k + 1, by omega, by go_num, by first | rfl | trivial⟩
      case measure => simp [intOf]; omega
    · obtain rfl : k = F := by omega
      have hx := HX.out
      have hF1 : (k : Int) < (s.length : Int) := by omega
      have hF2 : (k : Int) ≤ (s.length : Int) := by omega
      have hF3 : (k : Int) + 1 ≤ (s.length : Int) := by omega
      have hF4 : ((k : Int) + 1).toNat = k + 1 := by omega
      clear HX NO hlt hk
      go_wp2_with fail
      rw [EXT.out]
      refine (KA.out _).mono ?_
      rintro e w1 ⟨rfl, hb1⟩
      have b1 := thenBelow b0 hb1
      have HR1 := Lib.hid (HR.out.keep hb1)
      clear hb1 b0 HR KA
      go_wp2_with fail
      first | rw [EXF.out] | rw [hF4, hsz, EXF.out] | rw [hsz, EXF.out] | rw [hF4, EXF.out]
      refine (KN.out _).mono ?_
      rintro e w2 ⟨⟨v, rfl, ov⟩, hb2⟩
      have HA := (AddrAt.new w1 sx H L 24).keep hb2
      have b2 := thenBelow (thenBelow b1 ((Below.refl _ w1).alloc (Nat.le_refl _) (.cells #[.bool sx, .int .u64 H, .int .u64 L] 24))) hb2
      have HRX := Lib.hid ((HR1.out.alloc (.cells #[.bool sx, .int .u64 H, .int .u64 L] 24)).keep hb2)
      have hw21 : w1.heap.size ≤ w2.heap.size := by have := hb2.size; simp at this; omega
      have hw1 := b1.size
      clear hb2 b1 HR1 KN EXT EXF
      obtain ⟨g, c, rfl, hg0, hg1⟩ := ov.form (by simp)
      have cN : w2.cell? ⟨g, 0, none⟩ = some (.int .i64 n) := by rw [ov.cellAt 0 (by simp)]; rfl
      obtain ⟨a0, a1, a2, al⟩ := HA
      clear ov
      go_wp2_with fail
      go_region
      go_wp2_with fail
      refine (KT.out _).mono ?_
      rintro e w3 ⟨rfl, hb3⟩
      have bq : Below w2.heap.size w2 (w2.alloc (.cells #[.bool sx, .int .u64 H, .int .u64 L, .int .i64 n] 30)).drew := ((Below.refl _ w2).alloc (Nat.le_refl _) _).drew
      have b3 := thenBelow (thenBelow b2 bq) hb3
      have hr2 : w.heap.size < w2.heap.size := HRX.out.1.2.2.2.2
      have HRX := Lib.hid ((HRX.out.keep bq).keep hb3)
      obtain ⟨q0, q1, q2, q3, ql⟩ := ((PreAt.new w2 sx H L n 30).keep (Below.refl _ _).drew).keep hb3
      have hw2 := b2.size
      clear a0 a1 a2 al cN hb3 bq b2 KT
      obtain ⟨⟨r0, r1, r2, r3, rl⟩, rf⟩ := HRX.out
      have f0 := rf 0; have f1 := rf 1; have f2 := rf 2; have f3 := rf 3
      clear rf HRX
      go_wp2
      try simp only [Exit.inBlock, Exit.then]
      refine bodyPost_ret (v := .tuple #[.agg #[.bool false, .int .u64 0, .int .u64 0, .int .i64 0], .int .i64 4]) (by simp [results, Tryd.results8, go_sem, r0, r1, r2, r3]) rfl ?_
      exact ⟨rfl, by first | exact (((b3.setCell (by simp) _).setCell (by simp) _).setCell (by simp) _).setCell (by simp) _ | exact b3 | go_grown⟩
set_option maxHeartbeats 4000000 in
set_option maxRecDepth 100000 in
theorem pd_yes (s : List UInt8) (hl : s.length ≤ 600) (F : Nat) (hF : F < s.length) (e0 : s[F] = 47) (hno : ∀ k (h : k < s.length), k < F → s[k] ≠ 47) (sx : Bool) (H L : Int) (KA : Hid (∀ W : World, Calls Tryd.prog 6 #[.string ⟨(s.take F).toArray⟩] W fun e w' => e = .returned (.tuple #[.agg #[.bool sx, .int .u64 H, .int .u64 L], .int .i64 0]) ∧ Below W.heap.size W w')) (n : Int) (hn : rn 10 128 47 [] (-1) (s.drop (F + 1)) = some [n]) (KT : Hid (∀ W : World, Calls Tryd.prog 17 #[.agg #[.bool sx, .int .u64 H, .int .u64 L, .int .i64 n]] W fun e w' => e = .returned (.tuple #[.string ⟨s.toArray⟩, .int .i64 0]) ∧ Below W.heap.size W w')) (w : World) :
    Calls Tryd.prog 8 #[.string ⟨s.toArray⟩] w fun e w' => e = .returned (.tuple #[.agg #[.bool sx, .int .u64 H, .int .u64 L, .int .i64 n], .int .i64 0]) ∧ Below w.heap.size w w' := by
  have hsz : (⟨s.toArray⟩ : ByteArray).size = s.length := by simp [ByteArray.size]
  have hli : ¬ 600 < (s.length : Int) := by omega
  have NO := Lib.hid hno
  have HR := Lib.hid (PreV.new w false 0 0 0 30)
  have b0 : Below w.heap.size w (w.alloc (.cells #[.bool false, .int .u64 0, .int .u64 0, .int .i64 0] 30)) := (Below.refl _ w).alloc (Nat.le_refl _) _
  clear hno
  have hx := index_list s F hF
  rw [e0] at hx
  replace hx : ∀ W, (Instr.index 9 (.string ⟨s.toArray⟩) (.int .i64 (F : Int))).run Tryd.prog W = .ok (.int .u8 47) W := hx
  have HX := Lib.hid hx
  have EXT := Lib.hid (ext_to s F)
  have EXF := Lib.hid (ext_from s (F + 1))
  have KN := Lib.hid (fun W : World => nums_len (s.drop (F + 1)) (by rw [List.length_drop]; omega) W)
  clear hx e0
  rw [hn] at KN
  simp only [Option.isSome_some, Option.getD_some] at KN
  clear hn
  go_enter Tryd.func8, Tryd.ntmps8
  go_wp2
  go_loopw [4] (fun iv wr => ∃ k : Nat, k ≤ F ∧ iv = .int .i64 k ∧ wr = w.alloc (.cells #[.bool false, .int .u64 0, .int .u64 0, .int .i64 0] 30)) (fun iv _ => s.length - (intOf iv).toNat)
  case atStart => exact ⟨0, by omega, rfl, by first | rfl | trivial⟩
  case round =>
    obtain ⟨k, hk, rfl, rfl⟩ := hrel
    by_cases hlt : k < F
    · have hx := index_list s k (by omega)
      have hn := NO.out k (by omega) hlt
      generalize s[k]'(by omega) = x at hx hn
      obtain ⟨x0, x1, x2⟩ := byte_ne47 hn
      clear hn
      go_wp2_with fail
      go_roundw
      case rel => exact ⟨k + 1, by omega, by go_num, by first | rfl | trivial⟩
      case measure => simp [intOf]; omega
    · obtain rfl : k = F := by omega
      have hx := HX.out
      have hF1 : (k : Int) < (s.length : Int) := by omega
      have hF2 : (k : Int) ≤ (s.length : Int) := by omega
      have hF3 : (k : Int) + 1 ≤ (s.length : Int) := by omega
      have hF4 : ((k : Int) + 1).toNat = k + 1 := by omega
      clear HX NO hlt hk
      go_wp2_with fail
      rw [EXT.out]
      refine (KA.out _).mono ?_
      rintro e w1 ⟨rfl, hb1⟩
      have b1 := thenBelow b0 hb1
      have HR1 := Lib.hid (HR.out.keep hb1)
      clear hb1 b0 HR KA
      go_wp2_with fail
      first | rw [EXF.out] | rw [hF4, hsz, EXF.out] | rw [hsz, EXF.out] | rw [hF4, EXF.out]
      refine (KN.out _).mono ?_
      rintro e w2 ⟨⟨v, rfl, ov⟩, hb2⟩
      have HA := (AddrAt.new w1 sx H L 24).keep hb2
      have b2 := thenBelow (thenBelow b1 ((Below.refl _ w1).alloc (Nat.le_refl _) (.cells #[.bool sx, .int .u64 H, .int .u64 L] 24))) hb2
      have HRX := Lib.hid ((HR1.out.alloc (.cells #[.bool sx, .int .u64 H, .int .u64 L] 24)).keep hb2)
      have hw21 : w1.heap.size ≤ w2.heap.size := by have := hb2.size; simp at this; omega
      have hw1 := b1.size
      clear hb2 b1 HR1 KN EXT EXF
      obtain ⟨g, c, rfl, hg0, hg1⟩ := ov.form (by simp)
      have cN : w2.cell? ⟨g, 0, none⟩ = some (.int .i64 n) := by rw [ov.cellAt 0 (by simp)]; rfl
      obtain ⟨a0, a1, a2, al⟩ := HA
      clear ov
      go_wp2_with fail
      go_region
      go_wp2_with fail
      refine (KT.out _).mono ?_
      rintro e w3 ⟨rfl, hb3⟩
      have bq : Below w2.heap.size w2 (w2.alloc (.cells #[.bool sx, .int .u64 H, .int .u64 L, .int .i64 n] 30)).drew := ((Below.refl _ w2).alloc (Nat.le_refl _) _).drew
      have b3 := thenBelow (thenBelow b2 bq) hb3
      have hr2 : w.heap.size < w2.heap.size := HRX.out.1.2.2.2.2
      have HRX := Lib.hid ((HRX.out.keep bq).keep hb3)
      obtain ⟨q0, q1, q2, q3, ql⟩ := ((PreAt.new w2 sx H L n 30).keep (Below.refl _ _).drew).keep hb3
      have hw2 := b2.size
      clear a0 a1 a2 al cN hb3 bq b2 KT
      obtain ⟨⟨r0, r1, r2, r3, rl⟩, rf⟩ := HRX.out
      have f0 := rf 0; have f1 := rf 1; have f2 := rf 2; have f3 := rf 3
      have hne : ¬ w.heap.size = w2.heap.size := by omega
      clear rf HRX
      go_wp2
      try simp only [Exit.inBlock, Exit.then]
      refine bodyPost_ret (v := .tuple #[.agg #[.bool sx, .int .u64 H, .int .u64 L, .int .i64 n], .int .i64 0]) (by simp [results, Tryd.results8, go_sem, r0, r1, r2, r3]) rfl ?_
      exact ⟨rfl, (((b3.setCell (by simp) _).setCell (by simp) _).setCell (by simp) _).setCell (by simp) _⟩
end Go.Proofs.YtojdlhiibffnfabDoor

/-
  The library's contracts that this seat's proofs use, laid at this program (by the kit's own command, in plain words, cut to what is used).
-/
namespace Go.Proofs
open Go.Shelf
def Tryd.laysC172_ren : Go.Shelf.Ren := ⟨fun | 172 => 28 | 244 => 43 | 245 => 44 | 247 => 55 | 279 => 56 | 280 => 57 | 281 => 58 | 282 => 59 | 287 => 67 | 316 => 74 | 171 => 30 | 205 => 75 | 321 => 80 | 322 => 81 | 243 => 47 | 246 => 61 | 283 => 68 | 284 => 69 | 285 => 70 | 286 => 71 | 129 => 83 | 317 => 82 | 318 => 84 | 319 => 85 | 320 => 86 | 337 => 92 | 338 => 93 | n => n, fun | 9 => 9 | 3 => 3 | 75 => 53 | 76 => 54 | 4 => 4 | 5 => 5 | 167 => 86 | 37 => 81 | 0 => 0 | 85 => 87 | 2 => 2 | 168 => 89 | 53 => 22 | 175 => 78 | 46 => 65 | 210 => 106 | 127 => 103 | 145 => 123 | 143 => 121 | 21 => 21 | 171 => 98 | 173 => 101 | 212 => 114 | 51 => 108 | 20 => 20 | 213 => 115 | 232 => 128 | 233 => 129 | 80 => 85 | n => n, fun | 15 => 1 | 16 => 2 | 17 => 3 | 18 => 4 | 19 => 5 | n => n⟩
theorem Tryd.laysC172 : Go.Proofs.LaysC.n172 Tryd.prog Tryd.laysC172_ren := {
  mixed := by kernel_rfl
  f129 := Tryd.func83.trans (congrArg some (by kernel_rfl))
  f171 := Tryd.func30.trans (congrArg some (by kernel_rfl))
  f172 := Tryd.func28.trans (congrArg some (by kernel_rfl))
  f205 := Tryd.func75.trans (congrArg some (by kernel_rfl))
  f243 := Tryd.func47.trans (congrArg some (by kernel_rfl))
  f244 := Tryd.func43.trans (congrArg some (by kernel_rfl))
  f245 := Tryd.func44.trans (congrArg some (by kernel_rfl))
  f246 := Tryd.func61.trans (congrArg some (by kernel_rfl))
  f247 := Tryd.func55.trans (congrArg some (by kernel_rfl))
  f279 := Tryd.func56.trans (congrArg some (by kernel_rfl))
  f280 := Tryd.func57.trans (congrArg some (by kernel_rfl))
  f281 := Tryd.func58.trans (congrArg some (by kernel_rfl))
  f282 := Tryd.func59.trans (congrArg some (by kernel_rfl))
  f283 := Tryd.func68.trans (congrArg some (by kernel_rfl))
  f284 := Tryd.func69.trans (congrArg some (by kernel_rfl))
  f285 := Tryd.func70.trans (congrArg some (by kernel_rfl))
  f286 := Tryd.func71.trans (congrArg some (by kernel_rfl))
  f287 := Tryd.func67.trans (congrArg some (by kernel_rfl))
  f316 := Tryd.func74.trans (congrArg some (by kernel_rfl))
  f317 := Tryd.func82.trans (congrArg some (by kernel_rfl))
  f318 := Tryd.func84.trans (congrArg some (by kernel_rfl))
  f319 := Tryd.func85.trans (congrArg some (by kernel_rfl))
  f320 := Tryd.func86.trans (congrArg some (by kernel_rfl))
  f321 := Tryd.func80.trans (congrArg some (by kernel_rfl))
  f322 := Tryd.func81.trans (congrArg some (by kernel_rfl))
  f337 := Tryd.func92.trans (congrArg some (by kernel_rfl))
  f338 := Tryd.func93.trans (congrArg some (by kernel_rfl))
  t0 := Tryd.underlying0
  a0 := Tryd.isAgg0
  z0 := Tryd.sizeOf0
  v0 := Tryd.zeroValue0
  t2 := Tryd.underlying2
  a2 := Tryd.isAgg2
  z2 := Tryd.sizeOf2
  v2 := Tryd.zeroValue2
  t3 := Tryd.underlying3
  a3 := Tryd.isAgg3
  z3 := Tryd.sizeOf3
  v3 := Tryd.zeroValue3
  t4 := Tryd.underlying4
  a4 := Tryd.isAgg4
  z4 := Tryd.sizeOf4
  v4 := Tryd.zeroValue4
  t5 := Tryd.underlying5
  a5 := Tryd.isAgg5
  z5 := Tryd.sizeOf5
  v5 := Tryd.zeroValue5
  t9 := Tryd.underlying9
  a9 := Tryd.isAgg9
  z9 := Tryd.sizeOf9
  v9 := Tryd.zeroValue9
  t20 := Tryd.underlying20
  a20 := Tryd.isAgg20
  z20 := Tryd.sizeOf20
  v20 := Tryd.zeroValue20
  t21 := Tryd.underlying21
  a21 := Tryd.isAgg21
  z21 := Tryd.sizeOf21
  v21 := Tryd.zeroValue21
  t37 := Tryd.underlying81
  a37 := Tryd.isAgg81
  z37 := Tryd.sizeOf81
  v37 := Tryd.zeroValue81
  t46 := Tryd.underlying65
  a46 := Tryd.isAgg65
  z46 := Tryd.sizeOf65
  v46 := Tryd.zeroValue65
  t51 := Tryd.underlying108
  a51 := Tryd.isAgg108
  z51 := Tryd.sizeOf108
  v51 := Tryd.zeroValue108
  t53 := Tryd.underlying22
  a53 := Tryd.isAgg22
  z53 := Tryd.sizeOf22
  v53 := Tryd.zeroValue22
  t75 := Tryd.underlying53
  a75 := Tryd.isAgg53
  z75 := Tryd.sizeOf53
  v75 := Tryd.zeroValue53
  t76 := Tryd.underlying54
  a76 := Tryd.isAgg54
  z76 := Tryd.sizeOf54
  v76 := Tryd.zeroValue54
  t85 := Tryd.underlying87
  a85 := Tryd.isAgg87
  z85 := Tryd.sizeOf87
  v85 := Tryd.zeroValue87
  t127 := Tryd.underlying103
  a127 := Tryd.isAgg103
  z127 := Tryd.sizeOf103
  v127 := Tryd.zeroValue103
  t143 := Tryd.underlying121
  a143 := Tryd.isAgg121
  z143 := Tryd.sizeOf121
  v143 := Tryd.zeroValue121
  t145 := Tryd.underlying123
  a145 := Tryd.isAgg123
  z145 := Tryd.sizeOf123
  v145 := Tryd.zeroValue123
  t167 := Tryd.underlying86
  a167 := Tryd.isAgg86
  z167 := Tryd.sizeOf86
  v167 := Tryd.zeroValue86
  t168 := Tryd.underlying89
  a168 := Tryd.isAgg89
  z168 := Tryd.sizeOf89
  v168 := Tryd.zeroValue89
  t171 := Tryd.underlying98
  a171 := Tryd.isAgg98
  z171 := Tryd.sizeOf98
  v171 := Tryd.zeroValue98
  t173 := Tryd.underlying101
  a173 := Tryd.isAgg101
  z173 := Tryd.sizeOf101
  v173 := Tryd.zeroValue101
  t175 := Tryd.underlying78
  a175 := Tryd.isAgg78
  z175 := Tryd.sizeOf78
  v175 := Tryd.zeroValue78
  t210 := Tryd.underlying106
  a210 := Tryd.isAgg106
  z210 := Tryd.sizeOf106
  v210 := Tryd.zeroValue106
  t212 := Tryd.underlying114
  a212 := Tryd.isAgg114
  z212 := Tryd.sizeOf114
  v212 := Tryd.zeroValue114
  t213 := Tryd.underlying115
  a213 := Tryd.isAgg115
  z213 := Tryd.sizeOf115
  t232 := Tryd.underlying128
  a232 := Tryd.isAgg128
  z232 := Tryd.sizeOf128
  v232 := Tryd.zeroValue128
  t233 := Tryd.underlying129
  a233 := Tryd.isAgg129
  z233 := Tryd.sizeOf129
  v233 := Tryd.zeroValue129
  g15 := by kernel_rfl
  g16 := by kernel_rfl
  g17 := by kernel_rfl
  g18 := by kernel_rfl
  g19 := by kernel_rfl
  t80 := Tryd.underlying85
  a80 := Tryd.isAgg85
  z80 := Tryd.sizeOf85
  v80 := Tryd.zeroValue85
  i0 := by kernel_rfl
  i2 := by kernel_rfl
  i3 := by kernel_rfl
  i4 := by kernel_rfl
  i5 := by kernel_rfl
  i9 := by kernel_rfl
  i20 := by kernel_rfl
  i21 := by kernel_rfl
  i37 := by kernel_rfl
  i46 := by kernel_rfl
  i51 := by kernel_rfl
  i53 := by kernel_rfl
  i75 := by kernel_rfl
  i76 := by kernel_rfl
  i80 := by kernel_rfl
  i85 := by kernel_rfl
  i127 := by kernel_rfl
  i143 := by kernel_rfl
  i145 := by kernel_rfl
  i167 := by kernel_rfl
  i168 := by kernel_rfl
  i171 := by kernel_rfl
  i173 := by kernel_rfl
  i175 := by kernel_rfl
  i210 := by kernel_rfl
  i212 := by kernel_rfl
  i232 := by kernel_rfl
  i233 := by kernel_rfl
  m15 := by kernel_rfl
  m16 := by kernel_rfl
  m17 := by kernel_rfl
  m18 := by kernel_rfl
  m19 := by kernel_rfl
  c0 := by kernel_rfl
  c2 := by kernel_rfl
  c3 := by kernel_rfl
  c4 := by kernel_rfl
  c5 := by kernel_rfl
  c9 := by kernel_rfl
  c20 := by kernel_rfl
  c21 := by kernel_rfl
  c37 := by kernel_rfl
  c46 := by kernel_rfl
  c51 := by kernel_rfl
  c53 := by kernel_rfl
  c75 := by kernel_rfl
  c76 := by kernel_rfl
  c80 := by kernel_rfl
  c85 := by kernel_rfl
  c127 := by kernel_rfl
  c143 := by kernel_rfl
  c145 := by kernel_rfl
  c167 := by kernel_rfl
  c168 := by kernel_rfl
  c171 := by kernel_rfl
  c173 := by kernel_rfl
  c175 := by kernel_rfl
  c210 := by kernel_rfl
  c212 := by kernel_rfl
  c213 := by kernel_rfl
  c232 := by kernel_rfl
  c233 := by kernel_rfl }
open Go.RowKit in
theorem Tryd.strconv_Atoi_ok (s : ByteArray) (hmax : s.size ≤ 9223372036854775806) (v : Int) (h : Lib.atoiAll s.data.toList = .ok v) (w : World) :
    Calls Tryd.prog 28 #[.string s] w fun e w' => e = .returned (.tuple #[.int .i64 v, .nilIface]) ∧ (w' = w ∨ ∃ t, w' = Lib.bytesWorld w 5 t) := Any.strconv_Atoi_ok Tryd.laysC172 s hmax v h w
end Go.Proofs

/-
  The text of a prefix is read back as that prefix: pre.read and pre.Parse at such a text.
-/
namespace Go.Proofs.YtojdlhiibffnfabDoor
open Go.RowKit Go.Sort
set_option linter.unusedVariables false
set_option linter.unusedSimpArgs false

theorem dig_not47 (d : Nat) : dig d ≠ 47 := by
  by_cases h : d < 16
  · have : ∀ k : Fin 16, dig k ≠ 47 := by decide +kernel
    exact this ⟨d, h⟩
  · unfold dig
    rw [List.getD_eq_getElem?_getD, List.getElem?_eq_none (by simp [digs]; omega)]
    decide
theorem numText_no47 (base f n : Nat) : (numText base f n).count 47 = 0 := by
  induction f generalizing n with
  | zero => simp [numText]
  | succ f ih =>
    unfold numText
    split
    · simp [List.count_cons, dig_not47]
    · rw [List.count_append, ih]; simp [List.count_cons, dig_not47]
theorem hexT_no47 (gs : List Nat) : ∀ t ∈ hexT gs, t.count 47 = 0 := fun t ht => by
  simp only [hexT, List.mem_map] at ht
  obtain ⟨p, _, rfl⟩ := ht
  exact numText_no47 _ _ _
theorem textL_no47 (six : Bool) (H L : Nat) : (textL six H L).count 47 = 0 := by
  unfold textL
  split
  · unfold sixT
    simp only
    split
    · rw [join_count 58 47 _ (hexT_no47 _)]; rfl
    · simp only [List.count_append]
      rw [join_count 58 47 _ (hexT_no47 _), join_count 58 47 _ (hexT_no47 _)]
      rfl
  · split
    · rw [join_count 46 47 _ (fun t ht => by
        simp only [fourT, List.mem_map] at ht
        obtain ⟨p, _, rfl⟩ := ht
        exact numText_no47 _ _ _)]
      rfl
    · rfl
theorem index47 (N : List UInt8) : ∀ T : List UInt8, T.count 47 = 0 → Lib.index (T ++ 47 :: N) [47] = T.length
  | [], _ => by simp [Lib.index]
  | c :: T, h => by
    have hc : ¬ c = 47 := fun e => by rw [e, List.count_cons_self] at h; omega
    have ih := index47 N T (by rw [List.count_cons] at h; omega)
    have hp : ([47] : List UInt8).isPrefixOf (c :: (T ++ 47 :: N)) = false := by
      have : ((47 : UInt8) == c) = false := by simpa using fun e => hc e.symm
      simp [List.isPrefixOf, this]
    show (if ([47] : List UInt8).isPrefixOf (c :: (T ++ 47 :: N)) then 0 else if Lib.index (T ++ 47 :: N) [47] == -1 then -1 else Lib.index (T ++ 47 :: N) [47] + 1) = _
    rw [hp, if_neg (by decide), ih, if_neg (by simp)]
    simp
theorem cut47 (T N : List UInt8) (h : T.count 47 = 0) : Lib.cut (T ++ [47] ++ N) [47] = (T, N, true) := by
  unfold Lib.cut
  rw [show T ++ [47] ++ N = T ++ 47 :: N from by simp, index47 N T h, if_pos (by omega), Int.toNat_natCast]
  simp
def atoiB (l : List UInt8) (n : Int) : Bool := match Lib.atoiAll l with
  | .ok v => v == n
  | _ => false
theorem atoiB_ok {l : List UInt8} {n : Int} (h : atoiB l n = true) : Lib.atoiAll l = .ok n := by
  unfold atoiB at h
  split at h
  · rename_i v hv; rw [hv]; simp at h; rw [h]
  · cases h
theorem atoi_num : ∀ n : Fin 129, atoiB (numText 10 3 n.val) (n.val : Int) = true := by decide +kernel
theorem preT_len (six : Bool) (x n : Nat) : (preT six x n).length ≤ 43 := by
  unfold preT
  have a := textL_le six (x / 18446744073709551616) (x % 18446744073709551616)
  have b := numText_le 10 3 n
  simp only [List.length_append, List.length_cons, List.length_nil]
  omega

theorem cut_pre (six : Bool) (x n : Nat) (W : World) (h : RTabs W) :
    Calls Tryd.prog 27 #[.string ⟨(preT six x n).toArray⟩, .string ⟨#[47]⟩] W fun e w' => e = .returned (.tuple #[.string ⟨(textL six (x / 18446744073709551616) (x % 18446744073709551616)).toArray⟩, .string ⟨(numText 10 3 n).toArray⟩, .bool true]) ∧ Below W.heap.size W w' := by
  obtain ⟨m, hm⟩ := h.2.1
  have hl := preT_len six x n
  have hsz : (⟨(preT six x n).toArray⟩ : ByteArray).size = (preT six x n).length := by simp [ByteArray.size]
  have c := Tryd.strings_Cut ⟨(preT six x n).toArray⟩ ⟨#[47]⟩ m W (by omega) hm
  have e : Lib.cut (⟨(preT six x n).toArray⟩ : ByteArray).data.toList (⟨#[47]⟩ : ByteArray).data.toList = (textL six (x / 18446744073709551616) (x % 18446744073709551616), numText 10 3 n, true) := by
    show Lib.cut (preT six x n) [47] = _
    exact cut47 _ _ (textL_no47 _ _ _)
  rw [e] at c
  refine c.mono ?_
  rintro e w' ⟨rfl, q, rfl⟩
  exact ⟨rfl, below_drewN (Below.refl _ _) q⟩
theorem addr_pre (six : Bool) (x : Nat) (hx : x < 2 ^ wideN six) (W : World) (h : RTabs W) :
    Calls Tryd.prog 5 #[.string ⟨(textL six (x / 18446744073709551616) (x % 18446744073709551616)).toArray⟩] W fun e w' => e = .returned (.tuple #[.agg #[.bool six, .int .u64 (aH x), .int .u64 (aL x)], .int .i64 0]) ∧ Below W.heap.size W w' := by
  have hx' := lt128 hx
  have c := parse_calls (textL six (x / 18446744073709551616) (x % 18446744073709551616)) (by have := textL_le six (x / 18446744073709551616) (x % 18446744073709551616); omega) W h
  rw [parse_back six _ _ (by omega) (by omega) (textE0 six x hx)] at c
  exact c
theorem atoi_pre (n : Nat) (hn : n ≤ 128) (W : World) :
    Calls Tryd.prog 28 #[.string ⟨(numText 10 3 n).toArray⟩] W fun e w' => e = .returned (.tuple #[.int .i64 (n : Int), .nilIface]) ∧ Below W.heap.size W w' := by
  have hl := numText_le 10 3 n
  have hsz : (⟨(numText 10 3 n).toArray⟩ : ByteArray).size = (numText 10 3 n).length := by simp [ByteArray.size]
  have ha : Lib.atoiAll (⟨(numText 10 3 n).toArray⟩ : ByteArray).data.toList = .ok (n : Int) := by
    show Lib.atoiAll (numText 10 3 n) = _
    exact atoiB_ok (atoi_num ⟨n, by omega⟩)
  refine (Tryd.strconv_Atoi_ok ⟨(numText 10 3 n).toArray⟩ (by omega) (n : Int) ha W).mono ?_
  rintro e w' ⟨rfl, rfl | ⟨t, rfl⟩⟩
  · exact ⟨rfl, Below.refl _ _⟩
  · exact ⟨rfl, Lib.bytesWorld_below _ _ _⟩

set_option maxHeartbeats 1000000 in
theorem read_pre (six : Bool) (x n : Nat) (hx : x < 2 ^ wideN six) (hn : n ≤ wideN six) (w : World) (hr : RTabs w) :
    Calls Tryd.prog 15 #[.string ⟨(preT six x n).toArray⟩] w fun e w' => e = .returned (.tuple #[.agg #[.bool six, .int .u64 (aH x), .int .u64 (aL x), .int .i64 n], .bool true]) ∧ Below w.heap.size w w' := by
  have hW := wideN_le six
  have K1 := Lib.hid (fun (W : World) (h : RTabs W) => cut_pre six x n W h)
  have K2 := Lib.hid (fun (W : World) (h : RTabs W) => addr_pre six x hx W h)
  have K3 := Lib.hid (fun (W : World) => atoi_pre n (by omega) W)
  have HR := Lib.hid hr
  clear hr
  generalize textL six (x / 18446744073709551616) (x % 18446744073709551616) = T at *
  generalize numText 10 3 n = N at *
  generalize preT six x n = R at *
  go_enter Tryd.func15, Tryd.ntmps15
  go_wp2_with fail
  refine (K1.out _ (HR.out.alloc _)).mono ?_
  rintro e w1 ⟨rfl, hb1⟩
  have b1 := thenBelow ((Below.refl _ w).alloc (Nat.le_refl _) _) hb1
  have HR1 := Lib.hid ((HR.out.alloc _).keep hb1)
  have HT1 := Lib.hid ((PreV.new w false 0 0 0 30).keep hb1)
  clear hb1 HR
  go_wp2_with fail
  refine (K2.out _ HR1.out).mono ?_
  rintro e w2 ⟨rfl, hb2⟩
  have b2 := thenBelow b1 hb2
  have HT2 := Lib.hid (HT1.out.keep hb2)
  clear hb2 b1 HR1 HT1
  go_wp2_with fail
  refine (K3.out _).mono ?_
  rintro e w3 ⟨rfl, hb3⟩
  have b3 := thenBelow (b2.alloc b2.size _) hb3
  have T3 := (HT2.out.alloc _).keep hb3
  have A3 := (AddrAt.new w2 six (aH x) (aL x) 24).keep hb3
  obtain ⟨⟨t0, t1, t2, t3, tl⟩, tf⟩ := T3
  have g0 := tf 0; have g1 := tf 1; have g2 := tf 2; have g3 := tf 3
  obtain ⟨a0, a1, a2, al⟩ := A3
  clear hb3 b2 HT2 tf
  go_wp2
  try simp only [Exit.inBlock, Exit.then]
  refine bodyPost_ret (v := .tuple #[.agg #[.bool six, .int .u64 (aH x), .int .u64 (aL x), .int .i64 n], .bool true]) (by simp [results, Tryd.results15, go_sem, t0, t1, t2, t3]) rfl ?_
  exact ⟨rfl, (((b3.setCell (by simp) _).setCell (by simp) _).setCell (by simp) _).setCell (by simp) _⟩
set_option maxHeartbeats 1000000 in
theorem parse_pre (six : Bool) (x n : Nat) (hx : x < 2 ^ wideN six) (hn : n ≤ wideN six) (hc : chkE six x n = 0) (w : World) (hr : RTabs w) :
    Calls Tryd.prog 7 #[.string ⟨(preT six x n).toArray⟩] w fun e w' => e = .returned (.tuple #[.agg #[.bool six, .int .u64 (aH x), .int .u64 (aL x), .int .i64 n], .int .i64 0]) ∧ Below w.heap.size w w' := by
  have K1 := Lib.hid (fun (W : World) (h : RTabs W) => read_pre six x n hx hn W h)
  have K2 := Lib.hid (fun (W : World) (h : Tabs W) => pText_ok six x n hx hn hc W h)
  have HR := Lib.hid hr
  have hl := preT_len six x n
  clear hr hc
  generalize preT six x n = R at *
  have hsz : (⟨R.toArray⟩ : ByteArray).size = R.length := by simp [ByteArray.size]
  go_enter Tryd.func7, Tryd.ntmps7
  go_wp2_with fail
  refine (K1.out _ (HR.out.alloc _)).mono ?_
  rintro e w1 ⟨rfl, hb1⟩
  have b1 := thenBelow ((Below.refl _ w).alloc (Nat.le_refl _) _) hb1
  have HR1 := Lib.hid ((HR.out.alloc _).keep hb1)
  have HT1 := Lib.hid ((PreV.new w false 0 0 0 30).keep hb1)
  clear hb1 HR
  go_wp2_with fail
  refine (K2.out _ (HR1.out.1.alloc _)).mono ?_
  rintro e w2 ⟨rfl, hb2⟩
  have b2 := thenBelow (b1.alloc b1.size _) hb2
  have T2 := (HT1.out.alloc _).keep hb2
  have P2 := (PreAt.new w1 six (aH x) (aL x) n 30).keep hb2
  obtain ⟨⟨t0, t1, t2, t3, tl⟩, tf⟩ := T2
  have g0 := tf 0; have g1 := tf 1; have g2 := tf 2; have g3 := tf 3
  obtain ⟨p0, p1, p2, p3, pl⟩ := P2
  clear hb2 b1 HT1 tf HR1
  go_wp2
  try simp only [Exit.inBlock, Exit.then]
  refine bodyPost_ret (v := .tuple #[.agg #[.bool six, .int .u64 (aH x), .int .u64 (aL x), .int .i64 n], .int .i64 0]) (by simp [results, Tryd.results7, go_sem, t0, t1, t2, t3]) rfl ?_
  exact ⟨rfl, (((b2.setCell (by simp) _).setCell (by simp) _).setCell (by simp) _).setCell (by simp) _⟩
end Go.Proofs.YtojdlhiibffnfabDoor

/-
  pre.read and pre.Parse at any text.
-/
namespace Go.Proofs.YtojdlhiibffnfabDoor
open Go.RowKit Go.Sort
set_option linter.unusedVariables false
set_option linter.unusedSimpArgs false

/-- An answer that bears an error. -/
def BadNum (e : Ending) : Prop := ∃ v t p, e = .returned (.tuple #[.int .i64 v, .iface t p])
theorem atoi_bad (l : List UInt8) (hl : l.length ≤ 600) (hA : ∀ v, Lib.atoiAll l ≠ .ok v) (W : World) (h : RTabs W) :
    Calls Tryd.prog 28 #[.string ⟨l.toArray⟩] W fun e w' => BadNum e ∧ Below W.heap.size W w' := by
  have hsz : (⟨l.toArray⟩ : ByteArray).size = l.length := by simp [ByteArray.size]
  obtain ⟨e1, c1, d1⟩ := h.2.2.1
  obtain ⟨e2, c2, d2⟩ := h.2.2.2
  cases hB : Lib.atoiAll l with
  | ok v => exact absurd hB (hA v)
  | _ =>
    first
      | (refine (Any.strconv_Atoi_syntax Tryd.laysC172 ⟨l.toArray⟩ (by omega) (by exact hB) e1 W c1 d1).mono ?_
         rintro e w' ⟨N, rfl, _, _, hb⟩
         exact ⟨⟨_, _, _, rfl⟩, hb⟩)
      | (refine (Any.strconv_Atoi_range Tryd.laysC172 ⟨l.toArray⟩ (by omega) (by exact hB) e2 W c2 d2).mono ?_
         rintro e w' ⟨N, rfl, _, _, hb⟩
         exact ⟨⟨_, _, _, rfl⟩, hb⟩)
theorem atoi_good (l : List UInt8) (hl : l.length ≤ 600) (v : Int) (hA : Lib.atoiAll l = .ok v) (W : World) :
    Calls Tryd.prog 28 #[.string ⟨l.toArray⟩] W fun e w' => e = .returned (.tuple #[.int .i64 v, .nilIface]) ∧ Below W.heap.size W w' := by
  have hsz : (⟨l.toArray⟩ : ByteArray).size = l.length := by simp [ByteArray.size]
  refine (Tryd.strconv_Atoi_ok ⟨l.toArray⟩ (by omega) v hA W).mono ?_
  rintro e w' ⟨rfl, rfl | ⟨t, rfl⟩⟩
  · exact ⟨rfl, Below.refl _ _⟩
  · exact ⟨rfl, Lib.bytesWorld_below _ _ _⟩
theorem cut_any (s : List UInt8) (hl : s.length ≤ 600) (W : World) (h : RTabs W) :
    Calls Tryd.prog 27 #[.string ⟨s.toArray⟩, .string ⟨#[47]⟩] W fun e w' => e = .returned (.tuple #[.string ⟨(Lib.cut s [47]).1.toArray⟩, .string ⟨(Lib.cut s [47]).2.1.toArray⟩, .bool (Lib.cut s [47]).2.2]) ∧ Below W.heap.size W w' := by
  obtain ⟨m, hm⟩ := h.2.1
  have hsz : (⟨s.toArray⟩ : ByteArray).size = s.length := by simp [ByteArray.size]
  refine (Tryd.strings_Cut ⟨s.toArray⟩ ⟨#[47]⟩ m W (by omega) hm).mono ?_
  rintro e w' ⟨rfl, q, rfl⟩
  exact ⟨rfl, below_drewN (Below.refl _ _) q⟩
set_option maxHeartbeats 1000000 in
theorem read_no1 (R T N : List UInt8) (fd : Bool) (er : Int) (he : (er == 0) = false)
    (K1 : Hid (∀ W : World, RTabs W → Calls Tryd.prog 27 #[.string ⟨R.toArray⟩, .string ⟨#[47]⟩] W fun e w' => e = .returned (.tuple #[.string ⟨T.toArray⟩, .string ⟨N.toArray⟩, .bool fd]) ∧ Below W.heap.size W w'))
    (K2 : Hid (∀ W : World, RTabs W → Calls Tryd.prog 5 #[.string ⟨T.toArray⟩] W fun e w' => e = .returned (.tuple #[.agg #[.bool false, .int .u64 0, .int .u64 0], .int .i64 er]) ∧ Below W.heap.size W w')) (w : World) (hr : RTabs w) :
    Calls Tryd.prog 15 #[.string ⟨R.toArray⟩] w fun e w' => e = .returned (.tuple #[.agg #[.bool false, .int .u64 0, .int .u64 0, .int .i64 0], .bool false]) ∧ Below w.heap.size w w' := by
  have HR := Lib.hid hr
  clear hr
  go_enter Tryd.func15, Tryd.ntmps15
  go_wp2_with fail
  refine (K1.out _ (HR.out.alloc _)).mono ?_
  rintro e w1 ⟨rfl, hb1⟩
  have b1 := thenBelow ((Below.refl _ w).alloc (Nat.le_refl _) _) hb1
  have HR1 := Lib.hid ((HR.out.alloc _).keep hb1)
  have HT1 := Lib.hid ((PreV.new w false 0 0 0 30).keep hb1)
  clear hb1 HR
  go_wp2_with fail
  refine (K2.out _ HR1.out).mono ?_
  rintro e w2 ⟨rfl, hb2⟩
  have b2 := thenBelow b1 hb2
  have HR2 := Lib.hid (HR1.out.keep hb2)
  have HT2 := Lib.hid (HT1.out.keep hb2)
  clear hb2 b1 HR1 HT1
  have T3 := HT2.out
  have hs2 := b2.size
  obtain ⟨⟨t0, t1, t2, t3, tl⟩, tf⟩ := T3
  have g0 := tf 0; have g1 := tf 1; have g2 := tf 2; have g3 := tf 3
  clear tf
  go_wp2
  try simp only [Exit.inBlock, Exit.then]
  have T4 := (HT2.out.store false 0 0 0).alloc (.cells #[.bool false, .int .u64 0, .int .u64 0] 24)
  have B4 := ((((b2.setCell (p := ⟨w.heap.size, 0, none⟩) (by simp) (.bool false)).setCell (p := ⟨w.heap.size, 1, none⟩) (by simp) (.int .u64 0)).setCell (p := ⟨w.heap.size, 2, none⟩) (by simp) (.int .u64 0)).setCell (p := ⟨w.heap.size, 3, none⟩) (by simp) (.int .i64 0)).alloc (by simp; omega) (.cells #[.bool false, .int .u64 0, .int .u64 0] 24)
  revert T4 B4
  generalize World.alloc _ _ = W7
  intro T4 B4
  obtain ⟨⟨k0, k1, k2, k3, _⟩, _⟩ := T4
  exact bodyPost_ret (v := .tuple #[.agg #[.bool false, .int .u64 0, .int .u64 0, .int .i64 0], .bool false]) (by simp [results, Tryd.results15, go_sem, k0, k1, k2, k3]) rfl ⟨rfl, B4⟩

set_option maxHeartbeats 1000000 in
theorem read_no2 (R T N : List UInt8) (fd : Bool) (six : Bool) (x : Nat)
    (K1 : Hid (∀ W : World, RTabs W → Calls Tryd.prog 27 #[.string ⟨R.toArray⟩, .string ⟨#[47]⟩] W fun e w' => e = .returned (.tuple #[.string ⟨T.toArray⟩, .string ⟨N.toArray⟩, .bool fd]) ∧ Below W.heap.size W w'))
    (K2 : Hid (∀ W : World, RTabs W → Calls Tryd.prog 5 #[.string ⟨T.toArray⟩] W fun e w' => e = .returned (.tuple #[.agg #[.bool six, .int .u64 (aH x), .int .u64 (aL x)], .int .i64 0]) ∧ Below W.heap.size W w'))
    (K3 : Hid (∀ W : World, RTabs W → Calls Tryd.prog 28 #[.string ⟨N.toArray⟩] W fun e w' => BadNum e ∧ Below W.heap.size W w')) (w : World) (hr : RTabs w) :
    Calls Tryd.prog 15 #[.string ⟨R.toArray⟩] w fun e w' => e = .returned (.tuple #[.agg #[.bool false, .int .u64 0, .int .u64 0, .int .i64 0], .bool false]) ∧ Below w.heap.size w w' := by
  have HR := Lib.hid hr
  clear hr
  go_enter Tryd.func15, Tryd.ntmps15
  go_wp2_with fail
  refine (K1.out _ (HR.out.alloc _)).mono ?_
  rintro e w1 ⟨rfl, hb1⟩
  have b1 := thenBelow ((Below.refl _ w).alloc (Nat.le_refl _) _) hb1
  have HR1 := Lib.hid ((HR.out.alloc _).keep hb1)
  have HT1 := Lib.hid ((PreV.new w false 0 0 0 30).keep hb1)
  clear hb1 HR
  go_wp2_with fail
  refine (K2.out _ HR1.out).mono ?_
  rintro e w2 ⟨rfl, hb2⟩
  have b2 := thenBelow b1 hb2
  have HR2 := Lib.hid (HR1.out.keep hb2)
  have HT2 := Lib.hid (HT1.out.keep hb2)
  clear hb2 b1 HR1 HT1
  go_wp2_with fail
  refine (K3.out _ (HR2.out.alloc _)).mono ?_
  rintro e w3 ⟨⟨v, tt, pp, rfl⟩, hb3⟩
  have b3 := thenBelow (b2.alloc b2.size _) hb3
  have T3 := (HT2.out.alloc _).keep hb3
  clear hb3
  obtain ⟨⟨t0, t1, t2, t3, tl⟩, tf⟩ := T3
  have g0 := tf 0; have g1 := tf 1; have g2 := tf 2; have g3 := tf 3
  clear tf
  go_wp2
  try simp only [Exit.inBlock, Exit.then]
  refine bodyPost_ret (v := .tuple #[.agg #[.bool false, .int .u64 0, .int .u64 0, .int .i64 0], .bool false]) (by simp [results, Tryd.results15, go_sem, t0, t1, t2, t3]) rfl ?_
  exact ⟨rfl, (((b3.setCell (by simp) _).setCell (by simp) _).setCell (by simp) _).setCell (by simp) _⟩

set_option maxHeartbeats 1000000 in
theorem read_yes (R T N : List UInt8) (fd : Bool) (six : Bool) (x : Nat) (v : Int)
    (K1 : Hid (∀ W : World, RTabs W → Calls Tryd.prog 27 #[.string ⟨R.toArray⟩, .string ⟨#[47]⟩] W fun e w' => e = .returned (.tuple #[.string ⟨T.toArray⟩, .string ⟨N.toArray⟩, .bool fd]) ∧ Below W.heap.size W w'))
    (K2 : Hid (∀ W : World, RTabs W → Calls Tryd.prog 5 #[.string ⟨T.toArray⟩] W fun e w' => e = .returned (.tuple #[.agg #[.bool six, .int .u64 (aH x), .int .u64 (aL x)], .int .i64 0]) ∧ Below W.heap.size W w'))
    (K3 : Hid (∀ W : World, Calls Tryd.prog 28 #[.string ⟨N.toArray⟩] W fun e w' => e = .returned (.tuple #[.int .i64 v, .nilIface]) ∧ Below W.heap.size W w')) (w : World) (hr : RTabs w) :
    Calls Tryd.prog 15 #[.string ⟨R.toArray⟩] w fun e w' => e = .returned (.tuple #[.agg #[.bool six, .int .u64 (aH x), .int .u64 (aL x), .int .i64 v], .bool true]) ∧ Below w.heap.size w w' := by
  have HR := Lib.hid hr
  clear hr
  go_enter Tryd.func15, Tryd.ntmps15
  go_wp2_with fail
  refine (K1.out _ (HR.out.alloc _)).mono ?_
  rintro e w1 ⟨rfl, hb1⟩
  have b1 := thenBelow ((Below.refl _ w).alloc (Nat.le_refl _) _) hb1
  have HR1 := Lib.hid ((HR.out.alloc _).keep hb1)
  have HT1 := Lib.hid ((PreV.new w false 0 0 0 30).keep hb1)
  clear hb1 HR
  go_wp2_with fail
  refine (K2.out _ HR1.out).mono ?_
  rintro e w2 ⟨rfl, hb2⟩
  have b2 := thenBelow b1 hb2
  have HR2 := Lib.hid (HR1.out.keep hb2)
  have HT2 := Lib.hid (HT1.out.keep hb2)
  clear hb2 b1 HR1 HT1
  go_wp2_with fail
  refine (K3.out _).mono ?_
  rintro e w3 ⟨rfl, hb3⟩
  have b3 := thenBelow (b2.alloc b2.size _) hb3
  have T3 := (HT2.out.alloc _).keep hb3
  obtain ⟨a0, a1, a2, al⟩ := (AddrAt.new w2 six (aH x) (aL x) 24).keep hb3
  clear hb3
  obtain ⟨⟨t0, t1, t2, t3, tl⟩, tf⟩ := T3
  have g0 := tf 0; have g1 := tf 1; have g2 := tf 2; have g3 := tf 3
  clear tf
  go_wp2
  try simp only [Exit.inBlock, Exit.then]
  refine bodyPost_ret (v := .tuple #[.agg #[.bool six, .int .u64 (aH x), .int .u64 (aL x), .int .i64 v], .bool true]) (by simp [results, Tryd.results15, go_sem, t0, t1, t2, t3]) rfl ?_
  exact ⟨rfl, (((b3.setCell (by simp) _).setCell (by simp) _).setCell (by simp) _).setCell (by simp) _⟩

set_option maxHeartbeats 1000000 in
theorem pp_noread (R : List UInt8) (hl : R.length ≤ 600)
    (K1 : Hid (∀ W : World, RTabs W → Calls Tryd.prog 15 #[.string ⟨R.toArray⟩] W fun e w' => e = .returned (.tuple #[.agg #[.bool false, .int .u64 0, .int .u64 0, .int .i64 0], .bool false]) ∧ Below W.heap.size W w')) (w : World) (hr : RTabs w) :
    Calls Tryd.prog 7 #[.string ⟨R.toArray⟩] w fun e w' => e = .returned (.tuple #[.agg #[.bool false, .int .u64 0, .int .u64 0, .int .i64 0], .int .i64 4]) ∧ Below w.heap.size w w' := by
  have HR := Lib.hid hr
  clear hr
  have hsz : (⟨R.toArray⟩ : ByteArray).size = R.length := by simp [ByteArray.size]
  go_enter Tryd.func7, Tryd.ntmps7
  go_wp2_with fail
  refine (K1.out _ (HR.out.alloc _)).mono ?_
  rintro e w1 ⟨rfl, hb1⟩
  have b1 := thenBelow ((Below.refl _ w).alloc (Nat.le_refl _) _) hb1
  have HR1 := Lib.hid ((HR.out.alloc _).keep hb1)
  have HT1 := Lib.hid ((PreV.new w false 0 0 0 30).keep hb1)
  clear hb1 HR
  have hs1 := b1.size
  have T3 := HT1.out
  obtain ⟨⟨t0, t1, t2, t3, tl⟩, tf⟩ := T3
  have g0 := tf 0; have g1 := tf 1; have g2 := tf 2; have g3 := tf 3
  clear tf
  go_wp2
  try simp only [Exit.inBlock, Exit.then]
  have T4 := (HT1.out.store false 0 0 0).alloc (.cells #[.bool false, .int .u64 0, .int .u64 0, .int .i64 0] 30)
  have B4 := ((((b1.setCell (p := ⟨w.heap.size, 0, none⟩) (by simp) (.bool false)).setCell (p := ⟨w.heap.size, 1, none⟩) (by simp) (.int .u64 0)).setCell (p := ⟨w.heap.size, 2, none⟩) (by simp) (.int .u64 0)).setCell (p := ⟨w.heap.size, 3, none⟩) (by simp) (.int .i64 0)).alloc (by simp; omega) (.cells #[.bool false, .int .u64 0, .int .u64 0, .int .i64 0] 30)
  revert T4 B4
  generalize World.alloc _ _ = W7
  intro T4 B4
  obtain ⟨⟨k0, k1, k2, k3, _⟩, _⟩ := T4
  exact bodyPost_ret (v := .tuple #[.agg #[.bool false, .int .u64 0, .int .u64 0, .int .i64 0], .int .i64 4]) (by simp [results, Tryd.results7, go_sem, k0, k1, k2, k3]) rfl ⟨rfl, B4⟩

set_option maxHeartbeats 1000000 in
theorem pp_err (R : List UInt8) (six : Bool) (x : Nat) (v er : Int) (T : ByteArray) (he : (er == 0) = false) (hl : R.length ≤ 600)
    (K1 : Hid (∀ W : World, RTabs W → Calls Tryd.prog 15 #[.string ⟨R.toArray⟩] W fun e w' => e = .returned (.tuple #[.agg #[.bool six, .int .u64 (aH x), .int .u64 (aL x), .int .i64 v], .bool true]) ∧ Below W.heap.size W w'))
    (K2 : Hid (∀ W : World, Tabs W → Calls Tryd.prog 16 #[.agg #[.bool six, .int .u64 (aH x), .int .u64 (aL x), .int .i64 v]] W fun e w' => e = .returned (.tuple #[.string T, .int .i64 er]) ∧ Below W.heap.size W w')) (w : World) (hr : RTabs w) :
    Calls Tryd.prog 7 #[.string ⟨R.toArray⟩] w fun e w' => e = .returned (.tuple #[.agg #[.bool false, .int .u64 0, .int .u64 0, .int .i64 0], .int .i64 4]) ∧ Below w.heap.size w w' := by
  have HR := Lib.hid hr
  clear hr
  have hsz : (⟨R.toArray⟩ : ByteArray).size = R.length := by simp [ByteArray.size]
  have he1 : ¬ er = 0 := (by simpa using he)
  have he2 : (er != 0) = true := (by simpa using he1)
  go_enter Tryd.func7, Tryd.ntmps7
  go_wp2_with fail
  refine (K1.out _ (HR.out.alloc _)).mono ?_
  rintro e w1 ⟨rfl, hb1⟩
  have b1 := thenBelow ((Below.refl _ w).alloc (Nat.le_refl _) _) hb1
  have HR1 := Lib.hid ((HR.out.alloc _).keep hb1)
  have HT1 := Lib.hid ((PreV.new w false 0 0 0 30).keep hb1)
  clear hb1 HR
  go_wp2_with fail
  refine (K2.out _ (HR1.out.1.alloc _)).mono ?_
  rintro e w2 ⟨rfl, hb2⟩
  have b2 := thenBelow (b1.alloc b1.size _) hb2
  have T2 := (HT1.out.alloc _).keep hb2
  obtain ⟨p0, p1, p2, p3, pl⟩ := (PreAt.new w1 six (aH x) (aL x) v 30).keep hb2
  obtain ⟨⟨t0, t1, t2, t3, tl⟩, tf⟩ := T2
  have g0 := tf 0; have g1 := tf 1; have g2 := tf 2; have g3 := tf 3
  clear hb2 tf
  go_wp2
  try simp only [Exit.inBlock, Exit.then]
  refine bodyPost_ret (v := .tuple #[.agg #[.bool false, .int .u64 0, .int .u64 0, .int .i64 0], .int .i64 4]) (by simp [results, Tryd.results7, go_sem, t0, t1, t2, t3]) rfl ?_
  exact ⟨rfl, (((b2.setCell (by simp) _).setCell (by simp) _).setCell (by simp) _).setCell (by simp) _⟩

set_option maxHeartbeats 1000000 in
theorem pp_ne (R : List UInt8) (six : Bool) (x : Nat) (v : Int) (T : List UInt8) (hne : (T == R) = false) (hl : R.length ≤ 600)
    (K1 : Hid (∀ W : World, RTabs W → Calls Tryd.prog 15 #[.string ⟨R.toArray⟩] W fun e w' => e = .returned (.tuple #[.agg #[.bool six, .int .u64 (aH x), .int .u64 (aL x), .int .i64 v], .bool true]) ∧ Below W.heap.size W w'))
    (K2 : Hid (∀ W : World, Tabs W → Calls Tryd.prog 16 #[.agg #[.bool six, .int .u64 (aH x), .int .u64 (aL x), .int .i64 v]] W fun e w' => e = .returned (.tuple #[.string ⟨T.toArray⟩, .int .i64 0]) ∧ Below W.heap.size W w')) (w : World) (hr : RTabs w) :
    Calls Tryd.prog 7 #[.string ⟨R.toArray⟩] w fun e w' => e = .returned (.tuple #[.agg #[.bool false, .int .u64 0, .int .u64 0, .int .i64 0], .int .i64 4]) ∧ Below w.heap.size w w' := by
  have HR := Lib.hid hr
  clear hr
  have hsz : (⟨R.toArray⟩ : ByteArray).size = R.length := by simp [ByteArray.size]
  go_enter Tryd.func7, Tryd.ntmps7
  go_wp2_with fail
  refine (K1.out _ (HR.out.alloc _)).mono ?_
  rintro e w1 ⟨rfl, hb1⟩
  have b1 := thenBelow ((Below.refl _ w).alloc (Nat.le_refl _) _) hb1
  have HR1 := Lib.hid ((HR.out.alloc _).keep hb1)
  have HT1 := Lib.hid ((PreV.new w false 0 0 0 30).keep hb1)
  clear hb1 HR
  go_wp2_with fail
  refine (K2.out _ (HR1.out.1.alloc _)).mono ?_
  rintro e w2 ⟨rfl, hb2⟩
  have b2 := thenBelow (b1.alloc b1.size _) hb2
  have T2 := (HT1.out.alloc _).keep hb2
  obtain ⟨p0, p1, p2, p3, pl⟩ := (PreAt.new w1 six (aH x) (aL x) v 30).keep hb2
  obtain ⟨⟨t0, t1, t2, t3, tl⟩, tf⟩ := T2
  have g0 := tf 0; have g1 := tf 1; have g2 := tf 2; have g3 := tf 3
  clear hb2 tf
  go_wp2
  try simp only [Exit.inBlock, Exit.then]
  refine bodyPost_ret (v := .tuple #[.agg #[.bool false, .int .u64 0, .int .u64 0, .int .i64 0], .int .i64 4]) (by simp [results, Tryd.results7, go_sem, t0, t1, t2, t3]) rfl ?_
  exact ⟨rfl, (((b2.setCell (by simp) _).setCell (by simp) _).setCell (by simp) _).setCell (by simp) _⟩

set_option maxHeartbeats 1000000 in
theorem pp_yes (R : List UInt8) (six : Bool) (x : Nat) (v : Int) (hl : R.length ≤ 600)
    (K1 : Hid (∀ W : World, RTabs W → Calls Tryd.prog 15 #[.string ⟨R.toArray⟩] W fun e w' => e = .returned (.tuple #[.agg #[.bool six, .int .u64 (aH x), .int .u64 (aL x), .int .i64 v], .bool true]) ∧ Below W.heap.size W w'))
    (K2 : Hid (∀ W : World, Tabs W → Calls Tryd.prog 16 #[.agg #[.bool six, .int .u64 (aH x), .int .u64 (aL x), .int .i64 v]] W fun e w' => e = .returned (.tuple #[.string ⟨R.toArray⟩, .int .i64 0]) ∧ Below W.heap.size W w')) (w : World) (hr : RTabs w) :
    Calls Tryd.prog 7 #[.string ⟨R.toArray⟩] w fun e w' => e = .returned (.tuple #[.agg #[.bool six, .int .u64 (aH x), .int .u64 (aL x), .int .i64 v], .int .i64 0]) ∧ Below w.heap.size w w' := by
  have HR := Lib.hid hr
  clear hr
  have hsz : (⟨R.toArray⟩ : ByteArray).size = R.length := by simp [ByteArray.size]
  go_enter Tryd.func7, Tryd.ntmps7
  go_wp2_with fail
  refine (K1.out _ (HR.out.alloc _)).mono ?_
  rintro e w1 ⟨rfl, hb1⟩
  have b1 := thenBelow ((Below.refl _ w).alloc (Nat.le_refl _) _) hb1
  have HR1 := Lib.hid ((HR.out.alloc _).keep hb1)
  have HT1 := Lib.hid ((PreV.new w false 0 0 0 30).keep hb1)
  clear hb1 HR
  go_wp2_with fail
  refine (K2.out _ (HR1.out.1.alloc _)).mono ?_
  rintro e w2 ⟨rfl, hb2⟩
  have b2 := thenBelow (b1.alloc b1.size _) hb2
  have T2 := (HT1.out.alloc _).keep hb2
  obtain ⟨p0, p1, p2, p3, pl⟩ := (PreAt.new w1 six (aH x) (aL x) v 30).keep hb2
  obtain ⟨⟨t0, t1, t2, t3, tl⟩, tf⟩ := T2
  have g0 := tf 0; have g1 := tf 1; have g2 := tf 2; have g3 := tf 3
  clear hb2 tf
  go_wp2
  try simp only [Exit.inBlock, Exit.then]
  refine bodyPost_ret (v := .tuple #[.agg #[.bool six, .int .u64 (aH x), .int .u64 (aL x), .int .i64 v], .int .i64 0]) (by simp [results, Tryd.results7, go_sem, t0, t1, t2, t3]) rfl ?_
  exact ⟨rfl, (((b2.setCell (by simp) _).setCell (by simp) _).setCell (by simp) _).setCell (by simp) _⟩

set_option maxHeartbeats 400000 in
theorem pp_long (s : List UInt8) (hl : 600 < s.length) (hm : s.length ≤ 9223372036854775807) (w : World) :
    Calls Tryd.prog 7 #[.string ⟨s.toArray⟩] w fun e w' => e = .returned (.tuple #[.agg #[.bool false, .int .u64 0, .int .u64 0, .int .i64 0], .int .i64 1]) ∧ Below w.heap.size w w' := by
  have hsz : (⟨s.toArray⟩ : ByteArray).size = s.length := by simp [ByteArray.size]
  have hli : 600 < (s.length : Int) := by omega
  go_enter Tryd.func7, Tryd.ntmps7
  go_wp2
  go_returns
  exact ⟨rfl, by go_grown⟩
end Go.Proofs.YtojdlhiibffnfabDoor

/-
  pre.Parse at any text of 600 bytes or fewer: it is the text of a valid prefix, and that prefix comes out; or of none, and ErrForm comes out.
-/
namespace Go.Proofs.YtojdlhiibffnfabDoor
open Go.RowKit Go.Sort
set_option linter.unusedVariables false
set_option linter.unusedSimpArgs false

/-- s is the text of this valid prefix. -/
def IsPre (s : List UInt8) (six : Bool) (x n : Nat) : Prop := x < 2 ^ wideN six ∧ n ≤ wideN six ∧ chkE six x n = 0 ∧ preT six x n = s
theorem parseOf_some {s : List UInt8} {six : Bool} {H L : Nat} (h : parseOf s = some (six, H, L)) : H < 18446744073709551616 ∧ L < 18446744073709551616 := by
  unfold parseOf at h
  split at h
  · rename_i six2 H2 L2 hr
    split at h
    · simp only [Option.some.injEq, Prod.mk.injEq] at h
      obtain ⟨rfl, rfl, rfl⟩ := h
      exact readOf_lt hr
    · cases h
  · cases h
theorem pp_none (s : List UInt8) (hl : s.length ≤ 600) (hno : ∀ six x n, ¬ IsPre s six x n) (w : World) (hr : RTabs w) :
    Calls Tryd.prog 7 #[.string ⟨s.toArray⟩] w fun e w' => e = .returned (.tuple #[.agg #[.bool false, .int .u64 0, .int .u64 0, .int .i64 0], .int .i64 4]) ∧ Below w.heap.size w w' := by
  have hcl := cut_len s [47]
  have k1 := fun (W : World) (h : RTabs W) => cut_any s hl W h
  have k2 := fun (W : World) (h : RTabs W) => parse_calls (Lib.cut s [47]).1 (by omega) W h
  cases hp : parseOf (Lib.cut s [47]).1 with
  | none =>
    rw [hp] at k2
    exact pp_noread s hl (Lib.hid (fun W h => read_no1 s _ _ _ 4 rfl (Lib.hid k1) (Lib.hid k2) W h)) w hr
  | some t =>
    obtain ⟨six, H, L⟩ := t
    rw [hp] at k2
    obtain ⟨hH, hL⟩ := parseOf_some hp
    have eH : (H : Int) = aH (H * 18446744073709551616 + L) := by unfold aH; omega
    have eL : (L : Int) = aL (H * 18446744073709551616 + L) := by unfold aL; omega
    have k2' : ∀ W : World, RTabs W → Calls Tryd.prog 5 #[.string ⟨(Lib.cut s [47]).1.toArray⟩] W fun e w' => e = .returned (.tuple #[.agg #[.bool six, .int .u64 (aH (H * 18446744073709551616 + L)), .int .u64 (aL (H * 18446744073709551616 + L))], .int .i64 0]) ∧ Below W.heap.size W w' := by
      rw [← eH, ← eL]
      exact k2
    have hx : H * 18446744073709551616 + L < 2 ^ 128 := by omega
    generalize H * 18446744073709551616 + L = x at *
    by_cases hA : ∃ v, Lib.atoiAll (Lib.cut s [47]).2.1 = .ok v
    · obtain ⟨v, hv⟩ := hA
      have rd := fun (W : World) (h : RTabs W) => read_yes s _ _ _ six x v (Lib.hid k1) (Lib.hid k2') (Lib.hid (fun W => atoi_good _ (by omega) v hv W)) W h
      by_cases hc : chkE six x v = 0
      · obtain ⟨hxv, n, rfl, hn, hlow⟩ := chk0 hc
        have hne : (preT six x n == s) = false := by
          have : preT six x n ≠ s := fun e => hno six x n ⟨hxv, hn, hc, e⟩
          simpa using this
        exact pp_ne s six x n (preT six x n) hne hl (Lib.hid rd) (Lib.hid (fun W h => pText_ok six x n hxv hn hc W h)) w hr
      · exact pp_err s six x v _ _ (by simpa using hc) hl (Lib.hid rd) (Lib.hid (fun W _ => pText_err six x v _ hx rfl (by simpa using hc) W)) w hr
    · have rd := fun (W : World) (h : RTabs W) => read_no2 s _ _ _ six x (Lib.hid k1) (Lib.hid k2') (Lib.hid (fun W h => atoi_bad _ (by omega) (fun v hv => hA ⟨v, hv⟩) W h)) W h
      exact pp_noread s hl (Lib.hid rd) w hr
theorem pp_some (s : List UInt8) (six : Bool) (x n : Nat) (h : IsPre s six x n) (w : World) (hr : RTabs w) :
    Calls Tryd.prog 7 #[.string ⟨s.toArray⟩] w fun e w' => e = .returned (.tuple #[.agg #[.bool six, .int .u64 (aH x), .int .u64 (aL x), .int .i64 n], .int .i64 0]) ∧ Below w.heap.size w w' := by
  obtain ⟨h1, h2, h3, rfl⟩ := h
  exact parse_pre six x n h1 h2 h3 w hr
/-- A text is that of one prefix alone. -/
theorem isPre_inj {s : List UInt8} {six six2 : Bool} {x x2 n n2 : Nat} (h : IsPre s six x n) (k : IsPre s six2 x2 n2) : six = six2 ∧ x = x2 ∧ n = n2 := by
  obtain ⟨a1, a2, a3, rfl⟩ := h
  obtain ⟨b1, b2, b3, e⟩ := k
  have ha := lt128 a1
  have hb := lt128 b1
  have c1 := cut47 (textL six (x / 18446744073709551616) (x % 18446744073709551616)) (numText 10 3 n) (textL_no47 _ _ _)
  have c2 := cut47 (textL six2 (x2 / 18446744073709551616) (x2 % 18446744073709551616)) (numText 10 3 n2) (textL_no47 _ _ _)
  have e' : textL six2 (x2 / 18446744073709551616) (x2 % 18446744073709551616) ++ [47] ++ numText 10 3 n2 = textL six (x / 18446744073709551616) (x % 18446744073709551616) ++ [47] ++ numText 10 3 n := e
  rw [e', c1] at c2
  simp only [Prod.mk.injEq, and_true] at c2
  obtain ⟨t1, t2⟩ := c2
  obtain ⟨r1, r2, r3⟩ := text_inj (by omega) (by omega) (textE0 six x a1) (by omega) (by omega) (textE0 six2 x2 b1) t1
  have w1 := wideN_le six
  have w2 := wideN_le six2
  have q1 := atoiB_ok (atoi_num ⟨n, by omega⟩)
  have q2 := atoiB_ok (atoi_num ⟨n2, by omega⟩)
  simp only at q1 q2
  rw [t2, q2] at q1
  injection q1 with q
  exact ⟨r1, by omega, by omega⟩
end Go.Proofs.YtojdlhiibffnfabDoor

/-
  The document's PreParse, whole: it answers the prefix whose text this is, or ErrForm.
-/
namespace Go.Proofs.YtojdlhiibffnfabDoor
open Go.RowKit Go.Sort
set_option linter.unusedVariables false
set_option linter.unusedSimpArgs false

/-- The first slash, if there is one. -/
theorem first47 (s : List UInt8) : (∀ k (h : k < s.length), s[k] ≠ 47) ∨ ∃ F, ∃ h : F < s.length, s[F] = 47 ∧ ∀ k (h : k < s.length), k < F → s[k] ≠ 47 := by
  induction s with
  | nil => exact .inl fun k h => by simp at h
  | cons c t ih =>
    by_cases hc : c = 47
    · exact .inr ⟨0, by simp, hc, fun k _ h => by omega⟩
    · rcases ih with h | ⟨F, hF, e, h⟩
      · refine .inl fun k hk => ?_
        cases k with
        | zero => exact hc
        | succ k => exact h k (by simpa using hk)
      · refine .inr ⟨F + 1, by simpa using hF, e, fun k hk hlt => ?_⟩
        cases k with
        | zero => exact hc
        | succ k => exact h k (by simpa using hk) (by omega)
theorem dp_none (s : List UInt8) (hl : s.length ≤ 600) (hno : ∀ six x n, ¬ IsPre s six x n) (w : World) :
    Calls Tryd.prog 8 #[.string ⟨s.toArray⟩] w fun e w' => e = .returned pErr ∧ Below w.heap.size w w' := by
  rcases first47 s with h | ⟨F, hF, e0, hf⟩
  · exact pd_none s hl h w
  · have htl : (s.take F).length ≤ 600 := by rw [List.length_take]; omega
    have KA := fun W : World => doc_parse (s.take F) htl W
    cases hp : parseOf (s.take F) with
    | none =>
      rw [hp] at KA
      exact pd_noaddr s hl F hF e0 hf false 0 0 4 (Lib.hid KA) rfl w
    | some t =>
      obtain ⟨six, H, L⟩ := t
      rw [hp] at KA
      obtain ⟨hH, hL⟩ := parseOf_some hp
      have eH : (H : Int) = aH (H * 18446744073709551616 + L) := by unfold aH; omega
      have eL : (L : Int) = aL (H * 18446744073709551616 + L) := by unfold aL; omega
      have KA' : ∀ W : World, Calls Tryd.prog 6 #[.string ⟨(s.take F).toArray⟩] W fun e w' => e = .returned (.tuple #[.agg #[.bool six, .int .u64 (aH (H * 18446744073709551616 + L)), .int .u64 (aL (H * 18446744073709551616 + L))], .int .i64 0]) ∧ Below W.heap.size W w' := by
        rw [← eH, ← eL]; exact KA
      have hx : H * 18446744073709551616 + L < 2 ^ 128 := by omega
      generalize H * 18446744073709551616 + L = x at KA' hx
      cases hr : rn 10 128 47 [] (-1) (s.drop (F + 1)) with
      | none => exact pd_nonum s hl F hF e0 hf six _ _ (Lib.hid KA') (by rw [hr]; rfl) w
      | some ns =>
        by_cases h1 : ns.length = 1
        · obtain ⟨n, rfl⟩ := List.length_eq_one_iff.1 h1
          by_cases hc : chkE six x n = 0
          · obtain ⟨hxv, m, rfl, hm, hlow⟩ := chk0 hc
            have hne : (preT six x m == s) = false := by
              have : preT six x m ≠ s := fun e => hno six x m ⟨hxv, hm, hc, e⟩
              simpa using this
            exact pd_ne s hl F hF e0 hf six _ _ (Lib.hid KA') m hr _ 0 (Lib.hid fun W => refPText_ok six x m hxv hm hc W) rfl hne w
          · exact pd_err s hl F hF e0 hf six _ _ (Lib.hid KA') n hr [] _ (Lib.hid fun W => refPText_err six x n _ hx rfl (by simpa using hc) W) (by simpa using hc) w
        · exact pd_len s hl F hF e0 hf six _ _ (Lib.hid KA') ns hr h1 w
theorem nodig47 : NoDig 47 := fun d => dig_not47 d
theorem dp_some (s : List UInt8) (hl : s.length ≤ 600) (six : Bool) (x n : Nat) (h : IsPre s six x n) (w : World) :
    Calls Tryd.prog 8 #[.string ⟨s.toArray⟩] w fun e w' => e = .returned (.tuple #[.agg #[.bool six, .int .u64 (aH x), .int .u64 (aL x), .int .i64 n], .int .i64 0]) ∧ Below w.heap.size w w' := by
  obtain ⟨hx, hn, hc, hs⟩ := h
  have hx' := lt128 hx
  have hW := wideN_le six
  obtain ⟨A, hA⟩ : ∃ A, textL six (x / 18446744073709551616) (x % 18446744073709551616) = A := ⟨_, rfl⟩
  obtain ⟨B, hB⟩ : ∃ B, numText 10 3 n = B := ⟨_, rfl⟩
  have no : ∀ c ∈ A, c ≠ 47 := fun c hc e => by
    have := textL_no47 six (x / 18446744073709551616) (x % 18446744073709551616)
    rw [hA] at this
    exact absurd (e ▸ hc) (List.count_eq_zero.1 this)
  have es : s = A ++ 47 :: B := by rw [← hs]; unfold preT; rw [hA, hB]; simp
  have hF : A.length < s.length := by rw [es]; simp
  have e0 : s[A.length]'hF = 47 := by simp [es]
  have hf : ∀ k (h : k < s.length), k < A.length → s[k] ≠ 47 := fun k hk hlt => by
    have : s[k] = A[k] := by simp [es, List.getElem_append_left hlt]
    rw [this]; exact no _ (List.getElem_mem hlt)
  have et : s.take A.length = A := by rw [es]; simp
  have ed : s.drop (A.length + 1) = B := by rw [es]; simp [List.drop_append]
  have KA : ∀ W : World, Calls Tryd.prog 6 #[.string ⟨(s.take A.length).toArray⟩] W fun e w' => e = .returned (.tuple #[.agg #[.bool six, .int .u64 (aH x), .int .u64 (aL x)], .int .i64 0]) ∧ Below W.heap.size W w' := fun W => by
    rw [et]
    have := doc_parse A (by rw [es] at hl; simp at hl; omega) W
    rw [← hA, parse_back six _ _ (by omega) (by omega) (textE0 six x hx)] at this
    rw [← hA]
    have eH : aH x = ((x / 18446744073709551616 : Nat) : Int) := by unfold aH; omega
    have eL : aL x = ((x % 18446744073709551616 : Nat) : Int) := by unfold aL; omega
    rw [eH, eL]
    exact this
  have hr : rn 10 128 47 [] (-1) (s.drop (A.length + 1)) = some [(n : Int)] := by
    rw [ed, ← hB]
    have := rn_num 10 128 47 (by decide) (by decide) (by decide) nodig47 [] 2 n (by omega) (by omega) []
    rw [List.append_nil] at this
    rw [this]
    unfold rn
    rw [if_neg (by omega)]; rfl
  exact pd_yes s hl A.length hF e0 hf six _ _ (Lib.hid KA) n hr (Lib.hid fun W => by have := refPText_ok six x n hx hn hc W; rw [hs] at this; exact this) w
end Go.Proofs.YtojdlhiibffnfabDoor

/-
  How an address reads as an argument, and as it reads again.
-/
namespace Go.Proofs.YtojdlhiibffnfabDoor
open Go.ChangeShapes Go.WideShapes Go.ChangeAt Go.RowKit Go.Joins
set_option linter.unusedSimpArgs false
set_option maxRecDepth 100000
section
variable {H : Type} {enc : TypeId × Value → H} {w : World} {base : Nat} {spare : Nat → Bool} {held : Bool}

theorem cellsAddr : Tryd.prog.cellsOf 24 = 3 := by kernel_rfl

/-- An address by value. -/
theorem openAddr {r : Reach} {b0 : Nat} {v : Value} {d : DataW H} {p : List MemPlace} (hv : Value.okWide Tryd.prog w r b0 24 v) (h : DataW.Trod enc Tryd.prog w base spare held 24 v d p) :
    ∃ (six : Bool) (hi lo : Int), v = .agg #[.bool six, .int .u64 hi, .int .u64 lo] ∧ d = .agg [.lit (.bool six), .lit (.int .u64 hi), .lit (.int .u64 lo)] ∧ p = [] ∧ (Lit.int .u64 hi).wf = true ∧ (Lit.int .u64 lo).wf = true := by
  obtain ⟨c0, c1, c2, y0, y1, y2, m, rfl, rfl, rfl, hy0, hy1, hy2⟩ := open_agg3 Tryd.underlying24 (by kernel_rfl) cellsAddr hv h
  obtain ⟨six, e0, rfl⟩ := DataW.trod_bool Tryd.underlying4 hy0
  obtain ⟨hi, e1, rfl, w1⟩ := DataW.trod_int Tryd.underlying22 hy1
  obtain ⟨lo, e2, rfl, w2⟩ := DataW.trod_int Tryd.underlying22 hy2
  simp at e0 e1 e2
  subst e0 e1 e2
  exact ⟨six, hi, lo, rfl, rfl, rfl, w1, w2⟩

theorem shutAddr {six : Bool} {hi lo : Int} (w1 : (Lit.int .u64 hi).wf = true) (w2 : (Lit.int .u64 lo).wf = true) :
    DataW.Trod enc Tryd.prog w base spare held 24 (.agg #[.bool six, .int .u64 hi, .int .u64 lo]) (.agg [.lit (.bool six), .lit (.int .u64 hi), .lit (.int .u64 lo)]) [] :=
  shut_agg3 (y0 := (.lit (.bool six), [])) (y1 := (.lit (.int .u64 hi), [])) (y2 := (.lit (.int .u64 lo), [])) Tryd.underlying24 (by kernel_rfl) cellsAddr ⟨1, by simp [DataW.trod, Tryd.underlying4]⟩ ⟨1, by simp [DataW.trod, Tryd.underlying22, w1]⟩ ⟨1, by simp [DataW.trod, Tryd.underlying22, w2]⟩
end
end Go.Proofs.YtojdlhiibffnfabDoor

/-
  The contract of the document's bitsOf: the bits of an address, the highest first, in new memory.
-/
import Derived.Test.YtnpcofaonimpcaaDoorProg
import Derived.Test.YtnpcofaonimpcaaDoorPlain
namespace Go.Proofs.YtnpcofaonimpcaaDoor
open Go.RowKit
set_option linter.unusedVariables false
set_option linter.unusedSimpArgs false

/-- The bits of an address. -/
def bitsL (six : Bool) (hi lo : Int) : List Int := if six then bitsTo hi 64 64 ++ bitsTo lo 64 64 else bitsTo lo 32 32

theorem info_int : (Tryd.prog.info? 3).map (fun i => (i.zero, i.size, i.bytes)) = some (some (.int .i64 0), 1, 8) := by kernel_rfl

/-- A slice of ints that a call has made (its blocks from 'base' on). -/
def OwnInts (w : World) (base : Nat) (v : Value) (xs : List Int) : Prop := w.ownsRow base 3 1 v xs.length (xs.map (Value.int .i64))

theorem below_app {B b0 : Nat} {w wr w1 : World} {e : TypeId} {size n : Nat} {v : Value} {xs : List Value} {o : Obj} (hb : Below B w wr) (hB : B ≤ b0) (hw : B ≤ w.heap.size) (hown : wr.ownsRow b0 e size v n xs) (hg : (wr.alloc o).grownBy w1 v.ownBlock) : Below B w w1 :=
  (hb.alloc (Nat.le_trans hw hb.size) o).grown hg (by have := hb.size; simp; omega) (fun k hk => Nat.le_trans hB (hown.lt k hk).1)

theorem bitsL_length (six : Bool) (hi lo : Int) : (bitsL six hi lo).length = if six then 128 else 32 := by
  cases six <;> simp [bitsL, bitsTo_length]
theorem bitsTo_get (x : Int) (n k j : Nat) (h : j < k) : (bitsTo x n k)[j]? = some (bitW x (n - 1 - j)) := by
  simp [bitsTo, List.getElem?_range h]
theorem bitsL_get (six : Bool) (hi lo : Int) (j : Nat) (h : j < if six then 128 else 32) : (bitsL six hi lo)[j]? = some (bitAt six hi lo j) := by
  cases six
  · simp at h
    simp only [bitsL, bitAt]
    exact bitsTo_get _ _ _ _ h
  · simp at h
    simp only [bitsL, bitAt, if_true]
    by_cases hj : j < 64
    · rw [List.getElem?_append_left (by rw [bitsTo_length]; exact hj), if_pos hj]; exact bitsTo_get _ _ _ _ hj
    · rw [List.getElem?_append_right (by rw [bitsTo_length]; omega), if_neg hj, bitsTo_length, bitsTo_get _ _ _ _ (by omega)]
      rw [show 64 - 1 - (j - 64) = 127 - j from by omega]

end Go.Proofs.YtnpcofaonimpcaaDoor

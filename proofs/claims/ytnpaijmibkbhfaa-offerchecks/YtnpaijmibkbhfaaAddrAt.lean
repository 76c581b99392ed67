/-
  Block b holds this address.
-/
import Derived.Test.YtnpaijmibkbhfaaBase
import Derived.RowKit
namespace Go.Proofs.Ytnpaijmibkbhfaa
open Go.RowKit
def AddrAt (w : World) (b : Nat) (s : Bool) (h l : Int) : Prop := w.cell? ⟨b, 0, none⟩ = some (.bool s) ∧ w.cell? ⟨b, 1, none⟩ = some (.int .u64 h) ∧ w.cell? ⟨b, 2, none⟩ = some (.int .u64 l) ∧ b < w.heap.size
theorem AddrAt.keep {w w' : World} {b : Nat} {s : Bool} {h l : Int} (a : AddrAt w b s h l) (hb : Below w.heap.size w w') : AddrAt w' b s h l :=
  ⟨(hb.cell (p := ⟨b, 0, none⟩) a.2.2.2).trans a.1, (hb.cell (p := ⟨b, 1, none⟩) a.2.2.2).trans a.2.1, (hb.cell (p := ⟨b, 2, none⟩) a.2.2.2).trans a.2.2.1, Nat.lt_of_lt_of_le a.2.2.2 hb.size⟩
theorem AddrAt.alloc {w : World} {b : Nat} {s : Bool} {h l : Int} (a : AddrAt w b s h l) (o : Obj) : AddrAt (w.alloc o) b s h l :=
  a.keep ((Below.refl _ _).alloc (Nat.le_refl _) o)
theorem AddrAt.new (w : World) (s : Bool) (h l : Int) (t : TypeId) : AddrAt (w.alloc (.cells #[.bool s, .int .u64 h, .int .u64 l] t)) w.heap.size s h l :=
  ⟨by simp, by simp, by simp, by simp⟩
end Go.Proofs.Ytnpaijmibkbhfaa

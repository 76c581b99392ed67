/-
  Laid together: AddrAt, PreAt.
-/
import Derived.Test.YtgajepmnklbmpaaG1
import Derived.RowKit
/-
  Block b holds this address.
-/
namespace Go.Proofs.Ytgajepmnklbmpaa
open Go.RowKit
def AddrAt (w : World) (b : Nat) (s : Bool) (h l : Int) : Prop := w.cell? ⟨b, 0, none⟩ = some (.bool s) ∧ w.cell? ⟨b, 1, none⟩ = some (.int .u64 h) ∧ w.cell? ⟨b, 2, none⟩ = some (.int .u64 l) ∧ b < w.heap.size
theorem AddrAt.keep {w w' : World} {b : Nat} {s : Bool} {h l : Int} (a : AddrAt w b s h l) (hb : Below w.heap.size w w') : AddrAt w' b s h l :=
  ⟨(hb.cell (p := ⟨b, 0, none⟩) a.2.2.2).trans a.1, (hb.cell (p := ⟨b, 1, none⟩) a.2.2.2).trans a.2.1, (hb.cell (p := ⟨b, 2, none⟩) a.2.2.2).trans a.2.2.1, Nat.lt_of_lt_of_le a.2.2.2 hb.size⟩
theorem AddrAt.alloc {w : World} {b : Nat} {s : Bool} {h l : Int} (a : AddrAt w b s h l) (o : Obj) : AddrAt (w.alloc o) b s h l :=
  a.keep ((Below.refl _ _).alloc (Nat.le_refl _) o)
theorem AddrAt.new (w : World) (s : Bool) (h l : Int) (t : TypeId) : AddrAt (w.alloc (.cells #[.bool s, .int .u64 h, .int .u64 l] t)) w.heap.size s h l :=
  ⟨by simp, by simp, by simp, by simp⟩
end Go.Proofs.Ytgajepmnklbmpaa
/-
  Block b holds this prefix.
-/
namespace Go.Proofs.Ytgajepmnklbmpaa
open Go.RowKit
set_option linter.unusedVariables false
set_option linter.unusedSimpArgs false
def PreAt (w : World) (b : Nat) (s : Bool) (h l n : Int) : Prop := w.cell? ⟨b, 0, none⟩ = some (.bool s) ∧ w.cell? ⟨b, 1, none⟩ = some (.int .u64 h) ∧ w.cell? ⟨b, 2, none⟩ = some (.int .u64 l) ∧ w.cell? ⟨b, 3, none⟩ = some (.int .i64 n) ∧ b < w.heap.size
theorem PreAt.keep {w w' : World} {b : Nat} {s : Bool} {h l n : Int} (a : PreAt w b s h l n) (hb : Below w.heap.size w w') : PreAt w' b s h l n :=
  ⟨(hb.cell (p := ⟨b, 0, none⟩) a.2.2.2.2).trans a.1, (hb.cell (p := ⟨b, 1, none⟩) a.2.2.2.2).trans a.2.1, (hb.cell (p := ⟨b, 2, none⟩) a.2.2.2.2).trans a.2.2.1, (hb.cell (p := ⟨b, 3, none⟩) a.2.2.2.2).trans a.2.2.2.1, Nat.lt_of_lt_of_le a.2.2.2.2 hb.size⟩
theorem PreAt.alloc {w : World} {b : Nat} {s : Bool} {h l n : Int} (a : PreAt w b s h l n) (o : Obj) : PreAt (w.alloc o) b s h l n :=
  a.keep ((Below.refl _ _).alloc (Nat.le_refl _) o)
theorem PreAt.new (w : World) (s : Bool) (h l n : Int) (t : TypeId) : PreAt (w.alloc (.cells #[.bool s, .int .u64 h, .int .u64 l, .int .i64 n] t)) w.heap.size s h l n :=
  ⟨by simp, by simp, by simp, by simp, by simp⟩
/-- .. and it may be written. -/
def PreV (w : World) (b : Nat) (s : Bool) (h l n : Int) : Prop := PreAt w b s h l n ∧ ∀ o, w.frozen? ⟨b, o, none⟩ = false
theorem PreV.keep {w w' : World} {b : Nat} {s : Bool} {h l n : Int} (a : PreV w b s h l n) (hb : Below w.heap.size w w') : PreV w' b s h l n :=
  ⟨a.1.keep hb, fun o => (hb.frozen (p := ⟨b, o, none⟩) a.1.2.2.2.2).trans (a.2 o)⟩
theorem PreV.alloc {w : World} {b : Nat} {s : Bool} {h l n : Int} (a : PreV w b s h l n) (o : Obj) : PreV (w.alloc o) b s h l n :=
  a.keep ((Below.refl _ _).alloc (Nat.le_refl _) o)
theorem PreV.new (w : World) (s : Bool) (h l n : Int) (t : TypeId) : PreV (w.alloc (.cells #[.bool s, .int .u64 h, .int .u64 l, .int .i64 n] t)) w.heap.size s h l n :=
  ⟨PreAt.new w s h l n t, fun o => by simp [go_sem]⟩
def AddrV (w : World) (b : Nat) (s : Bool) (h l : Int) : Prop := AddrAt w b s h l ∧ ∀ o, w.frozen? ⟨b, o, none⟩ = false
theorem AddrV.keep {w w' : World} {b : Nat} {s : Bool} {h l : Int} (a : AddrV w b s h l) (hb : Below w.heap.size w w') : AddrV w' b s h l :=
  ⟨a.1.keep hb, fun o => (hb.frozen (p := ⟨b, o, none⟩) a.1.2.2.2).trans (a.2 o)⟩
theorem AddrV.alloc {w : World} {b : Nat} {s : Bool} {h l : Int} (a : AddrV w b s h l) (o : Obj) : AddrV (w.alloc o) b s h l :=
  a.keep ((Below.refl _ _).alloc (Nat.le_refl _) o)
theorem AddrV.new (w : World) (s : Bool) (h l : Int) (t : TypeId) : AddrV (w.alloc (.cells #[.bool s, .int .u64 h, .int .u64 l] t)) w.heap.size s h l :=
  ⟨AddrAt.new w s h l t, fun o => by simp [go_sem]⟩
theorem AddrV.drew {w : World} {b : Nat} {s : Bool} {h l : Int} (a : AddrV w b s h l) : AddrV w.drew b s h l := a.keep (Below.refl _ _).drew
theorem PreV.drew {w : World} {b : Nat} {s : Bool} {h l n : Int} (a : PreV w b s h l n) : PreV w.drew b s h l n := a.keep (Below.refl _ _).drew
theorem AddrV.far {w : World} {b : Nat} {s : Bool} {h l : Int} (a : AddrV w b s h l) {p : Addr} (hp : b ≠ p.block) (u : Value) : AddrV (w.setCell p u) b s h l := by
  have ne : ∀ o, p ≠ ⟨b, o, none⟩ := fun o e => hp (by rw [e])
  exact ⟨⟨(World.cell?_setCell_other w p _ u (ne 0)).trans a.1.1, (World.cell?_setCell_other w p _ u (ne 1)).trans a.1.2.1, (World.cell?_setCell_other w p _ u (ne 2)).trans a.1.2.2.1, by simpa using a.1.2.2.2⟩, fun o => by rw [World.frozen?_setCell]; exact a.2 o⟩
theorem AddrV.store {w : World} {b : Nat} {s : Bool} {h l : Int} (a : AddrV w b s h l) (s2 : Bool) (h2 l2 : Int) :
    AddrV (((w.setCell ⟨b, 0, none⟩ (.bool s2)).setCell ⟨b, 1, none⟩ (.int .u64 h2)).setCell ⟨b, 2, none⟩ (.int .u64 l2)) b s2 h2 l2 := by
  obtain ⟨⟨a0, a1, a2, az⟩, af⟩ := a
  exact ⟨⟨by simp [go_sem, a0, a1, a2], by simp [go_sem, a0, a1, a2], by simp [go_sem, a0, a1, a2], by simpa using az⟩, fun o => by simp only [World.frozen?_setCell]; exact af o⟩
theorem PreV.far {w : World} {b : Nat} {s : Bool} {h l n : Int} (a : PreV w b s h l n) {p : Addr} (hp : b ≠ p.block) (u : Value) : PreV (w.setCell p u) b s h l n := by
  have ne : ∀ o, p ≠ ⟨b, o, none⟩ := fun o e => hp (by rw [e])
  exact ⟨⟨(World.cell?_setCell_other w p _ u (ne 0)).trans a.1.1, (World.cell?_setCell_other w p _ u (ne 1)).trans a.1.2.1, (World.cell?_setCell_other w p _ u (ne 2)).trans a.1.2.2.1, (World.cell?_setCell_other w p _ u (ne 3)).trans a.1.2.2.2.1, by simpa using a.1.2.2.2.2⟩, fun o => by rw [World.frozen?_setCell]; exact a.2 o⟩
theorem PreV.store {w : World} {b : Nat} {s : Bool} {h l n : Int} (a : PreV w b s h l n) (s2 : Bool) (h2 l2 n2 : Int) :
    PreV ((((w.setCell ⟨b, 0, none⟩ (.bool s2)).setCell ⟨b, 1, none⟩ (.int .u64 h2)).setCell ⟨b, 2, none⟩ (.int .u64 l2)).setCell ⟨b, 3, none⟩ (.int .i64 n2)) b s2 h2 l2 n2 := by
  obtain ⟨⟨a0, a1, a2, a3, az⟩, af⟩ := a
  exact ⟨⟨by simp [go_sem, a0, a1, a2, a3], by simp [go_sem, a0, a1, a2, a3], by simp [go_sem, a0, a1, a2, a3], by simp [go_sem, a0, a1, a2, a3], by simpa using az⟩, fun o => by simp only [World.frozen?_setCell]; exact af o⟩
end Go.Proofs.Ytgajepmnklbmpaa

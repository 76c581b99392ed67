/-
  The document's CidrRange: what its function value 'look' finds and leaves.
-/
import Derived.Test.YtojdlhiibffnfaaDoorCidrD
import Derived.Test.YtojdlhiibffnfaaDoorRefLess
import Derived.Test.YtojdlhiibffnfaaDoorRefHalves
namespace Go.Proofs.YtojdlhiibffnfaaDoor
open Go.RowKit
set_option linter.unusedVariables false
set_option linter.unusedSimpArgs false

/-- What 'look' finds: the range's ends, itself, and the list so far, in rows from 'base' on. -/
structure LookSt (six : Bool) (a b bF bL bO bK base : Nat) (w : World) (v : Value) (l : List PT) : Prop where
  hF : AddrAt w bF six (aH a) (aL a)
  hL : AddrAt w bL six (aH b) (aL b)
  hK : w.cell? ⟨bK, 0, none⟩ = some (.func (.func 39) #[] #[.pointer (some ⟨bF, 0, none⟩), .pointer (some ⟨bL, 0, none⟩), .pointer (some ⟨bO, 0, none⟩), .pointer (some ⟨bK, 0, none⟩)])
  hO : w.cell? ⟨bO, 0, none⟩ = some v
  fO : w.frozen? ⟨bO, 0, none⟩ = false
  own : Owned w base v l
  lF : bF < base
  lL : bL < base
  lK : bK < base
  lO : bO < base
  lB : base ≤ w.heap.size
  nF : bF ≠ bO
  nL : bL ≠ bO
  nK : bK ≠ bO
/-- What it leaves as it was. -/
structure Fr (bO : Nat) (v : Value) (w : World) (v' : Value) (w' : World) : Prop where
  os : w'.os = w.os
  tape : w'.tape = w.tape
  output : w'.output = w.output
  size : w.heap.size ≤ w'.heap.size
  block : ∀ k, k < w.heap.size → k ≠ bO → v.ownBlock ≠ some k → w'.heap[k]? = w.heap[k]?
  row : ∀ q, v'.ownBlock = some q → v.ownBlock = some q ∨ w.heap.size ≤ q
theorem Fr.of {bO : Nat} {v : Value} {w w' : World} (h : Below w.heap.size w w') : Fr bO v w v w' :=
  ⟨h.os, h.tape, h.output, h.size, fun k hk _ _ => h.block k hk, fun q hq => .inl hq⟩
theorem Fr.trans {bO : Nat} {v v1 v2 : Value} {w w1 w2 : World} (h : Fr bO v w v1 w1) (k : Fr bO v1 w1 v2 w2) : Fr bO v w v2 w2 := by
  refine ⟨k.os.trans h.os, k.tape.trans h.tape, k.output.trans h.output, Nat.le_trans h.size k.size, fun i hi hn hr => ?_, fun q hq => ?_⟩
  · refine (k.block i (Nat.lt_of_lt_of_le hi h.size) hn (fun e => ?_)).trans (h.block i hi hn hr)
    rcases h.row i e with c | c
    · exact hr c
    · omega
  · rcases k.row q hq with c | c
    · exact h.row q c
    · exact .inr (Nat.le_trans h.size c)
theorem Fr.below {bO B : Nat} {v v' : Value} {w w' : World} (h : Fr bO v w v' w') (hO : B ≤ bO) (hv : ∀ q, v.ownBlock = some q → B ≤ q) (hB : B ≤ w.heap.size) : Below B w w' :=
  ⟨h.os, h.tape, h.output, h.size, fun k hk => h.block k (by omega) (by omega) (fun e => by have := hv k e; omega)⟩
theorem PreAt.fr {bO : Nat} {v v' : Value} {w w' : World} {c : Nat} {s : Bool} {h l n : Int} (a : PreAt w c s h l n) (f : Fr bO v w v' w') (h1 : c ≠ bO) (h2 : v.ownBlock ≠ some c) : PreAt w' c s h l n := by
  have hb := f.block c a.2.2.2.2 h1 h2
  exact ⟨(World.cell?_of_block (a := ⟨c, 0, none⟩) hb).trans a.1, (World.cell?_of_block (a := ⟨c, 1, none⟩) hb).trans a.2.1, (World.cell?_of_block (a := ⟨c, 2, none⟩) hb).trans a.2.2.1, (World.cell?_of_block (a := ⟨c, 3, none⟩) hb).trans a.2.2.2.1, Nat.lt_of_lt_of_le a.2.2.2.2 f.size⟩
section
variable {six : Bool} {a b bF bL bO bK base : Nat} {w w' : World} {v : Value} {l : List PT}
theorem LookSt.keep (h : LookSt six a b bF bL bO bK base w v l) (hb : Below w.heap.size w w') : LookSt six a b bF bL bO bK base w' v l :=
  ⟨h.hF.keep hb, h.hL.keep hb, (hb.cell (p := ⟨bK, 0, none⟩) (Nat.lt_of_lt_of_le h.lK h.lB)).trans h.hK, (hb.cell (p := ⟨bO, 0, none⟩) (Nat.lt_of_lt_of_le h.lO h.lB)).trans h.hO, (hb.frozen (p := ⟨bO, 0, none⟩) (Nat.lt_of_lt_of_le h.lO h.lB)).trans h.fO,
    ownsKeep h.own hb, h.lF, h.lL, h.lK, h.lO, Nat.le_trans h.lB hb.size, h.nF, h.nL, h.nK⟩
/-- The list grows by one: a row is made and stored. -/
theorem LookSt.app {g cap : Nat} {w4 : World} {p : PT} {o : Obj} (h : LookSt six a b bF bL bO bK base w v l) (hg : (w.alloc o).grownBy w4 v.ownBlock)
    (own : Owned w4 base (.slice (some ⟨g, 0, none⟩) (l.length + 1) cap) (l ++ [p])) (hat : v.ownBlock = some g ∨ w.heap.size ≤ g) :
    LookSt six a b bF bL bO bK base (w4.setCell ⟨bO, 0, none⟩ (.slice (some ⟨g, 0, none⟩) (l.length + 1) cap)) (.slice (some ⟨g, 0, none⟩) (l.length + 1) cap) (l ++ [p]) ∧
    Fr bO v w (.slice (some ⟨g, 0, none⟩) (l.length + 1) cap) (w4.setCell ⟨bO, 0, none⟩ (.slice (some ⟨g, 0, none⟩) (l.length + 1) cap)) := by
  have hlt := h.own.lt
  have hsz : (w.alloc o).heap.size = w.heap.size + 1 := by simp
  have blk : ∀ k, k < w.heap.size → v.ownBlock ≠ some k → w4.heap[k]? = w.heap[k]? := fun k hk hn =>
    (hg.block k (by omega) (fun e => hn e.symm)).trans (Below.heap_alloc w o k hk)
  have nb : ∀ k, k < base → v.ownBlock ≠ some k := fun k hk e => by have := (hlt k e).1; omega
  have cl : ∀ k j, k < base → k ≠ bO → (w4.setCell ⟨bO, 0, none⟩ (.slice (some ⟨g, 0, none⟩) (l.length + 1) cap)).cell? ⟨k, j, none⟩ = w.cell? ⟨k, j, none⟩ := fun k j hk hn =>
    (World.cell?_setCell_other w4 ⟨bO, 0, none⟩ ⟨k, j, none⟩ _ (fun e => hn (by cases e; rfl))).trans (World.cell?_of_block (a := ⟨k, j, none⟩) (blk k (Nat.lt_of_lt_of_le hk h.lB) (nb k hk)))
  have hO4 : w4.cell? ⟨bO, 0, none⟩ = some v := (World.cell?_of_block (a := ⟨bO, 0, none⟩) (blk bO (Nat.lt_of_lt_of_le h.lO h.lB) (nb bO h.lO))).trans h.hO
  have s4 : w.heap.size ≤ w4.heap.size := by have := hg.size; omega
  refine ⟨⟨⟨(cl _ _ h.lF h.nF).trans h.hF.1, (cl _ _ h.lF h.nF).trans h.hF.2.1, (cl _ _ h.lF h.nF).trans h.hF.2.2.1, ?_⟩, ⟨(cl _ _ h.lL h.nL).trans h.hL.1, (cl _ _ h.lL h.nL).trans h.hL.2.1, (cl _ _ h.lL h.nL).trans h.hL.2.2.1, ?_⟩, (cl _ _ h.lK h.nK).trans h.hK, ?_, ?_, ownsRow_setCell_below own h.lO _, h.lF, h.lL, h.lK, h.lO, ?_, h.nF, h.nL, h.nK⟩, ?_⟩
  · have := h.lF; have := h.lB; simp; omega
  · have := h.lL; have := h.lB; simp; omega
  · simp [go_sem, hO4]
  · rw [World.frozen?_setCell]
    exact (World.frozen?_of_block (a := ⟨bO, 0, none⟩) (blk bO (Nat.lt_of_lt_of_le h.lO h.lB) (nb bO h.lO))).trans h.fO
  · have := h.lB; simp; omega
  · have bs : Below base w4 w4 := Below.refl _ _
    refine ⟨?_, ?_, ?_, by simp; omega, fun k hk hn hr => (Below.heap_setCell w4 ⟨bO, 0, none⟩ _ k hn).trans (blk k hk hr), fun q hq => ?_⟩
    · exact ((bs.mono (Nat.zero_le _)).setCell (p := ⟨bO, 0, none⟩) (Nat.zero_le _) _).os.trans hg.os
    · exact ((bs.mono (Nat.zero_le _)).setCell (p := ⟨bO, 0, none⟩) (Nat.zero_le _) _).tape.trans hg.tape
    · exact ((bs.mono (Nat.zero_le _)).setCell (p := ⟨bO, 0, none⟩) (Nat.zero_le _) _).output.trans hg.output
    · have : g = q := by simpa [Value.ownBlock] using hq
      subst this
      exact hat
end
/-- pre.Span and pre.Halves of a block, as the document has them. -/
theorem refSpan_al {six : Bool} {x k : Nat} (h : AL six x k) (w : World) :
    Calls Tryd.prog 40 #[.agg #[.bool six, .int .u64 (aH x), .int .u64 (aL x), .int .i64 ((wideN six - k : Nat) : Int)]] w fun e w' => e = .returned (.tuple #[.agg #[.bool six, .int .u64 (aH x), .int .u64 (aL x)], .agg #[.bool six, .int .u64 (aH (x + (2 ^ k - 1))), .int .u64 (aL (x + (2 ^ k - 1)))], .int .i64 0]) ∧ Below w.heap.size w w' :=
  refSpan_ok six x (wideN six - k) (x + (2 ^ k - 1)) h.lt (Nat.sub_le _ _) h.chk (by rw [show wideN six - (wideN six - k) = k by have := h.1; omega, h.topN]) w
theorem refHalves_al {six : Bool} {x k : Nat} (h : AL six x (k + 1)) (w : World) :
    Calls Tryd.prog 41 #[.agg #[.bool six, .int .u64 (aH x), .int .u64 (aL x), .int .i64 ((wideN six - (k + 1) : Nat) : Int)]] w fun e w' => e = .returned (.tuple #[.agg #[.bool six, .int .u64 (aH x), .int .u64 (aL x), .int .i64 ((wideN six - k : Nat) : Int)], .agg #[.bool six, .int .u64 (aH (x + 2 ^ k)), .int .u64 (aL (x + 2 ^ k)), .int .i64 ((wideN six - k : Nat) : Int)], .int .i64 0]) ∧ Below w.heap.size w w' := by
  have hk := h.1
  have c := refHalves_ok six x (wideN six - (k + 1)) (x + 2 ^ k) h.lt (by omega) h.chk (by rw [show wideN six - (wideN six - (k + 1)) = k + 1 by omega]; exact h.lowN) (by rw [show wideN six - (wideN six - (k + 1)) = k + 1 by omega, show wideN six - (wideN six - (k + 1) + 1) = k by omega, h.topN, h.halfTop]) w
  rw [show ((wideN six - (k + 1) : Nat) : Int) + 1 = ((wideN six - k : Nat) : Int) by omega] at c
  exact c
end Go.Proofs.YtojdlhiibffnfaaDoor

/-
  Laid together: TabI, TabJ, TabR.
-/
import Derived.Test.YtgajepmnklbmpaaTabG
import Derived.Test.YtgajepmnklbmpaaG6
import Derived.RangeFuncNested
import Derived.RangeFuncBound
import Derived.RangeFuncCalls
import Derived.RangeFuncLeaves
import Derived.Shelf.Abstract
import Derived.Shelf.RegionOpen
import Derived.WalkKit
import Derived.OwnWalkIn
import Derived.TacticsInMore
import Derived.LoopNIn
import Derived.LoopIn
import Derived.Test.YtgajepmnklbmpaaG8
/-
  table.matches: the routes whose prefixes contain an address, one by one.
-/
namespace Go.Proofs.Ytgajepmnklbmpaa
open Go.RowKit Go.Shelf
set_option linter.unusedVariables false
set_option linter.unusedSimpArgs false
attribute [local go_sem] Oper.semAt_some

/-- The prefix of a route contains an address. -/
def mB (s : Bool) (y : Nat) (r : RT) : Bool := (r.1.1 == s) && decide (lowN y (wideN s - r.1.2.2.toNat) = r.1.2.1)
/-- What a round of a loop over the matches leaves: all blocks below M but A. -/
def KpA (M A : Nat) (W W' : World) : Prop := W.heap.size ≤ W'.heap.size ∧ ∀ k, k < M → k ≠ A → W'.heap[k]? = W.heap[k]?
theorem KpA.trans {M A : Nat} {X Y Z : World} (h : KpA M A X Y) (g : KpA M A Y Z) : KpA M A X Z := ⟨Nat.le_trans h.1 g.1, fun k hk hn => (g.2 k hk hn).trans (h.2 k hk hn)⟩
theorem KpA.below {M A n : Nat} {X Y : World} (h : Below n X Y) (hM : M ≤ n) : KpA M A X Y := ⟨h.size, fun k hk _ => h.block k (Nat.lt_of_lt_of_le hk hM)⟩
theorem KpA.cell {M A : Nat} {X Y : World} (h : KpA M A X Y) {p : Addr} (hp : p.block < M) (hA : p.block ≠ A) : Y.cell? p = X.cell? p := World.cell?_of_block (h.2 p.block hp hA)
theorem KpA.rec {M A g o : Nat} {X Y : World} {cs : List Value} (h : KpA M A X Y) (hg : g < M) (hA : g ≠ A) (r : RecAt X g o cs) : RecAt Y g o cs := fun j u hj => (h.cell (p := ⟨g, o + j, none⟩) hg hA).trans (r j u hj)
theorem below_grownNone {X Y : World} (h : Below X.heap.size X Y) : X.grownBy Y none := ⟨h.os, h.tape, h.output, h.size, fun k hk _ => h.block k hk⟩
abbrev encR (r : RT) : Array Value := #[.agg #[.bool r.1.1, .int .u64 (aH r.1.2.1), .int .u64 (aL r.1.2.1), .int .i64 r.1.2.2, .int .i64 r.2]]
end Go.Proofs.Ytgajepmnklbmpaa
/-
  table.look: where an address goes.
-/
namespace Go.Proofs.Ytgajepmnklbmpaa
open Go.RowKit Go.Shelf
set_option linter.unusedVariables false
set_option linter.unusedSimpArgs false
attribute [local go_sem] Oper.semAt_some

/-- An answer in a block of its own. -/
def AnsV (w : World) (b : Nat) (c h l : Int) : Prop := w.cell? ⟨b, 0, none⟩ = some (.int .i64 c) ∧ w.cell? ⟨b, 1, none⟩ = some (.int .i64 h) ∧ w.cell? ⟨b, 2, none⟩ = some (.int .i64 l) ∧ (∀ o, w.frozen? ⟨b, o, none⟩ = false) ∧ b < w.heap.size
theorem AnsV.keep {w w' : World} {b : Nat} {c h l : Int} (a : AnsV w b c h l) {n : Nat} (hb : Below n w w') (hn : b < n) : AnsV w' b c h l :=
  ⟨(hb.cell (p := ⟨b, 0, none⟩) hn).trans a.1, (hb.cell (p := ⟨b, 1, none⟩) hn).trans a.2.1, (hb.cell (p := ⟨b, 2, none⟩) hn).trans a.2.2.1, fun o => (hb.frozen (p := ⟨b, o, none⟩) hn).trans (a.2.2.2.1 o), Nat.lt_of_lt_of_le a.2.2.2.2 hb.size⟩
theorem AnsV.new (w : World) (c h l : Int) (t : TypeId) : AnsV (w.alloc (.cells #[.int .i64 c, .int .i64 h, .int .i64 l] t)) w.heap.size c h l := ⟨by simp, by simp, by simp, fun o => by simp [go_sem], by simp⟩
theorem AnsV.alloc {w : World} {b : Nat} {c h l : Int} (a : AnsV w b c h l) (o : Obj) : AnsV (w.alloc o) b c h l := a.keep ((Below.refl _ w).alloc (Nat.le_refl _) o) a.2.2.2.2
theorem AnsV.of_block {w w' : World} {b : Nat} {c h l : Int} (a : AnsV w b c h l) (e : w'.heap[b]? = w.heap[b]?) (hs : w.heap.size ≤ w'.heap.size) : AnsV w' b c h l :=
  ⟨(World.cell?_of_block (a := ⟨b, 0, none⟩) e).trans a.1, (World.cell?_of_block (a := ⟨b, 1, none⟩) e).trans a.2.1, (World.cell?_of_block (a := ⟨b, 2, none⟩) e).trans a.2.2.1, fun o => (World.frozen?_of_block (a := ⟨b, o, none⟩) e).trans (a.2.2.2.1 o), Nat.lt_of_lt_of_le a.2.2.2.2 hs⟩
theorem block_kept {W W' : World} {row : Option Nat} {b o : Nat} {v : Value} (h : W.cell? ⟨b, o, none⟩ = some v) (hg : W.grownBy W' row) (hr : ∀ r, row = some r → ∃ o : Obj, W.heap[r]? = some o ∧ o.isCells = false) : W'.heap[b]? = W.heap[b]? := by
  refine hg.block b (World.block_lt_of_cell? W _ h) fun e => ?_
  obtain ⟨ob, h1, h2⟩ := hr b e.symm
  unfold World.cell? at h
  rw [h1] at h
  cases ob <;> simp [Obj.isCells] at h h2
theorem AnsV.store {w : World} {b : Nat} {c h l : Int} (a : AnsV w b c h l) (c2 h2 l2 : Int) : AnsV (((w.setCell ⟨b, 0, none⟩ (.int .i64 c2)).setCell ⟨b, 1, none⟩ (.int .i64 h2)).setCell ⟨b, 2, none⟩ (.int .i64 l2)) b c2 h2 l2 := by
  obtain ⟨a0, a1, a2, af, az⟩ := a
  exact ⟨by simp [go_sem, a0, a1, a2], by simp [go_sem, a0, a1, a2], by simp [go_sem, a0, a1, a2], fun o => by simp only [World.frozen?_setCell]; exact af o, by simpa using az⟩
theorem AnsV.far {w : World} {b : Nat} {c h l : Int} (a : AnsV w b c h l) {p : Addr} (hp : b ≠ p.block) (u : Value) : AnsV (w.setCell p u) b c h l := by
  have ne : ∀ o, p ≠ ⟨b, o, none⟩ := fun o e => hp (by rw [e])
  exact ⟨(World.cell?_setCell_other w p _ u (ne 0)).trans a.1, (World.cell?_setCell_other w p _ u (ne 1)).trans a.2.1, (World.cell?_setCell_other w p _ u (ne 2)).trans a.2.2.1, fun o => by rw [World.frozen?_setCell]; exact a.2.2.2.1 o, by simpa using a.2.2.2.2⟩
/-- The hop and the length of the last of some routes. -/
def lastM (l : List RT) : Int × Int := match l.getLast? with | none => (0, 0) | some r => (r.2, r.1.2.2)
theorem lastM_snoc (l : List RT) (r : RT) : lastM (l ++ [r]) = (r.2, r.1.2.2) := by simp [lastM]
theorem KpA.set {M A : Nat} (W : World) (j : Nat) (u : Value) : KpA M A W (W.setCell ⟨A, j, none⟩ u) := ⟨by simp, fun k _ hk => Below.heap_setCell _ _ _ k hk⟩
theorem recNew (W : World) (r : RT) (t : TypeId) : RecAt (W.alloc (.cells #[.bool r.1.1, .int .u64 (aH r.1.2.1), .int .u64 (aL r.1.2.1), .int .i64 r.1.2.2, .int .i64 r.2] t)) W.heap.size 0 (rcs r) := by
  intro j v hj
  match j, hj with
  | 0, hj => simp [rcs] at hj; simp [← hj]
  | 1, hj => simp [rcs] at hj; simp [← hj]
  | 2, hj => simp [rcs] at hj; simp [← hj]
  | 3, hj => simp [rcs] at hj; simp [← hj]
  | 4, hj => simp [rcs] at hj; simp [← hj]
  | j + 5, hj => simp [rcs] at hj
end Go.Proofs.Ytgajepmnklbmpaa
/-
  A table in memory; table.find, table.get.
-/
namespace Go.Proofs.Ytgajepmnklbmpaa
open Go.RowKit
set_option linter.unusedVariables false
set_option linter.unusedSimpArgs false

/-- All blocks but those of S are as they were. -/
structure But (S : Nat → Prop) (w w' : World) : Prop where
  os : w'.os = w.os
  tape : w'.tape = w.tape
  output : w'.output = w.output
  size : w.heap.size ≤ w'.heap.size
  block : ∀ k, k < w.heap.size → ¬ S k → w'.heap[k]? = w.heap[k]?
theorem But.of_below {S : Nat → Prop} {w w' : World} (h : Below w.heap.size w w') : But S w w' := ⟨h.os, h.tape, h.output, h.size, fun k hk _ => h.block k hk⟩
theorem But.of_grown {S : Nat → Prop} {w w' : World} {row : Option Nat} (h : w.grownBy w' row) (hS : ∀ k, row = some k → S k) : But S w w' := ⟨h.os, h.tape, h.output, h.size, fun k hk hn => h.block k hk (fun e => hn (hS k e.symm))⟩
theorem But.trans {S S' : Nat → Prop} {w w1 w2 : World} (h : But S w w1) (g : But S' w1 w2) (hS : ∀ k, k < w.heap.size → S' k → S k) : But S w w2 :=
  ⟨g.os.trans h.os, g.tape.trans h.tape, g.output.trans h.output, Nat.le_trans h.size g.size, fun k hk hn => (g.block k (Nat.lt_of_lt_of_le hk h.size) (fun e => hn (hS k hk e))).trans (h.block k hk hn)⟩
theorem But.below {S : Nat → Prop} {w w' : World} {n : Nat} (h : But S w w') (hS : ∀ k, S k → n ≤ k) (hn : n ≤ w.heap.size) : Below n w w' :=
  ⟨h.os, h.tape, h.output, h.size, fun k hk => h.block k (Nat.lt_of_lt_of_le hk hn) (fun e => by have := hS k e; omega)⟩
theorem But.setCell {S : Nat → Prop} {w w' : World} (h : But S w w') {p : Addr} (hp : p.block < w.heap.size → S p.block) (u : Value) : But S w (w'.setCell p u) :=
  ⟨h.os, h.tape, h.output, Nat.le_trans h.size (by simp), fun k hk hn => (Below.heap_setCell _ _ _ k (fun e => hn (by rw [e] at hk ⊢; exact hp hk))).trans (h.block k hk hn)⟩
theorem But.drew {S : Nat → Prop} {w w' : World} (h : But S w w') : But S w w'.drew := ⟨h.os, h.tape, h.output, h.size, h.block⟩
theorem But.box {S : Nat → Prop} {w w' : World} {b : Nat} {v : Value} (h : But S w w') (x : Box w b v) (hn : ¬ S b) : Box w' b v := by
  have e := h.block b x.2.2 hn
  exact ⟨(World.cell?_of_block (a := ⟨b, 0, none⟩) e).trans x.1, fun o => (World.frozen?_of_block (a := ⟨b, o, none⟩) e).trans (x.2.1 o), Nat.lt_of_lt_of_le x.2.2 h.size⟩
theorem But.ans {S : Nat → Prop} {w w' : World} {b : Nat} {c p q : Int} (h : But S w w') (x : AnsV w b c p q) (hn : ¬ S b) : AnsV w' b c p q := x.of_block (h.block b x.2.2.2.2 hn) h.size
theorem But.owns {S : Nat → Prop} {w w' : World} {base n size : Nat} {e : TypeId} {v : Value} {xs : List Value} (h : But S w w') (x : w.ownsRow base e size v n xs) (hn : ∀ k, v.ownBlock = some k → ¬ S k) : w'.ownsRow base e size v n xs := by
  refine ⟨x.1, ?_⟩
  rcases x.2 with h2 | ⟨g, cap, cur, a, b, c, d⟩
  · exact .inl h2
  · have hg : g < w.heap.size := (Array.getElem?_eq_some_iff.1 c).1
    exact .inr ⟨g, cap, cur, a, b, (h.block g hg (hn g (by rw [a]; rfl))).trans c, d⟩
/-- A table: its variable in block b holds these routes. -/
def Tab (w : World) (b base : Nat) (v : Value) (L : List RT) : Prop := Box w b v ∧ OwnR w base v L ∧ b < base
theorem Tab.keep {w w' : World} {b base : Nat} {v : Value} {L : List RT} (h : Tab w b base v L) (hb : Below w.heap.size w w') : Tab w' b base v L := ⟨h.1.keep hb h.1.2.2, ownsKeep h.2.1 hb, h.2.2⟩
theorem Tab.alloc {w : World} {b base : Nat} {v : Value} {L : List RT} (h : Tab w b base v L) (o : Obj) : Tab (w.alloc o) b base v L := h.keep ((Below.refl _ w).alloc (Nat.le_refl _) o)
theorem Tab.form {w : World} {b base : Nat} {v : Value} {L : List RT} (h : Tab w b base v L) : ∃ p c, v = .slice p L.length c := h.2.1.row.form
/-- No row of routes lies in this block. -/
def NotR (w : World) (k : Nat) : Prop := ∀ cur, w.heap[k]? ≠ some (.cells cur 66 (0, 0))
theorem NotR.of {w w' : World} {k : Nat} (h : NotR w k) (e : w'.heap[k]? = w.heap[k]?) : NotR w' k := fun cur he => h cur (e.symm.trans he)
theorem NotR.new (w : World) (cs : Array Value) (t : TypeId) (ht : t ≠ 66) : NotR (w.alloc (.cells cs t)) w.heap.size := fun cur he => by
  rw [_root_.Go.heap_alloc_new] at he
  simp only [Option.some.injEq, Obj.cells.injEq] at he
  exact ht he.2.1
theorem NotR.ne {w : World} {k base : Nat} {v : Value} {L : List RT} (h : NotR w k) (o : OwnR w base v L) : v.ownBlock ≠ some k := by
  rcases o.2 with ⟨rfl, _⟩ | ⟨g, cap, cur, rfl, _, hg, _⟩
  · simp [Value.ownBlock]
  · intro e
    simp only [Value.ownBlock, Option.some.injEq] at e
    subst e
    exact h cur hg
/-- The error of find. -/
def finE (L : List RT) (p : PK) : Int := if chkE p.1 p.2.1 p.2.2 = 0 then (if hasR L p then 0 else 7) else chkE p.1 p.2.1 p.2.2
def finI (L : List RT) (p : PK) : Nat := if finE L p = 0 then posR L p else 0
/-- The hop of a prefix that is there. -/
def hopR (L : List RT) (p : PK) : Int := match L[posR L p]? with | some r => r.2 | none => 0
theorem finE_0 {L : List RT} {p : PK} (hs : SortedR L) (h : finE L p = 0) : chkE p.1 p.2.1 p.2.2 = 0 ∧ hasR L p = true ∧ finI L p = posR L p ∧ ∃ ht : posR L p < L.length, (L[posR L p]'ht).1 = p ∧ (L[posR L p]'ht).2 = hopR L p := by
  have h2 : finI L p = posR L p := by simp [finI, h]
  unfold finE at h
  split at h
  · rename_i hc
    split at h
    · rename_i hh
      obtain ⟨ht, e⟩ := hs.found.1 hh
      exact ⟨hc, hh, h2, ht, e, by simp [hopR, List.getElem?_eq_getElem ht]⟩
    · cases h
  · rename_i hc; exact absurd h hc
/-- What Get answers. -/
def getR (L : List RT) (p : PK) : Int × Int := if finE L p = 0 then (hopR L p, p.2.2) else (0, 0)
end Go.Proofs.Ytgajepmnklbmpaa

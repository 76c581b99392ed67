/-
  Laid together: TabU, TabV.
-/
import Derived.Test.YtgajepmnklbmpaaG10
/-
  table.do: an act on a table.
-/
namespace Go.Proofs.Ytgajepmnklbmpaa
open Go.RowKit
set_option linter.unusedVariables false
set_option linter.unusedSimpArgs false

/-- An act: kind, prefix, hop, address. -/
structure ActT where
  k : Int
  p : PK
  h : Int
  s : Bool
  y : Nat
def acs (a : ActT) : List Value := [.int .i64 a.k, .bool a.p.1, .int .u64 (aH a.p.2.1), .int .u64 (aL a.p.2.1), .int .i64 a.p.2.2, .int .i64 a.h, .bool a.s, .int .u64 (aH a.y), .int .u64 (aL a.y)]
theorem acs_len (a : ActT) : (acs a).length = 9 := rfl
theorem acs_one (a : ActT) : ∀ u ∈ acs a, u.oneCell' = true := by
  intro u hu
  simp only [acs, List.mem_cons, List.not_mem_nil, or_false] at hu
  rcases hu with h | h | h | h | h | h | h | h | h <;> subst h <;> rfl
theorem actCells {w : World} {g o : Nat} {a : ActT} (h : RecAt w g o (acs a)) : w.cell? ⟨g, o, none⟩ = some (.int .i64 a.k) ∧ w.cell? ⟨g, o + 1, none⟩ = some (.bool a.p.1) ∧ w.cell? ⟨g, o + 2, none⟩ = some (.int .u64 (aH a.p.2.1)) ∧ w.cell? ⟨g, o + 3, none⟩ = some (.int .u64 (aL a.p.2.1)) ∧ w.cell? ⟨g, o + 4, none⟩ = some (.int .i64 a.p.2.2) ∧ w.cell? ⟨g, o + 5, none⟩ = some (.int .i64 a.h) ∧ w.cell? ⟨g, o + 6, none⟩ = some (.bool a.s) ∧ w.cell? ⟨g, o + 7, none⟩ = some (.int .u64 (aH a.y)) ∧ w.cell? ⟨g, o + 8, none⟩ = some (.int .u64 (aL a.y)) :=
  ⟨h 0 _ rfl, h 1 _ rfl, h 2 _ rfl, h 3 _ rfl, h 4 _ rfl, h 5 _ rfl, h 6 _ rfl, h 7 _ rfl, h 8 _ rfl⟩
abbrev aggA (a : ActT) : Value := .agg #[.int .i64 a.k, .bool a.p.1, .int .u64 (aH a.p.2.1), .int .u64 (aL a.p.2.1), .int .i64 a.p.2.2, .int .i64 a.h, .bool a.s, .int .u64 (aH a.y), .int .u64 (aL a.y)]
/-- What a table is. -/
structure InvR (L : List RT) : Prop where
  sorted : SortedR L
  fine : ∀ r ∈ L, rtE r = 0
  size : L.length ≤ 60
theorem rtE_0 {r : RT} (h : rtE r = 0) : chkE r.1.1 r.1.2.1 r.1.2.2 = 0 ∧ 1 ≤ r.2 ∧ r.2 ≤ 999 := by
  unfold rtE at h
  split at h
  · rename_i hc
    split at h
    · rename_i hh; exact ⟨hc, hh⟩
    · cases h
  · rename_i hc; exact absurd h hc
theorem InvR.val {L : List RT} (h : InvR L) : ValR L := fun r hr => (rtE_0 (h.fine r hr)).1
/-- What an act answers: its code, the hop, the length. -/
def doA (L : List RT) (a : ActT) : Int × Int × Int :=
  if a.k = 1 then (putE L (a.p, a.h), putA L (a.p, a.h), 0) else if a.k = 2 then (finE L a.p, cutA L a.p, 0)
  else if a.k = 3 then (if a.y < 2 ^ wideN a.s then (0, (lastM (L.filter (mB a.s a.y))).1, (lastM (L.filter (mB a.s a.y))).2) else (4, 0, 0))
  else if a.k = 4 then (finE L a.p, (getR L a.p).1, (getR L a.p).2) else (3, 0, 0)
/-- The table behind an act. -/
def doL (L : List RT) (a : ActT) : List RT := if a.k = 1 then putL L (a.p, a.h) else if a.k = 2 then cutL L a.p else L
theorem TabOut.of_below {w W : World} {b base : Nat} {v : Value} {L : List RT} (T : Tab w b base v L) (h : Below w.heap.size w W) : TabOut w W b base v L := ⟨⟨v, T.keep h⟩, But.of_below h⟩
theorem TabOut.after {w W0 W : World} {b base : Nat} {v : Value} {L' : List RT} (h : Below w.heap.size w W0) (t : TabOut W0 W b base v L') : TabOut w W b base v L' := ⟨t.1, (But.of_below h).trans t.2 (fun _ _ h => h)⟩
theorem TabOut.store {w W : World} {b base : Nat} {v : Value} {L' : List RT} {R : Nat} (T : TabOut w W b base v L') (N : NotR W R) (hb : R ≠ b) (hR : w.heap.size ≤ R) (c h l : Value) :
    TabOut w (((W.setCell ⟨R, 0, none⟩ c).setCell ⟨R, 1, none⟩ h).setCell ⟨R, 2, none⟩ l) b base v L' := by
  obtain ⟨⟨v', B, O, hbb⟩, U⟩ := T
  have Ne := N.ne O
  have nS : ¬ R < w.heap.size := by omega
  exact ⟨⟨v', ((B.far (p := ⟨R, 0, none⟩) hb.symm c).far (p := ⟨R, 1, none⟩) hb.symm h).far (p := ⟨R, 2, none⟩) hb.symm l,
    ((O.kept (grownBy_setCell _ ⟨R, 0, none⟩ c) (.inr Ne)).kept (grownBy_setCell _ ⟨R, 1, none⟩ h) (.inr Ne)).kept (grownBy_setCell _ ⟨R, 2, none⟩ l) (.inr Ne), hbb⟩,
    ((U.setCell (p := ⟨R, 0, none⟩) (fun h => absurd h nS) c).setCell (p := ⟨R, 1, none⟩) (fun h => absurd h nS) h).setCell (p := ⟨R, 2, none⟩) (fun h => absurd h nS) l⟩
end Go.Proofs.Ytgajepmnklbmpaa
/-
  table.run, Play and Routes: acts on an empty table.
-/
namespace Go.Proofs.Ytgajepmnklbmpaa
open Go.RowKit
set_option linter.unusedVariables false
set_option linter.unusedSimpArgs false

/-- The table that acts leave. -/
def runL (l : List ActT) : List RT := l.foldl doL []
/-- The answers of acts on a table. -/
def runX : List RT → List ActT → List (Int × Int × Int)
  | _, [] => []
  | L, a :: t => doA L a :: runX (doL L a) t
theorem runX_snoc (l : List ActT) (a : ActT) : ∀ L : List RT, runX L (l ++ [a]) = runX L l ++ [doA (l.foldl doL L) a] := by
  induction l with
  | nil => intro L; rfl
  | cons b t ih => intro L; rw [List.cons_append, runX, ih, runX, List.foldl_cons, List.cons_append]
theorem runX_len (l : List ActT) : ∀ L : List RT, (runX L l).length = l.length := by
  induction l with
  | nil => intro L; rfl
  | cons b t ih => intro L; rw [runX, List.length_cons, List.length_cons, ih]
theorem runL_snoc (l : List ActT) (a : ActT) : runL (l ++ [a]) = doL (runL l) a := by simp [runL, List.foldl_append]
theorem take_snoc {α : Type} {l : List α} {k : Nat} (hk : k < l.length) : l.take (k + 1) = l.take k ++ [l[k]] := by
  rw [List.take_add_one, List.getElem?_eq_getElem hk]; rfl
theorem sorted_keys (l : List RT) : SortedR l ↔ (l.map Prod.fst).Pairwise ltK := by unfold SortedR; rw [List.pairwise_map]
theorem InvR.put {L : List RT} (I : InvR L) (r : RT) : InvR (putL L r) := by
  unfold putL
  split
  · rename_i hz
    split
    · rename_i hh
      obtain ⟨ht, e⟩ := I.sorted.found.1 hh
      refine ⟨(sorted_keys _).2 ?_, fun q hq => ?_, by rw [List.length_set]; exact I.size⟩
      · have e2 : (L.set (posR L r.1) r).map Prod.fst = L.map Prod.fst := by
          rw [List.map_set]
          refine List.ext_getElem (by simp) fun i h1 h2 => ?_
          rw [List.getElem_set]
          split
          · rename_i h; subst h; simp [e]
          · rfl
        rw [e2]; exact (sorted_keys _).1 I.sorted
      · rcases List.mem_or_eq_of_mem_set hq with h | h
        · exact I.fine q h
        · rw [h]; exact hz
    · rename_i hh
      split
      · exact I
      · rename_i h60
        refine ⟨I.sorted.ins (by simpa using hh), fun q hq => ?_, by rw [insR_len]; omega⟩
        rcases insR_mem.1 hq with h | h
        · rw [h]; exact hz
        · exact I.fine q h
  · exact I
theorem InvR.cut {L : List RT} (I : InvR L) (p : PK) : InvR (cutL L p) := by
  unfold cutL
  split
  · unfold delR
    have hsub : (L.take (posR L p) ++ L.drop (posR L p + 1)).Sublist L := by
      conv => rhs; rw [← List.take_append_drop (posR L p) L]
      refine List.Sublist.append (List.Sublist.refl _) ?_
      rw [show L.drop (posR L p + 1) = (L.drop (posR L p)).drop 1 by rw [List.drop_drop]]
      exact List.drop_sublist _ _
    exact ⟨I.sorted.sublist hsub, fun q hq => I.fine q (hsub.subset hq), Nat.le_trans hsub.length_le I.size⟩
  · exact I
theorem InvR.step {L : List RT} (I : InvR L) (a : ActT) : InvR (doL L a) := by
  unfold doL
  split
  · exact I.put _
  · split
    · exact I.cut _
    · exact I
theorem InvR.nil : InvR [] := ⟨List.Pairwise.nil, fun r hr => (by cases hr), by simp⟩
theorem InvR.run (l : List ActT) : InvR (runL l) := by
  suffices H : ∀ (m : List ActT) (L : List RT), InvR L → InvR (m.foldl doL L) from H l [] InvR.nil
  intro m
  induction m with
  | nil => intro L h; exact h
  | cons a t ih => intro L h; exact ih _ (h.step a)
/-- An answer as it lies in memory. -/
def xcs (x : Int × Int × Int) : List Value := [.int .i64 x.1, .int .i64 x.2.1, .int .i64 x.2.2]
theorem xcs_len (x : Int × Int × Int) : (xcs x).length = 3 := rfl
theorem xcs_one (x : Int × Int × Int) : ∀ u ∈ xcs x, u.oneCell' = true := by
  intro u hu
  simp only [xcs, List.mem_cons, List.not_mem_nil, or_false] at hu
  rcases hu with h | h | h <;> subst h <;> rfl
abbrev RowX (w : World) (v : Value) (l : List (Int × Int × Int)) : Prop := RowK xcs 3 w v l
abbrev RowA (w : World) (v : Value) (l : List ActT) : Prop := RowK acs 9 w v l
theorem Tab.grown {w w' : World} {b base : Nat} {v : Value} {L : List RT} {row : Option Nat} (h : Tab w b base v L) (hg : w.grownBy w' row) (hb : row ≠ some b) (hv : ∀ k, row = some k → NotR w k) : Tab w' b base v L :=
  ⟨h.1.grown hg hb, h.2.1.kept hg (by
    cases hr : row with
    | none => cases v.ownBlock <;> simp
    | some k => exact .inr ((hv k hr).ne h.2.1)), h.2.2⟩
def WordsA (l : List ActT) : Prop := ∀ a ∈ l, a.p.2.1 < 2 ^ 128 ∧ a.y < 2 ^ 128
/-- The error of a play. -/
def playE (l : List ActT) : Int := if 100 < l.length then 1 else 0
def playL (l : List ActT) : List RT := if 100 < l.length then [] else runL l
def playX (l : List ActT) : List (Int × Int × Int) := if 100 < l.length then [] else runX [] l
end Go.Proofs.Ytgajepmnklbmpaa

/-
  Laid together: TabU, TabV, SrtInv.
-/
import Derived.Test.YtmjlmfbceccjdaaG9
/-
  table.do: an act on a table.
-/
namespace Go.Proofs.Ytmjlmfbceccjdaa
open Go.RowKit
set_option linter.unusedVariables false
set_option linter.unusedSimpArgs false

/-- An act: kind, prefix, hop, address. -/
structure ActT where
  k : Int
  p : PK
  h : Int
  s : Bool
  y : Nat
def acs (a : ActT) : List Value := [.int .i64 a.k, .bool a.p.1, .int .u64 (aH a.p.2.1), .int .u64 (aL a.p.2.1), .int .i64 a.p.2.2, .int .i64 a.h, .bool a.s, .int .u64 (aH a.y), .int .u64 (aL a.y)]
theorem acs_len (a : ActT) : (acs a).length = 9 := rfl
theorem acs_one (a : ActT) : ∀ u ∈ acs a, u.oneCell' = true := by
  intro u hu
  simp only [acs, List.mem_cons, List.not_mem_nil, or_false] at hu
  rcases hu with h | h | h | h | h | h | h | h | h <;> subst h <;> rfl
theorem actCells {w : World} {g o : Nat} {a : ActT} (h : RecAt w g o (acs a)) : w.cell? ⟨g, o, none⟩ = some (.int .i64 a.k) ∧ w.cell? ⟨g, o + 1, none⟩ = some (.bool a.p.1) ∧ w.cell? ⟨g, o + 2, none⟩ = some (.int .u64 (aH a.p.2.1)) ∧ w.cell? ⟨g, o + 3, none⟩ = some (.int .u64 (aL a.p.2.1)) ∧ w.cell? ⟨g, o + 4, none⟩ = some (.int .i64 a.p.2.2) ∧ w.cell? ⟨g, o + 5, none⟩ = some (.int .i64 a.h) ∧ w.cell? ⟨g, o + 6, none⟩ = some (.bool a.s) ∧ w.cell? ⟨g, o + 7, none⟩ = some (.int .u64 (aH a.y)) ∧ w.cell? ⟨g, o + 8, none⟩ = some (.int .u64 (aL a.y)) :=
  ⟨h 0 _ rfl, h 1 _ rfl, h 2 _ rfl, h 3 _ rfl, h 4 _ rfl, h 5 _ rfl, h 6 _ rfl, h 7 _ rfl, h 8 _ rfl⟩
abbrev aggA (a : ActT) : Value := .agg #[.int .i64 a.k, .bool a.p.1, .int .u64 (aH a.p.2.1), .int .u64 (aL a.p.2.1), .int .i64 a.p.2.2, .int .i64 a.h, .bool a.s, .int .u64 (aH a.y), .int .u64 (aL a.y)]
abbrev objA (a : ActT) : Obj := .cells #[.int .i64 a.k, .bool a.p.1, .int .u64 (aH a.p.2.1), .int .u64 (aL a.p.2.1), .int .i64 a.p.2.2, .int .i64 a.h, .bool a.s, .int .u64 (aH a.y), .int .u64 (aL a.y)] 34
theorem actNew (W : World) (a : ActT) : RecAt (W.alloc (objA a)) W.heap.size 0 (acs a) := by
  intro j v hj
  match j, hj with
  | 0, hj => simp [acs] at hj; simp [← hj]
  | 1, hj => simp [acs] at hj; simp [← hj]
  | 2, hj => simp [acs] at hj; simp [← hj]
  | 3, hj => simp [acs] at hj; simp [← hj]
  | 4, hj => simp [acs] at hj; simp [← hj]
  | 5, hj => simp [acs] at hj; simp [← hj]
  | 6, hj => simp [acs] at hj; simp [← hj]
  | 7, hj => simp [acs] at hj; simp [← hj]
  | 8, hj => simp [acs] at hj; simp [← hj]
  | j + 9, hj => simp [acs] at hj
/-- What a table is. -/
structure InvR (L : List RT) : Prop where
  sorted : SortedR L
  fine : ∀ r ∈ L, rtE r = 0
  size : L.length ≤ 60
theorem rtE_0 {r : RT} (h : rtE r = 0) : chkE r.1.1 r.1.2.1 r.1.2.2 = 0 ∧ 1 ≤ r.2 ∧ r.2 ≤ 999 := by
  unfold rtE at h
  split at h
  · rename_i hc
    split at h
    · rename_i hh; exact ⟨hc, hh⟩
    · cases h
  · rename_i hc; exact absurd h hc
theorem InvR.val {L : List RT} (h : InvR L) : ValR L := fun r hr => (rtE_0 (h.fine r hr)).1
/-- What an act answers: its code, the hop, the length. -/
def doA (L : List RT) (a : ActT) : Int × Int × Int :=
  if a.k = 1 then (putE L (a.p, a.h), putA L (a.p, a.h), 0) else if a.k = 2 then (finE L a.p, cutA L a.p, 0)
  else if a.k = 3 then (if a.y < 2 ^ wideN a.s then (0, (lastM (L.filter (mB a.s a.y))).1, (lastM (L.filter (mB a.s a.y))).2) else (4, 0, 0))
  else if a.k = 4 then (finE L a.p, (getR L a.p).1, (getR L a.p).2) else (3, 0, 0)
/-- The table behind an act. -/
def doL (L : List RT) (a : ActT) : List RT := if a.k = 1 then putL L (a.p, a.h) else if a.k = 2 then cutL L a.p else L
theorem TabOut.of_below {w W : World} {b base : Nat} {v : Value} {L : List RT} (T : Tab w b base v L) (h : Below w.heap.size w W) : TabOut w W b base v L := ⟨⟨v, T.keep h⟩, But.of_below h⟩
theorem TabOut.after {w W0 W : World} {b base : Nat} {v : Value} {L' : List RT} (h : Below w.heap.size w W0) (t : TabOut W0 W b base v L') : TabOut w W b base v L' := ⟨t.1, (But.of_below h).trans t.2 (fun _ _ h => h)⟩
theorem TabOut.store {w W : World} {b base : Nat} {v : Value} {L' : List RT} {R : Nat} (T : TabOut w W b base v L') (N : NotR W R) (hb : R ≠ b) (hR : w.heap.size ≤ R) (c h l : Value) :
    TabOut w (((W.setCell ⟨R, 0, none⟩ c).setCell ⟨R, 1, none⟩ h).setCell ⟨R, 2, none⟩ l) b base v L' := by
  obtain ⟨⟨v', B, O, hbb⟩, U⟩ := T
  have Ne := N.ne O
  have nS : ¬ R < w.heap.size := by omega
  exact ⟨⟨v', ((B.far (p := ⟨R, 0, none⟩) hb.symm c).far (p := ⟨R, 1, none⟩) hb.symm h).far (p := ⟨R, 2, none⟩) hb.symm l,
    ((O.kept (grownBy_setCell _ ⟨R, 0, none⟩ c) (.inr Ne)).kept (grownBy_setCell _ ⟨R, 1, none⟩ h) (.inr Ne)).kept (grownBy_setCell _ ⟨R, 2, none⟩ l) (.inr Ne), hbb⟩,
    ((U.setCell (p := ⟨R, 0, none⟩) (fun h => absurd h nS) c).setCell (p := ⟨R, 1, none⟩) (fun h => absurd h nS) h).setCell (p := ⟨R, 2, none⟩) (fun h => absurd h nS) l⟩
set_option maxHeartbeats 4000000 in
set_option maxRecDepth 100000 in
theorem do_calls (b base : Nat) (v : Value) (L : List RT) (a : ActT) (hp : a.p.2.1 < 2 ^ 128) (hy : a.y < 2 ^ 128) (I : InvR L) (w : World) (hbs : base ≤ w.heap.size) (T : Tab w b base v L) :
    Calls Try.prog 78 #[.pointer (some ⟨b, 0, none⟩), aggA a] w fun e w' => e = .returned (.tuple #[.agg #[.int .i64 0, .int .i64 (doA L a).2.1, .int .i64 (doA L a).2.2], .int .i64 (doA L a).1]) ∧ TabOut w w' b base v (doL L a) := by
  have hlen : L.length ≤ 1000 := by have := I.size; omega
  have P1 := (actNew w a).keep ((Below.refl _ _).alloc (Nat.le_refl _) (.cells #[.int .i64 0, .int .i64 0, .int .i64 0] 79)) (show w.heap.size < _ by simp)
  have A1 := AnsV.new (w.alloc (objA a)) 0 0 0 79
  have N1 := NotR.new (w.alloc (objA a)) #[.int .i64 0, .int .i64 0, .int .i64 0] 79 (by decide)
  simp only [World.size_alloc] at A1 N1
  have TY := Lib.hid ((T.alloc (objA a)).alloc (.cells #[.int .i64 0, .int .i64 0, .int .i64 0] 79))
  have bY : Below w.heap.size w ((w.alloc (objA a)).alloc (.cells #[.int .i64 0, .int .i64 0, .int .i64 0] 79)) := ((Below.refl w.heap.size w).alloc (Nat.le_refl _) _).alloc (by simp) _
  have hbw := T.1.2.2
  have olt : ∀ k, v.ownBlock = some k → base ≤ k ∧ k < w.heap.size := T.2.1.lt
  have Rb : w.heap.size + 1 ≠ b := by omega
  have Rne : v.ownBlock ≠ some (w.heap.size + 1) := fun e => by have := (olt _ e).2; omega
  obtain ⟨y0, y1, y2, y3, y4, y5, y6, y7, y8⟩ := actCells P1
  simp only [Nat.zero_add] at y0 y1 y2 y3 y4 y5 y6 y7 y8
  have hbs1 : base ≤ ((w.alloc (objA a)).alloc (.cells #[.int .i64 0, .int .i64 0, .int .i64 0] 79)).heap.size := by simp; omega
  clear T P1
  -- behind a method's call
  have AFT : Hid (∀ (W : World) (L' : List RT) (h l : Int), TabOut ((w.alloc (objA a)).alloc (.cells #[.int .i64 0, .int .i64 0, .int .i64 0] 79)) W b base v L' →
      AnsV W (w.heap.size + 1) 0 0 0 ∧ TabOut w (((W.setCell ⟨w.heap.size + 1, 0, none⟩ (.int .i64 0)).setCell ⟨w.heap.size + 1, 1, none⟩ (.int .i64 h)).setCell ⟨w.heap.size + 1, 2, none⟩ (.int .i64 l)) b base v L') := Lib.hid fun W L' h l t => by
    have nS : ¬ (w.heap.size + 1 = b ∨ v.ownBlock = some (w.heap.size + 1)) := fun h => h.elim (fun e => Rb e) Rne
    exact ⟨t.2.ans A1 nS, (t.after bY).store (N1.of (t.2.block _ A1.2.2.2.2 nS)) Rb (by omega) _ _ _⟩
  have PC := Lib.hid (fun (W : World) (hb : base ≤ W.heap.size) (t : Tab W b base v L) => put_calls b base v L (a.p, a.h) hp I.sorted hlen W hb t)
  have CC := Lib.hid (fun (W : World) (t : Tab W b base v L) => cut_calls b base v L a.p hp I.sorted hlen W t)
  have GC := Lib.hid (fun (W : World) (t : Tab W b base v L) => get_calls b base v L a.p hp I.sorted hlen W t)
  have LC := Lib.hid (fun (W : World) (hv : a.y < 2 ^ wideN a.s) (t : Tab W b base v L) => look_ok b v L a.s a.y hv I.val hlen W t.1.1 t.2.1.row)
  have LF := Lib.hid (fun (W : World) (hv : ¬ a.y < 2 ^ wideN a.s) => look_form b a.s a.y hy hv W)
  have A1H := Lib.hid A1
  clear A1 N1 olt
  by_cases h1 : a.k = 1
  · have E := Lib.hid (show doA L a = (putE L (a.p, a.h), putA L (a.p, a.h), 0) ∧ doL L a = putL L (a.p, a.h) by simp [doA, doL, h1])
    have m1 : (a.k == 1) = true := by simpa using h1
    clear h1
    go_enter Try.func78, Try.ntmps78
    go_wp2_with fail
    refine (PC.out _ hbs1 TY.out).mono ?_
    rintro e w1 ⟨rfl, TO⟩
    obtain ⟨B1, B2⟩ := AFT.out w1 _ (putA L (a.p, a.h)) 0 TO
    have F := Lib.hid B2
    obtain ⟨z0, z1, z2, _⟩ := B1.store 0 (putA L (a.p, a.h)) 0
    obtain ⟨k0, k1, k2, g0, gl⟩ := B1
    have g1 := g0 0
    have g2 := g0 1
    have g3 := g0 2
    clear TO B2 AFT PC CC GC LC LF TY A1H y0 y1 y2 y3 y4 y5 y6 y7 y8
    go_wp2
    refine bodyPost_ret (by simp [results, Try.results78, go_sem, z0, z1, z2]; try rfl) rfl ?_
    exact ⟨by rw [E.out.1], by rw [E.out.2]; exact F.out⟩
  have n1 : (a.k == 1) = false := by simpa using h1
  by_cases h2 : a.k = 2
  · have E := Lib.hid (show doA L a = (finE L a.p, cutA L a.p, 0) ∧ doL L a = cutL L a.p by simp [doA, doL, h2])
    have m2 : (a.k == 2) = true := by simpa using h2
    clear h1 h2
    go_enter Try.func78, Try.ntmps78
    go_wp2_with fail
    refine (CC.out _ TY.out).mono ?_
    rintro e w1 ⟨rfl, TO⟩
    obtain ⟨B1, B2⟩ := AFT.out w1 _ (cutA L a.p) 0 TO
    have F := Lib.hid B2
    obtain ⟨z0, z1, z2, _⟩ := B1.store 0 (cutA L a.p) 0
    obtain ⟨k0, k1, k2, g0, gl⟩ := B1
    have g1 := g0 0
    have g2 := g0 1
    have g3 := g0 2
    clear TO B2 AFT PC CC GC LC LF TY A1H y0 y1 y2 y3 y4 y5 y6 y7 y8
    go_wp2
    refine bodyPost_ret (by simp [results, Try.results78, go_sem, z0, z1, z2]; try rfl) rfl ?_
    exact ⟨by rw [E.out.1], by rw [E.out.2]; exact F.out⟩
  have n2 : (a.k == 2) = false := by simpa using h2
  have EL : Hid (doL L a = L) := Lib.hid (by simp [doL, h1, h2])
  by_cases h3 : a.k = 3
  · by_cases hv : a.y < 2 ^ wideN a.s
    · have E := Lib.hid (show doA L a = (0, (lastM (L.filter (mB a.s a.y))).1, (lastM (L.filter (mB a.s a.y))).2) by simp [doA, h3, hv])
      have m3 : (a.k == 3) = true := by simpa using h3
      clear h1 h2 h3
      go_enter Try.func78, Try.ntmps78
      go_wp2_with fail
      refine (LC.out _ hv TY.out).mono ?_
      rintro e w1 ⟨rfl, hb⟩
      obtain ⟨B1, B2⟩ := AFT.out w1 _ (lastM (L.filter (mB a.s a.y))).1 (lastM (L.filter (mB a.s a.y))).2 (TabOut.of_below TY.out hb)
      have F := Lib.hid B2
      obtain ⟨z0, z1, z2, _⟩ := B1.store 0 (lastM (L.filter (mB a.s a.y))).1 (lastM (L.filter (mB a.s a.y))).2
      obtain ⟨k0, k1, k2, g0, gl⟩ := B1
      have g1 := g0 0
      have g2 := g0 1
      have g3 := g0 2
      clear hb B2 AFT PC CC GC LC LF TY A1H y0 y1 y2 y3 y4 y5 y6 y7 y8
      go_wp2
      refine bodyPost_ret (by simp [results, Try.results78, go_sem, z0, z1, z2]; try rfl) rfl ?_
      exact ⟨by rw [E.out], by rw [EL.out]; exact F.out⟩
    · have E := Lib.hid (show doA L a = (4, 0, 0) by simp [doA, h3, hv])
      have m3 : (a.k == 3) = true := by simpa using h3
      clear h1 h2 h3
      go_enter Try.func78, Try.ntmps78
      go_wp2_with fail
      refine (LF.out _ hv).mono ?_
      rintro e w1 ⟨rfl, hb⟩
      obtain ⟨B1, B2⟩ := AFT.out w1 _ 0 0 (TabOut.of_below TY.out hb)
      have F := Lib.hid B2
      obtain ⟨z0, z1, z2, _⟩ := B1.store 0 0 0
      obtain ⟨k0, k1, k2, g0, gl⟩ := B1
      have g1 := g0 0
      have g2 := g0 1
      have g3 := g0 2
      clear hb B2 AFT PC CC GC LC LF TY A1H y0 y1 y2 y3 y4 y5 y6 y7 y8
      go_wp2
      refine bodyPost_ret (by simp [results, Try.results78, go_sem, z0, z1, z2]; try rfl) rfl ?_
      exact ⟨by rw [E.out], by rw [EL.out]; exact F.out⟩
  have n3 : (a.k == 3) = false := by simpa using h3
  by_cases h4 : a.k = 4
  · have E := Lib.hid (show doA L a = (finE L a.p, (getR L a.p).1, (getR L a.p).2) by simp [doA, h4])
    have m4 : (a.k == 4) = true := by simpa using h4
    clear h1 h2 h3 h4
    go_enter Try.func78, Try.ntmps78
    go_wp2_with fail
    refine (GC.out _ TY.out).mono ?_
    rintro e w1 ⟨rfl, hb⟩
    obtain ⟨B1, B2⟩ := AFT.out w1 _ (getR L a.p).1 (getR L a.p).2 (TabOut.of_below TY.out hb)
    have F := Lib.hid B2
    obtain ⟨z0, z1, z2, _⟩ := B1.store 0 (getR L a.p).1 (getR L a.p).2
    obtain ⟨k0, k1, k2, g0, gl⟩ := B1
    have g1 := g0 0
    have g2 := g0 1
    have g3 := g0 2
    clear hb B2 AFT PC CC GC LC LF TY A1H y0 y1 y2 y3 y4 y5 y6 y7 y8
    go_wp2
    refine bodyPost_ret (by simp [results, Try.results78, go_sem, z0, z1, z2]; try rfl) rfl ?_
    exact ⟨by rw [E.out], by rw [EL.out]; exact F.out⟩
  have n4 : (a.k == 4) = false := by simpa using h4
  have E := Lib.hid (show doA L a = (3, 0, 0) by simp [doA, h1, h2, h3, h4])
  have F := Lib.hid (show TabOut w ((w.alloc (objA a)).alloc (.cells #[.int .i64 0, .int .i64 0, .int .i64 0] 79)) b base v L from ⟨⟨v, TY.out⟩, But.of_below bY⟩)
  obtain ⟨k0, k1, k2, g0, gl⟩ := A1H.out
  have g1 := g0 0
  have g2 := g0 1
  have g3 := g0 2
  clear AFT PC CC GC LC LF TY A1H h1 h2 h3 h4
  go_enter Try.func78, Try.ntmps78
  go_wp2
  refine bodyPost_ret (by simp [results, Try.results78, go_sem, k0, k1, k2]; try rfl) rfl ?_
  exact ⟨by rw [E.out], by rw [EL.out]; exact F.out⟩
end Go.Proofs.Ytmjlmfbceccjdaa
/-
  table.run, Play and Routes: acts on an empty table.
-/
namespace Go.Proofs.Ytmjlmfbceccjdaa
open Go.RowKit
set_option linter.unusedVariables false
set_option linter.unusedSimpArgs false

/-- The table that acts leave. -/
def runL (l : List ActT) : List RT := l.foldl doL []
/-- The answers of acts on a table. -/
def runX : List RT → List ActT → List (Int × Int × Int)
  | _, [] => []
  | L, a :: t => doA L a :: runX (doL L a) t
theorem runX_snoc (l : List ActT) (a : ActT) : ∀ L : List RT, runX L (l ++ [a]) = runX L l ++ [doA (l.foldl doL L) a] := by
  induction l with
  | nil => intro L; rfl
  | cons b t ih => intro L; rw [List.cons_append, runX, ih, runX, List.foldl_cons, List.cons_append]
theorem runX_len (l : List ActT) : ∀ L : List RT, (runX L l).length = l.length := by
  induction l with
  | nil => intro L; rfl
  | cons b t ih => intro L; rw [runX, List.length_cons, List.length_cons, ih]
theorem runL_snoc (l : List ActT) (a : ActT) : runL (l ++ [a]) = doL (runL l) a := by simp [runL, List.foldl_append]
theorem take_snoc {α : Type} {l : List α} {k : Nat} (hk : k < l.length) : l.take (k + 1) = l.take k ++ [l[k]] := by
  rw [List.take_add_one, List.getElem?_eq_getElem hk]; rfl
theorem sorted_keys (l : List RT) : SortedR l ↔ (l.map Prod.fst).Pairwise ltK := by unfold SortedR; rw [List.pairwise_map]
theorem InvR.put {L : List RT} (I : InvR L) (r : RT) : InvR (putL L r) := by
  unfold putL
  split
  · rename_i hz
    split
    · rename_i hh
      obtain ⟨ht, e⟩ := I.sorted.found.1 hh
      refine ⟨(sorted_keys _).2 ?_, fun q hq => ?_, by rw [List.length_set]; exact I.size⟩
      · have e2 : (L.set (posR L r.1) r).map Prod.fst = L.map Prod.fst := by
          rw [List.map_set]
          refine List.ext_getElem (by simp) fun i h1 h2 => ?_
          rw [List.getElem_set]
          split
          · rename_i h; subst h; simp [e]
          · rfl
        rw [e2]; exact (sorted_keys _).1 I.sorted
      · rcases List.mem_or_eq_of_mem_set hq with h | h
        · exact I.fine q h
        · rw [h]; exact hz
    · rename_i hh
      split
      · exact I
      · rename_i h60
        refine ⟨I.sorted.ins (by simpa using hh), fun q hq => ?_, by rw [insR_len]; omega⟩
        rcases insR_mem.1 hq with h | h
        · rw [h]; exact hz
        · exact I.fine q h
  · exact I
theorem InvR.cut {L : List RT} (I : InvR L) (p : PK) : InvR (cutL L p) := by
  unfold cutL
  split
  · unfold delR
    have hsub : (L.take (posR L p) ++ L.drop (posR L p + 1)).Sublist L := by
      conv => rhs; rw [← List.take_append_drop (posR L p) L]
      refine List.Sublist.append (List.Sublist.refl _) ?_
      rw [show L.drop (posR L p + 1) = (L.drop (posR L p)).drop 1 by rw [List.drop_drop]]
      exact List.drop_sublist _ _
    exact ⟨I.sorted.sublist hsub, fun q hq => I.fine q (hsub.subset hq), Nat.le_trans hsub.length_le I.size⟩
  · exact I
theorem InvR.step {L : List RT} (I : InvR L) (a : ActT) : InvR (doL L a) := by
  unfold doL
  split
  · exact I.put _
  · split
    · exact I.cut _
    · exact I
theorem InvR.nil : InvR [] := ⟨List.Pairwise.nil, fun r hr => (by cases hr), by simp⟩
theorem InvR.run (l : List ActT) : InvR (runL l) := by
  suffices H : ∀ (m : List ActT) (L : List RT), InvR L → InvR (m.foldl doL L) from H l [] InvR.nil
  intro m
  induction m with
  | nil => intro L h; exact h
  | cons a t ih => intro L h; exact ih _ (h.step a)
/-- An answer as it lies in memory. -/
def xcs (x : Int × Int × Int) : List Value := [.int .i64 x.1, .int .i64 x.2.1, .int .i64 x.2.2]
theorem xcs_len (x : Int × Int × Int) : (xcs x).length = 3 := rfl
theorem xcs_one (x : Int × Int × Int) : ∀ u ∈ xcs x, u.oneCell' = true := by
  intro u hu
  simp only [xcs, List.mem_cons, List.not_mem_nil, or_false] at hu
  rcases hu with h | h | h <;> subst h <;> rfl
abbrev OwnX (w : World) (base : Nat) (v : Value) (l : List (Int × Int × Int)) : Prop := w.ownsRow base 79 3 v l.length (rowOf xcs l)
abbrev RowX (w : World) (v : Value) (l : List (Int × Int × Int)) : Prop := RowK xcs 3 w v l
abbrev RowA (w : World) (v : Value) (l : List ActT) : Prop := RowK acs 9 w v l
theorem OwnX.row {w : World} {base : Nat} {v : Value} {l : List (Int × Int × Int)} (h : OwnX w base v l) : RowX w v l := RowK.owned xcs_len h
theorem ownX_notR {w : World} {base k : Nat} {v : Value} {l : List (Int × Int × Int)} (h : OwnX w base v l) (e : v.ownBlock = some k) : NotR w k := by
  rcases h.2 with ⟨rfl, _⟩ | ⟨g, cap, cur, rfl, _, hg, _⟩
  · simp [Value.ownBlock] at e
  · simp only [Value.ownBlock, Option.some.injEq] at e
    subst e
    intro c he
    rw [hg] at he
    simp only [Option.some.injEq, Obj.cells.injEq] at he
    exact absurd he.2.1 (by decide)
theorem info_ans : (Try.prog.info? 79).map (fun i => (i.zero, i.size, i.bytes)) = some (some (.agg #[.int .i64 0, .int .i64 0, .int .i64 0]), 3, 24) := by kernel_rfl
theorem Tab.grown {w w' : World} {b base : Nat} {v : Value} {L : List RT} {row : Option Nat} (h : Tab w b base v L) (hg : w.grownBy w' row) (hb : row ≠ some b) (hv : ∀ k, row = some k → NotR w k) : Tab w' b base v L :=
  ⟨h.1.grown hg hb, h.2.1.kept hg (by
    cases hr : row with
    | none => cases v.ownBlock <;> simp
    | some k => exact .inr ((hv k hr).ne h.2.1)), h.2.2⟩
def WordsA (l : List ActT) : Prop := ∀ a ∈ l, a.p.2.1 < 2 ^ 128 ∧ a.y < 2 ^ 128
/-- The error of a play. -/
def playE (l : List ActT) : Int := if 100 < l.length then 1 else 0
def playL (l : List ActT) : List RT := if 100 < l.length then [] else runL l
def playX (l : List ActT) : List (Int × Int × Int) := if 100 < l.length then [] else runX [] l
set_option maxHeartbeats 4000000 in
set_option maxRecDepth 100000 in
theorem run_calls (l : List ActT) (v : Value) (hlen : l.length ≤ 9223372036854775807) (hw : WordsA l) (w : World) (row : RowA w v l) :
    Calls Try.prog 57 #[v] w fun e w' => ∃ t u, e = .returned (.tuple #[.agg #[t], u, .int .i64 (playE l)]) ∧ OwnR w' w.heap.size t (playL l) ∧ OwnX w' w.heap.size u (playX l) ∧ Below w.heap.size w w' := by
  obtain ⟨p, c, rfl, hcap, at_⟩ := row.at
  by_cases h60 : 100 < l.length
  · have h60' : (100 : Int) < (l.length : Int) := by omega
    rw [show playE l = 1 by simp [playE, h60], show playL l = [] by simp [playL, h60], show playX l = [] by simp [playX, h60]]
    have bb := Box.new w (.slice none 0 0) 97
    obtain ⟨c0, f0, bl⟩ := bb
    have f1 := f0 0
    go_enter Try.func57, Try.ntmps57
    go_wp2
    go_returns
    exact ⟨_, _, rfl, World.ownsRow_nil _ _ _ _, World.ownsRow_nil _ _ _ _, by go_grown⟩
  · have h60' : ¬ (100 : Int) < (l.length : Int) := by omega
    rw [show playE l = 0 by simp [playE, h60], show playL l = runL l by simp [playL, h60], show playX l = runX [] l by simp [playX, h60]]
    obtain ⟨n, hn⟩ : ∃ n, l.length = n := ⟨_, rfl⟩
    have HN := Lib.hid hn
    have AT := Lib.hid at_
    have HW := Lib.hid hw
    rw [hn] at hlen h60 h60' ⊢
    have B1 := (Box.new w (.slice none 0 0) 97).alloc (.cells #[.slice none 0 0] 97)
    have B2 := Box.new (w.alloc (.cells #[.slice none 0 0] 97)) (.slice none 0 0) 97
    have bY := ((Below.refl w.heap.size w).alloc (Nat.le_refl _) (.cells #[.slice none 0 0] 97)).alloc (by simp) (.cells #[.slice none 0 0] 97)
    simp only [World.size_alloc] at B2
    have ys : ((w.alloc (.cells #[.slice none 0 0] 97)).alloc (.cells #[.slice none 0 0] 97)).heap.size = w.heap.size + 2 := by simp
    obtain ⟨i0, hii, hz0, hz1, hz2⟩ := info_parts info_ans
    clear row hw at_ hn
    go_enter Try.func57, Try.ntmps57
    go_wp2
    revert B1 B2 bY ys
    generalize (w.alloc (.cells #[.slice none 0 0] 97)).alloc (.cells #[.slice none 0 0] 97) = Y
    intro B1 bY B2 ys
    go_loopw [6, 17] (fun u i wr => ∃ (k : Nat) (t : Value), k ≤ n ∧ i = .int .i64 k ∧ Below w.heap.size w wr ∧ Box wr w.heap.size (.slice none 0 0) ∧ Hid (Tab wr (w.heap.size + 1) (w.heap.size + 2) t (runL (l.take k))) ∧ Hid (OwnX wr (w.heap.size + 2) u (runX [] (l.take k))) ∧ w.heap.size + 2 ≤ wr.heap.size) (fun _ i _ => n - (intOf i).toNat)
    case atStart => exact ⟨0, _, by omega, rfl, bY, B1, Lib.hid ⟨B2, World.ownsRow_nil _ _ _ _, by omega⟩, Lib.hid (World.ownsRow_nil _ _ _ _), by omega⟩
    case round =>
      obtain ⟨k, t, hk, rfl, hnx, b1, TB, OX, hsz⟩ := hrel
      by_cases hlt : k < n
      · have hkl : k < l.length := by rw [HN.out]; exact hlt
        obtain ⟨g, o, rfl, hgw, hrec⟩ := AT.out k hkl
        obtain ⟨x0, x1, x2, x3, x4, x5, x6, x7, x8⟩ := actCells (hrec.keep hnx hgw)
        have hwk := HW.out _ (List.getElem_mem hkl)
        have E1 := Lib.hid (show runL (l.take (k + 1)) = doL (runL (l.take k)) l[k] ∧ runX [] (l.take (k + 1)) = runX [] (l.take k) ++ [doA (runL (l.take k)) l[k]] by rw [take_snoc hkl, runL_snoc, runX_snoc]; exact ⟨rfl, rfl⟩)
        have hklt : (k : Int) < (n : Int) := by omega
        generalize hr : l[k] = a at x0 x1 x2 x3 x4 x5 x6 x7 x8 hwk E1
        clear hr
        have DC := Lib.hid (fun (W : World) (hb : w.heap.size + 2 ≤ W.heap.size) (T : Tab W (w.heap.size + 1) (w.heap.size + 2) t (runL (l.take k))) => do_calls (w.heap.size + 1) (w.heap.size + 2) t (runL (l.take k)) a hwk.1 hwk.2 (InvR.run _) W hb T)
        have hgr := Nat.lt_of_lt_of_le hgw hnx.size
        go_wp2_with fail
        have hA : Below wr.heap.size wr (wr.alloc (objA a)) := (Below.refl wr.heap.size wr).alloc (Nat.le_refl _) _
        refine (DC.out _ (by simp; omega) (TB.out.alloc _)).mono ?_
        rintro e w1 ⟨rfl, ⟨t', T1⟩, U1⟩
        have Tne : ∀ q, t.ownBlock = some q → w.heap.size + 2 ≤ q := fun q h => (TB.out.2.1.lt q h).1
        have OX1 : OwnX w1 (w.heap.size + 2) u6 (runX [] (l.take k)) := U1.owns (ownsKeep OX.out hA) (fun q hq h => h.elim (fun e => by have := (OX.out.lt q hq).1; omega) (fun e => (ownX_notR OX.out hq).ne TB.out.2.1 e))
        have b1' := U1.box (b1.alloc (objA a)) (fun h => h.elim (fun e => by omega) (fun e => by have := Tne _ e; omega))
        have hn1 := (thenBelow hnx hA).trans (U1.below (n := w.heap.size) (fun q h => h.elim (fun e => by omega) (fun e => by have := Tne _ e; omega)) (by simp; omega))
        have hs1 : w.heap.size + 2 ≤ w1.heap.size := Nat.le_trans (by simp; omega) U1.size
        have T1H := Lib.hid T1
        have OX1H := Lib.hid OX1
        clear x0 x1 x2 x3 x4 x5 x6 x7 x8 DC U1 T1 OX1 hA TB OX b1 Tne
        generalize doA (runL (l.take k)) a = x at E1
        have hnw : ∀ (o1 : Obj) (cs : Array Value), ((w1.alloc o1).alloc (.cells cs 79)).heap[w1.heap.size + 1]? = some (.cells cs 79 (0, 0)) := fun o1 cs => by
          have := _root_.Go.heap_alloc_new (w1.alloc o1) (.cells cs 79)
          rwa [World.size_alloc] at this
        have hl : (runX [] (l.take k)).length = k := by rw [runX_len, List.length_take]; omega
        have hby : ((runX [] (l.take k)).length + 1) * 24 ≤ 140737488355328 := by rw [hl]; omega
        have h63 : (runX [] (l.take k)).length + 1 ≤ maxLen := by rw [hl]; unfold maxLen; omega
        have hbX : ∀ (o1 o2 : Obj), w.heap.size + 2 ≤ ((w1.alloc o1).alloc o2).heap.size := fun o1 o2 => by simp; omega
        have HL := Lib.hid hl
        clear hl
        go_wp2_with (at_builtin; refine wpList_append_own _ rfl _ _ 98 rfl (w.heap.size + 2) 79 i0 _ 3 24 Try.underlying98 hii hz0 hz1 hz2 rfl (by decide) _ _ _ rfl ((OX1H.out.alloc _).alloc _) ⟨w1.heap.size + 1, 0, none⟩ 1 1 (xcs x) rfl rfl (fun j u hj => World.news_of_block (hnw _ _) j u (by simpa [xcs] using hj)) (xcs_one x) h63 hby (hbX _ _) ?_; intro u2 w2 ho2 hg2 _)
        have oge : ∀ q, u6.ownBlock = some q → w.heap.size + 2 ≤ q := fun q h => (OX1H.out.lt q h).1
        have OXA := (OX1H.out.alloc (.cells #[.int .i64 x.1, .int .i64 x.2.1, .int .i64 x.2.2] 79)).alloc (.cells #[.int .i64 x.1, .int .i64 x.2.1, .int .i64 x.2.2] 79)
        have hnA := ((hn1.alloc hn1.size (.cells #[.int .i64 x.1, .int .i64 x.2.1, .int .i64 x.2.2] 79)).alloc (by have := hn1.size; simp; omega) (.cells #[.int .i64 x.1, .int .i64 x.2.1, .int .i64 x.2.2] 79)).grown hg2 (by have := hn1.size; simp; omega) (fun q hq => by have := oge q hq; omega)
        have b1A := ((b1'.alloc _).alloc _).grown hg2 (fun e => by have := oge _ e; omega)
        have TA := Lib.hid (((T1H.out.alloc _).alloc _).grown hg2 (fun e => by have := oge _ e; omega) (fun q hq => ownX_notR (l := runX [] (l.take k)) OXA hq))
        have OA : OwnX w2 (w.heap.size + 2) u2 (runX [] (l.take (k + 1))) := by
          rw [E1.out.2]
          unfold OwnX
          rw [List.length_append, rowOf_app]
          exact ho2
        have OAH := Lib.hid OA
        have hs2 : w.heap.size + 2 ≤ w2.heap.size := Nat.le_trans (hbX _ _) hg2.size
        go_roundw
        case rel => exact ⟨k + 1, t', by omega, by go_num, hnA, b1A, Lib.hid (by rw [E1.out.1]; exact TA.out), OAH, hs2⟩
        case measure => simp [intOf]; omega
      · obtain rfl : k = n := by omega
        have e1 : l.take k = l := by rw [← HN.out]; exact List.take_length
        rw [e1] at TB OX
        obtain ⟨tp, tc, rfl⟩ := TB.out.form
        obtain ⟨c0, f0, l0⟩ := b1
        have c1 := TB.out.1.1
        have f2 := f0 0
        have hbd := hnx.setCell (p := ⟨w.heap.size, 0, none⟩) (Nat.le_refl _) (.slice tp (runL l).length tc)
        have O3 := Lib.hid (ownsLow (TB.out.2.1.kept (grownBy_setCell wr ⟨w.heap.size, 0, none⟩ (.slice tp (runL l).length tc)) (.inr fun e => by have := (TB.out.2.1.lt w.heap.size e).1; omega)) (show w.heap.size ≤ w.heap.size + 2 by omega))
        have X3 := Lib.hid (ownsLow (OX.out.kept (grownBy_setCell wr ⟨w.heap.size, 0, none⟩ (.slice tp (runL l).length tc)) (.inr fun e => by have := (OX.out.lt w.heap.size e).1; omega)) (show w.heap.size ≤ w.heap.size + 2 by omega))
        have c2 : (wr.setCell ⟨w.heap.size, 0, none⟩ (.slice tp (runL l).length tc)).cell? ⟨w.heap.size, 0, none⟩ = some (.slice tp (runL l).length tc) := World.cell?_setCell_same' _ _ _ (by rw [c0]; rfl)
        clear TB OX
        go_wp2
        refine bodyPost_ret (by simp [results, Try.results57, go_sem, c2]; try rfl) rfl ?_
        exact ⟨_, _, rfl, O3.out, X3.out, hbd⟩
theorem play_calls (l : List ActT) (v : Value) (hlen : l.length ≤ 9223372036854775807) (hw : WordsA l) (w : World) (row : RowA w v l) :
    Calls Try.prog 66 #[v] w fun e w' => ∃ u, e = .returned (.tuple #[u, .int .i64 (playE l)]) ∧ OwnX w' w.heap.size u (playX l) ∧ Below w.heap.size w w' := by
  have C := Lib.hid (run_calls l v hlen hw w row)
  obtain ⟨p, c, rfl⟩ := row.form
  go_enter Try.func66, Try.ntmps66
  go_wp2_with fail
  refine C.out.mono ?_
  rintro e w1 ⟨t, u, rfl, ho, hx, hb1⟩
  obtain ⟨q, d, rfl⟩ := ho.row.form
  have X2 := Lib.hid (hx.alloc (.cells #[.slice q (playL l).length d] 97))
  clear ho hx
  go_wp2
  go_ret2
  exact ⟨_, rfl, X2.out, hb1.alloc hb1.size _⟩
theorem routes_calls (l : List ActT) (v : Value) (hlen : l.length ≤ 9223372036854775807) (hw : WordsA l) (w : World) (row : RowA w v l) :
    Calls Try.prog 28 #[v] w fun e w' => ∃ u, e = .returned (.tuple #[u, .int .i64 (playE l)]) ∧ OwnR w' w.heap.size u (playL l) ∧ Below w.heap.size w w' := by
  have C := Lib.hid (run_calls l v hlen hw w row)
  obtain ⟨p, c, rfl⟩ := row.form
  go_enter Try.func28, Try.ntmps28
  go_wp2_with fail
  refine C.out.mono ?_
  rintro e w1 ⟨t, u, rfl, ho, hx, hb1⟩
  obtain ⟨q, d, rfl⟩ := ho.row.form
  have X2 := Lib.hid (ho.alloc (.cells #[.slice q (playL l).length d] 97))
  clear ho hx
  go_wp2
  go_ret2
  exact ⟨_, rfl, X2.out, hb1.alloc hb1.size _⟩
end Go.Proofs.Ytmjlmfbceccjdaa
/-
  Plain mathematics: a valid table put route by route is its sorted list.
-/
namespace Go.Proofs.Ytmjlmfbceccjdaa
open Go.RowKit
set_option linter.unusedVariables false
set_option linter.unusedSimpArgs false
def putAct (r : RT) : ActT := ⟨1, r.1, r.2, false, 0⟩
def putsL (l : List RT) : List ActT := l.map putAct
theorem putsL_len (l : List RT) : (putsL l).length = l.length := List.length_map ..
theorem puts_foldl : ∀ (t S : List RT), behE S t = 0 → S.length + t.length ≤ 60 → (putsL t).foldl doL S = t.foldl insR S
  | [], S, _, _ => rfl
  | r :: t, S, h, hl => by
    unfold behE at h
    split at h
    · rename_i h0
      split at h
      · cases h
      · rename_i h1
        have h1' : hasR S r.1 = false := by simpa using h1
        rw [List.length_cons] at hl
        have e : doL S (putAct r) = insR S r := by
          have hr : (putAct r).p = r.1 ∧ (putAct r).h = r.2 := ⟨rfl, rfl⟩
          rw [doL, if_pos (show (putAct r).k = 1 from rfl)]
          show putL S (r.1, r.2) = _
          rw [putL, if_pos (show rtE (r.1, r.2) = 0 from h0), show hasR S (r.1, r.2).1 = false from h1']
          simp only [Bool.false_eq_true, if_false]
          rw [if_neg (by omega)]
        have hi : (insR S r).length = S.length + 1 := by
          unfold insR
          have := posR_le S r.1
          rw [List.length_append, List.length_cons, List.length_take, List.length_drop]; omega
        show ((putsL t).foldl doL (doL S (putAct r))) = t.foldl insR (insR S r)
        rw [e]
        exact puts_foldl t (insR S r) h (by omega)
    · rename_i h0; exact absurd h h0
theorem puts_run {l : List RT} (h : tabE l = 0) : runL (putsL l) = srt l ∧ playE (putsL l) = 0 ∧ playL (putsL l) = srt l := by
  have h60 := (tabE_val h).2.2
  unfold tabE at h
  rw [if_neg (by omega)] at h
  have e : runL (putsL l) = srt l := puts_foldl l [] h (by simpa using h60)
  refine ⟨e, ?_, ?_⟩
  · unfold playE; rw [putsL_len, if_neg (by omega)]
  · unfold playL; rw [putsL_len, if_neg (by omega), e]
theorem srt_inv {l : List RT} (h : tabE l = 0) : InvR (srt l) := by rw [← (puts_run h).1]; exact InvR.run _
theorem dist_tab {l : List RT} (h : tabE l = 0) : DistR l := fun a ha b hb e => (srt_inv h).sorted.dist a ((srt_mem l a).2 ha) b ((srt_mem l b).2 hb) e
end Go.Proofs.Ytmjlmfbceccjdaa

/-
  table.do: an act on a table.
-/
import Derived.Test.YtepfcphhgmmlhaaTabT
import Derived.Test.YtepfcphhgmmlhaaTabP
namespace Go.Proofs.Ytepfcphhgmmlhaa
open Go.RowKit
set_option linter.unusedVariables false
set_option linter.unusedSimpArgs false

/-- An act: kind, prefix, hop, address. -/
structure ActT where
  k : Int
  p : PK
  h : Int
  s : Bool
  y : Nat
def acs (a : ActT) : List Value := [.int .i64 a.k, .bool a.p.1, .int .u64 (aH a.p.2.1), .int .u64 (aL a.p.2.1), .int .i64 a.p.2.2, .int .i64 a.h, .bool a.s, .int .u64 (aH a.y), .int .u64 (aL a.y)]
theorem acs_len (a : ActT) : (acs a).length = 9 := rfl
theorem acs_one (a : ActT) : ∀ u ∈ acs a, u.oneCell' = true := by
  intro u hu
  simp only [acs, List.mem_cons, List.not_mem_nil, or_false] at hu
  rcases hu with h | h | h | h | h | h | h | h | h <;> subst h <;> rfl
theorem actCells {w : World} {g o : Nat} {a : ActT} (h : RecAt w g o (acs a)) : w.cell? ⟨g, o, none⟩ = some (.int .i64 a.k) ∧ w.cell? ⟨g, o + 1, none⟩ = some (.bool a.p.1) ∧ w.cell? ⟨g, o + 2, none⟩ = some (.int .u64 (aH a.p.2.1)) ∧ w.cell? ⟨g, o + 3, none⟩ = some (.int .u64 (aL a.p.2.1)) ∧ w.cell? ⟨g, o + 4, none⟩ = some (.int .i64 a.p.2.2) ∧ w.cell? ⟨g, o + 5, none⟩ = some (.int .i64 a.h) ∧ w.cell? ⟨g, o + 6, none⟩ = some (.bool a.s) ∧ w.cell? ⟨g, o + 7, none⟩ = some (.int .u64 (aH a.y)) ∧ w.cell? ⟨g, o + 8, none⟩ = some (.int .u64 (aL a.y)) :=
  ⟨h 0 _ rfl, h 1 _ rfl, h 2 _ rfl, h 3 _ rfl, h 4 _ rfl, h 5 _ rfl, h 6 _ rfl, h 7 _ rfl, h 8 _ rfl⟩
abbrev aggA (a : ActT) : Value := .agg #[.int .i64 a.k, .bool a.p.1, .int .u64 (aH a.p.2.1), .int .u64 (aL a.p.2.1), .int .i64 a.p.2.2, .int .i64 a.h, .bool a.s, .int .u64 (aH a.y), .int .u64 (aL a.y)]
abbrev objA (a : ActT) : Obj := .cells #[.int .i64 a.k, .bool a.p.1, .int .u64 (aH a.p.2.1), .int .u64 (aL a.p.2.1), .int .i64 a.p.2.2, .int .i64 a.h, .bool a.s, .int .u64 (aH a.y), .int .u64 (aL a.y)] 55
theorem actNew (W : World) (a : ActT) : RecAt (W.alloc (objA a)) W.heap.size 0 (acs a) := by
  intro j v hj
  match j, hj with
  | 0, hj => simp [acs] at hj; simp [← hj]
  | 1, hj => simp [acs] at hj; simp [← hj]
  | 2, hj => simp [acs] at hj; simp [← hj]
  | 3, hj => simp [acs] at hj; simp [← hj]
  | 4, hj => simp [acs] at hj; simp [← hj]
  | 5, hj => simp [acs] at hj; simp [← hj]
  | 6, hj => simp [acs] at hj; simp [← hj]
  | 7, hj => simp [acs] at hj; simp [← hj]
  | 8, hj => simp [acs] at hj; simp [← hj]
  | j + 9, hj => simp [acs] at hj
/-- What a table is. -/
structure InvR (L : List RT) : Prop where
  sorted : SortedR L
  fine : ∀ r ∈ L, rtE r = 0
  size : L.length ≤ 60
theorem rtE_0 {r : RT} (h : rtE r = 0) : chkE r.1.1 r.1.2.1 r.1.2.2 = 0 ∧ 1 ≤ r.2 ∧ r.2 ≤ 999 := by
  unfold rtE at h
  split at h
  · rename_i hc
    split at h
    · rename_i hh; exact ⟨hc, hh⟩
    · cases h
  · rename_i hc; exact absurd h hc
theorem InvR.val {L : List RT} (h : InvR L) : ValR L := fun r hr => (rtE_0 (h.fine r hr)).1
/-- What an act answers: its code, the hop, the length. -/
def doA (L : List RT) (a : ActT) : Int × Int × Int :=
  if a.k = 1 then (putE L (a.p, a.h), putA L (a.p, a.h), 0) else if a.k = 2 then (finE L a.p, cutA L a.p, 0)
  else if a.k = 3 then (if a.y < 2 ^ wideN a.s then (0, (lastM (L.filter (mB a.s a.y))).1, (lastM (L.filter (mB a.s a.y))).2) else (4, 0, 0))
  else if a.k = 4 then (finE L a.p, (getR L a.p).1, (getR L a.p).2) else (3, 0, 0)
/-- The table behind an act. -/
def doL (L : List RT) (a : ActT) : List RT := if a.k = 1 then putL L (a.p, a.h) else if a.k = 2 then cutL L a.p else L
theorem TabOut.of_below {w W : World} {b base : Nat} {v : Value} {L : List RT} (T : Tab w b base v L) (h : Below w.heap.size w W) : TabOut w W b base v L := ⟨⟨v, T.keep h⟩, But.of_below h⟩
theorem TabOut.after {w W0 W : World} {b base : Nat} {v : Value} {L' : List RT} (h : Below w.heap.size w W0) (t : TabOut W0 W b base v L') : TabOut w W b base v L' := ⟨t.1, (But.of_below h).trans t.2 (fun _ _ h => h)⟩
theorem TabOut.store {w W : World} {b base : Nat} {v : Value} {L' : List RT} {R : Nat} (T : TabOut w W b base v L') (N : NotR W R) (hb : R ≠ b) (hR : w.heap.size ≤ R) (c h l : Value) :
    TabOut w (((W.setCell ⟨R, 0, none⟩ c).setCell ⟨R, 1, none⟩ h).setCell ⟨R, 2, none⟩ l) b base v L' := by
  obtain ⟨⟨v', B, O, hbb⟩, U⟩ := T
  have Ne := N.ne O
  have nS : ¬ R < w.heap.size := by omega
  exact ⟨⟨v', ((B.far (p := ⟨R, 0, none⟩) hb.symm c).far (p := ⟨R, 1, none⟩) hb.symm h).far (p := ⟨R, 2, none⟩) hb.symm l,
    ((O.kept (grownBy_setCell _ ⟨R, 0, none⟩ c) (.inr Ne)).kept (grownBy_setCell _ ⟨R, 1, none⟩ h) (.inr Ne)).kept (grownBy_setCell _ ⟨R, 2, none⟩ l) (.inr Ne), hbb⟩,
    ((U.setCell (p := ⟨R, 0, none⟩) (fun h => absurd h nS) c).setCell (p := ⟨R, 1, none⟩) (fun h => absurd h nS) h).setCell (p := ⟨R, 2, none⟩) (fun h => absurd h nS) l⟩
set_option maxHeartbeats 4000000 in
set_option maxRecDepth 100000 in
theorem do_calls (b base : Nat) (v : Value) (L : List RT) (a : ActT) (hp : a.p.2.1 < 2 ^ 128) (hy : a.y < 2 ^ 128) (I : InvR L) (w : World) (hbs : base ≤ w.heap.size) (T : Tab w b base v L) :
    Calls Try.prog 51 #[.pointer (some ⟨b, 0, none⟩), aggA a] w fun e w' => e = .returned (.tuple #[.agg #[.int .i64 0, .int .i64 (doA L a).2.1, .int .i64 (doA L a).2.2], .int .i64 (doA L a).1]) ∧ TabOut w w' b base v (doL L a) := by
  have hlen : L.length ≤ 1000 := by have := I.size; omega
  have P1 := (actNew w a).keep ((Below.refl _ _).alloc (Nat.le_refl _) (.cells #[.int .i64 0, .int .i64 0, .int .i64 0] 63)) (show w.heap.size < _ by simp)
  have A1 := AnsV.new (w.alloc (objA a)) 0 0 0 63
  have N1 := NotR.new (w.alloc (objA a)) #[.int .i64 0, .int .i64 0, .int .i64 0] 63 (by decide)
  simp only [World.size_alloc] at A1 N1
  have TY := Lib.hid ((T.alloc (objA a)).alloc (.cells #[.int .i64 0, .int .i64 0, .int .i64 0] 63))
  have bY : Below w.heap.size w ((w.alloc (objA a)).alloc (.cells #[.int .i64 0, .int .i64 0, .int .i64 0] 63)) := ((Below.refl w.heap.size w).alloc (Nat.le_refl _) _).alloc (by simp) _
  have hbw := T.1.2.2
  have olt : ∀ k, v.ownBlock = some k → base ≤ k ∧ k < w.heap.size := T.2.1.lt
  have Rb : w.heap.size + 1 ≠ b := by omega
  have Rne : v.ownBlock ≠ some (w.heap.size + 1) := fun e => by have := (olt _ e).2; omega
  obtain ⟨y0, y1, y2, y3, y4, y5, y6, y7, y8⟩ := actCells P1
  simp only [Nat.zero_add] at y0 y1 y2 y3 y4 y5 y6 y7 y8
  have hbs1 : base ≤ ((w.alloc (objA a)).alloc (.cells #[.int .i64 0, .int .i64 0, .int .i64 0] 63)).heap.size := by simp; omega
  clear T P1
  -- behind a method's call
  have AFT : Hid (∀ (W : World) (L' : List RT) (h l : Int), TabOut ((w.alloc (objA a)).alloc (.cells #[.int .i64 0, .int .i64 0, .int .i64 0] 63)) W b base v L' →
      AnsV W (w.heap.size + 1) 0 0 0 ∧ TabOut w (((W.setCell ⟨w.heap.size + 1, 0, none⟩ (.int .i64 0)).setCell ⟨w.heap.size + 1, 1, none⟩ (.int .i64 h)).setCell ⟨w.heap.size + 1, 2, none⟩ (.int .i64 l)) b base v L') := Lib.hid fun W L' h l t => by
    have nS : ¬ (w.heap.size + 1 = b ∨ v.ownBlock = some (w.heap.size + 1)) := fun h => h.elim (fun e => Rb e) Rne
    exact ⟨t.2.ans A1 nS, (t.after bY).store (N1.of (t.2.block _ A1.2.2.2.2 nS)) Rb (by omega) _ _ _⟩
  have PC := Lib.hid (fun (W : World) (hb : base ≤ W.heap.size) (t : Tab W b base v L) => put_calls b base v L (a.p, a.h) hp I.sorted hlen W hb t)
  have CC := Lib.hid (fun (W : World) (t : Tab W b base v L) => cut_calls b base v L a.p hp I.sorted hlen W t)
  have GC := Lib.hid (fun (W : World) (t : Tab W b base v L) => get_calls b base v L a.p hp I.sorted hlen W t)
  have LC := Lib.hid (fun (W : World) (hv : a.y < 2 ^ wideN a.s) (t : Tab W b base v L) => look_ok b v L a.s a.y hv I.val hlen W t.1.1 t.2.1.row)
  have LF := Lib.hid (fun (W : World) (hv : ¬ a.y < 2 ^ wideN a.s) => look_form b a.s a.y hy hv W)
  have A1H := Lib.hid A1
  clear A1 N1 olt
  by_cases h1 : a.k = 1
  · have E := Lib.hid (show doA L a = (putE L (a.p, a.h), putA L (a.p, a.h), 0) ∧ doL L a = putL L (a.p, a.h) by simp [doA, doL, h1])
    have m1 : (a.k == 1) = true := by simpa using h1
    clear h1
    go_enter Try.func51, Try.ntmps51
    go_wp2_with fail
    refine (PC.out _ hbs1 TY.out).mono ?_
    rintro e w1 ⟨rfl, TO⟩
    obtain ⟨B1, B2⟩ := AFT.out w1 _ (putA L (a.p, a.h)) 0 TO
    have F := Lib.hid B2
    obtain ⟨z0, z1, z2, _⟩ := B1.store 0 (putA L (a.p, a.h)) 0
    obtain ⟨k0, k1, k2, g0, gl⟩ := B1
    have g1 := g0 0
    have g2 := g0 1
    have g3 := g0 2
    clear TO B2 AFT PC CC GC LC LF TY A1H y0 y1 y2 y3 y4 y5 y6 y7 y8
    go_wp2
    refine bodyPost_ret (by simp [results, Try.results51, go_sem, z0, z1, z2]; try rfl) rfl ?_
    exact ⟨by rw [E.out.1], by rw [E.out.2]; exact F.out⟩
  have n1 : (a.k == 1) = false := by simpa using h1
  by_cases h2 : a.k = 2
  · have E := Lib.hid (show doA L a = (finE L a.p, cutA L a.p, 0) ∧ doL L a = cutL L a.p by simp [doA, doL, h2])
    have m2 : (a.k == 2) = true := by simpa using h2
    clear h1 h2
    go_enter Try.func51, Try.ntmps51
    go_wp2_with fail
    refine (CC.out _ TY.out).mono ?_
    rintro e w1 ⟨rfl, TO⟩
    obtain ⟨B1, B2⟩ := AFT.out w1 _ (cutA L a.p) 0 TO
    have F := Lib.hid B2
    obtain ⟨z0, z1, z2, _⟩ := B1.store 0 (cutA L a.p) 0
    obtain ⟨k0, k1, k2, g0, gl⟩ := B1
    have g1 := g0 0
    have g2 := g0 1
    have g3 := g0 2
    clear TO B2 AFT PC CC GC LC LF TY A1H y0 y1 y2 y3 y4 y5 y6 y7 y8
    go_wp2
    refine bodyPost_ret (by simp [results, Try.results51, go_sem, z0, z1, z2]; try rfl) rfl ?_
    exact ⟨by rw [E.out.1], by rw [E.out.2]; exact F.out⟩
  have n2 : (a.k == 2) = false := by simpa using h2
  have EL : Hid (doL L a = L) := Lib.hid (by simp [doL, h1, h2])
  by_cases h3 : a.k = 3
  · by_cases hv : a.y < 2 ^ wideN a.s
    · have E := Lib.hid (show doA L a = (0, (lastM (L.filter (mB a.s a.y))).1, (lastM (L.filter (mB a.s a.y))).2) by simp [doA, h3, hv])
      have m3 : (a.k == 3) = true := by simpa using h3
      clear h1 h2 h3
      go_enter Try.func51, Try.ntmps51
      go_wp2_with fail
      refine (LC.out _ hv TY.out).mono ?_
      rintro e w1 ⟨rfl, hb⟩
      obtain ⟨B1, B2⟩ := AFT.out w1 _ (lastM (L.filter (mB a.s a.y))).1 (lastM (L.filter (mB a.s a.y))).2 (TabOut.of_below TY.out hb)
      have F := Lib.hid B2
      obtain ⟨z0, z1, z2, _⟩ := B1.store 0 (lastM (L.filter (mB a.s a.y))).1 (lastM (L.filter (mB a.s a.y))).2
      obtain ⟨k0, k1, k2, g0, gl⟩ := B1
      have g1 := g0 0
      have g2 := g0 1
      have g3 := g0 2
      clear hb B2 AFT PC CC GC LC LF TY A1H y0 y1 y2 y3 y4 y5 y6 y7 y8
      go_wp2
      refine bodyPost_ret (by simp [results, Try.results51, go_sem, z0, z1, z2]; try rfl) rfl ?_
      exact ⟨by rw [E.out], by rw [EL.out]; exact F.out⟩
    · have E := Lib.hid (show doA L a = (4, 0, 0) by simp [doA, h3, hv])
      have m3 : (a.k == 3) = true := by simpa using h3
      clear h1 h2 h3
      go_enter Try.func51, Try.ntmps51
      go_wp2_with fail
      refine (LF.out _ hv).mono ?_
      rintro e w1 ⟨rfl, hb⟩
      obtain ⟨B1, B2⟩ := AFT.out w1 _ 0 0 (TabOut.of_below TY.out hb)
      have F := Lib.hid B2
      obtain ⟨z0, z1, z2, _⟩ := B1.store 0 0 0
      obtain ⟨k0, k1, k2, g0, gl⟩ := B1
      have g1 := g0 0
      have g2 := g0 1
      have g3 := g0 2
      clear hb B2 AFT PC CC GC LC LF TY A1H y0 y1 y2 y3 y4 y5 y6 y7 y8
      go_wp2
      refine bodyPost_ret (by simp [results, Try.results51, go_sem, z0, z1, z2]; try rfl) rfl ?_
      exact ⟨by rw [E.out], by rw [EL.out]; exact F.out⟩
  have n3 : (a.k == 3) = false := by simpa using h3
  by_cases h4 : a.k = 4
  · have E := Lib.hid (show doA L a = (finE L a.p, (getR L a.p).1, (getR L a.p).2) by simp [doA, h4])
    have m4 : (a.k == 4) = true := by simpa using h4
    clear h1 h2 h3 h4
    go_enter Try.func51, Try.ntmps51
    go_wp2_with fail
    refine (GC.out _ TY.out).mono ?_
    rintro e w1 ⟨rfl, hb⟩
    obtain ⟨B1, B2⟩ := AFT.out w1 _ (getR L a.p).1 (getR L a.p).2 (TabOut.of_below TY.out hb)
    have F := Lib.hid B2
    obtain ⟨z0, z1, z2, _⟩ := B1.store 0 (getR L a.p).1 (getR L a.p).2
    obtain ⟨k0, k1, k2, g0, gl⟩ := B1
    have g1 := g0 0
    have g2 := g0 1
    have g3 := g0 2
    clear hb B2 AFT PC CC GC LC LF TY A1H y0 y1 y2 y3 y4 y5 y6 y7 y8
    go_wp2
    refine bodyPost_ret (by simp [results, Try.results51, go_sem, z0, z1, z2]; try rfl) rfl ?_
    exact ⟨by rw [E.out], by rw [EL.out]; exact F.out⟩
  have n4 : (a.k == 4) = false := by simpa using h4
  have E := Lib.hid (show doA L a = (3, 0, 0) by simp [doA, h1, h2, h3, h4])
  have F := Lib.hid (show TabOut w ((w.alloc (objA a)).alloc (.cells #[.int .i64 0, .int .i64 0, .int .i64 0] 63)) b base v L from ⟨⟨v, TY.out⟩, But.of_below bY⟩)
  obtain ⟨k0, k1, k2, g0, gl⟩ := A1H.out
  have g1 := g0 0
  have g2 := g0 1
  have g3 := g0 2
  clear AFT PC CC GC LC LF TY A1H h1 h2 h3 h4
  go_enter Try.func51, Try.ntmps51
  go_wp2
  refine bodyPost_ret (by simp [results, Try.results51, go_sem, k0, k1, k2]; try rfl) rfl ?_
  exact ⟨by rw [E.out], by rw [EL.out]; exact F.out⟩
end Go.Proofs.Ytepfcphhgmmlhaa

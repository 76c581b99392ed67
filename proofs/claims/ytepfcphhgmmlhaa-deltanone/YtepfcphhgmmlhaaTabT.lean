/-
  table.put.
-/
import Derived.Test.YtepfcphhgmmlhaaTabS
namespace Go.Proofs.Ytepfcphhgmmlhaa
open Go.RowKit
set_option linter.unusedVariables false
set_option linter.unusedSimpArgs false

theorem ownsRow_set {w : World} {base size g n cap m : Nat} {e : TypeId} {xs : List Value} (h : w.ownsRow base e size (.slice (some ⟨g, 0, none⟩) m cap) n xs) (j : Nat) (u : Value) : (w.setCell ⟨g, j, none⟩ u).ownsRow base e size (.slice (some ⟨g, 0, none⟩) m cap) n (xs.set j u) := by
  refine ⟨by rw [List.length_set]; exact h.1, ?_⟩
  rcases h.2 with ⟨hv, _⟩ | ⟨g', cap', cur, hv, hb, hg, h1, h2, h3, h4⟩
  · cases hv
  · cases hv
    refine .inr ⟨g, cap, cur.setIfInBounds j u, rfl, hb, ?_, h1, h2, by simpa using h3, ?_⟩
    · rw [setCell_eq_setRow w g j cur e (0, 0) u hg]; exact setRow_heap w g cur _ e _ hg
    · rw [Array.toList_setIfInBounds, List.take_set, h4]
theorem rowOf_set (r : RT) : ∀ (L : List RT) (i : Nat), i < L.length → rowOf rcs (L.set i r) = (((((rowOf rcs L).set (i * 5) (.bool r.1.1)).set (i * 5 + 1) (.int .u64 (aH r.1.2.1))).set (i * 5 + 2) (.int .u64 (aL r.1.2.1))).set (i * 5 + 3) (.int .i64 r.1.2.2)).set (i * 5 + 4) (.int .i64 r.2)
  | q :: t, 0, _ => by simp [rowOf, rcs]
  | q :: t, i + 1, h => by
    have ih := rowOf_set r t i (by simpa using h)
    have e : rowOf rcs (q :: t) = rcs q ++ rowOf rcs t := rfl
    have hl : (rcs q).length = 5 := rfl
    rw [List.set_cons_succ, show rowOf rcs (q :: t.set i r) = rcs q ++ rowOf rcs (t.set i r) from rfl, ih, e]
    have s : ∀ (xs : List Value) (j : Nat) (u : Value), (rcs q ++ xs).set ((i + 1) * 5 + j) u = rcs q ++ xs.set (i * 5 + j) u := fun xs j u => by
      rw [List.set_append_right _ _ (by rw [hl]; omega), hl, show (i + 1) * 5 + j - 5 = i * 5 + j by omega]
    have s0 : ∀ (xs : List Value) (u : Value), (rcs q ++ xs).set ((i + 1) * 5) u = rcs q ++ xs.set (i * 5) u := fun xs u => s xs 0 u
    rw [s0, s, s, s, s]
theorem Box.drew {w : World} {b : Nat} {v : Value} (h : Box w b v) : Box w.drew b v := h.keep ((Below.refl _ w).drew) h.2.2
theorem AnsV.drew {w : World} {b : Nat} {c p q : Int} (h : AnsV w b c p q) : AnsV w.drew b c p q := h.keep ((Below.refl _ w).drew) h.2.2.2.2
theorem NotR.drew {w : World} {k : Nat} (h : NotR w k) : NotR w.drew k := h.of rfl
theorem OwnR.drew {w : World} {base : Nat} {v : Value} {L : List RT} (h : OwnR w base v L) : OwnR w.drew base v L := ownsKeep h ((Below.refl _ w).drew)
def putE (L : List RT) (r : RT) : Int := if rtE r = 0 then (if hasR L r.1 then 0 else if 60 ≤ L.length then 9 else 0) else rtE r
def putA (L : List RT) (r : RT) : Int := if rtE r = 0 then (if hasR L r.1 then hopR L r.1 else 0) else 0
def putL (L : List RT) (r : RT) : List RT := if rtE r = 0 then (if hasR L r.1 then L.set (posR L r.1) r else if 60 ≤ L.length then L else insR L r) else L
set_option maxHeartbeats 4000000 in
set_option maxRecDepth 100000 in
theorem put_calls (b base : Nat) (v : Value) (L : List RT) (r : RT) (hp : r.1.2.1 < 2 ^ 128) (hs : SortedR L) (hlen : L.length ≤ 1000) (w : World) (hbs : base ≤ w.heap.size) (T : Tab w b base v L) :
    Calls Try.prog 69 #[.pointer (some ⟨b, 0, none⟩), .agg #[.bool r.1.1, .int .u64 (aH r.1.2.1), .int .u64 (aL r.1.2.1), .int .i64 r.1.2.2, .int .i64 r.2]] w fun e w' => e = .returned (.tuple #[.agg #[.int .i64 0, .int .i64 (putA L r), .int .i64 0], .int .i64 (putE L r)]) ∧ TabOut w w' b base v (putL L r) := by
  have CK := Lib.hid (fun W => checkRoute_calls r hp W)
  have PL := Lib.hid (fun (W : World) (t : Tab W b base v L) => place_calls b L r.1 v hs hlen W t.1.1 t.2.1.row)
  have P1 := (recNew w r 53).keep ((Below.refl _ _).alloc (Nat.le_refl _) (.cells #[.int .i64 0, .int .i64 0, .int .i64 0] 63)) (show w.heap.size < _ by simp)
  have A1 := AnsV.new (w.alloc (.cells #[.bool r.1.1, .int .u64 (aH r.1.2.1), .int .u64 (aL r.1.2.1), .int .i64 r.1.2.2, .int .i64 r.2] 53)) 0 0 0 63
  have N1 := NotR.new (w.alloc (.cells #[.bool r.1.1, .int .u64 (aH r.1.2.1), .int .u64 (aL r.1.2.1), .int .i64 r.1.2.2, .int .i64 r.2] 53)) #[.int .i64 0, .int .i64 0, .int .i64 0] 63 (by decide)
  simp only [World.size_alloc] at A1 N1
  have TY := Lib.hid ((T.alloc (.cells #[.bool r.1.1, .int .u64 (aH r.1.2.1), .int .u64 (aL r.1.2.1), .int .i64 r.1.2.2, .int .i64 r.2] 53)).alloc (.cells #[.int .i64 0, .int .i64 0, .int .i64 0] 63))
  have bY : Below w.heap.size w ((w.alloc (.cells #[.bool r.1.1, .int .u64 (aH r.1.2.1), .int .u64 (aL r.1.2.1), .int .i64 r.1.2.2, .int .i64 r.2] 53)).alloc (.cells #[.int .i64 0, .int .i64 0, .int .i64 0] 63)) := by go_grown
  have hbw := T.1.2.2
  have olt : ∀ k, v.ownBlock = some k → base ≤ k ∧ k < w.heap.size := T.2.1.lt
  have hbb := T.2.2
  clear T
  have hRs : w.heap.size < ((w.alloc (.cells #[.bool r.1.1, .int .u64 (aH r.1.2.1), .int .u64 (aL r.1.2.1), .int .i64 r.1.2.2, .int .i64 r.2] 53)).alloc (.cells #[.int .i64 0, .int .i64 0, .int .i64 0] 63)).heap.size := by simp; omega
  obtain ⟨y0, y1, y2, y3, y4⟩ := routeCells P1
  simp only [Nat.zero_add] at y0 y1 y2 y3 y4
  go_enter Try.func69, Try.ntmps69
  go_wp2_with fail
  refine (CK.out _).mono ?_
  rintro e w1 ⟨rfl, hb1⟩
  have P2 := P1.keep hb1 hRs
  have A2 := A1.keep hb1 A1.2.2.2.2
  have N2 := N1.of (hb1.block _ A1.2.2.2.2)
  have T1 := Lib.hid (TY.out.keep hb1)
  have b1 := thenBelow bY hb1
  have hR1 := Nat.lt_of_lt_of_le hRs hb1.size
  clear P1 TY bY hb1 CK A1 N1 y0 y1 y2 y3 y4 hRs
  have nS : ¬ (w.heap.size + 1 < w.heap.size) := by omega
  have Rb : w.heap.size + 1 ≠ b := by omega
  have Rne : v.ownBlock ≠ some (w.heap.size + 1) := fun e => by have := (olt _ e).2; omega
  have bnk : v.ownBlock ≠ some b := fun e => by have := (olt _ e).1; omega
  -- how a way ends: an answer is stored, the table is as it was
  have FIN : Hid (∀ (W : World) (v' : Value) (L' : List RT) (h : Int), Box W b v' → OwnR W base v' L' → NotR W (w.heap.size + 1) → But (fun k => k = b ∨ v.ownBlock = some k) w W →
      TabOut w (((W.setCell ⟨w.heap.size + 1, 0, none⟩ (.int .i64 0)).setCell ⟨w.heap.size + 1, 1, none⟩ (.int .i64 h)).setCell ⟨w.heap.size + 1, 2, none⟩ (.int .i64 0)) b base v L') := Lib.hid fun W v' L' h B O N U => by
    have Ne := N.ne O
    exact ⟨⟨v', ((B.far (p := ⟨w.heap.size + 1, 0, none⟩) Rb.symm (.int .i64 0)).far (p := ⟨w.heap.size + 1, 1, none⟩) Rb.symm (.int .i64 h)).far (p := ⟨w.heap.size + 1, 2, none⟩) Rb.symm (.int .i64 0),
      ((O.kept (grownBy_setCell _ ⟨w.heap.size + 1, 0, none⟩ (.int .i64 0)) (.inr Ne)).kept (grownBy_setCell _ ⟨w.heap.size + 1, 1, none⟩ (.int .i64 h)) (.inr Ne)).kept (grownBy_setCell _ ⟨w.heap.size + 1, 2, none⟩ (.int .i64 0)) (.inr Ne), hbb⟩,
      ((U.setCell (p := ⟨w.heap.size + 1, 0, none⟩) (fun h => absurd h nS) (.int .i64 0)).setCell (p := ⟨w.heap.size + 1, 1, none⟩) (fun h => absurd h nS) (.int .i64 h)).setCell (p := ⟨w.heap.size + 1, 2, none⟩) (fun h => absurd h nS) (.int .i64 0)⟩
  by_cases hz : rtE r = 0
  · rw [hz]
    obtain ⟨y0, y1, y2, y3, y4⟩ := routeCells P2
    simp only [Nat.zero_add] at y0 y1 y2 y3 y4
    go_wp2_with fail
    refine (PL.out _ T1.out).mono ?_
    rintro e w2 ⟨rfl, hb2⟩
    have P3 := P2.keep hb2 hR1
    have A3 := A2.keep hb2 A2.2.2.2.2
    have N3 := N2.of (hb2.block _ A2.2.2.2.2)
    have T2 := Lib.hid (T1.out.keep hb2)
    have b2 := thenBelow b1 hb2
    have BU := But.of_below (S := fun k => k = b ∨ v.ownBlock = some k) b2
    have hR2 := Nat.lt_of_lt_of_le hR1 hb2.size
    clear P2 T1 b1 hb2 PL A2 N2 y0 y1 y2 y3 y4
    obtain ⟨y0, y1, y2, y3, y4⟩ := routeCells P3
    simp only [Nat.zero_add] at y0 y1 y2 y3 y4
    by_cases hh : hasR L r.1 = true
    · obtain ⟨ht, e3⟩ := hs.found.1 hh
      have e4 : (L[posR L r.1]'ht).2 = hopR L r.1 := by simp [hopR, List.getElem?_eq_getElem ht]
      have E := Lib.hid (show putE L r = 0 ∧ putA L r = hopR L r.1 ∧ putL L r = L.set (posR L r.1) r by simp [putE, putA, putL, hz, hh])
      rw [hh]
      have own2 := T2.out.2.1
      rcases own2.2 with ⟨rfl, h0⟩ | ⟨g, cap, cur, rfl, hbg, hg, hnc, hcm, hcs, htake⟩
      · omega
      have hgl := (Array.getElem?_eq_some_iff.1 hg).1
      have hfr : ∀ j, w2.frozen? ⟨g, j, none⟩ = false := fun j => by simp [World.frozen?, hg]
      have hrec : RecAt w2 g (posR L r.1 * 5) (rcs (L[posR L r.1]'ht)) := fun j u hj => by
        have hjk : j < 5 := by
          rcases Nat.lt_or_ge j 5 with h | h
          · exact h
          · rw [List.getElem?_eq_none (by rw [rcs_len]; exact h)] at hj; cases hj
        exact owns_cellAt own2 _ u (by rw [rowOf_at rcs 5 rcs_len L _ ht j hjk]; exact hj)
      obtain ⟨x0, x1, x2, x3, x4⟩ := routeCells hrec
      rw [e4] at x4
      have cb := T2.out.1.1
      have hti : ((posR L r.1 : Nat) : Int) < (L.length : Int) := by omega
      have hgb : g ≠ b := fun e => bnk (by rw [e]; rfl)
      have hgR : g ≠ w.heap.size + 1 := fun e => Rne (by rw [e]; rfl)
      -- the row with the route in it
      have W5 := Lib.hid (show OwnR (((((w2.setCell ⟨g, posR L r.1 * 5, none⟩ (.bool r.1.1)).setCell ⟨g, posR L r.1 * 5 + 1, none⟩ (.int .u64 (aH r.1.2.1))).setCell ⟨g, posR L r.1 * 5 + 2, none⟩ (.int .u64 (aL r.1.2.1))).setCell ⟨g, posR L r.1 * 5 + 3, none⟩ (.int .i64 r.1.2.2)).setCell ⟨g, posR L r.1 * 5 + 4, none⟩ (.int .i64 r.2)) base (.slice (some ⟨g, 0, none⟩) L.length cap) (L.set (posR L r.1) r) by
        unfold OwnR
        rw [List.length_set, rowOf_set r L _ ht]
        exact ownsRow_set (ownsRow_set (ownsRow_set (ownsRow_set (ownsRow_set own2 _ _) _ _) _ _) _ _) _ _)
      have A5 := ((((A3.far (p := ⟨g, posR L r.1 * 5, none⟩) hgR.symm (.bool r.1.1)).far (p := ⟨g, posR L r.1 * 5 + 1, none⟩) hgR.symm (.int .u64 (aH r.1.2.1))).far (p := ⟨g, posR L r.1 * 5 + 2, none⟩) hgR.symm (.int .u64 (aL r.1.2.1))).far (p := ⟨g, posR L r.1 * 5 + 3, none⟩) hgR.symm (.int .i64 r.1.2.2)).far (p := ⟨g, posR L r.1 * 5 + 4, none⟩) hgR.symm (.int .i64 r.2)
      have B5 := ((((T2.out.1.far (p := ⟨g, posR L r.1 * 5, none⟩) hgb.symm (.bool r.1.1)).far (p := ⟨g, posR L r.1 * 5 + 1, none⟩) hgb.symm (.int .u64 (aH r.1.2.1))).far (p := ⟨g, posR L r.1 * 5 + 2, none⟩) hgb.symm (.int .u64 (aL r.1.2.1))).far (p := ⟨g, posR L r.1 * 5 + 3, none⟩) hgb.symm (.int .i64 r.1.2.2)).far (p := ⟨g, posR L r.1 * 5 + 4, none⟩) hgb.symm (.int .i64 r.2)
      have U5 := ((((BU.setCell (p := ⟨g, posR L r.1 * 5, none⟩) (fun _ => .inr rfl) (.bool r.1.1)).setCell (p := ⟨g, posR L r.1 * 5 + 1, none⟩) (fun _ => .inr rfl) (.int .u64 (aH r.1.2.1))).setCell (p := ⟨g, posR L r.1 * 5 + 2, none⟩) (fun _ => .inr rfl) (.int .u64 (aL r.1.2.1))).setCell (p := ⟨g, posR L r.1 * 5 + 3, none⟩) (fun _ => .inr rfl) (.int .i64 r.1.2.2)).setCell (p := ⟨g, posR L r.1 * 5 + 4, none⟩) (fun _ => .inr rfl) (.int .i64 r.2)
      have N5 : NotR (((((w2.setCell ⟨g, posR L r.1 * 5, none⟩ (.bool r.1.1)).setCell ⟨g, posR L r.1 * 5 + 1, none⟩ (.int .u64 (aH r.1.2.1))).setCell ⟨g, posR L r.1 * 5 + 2, none⟩ (.int .u64 (aL r.1.2.1))).setCell ⟨g, posR L r.1 * 5 + 3, none⟩ (.int .i64 r.1.2.2)).setCell ⟨g, posR L r.1 * 5 + 4, none⟩ (.int .i64 r.2)) (w.heap.size + 1) :=
        N3.of ((Below.heap_setCell _ _ _ _ hgR.symm).trans ((Below.heap_setCell _ _ _ _ hgR.symm).trans ((Below.heap_setCell _ _ _ _ hgR.symm).trans ((Below.heap_setCell _ _ _ _ hgR.symm).trans (Below.heap_setCell _ _ _ _ hgR.symm)))))
      have F := Lib.hid (FIN.out ((((((w2.setCell ⟨g, posR L r.1 * 5, none⟩ (.bool r.1.1)).setCell ⟨g, posR L r.1 * 5 + 1, none⟩ (.int .u64 (aH r.1.2.1))).setCell ⟨g, posR L r.1 * 5 + 2, none⟩ (.int .u64 (aL r.1.2.1))).setCell ⟨g, posR L r.1 * 5 + 3, none⟩ (.int .i64 r.1.2.2)).setCell ⟨g, posR L r.1 * 5 + 4, none⟩ (.int .i64 r.2)).drew) _ _ (hopR L r.1) B5.drew (OwnR.drew W5.out) N5.drew U5.drew)
      have A5H : Hid (AnsV ((((((w2.setCell ⟨g, posR L r.1 * 5, none⟩ (.bool r.1.1)).setCell ⟨g, posR L r.1 * 5 + 1, none⟩ (.int .u64 (aH r.1.2.1))).setCell ⟨g, posR L r.1 * 5 + 2, none⟩ (.int .u64 (aL r.1.2.1))).setCell ⟨g, posR L r.1 * 5 + 3, none⟩ (.int .i64 r.1.2.2)).setCell ⟨g, posR L r.1 * 5 + 4, none⟩ (.int .i64 r.2)).drew) (w.heap.size + 1) 0 0 0) := Lib.hid A5.drew
      have PH := Lib.hid (And.intro ht hti)
      clear FIN BU N3 T2 W5 B5 U5 N5 hrec own2 htake hcs e3 e4 A5
      generalize (L[posR L r.1]'ht) = q at x0 x1 x2 x3
      have f0 := hfr (posR L r.1 * 5)
      have f1 := hfr (posR L r.1 * 5 + 1)
      have f2 := hfr (posR L r.1 * 5 + 2)
      have f3 := hfr (posR L r.1 * 5 + 3)
      have f4 := hfr (posR L r.1 * 5 + 4)
      go_wp2_with fail
      go_region
      revert F A5H
      generalize (((((w2.setCell ⟨g, posR L r.1 * 5, none⟩ (.bool r.1.1)).setCell ⟨g, posR L r.1 * 5 + 1, none⟩ (.int .u64 (aH r.1.2.1))).setCell ⟨g, posR L r.1 * 5 + 2, none⟩ (.int .u64 (aL r.1.2.1))).setCell ⟨g, posR L r.1 * 5 + 3, none⟩ (.int .i64 r.1.2.2)).setCell ⟨g, posR L r.1 * 5 + 4, none⟩ (.int .i64 r.2)).drew = Z
      intro F A5H
      have AS := A5H.out.store 0 (hopR L r.1) 0
      obtain ⟨z0, z1, z2, _⟩ := AS
      obtain ⟨k0, k1, k2, g0, gl⟩ := A5H.out
      have g1 := g0 0
      have g2 := g0 1
      have g3 := g0 2
      go_wp2
      refine bodyPost_ret (by simp [results, Try.results69, go_sem, z0, z1, z2]; try rfl) rfl ?_
      exact ⟨by rw [E.out.1, E.out.2.1], by rw [E.out.2.2]; exact F.out⟩
    · have hh' : hasR L r.1 = false := by simpa using hh
      rw [hh']
      by_cases h60 : 60 ≤ L.length
      · have E := Lib.hid (show putE L r = 9 ∧ putA L r = 0 ∧ putL L r = L by simp [putE, putA, putL, hz, hh', h60])
        have F := Lib.hid (FIN.out w2 v L 0 T2.out.1 T2.out.2.1 N3 BU)
        obtain ⟨vp, vc, rfl⟩ := T2.out.form
        have cb := T2.out.1.1
        have h60' : (60 : Int) ≤ (L.length : Int) := by omega
        have AS := A3.store 0 0 0
        obtain ⟨z0, z1, z2, _⟩ := AS
        obtain ⟨k0, k1, k2, g0, gl⟩ := A3
        have g1 := g0 0
        have g2 := g0 1
        have g3 := g0 2
        clear FIN BU N3 T2
        go_wp2
        refine bodyPost_ret (by simp [results, Try.results69, go_sem, z0, z1, z2]; try rfl) rfl ?_
        exact ⟨by rw [E.out.1, E.out.2.1], by rw [E.out.2.2]; exact F.out⟩
      · have E := Lib.hid (show putE L r = 0 ∧ putA L r = 0 ∧ putL L r = insR L r by simp [putE, putA, putL, hz, hh', h60])
        have IC := Lib.hid (fun (W : World) (hbW : base ≤ W.heap.size) (ow : OwnR W base v L) (vb : Nat) (hv : W.heap[vb]? = some (.cells (rcs r).toArray 53 (0, 0))) (hne : v.ownBlock ≠ some vb) =>
          insert_calls base vb (posR L r.1) 53 v L r hlen (posR_le _ _) W hbW ow hv hne)
        have h60' : ¬ (60 : Int) ≤ (L.length : Int) := by omega
        have T2' := T2.out
        have olt2 : ∀ k, v.ownBlock = some k → k < w2.heap.size := fun k h => (T2.out.2.1.lt k h).2
        have hbs2 : base ≤ w2.heap.size := Nat.le_trans hbs b2.size
        have cb := T2.out.1.1
        have cbl := T2.out.1.2.2
        obtain ⟨vp, vc, hvf⟩ := T2.out.form
        have cb' := cb
        rw [hvf] at cb'
        subst hvf
        have HF := Lib.hid FIN.out
        have TX := Lib.hid (show Tab (w2.alloc (.cells #[.bool r.1.1, .int .u64 (aH r.1.2.1), .int .u64 (aL r.1.2.1), .int .i64 r.1.2.2, .int .i64 r.2] 53)).drew b base (.slice vp L.length vc) L from (T2.out.alloc (.cells #[.bool r.1.1, .int .u64 (aH r.1.2.1), .int .u64 (aL r.1.2.1), .int .i64 r.1.2.2, .int .i64 r.2] 53)).keep (Below.refl _ _).drew)
        have AX := Lib.hid ((A3.alloc (.cells #[.bool r.1.1, .int .u64 (aH r.1.2.1), .int .u64 (aL r.1.2.1), .int .i64 r.1.2.2, .int .i64 r.2] 53)).drew)
        have NX := Lib.hid ((N3.of (w' := w2.alloc (.cells #[.bool r.1.1, .int .u64 (aH r.1.2.1), .int .u64 (aL r.1.2.1), .int .i64 r.1.2.2, .int .i64 r.2] 53)) (_root_.Go.heap_alloc_old w2 _ A3.2.2.2.2)).drew)
        have UX := Lib.hid ((BU.trans (But.of_below (S := fun k => k = b ∨ (Value.slice vp L.length vc).ownBlock = some k) ((Below.refl _ w2).alloc (Nat.le_refl _) (.cells #[.bool r.1.1, .int .u64 (aH r.1.2.1), .int .u64 (aL r.1.2.1), .int .i64 r.1.2.2, .int .i64 r.2] 53))) (fun k _ h => h)).drew)
        have HX : Hid ((w2.alloc (.cells #[.bool r.1.1, .int .u64 (aH r.1.2.1), .int .u64 (aL r.1.2.1), .int .i64 r.1.2.2, .int .i64 r.2] 53)).drew.heap[w2.heap.size]? = some (.cells (rcs r).toArray 53 (0, 0))) := Lib.hid (_root_.Go.heap_alloc_new w2 _)
        have hbX : base ≤ (w2.alloc (.cells #[.bool r.1.1, .int .u64 (aH r.1.2.1), .int .u64 (aL r.1.2.1), .int .i64 r.1.2.2, .int .i64 r.2] 53)).drew.heap.size := by show base ≤ (w2.alloc (.cells #[.bool r.1.1, .int .u64 (aH r.1.2.1), .int .u64 (aL r.1.2.1), .int .i64 r.1.2.2, .int .i64 r.2] 53)).heap.size; simp; omega
        have AFT : Hid (∀ (w3 : World) (v' : Value), OwnR w3 base v' (insR L r) → (w2.alloc (.cells #[.bool r.1.1, .int .u64 (aH r.1.2.1), .int .u64 (aL r.1.2.1), .int .i64 r.1.2.2, .int .i64 r.2] 53)).drew.grownBy w3 (Value.slice vp L.length vc).ownBlock →
            (∃ p c, v' = .slice p (L.length + 1) c) ∧ Box w3 b (.slice vp L.length vc) ∧ AnsV (w3.setCell ⟨b, 0, none⟩ v') (w.heap.size + 1) 0 0 0 ∧ TabOut w ((((w3.setCell ⟨b, 0, none⟩ v').setCell ⟨w.heap.size + 1, 0, none⟩ (.int .i64 0)).setCell ⟨w.heap.size + 1, 1, none⟩ (.int .i64 0)).setCell ⟨w.heap.size + 1, 2, none⟩ (.int .i64 0)) b base (.slice vp L.length vc) (insR L r)) := Lib.hid fun w3 v' ho hg => by
          have B3 := TX.out.1.grown hg bnk
          have e3 := hg.block (w.heap.size + 1) AX.out.2.2.2.2 (fun e => Rne e.symm)
          have A3' := AX.out.of_block e3 hg.size
          have N3' := NX.out.of e3
          have U3 := UX.out.trans (But.of_grown (S := fun k => k = b ∨ (Value.slice vp L.length vc).ownBlock = some k) hg (fun k h => .inr h)) (fun k _ h => h)
          have O4 : OwnR (w3.setCell ⟨b, 0, none⟩ v') base v' (insR L r) := ho.kept (grownBy_setCell w3 ⟨b, 0, none⟩ v') (.inr fun e => by have := (ho.lt b e).1; omega)
          obtain ⟨p, c, e⟩ := ho.row.form
          rw [insR_len] at e
          exact ⟨⟨p, c, e⟩, B3, A3'.far (p := ⟨b, 0, none⟩) Rb v', HF.out _ _ _ 0 (B3.store v') O4 (N3'.of (Below.heap_setCell _ _ _ _ Rb)) (U3.setCell (p := ⟨b, 0, none⟩) (fun _ => .inl rfl) v')⟩
        have hneX : (Value.slice vp L.length vc).ownBlock ≠ some w2.heap.size := fun e => by have := olt2 _ e; omega
        clear FIN cb HF N3 BU T2 T2'
        go_wp2_with fail
        go_region_with (go_at_call 81; refine (IC.out _ hbX TX.out.2.1 w2.heap.size HX.out hneX).mono ?_; rintro e w3 ⟨v', rfl, ho3, hg3⟩; obtain ⟨⟨np, nc, rfl⟩, ⟨d0, df, dl⟩, AZ, TZ⟩ := AFT.out w3 v' ho3 hg3; have HA := Lib.hid AZ; have HT := Lib.hid TZ; have df0 := df 0; clear ho3 hg3 AZ TZ)
        all_goals (obtain ⟨k0, k1, k2, g0, gl⟩ := HA.out)
        all_goals (have g1 := g0 0; have g2 := g0 1; have g3 := g0 2)
        all_goals (obtain ⟨z0, z1, z2, _⟩ := HA.out.store 0 0 0)
        all_goals go_wp2
        all_goals (refine bodyPost_ret (by simp [results, Try.results69, go_sem, z0, z1, z2]; try rfl) rfl ?_)
        all_goals exact ⟨by rw [E.out.1, E.out.2.1], by rw [E.out.2.2]; exact HT.out⟩
  · have hz1 : (rtE r == 0) = false := by simpa using hz
    have hz2 : (rtE r != 0) = true := by rw [bne, hz1]; rfl
    have E := Lib.hid (show putE L r = rtE r ∧ putA L r = 0 ∧ putL L r = L from ⟨if_neg hz, if_neg hz, if_neg hz⟩)
    have F := Lib.hid (FIN.out w1 v L 0 T1.out.1 T1.out.2.1 N2 (But.of_below b1))
    have AS := A2.store 0 0 0
    obtain ⟨z0, z1, z2, _⟩ := AS
    obtain ⟨k0, k1, k2, g0, gl⟩ := A2
    have g1 := g0 0
    have g2 := g0 1
    have g3 := g0 2
    clear FIN N2 T1 PL P2
    go_wp2
    refine bodyPost_ret (by simp [results, Try.results69, go_sem, z0, z1, z2]; try rfl) rfl ?_
    exact ⟨by rw [E.out.1, E.out.2.1], by rw [E.out.2.2]; exact F.out⟩
end Go.Proofs.Ytepfcphhgmmlhaa

/-
  Laid together: TabS, TabT, TabN, TabO, TabP.
-/
import Derived.Test.YtmjlmfbceccjdaaG8
import Derived.Test.YtmjlmfbceccjdaaTabH
import Derived.Test.YtmjlmfbceccjdaaG4
/-
  table.cut.
-/
namespace Go.Proofs.Ytmjlmfbceccjdaa
open Go.RowKit
set_option linter.unusedVariables false
set_option linter.unusedSimpArgs false

/-- What a method of a table leaves: the table, and all blocks but its own. -/
def TabOut (w w' : World) (b base : Nat) (v : Value) (L' : List RT) : Prop := (∃ v', Tab w' b base v' L') ∧ But (fun k => k = b ∨ v.ownBlock = some k) w w'
def delR (L : List RT) (p : PK) : List RT := L.take (posR L p) ++ L.drop (posR L p + 1)
def cutA (L : List RT) (p : PK) : Int := if finE L p = 0 then hopR L p else 0
def cutL (L : List RT) (p : PK) : List RT := if finE L p = 0 then delR L p else L
set_option maxHeartbeats 2000000 in
theorem cut_calls (b base : Nat) (v : Value) (L : List RT) (p : PK) (hp : p.2.1 < 2 ^ 128) (hs : SortedR L) (hlen : L.length ≤ 1000) (w : World) (T : Tab w b base v L) :
    Calls Try.prog 96 #[.pointer (some ⟨b, 0, none⟩), .agg #[.bool p.1, .int .u64 (aH p.2.1), .int .u64 (aL p.2.1), .int .i64 p.2.2]] w fun e w' => e = .returned (.tuple #[.agg #[.int .i64 0, .int .i64 (cutA L p), .int .i64 0], .int .i64 (finE L p)]) ∧ TabOut w w' b base v (cutL L p) := by
  have FC := Lib.hid (fun (W : World) (t : Tab W b base v L) => find_calls b base v L p hp hs hlen W t)
  have P1 := (PreAt.new w p.1 (aH p.2.1) (aL p.2.1) p.2.2 32).alloc (.cells #[.int .i64 0, .int .i64 0, .int .i64 0] 79)
  have A1 := AnsV.new (w.alloc (.cells #[.bool p.1, .int .u64 (aH p.2.1), .int .u64 (aL p.2.1), .int .i64 p.2.2] 32)) 0 0 0 79
  have N1 := NotR.new (w.alloc (.cells #[.bool p.1, .int .u64 (aH p.2.1), .int .u64 (aL p.2.1), .int .i64 p.2.2] 32)) #[.int .i64 0, .int .i64 0, .int .i64 0] 79 (by decide)
  simp only [World.size_alloc] at A1 N1
  have TY := Lib.hid ((T.alloc (.cells #[.bool p.1, .int .u64 (aH p.2.1), .int .u64 (aL p.2.1), .int .i64 p.2.2] 32)).alloc (.cells #[.int .i64 0, .int .i64 0, .int .i64 0] 79))
  have bY : Below w.heap.size w ((w.alloc (.cells #[.bool p.1, .int .u64 (aH p.2.1), .int .u64 (aL p.2.1), .int .i64 p.2.2] 32)).alloc (.cells #[.int .i64 0, .int .i64 0, .int .i64 0] 79)) := by go_grown
  have hbw := T.1.2.2
  have olt : ∀ k, v.ownBlock = some k → base ≤ k ∧ k < w.heap.size := T.2.1.lt
  have hbb := T.2.2
  clear T
  go_enter Try.func96, Try.ntmps96
  go_wp2_with fail
  refine (FC.out _ TY.out).mono ?_
  rintro e w1 ⟨rfl, hb1⟩
  have A2 := A1.keep hb1 A1.2.2.2.2
  have N2 := N1.of (hb1.block _ A1.2.2.2.2)
  have T1 := Lib.hid (TY.out.keep hb1)
  have b1 := thenBelow bY hb1
  have BU := But.of_below (S := fun k => k = b ∨ v.ownBlock = some k) b1
  clear P1 TY bY hb1 FC A1 N1
  by_cases hz : finE L p = 0
  · obtain ⟨_, _, e2, ht, e3, e4⟩ := finE_0 hs hz
    have DC := Lib.hid (fun (W : World) (o : OwnR W base v L) => delete_calls base (posR L p) v L hlen ht W o)
    have E := Lib.hid (show cutA L p = hopR L p ∧ cutL L p = L.take (posR L p) ++ L.drop (posR L p + 1) by simp [cutA, cutL, hz, delR])
    obtain ⟨q, c, rfl, hcap, at_⟩ := T1.out.2.1.row.at
    obtain ⟨g, o, rfl, hg, hrec⟩ := at_ _ ht
    obtain ⟨x0, x1, x2, x3, x4⟩ := routeCells hrec
    rw [e4] at x4
    have cb := T1.out.1.1
    have hti : ((posR L p : Nat) : Int) < (L.length : Int) := by omega
    have hZ := Lib.hid hz
    rw [hz, e2]
    clear e2 e3 e4 at_ hrec x0 x1 x2 x3 hz
    obtain ⟨n, hn⟩ : ∃ n, L.length = n := ⟨_, rfl⟩
    obtain ⟨i, hi⟩ : ∃ i, posR L p = i := ⟨_, rfl⟩
    rw [hn] at cb ht hti DC hcap olt BU T1
    rw [hi] at ht hti x4 DC E
    rw [hi]
    have HNI := Lib.hid (And.intro hn hi)
    rw [hn] at hlen
    clear hn hi
    go_wp2_with fail
    refine (DC.out _ T1.out.2.1).mono ?_
    rintro e w2 ⟨v', rfl, ho2, hg2⟩
    have Rne : (Value.slice (some ⟨g, o, none⟩) n c).ownBlock ≠ some (w.heap.size + 1) := fun e => by have := (olt _ e).2; omega
    have bne : (Value.slice (some ⟨g, o, none⟩) n c).ownBlock ≠ some b := fun e => by have := (olt _ e).1; omega
    have A3 := A2.of_block (hg2.block _ A2.2.2.2.2 (fun e => Rne e.symm)) hg2.size
    have N3 := N2.of (hg2.block _ A2.2.2.2.2 (fun e => Rne e.symm))
    have B3 := T1.out.1.grown hg2 bne
    have BU2 := BU.trans (But.of_grown (S := fun k => k = b ∨ (Value.slice (some ⟨g, o, none⟩) n c).ownBlock = some k) hg2 (fun k h => .inr h)) (fun k _ h => h)
    obtain ⟨vp, vc, e'⟩ := ho2.row.form
    obtain ⟨m, hm⟩ : ∃ m, (L.take i ++ L.drop (i + 1)).length = m := ⟨_, rfl⟩
    rw [hm] at e'
    subst e'
    have OW : Hid (OwnR w2 base (.slice vp m vc) (L.take i ++ L.drop (i + 1))) := Lib.hid ho2
    clear ho2 hg2 A2 N2 BU DC T1 x4 cb hm
    -- the store into the table's variable, and into the result
    have B4 := B3.store (.slice vp m vc)
    have Rb : w.heap.size + 1 ≠ b := by omega
    have A4 := A3.far (p := ⟨b, 0, none⟩) Rb (.slice vp m vc)
    have N4 := N3.of (w' := w2.setCell ⟨b, 0, none⟩ (.slice vp m vc)) (Below.heap_setCell _ _ _ _ Rb)
    have O4 := OW.out.kept (grownBy_setCell w2 ⟨b, 0, none⟩ (.slice vp m vc)) (.inr fun e => by have := (OW.out.lt b e).1; omega)
    have U4 := BU2.setCell (p := ⟨b, 0, none⟩) (fun _ => .inl rfl) (.slice vp m vc)
    have Ne4 : (Value.slice vp m vc).ownBlock ≠ some (w.heap.size + 1) := N4.ne (L := L.take i ++ L.drop (i + 1)) O4
    have AS := A4.store 0 (hopR L p) 0
    have nS : ¬ (w.heap.size + 1 < w.heap.size) := by omega
    have U5 := ((U4.setCell (p := ⟨w.heap.size + 1, 0, none⟩) (fun h => absurd h nS) (.int .i64 0)).setCell (p := ⟨w.heap.size + 1, 1, none⟩) (fun h => absurd h nS) (.int .i64 (hopR L p))).setCell (p := ⟨w.heap.size + 1, 2, none⟩) (fun h => absurd h nS) (.int .i64 0)
    have O5 := ((O4.kept (grownBy_setCell _ ⟨w.heap.size + 1, 0, none⟩ (.int .i64 0)) (.inr Ne4)).kept (grownBy_setCell _ ⟨w.heap.size + 1, 1, none⟩ (.int .i64 (hopR L p))) (.inr Ne4)).kept (grownBy_setCell _ ⟨w.heap.size + 1, 2, none⟩ (.int .i64 0)) (.inr Ne4)
    have B5 := ((B4.far (p := ⟨w.heap.size + 1, 0, none⟩) Rb.symm (.int .i64 0)).far (p := ⟨w.heap.size + 1, 1, none⟩) Rb.symm (.int .i64 (hopR L p))).far (p := ⟨w.heap.size + 1, 2, none⟩) Rb.symm (.int .i64 0)
    have F5 := Lib.hid (And.intro U5 (And.intro O5 B5))
    clear U5 O5 B5 U4 O4 B4 N4 Ne4 OW BU2
    obtain ⟨z0, z1, z2, _⟩ := AS
    obtain ⟨k0, k1, k2, g0, gl⟩ := A4
    have g1 := g0 0
    have g2 := g0 1
    have g3 := g0 2
    obtain ⟨d0, df, dl⟩ := B3
    have df0 := df 0
    go_wp2
    refine bodyPost_ret (by simp [results, Try.results96, go_sem, z0, z1, z2]; try rfl) rfl ?_
    refine ⟨by rw [E.out.1, hZ.out], ⟨_, F5.out.2.2, ?_, hbb⟩, by rw [HNI.out.1]; exact F5.out.1⟩
    rw [E.out.2]
    exact F5.out.2.1
  · have hz1 : (finE L p == 0) = false := by simpa using hz
    have hz2 : (finE L p != 0) = true := by simp [bne, hz1]
    have E := Lib.hid (show cutA L p = 0 ∧ cutL L p = L by simp [cutA, cutL, hz])
    have AS := A2.store 0 0 0
    have nS : ¬ (w.heap.size + 1 < w.heap.size) := by omega
    have Rb : w.heap.size + 1 ≠ b := by omega
    have Ne4 := N2.ne T1.out.2.1
    have U5 := ((BU.setCell (p := ⟨w.heap.size + 1, 0, none⟩) (fun h => absurd h nS) (.int .i64 0)).setCell (p := ⟨w.heap.size + 1, 1, none⟩) (fun h => absurd h nS) (.int .i64 0)).setCell (p := ⟨w.heap.size + 1, 2, none⟩) (fun h => absurd h nS) (.int .i64 0)
    have O5 := ((T1.out.2.1.kept (grownBy_setCell _ ⟨w.heap.size + 1, 0, none⟩ (.int .i64 0)) (.inr Ne4)).kept (grownBy_setCell _ ⟨w.heap.size + 1, 1, none⟩ (.int .i64 0)) (.inr Ne4)).kept (grownBy_setCell _ ⟨w.heap.size + 1, 2, none⟩ (.int .i64 0)) (.inr Ne4)
    have B5 := ((T1.out.1.far (p := ⟨w.heap.size + 1, 0, none⟩) Rb.symm (.int .i64 0)).far (p := ⟨w.heap.size + 1, 1, none⟩) Rb.symm (.int .i64 0)).far (p := ⟨w.heap.size + 1, 2, none⟩) Rb.symm (.int .i64 0)
    have F5 := Lib.hid (And.intro U5 (And.intro O5 B5))
    clear U5 O5 B5 BU Ne4
    obtain ⟨z0, z1, z2, _⟩ := AS
    obtain ⟨k0, k1, k2, g0, gl⟩ := A2
    have g1 := g0 0
    have g2 := g0 1
    have g3 := g0 2
    go_wp2
    refine bodyPost_ret (by simp [results, Try.results96, go_sem, z0, z1, z2]; try rfl) rfl ?_
    refine ⟨by rw [E.out.1], ⟨_, F5.out.2.2, ?_, hbb⟩, F5.out.1⟩
    rw [E.out.2]
    exact F5.out.2.1
end Go.Proofs.Ytmjlmfbceccjdaa
/-
  table.put.
-/
namespace Go.Proofs.Ytmjlmfbceccjdaa
open Go.RowKit
set_option linter.unusedVariables false
set_option linter.unusedSimpArgs false

theorem ownsRow_set {w : World} {base size g n cap m : Nat} {e : TypeId} {xs : List Value} (h : w.ownsRow base e size (.slice (some ⟨g, 0, none⟩) m cap) n xs) (j : Nat) (u : Value) : (w.setCell ⟨g, j, none⟩ u).ownsRow base e size (.slice (some ⟨g, 0, none⟩) m cap) n (xs.set j u) := by
  refine ⟨by rw [List.length_set]; exact h.1, ?_⟩
  rcases h.2 with ⟨hv, _⟩ | ⟨g', cap', cur, hv, hb, hg, h1, h2, h3, h4⟩
  · cases hv
  · cases hv
    refine .inr ⟨g, cap, cur.setIfInBounds j u, rfl, hb, ?_, h1, h2, by simpa using h3, ?_⟩
    · rw [setCell_eq_setRow w g j cur e (0, 0) u hg]; exact setRow_heap w g cur _ e _ hg
    · rw [Array.toList_setIfInBounds, List.take_set, h4]
theorem rowOf_set (r : RT) : ∀ (L : List RT) (i : Nat), i < L.length → rowOf rcs (L.set i r) = (((((rowOf rcs L).set (i * 5) (.bool r.1.1)).set (i * 5 + 1) (.int .u64 (aH r.1.2.1))).set (i * 5 + 2) (.int .u64 (aL r.1.2.1))).set (i * 5 + 3) (.int .i64 r.1.2.2)).set (i * 5 + 4) (.int .i64 r.2)
  | q :: t, 0, _ => by simp [rowOf, rcs]
  | q :: t, i + 1, h => by
    have ih := rowOf_set r t i (by simpa using h)
    have e : rowOf rcs (q :: t) = rcs q ++ rowOf rcs t := rfl
    have hl : (rcs q).length = 5 := rfl
    rw [List.set_cons_succ, show rowOf rcs (q :: t.set i r) = rcs q ++ rowOf rcs (t.set i r) from rfl, ih, e]
    have s : ∀ (xs : List Value) (j : Nat) (u : Value), (rcs q ++ xs).set ((i + 1) * 5 + j) u = rcs q ++ xs.set (i * 5 + j) u := fun xs j u => by
      rw [List.set_append_right _ _ (by rw [hl]; omega), hl, show (i + 1) * 5 + j - 5 = i * 5 + j by omega]
    have s0 : ∀ (xs : List Value) (u : Value), (rcs q ++ xs).set ((i + 1) * 5) u = rcs q ++ xs.set (i * 5) u := fun xs u => s xs 0 u
    rw [s0, s, s, s, s]
theorem Box.drew {w : World} {b : Nat} {v : Value} (h : Box w b v) : Box w.drew b v := h.keep ((Below.refl _ w).drew) h.2.2
theorem AnsV.drew {w : World} {b : Nat} {c p q : Int} (h : AnsV w b c p q) : AnsV w.drew b c p q := h.keep ((Below.refl _ w).drew) h.2.2.2.2
theorem NotR.drew {w : World} {k : Nat} (h : NotR w k) : NotR w.drew k := h.of rfl
theorem OwnR.drew {w : World} {base : Nat} {v : Value} {L : List RT} (h : OwnR w base v L) : OwnR w.drew base v L := ownsKeep h ((Below.refl _ w).drew)
def putE (L : List RT) (r : RT) : Int := if rtE r = 0 then (if hasR L r.1 then 0 else if 60 ≤ L.length then 9 else 0) else rtE r
def putA (L : List RT) (r : RT) : Int := if rtE r = 0 then (if hasR L r.1 then hopR L r.1 else 0) else 0
def putL (L : List RT) (r : RT) : List RT := if rtE r = 0 then (if hasR L r.1 then L.set (posR L r.1) r else if 60 ≤ L.length then L else insR L r) else L
set_option maxHeartbeats 4000000 in
set_option maxRecDepth 100000 in
theorem put_calls (b base : Nat) (v : Value) (L : List RT) (r : RT) (hp : r.1.2.1 < 2 ^ 128) (hs : SortedR L) (hlen : L.length ≤ 1000) (w : World) (hbs : base ≤ w.heap.size) (T : Tab w b base v L) :
    Calls Try.prog 95 #[.pointer (some ⟨b, 0, none⟩), .agg #[.bool r.1.1, .int .u64 (aH r.1.2.1), .int .u64 (aL r.1.2.1), .int .i64 r.1.2.2, .int .i64 r.2]] w fun e w' => e = .returned (.tuple #[.agg #[.int .i64 0, .int .i64 (putA L r), .int .i64 0], .int .i64 (putE L r)]) ∧ TabOut w w' b base v (putL L r) := by
  have CK := Lib.hid (fun W => checkRoute_calls r hp W)
  have PL := Lib.hid (fun (W : World) (t : Tab W b base v L) => place_calls b L r.1 v hs hlen W t.1.1 t.2.1.row)
  have P1 := (recNew w r 51).keep ((Below.refl _ _).alloc (Nat.le_refl _) (.cells #[.int .i64 0, .int .i64 0, .int .i64 0] 79)) (show w.heap.size < _ by simp)
  have A1 := AnsV.new (w.alloc (.cells #[.bool r.1.1, .int .u64 (aH r.1.2.1), .int .u64 (aL r.1.2.1), .int .i64 r.1.2.2, .int .i64 r.2] 51)) 0 0 0 79
  have N1 := NotR.new (w.alloc (.cells #[.bool r.1.1, .int .u64 (aH r.1.2.1), .int .u64 (aL r.1.2.1), .int .i64 r.1.2.2, .int .i64 r.2] 51)) #[.int .i64 0, .int .i64 0, .int .i64 0] 79 (by decide)
  simp only [World.size_alloc] at A1 N1
  have TY := Lib.hid ((T.alloc (.cells #[.bool r.1.1, .int .u64 (aH r.1.2.1), .int .u64 (aL r.1.2.1), .int .i64 r.1.2.2, .int .i64 r.2] 51)).alloc (.cells #[.int .i64 0, .int .i64 0, .int .i64 0] 79))
  have bY : Below w.heap.size w ((w.alloc (.cells #[.bool r.1.1, .int .u64 (aH r.1.2.1), .int .u64 (aL r.1.2.1), .int .i64 r.1.2.2, .int .i64 r.2] 51)).alloc (.cells #[.int .i64 0, .int .i64 0, .int .i64 0] 79)) := by go_grown
  have hbw := T.1.2.2
  have olt : ∀ k, v.ownBlock = some k → base ≤ k ∧ k < w.heap.size := T.2.1.lt
  have hbb := T.2.2
  clear T
  have hRs : w.heap.size < ((w.alloc (.cells #[.bool r.1.1, .int .u64 (aH r.1.2.1), .int .u64 (aL r.1.2.1), .int .i64 r.1.2.2, .int .i64 r.2] 51)).alloc (.cells #[.int .i64 0, .int .i64 0, .int .i64 0] 79)).heap.size := by simp; omega
  obtain ⟨y0, y1, y2, y3, y4⟩ := routeCells P1
  simp only [Nat.zero_add] at y0 y1 y2 y3 y4
  go_enter Try.func95, Try.ntmps95
  go_wp2_with fail
  refine (CK.out _).mono ?_
  rintro e w1 ⟨rfl, hb1⟩
  have P2 := P1.keep hb1 hRs
  have A2 := A1.keep hb1 A1.2.2.2.2
  have N2 := N1.of (hb1.block _ A1.2.2.2.2)
  have T1 := Lib.hid (TY.out.keep hb1)
  have b1 := thenBelow bY hb1
  have hR1 := Nat.lt_of_lt_of_le hRs hb1.size
  clear P1 TY bY hb1 CK A1 N1 y0 y1 y2 y3 y4 hRs
  have nS : ¬ (w.heap.size + 1 < w.heap.size) := by omega
  have Rb : w.heap.size + 1 ≠ b := by omega
  have Rne : v.ownBlock ≠ some (w.heap.size + 1) := fun e => by have := (olt _ e).2; omega
  have bnk : v.ownBlock ≠ some b := fun e => by have := (olt _ e).1; omega
  -- how a way ends: an answer is stored, the table is as it was
  have FIN : Hid (∀ (W : World) (v' : Value) (L' : List RT) (h : Int), Box W b v' → OwnR W base v' L' → NotR W (w.heap.size + 1) → But (fun k => k = b ∨ v.ownBlock = some k) w W →
      TabOut w (((W.setCell ⟨w.heap.size + 1, 0, none⟩ (.int .i64 0)).setCell ⟨w.heap.size + 1, 1, none⟩ (.int .i64 h)).setCell ⟨w.heap.size + 1, 2, none⟩ (.int .i64 0)) b base v L') := Lib.hid fun W v' L' h B O N U => by
    have Ne := N.ne O
    exact ⟨⟨v', ((B.far (p := ⟨w.heap.size + 1, 0, none⟩) Rb.symm (.int .i64 0)).far (p := ⟨w.heap.size + 1, 1, none⟩) Rb.symm (.int .i64 h)).far (p := ⟨w.heap.size + 1, 2, none⟩) Rb.symm (.int .i64 0),
      ((O.kept (grownBy_setCell _ ⟨w.heap.size + 1, 0, none⟩ (.int .i64 0)) (.inr Ne)).kept (grownBy_setCell _ ⟨w.heap.size + 1, 1, none⟩ (.int .i64 h)) (.inr Ne)).kept (grownBy_setCell _ ⟨w.heap.size + 1, 2, none⟩ (.int .i64 0)) (.inr Ne), hbb⟩,
      ((U.setCell (p := ⟨w.heap.size + 1, 0, none⟩) (fun h => absurd h nS) (.int .i64 0)).setCell (p := ⟨w.heap.size + 1, 1, none⟩) (fun h => absurd h nS) (.int .i64 h)).setCell (p := ⟨w.heap.size + 1, 2, none⟩) (fun h => absurd h nS) (.int .i64 0)⟩
  by_cases hz : rtE r = 0
  · rw [hz]
    obtain ⟨y0, y1, y2, y3, y4⟩ := routeCells P2
    simp only [Nat.zero_add] at y0 y1 y2 y3 y4
    go_wp2_with fail
    refine (PL.out _ T1.out).mono ?_
    rintro e w2 ⟨rfl, hb2⟩
    have P3 := P2.keep hb2 hR1
    have A3 := A2.keep hb2 A2.2.2.2.2
    have N3 := N2.of (hb2.block _ A2.2.2.2.2)
    have T2 := Lib.hid (T1.out.keep hb2)
    have b2 := thenBelow b1 hb2
    have BU := But.of_below (S := fun k => k = b ∨ v.ownBlock = some k) b2
    have hR2 := Nat.lt_of_lt_of_le hR1 hb2.size
    clear P2 T1 b1 hb2 PL A2 N2 y0 y1 y2 y3 y4
    obtain ⟨y0, y1, y2, y3, y4⟩ := routeCells P3
    simp only [Nat.zero_add] at y0 y1 y2 y3 y4
    by_cases hh : hasR L r.1 = true
    · obtain ⟨ht, e3⟩ := hs.found.1 hh
      have e4 : (L[posR L r.1]'ht).2 = hopR L r.1 := by simp [hopR, List.getElem?_eq_getElem ht]
      have E := Lib.hid (show putE L r = 0 ∧ putA L r = hopR L r.1 ∧ putL L r = L.set (posR L r.1) r by simp [putE, putA, putL, hz, hh])
      rw [hh]
      have own2 := T2.out.2.1
      rcases own2.2 with ⟨rfl, h0⟩ | ⟨g, cap, cur, rfl, hbg, hg, hnc, hcm, hcs, htake⟩
      · omega
      have hgl := (Array.getElem?_eq_some_iff.1 hg).1
      have hfr : ∀ j, w2.frozen? ⟨g, j, none⟩ = false := fun j => by simp [World.frozen?, hg]
      have hrec : RecAt w2 g (posR L r.1 * 5) (rcs (L[posR L r.1]'ht)) := fun j u hj => by
        have hjk : j < 5 := by
          rcases Nat.lt_or_ge j 5 with h | h
          · exact h
          · rw [List.getElem?_eq_none (by rw [rcs_len]; exact h)] at hj; cases hj
        exact owns_cellAt own2 _ u (by rw [rowOf_at rcs 5 rcs_len L _ ht j hjk]; exact hj)
      obtain ⟨x0, x1, x2, x3, x4⟩ := routeCells hrec
      rw [e4] at x4
      have cb := T2.out.1.1
      have hti : ((posR L r.1 : Nat) : Int) < (L.length : Int) := by omega
      have hgb : g ≠ b := fun e => bnk (by rw [e]; rfl)
      have hgR : g ≠ w.heap.size + 1 := fun e => Rne (by rw [e]; rfl)
      -- the row with the route in it
      have W5 := Lib.hid (show OwnR (((((w2.setCell ⟨g, posR L r.1 * 5, none⟩ (.bool r.1.1)).setCell ⟨g, posR L r.1 * 5 + 1, none⟩ (.int .u64 (aH r.1.2.1))).setCell ⟨g, posR L r.1 * 5 + 2, none⟩ (.int .u64 (aL r.1.2.1))).setCell ⟨g, posR L r.1 * 5 + 3, none⟩ (.int .i64 r.1.2.2)).setCell ⟨g, posR L r.1 * 5 + 4, none⟩ (.int .i64 r.2)) base (.slice (some ⟨g, 0, none⟩) L.length cap) (L.set (posR L r.1) r) by
        unfold OwnR
        rw [List.length_set, rowOf_set r L _ ht]
        exact ownsRow_set (ownsRow_set (ownsRow_set (ownsRow_set (ownsRow_set own2 _ _) _ _) _ _) _ _) _ _)
      have A5 := ((((A3.far (p := ⟨g, posR L r.1 * 5, none⟩) hgR.symm (.bool r.1.1)).far (p := ⟨g, posR L r.1 * 5 + 1, none⟩) hgR.symm (.int .u64 (aH r.1.2.1))).far (p := ⟨g, posR L r.1 * 5 + 2, none⟩) hgR.symm (.int .u64 (aL r.1.2.1))).far (p := ⟨g, posR L r.1 * 5 + 3, none⟩) hgR.symm (.int .i64 r.1.2.2)).far (p := ⟨g, posR L r.1 * 5 + 4, none⟩) hgR.symm (.int .i64 r.2)
      have B5 := ((((T2.out.1.far (p := ⟨g, posR L r.1 * 5, none⟩) hgb.symm (.bool r.1.1)).far (p := ⟨g, posR L r.1 * 5 + 1, none⟩) hgb.symm (.int .u64 (aH r.1.2.1))).far (p := ⟨g, posR L r.1 * 5 + 2, none⟩) hgb.symm (.int .u64 (aL r.1.2.1))).far (p := ⟨g, posR L r.1 * 5 + 3, none⟩) hgb.symm (.int .i64 r.1.2.2)).far (p := ⟨g, posR L r.1 * 5 + 4, none⟩) hgb.symm (.int .i64 r.2)
      have U5 := ((((BU.setCell (p := ⟨g, posR L r.1 * 5, none⟩) (fun _ => .inr rfl) (.bool r.1.1)).setCell (p := ⟨g, posR L r.1 * 5 + 1, none⟩) (fun _ => .inr rfl) (.int .u64 (aH r.1.2.1))).setCell (p := ⟨g, posR L r.1 * 5 + 2, none⟩) (fun _ => .inr rfl) (.int .u64 (aL r.1.2.1))).setCell (p := ⟨g, posR L r.1 * 5 + 3, none⟩) (fun _ => .inr rfl) (.int .i64 r.1.2.2)).setCell (p := ⟨g, posR L r.1 * 5 + 4, none⟩) (fun _ => .inr rfl) (.int .i64 r.2)
      have N5 : NotR (((((w2.setCell ⟨g, posR L r.1 * 5, none⟩ (.bool r.1.1)).setCell ⟨g, posR L r.1 * 5 + 1, none⟩ (.int .u64 (aH r.1.2.1))).setCell ⟨g, posR L r.1 * 5 + 2, none⟩ (.int .u64 (aL r.1.2.1))).setCell ⟨g, posR L r.1 * 5 + 3, none⟩ (.int .i64 r.1.2.2)).setCell ⟨g, posR L r.1 * 5 + 4, none⟩ (.int .i64 r.2)) (w.heap.size + 1) :=
        N3.of ((Below.heap_setCell _ _ _ _ hgR.symm).trans ((Below.heap_setCell _ _ _ _ hgR.symm).trans ((Below.heap_setCell _ _ _ _ hgR.symm).trans ((Below.heap_setCell _ _ _ _ hgR.symm).trans (Below.heap_setCell _ _ _ _ hgR.symm)))))
      have F := Lib.hid (FIN.out ((((((w2.setCell ⟨g, posR L r.1 * 5, none⟩ (.bool r.1.1)).setCell ⟨g, posR L r.1 * 5 + 1, none⟩ (.int .u64 (aH r.1.2.1))).setCell ⟨g, posR L r.1 * 5 + 2, none⟩ (.int .u64 (aL r.1.2.1))).setCell ⟨g, posR L r.1 * 5 + 3, none⟩ (.int .i64 r.1.2.2)).setCell ⟨g, posR L r.1 * 5 + 4, none⟩ (.int .i64 r.2)).drew) _ _ (hopR L r.1) B5.drew (OwnR.drew W5.out) N5.drew U5.drew)
      have A5H : Hid (AnsV ((((((w2.setCell ⟨g, posR L r.1 * 5, none⟩ (.bool r.1.1)).setCell ⟨g, posR L r.1 * 5 + 1, none⟩ (.int .u64 (aH r.1.2.1))).setCell ⟨g, posR L r.1 * 5 + 2, none⟩ (.int .u64 (aL r.1.2.1))).setCell ⟨g, posR L r.1 * 5 + 3, none⟩ (.int .i64 r.1.2.2)).setCell ⟨g, posR L r.1 * 5 + 4, none⟩ (.int .i64 r.2)).drew) (w.heap.size + 1) 0 0 0) := Lib.hid A5.drew
      have PH := Lib.hid (And.intro ht hti)
      clear FIN BU N3 T2 W5 B5 U5 N5 hrec own2 htake hcs e3 e4 A5
      generalize (L[posR L r.1]'ht) = q at x0 x1 x2 x3
      have f0 := hfr (posR L r.1 * 5)
      have f1 := hfr (posR L r.1 * 5 + 1)
      have f2 := hfr (posR L r.1 * 5 + 2)
      have f3 := hfr (posR L r.1 * 5 + 3)
      have f4 := hfr (posR L r.1 * 5 + 4)
      go_wp2_with fail
      go_region
      revert F A5H
      generalize (((((w2.setCell ⟨g, posR L r.1 * 5, none⟩ (.bool r.1.1)).setCell ⟨g, posR L r.1 * 5 + 1, none⟩ (.int .u64 (aH r.1.2.1))).setCell ⟨g, posR L r.1 * 5 + 2, none⟩ (.int .u64 (aL r.1.2.1))).setCell ⟨g, posR L r.1 * 5 + 3, none⟩ (.int .i64 r.1.2.2)).setCell ⟨g, posR L r.1 * 5 + 4, none⟩ (.int .i64 r.2)).drew = Z
      intro F A5H
      have AS := A5H.out.store 0 (hopR L r.1) 0
      obtain ⟨z0, z1, z2, _⟩ := AS
      obtain ⟨k0, k1, k2, g0, gl⟩ := A5H.out
      have g1 := g0 0
      have g2 := g0 1
      have g3 := g0 2
      go_wp2
      refine bodyPost_ret (by simp [results, Try.results95, go_sem, z0, z1, z2]; try rfl) rfl ?_
      exact ⟨by rw [E.out.1, E.out.2.1], by rw [E.out.2.2]; exact F.out⟩
    · have hh' : hasR L r.1 = false := by simpa using hh
      rw [hh']
      by_cases h60 : 60 ≤ L.length
      · have E := Lib.hid (show putE L r = 9 ∧ putA L r = 0 ∧ putL L r = L by simp [putE, putA, putL, hz, hh', h60])
        have F := Lib.hid (FIN.out w2 v L 0 T2.out.1 T2.out.2.1 N3 BU)
        obtain ⟨vp, vc, rfl⟩ := T2.out.form
        have cb := T2.out.1.1
        have h60' : (60 : Int) ≤ (L.length : Int) := by omega
        have AS := A3.store 0 0 0
        obtain ⟨z0, z1, z2, _⟩ := AS
        obtain ⟨k0, k1, k2, g0, gl⟩ := A3
        have g1 := g0 0
        have g2 := g0 1
        have g3 := g0 2
        clear FIN BU N3 T2
        go_wp2
        refine bodyPost_ret (by simp [results, Try.results95, go_sem, z0, z1, z2]; try rfl) rfl ?_
        exact ⟨by rw [E.out.1, E.out.2.1], by rw [E.out.2.2]; exact F.out⟩
      · have E := Lib.hid (show putE L r = 0 ∧ putA L r = 0 ∧ putL L r = insR L r by simp [putE, putA, putL, hz, hh', h60])
        have IC := Lib.hid (fun (W : World) (hbW : base ≤ W.heap.size) (ow : OwnR W base v L) (vb : Nat) (hv : W.heap[vb]? = some (.cells (rcs r).toArray 51 (0, 0))) (hne : v.ownBlock ≠ some vb) =>
          insert_calls base vb (posR L r.1) 51 v L r hlen (posR_le _ _) W hbW ow hv hne)
        have h60' : ¬ (60 : Int) ≤ (L.length : Int) := by omega
        have T2' := T2.out
        have olt2 : ∀ k, v.ownBlock = some k → k < w2.heap.size := fun k h => (T2.out.2.1.lt k h).2
        have hbs2 : base ≤ w2.heap.size := Nat.le_trans hbs b2.size
        have cb := T2.out.1.1
        have cbl := T2.out.1.2.2
        obtain ⟨vp, vc, hvf⟩ := T2.out.form
        have cb' := cb
        rw [hvf] at cb'
        subst hvf
        have HF := Lib.hid FIN.out
        have TX := Lib.hid (show Tab (w2.alloc (.cells #[.bool r.1.1, .int .u64 (aH r.1.2.1), .int .u64 (aL r.1.2.1), .int .i64 r.1.2.2, .int .i64 r.2] 51)).drew b base (.slice vp L.length vc) L from (T2.out.alloc (.cells #[.bool r.1.1, .int .u64 (aH r.1.2.1), .int .u64 (aL r.1.2.1), .int .i64 r.1.2.2, .int .i64 r.2] 51)).keep (Below.refl _ _).drew)
        have AX := Lib.hid ((A3.alloc (.cells #[.bool r.1.1, .int .u64 (aH r.1.2.1), .int .u64 (aL r.1.2.1), .int .i64 r.1.2.2, .int .i64 r.2] 51)).drew)
        have NX := Lib.hid ((N3.of (w' := w2.alloc (.cells #[.bool r.1.1, .int .u64 (aH r.1.2.1), .int .u64 (aL r.1.2.1), .int .i64 r.1.2.2, .int .i64 r.2] 51)) (_root_.Go.heap_alloc_old w2 _ A3.2.2.2.2)).drew)
        have UX := Lib.hid ((BU.trans (But.of_below (S := fun k => k = b ∨ (Value.slice vp L.length vc).ownBlock = some k) ((Below.refl _ w2).alloc (Nat.le_refl _) (.cells #[.bool r.1.1, .int .u64 (aH r.1.2.1), .int .u64 (aL r.1.2.1), .int .i64 r.1.2.2, .int .i64 r.2] 51))) (fun k _ h => h)).drew)
        have HX : Hid ((w2.alloc (.cells #[.bool r.1.1, .int .u64 (aH r.1.2.1), .int .u64 (aL r.1.2.1), .int .i64 r.1.2.2, .int .i64 r.2] 51)).drew.heap[w2.heap.size]? = some (.cells (rcs r).toArray 51 (0, 0))) := Lib.hid (_root_.Go.heap_alloc_new w2 _)
        have hbX : base ≤ (w2.alloc (.cells #[.bool r.1.1, .int .u64 (aH r.1.2.1), .int .u64 (aL r.1.2.1), .int .i64 r.1.2.2, .int .i64 r.2] 51)).drew.heap.size := by show base ≤ (w2.alloc (.cells #[.bool r.1.1, .int .u64 (aH r.1.2.1), .int .u64 (aL r.1.2.1), .int .i64 r.1.2.2, .int .i64 r.2] 51)).heap.size; simp; omega
        have AFT : Hid (∀ (w3 : World) (v' : Value), OwnR w3 base v' (insR L r) → (w2.alloc (.cells #[.bool r.1.1, .int .u64 (aH r.1.2.1), .int .u64 (aL r.1.2.1), .int .i64 r.1.2.2, .int .i64 r.2] 51)).drew.grownBy w3 (Value.slice vp L.length vc).ownBlock →
            (∃ p c, v' = .slice p (L.length + 1) c) ∧ Box w3 b (.slice vp L.length vc) ∧ AnsV (w3.setCell ⟨b, 0, none⟩ v') (w.heap.size + 1) 0 0 0 ∧ TabOut w ((((w3.setCell ⟨b, 0, none⟩ v').setCell ⟨w.heap.size + 1, 0, none⟩ (.int .i64 0)).setCell ⟨w.heap.size + 1, 1, none⟩ (.int .i64 0)).setCell ⟨w.heap.size + 1, 2, none⟩ (.int .i64 0)) b base (.slice vp L.length vc) (insR L r)) := Lib.hid fun w3 v' ho hg => by
          have B3 := TX.out.1.grown hg bnk
          have e3 := hg.block (w.heap.size + 1) AX.out.2.2.2.2 (fun e => Rne e.symm)
          have A3' := AX.out.of_block e3 hg.size
          have N3' := NX.out.of e3
          have U3 := UX.out.trans (But.of_grown (S := fun k => k = b ∨ (Value.slice vp L.length vc).ownBlock = some k) hg (fun k h => .inr h)) (fun k _ h => h)
          have O4 : OwnR (w3.setCell ⟨b, 0, none⟩ v') base v' (insR L r) := ho.kept (grownBy_setCell w3 ⟨b, 0, none⟩ v') (.inr fun e => by have := (ho.lt b e).1; omega)
          obtain ⟨p, c, e⟩ := ho.row.form
          rw [insR_len] at e
          exact ⟨⟨p, c, e⟩, B3, A3'.far (p := ⟨b, 0, none⟩) Rb v', HF.out _ _ _ 0 (B3.store v') O4 (N3'.of (Below.heap_setCell _ _ _ _ Rb)) (U3.setCell (p := ⟨b, 0, none⟩) (fun _ => .inl rfl) v')⟩
        have hneX : (Value.slice vp L.length vc).ownBlock ≠ some w2.heap.size := fun e => by have := olt2 _ e; omega
        clear FIN cb HF N3 BU T2 T2'
        go_wp2_with fail
        go_region_with (go_at_call 88; refine (IC.out _ hbX TX.out.2.1 w2.heap.size HX.out hneX).mono ?_; rintro e w3 ⟨v', rfl, ho3, hg3⟩; obtain ⟨⟨np, nc, rfl⟩, ⟨d0, df, dl⟩, AZ, TZ⟩ := AFT.out w3 v' ho3 hg3; have HA := Lib.hid AZ; have HT := Lib.hid TZ; have df0 := df 0; clear ho3 hg3 AZ TZ)
        all_goals (obtain ⟨k0, k1, k2, g0, gl⟩ := HA.out)
        all_goals (have g1 := g0 0; have g2 := g0 1; have g3 := g0 2)
        all_goals (obtain ⟨z0, z1, z2, _⟩ := HA.out.store 0 0 0)
        all_goals go_wp2
        all_goals (refine bodyPost_ret (by simp [results, Try.results95, go_sem, z0, z1, z2]; try rfl) rfl ?_)
        all_goals exact ⟨by rw [E.out.1, E.out.2.1], by rw [E.out.2.2]; exact HT.out⟩
  · have hz1 : (rtE r == 0) = false := by simpa using hz
    have hz2 : (rtE r != 0) = true := by rw [bne, hz1]; rfl
    have E := Lib.hid (show putE L r = rtE r ∧ putA L r = 0 ∧ putL L r = L from ⟨if_neg hz, if_neg hz, if_neg hz⟩)
    have F := Lib.hid (FIN.out w1 v L 0 T1.out.1 T1.out.2.1 N2 (But.of_below b1))
    have AS := A2.store 0 0 0
    obtain ⟨z0, z1, z2, _⟩ := AS
    obtain ⟨k0, k1, k2, g0, gl⟩ := A2
    have g1 := g0 0
    have g2 := g0 1
    have g3 := g0 2
    clear FIN N2 T1 PL P2
    go_wp2
    refine bodyPost_ret (by simp [results, Try.results95, go_sem, z0, z1, z2]; try rfl) rfl ?_
    exact ⟨by rw [E.out.1, E.out.2.1], by rw [E.out.2.2]; exact F.out⟩
end Go.Proofs.Ytmjlmfbceccjdaa
/-
  Plain mathematics: the longest match of a list of routes is the last match in their order.
-/
namespace Go.Proofs.Ytmjlmfbceccjdaa
set_option linter.unusedVariables false
set_option linter.unusedSimpArgs false

/-- All prefixes are valid. -/
def ValR (l : List RT) : Prop := ∀ r ∈ l, chkE r.1.1 r.1.2.1 r.1.2.2 = 0
/-- No prefix twice. -/
def DistR (l : List RT) : Prop := ∀ a ∈ l, ∀ b ∈ l, a.1 = b.1 → a = b
/-- This hop and this length are those of the longest match. -/
def BestIs (s : Bool) (y : Nat) (l : List RT) (h n : Int) : Prop := ((∀ r ∈ l, mB s y r = false) ∧ h = 0 ∧ n = 0) ∨ ∃ r ∈ l, mB s y r = true ∧ r.2 = h ∧ r.1.2.2 = n ∧ ∀ q ∈ l, mB s y q = true → q.1.2.2 ≤ n
theorem mB_iff (s : Bool) (y : Nat) (r : RT) : mB s y r = true ↔ r.1.1 = s ∧ lowN y (wideN s - r.1.2.2.toNat) = r.1.2.1 := by simp [mB]
theorem BestIs.unique {s : Bool} {y : Nat} {l : List RT} (hd : DistR l) {h n h' n' : Int} (a : BestIs s y l h n) (b : BestIs s y l h' n') : h = h' ∧ n = n' := by
  rcases a with ⟨a1, rfl, rfl⟩ | ⟨r, hr, hm, rfl, rfl, ha⟩ <;> rcases b with ⟨b1, rfl, rfl⟩ | ⟨q, hq, hn, rfl, rfl, hb⟩
  · exact ⟨rfl, rfl⟩
  · rw [a1 q hq] at hn; cases hn
  · rw [b1 r hr] at hm; cases hm
  · have e : r.1.2.2 = q.1.2.2 := by have := ha q hq hn; have := hb r hr hm; omega
    have m1 := (mB_iff s y r).1 hm
    have m2 := (mB_iff s y q).1 hn
    have : r = q := hd r hr q hq (by
      obtain ⟨⟨s1, x1, n1⟩, h1⟩ := r
      obtain ⟨⟨s2, x2, n2⟩, h2⟩ := q
      simp only at e m1 m2 ⊢
      rw [e] at m1
      rw [m1.1, m2.1, ← m1.2, ← m2.2, e])
    rw [this]; exact ⟨rfl, rfl⟩
theorem BestIs.congr {s : Bool} {y : Nat} {l m : List RT} (hm : ∀ r, r ∈ l ↔ r ∈ m) {h n : Int} (a : BestIs s y l h n) : BestIs s y m h n := by
  rcases a with ⟨a1, e1, e2⟩ | ⟨r, hr, hmb, e1, e2, ha⟩
  · exact .inl ⟨fun r hr => a1 r ((hm r).2 hr), e1, e2⟩
  · exact .inr ⟨r, (hm r).1 hr, hmb, e1, e2, fun q hq => ha q ((hm q).2 hq)⟩
theorem lowN_anti (y : Nat) {k j : Nat} (h : k ≤ j) : lowN y j ≤ lowN y k := by
  unfold lowN
  have hp : (2 : Nat) ^ j = 2 ^ (j - k) * 2 ^ k := by rw [← Nat.pow_add]; congr 1; omega
  have h1 : y / 2 ^ j * 2 ^ j ≤ y := Nat.div_mul_le_self _ _
  rw [hp, ← Nat.mul_assoc] at h1 ⊢
  exact Nat.mul_le_mul_right _ ((Nat.le_div_iff_mul_le (Nat.two_pow_pos k)).2 h1)
theorem SortedR.dist {l : List RT} (h : SortedR l) : DistR l := by
  intro a ha b hb e
  obtain ⟨i, hi, rfl⟩ := List.getElem_of_mem ha
  obtain ⟨j, hj, rfl⟩ := List.getElem_of_mem hb
  rcases Nat.lt_trichotomy i j with g | g | g
  · exact absurd e (ltK_ne (h.lt g hj))
  · subst g; rfl
  · exact absurd e.symm (ltK_ne (h.lt g hi))
theorem lastM_best {s : Bool} {y : Nat} {l : List RT} (hs : SortedR l) (hv : ValR l) : BestIs s y l (lastM (l.filter (mB s y))).1 (lastM (l.filter (mB s y))).2 := by
  rcases List.eq_nil_or_concat (l.filter (mB s y)) with e | ⟨t, r, e⟩
  · rw [e]
    refine .inl ⟨fun r hr => ?_, rfl, rfl⟩
    have := List.filter_eq_nil_iff.1 e r hr
    simpa using this
  · rw [List.concat_eq_append] at e
    rw [e, lastM_snoc]
    have hr : r ∈ l.filter (mB s y) := by rw [e]; simp
    obtain ⟨hr1, hr2⟩ := List.mem_filter.1 hr
    refine .inr ⟨r, hr1, hr2, rfl, rfl, fun q hq hm => ?_⟩
    have hq2 : q ∈ l.filter (mB s y) := List.mem_filter.2 ⟨hq, hm⟩
    rw [e] at hq2
    have hsf : (l.filter (mB s y)).Pairwise fun a b => ltK a.1 b.1 := List.Pairwise.sublist List.filter_sublist hs
    rw [e, List.pairwise_append] at hsf
    rcases List.mem_append.1 hq2 with h | h
    · have lt := hsf.2.2 q h r (by simp)
      have m1 := (mB_iff s y r).1 hr2
      have m2 := (mB_iff s y q).1 hm
      refine Classical.byContradiction fun hn => ?_
      obtain ⟨_, k1, e1, hk1, _⟩ := chk0 (hv r hr1)
      obtain ⟨_, k2, e2, hk2, _⟩ := chk0 (hv q hq)
      have hlow := lowN_anti y (show wideN s - q.1.2.2.toNat ≤ wideN s - r.1.2.2.toNat by omega)
      rw [m1.2, m2.2] at hlow
      rcases lt with ⟨a, b⟩ | ⟨_, h | ⟨_, h⟩⟩
      · rw [m2.1] at a; rw [m1.1] at b; rw [a] at b; cases b
      · omega
      · omega
    · simp at h; subst h; exact Int.le_refl _
/-- The document's own search. -/
def bestM (s : Bool) (y : Nat) (l : List RT) : Int × Int := l.foldl (fun b r => if mB s y r && decide (r.1.2.2 > b.2) then (r.2, r.1.2.2) else b) (0, -1)
def bestA (s : Bool) (y : Nat) (l : List RT) : Int × Int := ((bestM s y l).1, if (bestM s y l).2 < 0 then 0 else (bestM s y l).2)
theorem bestM_snoc (s : Bool) (y : Nat) (l : List RT) (r : RT) : bestM s y (l ++ [r]) = if mB s y r && decide (r.1.2.2 > (bestM s y l).2) then (r.2, r.1.2.2) else bestM s y l := by simp [bestM, List.foldl_append]
theorem bestM_best {s : Bool} {y : Nat} {l : List RT} (hv : ValR l) : ((∀ r ∈ l, mB s y r = false) ∧ bestM s y l = (0, -1)) ∨ ∃ r ∈ l, mB s y r = true ∧ bestM s y l = (r.2, r.1.2.2) ∧ ∀ q ∈ l, mB s y q = true → q.1.2.2 ≤ r.1.2.2 := by
  suffices H : ∀ m : List RT, ValR m.reverse → ((∀ r ∈ m.reverse, mB s y r = false) ∧ bestM s y m.reverse = (0, -1)) ∨ ∃ r ∈ m.reverse, mB s y r = true ∧ bestM s y m.reverse = (r.2, r.1.2.2) ∧ ∀ q ∈ m.reverse, mB s y q = true → q.1.2.2 ≤ r.1.2.2 by
    have := H l.reverse (by rw [List.reverse_reverse]; exact hv)
    rwa [List.reverse_reverse] at this
  intro m
  induction m with
  | nil => intro _; exact .inl ⟨fun r hr => (by simp at hr), rfl⟩
  | cons r t ih =>
    intro hvm
    rw [List.reverse_cons] at hvm ⊢
    have hvt : ValR t.reverse := fun q hq => hvm q (List.mem_append.2 (.inl hq))
    have hr0 := hvm r (by simp)
    obtain ⟨_, k, ek, _, _⟩ := chk0 hr0
    rw [bestM_snoc]
    by_cases hm : mB s y r = true
    · rcases ih hvt with ⟨h1, h2⟩ | ⟨q, hq, hqm, h2, h3⟩
      · rw [h2]
        have : (r.1.2.2 > -1) := by omega
        rw [show (mB s y r && decide (r.1.2.2 > ((0, -1) : Int × Int).2)) = true by simp [hm, this]]
        refine .inr ⟨r, by simp, hm, rfl, fun q hq hqm => ?_⟩
        rcases List.mem_append.1 hq with h | h
        · rw [h1 q h] at hqm; cases hqm
        · simp at h; subst h; exact Int.le_refl _
      · rw [h2]
        by_cases hg : r.1.2.2 > q.1.2.2
        · rw [show (mB s y r && decide (r.1.2.2 > ((q.2, q.1.2.2) : Int × Int).2)) = true by simp [hm, hg]]
          refine .inr ⟨r, by simp, hm, rfl, fun p hp hpm => ?_⟩
          rcases List.mem_append.1 hp with h | h
          · have := h3 p h hpm; omega
          · simp at h; subst h; exact Int.le_refl _
        · rw [show (mB s y r && decide (r.1.2.2 > ((q.2, q.1.2.2) : Int × Int).2)) = false by simp [hm, hg]]
          refine .inr ⟨q, List.mem_append.2 (.inl hq), hqm, rfl, fun p hp hpm => ?_⟩
          rcases List.mem_append.1 hp with h | h
          · exact h3 p h hpm
          · simp at h; subst h; omega
    · have hm' : mB s y r = false := by simpa using hm
      rw [hm', Bool.false_and]
      rcases ih hvt with ⟨h1, h2⟩ | ⟨q, hq, hqm, h2, h3⟩
      · refine .inl ⟨fun p hp => ?_, h2⟩
        rcases List.mem_append.1 hp with h | h
        · exact h1 p h
        · simp at h; subst h; exact hm'
      · refine .inr ⟨q, List.mem_append.2 (.inl hq), hqm, h2, fun p hp hpm => ?_⟩
        rcases List.mem_append.1 hp with h | h
        · exact h3 p h hpm
        · simp at h; subst h; rw [hm'] at hpm; cases hpm
theorem bestA_best {s : Bool} {y : Nat} {l : List RT} (hv : ValR l) : BestIs s y l (bestA s y l).1 (bestA s y l).2 := by
  rcases bestM_best (s := s) (y := y) hv with ⟨h1, h2⟩ | ⟨r, hr, hm, h2, h3⟩
  · exact .inl ⟨h1, by simp [bestA, h2], by simp [bestA, h2]⟩
  · obtain ⟨_, k, ek, _, _⟩ := chk0 (hv r hr)
    have : ¬ r.1.2.2 < 0 := by omega
    exact .inr ⟨r, hr, hm, by simp [bestA, h2], by simp [bestA, h2, this], by simp only [bestA, h2, if_neg this]; exact h3⟩
theorem srt_mem (l : List RT) (r : RT) : r ∈ srt l ↔ r ∈ l := by
  suffices H : ∀ (m s : List RT), r ∈ m.foldl insR s ↔ r ∈ s ∨ r ∈ m by have := H l []; simpa [srt] using this
  intro m
  induction m with
  | nil => intro s; simp
  | cons a t ih =>
    intro s
    rw [List.foldl_cons, ih, insR_mem, List.mem_cons]
    constructor
    · rintro ((h | h) | h)
      · exact .inr (.inl h)
      · exact .inl h
      · exact .inr (.inr h)
    · rintro (h | h | h)
      · exact .inl (.inr h)
      · exact .inl (.inl h)
      · exact .inr h
theorem behE_val : ∀ (l seen : List RT), behE seen l = 0 → ValR l ∧ ∀ r ∈ l, 1 ≤ r.2 ∧ r.2 ≤ 999
  | [], _, _ => ⟨fun r hr => (by cases hr), fun r hr => (by cases hr)⟩
  | r :: t, seen, h => by
    rw [behE] at h
    split at h
    · rename_i hz
      split at h
      · cases h
      · obtain ⟨h1, h2⟩ := behE_val t _ h
        have hr : chkE r.1.1 r.1.2.1 r.1.2.2 = 0 ∧ 1 ≤ r.2 ∧ r.2 ≤ 999 := by
          unfold rtE at hz
          split at hz
          · rename_i hc
            split at hz
            · rename_i hh; exact ⟨hc, hh⟩
            · cases hz
          · rename_i hc; exact absurd hz hc
        exact ⟨fun q hq => (List.mem_cons.1 hq).elim (fun e => e ▸ hr.1) (h1 q), fun q hq => (List.mem_cons.1 hq).elim (fun e => e ▸ hr.2) (h2 q)⟩
    · rename_i hz; exact absurd h hz
theorem tabE_val {l : List RT} (h : tabE l = 0) : ValR l ∧ (∀ r ∈ l, 1 ≤ r.2 ∧ r.2 ≤ 999) ∧ l.length ≤ 60 := by
  unfold tabE at h
  split at h
  · cases h
  · rename_i hl
    obtain ⟨a, b⟩ := behE_val l [] h
    exact ⟨a, b, by omega⟩
/-- The last match in a valid table's order is what the document's search finds. -/
theorem look_same {s : Bool} {y : Nat} {l : List RT} (h : tabE l = 0) (hs : SortedR (srt l)) : lastM ((srt l).filter (mB s y)) = bestA s y l := by
  have hv := (tabE_val h).1
  have hvs : ValR (srt l) := fun r hr => hv r ((srt_mem l r).1 hr)
  have a := lastM_best (s := s) (y := y) hs hvs
  have b := (bestA_best (s := s) (y := y) hv).congr (fun r => (srt_mem l r).symm)
  obtain ⟨e1, e2⟩ := a.unique hs.dist b
  exact Prod.ext e1 e2
end Go.Proofs.Ytmjlmfbceccjdaa
/-
  table.Look; the document's preIn of a route, goes and TableLook.
-/
namespace Go.Proofs.Ytmjlmfbceccjdaa
open Go.RowKit
set_option linter.unusedVariables false
set_option linter.unusedSimpArgs false

theorem refInM_calls (r : RT) (s : Bool) (y : Nat) (hc : chkE r.1.1 r.1.2.1 r.1.2.2 = 0) (hy : y < 2 ^ wideN s) (w : World) :
    Calls Try.prog 93 #[.agg #[.bool r.1.1, .int .u64 (aH r.1.2.1), .int .u64 (aL r.1.2.1), .int .i64 r.1.2.2], .agg #[.bool s, .int .u64 (aH y), .int .u64 (aL y)]] w fun e w' => e = .returned (.bool (mB s y r)) ∧ Below w.heap.size w w' := by
  obtain ⟨⟨t, x, n⟩, h⟩ := r
  obtain ⟨hx, k, rfl, hk, hl⟩ := chk0 hc
  simp only at hx hk hl hc ⊢
  by_cases e : t = s
  · subst e
    exact refIn_calls t x y k _ hx hy hk (by rw [hl]; simp [mB]) w
  · rw [show mB s y ((t, x, (k : Int)), h) = false by simp [mB, e]]
    have hne : (t == s) = false := by simpa using e
    have hne2 : (t != s) = true := by simp [bne, hne]
    go_enter Try.func93, Try.ntmps93
    go_wp2
    go_ret
    exact ⟨rfl, by go_grown⟩
theorem AnsV.len {w : World} {b : Nat} {c h l : Int} (a : AnsV w b c h l) (u : Int) : AnsV (w.setCell ⟨b, 2, none⟩ (.int .i64 u)) b c h u := by
  obtain ⟨a0, a1, a2, af, az⟩ := a
  exact ⟨by simp [go_sem, a0, a1, a2], by simp [go_sem, a0, a1, a2], by simp [go_sem, a0, a1, a2], fun o => by simp only [World.frozen?_setCell]; exact af o, by simpa using az⟩
theorem bestM_take {s : Bool} {y : Nat} {l : List RT} {k : Nat} (hk : k < l.length) : bestM s y (l.take (k + 1)) = if mB s y l[k] && decide (l[k].1.2.2 > (bestM s y (l.take k)).2) then (l[k].2, l[k].1.2.2) else bestM s y (l.take k) := by
  rw [← bestM_snoc, List.take_add_one, List.getElem?_eq_getElem hk]; rfl
end Go.Proofs.Ytmjlmfbceccjdaa
/-
  table.Look; the document's TableLook.
-/
namespace Go.Proofs.Ytmjlmfbceccjdaa
open Go.RowKit
set_option linter.unusedVariables false
set_option linter.unusedSimpArgs false

/-- The error of Look. -/
def lookE (l : List RT) (s : Bool) (y : Nat) : Int := if tabE l = 0 then (if y < 2 ^ wideN s then 0 else 4) else tabE l
/-- What Look answers: hop and length. -/
def lookA (l : List RT) (s : Bool) (y : Nat) : Int × Int := if lookE l s y = 0 then bestA s y l else (0, 0)
theorem lookE_0 {l : List RT} {s : Bool} {y : Nat} (h : lookE l s y = 0) : tabE l = 0 ∧ y < 2 ^ wideN s := by
  unfold lookE at h
  split at h
  · rename_i a
    split at h
    · rename_i b; exact ⟨a, b⟩
    · cases h
  · rename_i a; exact absurd h a
set_option maxHeartbeats 2000000 in
theorem look_calls (b : Nat) (v : Value) (l : List RT) (s : Bool) (y : Nat) (hy : y < 2 ^ 128) (h0 : tabE l = 0) (hs : SortedR (srt l)) (w : World) (hc : w.cell? ⟨b, 0, none⟩ = some v) (row : RowR w v (srt l)) :
    Calls Try.prog 68 #[.pointer (some ⟨b, 0, none⟩), .agg #[.bool s, .int .u64 (aH y), .int .u64 (aL y)]] w fun e w' => e = .returned (.tuple #[.agg #[.int .i64 0, .int .i64 (lookA l s y).1, .int .i64 (lookA l s y).2], .int .i64 (lookE l s y)]) ∧ Below w.heap.size w w' := by
  have hv := (tabE_val h0).1
  have hvs : ValR (srt l) := fun r hr => hv r ((srt_mem l r).1 hr)
  have hl : (srt l).length ≤ 1000 := by
    have : ∀ (m t : List RT), (m.foldl insR t).length = t.length + m.length := by
      intro m
      induction m with
      | nil => intro t; simp
      | cons a m ih => intro t; rw [List.foldl_cons, ih, insR_len, List.length_cons]; omega
    have h2 := this l []
    have h3 := (tabE_val h0).2.2
    unfold srt
    rw [h2]
    simp
    omega
  by_cases hyv : y < 2 ^ wideN s
  · have e1 : lookE l s y = 0 := by simp [lookE, h0, hyv]
    rw [lookA, e1, if_pos rfl, ← look_same h0 hs]
    exact look_ok b v (srt l) s y hyv hvs hl w hc row
  · have e1 : lookE l s y = 4 := by simp [lookE, h0, hyv]
    rw [lookA, e1]
    exact look_form b s y hy hyv w
set_option maxHeartbeats 4000000 in
set_option maxRecDepth 100000 in
theorem tableLook_calls (l : List RT) (v : Value) (s : Bool) (y : Nat) (hlen : l.length ≤ 9223372036854775807) (hw : WordsR l) (hy : y < 2 ^ 128) (w : World) (row : RowR w v l) :
    Calls Try.prog 41 #[v, .agg #[.bool s, .int .u64 (aH y), .int .u64 (aL y)]] w fun e w' => e = .returned (.tuple #[.agg #[.int .i64 0, .int .i64 (lookA l s y).1, .int .i64 (lookA l s y).2], .int .i64 (lookE l s y)]) ∧ Below w.heap.size w w' := by
  have BC := Lib.hid (fun (W : World) (r : RowR W v l) => build_calls l v hlen hw W r)
  obtain ⟨p, c, rfl⟩ := row.form
  have B0 := (AddrAt.new w s (aH y) (aL y) 30).alloc (.cells #[.int .i64 0, .int .i64 0, .int .i64 0] 79)
  have B1 := AnsV.new (w.alloc (.cells #[.bool s, .int .u64 (aH y), .int .u64 (aL y)] 30)) 0 0 0 79
  have bY : Below w.heap.size w ((w.alloc (.cells #[.bool s, .int .u64 (aH y), .int .u64 (aL y)] 30)).alloc (.cells #[.int .i64 0, .int .i64 0, .int .i64 0] 79)) := by go_grown
  simp only [World.size_alloc] at B1
  have RY := Lib.hid (row.keep bY)
  clear row
  go_enter Try.func41, Try.ntmps41
  go_wp2_with fail
  refine (BC.out _ RY.out).mono ?_
  rintro e w1 ⟨u, rfl, ho, hs, hb1⟩
  have b0 := B0.keep hb1
  have b1 := B1.keep hb1 B1.2.2.2.2
  have hn1 := thenBelow bY hb1
  by_cases h0 : tabE l = 0
  · rw [if_pos h0] at ho
    rw [h0]
    have hs' := hs h0
    obtain ⟨up, uc, rfl⟩ := ho.row.form
    have LC := Lib.hid (fun (b : Nat) (W : World) (hc : W.cell? ⟨b, 0, none⟩ = some (.slice up (srt l).length uc)) (r : RowR W (.slice up (srt l).length uc) (srt l)) => look_calls b _ l s y hy h0 hs' W hc r)
    have bT := (Below.refl w1.heap.size w1).alloc (Nat.le_refl _) (.cells #[.slice up (srt l).length uc] 97)
    have c0 := b0.keep bT
    have c1 := b1.keep bT b1.2.2.2.2
    have RT1 := Lib.hid (ho.row.keep bT)
    have hn2 := thenBelow hn1 bT
    have cv : (w1.alloc (.cells #[.slice up (srt l).length uc] 97)).cell? ⟨w1.heap.size, 0, none⟩ = some (.slice up (srt l).length uc) := by simp
    obtain ⟨a0, a1, a2, al⟩ := c0
    clear ho hs hs' B0 B1 bY RY hb1 b0 b1 BC bT
    go_wp2_with fail
    refine (LC.out _ _ cv RT1.out).mono ?_
    rintro e w2 ⟨rfl, hb2⟩
    have d1 := c1.keep hb2 c1.2.2.2.2
    have hn3 := thenBelow hn2 hb2
    have AS := d1.store 0 (lookA l s y).1 (lookA l s y).2
    have bS := ((hn3.setCell (p := ⟨w.heap.size + 1, 0, none⟩) (by simp) (.int .i64 0)).setCell (p := ⟨w.heap.size + 1, 1, none⟩) (by simp) (.int .i64 (lookA l s y).1)).setCell (p := ⟨w.heap.size + 1, 2, none⟩) (by simp) (.int .i64 (lookA l s y).2)
    obtain ⟨z0, z1, z2, _⟩ := AS
    obtain ⟨k0, k1, k2, g0, gl⟩ := d1
    have g1 := g0 0
    have g2 := g0 1
    have g3 := g0 2
    clear cv RT1 LC a0 a1 a2 al c1 hb2
    go_wp2
    refine bodyPost_ret (by simp [results, Try.results41, go_sem, z0, z1, z2]; try rfl) rfl ?_
    exact ⟨by simp, bS⟩
  · have e1 : lookE l s y = tabE l := by simp [lookE, h0]
    have e2 : lookA l s y = (0, 0) := by simp [lookA, e1, h0]
    have E12 := Lib.hid (And.intro e1 e2)
    rw [if_neg h0] at ho
    obtain ⟨up, uc, rfl⟩ := ho.row.form
    have hz1 : (tabE l == 0) = false := by simpa using h0
    have hz2 : (tabE l != 0) = true := by simp [bne, hz1]
    have d1 := b1.alloc (.cells #[.slice up 0 uc] 97)
    have hn2 := hn1.alloc hn1.size (.cells #[.slice up 0 uc] 97)
    have AS := d1.store 0 0 0
    have bS := ((hn2.setCell (p := ⟨w.heap.size + 1, 0, none⟩) (by simp) (.int .i64 0)).setCell (p := ⟨w.heap.size + 1, 1, none⟩) (by simp) (.int .i64 0)).setCell (p := ⟨w.heap.size + 1, 2, none⟩) (by simp) (.int .i64 0)
    obtain ⟨z0, z1, z2, _⟩ := AS
    obtain ⟨k0, k1, k2, g0, gl⟩ := d1
    have g1 := g0 0
    have g2 := g0 1
    have g3 := g0 2
    clear ho hs B0 B1 bY RY hb1 b0 b1 BC e1 e2
    go_wp2
    refine bodyPost_ret (by simp [results, Try.results41, go_sem, z0, z1, z2]; try rfl) rfl ?_
    exact ⟨by rw [E12.out.1, E12.out.2], bS⟩
end Go.Proofs.Ytmjlmfbceccjdaa

/-
  A table in memory; table.find, table.get.
-/
import Derived.Test.YtepfcphhgmmlhaaTabQ
import Derived.Test.YtepfcphhgmmlhaaTabJ
namespace Go.Proofs.Ytepfcphhgmmlhaa
open Go.RowKit
set_option linter.unusedVariables false
set_option linter.unusedSimpArgs false

/-- All blocks but those of S are as they were. -/
structure But (S : Nat → Prop) (w w' : World) : Prop where
  os : w'.os = w.os
  tape : w'.tape = w.tape
  output : w'.output = w.output
  size : w.heap.size ≤ w'.heap.size
  block : ∀ k, k < w.heap.size → ¬ S k → w'.heap[k]? = w.heap[k]?
theorem But.of_below {S : Nat → Prop} {w w' : World} (h : Below w.heap.size w w') : But S w w' := ⟨h.os, h.tape, h.output, h.size, fun k hk _ => h.block k hk⟩
theorem But.of_grown {S : Nat → Prop} {w w' : World} {row : Option Nat} (h : w.grownBy w' row) (hS : ∀ k, row = some k → S k) : But S w w' := ⟨h.os, h.tape, h.output, h.size, fun k hk hn => h.block k hk (fun e => hn (hS k e.symm))⟩
theorem But.trans {S S' : Nat → Prop} {w w1 w2 : World} (h : But S w w1) (g : But S' w1 w2) (hS : ∀ k, k < w.heap.size → S' k → S k) : But S w w2 :=
  ⟨g.os.trans h.os, g.tape.trans h.tape, g.output.trans h.output, Nat.le_trans h.size g.size, fun k hk hn => (g.block k (Nat.lt_of_lt_of_le hk h.size) (fun e => hn (hS k hk e))).trans (h.block k hk hn)⟩
theorem But.below {S : Nat → Prop} {w w' : World} {n : Nat} (h : But S w w') (hS : ∀ k, S k → n ≤ k) (hn : n ≤ w.heap.size) : Below n w w' :=
  ⟨h.os, h.tape, h.output, h.size, fun k hk => h.block k (Nat.lt_of_lt_of_le hk hn) (fun e => by have := hS k e; omega)⟩
theorem But.setCell {S : Nat → Prop} {w w' : World} (h : But S w w') {p : Addr} (hp : p.block < w.heap.size → S p.block) (u : Value) : But S w (w'.setCell p u) :=
  ⟨h.os, h.tape, h.output, Nat.le_trans h.size (by simp), fun k hk hn => (Below.heap_setCell _ _ _ k (fun e => hn (by rw [e] at hk ⊢; exact hp hk))).trans (h.block k hk hn)⟩
theorem But.drew {S : Nat → Prop} {w w' : World} (h : But S w w') : But S w w'.drew := ⟨h.os, h.tape, h.output, h.size, h.block⟩
theorem But.box {S : Nat → Prop} {w w' : World} {b : Nat} {v : Value} (h : But S w w') (x : Box w b v) (hn : ¬ S b) : Box w' b v := by
  have e := h.block b x.2.2 hn
  exact ⟨(World.cell?_of_block (a := ⟨b, 0, none⟩) e).trans x.1, fun o => (World.frozen?_of_block (a := ⟨b, o, none⟩) e).trans (x.2.1 o), Nat.lt_of_lt_of_le x.2.2 h.size⟩
theorem But.ans {S : Nat → Prop} {w w' : World} {b : Nat} {c p q : Int} (h : But S w w') (x : AnsV w b c p q) (hn : ¬ S b) : AnsV w' b c p q := x.of_block (h.block b x.2.2.2.2 hn) h.size
theorem But.owns {S : Nat → Prop} {w w' : World} {base n size : Nat} {e : TypeId} {v : Value} {xs : List Value} (h : But S w w') (x : w.ownsRow base e size v n xs) (hn : ∀ k, v.ownBlock = some k → ¬ S k) : w'.ownsRow base e size v n xs := by
  refine ⟨x.1, ?_⟩
  rcases x.2 with h2 | ⟨g, cap, cur, a, b, c, d⟩
  · exact .inl h2
  · have hg : g < w.heap.size := (Array.getElem?_eq_some_iff.1 c).1
    exact .inr ⟨g, cap, cur, a, b, (h.block g hg (hn g (by rw [a]; rfl))).trans c, d⟩
/-- A table: its variable in block b holds these routes. -/
def Tab (w : World) (b base : Nat) (v : Value) (L : List RT) : Prop := Box w b v ∧ OwnR w base v L ∧ b < base
theorem Tab.keep {w w' : World} {b base : Nat} {v : Value} {L : List RT} (h : Tab w b base v L) (hb : Below w.heap.size w w') : Tab w' b base v L := ⟨h.1.keep hb h.1.2.2, ownsKeep h.2.1 hb, h.2.2⟩
theorem Tab.alloc {w : World} {b base : Nat} {v : Value} {L : List RT} (h : Tab w b base v L) (o : Obj) : Tab (w.alloc o) b base v L := h.keep ((Below.refl _ w).alloc (Nat.le_refl _) o)
theorem Tab.form {w : World} {b base : Nat} {v : Value} {L : List RT} (h : Tab w b base v L) : ∃ p c, v = .slice p L.length c := h.2.1.row.form
/-- No row of routes lies in this block. -/
def NotR (w : World) (k : Nat) : Prop := ∀ cur, w.heap[k]? ≠ some (.cells cur 53 (0, 0))
theorem NotR.of {w w' : World} {k : Nat} (h : NotR w k) (e : w'.heap[k]? = w.heap[k]?) : NotR w' k := fun cur he => h cur (e.symm.trans he)
theorem NotR.new (w : World) (cs : Array Value) (t : TypeId) (ht : t ≠ 53) : NotR (w.alloc (.cells cs t)) w.heap.size := fun cur he => by
  rw [_root_.Go.heap_alloc_new] at he
  simp only [Option.some.injEq, Obj.cells.injEq] at he
  exact ht he.2.1
theorem NotR.ne {w : World} {k base : Nat} {v : Value} {L : List RT} (h : NotR w k) (o : OwnR w base v L) : v.ownBlock ≠ some k := by
  rcases o.2 with ⟨rfl, _⟩ | ⟨g, cap, cur, rfl, _, hg, _⟩
  · simp [Value.ownBlock]
  · intro e
    simp only [Value.ownBlock, Option.some.injEq] at e
    subst e
    exact h cur hg
/-- The error of find. -/
def finE (L : List RT) (p : PK) : Int := if chkE p.1 p.2.1 p.2.2 = 0 then (if hasR L p then 0 else 7) else chkE p.1 p.2.1 p.2.2
def finI (L : List RT) (p : PK) : Nat := if finE L p = 0 then posR L p else 0
set_option maxHeartbeats 1000000 in
theorem find_calls (b base : Nat) (v : Value) (L : List RT) (p : PK) (hp : p.2.1 < 2 ^ 128) (hs : SortedR L) (hlen : L.length ≤ 1000) (w : World) (T : Tab w b base v L) :
    Calls Try.prog 88 #[.pointer (some ⟨b, 0, none⟩), .agg #[.bool p.1, .int .u64 (aH p.2.1), .int .u64 (aL p.2.1), .int .i64 p.2.2]] w fun e w' => e = .returned (.tuple #[.int .i64 (finI L p : Nat), .int .i64 (finE L p)]) ∧ Below w.heap.size w w' := by
  have CK := Lib.hid (fun W => check_calls p.1 p.2.1 p.2.2 hp W)
  have PL := Lib.hid (fun (W : World) (t : Tab W b base v L) => place_calls b L p v hs hlen W t.1.1 t.2.1.row)
  have P1 := PreAt.new w p.1 (aH p.2.1) (aL p.2.1) p.2.2 51
  have TY := Lib.hid (T.alloc (.cells #[.bool p.1, .int .u64 (aH p.2.1), .int .u64 (aL p.2.1), .int .i64 p.2.2] 51))
  have bY := (Below.refl w.heap.size w).alloc (Nat.le_refl _) (.cells #[.bool p.1, .int .u64 (aH p.2.1), .int .u64 (aL p.2.1), .int .i64 p.2.2] 51)
  clear T
  go_enter Try.func88, Try.ntmps88
  go_wp2_with fail
  refine (CK.out _).mono ?_
  rintro e w1 ⟨rfl, hb1⟩
  have Q1 := P1.keep hb1
  have T1 := Lib.hid (TY.out.keep hb1)
  have b1 := thenBelow bY hb1
  clear P1 TY bY hb1 CK
  obtain ⟨p0, p1, p2, p3, pl⟩ := Q1
  by_cases hc : chkE p.1 p.2.1 p.2.2 = 0
  · rw [hc]
    go_wp2_with fail
    refine (PL.out _ T1.out).mono ?_
    rintro e w2 ⟨rfl, hb2⟩
    have b2 := thenBelow b1 hb2
    clear p0 p1 p2 p3 pl T1 PL b1 hb2
    by_cases hh : hasR L p = true
    · have E1 := Lib.hid (show finE L p = 0 by simp [finE, hc, hh])
      have E2 := Lib.hid (show finI L p = posR L p by simp [finI, E1.out])
      rw [hh]
      go_wp2
      go_ret2
      exact ⟨by rw [E1.out, E2.out]; rfl, b2⟩
    · have hh' : hasR L p = false := by simpa using hh
      have E1 := Lib.hid (show finE L p = 7 by simp [finE, hc, hh'])
      have E2 := Lib.hid (show finI L p = 0 by simp [finI, E1.out])
      rw [hh']
      go_wp2
      go_ret2
      exact ⟨by rw [E1.out, E2.out]; rfl, b2⟩
  · have hz1 : (chkE p.1 p.2.1 p.2.2 == 0) = false := by simpa using hc
    have hz2 : (chkE p.1 p.2.1 p.2.2 != 0) = true := by simp [bne, hz1]
    have E1 := Lib.hid (show finE L p = chkE p.1 p.2.1 p.2.2 by simp [finE, hc])
    have E2 := Lib.hid (show finI L p = 0 by rw [finI, E1.out, if_neg hc])
    go_wp2
    go_ret2
    exact ⟨by rw [E1.out, E2.out]; rfl, b1⟩
/-- The hop of a prefix that is there. -/
def hopR (L : List RT) (p : PK) : Int := match L[posR L p]? with | some r => r.2 | none => 0
theorem finE_0 {L : List RT} {p : PK} (hs : SortedR L) (h : finE L p = 0) : chkE p.1 p.2.1 p.2.2 = 0 ∧ hasR L p = true ∧ finI L p = posR L p ∧ ∃ ht : posR L p < L.length, (L[posR L p]'ht).1 = p ∧ (L[posR L p]'ht).2 = hopR L p := by
  have h2 : finI L p = posR L p := by simp [finI, h]
  unfold finE at h
  split at h
  · rename_i hc
    split at h
    · rename_i hh
      obtain ⟨ht, e⟩ := hs.found.1 hh
      exact ⟨hc, hh, h2, ht, e, by simp [hopR, List.getElem?_eq_getElem ht]⟩
    · cases h
  · rename_i hc; exact absurd h hc
/-- What Get answers. -/
def getR (L : List RT) (p : PK) : Int × Int := if finE L p = 0 then (hopR L p, p.2.2) else (0, 0)
set_option maxHeartbeats 2000000 in
theorem get_calls (b base : Nat) (v : Value) (L : List RT) (p : PK) (hp : p.2.1 < 2 ^ 128) (hs : SortedR L) (hlen : L.length ≤ 1000) (w : World) (T : Tab w b base v L) :
    Calls Try.prog 71 #[.pointer (some ⟨b, 0, none⟩), .agg #[.bool p.1, .int .u64 (aH p.2.1), .int .u64 (aL p.2.1), .int .i64 p.2.2]] w fun e w' => e = .returned (.tuple #[.agg #[.int .i64 0, .int .i64 (getR L p).1, .int .i64 (getR L p).2], .int .i64 (finE L p)]) ∧ Below w.heap.size w w' := by
  have FC := Lib.hid (fun (W : World) (t : Tab W b base v L) => find_calls b base v L p hp hs hlen W t)
  have P1 := (PreAt.new w p.1 (aH p.2.1) (aL p.2.1) p.2.2 51).alloc (.cells #[.int .i64 0, .int .i64 0, .int .i64 0] 63)
  have A1 := AnsV.new (w.alloc (.cells #[.bool p.1, .int .u64 (aH p.2.1), .int .u64 (aL p.2.1), .int .i64 p.2.2] 51)) 0 0 0 63
  simp only [World.size_alloc] at A1
  have TY := Lib.hid ((T.alloc (.cells #[.bool p.1, .int .u64 (aH p.2.1), .int .u64 (aL p.2.1), .int .i64 p.2.2] 51)).alloc (.cells #[.int .i64 0, .int .i64 0, .int .i64 0] 63))
  have bY : Below w.heap.size w ((w.alloc (.cells #[.bool p.1, .int .u64 (aH p.2.1), .int .u64 (aL p.2.1), .int .i64 p.2.2] 51)).alloc (.cells #[.int .i64 0, .int .i64 0, .int .i64 0] 63)) := by go_grown
  have hbw := T.1.2.2
  clear T
  go_enter Try.func71, Try.ntmps71
  go_wp2_with fail
  refine (FC.out _ TY.out).mono ?_
  rintro e w1 ⟨rfl, hb1⟩
  have Q1 := P1.keep hb1
  have A2 := A1.keep hb1 A1.2.2.2.2
  have T1 := Lib.hid (TY.out.keep hb1)
  have b1 := thenBelow bY hb1
  clear P1 TY bY hb1 FC A1
  by_cases hz : finE L p = 0
  · obtain ⟨_, _, e2, ht, e3, e4⟩ := finE_0 hs hz
    obtain ⟨q, c, rfl, hcap, at_⟩ := T1.out.2.1.row.at
    obtain ⟨g, o, rfl, hg, hrec⟩ := at_ _ ht
    obtain ⟨x0, x1, x2, x3, x4⟩ := routeCells hrec
    rw [e4] at x4
    have G := Lib.hid (show getR L p = (hopR L p, p.2.2) by simp [getR, hz])
    obtain ⟨p0, p1, p2, p3, pl⟩ := Q1
    have cb := T1.out.1.1
    have AS := A2.store 0 (hopR L p) p.2.2
    have bS := ((b1.setCell (p := ⟨w.heap.size + 1, 0, none⟩) (by simp) (.int .i64 0)).setCell (p := ⟨w.heap.size + 1, 1, none⟩) (by simp) (.int .i64 (hopR L p))).setCell (p := ⟨w.heap.size + 1, 2, none⟩) (by simp) (.int .i64 p.2.2)
    obtain ⟨z0, z1, z2, _⟩ := AS
    obtain ⟨k0, k1, k2, g0, gl⟩ := A2
    have g1 := g0 0
    have g2 := g0 1
    have g3 := g0 2
    have hti : ((posR L p : Nat) : Int) < (L.length : Int) := by omega
    rw [hz, e2]
    clear e2 e3 e4 at_ hrec x0 x1 x2 x3 T1
    generalize L.length = n at ht hti cb hcap
    generalize posR L p = i at ht hti x4
    go_wp2_with fail
    go_region
    go_wp2
    refine bodyPost_ret (by simp [results, Try.results71, go_sem, k0, k1, k2]; try rfl) rfl ?_
    exact ⟨by rw [G.out, hz], bS.drew⟩
  · have hz1 : (finE L p == 0) = false := by simpa using hz
    have hz2 : (finE L p != 0) = true := by simp [bne, hz1]
    have G := Lib.hid (show getR L p = (0, 0) by simp [getR, hz])
    have AS := A2.store 0 0 0
    have bS := ((b1.setCell (p := ⟨w.heap.size + 1, 0, none⟩) (by simp) (.int .i64 0)).setCell (p := ⟨w.heap.size + 1, 1, none⟩) (by simp) (.int .i64 0)).setCell (p := ⟨w.heap.size + 1, 2, none⟩) (by simp) (.int .i64 0)
    obtain ⟨z0, z1, z2, _⟩ := AS
    obtain ⟨k0, k1, k2, g0, gl⟩ := A2
    have g1 := g0 0
    have g2 := g0 1
    have g3 := g0 2
    go_wp2
    refine bodyPost_ret (by simp [results, Try.results71, go_sem, z0, z1, z2]; try rfl) rfl ?_
    exact ⟨by rw [G.out], bS⟩
end Go.Proofs.Ytepfcphhgmmlhaa

/-
  table.build: the table of a list of routes.
-/
import Derived.Test.YtgajepmnklbmpaaG8
namespace Go.Proofs.Ytgajepmnklbmpaa
open Go.RowKit
set_option linter.unusedVariables false
set_option linter.unusedSimpArgs false

/-- A variable of one cell in a block of its own. -/
def Box (w : World) (b : Nat) (v : Value) : Prop := w.cell? ⟨b, 0, none⟩ = some v ∧ (∀ o, w.frozen? ⟨b, o, none⟩ = false) ∧ b < w.heap.size
theorem Box.keep {w w' : World} {b : Nat} {v : Value} (h : Box w b v) {n : Nat} (hb : Below n w w') (hn : b < n) : Box w' b v :=
  ⟨(hb.cell (p := ⟨b, 0, none⟩) hn).trans h.1, fun o => (hb.frozen (p := ⟨b, o, none⟩) hn).trans (h.2.1 o), Nat.lt_of_lt_of_le h.2.2 hb.size⟩
theorem Box.grown {w w' : World} {b : Nat} {v : Value} {row : Option Nat} (h : Box w b v) (hg : w.grownBy w' row) (hn : row ≠ some b) : Box w' b v := by
  have e := hg.block b h.2.2 (fun e => hn e.symm)
  exact ⟨(World.cell?_of_block (a := ⟨b, 0, none⟩) e).trans h.1, fun o => (World.frozen?_of_block (a := ⟨b, o, none⟩) e).trans (h.2.1 o), Nat.lt_of_lt_of_le h.2.2 hg.size⟩
theorem Box.new (w : World) (v : Value) (t : TypeId) : Box (w.alloc (.cells #[v] t)) w.heap.size v := ⟨by simp, fun o => by simp [go_sem], by simp⟩
theorem Box.alloc {w : World} {b : Nat} {v : Value} (h : Box w b v) (o : Obj) : Box (w.alloc o) b v := h.keep ((Below.refl _ w).alloc (Nat.le_refl _) o) h.2.2
theorem Box.store {w : World} {b : Nat} {v : Value} (h : Box w b v) (u : Value) : Box (w.setCell ⟨b, 0, none⟩ u) b u :=
  ⟨World.cell?_setCell_same' _ _ _ (by rw [h.1]; rfl), fun o => by rw [World.frozen?_setCell]; exact h.2.1 o, by simpa using h.2.2⟩
theorem Box.far {w : World} {b : Nat} {v : Value} (h : Box w b v) {p : Addr} (hp : b ≠ p.block) (u : Value) : Box (w.setCell p u) b v :=
  ⟨(World.cell?_setCell_other w p _ u (fun e => hp (by rw [e]))).trans h.1, fun o => by rw [World.frozen?_setCell]; exact h.2.1 o, by simpa using h.2.2⟩
theorem grownBy_setCell (w : World) (p : Addr) (u : Value) : w.grownBy (w.setCell p u) (some p.block) :=
  ⟨rfl, rfl, rfl, by simp, fun k _ hk => Below.heap_setCell _ _ _ k (fun e => hk (by rw [e]))⟩
/-- The routes of a list, sorted. -/
def srt (l : List RT) : List RT := l.foldl insR []
theorem srt_snoc (l : List RT) (r : RT) : srt (l ++ [r]) = insR (srt l) r := by simp [srt, List.foldl_append]
theorem srt_take {l : List RT} {k : Nat} (hk : k < l.length) : srt (l.take (k + 1)) = insR (srt (l.take k)) l[k] := by
  rw [← srt_snoc, List.take_add_one, List.getElem?_eq_getElem hk]; rfl
/-- The first error behind routes that were fine. -/
def behE : List RT → List RT → Int
  | _, [] => 0
  | seen, r :: t => if rtE r = 0 then (if hasR seen r.1 then 8 else behE (insR seen r) t) else rtE r
/-- The error of a table. -/
def tabE (l : List RT) : Int := if 60 < l.length then 1 else behE [] l
theorem behE_ok {seen l : List RT} {k : Nat} (hk : k < l.length) (h : rtE l[k] = 0) (h2 : hasR seen l[k].1 = false) : behE seen (l.drop k) = behE (insR seen l[k]) (l.drop (k + 1)) := by
  rw [List.drop_eq_getElem_cons hk, behE, if_pos h, h2]; rfl
theorem behE_twice {seen l : List RT} {k : Nat} (hk : k < l.length) (h : rtE l[k] = 0) (h2 : hasR seen l[k].1 = true) : behE seen (l.drop k) = 8 := by
  rw [List.drop_eq_getElem_cons hk, behE, if_pos h, h2]; rfl
theorem behE_bad {seen l : List RT} {k : Nat} (hk : k < l.length) (h : ¬ rtE l[k] = 0) : behE seen (l.drop k) = rtE l[k] := by
  rw [List.drop_eq_getElem_cons hk, behE, if_neg h]
def WordsR (l : List RT) : Prop := ∀ r ∈ l, r.1.2.1 < 2 ^ 128
set_option maxHeartbeats 4000000 in
set_option maxRecDepth 100000 in
theorem build_calls (l : List RT) (v : Value) (hlen : l.length ≤ 9223372036854775807) (hw : WordsR l) (w : World) (row : RowR w v l) :
    Calls Try.prog 56 #[v] w fun e w' => ∃ u, e = .returned (.tuple #[.agg #[u], .int .i64 (tabE l)]) ∧ OwnR w' w.heap.size u (if tabE l = 0 then srt l else []) ∧ (tabE l = 0 → SortedR (srt l)) ∧ Below w.heap.size w w' := by
  obtain ⟨p, c, rfl, hcap, at_⟩ := row.at
  by_cases h60 : 60 < l.length
  · have h60' : (60 : Int) < (l.length : Int) := by omega
    have e1 : tabE l = 1 := by simp [tabE, h60]
    rw [e1]
    have bb := Box.new w (.slice none 0 0) 93
    obtain ⟨c0, f0, bl⟩ := bb
    have f1 := f0 0
    go_enter Try.func56, Try.ntmps56
    go_wp2
    go_returns
    exact ⟨_, rfl, World.ownsRow_nil _ _ _ _, by go_grown⟩
  · have h60' : ¬ (60 : Int) < (l.length : Int) := by omega
    obtain ⟨n, hn⟩ : ∃ n, l.length = n := ⟨_, rfl⟩
    obtain ⟨E, hE⟩ : ∃ E, tabE l = E := ⟨_, rfl⟩
    have LE : Hid (behE [] l = E) := Lib.hid (by rw [← hE, tabE, if_neg h60])
    have HN := Lib.hid hn
    have AT := Lib.hid at_
    have HW := Lib.hid hw
    rw [hE]
    rw [hn] at hlen h60 h60' ⊢
    have B1 := (Box.new w (.slice none 0 0) 93).alloc (.cells #[.slice none 0 0] 93)
    have B2 := Box.new (w.alloc (.cells #[.slice none 0 0] 93)) (.slice none 0 0) 93
    have bY := ((Below.refl w.heap.size w).alloc (Nat.le_refl _) (.cells #[.slice none 0 0] 93)).alloc (by simp) (.cells #[.slice none 0 0] 93)
    simp only [World.size_alloc] at B2
    have ys : ((w.alloc (.cells #[.slice none 0 0] 93)).alloc (.cells #[.slice none 0 0] 93)).heap.size = w.heap.size + 2 := by simp
    clear row hw at_ hn hE
    go_enter Try.func56, Try.ntmps56
    go_wp2
    revert B1 B2 bY ys
    generalize (w.alloc (.cells #[.slice none 0 0] 93)).alloc (.cells #[.slice none 0 0] 93) = Y
    intro B1 bY B2 ys
    go_loopw [16] (fun i wr => ∃ (k : Nat) (u : Value), k ≤ n ∧ i = .int .i64 k ∧ Below w.heap.size w wr ∧ Box wr w.heap.size (.slice none 0 0) ∧ Box wr (w.heap.size + 1) u ∧ Hid (OwnR wr (w.heap.size + 2) u (srt (l.take k))) ∧ Hid (SortedR (srt (l.take k)) ∧ (srt (l.take k)).length = k ∧ behE (srt (l.take k)) (l.drop k) = E) ∧ w.heap.size + 2 ≤ wr.heap.size) (fun i _ => n - (intOf i).toNat)
    case atStart => exact ⟨0, _, by omega, rfl, bY, B1, B2, Lib.hid (World.ownsRow_nil _ _ _ _), Lib.hid ⟨List.Pairwise.nil, rfl, LE.out⟩, by omega⟩
    case round =>
      obtain ⟨k, u, hk, rfl, hnx, b1, b2, OW, IV, hsz⟩ := hrel
      by_cases hlt : k < n
      · have hkl : k < l.length := by rw [HN.out]; exact hlt
        obtain ⟨g, o, rfl, hgw, hrec⟩ := AT.out k hkl
        obtain ⟨x0, x1, x2, x3, x4⟩ := routeCells (hrec.keep hnx hgw)
        have hwk := HW.out _ (List.getElem_mem hkl)
        have T1 := Lib.hid (fun h h2 => behE_ok (seen := srt (l.take k)) hkl h h2)
        have T2 := Lib.hid (fun h h2 => behE_twice (seen := srt (l.take k)) hkl h h2)
        have T3 := Lib.hid (fun h => behE_bad (seen := srt (l.take k)) hkl h)
        have T4 := Lib.hid (srt_take hkl)
        have hklt : (k : Int) < (n : Int) := by omega
        generalize hr : l[k] = r at x0 x1 x2 x3 x4 hwk T1 T2 T3 T4
        clear hr
        have CK := Lib.hid (fun W => checkRoute_calls r hwk W)
        have hgr := Nat.lt_of_lt_of_le hgw hnx.size
        obtain ⟨up, uc, rfl⟩ : ∃ p c, u = .slice p k c := by
          obtain ⟨p, c, e⟩ := OW.out.row.form
          rw [IV.out.2.1] at e
          exact ⟨p, c, e⟩
        have ownLt : ∀ q, (Value.slice up k uc).ownBlock = some q → w.heap.size + 2 ≤ q := fun q hq => (OW.out.lt q hq).1
        go_wp2_with fail
        refine (CK.out _).mono ?_
        rintro e w1 ⟨rfl, hb1⟩
        have hA : Below wr.heap.size wr (wr.alloc (.cells #[.bool r.1.1, .int .u64 (aH r.1.2.1), .int .u64 (aL r.1.2.1), .int .i64 r.1.2.2, .int .i64 r.2] 66)) := (Below.refl wr.heap.size wr).alloc (Nat.le_refl _) _
        have ba := thenBelow hA hb1
        have hal : wr.heap.size < (wr.alloc (.cells #[.bool r.1.1, .int .u64 (aH r.1.2.1), .int .u64 (aL r.1.2.1), .int .i64 r.1.2.2, .int .i64 r.2] 66)).heap.size := by simp
        have RR : RecAt w1 wr.heap.size 0 (rcs r) := by
          refine RecAt.keep ?_ hb1 hal
          intro j v hj
          match j, hj with
          | 0, hj => simp [rcs] at hj; simp [← hj]
          | 1, hj => simp [rcs] at hj; simp [← hj]
          | 2, hj => simp [rcs] at hj; simp [← hj]
          | 3, hj => simp [rcs] at hj; simp [← hj]
          | 4, hj => simp [rcs] at hj; simp [← hj]
          | j + 5, hj => simp [rcs] at hj
        have b1' := b1.keep ba b1.2.2
        have b2' := b2.keep ba b2.2.2
        have OW1 : Hid (OwnR w1 (w.heap.size + 2) (.slice up k uc) (srt (l.take k))) := Lib.hid (ownsKeep OW.out ba)
        have hn1 := thenBelow hnx ba
        have hs1 := ba.size
        have hrw1 : wr.heap.size < w1.heap.size := Nat.lt_of_lt_of_le hal hb1.size
        clear x0 x1 x2 x3 x4 hb1 hA hal OW b1 b2
        by_cases hz : rtE r = 0
        · have PL := Lib.hid (fun (W : World) (hc : W.cell? ⟨w.heap.size + 1, 0, none⟩ = some (.slice up k uc)) (rw_ : RowR W (.slice up k uc) (srt (l.take k))) => place_calls (w.heap.size + 1) _ r.1 _ IV.out.1 (by rw [IV.out.2.1]; omega) W hc rw_)
          obtain ⟨y0, y1, y2, y3, y4⟩ := routeCells RR
          simp only [Nat.zero_add] at y0 y1 y2 y3 y4
          rw [hz]
          have RW1 := Lib.hid OW1.out.row
          have bc := b2'.1
          go_wp2_with fail
          refine (PL.out _ bc RW1.out).mono ?_
          rintro e w2 ⟨rfl, hb2⟩
          have RR2 := RR.keep hb2 hrw1
          have b1q := b1'.keep hb2 b1'.2.2
          have b2q := b2'.keep hb2 b2'.2.2
          have OW2 : Hid (OwnR w2 (w.heap.size + 2) (.slice up k uc) (srt (l.take k))) := Lib.hid (ownsKeep OW1.out hb2)
          have hn2 := thenBelow hn1 hb2
          have hs2 := hb2.size
          clear y0 y1 y2 y3 y4 RR b1' b2' OW1 RW1 bc hb2 hn1 PL CK T3
          by_cases hh : hasR (srt (l.take k)) r.1 = true
          · obtain rfl : E = 8 := by rw [← IV.out.2.2]; exact T2.out hz hh
            rw [hh]
            obtain ⟨c0, f0, _⟩ := b1q
            have f1 := f0 0
            have cz : (w2.setCell ⟨w.heap.size, 0, none⟩ (.slice none 0 0)).cell? ⟨w.heap.size, 0, none⟩ = some (.slice none 0 0) := World.cell?_setCell_same' _ _ _ (by rw [c0]; rfl)
            have hnz := hn2.setCell (p := ⟨w.heap.size, 0, none⟩) (Nat.le_refl _) (.slice none 0 0)
            clear T1 T2 T4
            go_wp2
            refine bodyPost_ret (by simp [results, Try.results56, go_sem, cz]; try rfl) rfl ?_
            exact ⟨_, rfl, World.ownsRow_nil _ _ _ _, hnz⟩
          · have hh' : hasR (srt (l.take k)) r.1 = false := by simpa using hh
            have NE := Lib.hid ((T1.out hz hh').symm.trans IV.out.2.2)
            rw [hh']
            obtain ⟨y0, y1, y2, y3, y4⟩ := routeCells RR2
            simp only [Nat.zero_add] at y0 y1 y2 y3 y4
            have bc := b2q.1
            clear T1 T2
            have IC := Lib.hid (fun (W : World) (hbW : w.heap.size + 2 ≤ W.heap.size) (ow : OwnR W (w.heap.size + 2) (.slice up k uc) (srt (l.take k))) (vb : Nat) (hv : W.heap[vb]? = some (.cells (rcs r).toArray 66 (0, 0))) (hne : (Value.slice up k uc).ownBlock ≠ some vb) =>
              insert_calls (w.heap.size + 2) vb (posR (srt (l.take k)) r.1) 66 _ (srt (l.take k)) r (by rw [IV.out.2.1]; omega) (posR_le _ _) W hbW ow hv hne)
            go_wp2_with fail
            have hA : Below w2.heap.size w2 (w2.alloc (.cells #[.bool r.1.1, .int .u64 (aH r.1.2.1), .int .u64 (aL r.1.2.1), .int .i64 r.1.2.2, .int .i64 r.2] 66)) := (Below.refl w2.heap.size w2).alloc (Nat.le_refl _) _
            have OW2' := OW2.out
            have olt : ∀ q, (Value.slice up k uc).ownBlock = some q → q < w2.heap.size := fun q hq => (OW2.out.lt q hq).2
            have b1r := b1q.alloc (.cells #[.bool r.1.1, .int .u64 (aH r.1.2.1), .int .u64 (aL r.1.2.1), .int .i64 r.1.2.2, .int .i64 r.2] 66)
            have b2r := b2q.alloc (.cells #[.bool r.1.1, .int .u64 (aH r.1.2.1), .int .u64 (aL r.1.2.1), .int .i64 r.1.2.2, .int .i64 r.2] 66)
            refine (IC.out _ (by simp; omega) (ownsKeep OW2' hA) w2.heap.size (_root_.Go.heap_alloc_new w2 _) (fun e => by have := olt _ e; omega)).mono ?_
            rintro e w3 ⟨v', rfl, ho3, hg3⟩
            have hn3 := (thenBelow hn2 hA).grown hg3 (by have := hn2.size; simp; omega) (fun q hq => by have := ownLt q hq; omega)
            have b1s := b1r.grown hg3 (fun e => by have := ownLt _ e; omega)
            have b2s := b2r.grown hg3 (fun e => by have := ownLt _ e; omega)
            have OW3 : Hid (OwnR w3 (w.heap.size + 2) v' (srt (l.take (k + 1)))) := Lib.hid (by rw [T4.out]; exact ho3)
            have IV3 : Hid (SortedR (srt (l.take (k + 1))) ∧ (srt (l.take (k + 1))).length = k + 1 ∧ behE (srt (l.take (k + 1))) (l.drop (k + 1)) = E) := Lib.hid (by
              rw [T4.out]
              exact ⟨IV.out.1.ins hh', by rw [insR_len, IV.out.2.1], NE.out⟩)
            have hs3 := hg3.size
            simp only [World.size_alloc] at hs3
            clear ho3 hg3 hA OW2' olt b1r b2r b1q b2q OW2 y0 y1 y2 y3 y4 bc IC T4 NE RR2
            obtain ⟨vp, vc, rfl⟩ : ∃ p c, v' = .slice p (k + 1) c := by
              obtain ⟨p, c, e⟩ := OW3.out.row.form
              rw [IV3.out.2.1] at e
              exact ⟨p, c, e⟩
            have bst := b2s.store (.slice vp (k + 1) vc)
            have bfr := b1s.far (p := ⟨w.heap.size + 1, 0, none⟩) (by simp) (.slice vp (k + 1) vc)
            have OW4 : Hid (OwnR (w3.setCell ⟨w.heap.size + 1, 0, none⟩ (.slice vp (k + 1) vc)) (w.heap.size + 2) (.slice vp (k + 1) vc) (srt (l.take (k + 1)))) := Lib.hid (OW3.out.kept (grownBy_setCell w3 ⟨w.heap.size + 1, 0, none⟩ _) (.inr fun e => by have := (OW3.out.lt (w.heap.size + 1) e).1; omega))
            have hn4 := hn3.setCell (p := ⟨w.heap.size + 1, 0, none⟩) (Nat.le_succ _) (.slice vp (k + 1) vc)
            obtain ⟨c0, f0, _⟩ := b2s
            have f1 := f0 0
            go_wp2
            go_roundw
            case rel => exact ⟨k + 1, _, by omega, by go_num, hn4, bfr, bst, OW4, IV3, by simp; omega⟩
            case measure => simp [intOf]; omega
        · have hz1 : (rtE r == 0) = false := by simpa using hz
          have hz2 : (rtE r != 0) = true := by simp [bne, hz1]
          obtain rfl : E = rtE r := by rw [← IV.out.2.2]; exact T3.out hz
          obtain ⟨c0, f0, _⟩ := b1'
          have f1 := f0 0
          have cz : (w1.setCell ⟨w.heap.size, 0, none⟩ (.slice none 0 0)).cell? ⟨w.heap.size, 0, none⟩ = some (.slice none 0 0) := World.cell?_setCell_same' _ _ _ (by rw [c0]; rfl)
          have hnz := hn1.setCell (p := ⟨w.heap.size, 0, none⟩) (Nat.le_refl _) (.slice none 0 0)
          clear T1 T2 T3 T4 CK
          go_wp2
          refine bodyPost_ret (by simp [results, Try.results56, go_sem, cz]; try rfl) rfl ?_
          exact ⟨_, rfl, World.ownsRow_nil _ _ _ _, hnz⟩
      · obtain rfl : k = n := by omega
        have e1 : l.take k = l := by rw [← HN.out]; exact List.take_length
        rw [e1] at OW IV
        obtain ⟨i1, i2, i3⟩ := IV.out
        obtain rfl : E = 0 := by rw [← i3, ← HN.out, List.drop_length]; cases srt l <;> rfl
        obtain ⟨up, uc, rfl⟩ : ∃ p c, u = .slice p k c := by
          obtain ⟨p, c, e⟩ := OW.out.row.form
          rw [i2] at e
          exact ⟨p, c, e⟩
        obtain ⟨c0, f0, l0⟩ := b1
        obtain ⟨c1, f1, _⟩ := b2
        have f2 := f0 0
        have hbd := hnx.setCell (p := ⟨w.heap.size, 0, none⟩) (Nat.le_refl _) (.slice up k uc)
        have OW3 := OW.out.kept (grownBy_setCell wr ⟨w.heap.size, 0, none⟩ (.slice up k uc)) (.inr fun e => by have := (OW.out.lt w.heap.size e).1; omega)
        have OW4 : Hid (OwnR (wr.setCell ⟨w.heap.size, 0, none⟩ (.slice up k uc)) w.heap.size (.slice up k uc) (srt l)) := Lib.hid (ownsLow OW3 (show w.heap.size ≤ w.heap.size + 2 by omega))
        have c2 : (wr.setCell ⟨w.heap.size, 0, none⟩ (.slice up k uc)).cell? ⟨w.heap.size, 0, none⟩ = some (.slice up k uc) := World.cell?_setCell_same' _ _ _ (by rw [c0]; rfl)
        have SS := Lib.hid i1
        clear i1 i2 i3 IV OW OW3
        go_wp2
        refine bodyPost_ret (by simp [results, Try.results56, go_sem, c2]; try rfl) rfl ?_
        exact ⟨_, rfl, OW4.out, SS.out, hbd⟩
end Go.Proofs.Ytgajepmnklbmpaa

/-
  table.run, Play and Routes: acts on an empty table.
-/
import Derived.Test.YtepfcphhgmmlhaaTabU
namespace Go.Proofs.Ytepfcphhgmmlhaa
open Go.RowKit
set_option linter.unusedVariables false
set_option linter.unusedSimpArgs false

/-- The table that acts leave. -/
def runL (l : List ActT) : List RT := l.foldl doL []
/-- The answers of acts on a table. -/
def runX : List RT → List ActT → List (Int × Int × Int)
  | _, [] => []
  | L, a :: t => doA L a :: runX (doL L a) t
theorem runX_snoc (l : List ActT) (a : ActT) : ∀ L : List RT, runX L (l ++ [a]) = runX L l ++ [doA (l.foldl doL L) a] := by
  induction l with
  | nil => intro L; rfl
  | cons b t ih => intro L; rw [List.cons_append, runX, ih, runX, List.foldl_cons, List.cons_append]
theorem runX_len (l : List ActT) : ∀ L : List RT, (runX L l).length = l.length := by
  induction l with
  | nil => intro L; rfl
  | cons b t ih => intro L; rw [runX, List.length_cons, List.length_cons, ih]
theorem runL_snoc (l : List ActT) (a : ActT) : runL (l ++ [a]) = doL (runL l) a := by simp [runL, List.foldl_append]
theorem take_snoc {α : Type} {l : List α} {k : Nat} (hk : k < l.length) : l.take (k + 1) = l.take k ++ [l[k]] := by
  rw [List.take_add_one, List.getElem?_eq_getElem hk]; rfl
theorem sorted_keys (l : List RT) : SortedR l ↔ (l.map Prod.fst).Pairwise ltK := by unfold SortedR; rw [List.pairwise_map]
theorem InvR.put {L : List RT} (I : InvR L) (r : RT) : InvR (putL L r) := by
  unfold putL
  split
  · rename_i hz
    split
    · rename_i hh
      obtain ⟨ht, e⟩ := I.sorted.found.1 hh
      refine ⟨(sorted_keys _).2 ?_, fun q hq => ?_, by rw [List.length_set]; exact I.size⟩
      · have e2 : (L.set (posR L r.1) r).map Prod.fst = L.map Prod.fst := by
          rw [List.map_set]
          refine List.ext_getElem (by simp) fun i h1 h2 => ?_
          rw [List.getElem_set]
          split
          · rename_i h; subst h; simp [e]
          · rfl
        rw [e2]; exact (sorted_keys _).1 I.sorted
      · rcases List.mem_or_eq_of_mem_set hq with h | h
        · exact I.fine q h
        · rw [h]; exact hz
    · rename_i hh
      split
      · exact I
      · rename_i h60
        refine ⟨I.sorted.ins (by simpa using hh), fun q hq => ?_, by rw [insR_len]; omega⟩
        rcases insR_mem.1 hq with h | h
        · rw [h]; exact hz
        · exact I.fine q h
  · exact I
theorem InvR.cut {L : List RT} (I : InvR L) (p : PK) : InvR (cutL L p) := by
  unfold cutL
  split
  · unfold delR
    have hsub : (L.take (posR L p) ++ L.drop (posR L p + 1)).Sublist L := by
      conv => rhs; rw [← List.take_append_drop (posR L p) L]
      refine List.Sublist.append (List.Sublist.refl _) ?_
      rw [show L.drop (posR L p + 1) = (L.drop (posR L p)).drop 1 by rw [List.drop_drop]]
      exact List.drop_sublist _ _
    exact ⟨I.sorted.sublist hsub, fun q hq => I.fine q (hsub.subset hq), Nat.le_trans hsub.length_le I.size⟩
  · exact I
theorem InvR.step {L : List RT} (I : InvR L) (a : ActT) : InvR (doL L a) := by
  unfold doL
  split
  · exact I.put _
  · split
    · exact I.cut _
    · exact I
theorem InvR.nil : InvR [] := ⟨List.Pairwise.nil, fun r hr => (by cases hr), by simp⟩
theorem InvR.run (l : List ActT) : InvR (runL l) := by
  suffices H : ∀ (m : List ActT) (L : List RT), InvR L → InvR (m.foldl doL L) from H l [] InvR.nil
  intro m
  induction m with
  | nil => intro L h; exact h
  | cons a t ih => intro L h; exact ih _ (h.step a)
/-- An answer as it lies in memory. -/
def xcs (x : Int × Int × Int) : List Value := [.int .i64 x.1, .int .i64 x.2.1, .int .i64 x.2.2]
theorem xcs_len (x : Int × Int × Int) : (xcs x).length = 3 := rfl
theorem xcs_one (x : Int × Int × Int) : ∀ u ∈ xcs x, u.oneCell' = true := by
  intro u hu
  simp only [xcs, List.mem_cons, List.not_mem_nil, or_false] at hu
  rcases hu with h | h | h <;> subst h <;> rfl
abbrev OwnX (w : World) (base : Nat) (v : Value) (l : List (Int × Int × Int)) : Prop := w.ownsRow base 63 3 v l.length (rowOf xcs l)
abbrev RowX (w : World) (v : Value) (l : List (Int × Int × Int)) : Prop := RowK xcs 3 w v l
abbrev RowA (w : World) (v : Value) (l : List ActT) : Prop := RowK acs 9 w v l
theorem OwnX.row {w : World} {base : Nat} {v : Value} {l : List (Int × Int × Int)} (h : OwnX w base v l) : RowX w v l := RowK.owned xcs_len h
theorem ownX_notR {w : World} {base k : Nat} {v : Value} {l : List (Int × Int × Int)} (h : OwnX w base v l) (e : v.ownBlock = some k) : NotR w k := by
  rcases h.2 with ⟨rfl, _⟩ | ⟨g, cap, cur, rfl, _, hg, _⟩
  · simp [Value.ownBlock] at e
  · simp only [Value.ownBlock, Option.some.injEq] at e
    subst e
    intro c he
    rw [hg] at he
    simp only [Option.some.injEq, Obj.cells.injEq] at he
    exact absurd he.2.1 (by decide)
theorem info_ans : (Try.prog.info? 63).map (fun i => (i.zero, i.size, i.bytes)) = some (some (.agg #[.int .i64 0, .int .i64 0, .int .i64 0]), 3, 24) := by kernel_rfl
theorem Tab.grown {w w' : World} {b base : Nat} {v : Value} {L : List RT} {row : Option Nat} (h : Tab w b base v L) (hg : w.grownBy w' row) (hb : row ≠ some b) (hv : ∀ k, row = some k → NotR w k) : Tab w' b base v L :=
  ⟨h.1.grown hg hb, h.2.1.kept hg (by
    cases hr : row with
    | none => cases v.ownBlock <;> simp
    | some k => exact .inr ((hv k hr).ne h.2.1)), h.2.2⟩
def WordsA (l : List ActT) : Prop := ∀ a ∈ l, a.p.2.1 < 2 ^ 128 ∧ a.y < 2 ^ 128
/-- The error of a play. -/
def playE (l : List ActT) : Int := if 100 < l.length then 1 else 0
def playL (l : List ActT) : List RT := if 100 < l.length then [] else runL l
def playX (l : List ActT) : List (Int × Int × Int) := if 100 < l.length then [] else runX [] l
set_option maxHeartbeats 4000000 in
set_option maxRecDepth 100000 in
theorem run_calls (l : List ActT) (v : Value) (hlen : l.length ≤ 9223372036854775807) (hw : WordsA l) (w : World) (row : RowA w v l) :
    Calls Try.prog 28 #[v] w fun e w' => ∃ t u, e = .returned (.tuple #[.agg #[t], u, .int .i64 (playE l)]) ∧ OwnR w' w.heap.size t (playL l) ∧ OwnX w' w.heap.size u (playX l) ∧ Below w.heap.size w w' := by
  obtain ⟨p, c, rfl, hcap, at_⟩ := row.at
  by_cases h60 : 100 < l.length
  · have h60' : (100 : Int) < (l.length : Int) := by omega
    rw [show playE l = 1 by simp [playE, h60], show playL l = [] by simp [playL, h60], show playX l = [] by simp [playX, h60]]
    have bb := Box.new w (.slice none 0 0) 59
    obtain ⟨c0, f0, bl⟩ := bb
    have f1 := f0 0
    go_enter Try.func28, Try.ntmps28
    go_wp2
    go_returns
    exact ⟨_, _, rfl, World.ownsRow_nil _ _ _ _, World.ownsRow_nil _ _ _ _, by go_grown⟩
  · have h60' : ¬ (100 : Int) < (l.length : Int) := by omega
    rw [show playE l = 0 by simp [playE, h60], show playL l = runL l by simp [playL, h60], show playX l = runX [] l by simp [playX, h60]]
    obtain ⟨n, hn⟩ : ∃ n, l.length = n := ⟨_, rfl⟩
    have HN := Lib.hid hn
    have AT := Lib.hid at_
    have HW := Lib.hid hw
    rw [hn] at hlen h60 h60' ⊢
    have B1 := (Box.new w (.slice none 0 0) 59).alloc (.cells #[.slice none 0 0] 59)
    have B2 := Box.new (w.alloc (.cells #[.slice none 0 0] 59)) (.slice none 0 0) 59
    have bY := ((Below.refl w.heap.size w).alloc (Nat.le_refl _) (.cells #[.slice none 0 0] 59)).alloc (by simp) (.cells #[.slice none 0 0] 59)
    simp only [World.size_alloc] at B2
    have ys : ((w.alloc (.cells #[.slice none 0 0] 59)).alloc (.cells #[.slice none 0 0] 59)).heap.size = w.heap.size + 2 := by simp
    obtain ⟨i0, hii, hz0, hz1, hz2⟩ := info_parts info_ans
    clear row hw at_ hn
    go_enter Try.func28, Try.ntmps28
    go_wp2
    revert B1 B2 bY ys
    generalize (w.alloc (.cells #[.slice none 0 0] 59)).alloc (.cells #[.slice none 0 0] 59) = Y
    intro B1 bY B2 ys
    go_loopw [6, 17] (fun u i wr => ∃ (k : Nat) (t : Value), k ≤ n ∧ i = .int .i64 k ∧ Below w.heap.size w wr ∧ Box wr w.heap.size (.slice none 0 0) ∧ Hid (Tab wr (w.heap.size + 1) (w.heap.size + 2) t (runL (l.take k))) ∧ Hid (OwnX wr (w.heap.size + 2) u (runX [] (l.take k))) ∧ w.heap.size + 2 ≤ wr.heap.size) (fun _ i _ => n - (intOf i).toNat)
    case atStart => exact ⟨0, _, by omega, rfl, bY, B1, Lib.hid ⟨B2, World.ownsRow_nil _ _ _ _, by omega⟩, Lib.hid (World.ownsRow_nil _ _ _ _), by omega⟩
    case round =>
      obtain ⟨k, t, hk, rfl, hnx, b1, TB, OX, hsz⟩ := hrel
      by_cases hlt : k < n
      · have hkl : k < l.length := by rw [HN.out]; exact hlt
        obtain ⟨g, o, rfl, hgw, hrec⟩ := AT.out k hkl
        obtain ⟨x0, x1, x2, x3, x4, x5, x6, x7, x8⟩ := actCells (hrec.keep hnx hgw)
        have hwk := HW.out _ (List.getElem_mem hkl)
        have E1 := Lib.hid (show runL (l.take (k + 1)) = doL (runL (l.take k)) l[k] ∧ runX [] (l.take (k + 1)) = runX [] (l.take k) ++ [doA (runL (l.take k)) l[k]] by rw [take_snoc hkl, runL_snoc, runX_snoc]; exact ⟨rfl, rfl⟩)
        have hklt : (k : Int) < (n : Int) := by omega
        generalize hr : l[k] = a at x0 x1 x2 x3 x4 x5 x6 x7 x8 hwk E1
        clear hr
        have DC := Lib.hid (fun (W : World) (hb : w.heap.size + 2 ≤ W.heap.size) (T : Tab W (w.heap.size + 1) (w.heap.size + 2) t (runL (l.take k))) => do_calls (w.heap.size + 1) (w.heap.size + 2) t (runL (l.take k)) a hwk.1 hwk.2 (InvR.run _) W hb T)
        have hgr := Nat.lt_of_lt_of_le hgw hnx.size
        go_wp2_with fail
        have hA : Below wr.heap.size wr (wr.alloc (objA a)) := (Below.refl wr.heap.size wr).alloc (Nat.le_refl _) _
        refine (DC.out _ (by simp; omega) (TB.out.alloc _)).mono ?_
        rintro e w1 ⟨rfl, ⟨t', T1⟩, U1⟩
        have Tne : ∀ q, t.ownBlock = some q → w.heap.size + 2 ≤ q := fun q h => (TB.out.2.1.lt q h).1
        have OX1 : OwnX w1 (w.heap.size + 2) u6 (runX [] (l.take k)) := U1.owns (ownsKeep OX.out hA) (fun q hq h => h.elim (fun e => by have := (OX.out.lt q hq).1; omega) (fun e => (ownX_notR OX.out hq).ne TB.out.2.1 e))
        have b1' := U1.box (b1.alloc (objA a)) (fun h => h.elim (fun e => by omega) (fun e => by have := Tne _ e; omega))
        have hn1 := (thenBelow hnx hA).trans (U1.below (n := w.heap.size) (fun q h => h.elim (fun e => by omega) (fun e => by have := Tne _ e; omega)) (by simp; omega))
        have hs1 : w.heap.size + 2 ≤ w1.heap.size := Nat.le_trans (by simp; omega) U1.size
        have T1H := Lib.hid T1
        have OX1H := Lib.hid OX1
        clear x0 x1 x2 x3 x4 x5 x6 x7 x8 DC U1 T1 OX1 hA TB OX b1 Tne
        generalize doA (runL (l.take k)) a = x at E1
        have hnw : ∀ (o1 : Obj) (cs : Array Value), ((w1.alloc o1).alloc (.cells cs 63)).heap[w1.heap.size + 1]? = some (.cells cs 63 (0, 0)) := fun o1 cs => by
          have := _root_.Go.heap_alloc_new (w1.alloc o1) (.cells cs 63)
          rwa [World.size_alloc] at this
        have hl : (runX [] (l.take k)).length = k := by rw [runX_len, List.length_take]; omega
        have hby : ((runX [] (l.take k)).length + 1) * 24 ≤ 140737488355328 := by rw [hl]; omega
        have h63 : (runX [] (l.take k)).length + 1 ≤ maxLen := by rw [hl]; unfold maxLen; omega
        have hbX : ∀ (o1 o2 : Obj), w.heap.size + 2 ≤ ((w1.alloc o1).alloc o2).heap.size := fun o1 o2 => by simp; omega
        have HL := Lib.hid hl
        clear hl
        go_wp2_with (at_builtin; refine wpList_append_own _ rfl _ _ 23 rfl (w.heap.size + 2) 63 i0 _ 3 24 Try.underlying23 hii hz0 hz1 hz2 rfl (by decide) _ _ _ rfl ((OX1H.out.alloc _).alloc _) ⟨w1.heap.size + 1, 0, none⟩ 1 1 (xcs x) rfl rfl (fun j u hj => World.news_of_block (hnw _ _) j u (by simpa [xcs] using hj)) (xcs_one x) h63 hby (hbX _ _) ?_; intro u2 w2 ho2 hg2 _)
        have oge : ∀ q, u6.ownBlock = some q → w.heap.size + 2 ≤ q := fun q h => (OX1H.out.lt q h).1
        have OXA := (OX1H.out.alloc (.cells #[.int .i64 x.1, .int .i64 x.2.1, .int .i64 x.2.2] 63)).alloc (.cells #[.int .i64 x.1, .int .i64 x.2.1, .int .i64 x.2.2] 63)
        have hnA := ((hn1.alloc hn1.size (.cells #[.int .i64 x.1, .int .i64 x.2.1, .int .i64 x.2.2] 63)).alloc (by have := hn1.size; simp; omega) (.cells #[.int .i64 x.1, .int .i64 x.2.1, .int .i64 x.2.2] 63)).grown hg2 (by have := hn1.size; simp; omega) (fun q hq => by have := oge q hq; omega)
        have b1A := ((b1'.alloc _).alloc _).grown hg2 (fun e => by have := oge _ e; omega)
        have TA := Lib.hid (((T1H.out.alloc _).alloc _).grown hg2 (fun e => by have := oge _ e; omega) (fun q hq => ownX_notR (l := runX [] (l.take k)) OXA hq))
        have OA : OwnX w2 (w.heap.size + 2) u2 (runX [] (l.take (k + 1))) := by
          rw [E1.out.2]
          unfold OwnX
          rw [List.length_append, rowOf_app]
          exact ho2
        have OAH := Lib.hid OA
        have hs2 : w.heap.size + 2 ≤ w2.heap.size := Nat.le_trans (hbX _ _) hg2.size
        go_roundw
        case rel => exact ⟨k + 1, t', by omega, by go_num, hnA, b1A, Lib.hid (by rw [E1.out.1]; exact TA.out), OAH, hs2⟩
        case measure => simp [intOf]; omega
      · obtain rfl : k = n := by omega
        have e1 : l.take k = l := by rw [← HN.out]; exact List.take_length
        rw [e1] at TB OX
        obtain ⟨tp, tc, rfl⟩ := TB.out.form
        obtain ⟨c0, f0, l0⟩ := b1
        have c1 := TB.out.1.1
        have f2 := f0 0
        have hbd := hnx.setCell (p := ⟨w.heap.size, 0, none⟩) (Nat.le_refl _) (.slice tp (runL l).length tc)
        have O3 := Lib.hid (ownsLow (TB.out.2.1.kept (grownBy_setCell wr ⟨w.heap.size, 0, none⟩ (.slice tp (runL l).length tc)) (.inr fun e => by have := (TB.out.2.1.lt w.heap.size e).1; omega)) (show w.heap.size ≤ w.heap.size + 2 by omega))
        have X3 := Lib.hid (ownsLow (OX.out.kept (grownBy_setCell wr ⟨w.heap.size, 0, none⟩ (.slice tp (runL l).length tc)) (.inr fun e => by have := (OX.out.lt w.heap.size e).1; omega)) (show w.heap.size ≤ w.heap.size + 2 by omega))
        have c2 : (wr.setCell ⟨w.heap.size, 0, none⟩ (.slice tp (runL l).length tc)).cell? ⟨w.heap.size, 0, none⟩ = some (.slice tp (runL l).length tc) := World.cell?_setCell_same' _ _ _ (by rw [c0]; rfl)
        clear TB OX
        go_wp2
        refine bodyPost_ret (by simp [results, Try.results28, go_sem, c2]; try rfl) rfl ?_
        exact ⟨_, _, rfl, O3.out, X3.out, hbd⟩
theorem play_calls (l : List ActT) (v : Value) (hlen : l.length ≤ 9223372036854775807) (hw : WordsA l) (w : World) (row : RowA w v l) :
    Calls Try.prog 12 #[v] w fun e w' => ∃ u, e = .returned (.tuple #[u, .int .i64 (playE l)]) ∧ OwnX w' w.heap.size u (playX l) ∧ Below w.heap.size w w' := by
  have C := Lib.hid (run_calls l v hlen hw w row)
  obtain ⟨p, c, rfl⟩ := row.form
  go_enter Try.func12, Try.ntmps12
  go_wp2_with fail
  refine C.out.mono ?_
  rintro e w1 ⟨t, u, rfl, ho, hx, hb1⟩
  obtain ⟨q, d, rfl⟩ := ho.row.form
  have X2 := Lib.hid (hx.alloc (.cells #[.slice q (playL l).length d] 59))
  clear ho hx
  go_wp2
  go_ret2
  exact ⟨_, rfl, X2.out, hb1.alloc hb1.size _⟩
theorem routes_calls (l : List ActT) (v : Value) (hlen : l.length ≤ 9223372036854775807) (hw : WordsA l) (w : World) (row : RowA w v l) :
    Calls Try.prog 15 #[v] w fun e w' => ∃ u, e = .returned (.tuple #[u, .int .i64 (playE l)]) ∧ OwnR w' w.heap.size u (playL l) ∧ Below w.heap.size w w' := by
  have C := Lib.hid (run_calls l v hlen hw w row)
  obtain ⟨p, c, rfl⟩ := row.form
  go_enter Try.func15, Try.ntmps15
  go_wp2_with fail
  refine C.out.mono ?_
  rintro e w1 ⟨t, u, rfl, ho, hx, hb1⟩
  obtain ⟨q, d, rfl⟩ := ho.row.form
  have X2 := Lib.hid (ho.alloc (.cells #[.slice q (playL l).length d] 59))
  clear ho hx
  go_wp2
  go_ret2
  exact ⟨_, rfl, X2.out, hb1.alloc hb1.size _⟩
end Go.Proofs.Ytepfcphhgmmlhaa

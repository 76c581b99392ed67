/-
  cidr.byFamily.
-/
import Derived.Test.YtifhakoeinalaaaDoorG5
import Derived.Deep.RegionLaw
namespace Go.Proofs.YtifhakoeinalaaaDoor
open Go.RowKit
set_option linter.unusedVariables false
set_option linter.unusedSimpArgs false

/-- Block b holds two slices, rows of their own from 'base' on; block r holds what nobody has written yet. -/
structure FamSt (b r base i j : Nat) (w : World) (v u : Value) (l m : List PT) : Prop where
  ci : w.cell? ⟨b, i, none⟩ = some v
  cj : w.cell? ⟨b, j, none⟩ = some u
  fb : ∀ o, w.frozen? ⟨b, o, none⟩ = false
  r0 : w.cell? ⟨r, 0, none⟩ = some (.slice none 0 0)
  r1 : w.cell? ⟨r, 1, none⟩ = some (.slice none 0 0)
  fr : ∀ o, w.frozen? ⟨r, o, none⟩ = false
  oi : Owned w base v l
  oj : Owned w base u m
  ap : ∀ q, v.ownBlock = some q → u.ownBlock ≠ some q
  ij : i ≠ j
  br : b ≠ r
  lb : b < base
  lr : r < base
  lB : base ≤ w.heap.size
section
variable {b r base i j : Nat} {w w' : World} {v u : Value} {l m : List PT}
theorem FamSt.swap (h : FamSt b r base i j w v u l m) : FamSt b r base j i w u v m l :=
  ⟨h.cj, h.ci, h.fb, h.r0, h.r1, h.fr, h.oj, h.oi, fun q hq e => h.ap q e hq, fun e => h.ij e.symm, h.br, h.lb, h.lr, h.lB⟩
theorem FamSt.keep (h : FamSt b r base i j w v u l m) (hb : Below w.heap.size w w') : FamSt b r base i j w' v u l m := by
  have hb' : b < w.heap.size := Nat.lt_of_lt_of_le h.lb h.lB
  have hr' : r < w.heap.size := Nat.lt_of_lt_of_le h.lr h.lB
  exact ⟨(hb.cell (p := ⟨b, i, none⟩) hb').trans h.ci, (hb.cell (p := ⟨b, j, none⟩) hb').trans h.cj, fun o => (hb.frozen (p := ⟨b, o, none⟩) hb').trans (h.fb o), (hb.cell (p := ⟨r, 0, none⟩) hr').trans h.r0, (hb.cell (p := ⟨r, 1, none⟩) hr').trans h.r1, fun o => (hb.frozen (p := ⟨r, o, none⟩) hr').trans (h.fr o),
    ownsKeep h.oi hb, ownsKeep h.oj hb, h.ap, h.ij, h.br, h.lb, h.lr, Nat.le_trans h.lB hb.size⟩
/-- A row lies as it lay if its block is as it was. -/
theorem owned_block {w w' : World} {base : Nat} {v : Value} {l : List PT} (h : Owned w base v l) (hb : ∀ q, v.ownBlock = some q → w'.heap[q]? = w.heap[q]?) : Owned w' base v l := by
  refine ⟨h.1, ?_⟩
  rcases h.2 with h2 | ⟨g, cap, cur, a, b, c, d⟩
  · exact .inl h2
  · refine .inr ⟨g, cap, cur, a, b, (hb g ?_).trans c, d⟩
    rw [a]; rfl
/-- One more in the first row, stored. -/
theorem FamSt.app {g cap : Nat} {w4 : World} {p : PT} {o : Obj} (h : FamSt b r base i j w v u l m) (hg : (w.alloc o).grownBy w4 v.ownBlock)
    (own : Owned w4 base (.slice (some ⟨g, 0, none⟩) (l.length + 1) cap) (l ++ [p])) (hat : v.ownBlock = some g ∨ w.heap.size ≤ g) :
    FamSt b r base i j (w4.setCell ⟨b, i, none⟩ (.slice (some ⟨g, 0, none⟩) (l.length + 1) cap)) (.slice (some ⟨g, 0, none⟩) (l.length + 1) cap) u (l ++ [p]) m ∧
    w4.cell? ⟨b, i, none⟩ = some v ∧ w4.frozen? ⟨b, i, none⟩ = false ∧ ∀ B, Below B w w → B ≤ b → B ≤ base → B ≤ w.heap.size → Below B w (w4.setCell ⟨b, i, none⟩ (.slice (some ⟨g, 0, none⟩) (l.length + 1) cap)) := by
  have hlt := h.oi.lt
  have hlu := h.oj.lt
  have hsz : (w.alloc o).heap.size = w.heap.size + 1 := by simp
  have blk : ∀ k, k < w.heap.size → v.ownBlock ≠ some k → w4.heap[k]? = w.heap[k]? := fun k hk hn =>
    (hg.block k (by omega) (fun e => hn e.symm)).trans (Below.heap_alloc w o k hk)
  have nb : ∀ k, k < base → v.ownBlock ≠ some k := fun k hk e => by have := (hlt k e).1; omega
  have cl : ∀ k q, k < base → w4.cell? ⟨k, q, none⟩ = w.cell? ⟨k, q, none⟩ := fun k q hk => World.cell?_of_block (a := ⟨k, q, none⟩) (blk k (Nat.lt_of_lt_of_le hk h.lB) (nb k hk))
  have fl : ∀ k q, k < base → w4.frozen? ⟨k, q, none⟩ = w.frozen? ⟨k, q, none⟩ := fun k q hk => World.frozen?_of_block (a := ⟨k, q, none⟩) (blk k (Nat.lt_of_lt_of_le hk h.lB) (nb k hk))
  have s4 : w.heap.size ≤ w4.heap.size := by have := hg.size; omega
  have ci4 : w4.cell? ⟨b, i, none⟩ = some v := (cl b i h.lb).trans h.ci
  refine ⟨⟨?_, ?_, ?_, ?_, ?_, ?_, ownsRow_setCell_below own h.lb _, ownsRow_setCell_below (owned_block h.oj fun q hq => ?_) h.lb _, ?_, h.ij, h.br, h.lb, h.lr, ?_⟩, ci4, (fl b i h.lb).trans (h.fb i), fun B _ hBb hBs hBw => ?_⟩
  · simp [go_sem, ci4]
  · exact (World.cell?_setCell_other w4 ⟨b, i, none⟩ ⟨b, j, none⟩ _ (fun e => h.ij (by cases e; rfl))).trans ((cl b j h.lb).trans h.cj)
  · intro q; rw [World.frozen?_setCell]; exact (fl b q h.lb).trans (h.fb q)
  · exact (World.cell?_setCell_other w4 ⟨b, i, none⟩ ⟨r, 0, none⟩ _ (fun e => h.br (by cases e; rfl))).trans ((cl r 0 h.lr).trans h.r0)
  · exact (World.cell?_setCell_other w4 ⟨b, i, none⟩ ⟨r, 1, none⟩ _ (fun e => h.br (by cases e; rfl))).trans ((cl r 1 h.lr).trans h.r1)
  · intro q; rw [World.frozen?_setCell]; exact (fl r q h.lr).trans (h.fr q)
  · exact blk q (hlu q hq).2 (fun e => h.ap q e hq)
  · intro q hq e
    have hq' : g = q := by simpa [Value.ownBlock] using hq
    subst hq'
    rcases hat with c | c
    · exact h.ap g c e
    · have := (hlu g e).2; omega
  · have := h.lB; simp; omega
  · have g1 : Below B w w4 := ((Below.refl B w).alloc hBw o).grown hg (by simp; omega) (fun k hk => Nat.le_trans hBs (hlt k hk).1)
    exact g1.setCell (p := ⟨b, i, none⟩) hBb _
end
theorem family_calls2 (six : Bool) (h l : Int) (w : World) :
    Calls Tryd.prog 26 #[.agg #[.bool six, .int .u64 h, .int .u64 l]] w fun e w' => e = .returned (.int .i64 (if six then 1 else 0)) ∧ w.alloc (.cells #[.bool six, .int .u64 h, .int .u64 l] 31) = w' := by
  cases six
  all_goals
    go_enter Tryd.func26, Tryd.ntmps26
    go_wp2
    go_returns
    exact ⟨rfl, rfl⟩
theorem filt_yes {l : List PT} {k : Nat} (s : Bool) (hk : k < l.length) (h : l[k].1 = s) : (l.take (k + 1)).filter (·.1 == s) = (l.take k).filter (·.1 == s) ++ [l[k]] := by
  rw [List.take_succ_eq_append_getElem hk, List.filter_append]; simp [h]
theorem filt_no {l : List PT} {k : Nat} (s : Bool) (hk : k < l.length) (h : l[k].1 ≠ s) : (l.take (k + 1)).filter (·.1 == s) = (l.take k).filter (·.1 == s) := by
  rw [List.take_succ_eq_append_getElem hk, List.filter_append]; simp [h]
theorem filt_len (l : List PT) (s : Bool) (k : Nat) : ((l.take k).filter (·.1 == s)).length ≤ l.length := by
  have h1 := List.length_filter_le (·.1 == s) (l.take k)
  have h2 : (l.take k).length ≤ l.length := by rw [List.length_take]; omega
  omega
set_option maxHeartbeats 4000000 in
set_option maxRecDepth 100000 in
theorem byFam_calls (l : List PT) (v : Value) (hlen : l.length ≤ 1000) (w : World) (hr : RowP w v l) :
    Calls Tryd.prog 29 #[v] w fun e w' => (∃ v0 v1, e = .returned (.agg #[v0, v1]) ∧ Owned w' w.heap.size v0 (l.filter (·.1 == false)) ∧ Owned w' w.heap.size v1 (l.filter (·.1 == true))) ∧ Below w.heap.size w w' := by
  obtain ⟨i0, hii, hz0, hz1, hz2⟩ := info_parts info_pre
  obtain ⟨p, c, rfl, hc⟩ := hr.at
  have b0 : Below w.heap.size w ((w.alloc (.cells #[.slice none 0 0, .slice none 0 0] 81)).alloc (.cells #[.slice none 0 0, .slice none 0 0] 81)) := ((Below.refl _ w).alloc (Nat.le_refl _) _).alloc (by simp) _
  have ST : FamSt (w.heap.size + 1) w.heap.size (w.heap.size + 1 + 1) 0 1 ((w.alloc (.cells #[.slice none 0 0, .slice none 0 0] 81)).alloc (.cells #[.slice none 0 0, .slice none 0 0] 81)) (.slice none 0 0) (.slice none 0 0) [] [] :=
    ⟨by simp, by simp, fun o => by simp [go_sem], by simp, by simp, fun o => by simp [go_sem], owned_nil _ _, owned_nil _ _, fun q h => by simp [Value.ownBlock] at h, by omega, by omega, by omega, by omega, by simp⟩
  have HC := Lib.hid hc
  clear hc hr
  go_enter Tryd.func29, Tryd.ntmps29
  go_wp2
  revert b0 ST
  generalize ((w.alloc (.cells #[.slice none 0 0, .slice none 0 0] 81)).alloc (.cells #[.slice none 0 0, .slice none 0 0] 81)) = w1
  intro b0 ST
  go_loopw [9] (fun i wr => ∃ (k : Nat) (v0 v1 : Value), k ≤ l.length ∧ i = .int .i64 k ∧ FamSt (w.heap.size + 1) w.heap.size (w.heap.size + 1 + 1) 0 1 wr v0 v1 ((l.take k).filter (·.1 == false)) ((l.take k).filter (·.1 == true)) ∧ Below w.heap.size w wr) (fun i _ => l.length - (intOf i).toNat)
  case atStart => exact ⟨0, _, _, by omega, rfl, ST, b0⟩
  case round =>
    obtain ⟨k, v0, v1, hk, rfl, hst, hnx⟩ := hrel
    have lf := filt_len l false k
    have lt := filt_len l true k
    by_cases hlt : k < l.length
    · obtain ⟨g, o, rfl, hg, hP⟩ := HC.out k hlt
      obtain ⟨x0, x1, x2, x3⟩ := hP.keep hg hnx
      have hgs := Nat.lt_of_lt_of_le hg hnx.size
      have Y1 := Lib.hid (fun s h => filt_yes s hlt h)
      have Y2 := Lib.hid (fun s h => filt_no s hlt h)
      generalize l[k] = q at x0 x1 x2 x3 Y1 Y2
      obtain ⟨s, x, n⟩ := q
      simp only at x0 x1 x2 x3 Y1 Y2
      have HST := Lib.hid hst
      clear hst HC ST
      generalize hlf : (l.take k).filter (·.1 == false) = l0 at HST lf Y1 Y2
      generalize hlt' : (l.take k).filter (·.1 == true) = l1 at HST lt Y1 Y2
      have HLF := Lib.hid hlf
      have HLT := Lib.hid hlt'
      clear hlf hlt'
      cases s
      · go_wp2_with fail
        refine (family_calls2 false (aH x) (aL x) _).mono ?_
        rintro e w2 ⟨rfl, rfl⟩
        have bq : Below wr.heap.size wr ((wr.alloc (.cells #[.bool false, .int .u64 (aH x), .int .u64 (aL x), .int .i64 n] 33)).alloc (.cells #[.bool false, .int .u64 (aH x), .int .u64 (aL x)] 31)) := ((Below.refl _ _).alloc (Nat.le_refl _) _).alloc (by simp) _
        have GQ := (PreAt.new wr false (aH x) (aL x) n 33).alloc (.cells #[.bool false, .int .u64 (aH x), .int .u64 (aL x)] 31)
        have S2 := Lib.hid (HST.out.keep bq)
        have b2 := thenBelow hnx bq
        clear x0 x1 x2 x3 HST bq hnx
        go_wp2_with fail
        revert GQ S2 b2
        generalize ((wr.alloc (.cells #[.bool false, .int .u64 (aH x), .int .u64 (aL x), .int .i64 n] 33)).alloc (.cells #[.bool false, .int .u64 (aH x), .int .u64 (aL x)] 31)) = W
        intro GQ S2 b2
        obtain ⟨q0, q1, q2, q3, ql⟩ := GQ
        have S3 := Lib.hid (S2.out.keep (Below.refl _ _).drew)
        have ci := S2.out.ci
        have lB := S2.out.lB
        have hdz : W.drew.heap.size = W.heap.size := rfl
        have hbW : w.heap.size + 1 < W.heap.size := by omega
        have hbN : ¬ w.heap.size + 1 = W.heap.size := by omega
        have hbN' : ¬ W.heap.size = w.heap.size + 1 := by omega
        have hqN : ¬ wr.heap.size = W.heap.size := by omega
        go_region_law (refine step_append_lies _ rfl (.tmp 19) (.tmp 21) 28 rfl (w.heap.size + 1 + 1) 33 i0 _ 4 32 Tryd.underlying28 hii hz0 hz1 hz2 rfl (by decide) v0 _ _ (by simp [Act.eval, Act.put]) (S3.out.oi.alloc _) ⟨W.heap.size, 0, none⟩ 1 1 (pRow [(false, x, n)]) (by simp [Act.eval, Act.put]) rfl (World.news_of_block (heap_alloc_new W.drew _)) (pRow_one _) (by decide) (by unfold maxLen; omega) (by omega) (by simp; omega) _ rfl ?_; intro g9 cap9 w9 own9 hgrow hat hlt9; have own9' : Owned w9 (w.heap.size + 1 + 1) (.slice (some ⟨g9, 0, none⟩) (l0.length + 1) cap9) (l0 ++ [(false, x, n)]) := (by unfold Owned; rw [pRow_app, List.length_append]; exact own9); have FIN := S3.out.app hgrow own9' (hat.imp id (fun h => by simp at h; omega)); have cO := FIN.2.1; have zO := FIN.2.2.1; have FIN := Lib.hid FIN; clear own9 own9' hgrow)
        all_goals
          go_wp2
          go_roundw
          case rel => exact ⟨k + 1, _, _, by omega, by go_num, by rw [Y1.out false rfl, Y2.out true (by decide), HLF.out, HLT.out]; exact FIN.out.1, b2.drew.trans (FIN.out.2.2.2 w.heap.size (Below.refl _ _) (by omega) (by omega) (by have := b2.size; omega))⟩
          case measure => simp [intOf]; omega
      · go_wp2_with fail
        refine (family_calls2 true (aH x) (aL x) _).mono ?_
        rintro e w2 ⟨rfl, rfl⟩
        have bq : Below wr.heap.size wr ((wr.alloc (.cells #[.bool true, .int .u64 (aH x), .int .u64 (aL x), .int .i64 n] 33)).alloc (.cells #[.bool true, .int .u64 (aH x), .int .u64 (aL x)] 31)) := ((Below.refl _ _).alloc (Nat.le_refl _) _).alloc (by simp) _
        have GQ := (PreAt.new wr true (aH x) (aL x) n 33).alloc (.cells #[.bool true, .int .u64 (aH x), .int .u64 (aL x)] 31)
        have S2 := Lib.hid (HST.out.keep bq)
        have b2 := thenBelow hnx bq
        clear x0 x1 x2 x3 HST bq hnx
        go_wp2_with fail
        revert GQ S2 b2
        generalize ((wr.alloc (.cells #[.bool true, .int .u64 (aH x), .int .u64 (aL x), .int .i64 n] 33)).alloc (.cells #[.bool true, .int .u64 (aH x), .int .u64 (aL x)] 31)) = W
        intro GQ S2 b2
        obtain ⟨q0, q1, q2, q3, ql⟩ := GQ
        have S3 := Lib.hid (S2.out.keep (Below.refl _ _).drew)
        have ci := S2.out.cj
        have lB := S2.out.lB
        have hdz : W.drew.heap.size = W.heap.size := rfl
        have hbW : w.heap.size + 1 < W.heap.size := by omega
        have hbN : ¬ w.heap.size + 1 = W.heap.size := by omega
        have hbN' : ¬ W.heap.size = w.heap.size + 1 := by omega
        have hqN : ¬ wr.heap.size = W.heap.size := by omega
        go_region_law (refine step_append_lies _ rfl (.tmp 19) (.tmp 21) 28 rfl (w.heap.size + 1 + 1) 33 i0 _ 4 32 Tryd.underlying28 hii hz0 hz1 hz2 rfl (by decide) v1 _ _ (by simp [Act.eval, Act.put]) (S3.out.oj.alloc _) ⟨W.heap.size, 0, none⟩ 1 1 (pRow [(true, x, n)]) (by simp [Act.eval, Act.put]) rfl (World.news_of_block (heap_alloc_new W.drew _)) (pRow_one _) (by decide) (by unfold maxLen; omega) (by omega) (by simp; omega) _ rfl ?_; intro g9 cap9 w9 own9 hgrow hat hlt9; have own9' : Owned w9 (w.heap.size + 1 + 1) (.slice (some ⟨g9, 0, none⟩) (l1.length + 1) cap9) (l1 ++ [(true, x, n)]) := (by unfold Owned; rw [pRow_app, List.length_append]; exact own9); have FIN := S3.out.swap.app hgrow own9' (hat.imp id (fun h => by simp at h; omega)); have cO := FIN.2.1; have zO := FIN.2.2.1; have FIN := Lib.hid FIN; clear own9 own9' hgrow)
        all_goals
          go_wp2
          go_roundw
          case rel => exact ⟨k + 1, _, _, by omega, by go_num, by rw [Y2.out false (by decide), Y1.out true rfl, HLF.out, HLT.out]; exact FIN.out.1.swap, b2.drew.trans (FIN.out.2.2.2 w.heap.size (Below.refl _ _) (by omega) (by omega) (by have := b2.size; omega))⟩
          case measure => simp [intOf]; omega
    · obtain rfl : k = l.length := by omega
      rw [List.take_length] at hst
      obtain ⟨c0, c1, fb, r0, r1, fr, o0, o1, _, _, _, lb, lr, lB⟩ := hst
      have f0 := fr 0
      have f1 := fr 1
      clear fb fr
      obtain ⟨pa, ca, rfl⟩ := (RowP.owned o0).form
      obtain ⟨pb, cb, rfl⟩ := (RowP.owned o1).form
      go_wp2
      try simp only [Exit.inBlock, Exit.then]
      refine bodyPost_ret (v := .agg #[.slice pa (l.filter (·.1 == false)).length ca, .slice pb (l.filter (·.1 == true)).length cb]) (by simp [results, Tryd.results29, go_sem, r0, r1, c0, c1]; try rfl) rfl ?_
      refine ⟨⟨_, _, rfl, ?_, ?_⟩, ?_⟩
      · exact ownsLow (ownsRow_setCell_below (ownsRow_setCell_below o0 lr _) lr _) (by omega)
      · exact ownsLow (ownsRow_setCell_below (ownsRow_setCell_below o1 lr _) lr _) (by omega)
      · exact (hnx.setCell (by simp) _).setCell (by simp) _
end Go.Proofs.YtifhakoeinalaaaDoor

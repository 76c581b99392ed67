/-
  Laid together: SrtG, SrtH.
-/
import Derived.Test.YtnpaijmibkbhfaaG10
import Derived.Sort.LotB
import Derived.Test.YtnpaijmibkbhfaaSrtB
import Derived.Test.YtnpaijmibkbhfaaG9
import Derived.Test.YtnpaijmibkbhfaaSrtD
/-
  Plain mathematics of pdqsort's loop: what it keeps, from part to part.
-/
namespace Go.Proofs.Ytnpaijmibkbhfaa
open Go.RowKit
open Go.Sort (swp PermIn SortedIn SWO permIn_refl permIn_trans permIn_mono permIn_all sorted_glue)
set_option linter.unusedVariables false
set_option linter.unusedSimpArgs false
section
variable {lt : RT → RT → Bool}
/-- Of two elements one is less. -/
def Tot (lt : RT → RT → Bool) (d : ARow) : Prop := d.toList.Pairwise fun x y => lt x y = true ∨ lt y x = true
theorem perm_all {a b : Nat} {d d' : ARow} (h : PermIn a b d d') (hb : b ≤ d.size) : d'.toList.Perm d.toList := by
  have g := (permIn_mono d d' a b 0 d.size (Nat.zero_le _) hb (Nat.le_refl _) h).2.2
  have e : d'.extract 0 d.size = d' := by rw [← h.1]; exact Array.extract_size
  rwa [e, Array.extract_size] at g
theorem Tot.perm {a b : Nat} {d d' : ARow} (t : Tot lt d) (h : PermIn a b d d') (hb : b ≤ d.size) : Tot lt d' :=
  ((perm_all h hb).pairwise_iff (fun {x y} (e : lt x y = true ∨ lt y x = true) => e.symm)).2 t
theorem Tot.at {d : ARow} (t : Tot lt d) {i j : Nat} (hi : i < d.size) (hj : j < d.size) (hne : i ≠ j) : lt d[i]! d[j]! = true ∨ lt d[j]! d[i]! = true := by
  have g := List.pairwise_iff_getElem.1 t
  rw [getElem!_pos d i hi, getElem!_pos d j hj]
  rcases Nat.lt_or_gt_of_ne hne with c | c
  · have := g i j (by simpa using hi) (by simpa using hj) c
    simpa using this
  · have := g j i (by simpa using hj) (by simpa using hi) c
    simpa using this.symm
/-- Where the loop stands: the part [a, b) of [a0, b0) is still to be sorted. -/
structure Pq (lt : RT → RT → Bool) (a0 b0 : Nat) (d0 : ARow) (a b : Nat) (dk : ARow) : Prop where
  ha : a0 ≤ a
  hab : a ≤ b
  hb : b ≤ b0
  hs : b0 ≤ dk.size
  perm : PermIn a0 b0 d0 dk
  tot : Tot lt dk
  keys : a = 0 ∨ ∀ i, a ≤ i → i < b → lt dk[a - 1]! dk[i]! = true
  fin : ∀ d', PermIn a b dk d' → SortedIn lt a b d' → SortedIn lt a0 b0 d'
theorem Pq.start {a b : Nat} {d : ARow} (hab : a ≤ b) (hb : b ≤ d.size) (t : Tot lt d) (k : a = 0 ∨ ∀ i, a ≤ i → i < b → lt d[a - 1]! d[i]! = true) : Pq lt a b d a b d :=
  ⟨Nat.le_refl _, hab, Nat.le_refl _, hb, permIn_refl _ _ _, t, k, fun _ _ h => h⟩
theorem keys_perm {a b : Nat} {d d' : ARow} (h : a = 0 ∨ ∀ i, a ≤ i → i < b → lt d[a - 1]! d[i]! = true) (hb : b ≤ d.size) (hp : PermIn a b d d') : a = 0 ∨ ∀ i, a ≤ i → i < b → lt d'[a - 1]! d'[i]! = true := by
  rcases h with h | h
  · exact .inl h
  · rcases Nat.eq_zero_or_pos a with h0 | h0
    · exact .inl h0
    · refine .inr ?_
      rw [hp.2.1 (a - 1) (.inl (by omega))]
      exact permIn_all d d' a b (fun x => lt d[a - 1]! x = true) hb hp h
theorem Pq.permute {a0 b0 : Nat} {d0 : ARow} {a b : Nat} {dk d' : ARow} (P : Pq lt a0 b0 d0 a b dk) (h : PermIn a b dk d') : Pq lt a0 b0 d0 a b d' := by
  have hs := P.hs
  have hb := P.hb
  exact ⟨P.ha, P.hab, P.hb, by rw [h.1]; exact hs, permIn_trans _ _ _ _ _ P.perm (permIn_mono dk d' a b a0 b0 P.ha P.hb hs h), P.tot.perm h (by omega), keys_perm P.keys (by omega) h,
    fun d'' p s => P.fin _ (permIn_trans _ _ _ _ _ h p) s⟩
theorem Pq.below {a0 b0 : Nat} {d0 : ARow} {a b : Nat} {dk : ARow} (P : Pq lt a0 b0 d0 a b dk) (hO : SWO lt) : Go.Sort.Below lt a b dk := by
  rcases P.keys with h | h
  · exact .inl h
  · exact .inr fun i h1 h2 => hO.asymm (h i h1 h2)
theorem Pq.done {a0 b0 : Nat} {d0 : ARow} {a b : Nat} {dk d' : ARow} (P : Pq lt a0 b0 d0 a b dk) (h : PermIn a b dk d') (s : SortedIn lt a b d') : PermIn a0 b0 d0 d' ∧ SortedIn lt a0 b0 d' :=
  ⟨(P.permute h).perm, P.fin _ h s⟩
theorem Pq.behind {a0 b0 : Nat} {d0 : ARow} {a b m : Nat} {dk d4 d5 : ARow} (P : Pq lt a0 b0 d0 a b dk) (hO : SWO lt) (D : Prd lt a b dk m d4) (h : PermIn a m d4 d5) (s : SortedIn lt a m d5) : Pq lt a0 b0 d0 (m + 1) b d5 := by
  have P4 := P.permute D.perm
  have hs4 := P4.hs
  have hb := P.hb
  have am := D.am
  have mb := D.mb
  have h' : PermIn a b d4 d5 := permIn_mono d4 d5 a m a b (Nat.le_refl _) (by omega) (by omega) h
  have P5 := P4.permute h'
  have hs5 := P5.hs
  have e5 : d5[m]! = d4[m]! := h.2.1 m (.inr (Nat.le_refl _))
  have low5 : ∀ i, a ≤ i → i < m → lt d5[i]! d4[m]! = true := permIn_all d4 d5 a m (fun x => lt x d4[m]! = true) (by omega) h D.low
  have high5 : ∀ i, m + 1 ≤ i → i < b → lt d5[i]! d4[m]! = false := fun i h1 h2 => by rw [h.2.1 i (.inr (by omega))]; exact D.high i (by omega) h2
  refine ⟨by have := P.ha; omega, by omega, hb, hs5, P5.perm, P5.tot, .inr fun i h1 h2 => ?_, fun d' p q => ?_⟩
  · rw [Nat.add_sub_cancel, e5]
    rcases P5.tot.at (i := m) (j := i) (by omega) (by omega) (by omega) with g | g
    · rwa [e5] at g
    · rw [e5, high5 i h1 h2] at g; cases g
  · have p' : PermIn a b d5 d' := permIn_mono d5 d' (m + 1) b a b (by omega) (Nat.le_refl _) (by omega) p
    refine P5.fin _ p' ?_
    have e6 : ∀ i, i < m + 1 → d'[i]! = d5[i]! := fun i hi => p.2.1 i (.inl hi)
    refine sorted_glue hO (mid := m) (fun i j hi hij hj => by rw [e6 i (by omega), e6 j (by omega)]; exact s i j hi hij hj) q (fun i h1 h2 => by rw [e6 i (by omega), e6 m (by omega), e5]; exact low5 i h1 h2) (fun i h1 h2 => ?_)
    rw [e6 m (by omega), e5]
    exact permIn_all d5 d' (m + 1) b (fun x => lt x d4[m]! = false) (by omega) p high5 i (by omega) h2
theorem Pq.ahead {a0 b0 : Nat} {d0 : ARow} {a b m : Nat} {dk d4 d5 : ARow} (P : Pq lt a0 b0 d0 a b dk) (hO : SWO lt) (D : Prd lt a b dk m d4) (h : PermIn (m + 1) b d4 d5) (s : SortedIn lt (m + 1) b d5) : Pq lt a0 b0 d0 a m d5 := by
  have P4 := P.permute D.perm
  have hs4 := P4.hs
  have hb := P.hb
  have am := D.am
  have mb := D.mb
  have h' : PermIn a b d4 d5 := permIn_mono d4 d5 (m + 1) b a b (by omega) (Nat.le_refl _) (by omega) h
  have P5 := P4.permute h'
  have hs5 := P5.hs
  have e5 : ∀ i, i < m + 1 → d5[i]! = d4[i]! := fun i hi => h.2.1 i (.inl hi)
  have high5 : ∀ i, m + 1 ≤ i → i < b → lt d5[i]! d4[m]! = false := permIn_all d4 d5 (m + 1) b (fun x => lt x d4[m]! = false) (by omega) h fun i h1 h2 => D.high i (by omega) h2
  refine ⟨P.ha, am, by omega, hs5, P5.perm, P5.tot, P5.keys.imp id fun g i h1 h2 => g i h1 (by omega), fun d' p q => ?_⟩
  have p' : PermIn a b d5 d' := permIn_mono d5 d' a m a b (Nat.le_refl _) (by omega) (by omega) p
  refine P5.fin _ p' ?_
  have e6 : ∀ i, m ≤ i → d'[i]! = d5[i]! := fun i hi => p.2.1 i (.inr hi)
  refine sorted_glue hO (mid := m) q (fun i j hi hij hj => by rw [e6 i (by omega), e6 j (by omega)]; exact s i j hi hij hj) (fun i h1 h2 => ?_) (fun i h1 h2 => by rw [e6 i (by omega), e6 m (Nat.le_refl _), e5 m (by omega)]; exact high5 i (by omega) h2)
  rw [e6 m (Nat.le_refl _), e5 m (by omega)]
  exact permIn_all d5 d' a m (fun x => lt x d4[m]! = true) (by omega) p (fun i h1 h2 => by rw [e5 i (by omega)]; exact D.low i h1 h2) i h1 h2
end
end Go.Proofs.Ytnpaijmibkbhfaa
/-
  sort.pdqsort_func: the range is permuted and sorted.
-/
namespace Go.Proofs.Ytnpaijmibkbhfaa
open Go.RowKit
open Go.Sort (swp PermIn SortedIn SWO)
set_option linter.unusedVariables false
set_option linter.unusedSimpArgs false
set_option maxHeartbeats 16000000 in
set_option maxRecDepth 100000 in
theorem pdq_calls {g sf : Nat} {lb sb : Array Value} {lt : RT → RT → Bool} {n : Nat} {S : Nat → Prop} {N0 : Nat} {Q : ARow → World → Prop} (K : Sorter g sf lb sb lt n S N0 Q) (hO : SWO lt) (hsz : n ≤ 1000) :
    ∀ (N a0 b0 lim0 : Nat) (d : ARow) (w : World), b0 - a0 < N → Q d w → a0 ≤ b0 → b0 ≤ n → lim0 ≤ 100 → Tot lt d → (a0 = 0 ∨ ∀ i, a0 ≤ i → i < b0 → lt d[a0 - 1]! d[i]! = true) →
    Calls Try.prog 99 #[lsV g sf lb sb, .int .i64 a0, .int .i64 b0, .int .i64 lim0] w fun e w' => e = .returned (.tuple #[]) ∧ ∃ d', PermIn a0 b0 d d' ∧ SortedIn lt a0 b0 d' ∧ Q d' w' ∧ But S w w' := by
  intro N
  induction N with
  | zero => intro a0 b0 lim0 d w hN; omega
  | succ N ih =>
    intro a0 b0 lim0 d w hNN hq hab hb hl tot keys
    have hN := (K.size _ _ hq).2
    have hsd := (K.size _ _ hq).1
    have T0 := Lib.hid (K.start hq 147)
    have P0 := Lib.hid (Pq.start (lt := lt) hab (by rw [hsd]; exact hb) tot keys)
    have HK := Lib.hid K
    have eg := K.eg
    have IH := Lib.hid ih
    have SZ := Lib.hid (fun (d : ARow) (W : World) (q : Q d W) => (K.size d W q).1)
    clear K hq tot keys ih
    go_enter Try.func99, Try.ntmps99
    go_wp2
    go_loopw [1, 2, 3, 8, 9] (fun va vb vl v8 v9 wr => ∃ (a b lim : Nat) (wb wp : Bool) (dk : ARow), va = .int .i64 a ∧ vb = .int .i64 b ∧ vl = .int .i64 lim ∧ v8 = .bool wb ∧ v9 = .bool wp ∧ lim ≤ 100 ∧ Hid (Pq lt a0 b0 d a b dk) ∧ Hid (StW g sf lb sb S Q w w.heap.size dk wr)) (fun va vb _ _ _ _ => (intOf vb).toNat - (intOf va).toNat)
    case atStart => exact ⟨a0, b0, lim0, true, true, d, rfl, rfl, rfl, rfl, rfl, hl, P0, T0⟩
    case round =>
      clear P0 T0
      obtain ⟨a, b, lim, wb, wp, dk, rfl, rfl, rfl, rfl, rfl, hlim, PK, TK⟩ := hrel
      have ha1 := PK.out.ha
      have hab1 := PK.out.hab
      have hb1 := PK.out.hb
      have c0 := TK.out.c0
      have c1 := TK.out.c1
      by_cases h12 : b - a ≤ 12
      · have h12' : (b : Int) - (a : Int) ≤ 12 := by omega
        have C := insSort_calls HK.out a b dk wr TK.out.q hab1 (by omega) hsz
        go_wp2_with fail
        refine C.mono ?_
        rintro e w1 ⟨rfl, q1, b1⟩
        have PE := Go.Sort.insertionSort_holds (lt := lt) hO dk a b hab1 (by rw [SZ.out _ _ TK.out.q]; omega)
        have PD := PK.out.done PE.1 PE.2
        have T1 := HK.out.after TK.out hN q1 b1
        clear PE
        go_wp2
        (try simp only [Exit.inBlock, Exit.then]); refine bodyPost_ret (results_none rfl _ _ _) rfl ?_
        exact ⟨rfl, _, PD.1, PD.2, T1.q, T1.but⟩
      · have h12' : ¬ (b : Int) - (a : Int) ≤ 12 := by omega
        by_cases hl0 : lim = 0
        · have hl0' : ((lim : Int) == 0) = true := by simp [hl0]
          have C := heap_calls HK.out a b dk wr TK.out.q hab1 (by omega) hsz
          go_wp2_with fail
          refine C.mono ?_
          rintro e w1 ⟨rfl, q1, b1⟩
          have PE := Go.Sort.heapSort_holds (lt := lt) hO dk a b hab1 (by rw [SZ.out _ _ TK.out.q]; omega)
          have PD := PK.out.done PE.1 PE.2
          have T1 := HK.out.after TK.out hN q1 b1
          clear PE
          go_wp2
          (try simp only [Exit.inBlock, Exit.then]); refine bodyPost_ret (results_none rfl _ _ _) rfl ?_
          exact ⟨rfl, _, PD.1, PD.2, T1.q, T1.but⟩
        · have hl0' : ((lim : Int) == 0) = false := by simp; omega
          go_upto_if 35 with fail
          go_cut [3] from 35 to 41 (fun s3 wx => ∃ (lm : Nat) (dk : ARow), s3 = .int .i64 lm ∧ lm ≤ 100 ∧ Hid (Pq lt a0 b0 d a b dk) ∧ Hid (StW g sf lb sb S Q w w.heap.size dk wx))
          case first =>
            cases wb with
            | true =>
              go_wp2
              go_meet
              exact ⟨lim, dk, rfl, hlim, PK, TK⟩
            | false =>
              have C := break_calls HK.out a b dk wr TK.out.q (by omega) (by omega) hsz
              go_wp2_with fail
              refine C.mono ?_
              rintro e w1 ⟨rfl, d1, p1, q1, b1⟩
              have T1 := Lib.hid (HK.out.after TK.out hN q1 b1)
              have P1 := Lib.hid (PK.out.permute p1)
              clear q1 b1 p1 C
              go_wp2
              go_meet
              exact ⟨lim - 1, d1, by congr 1; omega, by omega, P1, T1⟩
          case rest =>
            clear PK TK c0 c1 hlim hl0 hl0'
            obtain ⟨lm, dk, rfl, hlim, PK, TK⟩ := hcut
            have c0 := TK.out.c0
            have c1 := TK.out.c1
            have C := pivot_calls HK.out a b dk wc TK.out.q (by omega) (by omega) hsz
            go_wp2_with fail
            refine C.mono ?_
            rintro e w1 ⟨p, h, rfl, hp1, hp2, q1, b1⟩
            have T1 := Lib.hid (HK.out.below TK.out b1)
            have c0 := T1.out.c0
            have c1 := T1.out.c1
            clear q1 b1 TK C
            go_upto_if 50 with fail
            go_cut [11, 12] from 50 to 60 (fun s11 s12 wx => ∃ (p : Nat) (h : Int) (dk : ARow), s11 = .int .i64 p ∧ s12 = .int .i64 h ∧ a ≤ p ∧ p < b ∧ Hid (Pq lt a0 b0 d a b dk) ∧ Hid (StW g sf lb sb S Q w w.heap.size dk wx))
            case first =>
              by_cases h2 : h = 2
              · subst h2
                have C := reverse_calls HK.out a b dk w1 T1.out.q (by omega) (by omega) hsz
                go_wp2_with fail
                refine C.mono ?_
                rintro e w2 ⟨rfl, d1, p1, q1, b1⟩
                have T2 := Lib.hid (HK.out.after T1.out hN q1 b1)
                have P1 := Lib.hid (PK.out.permute p1)
                clear q1 b1 p1 C T1 PK
                go_wp2
                go_meet
                exact ⟨(b - 1) - (p - a), 1, d1, by congr 1; omega, rfl, by omega, by omega, P1, T2⟩
              · have h2z : (h == 2) = false := by simpa using h2
                go_wp2
                go_meet
                exact ⟨p, h, dk, rfl, rfl, hp1, hp2, PK, T1⟩
            case rest =>
              clear PK T1 c0 c1 hp1 hp2
              obtain ⟨p, h, dk, rfl, rfl, hp1, hp2, PK, TK⟩ := hcut
              have c0 := TK.out.c0
              have c1 := TK.out.c1
              go_upto_region 16 with fail
              go_cut [68] from 61 to 68 (fun s68 wx => (∃ q : Bool, s68 = .bool q) ∧ Hid (StW g sf lb sb S Q w w.heap.size dk wx))
              case first =>
                cases wb <;> cases wp <;> by_cases h1 : h = 1
                all_goals
                  first
                    | (subst h1; go_wp2; go_meet; exact ⟨⟨_, rfl⟩, TK⟩)
                    | (have h1z : (h == 1) = false := by simpa using h1
                       go_wp2; go_meet; exact ⟨⟨_, rfl⟩, TK⟩)
              case rest =>
                clear TK c0 c1
                obtain ⟨⟨q, rfl⟩, TK⟩ := hcut
                have c0 := TK.out.c0
                have c1 := TK.out.c1
                go_upto_if 68 with fail
                go_cut [] from 69 to 72 (fun wx => ∃ dk : ARow, Hid (Pq lt a0 b0 d a b dk) ∧ Hid (StW g sf lb sb S Q w w.heap.size dk wx))
                case first =>
                  cases q with
                  | false =>
                    go_wp2
                    go_meet
                    exact ⟨dk, PK, TK⟩
                  | true =>
                    have C := pins_calls HK.out a b dk wc TK.out.q (by omega) (by omega) hsz
                    have PE := Lib.hid (Go.Sort.partialInsertionSort_holds (lt := lt) hO dk a b (by omega) (by rw [SZ.out _ _ TK.out.q]; omega) (PK.out.below hO))
                    go_wp2_with fail
                    refine C.mono ?_
                    rintro e w2 ⟨rfl, q1, b1⟩
                    have T2 := Lib.hid (HK.out.after TK.out hN q1 b1)
                    generalize hr : Go.Sort.partialInsertionSort lt dk a b = R at q1 T2 PE
                    obtain ⟨d1, fl⟩ := R
                    clear q1 b1 C TK
                    cases fl with
                    | true =>
                      have PD := PK.out.done PE.out.1 (PE.out.2 rfl)
                      go_wp2
                      (try simp only [Exit.inBlock, Exit.then]); refine bodyPost_ret (results_none rfl _ _ _) rfl ?_
                      exact ⟨rfl, _, PD.1, PD.2, T2.out.q, T2.out.but⟩
                    | false =>
                      have P1 := Lib.hid (PK.out.permute PE.out.1)
                      go_wp2
                      go_meet
                      exact ⟨d1, P1, T2⟩
                case rest =>
                  clear PK TK c0 c1
                  obtain ⟨dk, PK, TK⟩ := hcut
                  have c0 := TK.out.c0
                  have c1 := TK.out.c1
                  go_upto_region 18 with fail
                  go_cut [83] from 73 to 83 (fun s83 wx => s83 = .bool false ∧ Hid (StW g sf lb sb S Q w w.heap.size dk wx))
                  case first =>
                    by_cases ha0 : a = 0
                    · subst ha0
                      have hz : ¬ (0 : Int) < ((0 : Nat) : Int) := by omega
                      go_wp2
                      go_meet
                      exact ⟨rfl, TK⟩
                    · have hz : (0 : Int) < (a : Int) := by omega
                      have hk : lt dk[a - 1]! dk[p]! = true := by
                        rcases PK.out.keys with e | e
                        · exact absurd e ha0
                        · exact e p hp1 hp2
                      have hl := HK.out.lessAt TK.out (i := a - 1) (j := p) (by omega) (by omega)
                      rw [hk, show ((a - 1 : Nat) : Int) = (a : Int) - 1 by omega] at hl
                      go_wp2_with (go_at_fn g; refine hl.mono ?_; rintro e w' ⟨rfl, T1⟩)
                      go_meet
                      exact ⟨rfl, Lib.hid T1⟩
                  case rest =>
                    clear TK c0 c1
                    obtain ⟨rfl, TK⟩ := hcut
                    have c0 := TK.out.c0
                    have c1 := TK.out.c1
                    have C := part_calls HK.out a b p dk wc TK.out.q (by omega) (by omega) hsz hp1 hp2
                    obtain ⟨q8, hq8⟩ : ∃ q8 : Int, IntKind.i64.wrap (((b : Int) - (a : Int)).tdiv 8) = q8 := ⟨_, rfl⟩
                    go_wp2_with fail
                    refine C.mono ?_
                    rintro e w2 ⟨m, q, d4, rfl, D, q1, b1⟩
                    have T2 := Lib.hid (HK.out.after TK.out hN q1 b1)
                    have c0 := T2.out.c0
                    have c1 := T2.out.c1
                    have am := D.am
                    have mb := D.mb
                    have t4 := (PK.out.permute D.perm)
                    have DD := Lib.hid D
                    clear q1 b1 C TK D
                    by_cases hlr : m - a < b - m
                    · have hlr' : (m : Int) - (a : Int) < (b : Int) - (m : Int) := by omega
                      have CI := IH.out a m lm d4 w2 (by omega) T2.out.q am (by omega) hlim t4.tot (t4.keys.imp id fun g i h1 h2 => g i h1 (by omega))
                      clear t4
                      go_wp2_with fail
                      refine CI.mono ?_
                      rintro e w3 ⟨rfl, d5, p5, s5, q1, b1⟩
                      have T3 := Lib.hid (HK.out.after T2.out hN q1 b1)
                      have P5 := Lib.hid (PK.out.behind hO DD.out p5 s5)
                      clear q1 b1 CI p5 s5
                      go_wp2
                      go_roundw
                      case rel => exact ⟨m + 1, b, lm, _, q, d5, by go_num, rfl, rfl, rfl, rfl, hlim, P5, T3⟩
                      case measure => simp [intOf]; omega
                    · have hlr' : ¬ (m : Int) - (a : Int) < (b : Int) - (m : Int) := by omega
                      have kr : m + 1 = 0 ∨ ∀ i, m + 1 ≤ i → i < b → lt d4[m + 1 - 1]! d4[i]! = true := .inr fun i h1 h2 => by
                        have hs4 := t4.hs
                        rw [Nat.add_sub_cancel]
                        rcases t4.tot.at (i := m) (j := i) (by omega) (by omega) (by omega) with g | g
                        · exact g
                        · rw [DD.out.high i (by omega) h2] at g; cases g
                      have CI := IH.out (m + 1) b lm d4 w2 (by omega) T2.out.q (by omega) (by omega) hlim t4.tot kr
                      rw [show ((m + 1 : Nat) : Int) = (m : Int) + 1 by omega] at CI
                      clear t4 kr
                      go_wp2_with fail
                      refine CI.mono ?_
                      rintro e w3 ⟨rfl, d5, p5, s5, q1, b1⟩
                      have T3 := Lib.hid (HK.out.after T2.out hN q1 b1)
                      have P5 := Lib.hid (PK.out.ahead hO DD.out p5 s5)
                      clear q1 b1 CI p5 s5
                      go_wp2
                      go_roundw
                      case rel => exact ⟨a, m, lm, _, q, d5, rfl, rfl, rfl, rfl, rfl, hlim, P5, T3⟩
                      case measure => simp [intOf]; omega
end Go.Proofs.Ytnpaijmibkbhfaa

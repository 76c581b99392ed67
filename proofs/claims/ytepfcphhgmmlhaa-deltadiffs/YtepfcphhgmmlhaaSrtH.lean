/-
  sort.pdqsort_func: the range is permuted and sorted.
-/
import Derived.Test.YtepfcphhgmmlhaaSrtB
import Derived.Test.YtepfcphhgmmlhaaSrtC
import Derived.Test.YtepfcphhgmmlhaaSrtD
import Derived.Test.YtepfcphhgmmlhaaSrtF
import Derived.Test.YtepfcphhgmmlhaaSrtG
namespace Go.Proofs.Ytepfcphhgmmlhaa
open Go.RowKit
open Go.Sort (swp PermIn SortedIn SWO)
set_option linter.unusedVariables false
set_option linter.unusedSimpArgs false
set_option maxHeartbeats 16000000 in
set_option maxRecDepth 100000 in
theorem pdq_calls {g sf : Nat} {lb sb : Array Value} {lt : RT → RT → Bool} {n : Nat} {S : Nat → Prop} {N0 : Nat} {Q : ARow → World → Prop} (K : Sorter g sf lb sb lt n S N0 Q) (hO : SWO lt) (hsz : n ≤ 1000) :
    ∀ (N a0 b0 lim0 : Nat) (d : ARow) (w : World), b0 - a0 < N → Q d w → a0 ≤ b0 → b0 ≤ n → lim0 ≤ 100 → Tot lt d → (a0 = 0 ∨ ∀ i, a0 ≤ i → i < b0 → lt d[a0 - 1]! d[i]! = true) →
    Calls Try.prog 76 #[lsV g sf lb sb, .int .i64 a0, .int .i64 b0, .int .i64 lim0] w fun e w' => e = .returned (.tuple #[]) ∧ ∃ d', PermIn a0 b0 d d' ∧ SortedIn lt a0 b0 d' ∧ Q d' w' ∧ But S w w' := by
  intro N
  induction N with
  | zero => intro a0 b0 lim0 d w hN; omega
  | succ N ih =>
    intro a0 b0 lim0 d w hNN hq hab hb hl tot keys
    have hN := (K.size _ _ hq).2
    have hsd := (K.size _ _ hq).1
    have T0 := Lib.hid (K.start hq 128)
    have P0 := Lib.hid (Pq.start (lt := lt) hab (by rw [hsd]; exact hb) tot keys)
    have HK := Lib.hid K
    have eg := K.eg
    have IH := Lib.hid ih
    have SZ := Lib.hid (fun (d : ARow) (W : World) (q : Q d W) => (K.size d W q).1)
    clear K hq tot keys ih
    go_enter Try.func76, Try.ntmps76
    go_wp2
    go_loopw [1, 2, 3, 8, 9] (fun va vb vl v8 v9 wr => ∃ (a b lim : Nat) (wb wp : Bool) (dk : ARow), va = .int .i64 a ∧ vb = .int .i64 b ∧ vl = .int .i64 lim ∧ v8 = .bool wb ∧ v9 = .bool wp ∧ lim ≤ 100 ∧ Hid (Pq lt a0 b0 d a b dk) ∧ Hid (StW g sf lb sb S Q w w.heap.size dk wr)) (fun va vb _ _ _ _ => (intOf vb).toNat - (intOf va).toNat)
    case atStart => exact ⟨a0, b0, lim0, true, true, d, rfl, rfl, rfl, rfl, rfl, hl, P0, T0⟩
    case round =>
      clear P0 T0
      obtain ⟨a, b, lim, wb, wp, dk, rfl, rfl, rfl, rfl, rfl, hlim, PK, TK⟩ := hrel
      have ha1 := PK.out.ha
      have hab1 := PK.out.hab
      have hb1 := PK.out.hb
      have c0 := TK.out.c0
      have c1 := TK.out.c1
      by_cases h12 : b - a ≤ 12
      · have h12' : (b : Int) - (a : Int) ≤ 12 := by omega
        have C := insSort_calls HK.out a b dk wr TK.out.q hab1 (by omega) hsz
        go_wp2_with fail
        refine C.mono ?_
        rintro e w1 ⟨rfl, q1, b1⟩
        have PE := Go.Sort.insertionSort_holds (lt := lt) hO dk a b hab1 (by rw [SZ.out _ _ TK.out.q]; omega)
        have PD := PK.out.done PE.1 PE.2
        have T1 := HK.out.after TK.out hN q1 b1
        clear PE
        go_wp2
        (try simp only [Exit.inBlock, Exit.then]); refine bodyPost_ret (results_none rfl _ _ _) rfl ?_
        exact ⟨rfl, _, PD.1, PD.2, T1.q, T1.but⟩
      · have h12' : ¬ (b : Int) - (a : Int) ≤ 12 := by omega
        by_cases hl0 : lim = 0
        · have hl0' : ((lim : Int) == 0) = true := by simp [hl0]
          have C := heap_calls HK.out a b dk wr TK.out.q hab1 (by omega) hsz
          go_wp2_with fail
          refine C.mono ?_
          rintro e w1 ⟨rfl, q1, b1⟩
          have PE := Go.Sort.heapSort_holds (lt := lt) hO dk a b hab1 (by rw [SZ.out _ _ TK.out.q]; omega)
          have PD := PK.out.done PE.1 PE.2
          have T1 := HK.out.after TK.out hN q1 b1
          clear PE
          go_wp2
          (try simp only [Exit.inBlock, Exit.then]); refine bodyPost_ret (results_none rfl _ _ _) rfl ?_
          exact ⟨rfl, _, PD.1, PD.2, T1.q, T1.but⟩
        · have hl0' : ((lim : Int) == 0) = false := by simp; omega
          go_upto_if 35 with fail
          go_cut [3] from 35 to 41 (fun s3 wx => ∃ (lm : Nat) (dk : ARow), s3 = .int .i64 lm ∧ lm ≤ 100 ∧ Hid (Pq lt a0 b0 d a b dk) ∧ Hid (StW g sf lb sb S Q w w.heap.size dk wx))
          case first =>
            cases wb with
            | true =>
              go_wp2
              go_meet
              exact ⟨lim, dk, rfl, hlim, PK, TK⟩
            | false =>
              have C := break_calls HK.out a b dk wr TK.out.q (by omega) (by omega) hsz
              go_wp2_with fail
              refine C.mono ?_
              rintro e w1 ⟨rfl, d1, p1, q1, b1⟩
              have T1 := Lib.hid (HK.out.after TK.out hN q1 b1)
              have P1 := Lib.hid (PK.out.permute p1)
              clear q1 b1 p1 C
              go_wp2
              go_meet
              exact ⟨lim - 1, d1, by congr 1; omega, by omega, P1, T1⟩
          case rest =>
            clear PK TK c0 c1 hlim hl0 hl0'
            obtain ⟨lm, dk, rfl, hlim, PK, TK⟩ := hcut
            have c0 := TK.out.c0
            have c1 := TK.out.c1
            have C := pivot_calls HK.out a b dk wc TK.out.q (by omega) (by omega) hsz
            go_wp2_with fail
            refine C.mono ?_
            rintro e w1 ⟨p, h, rfl, hp1, hp2, q1, b1⟩
            have T1 := Lib.hid (HK.out.below TK.out b1)
            have c0 := T1.out.c0
            have c1 := T1.out.c1
            clear q1 b1 TK C
            go_upto_if 50 with fail
            go_cut [11, 12] from 50 to 60 (fun s11 s12 wx => ∃ (p : Nat) (h : Int) (dk : ARow), s11 = .int .i64 p ∧ s12 = .int .i64 h ∧ a ≤ p ∧ p < b ∧ Hid (Pq lt a0 b0 d a b dk) ∧ Hid (StW g sf lb sb S Q w w.heap.size dk wx))
            case first =>
              by_cases h2 : h = 2
              · subst h2
                have C := reverse_calls HK.out a b dk w1 T1.out.q (by omega) (by omega) hsz
                go_wp2_with fail
                refine C.mono ?_
                rintro e w2 ⟨rfl, d1, p1, q1, b1⟩
                have T2 := Lib.hid (HK.out.after T1.out hN q1 b1)
                have P1 := Lib.hid (PK.out.permute p1)
                clear q1 b1 p1 C T1 PK
                go_wp2
                go_meet
                exact ⟨(b - 1) - (p - a), 1, d1, by congr 1; omega, rfl, by omega, by omega, P1, T2⟩
              · have h2z : (h == 2) = false := by simpa using h2
                go_wp2
                go_meet
                exact ⟨p, h, dk, rfl, rfl, hp1, hp2, PK, T1⟩
            case rest =>
              clear PK T1 c0 c1 hp1 hp2
              obtain ⟨p, h, dk, rfl, rfl, hp1, hp2, PK, TK⟩ := hcut
              have c0 := TK.out.c0
              have c1 := TK.out.c1
              go_upto_region 16 with fail
              go_cut [68] from 61 to 68 (fun s68 wx => (∃ q : Bool, s68 = .bool q) ∧ Hid (StW g sf lb sb S Q w w.heap.size dk wx))
              case first =>
                cases wb <;> cases wp <;> by_cases h1 : h = 1
                all_goals
                  first
                    | (subst h1; go_wp2; go_meet; exact ⟨⟨_, rfl⟩, TK⟩)
                    | (have h1z : (h == 1) = false := by simpa using h1
                       go_wp2; go_meet; exact ⟨⟨_, rfl⟩, TK⟩)
              case rest =>
                clear TK c0 c1
                obtain ⟨⟨q, rfl⟩, TK⟩ := hcut
                have c0 := TK.out.c0
                have c1 := TK.out.c1
                go_upto_if 68 with fail
                go_cut [] from 69 to 72 (fun wx => ∃ dk : ARow, Hid (Pq lt a0 b0 d a b dk) ∧ Hid (StW g sf lb sb S Q w w.heap.size dk wx))
                case first =>
                  cases q with
                  | false =>
                    go_wp2
                    go_meet
                    exact ⟨dk, PK, TK⟩
                  | true =>
                    have C := pins_calls HK.out a b dk wc TK.out.q (by omega) (by omega) hsz
                    have PE := Lib.hid (Go.Sort.partialInsertionSort_holds (lt := lt) hO dk a b (by omega) (by rw [SZ.out _ _ TK.out.q]; omega) (PK.out.below hO))
                    go_wp2_with fail
                    refine C.mono ?_
                    rintro e w2 ⟨rfl, q1, b1⟩
                    have T2 := Lib.hid (HK.out.after TK.out hN q1 b1)
                    generalize hr : Go.Sort.partialInsertionSort lt dk a b = R at q1 T2 PE
                    obtain ⟨d1, fl⟩ := R
                    clear q1 b1 C TK
                    cases fl with
                    | true =>
                      have PD := PK.out.done PE.out.1 (PE.out.2 rfl)
                      go_wp2
                      (try simp only [Exit.inBlock, Exit.then]); refine bodyPost_ret (results_none rfl _ _ _) rfl ?_
                      exact ⟨rfl, _, PD.1, PD.2, T2.out.q, T2.out.but⟩
                    | false =>
                      have P1 := Lib.hid (PK.out.permute PE.out.1)
                      go_wp2
                      go_meet
                      exact ⟨d1, P1, T2⟩
                case rest =>
                  clear PK TK c0 c1
                  obtain ⟨dk, PK, TK⟩ := hcut
                  have c0 := TK.out.c0
                  have c1 := TK.out.c1
                  go_upto_region 18 with fail
                  go_cut [83] from 73 to 83 (fun s83 wx => s83 = .bool false ∧ Hid (StW g sf lb sb S Q w w.heap.size dk wx))
                  case first =>
                    by_cases ha0 : a = 0
                    · subst ha0
                      have hz : ¬ (0 : Int) < ((0 : Nat) : Int) := by omega
                      go_wp2
                      go_meet
                      exact ⟨rfl, TK⟩
                    · have hz : (0 : Int) < (a : Int) := by omega
                      have hk : lt dk[a - 1]! dk[p]! = true := by
                        rcases PK.out.keys with e | e
                        · exact absurd e ha0
                        · exact e p hp1 hp2
                      have hl := HK.out.lessAt TK.out (i := a - 1) (j := p) (by omega) (by omega)
                      rw [hk, show ((a - 1 : Nat) : Int) = (a : Int) - 1 by omega] at hl
                      go_wp2_with (go_at_fn g; refine hl.mono ?_; rintro e w' ⟨rfl, T1⟩)
                      go_meet
                      exact ⟨rfl, Lib.hid T1⟩
                  case rest =>
                    clear TK c0 c1
                    obtain ⟨rfl, TK⟩ := hcut
                    have c0 := TK.out.c0
                    have c1 := TK.out.c1
                    have C := part_calls HK.out a b p dk wc TK.out.q (by omega) (by omega) hsz hp1 hp2
                    obtain ⟨q8, hq8⟩ : ∃ q8 : Int, IntKind.i64.wrap (((b : Int) - (a : Int)).tdiv 8) = q8 := ⟨_, rfl⟩
                    go_wp2_with fail
                    refine C.mono ?_
                    rintro e w2 ⟨m, q, d4, rfl, D, q1, b1⟩
                    have T2 := Lib.hid (HK.out.after TK.out hN q1 b1)
                    have c0 := T2.out.c0
                    have c1 := T2.out.c1
                    have am := D.am
                    have mb := D.mb
                    have t4 := (PK.out.permute D.perm)
                    have DD := Lib.hid D
                    clear q1 b1 C TK D
                    by_cases hlr : m - a < b - m
                    · have hlr' : (m : Int) - (a : Int) < (b : Int) - (m : Int) := by omega
                      have CI := IH.out a m lm d4 w2 (by omega) T2.out.q am (by omega) hlim t4.tot (t4.keys.imp id fun g i h1 h2 => g i h1 (by omega))
                      clear t4
                      go_wp2_with fail
                      refine CI.mono ?_
                      rintro e w3 ⟨rfl, d5, p5, s5, q1, b1⟩
                      have T3 := Lib.hid (HK.out.after T2.out hN q1 b1)
                      have P5 := Lib.hid (PK.out.behind hO DD.out p5 s5)
                      clear q1 b1 CI p5 s5
                      go_wp2
                      go_roundw
                      case rel => exact ⟨m + 1, b, lm, _, q, d5, by go_num, rfl, rfl, rfl, rfl, hlim, P5, T3⟩
                      case measure => simp [intOf]; omega
                    · have hlr' : ¬ (m : Int) - (a : Int) < (b : Int) - (m : Int) := by omega
                      have kr : m + 1 = 0 ∨ ∀ i, m + 1 ≤ i → i < b → lt d4[m + 1 - 1]! d4[i]! = true := .inr fun i h1 h2 => by
                        have hs4 := t4.hs
                        rw [Nat.add_sub_cancel]
                        rcases t4.tot.at (i := m) (j := i) (by omega) (by omega) (by omega) with g | g
                        · exact g
                        · rw [DD.out.high i (by omega) h2] at g; cases g
                      have CI := IH.out (m + 1) b lm d4 w2 (by omega) T2.out.q (by omega) (by omega) hlim t4.tot kr
                      rw [show ((m + 1 : Nat) : Int) = (m : Int) + 1 by omega] at CI
                      clear t4 kr
                      go_wp2_with fail
                      refine CI.mono ?_
                      rintro e w3 ⟨rfl, d5, p5, s5, q1, b1⟩
                      have T3 := Lib.hid (HK.out.after T2.out hN q1 b1)
                      have P5 := Lib.hid (PK.out.ahead hO DD.out p5 s5)
                      clear q1 b1 CI p5 s5
                      go_wp2
                      go_roundw
                      case rel => exact ⟨a, m, lm, _, q, d5, rfl, rfl, rfl, rfl, rfl, hlim, P5, T3⟩
                      case measure => simp [intOf]; omega
end Go.Proofs.Ytepfcphhgmmlhaa

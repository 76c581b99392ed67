/-
  Laid together: SrtF, SrtE.
-/
import Derived.Test.YtnpaijmibkbhfaaG9
import Derived.Sort.LotD2
import Derived.Deep.LoopGhost
import Derived.Deep.CutRange
import Derived.Deep.DeepCutAuto
import Derived.Deep.CutBlock
/-
  sort.partialInsertionSort_func.
-/
namespace Go.Proofs.Ytnpaijmibkbhfaa
open Go.RowKit
open Go.Sort (swp scanSorted shiftDown shiftUp fixDown fixUp partialIns partialIns_succ partialInsertionSort)
set_option linter.unusedVariables false
set_option linter.unusedSimpArgs false
section
variable (lt : RT → RT → Bool)
theorem scan_go {d : ARow} {b i : Nat} (h : i < b) (hl : lt d[i]! d[i - 1]! = false) : scanSorted lt d b (i + 1) = scanSorted lt d b i := by
  conv => rhs; rw [scanSorted]
  rw [if_pos (by simp [h, hl])]
theorem scan_stop {d : ARow} {b i : Nat} (h : i < b → lt d[i]! d[i - 1]! = true) : scanSorted lt d b i = i := by
  rw [scanSorted]
  by_cases hi : i < b
  · rw [if_neg (by simp [h hi])]
  · rw [if_neg (by simp [hi])]
theorem dn_go {j : Nat} {d : ARow} (hj : 1 ≤ j) (hl : lt d[j]! d[j - 1]! = true) : shiftDown lt (j - 1) (swp d j (j - 1)) = shiftDown lt j d := by
  obtain ⟨k, rfl⟩ : ∃ k, j = k + 1 := ⟨j - 1, by omega⟩
  rw [Nat.add_sub_cancel] at hl ⊢
  conv => rhs; unfold shiftDown
  rw [if_neg (by simp [hl])]
theorem dn_stop {j : Nat} {d : ARow} (h : 1 ≤ j → lt d[j]! d[j - 1]! = false) : shiftDown lt j d = d := by
  cases j with
  | zero => unfold shiftDown; rfl
  | succ k =>
    have := h (by omega)
    rw [Nat.add_sub_cancel] at this
    unfold shiftDown
    rw [if_pos (by simp [this])]
theorem up_go {b j : Nat} {d : ARow} (hj : j < b) (hl : lt d[j]! d[j - 1]! = true) : shiftUp lt b (j + 1) (swp d j (j - 1)) = shiftUp lt b j d := by
  conv => rhs; rw [shiftUp]
  rw [if_pos hj, if_neg (by simp [hl])]
theorem up_stop {b j : Nat} {d : ARow} (h : j < b → lt d[j]! d[j - 1]! = false) : shiftUp lt b j d = d := by
  rw [shiftUp]
  by_cases hj : j < b
  · rw [if_pos hj, if_pos (by simp [h hj])]
  · rw [if_neg hj]
end
set_option maxHeartbeats 8000000 in
set_option maxRecDepth 100000 in
theorem pins_calls {g sf : Nat} {lb sb : Array Value} {lt : RT → RT → Bool} {n : Nat} {S : Nat → Prop} {N0 : Nat} {Q : ARow → World → Prop} (K : Sorter g sf lb sb lt n S N0 Q) (a b : Nat) (d : ARow) (w : World)
    (hq : Q d w) (hab : a < b) (hb : b ≤ n) (hsz : n ≤ 1000) :
    Calls Try.prog 131 #[lsV g sf lb sb, .int .i64 a, .int .i64 b] w fun e w' => e = .returned (.bool (partialInsertionSort lt d a b).2) ∧ Q (partialInsertionSort lt d a b).1 w' ∧ But S w w' := by
  have hN := (K.size _ _ hq).2
  have T0 := Lib.hid (K.start hq 147)
  have HK := Lib.hid K
  have eg := K.eg
  obtain ⟨RS, hRS⟩ : ∃ RS, partialInsertionSort lt d a b = RS := ⟨_, rfl⟩
  rw [hRS]
  have HR : Hid (partialIns lt a b 5 (a + 1) d = RS) := Lib.hid hRS
  clear K hq hRS
  go_enter Try.func131, Try.ntmps131
  go_wp2
  go_loopw [7, 8] (fun vi vj wr => ∃ (i t : Nat) (dk : ARow), vi = .int .i64 i ∧ vj = .int .i64 t ∧ t ≤ 5 ∧ a < i ∧ i ≤ b ∧ Hid (partialIns lt a b (5 - t) i dk = RS) ∧ Hid (StW g sf lb sb S Q w w.heap.size dk wr)) (fun _ vj _ => 5 - (intOf vj).toNat)
  case atStart => exact ⟨a + 1, 0, d, by go_num, rfl, by omega, by omega, by omega, HR, T0⟩
  case round =>
    clear HR T0
    obtain ⟨i, t, dk, rfl, rfl, ht5, hai, hib, HE, TK⟩ := hrel
    by_cases ht : t < 5
    · have ht' : (t : Int) < 5 := by omega
      go_wp2
      go_loopw [7] (fun vi wr => ∃ I : Nat, vi = .int .i64 I ∧ a < I ∧ I ≤ b ∧ Hid (scanSorted lt dk b I = scanSorted lt dk b i) ∧ Hid (StW g sf lb sb S Q w w.heap.size dk wr)) (fun vi _ => b + 1 - (intOf vi).toNat)
      case atStart => exact ⟨i, rfl, hai, hib, Lib.hid rfl, TK⟩
      case round =>
        clear TK
        obtain ⟨I, rfl, haI, hIb, HS, TK⟩ := hrel
        have c0 := TK.out.c0
        go_upto_region 5 with fail
        go_cut [28] from 17 to 30 (fun sc wx => ∃ q : Bool, sc = .bool q ∧ Hid (StW g sf lb sb S Q w w.heap.size dk wx) ∧ Hid ((q = true → I < b ∧ lt dk[I]! dk[I - 1]! = false) ∧ (q = false → I < b → lt dk[I]! dk[I - 1]! = true)))
        case first =>
          by_cases hlt : I < b
          · have hlt' : (I : Int) < (b : Int) := by omega
            have hl := HK.out.lessAt TK.out (i := I) (j := I - 1) (by omega) (by omega)
            rw [show ((I - 1 : Nat) : Int) = (I : Int) - 1 by omega] at hl
            go_wp2_with (go_at_fn g; refine hl.mono ?_; rintro e w' ⟨rfl, T1⟩)
            go_meet
            exact ⟨_, rfl, Lib.hid T1, Lib.hid ⟨fun h => ⟨hlt, by simpa using h⟩, fun h _ => by simpa using h⟩⟩
          · have hlt' : ¬ (I : Int) < (b : Int) := by omega
            go_wp2_with fail
            go_meet
            exact ⟨false, rfl, TK, Lib.hid ⟨fun h => (by cases h), fun _ h => absurd h hlt⟩⟩
        case rest =>
          obtain ⟨q, rfl, TC, HC⟩ := hcut
          clear TK c0
          cases q with
          | true =>
            have h1 := (HC.out.1 rfl).1
            have HS2 := Lib.hid ((scan_go lt (HC.out.1 rfl).1 (HC.out.1 rfl).2).trans HS.out)
            go_wp2
            go_roundw
            case rel => exact ⟨I + 1, by go_num, by omega, by omega, HS2, TC⟩
            case measure => simp [intOf]; omega
          | false =>
            have HI : Hid (scanSorted lt dk b i = I) := Lib.hid (HS.out.symm.trans (scan_stop lt (HC.out.2 rfl)))
            clear HS HC
            obtain ⟨s, hs5⟩ : ∃ s, 5 - t = s + 1 := ⟨4 - t, by omega⟩
            have HP := Lib.hid (show (if I = b then (dk, true) else if b - a < 50 then (dk, false) else partialIns lt a b s I (fixUp lt b I (fixDown lt a I (swp dk I (I - 1))))) = RS by
              have := HE.out; rw [hs5, partialIns_succ, HI.out] at this; exact this)
            clear HE
            have c1 := TC.out.c1
            by_cases hIe : I = b
            · have hIz : ((I : Int) == (b : Int)) = true := by simp [hIe]
              have HP2 : Hid ((dk, true) = RS) := Lib.hid (by have := HP.out; rwa [if_pos hIe] at this)
              go_wp2
              go_ret
              rw [← HP2.out]
              exact ⟨rfl, TC.out.q, TC.out.but⟩
            · have hIz : ((I : Int) == (b : Int)) = false := by simp; omega
              by_cases h50 : b - a < 50
              · have h50' : (b : Int) - (a : Int) < 50 := by omega
                have HP2 : Hid ((dk, false) = RS) := Lib.hid (by have := HP.out; rwa [if_neg hIe, if_pos h50] at this)
                go_wp2
                go_ret
                rw [← HP2.out]
                exact ⟨rfl, TC.out.q, TC.out.but⟩
              · have h50' : ¬ (b : Int) - (a : Int) < 50 := by omega
                have HP2 : Hid (partialIns lt a b s I (fixUp lt b I (fixDown lt a I (swp dk I (I - 1)))) = RS) := Lib.hid (by have := HP.out; rwa [if_neg hIe, if_neg h50] at this)
                clear HP
                obtain ⟨W', hs, T2⟩ := HK.out.swapAt TC.out hN (i := I) (j := I - 1) (by omega) (by omega)
                rw [show ((I - 1 : Nat) : Int) = (I : Int) - 1 by omega] at hs
                have T2' := Lib.hid T2
                clear T2 TC
                obtain ⟨d1, hd1⟩ : ∃ x, swp dk I (I - 1) = x := ⟨_, rfl⟩
                rw [hd1] at T2' HP2
                have hIl : I < b := by omega
                clear hd1
                go_upto_if 47 with fail
                clear h50 h50' hIe
                generalize hdec : decide ((2 : Int) ≤ (I : Int) - (a : Int)) = dq
                go_cut [] from 47 to 66 (fun wx => Hid (StW g sf lb sb S Q w w.heap.size (fixDown lt a I d1) wx))
                case first =>
                  have HF := Lib.hid (show fixDown lt a I d1 = if I - a ≥ 2 then shiftDown lt (I - 1) d1 else d1 from rfl)
                  cases dq with
                  | true =>
                    have h2' := of_decide_eq_true hdec
                    have h2 : I - a ≥ 2 := by omega
                    clear hdec
                    have HG : Hid (shiftDown lt (I - 1) d1 = fixDown lt a I d1) := Lib.hid (by rw [HF.out, if_pos h2])
                    go_wp2
                    go_loopw [9] (fun vj wr => ∃ (j : Nat) (dj : ARow), vj = .int .i64 j ∧ j ≤ I - 1 ∧ Hid (shiftDown lt j dj = fixDown lt a I d1) ∧ Hid (StW g sf lb sb S Q w w.heap.size dj wr)) (fun vj _ => (intOf vj).toNat)
                    case atStart => exact ⟨I - 1, d1, by congr 1; omega, Nat.le_refl _, HG, T2'⟩
                    case round =>
                      clear HG T2'
                      obtain ⟨j, dj, rfl, hjI, HG, TJ⟩ := hrel
                      have c0 := TJ.out.c0
                      by_cases hj1 : 1 ≤ j
                      · have hj1' : (1 : Int) ≤ (j : Int) := by omega
                        have hl := HK.out.lessAt TJ.out (i := j) (j := j - 1) (by omega) (by omega)
                        rw [show ((j - 1 : Nat) : Int) = (j : Int) - 1 by omega] at hl
                        cases hv : lt dj[j]! dj[j - 1]! with
                        | true =>
                          rw [hv] at hl
                          have HG2 := Lib.hid ((dn_go lt hj1 hv).trans HG.out)
                          go_wp2_with (go_at_fn g; refine hl.mono ?_; rintro e w' ⟨rfl, T1⟩; have c1 := T1.c1)
                          obtain ⟨W2, hs2, T3⟩ := HK.out.swapAt T1 hN (i := j) (j := j - 1) (by omega) (by omega)
                          rw [show ((j - 1 : Nat) : Int) = (j : Int) - 1 by omega] at hs2
                          have T3' := Lib.hid T3
                          rw [hs2, Oper.upon_value]
                          clear T3 T1
                          go_wp2
                          go_roundw
                          case rel => first | exact ⟨j - 1, _, by congr 1; omega, by omega, HG2, T3'⟩ | ((repeat apply Exists.intro); refine ⟨⟨j - 1, _, ?_, ?_, HG2, T3'⟩, rfl⟩ <;> first | omega | (congr 1; omega))
                          case measure => simp [intOf]; omega
                        | false =>
                          rw [hv] at hl
                          have HG2 : Hid (dj = fixDown lt a I d1) := Lib.hid ((dn_stop lt (fun _ => hv)).symm.trans HG.out)
                          go_wp2_with (go_at_fn g; refine hl.mono ?_; rintro e w' ⟨rfl, T1⟩)
                          go_meet
                          exact Lib.hid (by rw [← HG2.out]; exact T1)
                      · have hj1' : ¬ (1 : Int) ≤ (j : Int) := by omega
                        have HG2 : Hid (dj = fixDown lt a I d1) := Lib.hid ((dn_stop lt (fun h => absurd h hj1)).symm.trans HG.out)
                        go_wp2
                        go_meet
                        exact Lib.hid (by rw [← HG2.out]; exact TJ.out)
                  | false =>
                    have h2' := of_decide_eq_false hdec
                    have h2 : ¬ I - a ≥ 2 := by omega
                    clear hdec
                    go_wp2
                    go_meet
                    exact Lib.hid (by rw [HF.out, if_neg h2]; exact T2'.out)
                case rest =>
                  have TD := hcut
                  clear hcut T2' c1 hs
                  obtain ⟨d2, hd2⟩ : ∃ x, fixDown lt a I d1 = x := ⟨_, rfl⟩
                  rw [hd2] at TD HP2
                  clear hd2
                  have hst : s = 5 - (t + 1) := by omega
                  rw [hst] at HP2
                  clear hst hs5
                  have HF := Lib.hid (show fixUp lt b I d2 = if b - I ≥ 2 then shiftUp lt b (I + 1) d2 else d2 from rfl)
                  have fin : ∀ (d3 : ARow) (W : World), d3 = fixUp lt b I d2 → StW g sf lb sb S Q w w.heap.size d3 W → ∃ (i' t' : Nat) (dk' : ARow), Value.int .i64 (I : Int) = .int .i64 (i' : Nat) ∧ Value.int .i64 ((t : Int) + 1) = .int .i64 (t' : Nat) ∧ t' ≤ 5 ∧ a < i' ∧ i' ≤ b ∧ Hid (partialIns lt a b (5 - t') i' dk' = RS) ∧ Hid (StW g sf lb sb S Q w w.heap.size dk' W) := fun d3 W e T =>
                    ⟨I, t + 1, d3, rfl, by go_num, by omega, haI, hIb, Lib.hid (by rw [e]; exact HP2.out), Lib.hid T⟩
                  have FIN := Lib.hid fin
                  clear fin
                  by_cases h2 : b - I ≥ 2
                  · have h2' : (2 : Int) ≤ (b : Int) - (I : Int) := by omega
                    have HG : Hid (shiftUp lt b (I + 1) d2 = fixUp lt b I d2) := Lib.hid (by rw [HF.out, if_pos h2])
                    go_wp2
                    go_loopw [10] (fun vj wr => ∃ (j : Nat) (dj : ARow), vj = .int .i64 j ∧ I + 1 ≤ j ∧ j ≤ b ∧ Hid (shiftUp lt b j dj = fixUp lt b I d2) ∧ Hid (StW g sf lb sb S Q w w.heap.size dj wr)) (fun vj _ => b + 1 - (intOf vj).toNat)
                    case atStart => exact ⟨I + 1, d2, by go_num, Nat.le_refl _, by omega, HG, TD⟩
                    case round =>
                      clear HG TD
                      obtain ⟨j, dj, rfl, hjI, hjb, HG, TJ⟩ := hrel
                      have c0 := TJ.out.c0
                      by_cases hj1 : j < b
                      · have hj1' : (j : Int) < (b : Int) := by omega
                        have hl := HK.out.lessAt TJ.out (i := j) (j := j - 1) (by omega) (by omega)
                        rw [show ((j - 1 : Nat) : Int) = (j : Int) - 1 by omega] at hl
                        cases hv : lt dj[j]! dj[j - 1]! with
                        | true =>
                          rw [hv] at hl
                          have HG2 := Lib.hid ((up_go lt hj1 hv).trans HG.out)
                          go_wp2_with (go_at_fn g; refine hl.mono ?_; rintro e w' ⟨rfl, T1⟩; have c1 := T1.c1)
                          obtain ⟨W2, hs2, T3⟩ := HK.out.swapAt T1 hN (i := j) (j := j - 1) (by omega) (by omega)
                          rw [show ((j - 1 : Nat) : Int) = (j : Int) - 1 by omega] at hs2
                          have T3' := Lib.hid T3
                          rw [hs2, Oper.upon_value]
                          clear T3 T1
                          go_wp2
                          go_roundw
                          case rel => first | exact ⟨j + 1, _, by go_num, by omega, by omega, HG2, T3'⟩ | ((repeat apply Exists.intro); exact ⟨⟨by go_num, by omega, by omega, HG2, T3'⟩, rfl⟩)
                          case measure => simp [intOf]; omega
                        | false =>
                          rw [hv] at hl
                          have HG2 : Hid (dj = fixUp lt b I d2) := Lib.hid ((up_stop lt (fun _ => hv)).symm.trans HG.out)
                          go_wp2_with (go_at_fn g; refine hl.mono ?_; rintro e w' ⟨rfl, T1⟩)
                          go_roundw
                          case rel => exact FIN.out _ _ HG2.out T1
                          case measure => simp [intOf]; omega
                      · have hj1' : ¬ (j : Int) < (b : Int) := by omega
                        have HG2 : Hid (dj = fixUp lt b I d2) := Lib.hid ((up_stop lt (fun h => absurd h hj1)).symm.trans HG.out)
                        go_wp2
                        go_roundw
                        case rel => exact FIN.out _ _ HG2.out TJ.out
                        case measure => simp [intOf]; omega
                  · have h2' : ¬ (2 : Int) ≤ (b : Int) - (I : Int) := by omega
                    go_wp2
                    go_roundw
                    case rel => exact FIN.out _ _ (by rw [HF.out, if_neg h2]) TD.out
                    case measure => simp [intOf]; omega
    · have ht' : ¬ (t : Int) < 5 := by omega
      obtain rfl : t = 5 := by omega
      have HP2 : Hid ((dk, false) = RS) := HE
      go_wp2
      go_ret
      rw [← HP2.out]
      exact ⟨rfl, TK.out.q, TK.out.but⟩
end Go.Proofs.Ytnpaijmibkbhfaa
/-
  sort.partition_func.
-/
namespace Go.Proofs.Ytnpaijmibkbhfaa
open Go.RowKit
open Go.Sort (swp PermIn swp_permIn permIn_refl permIn_trans swp_get swp_size)
set_option linter.unusedVariables false
set_option linter.unusedSimpArgs false
theorem permIn_sw {a b i j : Nat} {d d' : ARow} (h : PermIn a b d d') (hb : b ≤ d.size) (i1 : a ≤ i) (i2 : i < b) (j1 : a ≤ j) (j2 : j < b) : PermIn a b d (swp d' i j) :=
  permIn_trans _ _ _ _ _ h (swp_permIn _ _ _ _ _ i1 i2 j1 j2 (by rw [h.1]; exact hb))
/-- While it is parted: what is less lies ahead of i, what is not behind j. -/
structure Prt (lt : RT → RT → Bool) (a b : Nat) (d : ARow) (i j : Nat) (dk : ARow) : Prop where
  perm : PermIn a b d dk
  ai : a < i
  jb : j < b
  ij : i ≤ j + 1
  low : ∀ k, a < k → k < i → lt dk[k]! dk[a]! = true
  high : ∀ k, j < k → k < b → lt dk[k]! dk[a]! = false
/-- What partition makes. -/
structure Prd (lt : RT → RT → Bool) (a b : Nat) (d : ARow) (m : Nat) (dk : ARow) : Prop where
  perm : PermIn a b d dk
  am : a ≤ m
  mb : m < b
  low : ∀ k, a ≤ k → k < m → lt dk[k]! dk[m]! = true
  high : ∀ k, m < k → k < b → lt dk[k]! dk[m]! = false
theorem Prt.up {lt : RT → RT → Bool} {a b i j : Nat} {d dk : ARow} (h : Prt lt a b d i j dk) (hij : i ≤ j) (hl : lt dk[i]! dk[a]! = true) : Prt lt a b d (i + 1) j dk :=
  ⟨h.perm, by have := h.ai; omega, h.jb, by omega, fun k h1 h2 => by
    by_cases e : k = i
    · subst e; exact hl
    · exact h.low k h1 (by omega), h.high⟩
theorem Prt.down {lt : RT → RT → Bool} {a b i j : Nat} {d dk : ARow} (h : Prt lt a b d i j dk) (hij : i ≤ j) (hl : lt dk[j]! dk[a]! = false) : Prt lt a b d i (j - 1) dk :=
  ⟨h.perm, h.ai, by have := h.jb; omega, by omega, h.low, fun k h1 h2 => by
    by_cases e : k = j
    · subst e; exact hl
    · exact h.high k (by omega) h2⟩
theorem Prt.ends {lt : RT → RT → Bool} {a b i j : Nat} {d dk : ARow} (h : Prt lt a b d i j dk) (hb : b ≤ d.size) (hij : j < i) : Prd lt a b d j (swp dk j a) := by
  have hs := h.perm.1
  have h1 := h.ai
  have h2 := h.jb
  have h3 := h.ij
  obtain rfl : i = j + 1 := by omega
  have g := fun k => swp_get dk (i := j) (j := a) (by omega) (by omega) k
  refine ⟨permIn_sw h.perm hb (by omega) h2 (Nat.le_refl _) (by omega), by omega, h2, fun k k1 k2 => ?_, fun k k1 k2 => ?_⟩
  · have gj : (swp dk j a)[j]! = dk[a]! := by
      rw [g]
      by_cases e : j = a
      · rw [if_pos e, e]
      · rw [if_neg e, if_pos rfl]
    rw [gj, g]
    by_cases e : k = a
    · rw [if_pos e]; exact h.low j (by omega) (by omega)
    · rw [if_neg e, if_neg (by omega)]; exact h.low k (by omega) (by omega)
  · have gj : (swp dk j a)[j]! = dk[a]! := by
      rw [g]
      by_cases e : j = a
      · rw [if_pos e, e]
      · rw [if_neg e, if_pos rfl]
    rw [gj, g, if_neg (by omega), if_neg (by omega)]
    exact h.high k k1 k2
/-- One exchange. -/
theorem Prt.swap {lt : RT → RT → Bool} {a b i j : Nat} {d dk : ARow} (h : Prt lt a b d i j dk) (hb : b ≤ d.size) (hij : i ≤ j) (hi : lt dk[i]! dk[a]! = false) (hj : lt dk[j]! dk[a]! = true) : Prt lt a b d (i + 1) (j - 1) (swp dk i j) ∧ i < j := by
  have hs := h.perm.1
  have h1 := h.ai
  have h2 := h.jb
  have hne : i ≠ j := fun e => by subst e; rw [hi] at hj; cases hj
  have g := fun k => swp_get dk (i := i) (j := j) (by omega) (by omega) k
  have ga : (swp dk i j)[a]! = dk[a]! := by rw [g, if_neg (by omega), if_neg (by omega)]
  refine ⟨⟨permIn_sw h.perm hb (by omega) (by omega) (by omega) (by omega), by omega, by omega, by omega, fun k k1 k2 => ?_, fun k k1 k2 => ?_⟩, by omega⟩
  · rw [ga, g, if_neg (by omega)]
    by_cases e : k = i
    · rw [if_pos e]; exact hj
    · rw [if_neg e]; exact h.low k k1 (by omega)
  · rw [ga, g]
    by_cases e : k = j
    · rw [if_pos e]; exact hi
    · rw [if_neg e, if_neg (by omega)]; exact h.high k (by omega) k2
theorem Prt.start (lt : RT → RT → Bool) {a b p : Nat} (d : ARow) (hb : b ≤ d.size) (hab : a < b) (h1 : a ≤ p) (h2 : p < b) : Prt lt a b d (a + 1) (b - 1) (swp d a p) :=
  ⟨permIn_sw (permIn_refl _ _ _) hb (Nat.le_refl _) hab h1 h2, by omega, by omega, by omega, fun k k1 k2 => by omega, fun k k1 k2 => by omega⟩
set_option maxHeartbeats 4000000 in
set_option maxRecDepth 100000 in
theorem part_calls {g sf : Nat} {lb sb : Array Value} {lt : RT → RT → Bool} {n : Nat} {S : Nat → Prop} {N0 : Nat} {Q : ARow → World → Prop} (K : Sorter g sf lb sb lt n S N0 Q) (a b p : Nat) (d : ARow) (w : World)
    (hq : Q d w) (hab : a < b) (hb : b ≤ n) (hsz : n ≤ 1000) (hp1 : a ≤ p) (hp2 : p < b) :
    Calls Try.prog 133 #[lsV g sf lb sb, .int .i64 a, .int .i64 b, .int .i64 p] w fun e w' => ∃ (m : Nat) (q : Bool) (d' : ARow), e = .returned (.tuple #[.int .i64 m, .bool q]) ∧ Prd lt a b d m d' ∧ Q d' w' ∧ But S w w' := by
  have hN := (K.size _ _ hq).2
  have hsd := (K.size _ _ hq).1
  have T0 := K.start hq 147
  have c1 := T0.c1
  obtain ⟨W1, hs1, T1⟩ := K.swapAt T0 hN (i := a) (j := p) (by omega) (by omega)
  have P1 := Lib.hid (Prt.start lt d (p := p) (by rw [hsd]; exact hb) hab hp1 hp2)
  have HK := Lib.hid K
  have T1' := Lib.hid T1
  have eg := K.eg
  clear K hq T0 T1
  go_enter Try.func133, Try.ntmps133
  go_wp2
  go_loopw [10] (fun vi wr => ∃ i : Nat, vi = .int .i64 i ∧ (a + 1) ≤ i ∧ Hid (Prt lt a b d i ((b - 1)) (swp d a p)) ∧ Hid (StW g sf lb sb S Q w w.heap.size (swp d a p) wr)) (fun vi _ => b + 1 - (intOf vi).toNat)
  case atStart => exact ⟨(a + 1), by first | rfl | go_num, Nat.le_refl _, P1, T1'⟩
  case round =>
    obtain ⟨i, rfl, hi0, PK, TK⟩ := hrel
    have c0 := TK.out.c0
    have hib : i ≤ b := by have := PK.out.ij; have := PK.out.jb; omega
    go_upto_region 3 with fail
    go_cut [30] from 21 to 32 (fun sc wx => ∃ q : Bool, sc = .bool q ∧ Hid (StW g sf lb sb S Q w w.heap.size (swp d a p) wx) ∧ Hid ((q = true → i ≤ (b - 1) ∧ lt (swp d a p)[i]! (swp d a p)[a]! = true) ∧ (q = false → i ≤ (b - 1) → lt (swp d a p)[i]! (swp d a p)[a]! = false)))
    case first =>
      by_cases hij : i ≤ (b - 1)
      · have hij' : (i : Int) ≤ (b : Int) - 1 := by omega
        have hjb := PK.out.jb
        have hl := HK.out.lessAt TK.out (i := i) (j := a) (by omega) (by omega)
        go_wp2_with (go_at_fn g; refine hl.mono ?_; rintro e w' ⟨rfl, T1⟩)
        go_meet
        exact ⟨_, rfl, Lib.hid T1, Lib.hid ⟨fun h => ⟨hij, h⟩, fun h _ => h⟩⟩
      · have hij' : ¬ (i : Int) ≤ (b : Int) - 1 := by omega
        go_wp2_with fail
        go_meet
        exact ⟨false, rfl, TK, Lib.hid ⟨fun h => (by cases h), fun _ h => absurd h hij⟩⟩
    case rest =>
      obtain ⟨q, rfl, TC, HC⟩ := hcut
      cases q with
      | true =>
        have PU := Lib.hid (PK.out.up (HC.out.1 rfl).1 (HC.out.1 rfl).2)
        have hij := (HC.out.1 rfl).1
        have hjb := PK.out.jb
        clear HC PK TK c0
        go_wp2
        go_roundw
        case rel => exact ⟨i + 1, by go_num, by omega, PU, TC⟩
        case measure => simp [intOf]; omega
      | false =>
        have HU := Lib.hid (HC.out.2 rfl)
        clear HC TK c0
        go_wp2
        go_loopw [11] (fun vj wr => ∃ j : Nat, vj = .int .i64 j ∧ j ≤ (b - 1) ∧ Hid (Prt lt a b d i j (swp d a p)) ∧ Hid (StW g sf lb sb S Q w w.heap.size (swp d a p) wr)) (fun vj _ => (intOf vj).toNat)
        case atStart => exact ⟨(b - 1), by first | rfl | (congr 1; omega), Nat.le_refl _, PK, TC⟩
        case round =>
          clear PK TC
          obtain ⟨j, rfl, hj0, PK, TK⟩ := hrel
          have c0 := TK.out.c0
          have hjb := PK.out.jb
          have hai := PK.out.ai
          go_upto_region 5 with fail
          go_cut [43] from 33 to 45 (fun sc wx => ∃ q : Bool, sc = .bool q ∧ Hid (StW g sf lb sb S Q w w.heap.size (swp d a p) wx) ∧ Hid ((q = true → i ≤ j ∧ lt (swp d a p)[j]! (swp d a p)[a]! = false) ∧ (q = false → i ≤ j → lt (swp d a p)[j]! (swp d a p)[a]! = true)))
          case first =>
            by_cases hij : i ≤ j
            · have hij' : (i : Int) ≤ (j : Int) := by omega
              have hl := HK.out.lessAt TK.out (i := j) (j := a) (by omega) (by omega)
              go_wp2_with (go_at_fn g; refine hl.mono ?_; rintro e w' ⟨rfl, T1⟩)
              go_meet
              exact ⟨_, rfl, Lib.hid T1, Lib.hid ⟨fun h => ⟨hij, by simpa using h⟩, fun h _ => by simpa using h⟩⟩
            · have hij' : ¬ (i : Int) ≤ (j : Int) := by omega
              go_wp2_with fail
              go_meet
              exact ⟨false, rfl, TK, Lib.hid ⟨fun h => (by cases h), fun _ h => absurd h hij⟩⟩
          case rest =>
            obtain ⟨q, rfl, TC, HC⟩ := hcut
            cases q with
            | true =>
              have PU := Lib.hid (PK.out.down (HC.out.1 rfl).1 (HC.out.1 rfl).2)
              have hij := (HC.out.1 rfl).1
              clear HC PK TK c0
              go_wp2
              go_roundw
              case rel => exact ⟨j - 1, by congr 1; omega, by omega, PU, TC⟩
              case measure => simp [intOf]; omega
            | false =>
              have HD := Lib.hid (HC.out.2 rfl)
              have c1 := TC.out.c1
              clear HC TK c0
              by_cases hgt : j < i
              · have hgt' : (j : Int) < (i : Int) := by omega
                obtain ⟨W', hs, T2⟩ := HK.out.swapAt TC.out hN (i := j) (j := a) (by have := PK.out.ij; omega) (by omega)
                have PE := PK.out.ends (by rw [hsd]; exact hb) (by omega)
                have T2' := Lib.hid T2
                clear T2 TC
                go_wp2
                go_ret2
                exact ⟨j, true, _, rfl, PE, T2'.out.q, T2'.out.but⟩
              · have hgt' : ¬ (j : Int) < (i : Int) := by omega
                obtain ⟨W', hs, T2⟩ := HK.out.swapAt TC.out hN (i := i) (j := j) (by omega) (by omega)
                obtain ⟨PS, hijl⟩ := PK.out.swap (by rw [hsd]; exact hb) (by omega) (HU.out (by omega)) (HD.out (by omega))
                have T2' := Lib.hid T2
                have PS' := Lib.hid PS
                clear T2 TC PS PK HU HD
                go_wp2
                clear hi0 hib hj0 hjb hai
                go_loopw [10, 11] (fun vi vj wr => ∃ (i j : Nat) (dk : ARow), vi = .int .i64 i ∧ vj = .int .i64 j ∧ Hid (Prt lt a b d i j dk) ∧ Hid (StW g sf lb sb S Q w w.heap.size dk wr)) (fun vi vj _ => (intOf vj).toNat + 1 - (intOf vi).toNat)
                case atStart => exact ⟨i + 1, j - 1, _, by go_num, by congr 1; omega, PS', T2'⟩
                case round =>
                  clear PS' T2' c1 hijl hgt hgt'
                  obtain ⟨i0, j0, dk, rfl, rfl, P0, T0⟩ := hrel
                  go_wp2
                  go_loopw [10] (fun vi wr => ∃ i : Nat, vi = .int .i64 i ∧ i0 ≤ i ∧ Hid (Prt lt a b d i (j0) dk) ∧ Hid (StW g sf lb sb S Q w w.heap.size dk wr)) (fun vi _ => b + 1 - (intOf vi).toNat)
                  case atStart => exact ⟨i0, by first | rfl | go_num, Nat.le_refl _, P0, T0⟩
                  case round =>
                    obtain ⟨i, rfl, hi0, PK, TK⟩ := hrel
                    have c0 := TK.out.c0
                    have hib : i ≤ b := by have := PK.out.ij; have := PK.out.jb; omega
                    go_upto_region 13 with fail
                    go_cut [73] from 64 to 75 (fun sc wx => ∃ q : Bool, sc = .bool q ∧ Hid (StW g sf lb sb S Q w w.heap.size dk wx) ∧ Hid ((q = true → i ≤ j0 ∧ lt dk[i]! dk[a]! = true) ∧ (q = false → i ≤ j0 → lt dk[i]! dk[a]! = false)))
                    case first =>
                      by_cases hij : i ≤ j0
                      · have hij' : (i : Int) ≤ (j0 : Int) := by omega
                        have hjb := PK.out.jb
                        have hl := HK.out.lessAt TK.out (i := i) (j := a) (by omega) (by omega)
                        go_wp2_with (go_at_fn g; refine hl.mono ?_; rintro e w' ⟨rfl, T1⟩)
                        go_meet
                        exact ⟨_, rfl, Lib.hid T1, Lib.hid ⟨fun h => ⟨hij, h⟩, fun h _ => h⟩⟩
                      · have hij' : ¬ (i : Int) ≤ (j0 : Int) := by omega
                        go_wp2_with fail
                        go_meet
                        exact ⟨false, rfl, TK, Lib.hid ⟨fun h => (by cases h), fun _ h => absurd h hij⟩⟩
                    case rest =>
                      obtain ⟨q, rfl, TC, HC⟩ := hcut
                      cases q with
                      | true =>
                        have PU := Lib.hid (PK.out.up (HC.out.1 rfl).1 (HC.out.1 rfl).2)
                        have hij := (HC.out.1 rfl).1
                        have hjb := PK.out.jb
                        clear HC PK TK c0
                        go_wp2
                        go_roundw
                        case rel => exact ⟨i + 1, by go_num, by omega, PU, TC⟩
                        case measure => simp [intOf]; omega
                      | false =>
                        have HU := Lib.hid (HC.out.2 rfl)
                        clear HC TK c0
                        go_wp2
                        go_loopw [11] (fun vj wr => ∃ j : Nat, vj = .int .i64 j ∧ j ≤ j0 ∧ Hid (Prt lt a b d i j dk) ∧ Hid (StW g sf lb sb S Q w w.heap.size dk wr)) (fun vj _ => (intOf vj).toNat)
                        case atStart => exact ⟨j0, by first | rfl | (congr 1; omega), Nat.le_refl _, PK, TC⟩
                        case round =>
                          clear PK TC
                          obtain ⟨j, rfl, hj0, PK, TK⟩ := hrel
                          have c0 := TK.out.c0
                          have hjb := PK.out.jb
                          have hai := PK.out.ai
                          go_upto_region 15 with fail
                          go_cut [86] from 76 to 88 (fun sc wx => ∃ q : Bool, sc = .bool q ∧ Hid (StW g sf lb sb S Q w w.heap.size dk wx) ∧ Hid ((q = true → i ≤ j ∧ lt dk[j]! dk[a]! = false) ∧ (q = false → i ≤ j → lt dk[j]! dk[a]! = true)))
                          case first =>
                            by_cases hij : i ≤ j
                            · have hij' : (i : Int) ≤ (j : Int) := by omega
                              have hl := HK.out.lessAt TK.out (i := j) (j := a) (by omega) (by omega)
                              go_wp2_with (go_at_fn g; refine hl.mono ?_; rintro e w' ⟨rfl, T1⟩)
                              go_meet
                              exact ⟨_, rfl, Lib.hid T1, Lib.hid ⟨fun h => ⟨hij, by simpa using h⟩, fun h _ => by simpa using h⟩⟩
                            · have hij' : ¬ (i : Int) ≤ (j : Int) := by omega
                              go_wp2_with fail
                              go_meet
                              exact ⟨false, rfl, TK, Lib.hid ⟨fun h => (by cases h), fun _ h => absurd h hij⟩⟩
                          case rest =>
                            obtain ⟨q, rfl, TC, HC⟩ := hcut
                            cases q with
                            | true =>
                              have PU := Lib.hid (PK.out.down (HC.out.1 rfl).1 (HC.out.1 rfl).2)
                              have hij := (HC.out.1 rfl).1
                              clear HC PK TK c0
                              go_wp2
                              go_roundw
                              case rel => exact ⟨j - 1, by congr 1; omega, by omega, PU, TC⟩
                              case measure => simp [intOf]; omega
                            | false =>
                              have HD := Lib.hid (HC.out.2 rfl)
                              have c1 := TC.out.c1
                              clear HC TK c0
                              by_cases hgt : j < i
                              · have hgt' : (j : Int) < (i : Int) := by omega
                                obtain ⟨W', hs, T2⟩ := HK.out.swapAt TC.out hN (i := j) (j := a) (by have := PK.out.ij; omega) (by omega)
                                have PE := PK.out.ends (by rw [hsd]; exact hb) (by omega)
                                have T2' := Lib.hid T2
                                clear T2 TC
                                go_wp2
                                go_ret2
                                exact ⟨j, false, _, rfl, PE, T2'.out.q, T2'.out.but⟩
                              · have hgt' : ¬ (j : Int) < (i : Int) := by omega
                                obtain ⟨W', hs, T2⟩ := HK.out.swapAt TC.out hN (i := i) (j := j) (by omega) (by omega)
                                obtain ⟨PS, hijl⟩ := PK.out.swap (by rw [hsd]; exact hb) (by omega) (HU.out (by omega)) (HD.out (by omega))
                                have T2' := Lib.hid T2
                                have PS' := Lib.hid PS
                                clear T2 TC PS PK HU HD
                                go_wp2
                                go_roundw
                                case rel => exact ⟨i + 1, j - 1, _, by go_num, by congr 1; omega, PS', T2'⟩
                                case measure => simp [intOf]; omega
end Go.Proofs.Ytnpaijmibkbhfaa

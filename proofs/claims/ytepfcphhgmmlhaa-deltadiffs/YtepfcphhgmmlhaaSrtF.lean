/-
  sort.partialInsertionSort_func.
-/
import Derived.Test.YtepfcphhgmmlhaaSrtA
import Derived.Sort.LotD2
import Derived.Deep.LoopGhost
import Derived.Deep.CutRange
import Derived.Deep.DeepCutAuto
import Derived.Deep.CutBlock
namespace Go.Proofs.Ytepfcphhgmmlhaa
open Go.RowKit
open Go.Sort (swp scanSorted shiftDown shiftUp fixDown fixUp partialIns partialIns_succ partialInsertionSort)
set_option linter.unusedVariables false
set_option linter.unusedSimpArgs false
section
variable (lt : RT → RT → Bool)
theorem scan_go {d : ARow} {b i : Nat} (h : i < b) (hl : lt d[i]! d[i - 1]! = false) : scanSorted lt d b (i + 1) = scanSorted lt d b i := by
  conv => rhs; rw [scanSorted]
  rw [if_pos (by simp [h, hl])]
theorem scan_stop {d : ARow} {b i : Nat} (h : i < b → lt d[i]! d[i - 1]! = true) : scanSorted lt d b i = i := by
  rw [scanSorted]
  by_cases hi : i < b
  · rw [if_neg (by simp [h hi])]
  · rw [if_neg (by simp [hi])]
theorem dn_go {j : Nat} {d : ARow} (hj : 1 ≤ j) (hl : lt d[j]! d[j - 1]! = true) : shiftDown lt (j - 1) (swp d j (j - 1)) = shiftDown lt j d := by
  obtain ⟨k, rfl⟩ : ∃ k, j = k + 1 := ⟨j - 1, by omega⟩
  rw [Nat.add_sub_cancel] at hl ⊢
  conv => rhs; unfold shiftDown
  rw [if_neg (by simp [hl])]
theorem dn_stop {j : Nat} {d : ARow} (h : 1 ≤ j → lt d[j]! d[j - 1]! = false) : shiftDown lt j d = d := by
  cases j with
  | zero => unfold shiftDown; rfl
  | succ k =>
    have := h (by omega)
    rw [Nat.add_sub_cancel] at this
    unfold shiftDown
    rw [if_pos (by simp [this])]
theorem up_go {b j : Nat} {d : ARow} (hj : j < b) (hl : lt d[j]! d[j - 1]! = true) : shiftUp lt b (j + 1) (swp d j (j - 1)) = shiftUp lt b j d := by
  conv => rhs; rw [shiftUp]
  rw [if_pos hj, if_neg (by simp [hl])]
theorem up_stop {b j : Nat} {d : ARow} (h : j < b → lt d[j]! d[j - 1]! = false) : shiftUp lt b j d = d := by
  rw [shiftUp]
  by_cases hj : j < b
  · rw [if_pos hj, if_pos (by simp [h hj])]
  · rw [if_neg hj]
end
set_option maxHeartbeats 8000000 in
set_option maxRecDepth 100000 in
theorem pins_calls {g sf : Nat} {lb sb : Array Value} {lt : RT → RT → Bool} {n : Nat} {S : Nat → Prop} {N0 : Nat} {Q : ARow → World → Prop} (K : Sorter g sf lb sb lt n S N0 Q) (a b : Nat) (d : ARow) (w : World)
    (hq : Q d w) (hab : a < b) (hb : b ≤ n) (hsz : n ≤ 1000) :
    Calls Try.prog 106 #[lsV g sf lb sb, .int .i64 a, .int .i64 b] w fun e w' => e = .returned (.bool (partialInsertionSort lt d a b).2) ∧ Q (partialInsertionSort lt d a b).1 w' ∧ But S w w' := by
  have hN := (K.size _ _ hq).2
  have T0 := Lib.hid (K.start hq 128)
  have HK := Lib.hid K
  have eg := K.eg
  obtain ⟨RS, hRS⟩ : ∃ RS, partialInsertionSort lt d a b = RS := ⟨_, rfl⟩
  rw [hRS]
  have HR : Hid (partialIns lt a b 5 (a + 1) d = RS) := Lib.hid hRS
  clear K hq hRS
  go_enter Try.func106, Try.ntmps106
  go_wp2
  go_loopw [7, 8] (fun vi vj wr => ∃ (i t : Nat) (dk : ARow), vi = .int .i64 i ∧ vj = .int .i64 t ∧ t ≤ 5 ∧ a < i ∧ i ≤ b ∧ Hid (partialIns lt a b (5 - t) i dk = RS) ∧ Hid (StW g sf lb sb S Q w w.heap.size dk wr)) (fun _ vj _ => 5 - (intOf vj).toNat)
  case atStart => exact ⟨a + 1, 0, d, by go_num, rfl, by omega, by omega, by omega, HR, T0⟩
  case round =>
    clear HR T0
    obtain ⟨i, t, dk, rfl, rfl, ht5, hai, hib, HE, TK⟩ := hrel
    by_cases ht : t < 5
    · have ht' : (t : Int) < 5 := by omega
      go_wp2
      go_loopw [7] (fun vi wr => ∃ I : Nat, vi = .int .i64 I ∧ a < I ∧ I ≤ b ∧ Hid (scanSorted lt dk b I = scanSorted lt dk b i) ∧ Hid (StW g sf lb sb S Q w w.heap.size dk wr)) (fun vi _ => b + 1 - (intOf vi).toNat)
      case atStart => exact ⟨i, rfl, hai, hib, Lib.hid rfl, TK⟩
      case round =>
        clear TK
        obtain ⟨I, rfl, haI, hIb, HS, TK⟩ := hrel
        have c0 := TK.out.c0
        go_upto_region 5 with fail
        go_cut [28] from 17 to 30 (fun sc wx => ∃ q : Bool, sc = .bool q ∧ Hid (StW g sf lb sb S Q w w.heap.size dk wx) ∧ Hid ((q = true → I < b ∧ lt dk[I]! dk[I - 1]! = false) ∧ (q = false → I < b → lt dk[I]! dk[I - 1]! = true)))
        case first =>
          by_cases hlt : I < b
          · have hlt' : (I : Int) < (b : Int) := by omega
            have hl := HK.out.lessAt TK.out (i := I) (j := I - 1) (by omega) (by omega)
            rw [show ((I - 1 : Nat) : Int) = (I : Int) - 1 by omega] at hl
            go_wp2_with (go_at_fn g; refine hl.mono ?_; rintro e w' ⟨rfl, T1⟩)
            go_meet
            exact ⟨_, rfl, Lib.hid T1, Lib.hid ⟨fun h => ⟨hlt, by simpa using h⟩, fun h _ => by simpa using h⟩⟩
          · have hlt' : ¬ (I : Int) < (b : Int) := by omega
            go_wp2_with fail
            go_meet
            exact ⟨false, rfl, TK, Lib.hid ⟨fun h => (by cases h), fun _ h => absurd h hlt⟩⟩
        case rest =>
          obtain ⟨q, rfl, TC, HC⟩ := hcut
          clear TK c0
          cases q with
          | true =>
            have h1 := (HC.out.1 rfl).1
            have HS2 := Lib.hid ((scan_go lt (HC.out.1 rfl).1 (HC.out.1 rfl).2).trans HS.out)
            go_wp2
            go_roundw
            case rel => exact ⟨I + 1, by go_num, by omega, by omega, HS2, TC⟩
            case measure => simp [intOf]; omega
          | false =>
            have HI : Hid (scanSorted lt dk b i = I) := Lib.hid (HS.out.symm.trans (scan_stop lt (HC.out.2 rfl)))
            clear HS HC
            obtain ⟨s, hs5⟩ : ∃ s, 5 - t = s + 1 := ⟨4 - t, by omega⟩
            have HP := Lib.hid (show (if I = b then (dk, true) else if b - a < 50 then (dk, false) else partialIns lt a b s I (fixUp lt b I (fixDown lt a I (swp dk I (I - 1))))) = RS by
              have := HE.out; rw [hs5, partialIns_succ, HI.out] at this; exact this)
            clear HE
            have c1 := TC.out.c1
            by_cases hIe : I = b
            · have hIz : ((I : Int) == (b : Int)) = true := by simp [hIe]
              have HP2 : Hid ((dk, true) = RS) := Lib.hid (by have := HP.out; rwa [if_pos hIe] at this)
              go_wp2
              go_ret
              rw [← HP2.out]
              exact ⟨rfl, TC.out.q, TC.out.but⟩
            · have hIz : ((I : Int) == (b : Int)) = false := by simp; omega
              by_cases h50 : b - a < 50
              · have h50' : (b : Int) - (a : Int) < 50 := by omega
                have HP2 : Hid ((dk, false) = RS) := Lib.hid (by have := HP.out; rwa [if_neg hIe, if_pos h50] at this)
                go_wp2
                go_ret
                rw [← HP2.out]
                exact ⟨rfl, TC.out.q, TC.out.but⟩
              · have h50' : ¬ (b : Int) - (a : Int) < 50 := by omega
                have HP2 : Hid (partialIns lt a b s I (fixUp lt b I (fixDown lt a I (swp dk I (I - 1)))) = RS) := Lib.hid (by have := HP.out; rwa [if_neg hIe, if_neg h50] at this)
                clear HP
                obtain ⟨W', hs, T2⟩ := HK.out.swapAt TC.out hN (i := I) (j := I - 1) (by omega) (by omega)
                rw [show ((I - 1 : Nat) : Int) = (I : Int) - 1 by omega] at hs
                have T2' := Lib.hid T2
                clear T2 TC
                obtain ⟨d1, hd1⟩ : ∃ x, swp dk I (I - 1) = x := ⟨_, rfl⟩
                rw [hd1] at T2' HP2
                have hIl : I < b := by omega
                clear hd1
                go_upto_if 47 with fail
                clear h50 h50' hIe
                generalize hdec : decide ((2 : Int) ≤ (I : Int) - (a : Int)) = dq
                go_cut [] from 47 to 66 (fun wx => Hid (StW g sf lb sb S Q w w.heap.size (fixDown lt a I d1) wx))
                case first =>
                  have HF := Lib.hid (show fixDown lt a I d1 = if I - a ≥ 2 then shiftDown lt (I - 1) d1 else d1 from rfl)
                  cases dq with
                  | true =>
                    have h2' := of_decide_eq_true hdec
                    have h2 : I - a ≥ 2 := by omega
                    clear hdec
                    have HG : Hid (shiftDown lt (I - 1) d1 = fixDown lt a I d1) := Lib.hid (by rw [HF.out, if_pos h2])
                    go_wp2
                    go_loopw [9] (fun vj wr => ∃ (j : Nat) (dj : ARow), vj = .int .i64 j ∧ j ≤ I - 1 ∧ Hid (shiftDown lt j dj = fixDown lt a I d1) ∧ Hid (StW g sf lb sb S Q w w.heap.size dj wr)) (fun vj _ => (intOf vj).toNat)
                    case atStart => exact ⟨I - 1, d1, by congr 1; omega, Nat.le_refl _, HG, T2'⟩
                    case round =>
                      clear HG T2'
                      obtain ⟨j, dj, rfl, hjI, HG, TJ⟩ := hrel
                      have c0 := TJ.out.c0
                      by_cases hj1 : 1 ≤ j
                      · have hj1' : (1 : Int) ≤ (j : Int) := by omega
                        have hl := HK.out.lessAt TJ.out (i := j) (j := j - 1) (by omega) (by omega)
                        rw [show ((j - 1 : Nat) : Int) = (j : Int) - 1 by omega] at hl
                        cases hv : lt dj[j]! dj[j - 1]! with
                        | true =>
                          rw [hv] at hl
                          have HG2 := Lib.hid ((dn_go lt hj1 hv).trans HG.out)
                          go_wp2_with (go_at_fn g; refine hl.mono ?_; rintro e w' ⟨rfl, T1⟩; have c1 := T1.c1)
                          obtain ⟨W2, hs2, T3⟩ := HK.out.swapAt T1 hN (i := j) (j := j - 1) (by omega) (by omega)
                          rw [show ((j - 1 : Nat) : Int) = (j : Int) - 1 by omega] at hs2
                          have T3' := Lib.hid T3
                          rw [hs2, Oper.upon_value]
                          clear T3 T1
                          go_wp2
                          go_roundw
                          case rel => first | exact ⟨j - 1, _, by congr 1; omega, by omega, HG2, T3'⟩ | ((repeat apply Exists.intro); refine ⟨⟨j - 1, _, ?_, ?_, HG2, T3'⟩, rfl⟩ <;> first | omega | (congr 1; omega))
                          case measure => simp [intOf]; omega
                        | false =>
                          rw [hv] at hl
                          have HG2 : Hid (dj = fixDown lt a I d1) := Lib.hid ((dn_stop lt (fun _ => hv)).symm.trans HG.out)
                          go_wp2_with (go_at_fn g; refine hl.mono ?_; rintro e w' ⟨rfl, T1⟩)
                          go_meet
                          exact Lib.hid (by rw [← HG2.out]; exact T1)
                      · have hj1' : ¬ (1 : Int) ≤ (j : Int) := by omega
                        have HG2 : Hid (dj = fixDown lt a I d1) := Lib.hid ((dn_stop lt (fun h => absurd h hj1)).symm.trans HG.out)
                        go_wp2
                        go_meet
                        exact Lib.hid (by rw [← HG2.out]; exact TJ.out)
                  | false =>
                    have h2' := of_decide_eq_false hdec
                    have h2 : ¬ I - a ≥ 2 := by omega
                    clear hdec
                    go_wp2
                    go_meet
                    exact Lib.hid (by rw [HF.out, if_neg h2]; exact T2'.out)
                case rest =>
                  have TD := hcut
                  clear hcut T2' c1 hs
                  obtain ⟨d2, hd2⟩ : ∃ x, fixDown lt a I d1 = x := ⟨_, rfl⟩
                  rw [hd2] at TD HP2
                  clear hd2
                  have hst : s = 5 - (t + 1) := by omega
                  rw [hst] at HP2
                  clear hst hs5
                  have HF := Lib.hid (show fixUp lt b I d2 = if b - I ≥ 2 then shiftUp lt b (I + 1) d2 else d2 from rfl)
                  have fin : ∀ (d3 : ARow) (W : World), d3 = fixUp lt b I d2 → StW g sf lb sb S Q w w.heap.size d3 W → ∃ (i' t' : Nat) (dk' : ARow), Value.int .i64 (I : Int) = .int .i64 (i' : Nat) ∧ Value.int .i64 ((t : Int) + 1) = .int .i64 (t' : Nat) ∧ t' ≤ 5 ∧ a < i' ∧ i' ≤ b ∧ Hid (partialIns lt a b (5 - t') i' dk' = RS) ∧ Hid (StW g sf lb sb S Q w w.heap.size dk' W) := fun d3 W e T =>
                    ⟨I, t + 1, d3, rfl, by go_num, by omega, haI, hIb, Lib.hid (by rw [e]; exact HP2.out), Lib.hid T⟩
                  have FIN := Lib.hid fin
                  clear fin
                  by_cases h2 : b - I ≥ 2
                  · have h2' : (2 : Int) ≤ (b : Int) - (I : Int) := by omega
                    have HG : Hid (shiftUp lt b (I + 1) d2 = fixUp lt b I d2) := Lib.hid (by rw [HF.out, if_pos h2])
                    go_wp2
                    go_loopw [10] (fun vj wr => ∃ (j : Nat) (dj : ARow), vj = .int .i64 j ∧ I + 1 ≤ j ∧ j ≤ b ∧ Hid (shiftUp lt b j dj = fixUp lt b I d2) ∧ Hid (StW g sf lb sb S Q w w.heap.size dj wr)) (fun vj _ => b + 1 - (intOf vj).toNat)
                    case atStart => exact ⟨I + 1, d2, by go_num, Nat.le_refl _, by omega, HG, TD⟩
                    case round =>
                      clear HG TD
                      obtain ⟨j, dj, rfl, hjI, hjb, HG, TJ⟩ := hrel
                      have c0 := TJ.out.c0
                      by_cases hj1 : j < b
                      · have hj1' : (j : Int) < (b : Int) := by omega
                        have hl := HK.out.lessAt TJ.out (i := j) (j := j - 1) (by omega) (by omega)
                        rw [show ((j - 1 : Nat) : Int) = (j : Int) - 1 by omega] at hl
                        cases hv : lt dj[j]! dj[j - 1]! with
                        | true =>
                          rw [hv] at hl
                          have HG2 := Lib.hid ((up_go lt hj1 hv).trans HG.out)
                          go_wp2_with (go_at_fn g; refine hl.mono ?_; rintro e w' ⟨rfl, T1⟩; have c1 := T1.c1)
                          obtain ⟨W2, hs2, T3⟩ := HK.out.swapAt T1 hN (i := j) (j := j - 1) (by omega) (by omega)
                          rw [show ((j - 1 : Nat) : Int) = (j : Int) - 1 by omega] at hs2
                          have T3' := Lib.hid T3
                          rw [hs2, Oper.upon_value]
                          clear T3 T1
                          go_wp2
                          go_roundw
                          case rel => first | exact ⟨j + 1, _, by go_num, by omega, by omega, HG2, T3'⟩ | ((repeat apply Exists.intro); exact ⟨⟨by go_num, by omega, by omega, HG2, T3'⟩, rfl⟩)
                          case measure => simp [intOf]; omega
                        | false =>
                          rw [hv] at hl
                          have HG2 : Hid (dj = fixUp lt b I d2) := Lib.hid ((up_stop lt (fun _ => hv)).symm.trans HG.out)
                          go_wp2_with (go_at_fn g; refine hl.mono ?_; rintro e w' ⟨rfl, T1⟩)
                          go_roundw
                          case rel => exact FIN.out _ _ HG2.out T1
                          case measure => simp [intOf]; omega
                      · have hj1' : ¬ (j : Int) < (b : Int) := by omega
                        have HG2 : Hid (dj = fixUp lt b I d2) := Lib.hid ((up_stop lt (fun h => absurd h hj1)).symm.trans HG.out)
                        go_wp2
                        go_roundw
                        case rel => exact FIN.out _ _ HG2.out TJ.out
                        case measure => simp [intOf]; omega
                  · have h2' : ¬ (2 : Int) ≤ (b : Int) - (I : Int) := by omega
                    go_wp2
                    go_roundw
                    case rel => exact FIN.out _ _ (by rw [HF.out, if_neg h2]) TD.out
                    case measure => simp [intOf]; omega
    · have ht' : ¬ (t : Int) < 5 := by omega
      obtain rfl : t = 5 := by omega
      have HP2 : Hid ((dk, false) = RS) := HE
      go_wp2
      go_ret
      rw [← HP2.out]
      exact ⟨rfl, TK.out.q, TK.out.but⟩
end Go.Proofs.Ytepfcphhgmmlhaa

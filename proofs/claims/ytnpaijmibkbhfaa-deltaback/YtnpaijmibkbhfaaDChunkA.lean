/-
  slices.Chunk of acts: the parts of a row, one by one.
-/
import Derived.Test.YtnpaijmibkbhfaaDeltaH
import Derived.Test.YtnpaijmibkbhfaaG3
namespace Go.Proofs.Ytnpaijmibkbhfaa
open Go.RowKit Go.Shelf
set_option linter.unusedVariables false
set_option linter.unusedSimpArgs false
attribute [local go_sem] Oper.semAt_some

/-- What a round of a loop over the parts leaves: all blocks below M but A and B. -/
def KpB (M A B : Nat) (W W' : World) : Prop := W.heap.size ≤ W'.heap.size ∧ ∀ k, k < M → k ≠ A → k ≠ B → W'.heap[k]? = W.heap[k]?
theorem KpB.trans {M A B : Nat} {X Y Z : World} (h : KpB M A B X Y) (g : KpB M A B Y Z) : KpB M A B X Z := ⟨Nat.le_trans h.1 g.1, fun k hk hn hb => (g.2 k hk hn hb).trans (h.2 k hk hn hb)⟩
theorem KpB.below {M A B n : Nat} {X Y : World} (h : Below n X Y) (hM : M ≤ n) : KpB M A B X Y := ⟨h.size, fun k hk _ _ => h.block k (Nat.lt_of_lt_of_le hk hM)⟩
theorem KpB.cell {M A B : Nat} {X Y : World} (h : KpB M A B X Y) {p : Addr} (hp : p.block < M) (hA : p.block ≠ A) (hB : p.block ≠ B) : Y.cell? p = X.cell? p := World.cell?_of_block (h.2 p.block hp hA hB)
/-- The k-th part of forty acts. -/
def partV (g o N k : Nat) : Value := .slice (some ⟨g, o + k * 360, none⟩) (min 40 (N - k * 40)) (min 40 (N - k * 40))
theorem chunk_calls (p : Option Addr) (N c : Nat) (w : World) :
    Calls Try.prog 43 #[.slice p N c, .int .i64 40] w fun e w' => e = .returned (.func (.func 73) #[] #[.pointer (some ⟨w.heap.size, 0, none⟩), .pointer (some ⟨w.heap.size + 1, 0, none⟩)]) ∧ (w.alloc (.cells #[.slice p N c] 33)).alloc (.cells #[.int .i64 40] 3) = w' := by
  go_enter Try.func43, Try.ntmps43
  go_wp2
  go_ret
  exact ⟨by simp, rfl⟩
set_option maxRecDepth 100000 in
set_option maxHeartbeats 4000000 in
theorem chunk1_in (n : Nat) (l M A B Bs Bn g o N c K : Nat) (p : Option Addr) (J Jx : List Nat → World → Prop)
    (hY : ∀ pre x W, J pre W → pre.length < K → x < K → YieldAt Fence.wide (n - 1) Try.prog l #[partV g o N x] W fun e W' => (e = .returned (.bool true) ∧ J (pre ++ [x]) W' ∧ KpB M A B W W') ∨ (e = .returned (.bool false) ∧ Jx (pre ++ [x]) W'))
    (W : World) (hJ : AbidesFrom W.heap.size J) (hM : M ≤ W.heap.size) (hN : N ≤ 120) (hc : N ≤ c) (hp : 0 < N → p = some ⟨g, o, none⟩)
    (hK : K = (N + 39) / 40)
    (hBs : Bs < M ∧ Bs ≠ A ∧ Bs ≠ B) (hBn : Bn < M ∧ Bn ≠ A ∧ Bn ≠ B) (cS : W.cell? ⟨Bs, 0, none⟩ = some (.slice p N c)) (cN : W.cell? ⟨Bn, 0, none⟩ = some (.int .i64 40)) (h0 : J [] W) :
    CallsIn Fence.wide n Try.prog 73 #[.func (.yield l) #[] #[], .pointer (some ⟨Bs, 0, none⟩), .pointer (some ⟨Bn, 0, none⟩)] W fun e W' => (∃ v, e = .returned v) ∧
      ((∃ ys, ys = List.range K ∧ J ys W') ∨ (∃ pre, (∃ j, j ≤ K ∧ pre = List.range j) ∧ Jx pre W')) := by
  have HY := Lib.hid hY
  have HJ := Lib.hid hJ
  have HK := Lib.hid hK
  have HP := Lib.hid hp
  clear hY hJ hK hp
  refine callsIn_of_wp Try.func73 rfl trivial ?_ rfl
  simp only [Try.ntmps73, List.size_toArray, List.length_cons, List.length_nil, Nat.reduceAdd, Nat.reduceSub, Array.replicate_succ, Array.replicate_zero, List.push_toArray, List.append_toArray, List.nil_append, List.cons_append]
  gi_wp2
  gi_loopw [4] (fun i wr => ∃ k m : Nat, m = k * 40 ∧ k ≤ K ∧ i = .int .i64 (m : Int) ∧ Hid (J (List.range k) wr) ∧ KpB M A B W wr ∧ W.heap.size ≤ wr.heap.size) (fun i _ => N + 40 - (intOf i).toNat)
  case atStart => exact ⟨0, 0, rfl, by omega, rfl, Lib.hid h0, ⟨Nat.le_refl _, fun _ _ _ _ => rfl⟩, Nat.le_refl _⟩
  case round =>
    obtain ⟨k, m, hm, hk, rfl, JS, hkp, hsz⟩ := hrel
    have HM := Lib.hid hm
    have hM' : M ≤ wr.heap.size := Nat.le_trans hM hsz
    have s0 := (hkp.cell (p := ⟨Bs, 0, none⟩) hBs.1 hBs.2.1 hBs.2.2).trans cS
    have n0 := (hkp.cell (p := ⟨Bn, 0, none⟩) hBn.1 hBn.2.1 hBn.2.2).trans cN
    by_cases hlt : m < N
    · obtain rfl := HP.out (by omega)
      have hklt : (m : Int) < (N : Int) := by omega
      have hmN : m ≤ N := by omega
      have hNc : N - m ≤ c - m := by omega
      clear hm
      gi_wp2
      obtain ⟨q, hq⟩ : ∃ q, min 40 (N - m) = q := ⟨_, rfl⟩
      have hif : (if ((N - m : Nat) : Int) < 40 then ((N - m : Nat) : Int) else 40) = (q : Int) := by split <;> omega
      have hV : partV g o N k = .slice (some ⟨g, o + m * 9, none⟩) q q := by
        have e1 : o + k * 360 = o + m * 9 := by rw [HM.out]; omega
        have e2 : min 40 (N - k * 40) = q := by rw [← HM.out]; exact hq
        rw [partV, e1, e2]
      have FL : Hid ((List.range k).length < K) := Lib.hid (by rw [List.length_range, HK.out]; have := HM.out; omega)
      have FR : Hid (List.range (k + 1) = List.range k ++ [k]) := Lib.hid List.range_succ
      have bD : Below wr.heap.size wr wr.drew := (Below.refl _ _).drew
      have J1 := Lib.hid (HJ.out _ _ _ none JS.out (below_grownNone bD) (fun _ h => by cases h))
      have hq1 : m + q ≤ N := by omega
      have hq2 : m + q ≤ c := by omega
      have hq3 : q ≤ 40 := by omega
      have hkp1 := hkp.trans (KpB.below (A := A) (B := B) bD hM')
      clear JS hq
      obtain ⟨fn, tmps, assign, body, hy', hR⟩ := HY.out _ k wr.drew J1.out FL.out (by rw [HK.out]; have := HM.out; omega)
      rw [hV] at hy'
      gi_region
      all_goals gi_wp2
      have hk1 : k + 1 ≤ K := by rw [HK.out]; have := HM.out; omega
      have hme : m + 40 = (k + 1) * 40 := by have := HM.out; omega
      refine ⟨fun h => by simp [Fence.wide] at h, hR.mono ?_⟩
      rintro e W3 (⟨rfl, hJ3, hk3⟩ | ⟨rfl, hJx3⟩)
      · have n3 := ((hkp1.trans hk3).cell (p := ⟨Bn, 0, none⟩) hBn.1 hBn.2.1 hBn.2.2).trans cN
        have hs3 : W.heap.size ≤ W3.heap.size := (hkp1.trans hk3).1
        gi_wp2
        go_roundw
        case rel => exact ⟨k + 1, m + 40, hme, hk1, by go_num, Lib.hid (by rw [FR.out]; exact hJ3), hkp1.trans hk3, hs3⟩
        case measure => simp [intOf]; omega
      · gi_wp2
        refine bodyPost_ret (results_none rfl _ _ _) rfl ?_
        exact ⟨⟨_, rfl⟩, .inr ⟨_, ⟨k + 1, hk1, FR.out.symm⟩, hJx3⟩⟩
    · have hkK : k = K := by have := HK.out; omega
      rw [hkK] at JS
      have hnlt : ¬ (m : Int) < (N : Int) := by omega
      gi_wp2
      go_end0
      exact ⟨⟨_, rfl⟩, .inl JS.out⟩
end Go.Proofs.Ytnpaijmibkbhfaa

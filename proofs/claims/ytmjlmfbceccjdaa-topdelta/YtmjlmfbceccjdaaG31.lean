/-
  Laid together: DeltaH, DChunkA, DChunkC, DChunkB.
-/
import Derived.Test.YtmjlmfbceccjdaaG30
import Derived.Deep.Cut
import Derived.Test.YtmjlmfbceccjdaaG8
import Derived.Test.YtmjlmfbceccjdaaG11
import Derived.Test.YtmjlmfbceccjdaaG15
/-
  delta.play: the walk.
-/
namespace Go.Proofs.Ytmjlmfbceccjdaa
open Go.RowKit
set_option linter.unusedVariables false
set_option linter.unusedSimpArgs false
/-- What a play leaves. -/
def appR (S : List RT) (P : List ActT) : List RT := if appE S P = 0 then appL S P else []
set_option maxHeartbeats 8000000 in
set_option maxRecDepth 100000 in
theorem dplay_calls (S : List RT) (P : List ActT) (v t : Value) (I : InvR S) (hP1 : 1 ≤ P.length) (hP : P.length ≤ 40) (wP : WordsA P) (w : World) (r1 : RowR w v S) (r2 : RowA w t P) :
    Calls Try.prog 38 #[v, t] w fun e w' => ∃ u, e = .returned (.tuple #[u, .int .i64 (appE S P)]) ∧ OwnR w' w.heap.size u (appR S P) ∧ Below w.heap.size w w' := by
  have hS := I.size
  have wS : WordsR S := fun r hr => lt128 (chk0 (I.val r hr)).1
  obtain ⟨e1, e2, e3⟩ := play_puts I hP
  have hl : (putsL S ++ P).length ≤ 100 := by rw [List.length_append, putsL_len]; omega
  have wA : WordsA (putsL S ++ P) := fun a ha => (List.mem_append.1 ha).elim (putsL_words wS a) (wP a)
  have C1 := Lib.hid (puts_calls S v (by omega) w r1)
  have C2 := Lib.hid (fun (W : World) (u : Value) (r : RowA W u (putsL S ++ P)) => play_calls _ u (by omega) wA W r)
  have C3 := Lib.hid (fun (W : World) (u : Value) (r : RowA W u (putsL S ++ P)) => routes_calls _ u (by omega) wA W r)
  rw [e1, e3] at C2
  rw [e1, e2] at C3
  have R2 := Lib.hid r2
  have hpl := putsL_len S
  have hX : (runX [] (putsL S)).length = S.length := by rw [runX_len, putsL_len]
  have hby : ((putsL S).length + P.length) * 72 ≤ 140737488355328 := by omega
  have h63 : (putsL S).length + P.length ≤ maxLen := by unfold maxLen; omega
  obtain ⟨i0, hii, hz0, hz1, hz2⟩ := info_parts info_act
  obtain ⟨p1, c1, rfl⟩ := r1.form
  obtain ⟨p2, c2, rfl, _, ap⟩ := r2.at
  have AP := Lib.hid ap
  obtain ⟨n1, hn1⟩ : ∃ n, S.length = n := ⟨_, rfl⟩
  obtain ⟨n, hn⟩ : ∃ n, P.length = n := ⟨_, rfl⟩
  have HN := Lib.hid hn
  have HN1 := Lib.hid hn1
  have HP := Lib.hid (show P.length ≤ 40 from hP)
  obtain ⟨PS, hPS⟩ : ∃ X, putsL S = X := ⟨_, rfl⟩
  rw [hPS] at C1 C2 C3 hby h63 hpl hX
  have HX := Lib.hid hX
  rw [hn1] at C1 hS ⊢
  rw [hn] at R2 hP1 hP ⊢
  clear r1 r2 ap wS wA e1 e2 e3 hPS hX hpl hn1 hn
  obtain ⟨EE, hEE⟩ : ∃ E, appE S P = E := ⟨_, rfl⟩
  have HEE := Lib.hid hEE
  rw [hEE]
  clear hEE
  go_enter Try.func38, Try.ntmps38
  go_wp2_with fail
  refine C1.out.mono ?_
  rintro e w1 ⟨u1, rfl, o1, hb1⟩
  have R21 := Lib.hid (R2.out.keep hb1)
  have O1 := Lib.hid o1
  have hs1 := hb1.size
  clear C1 R2 o1
  go_upto_region 2 with (at_builtin; refine wpList_append_any rfl _ _ 26 rfl w.heap.size 34 i0 _ 72 Try.underlying26 hii hz0 hz1 hz2 rfl (by decide) acs_len acs_one _ PS.length (rowOf acs PS) rfl O1.out _ P rfl R21.out hby h63 hs1 ?_; intro v2 w2 ho2 hb2)
  have b2 : Below w.heap.size w w2 := hb1.trans hb2
  have O2 : Hid (OwnA w2 w.heap.size v2 (PS ++ P)) := Lib.hid (by unfold OwnA; rw [List.length_append, rowOf_app]; exact ho2)
  clear ho2 hb2 hb1 O1 R21 hii hz0 hz1 hz2
  go_wp2_with fail
  refine (C2.out _ _ (OwnA.row O2.out)).mono ?_
  rintro e w3 ⟨u3, rfl, o3, hb3⟩
  have b3 := thenBelow b2 hb3
  have O23 := Lib.hid (ownsKeep O2.out hb3)
  obtain ⟨g, cap, hu3, hgl, hcap⟩ : ∃ g cap, u3 = .slice (some ⟨g, 0, none⟩) (n1 + n) cap ∧ g < w3.heap.size ∧ n1 + n ≤ cap := by
    have hlen : (runX [] PS ++ runX S P).length = n1 + n := by rw [List.length_append, HX.out, runX_len, HN1.out, HN.out]
    rcases o3.2 with ⟨_, h0⟩ | ⟨g, cap, cur, e, hb, hg, hc, _⟩
    · rw [hlen] at h0; omega
    · rw [hlen] at e hc
      exact ⟨g, cap, e, (Array.getElem?_eq_some_iff.1 hg).1, hc⟩
  have XC := Lib.hid (show ∀ i (hi : i < n), RecAt w3 g ((n1 + i) * 3) (xcs (doA (appL S (P.take i)) (P[i]'(by rw [HN.out]; exact hi)))) from fun i hi => by
    have hP' : i < P.length := by rw [HN.out]; exact hi
    have hlt : n1 + i < (runX [] PS ++ runX S P).length := by rw [List.length_append, HX.out, runX_len, HN1.out, HN.out]; omega
    have he : (runX [] PS ++ runX S P)[n1 + i] = doA (appL S (P.take i)) P[i] := by
      have h2 := runX_atD P S i hP'
      have h3 : (runX [] PS ++ runX S P)[n1 + i]? = some (doA (appL S (P.take i)) P[i]) := by
        rw [List.getElem?_append_right (by rw [HX.out, HN1.out]; omega), HX.out, HN1.out, Nat.add_sub_cancel_left]; exact h2
      rw [List.getElem?_eq_getElem hlt] at h3
      exact Option.some.inj h3
    rw [hu3] at o3
    intro j u hj
    have hj3 : j < 3 := by
      rcases Nat.lt_or_ge j 3 with h | h
      · exact h
      · rw [List.getElem?_eq_none (by rw [xcs_len]; exact h)] at hj; cases hj
    exact owns_cellAt o3 ((n1 + i) * 3 + j) u (by rw [rowOf_at xcs 3 xcs_len _ (n1 + i) hlt j hj3, he]; exact hj))
  subst hu3
  clear o3 hb3 C2 O2 b2
  have hcl : n1 < cap := by omega
  go_upto_region 5 with fail
  go_wp2
  have RV := Lib.hid (OwnA.row O23.out)
  clear O23 hl
  go_loopw [29] (fun i wr => ∃ k : Nat, k ≤ n ∧ i = .int .i64 k ∧ Below w3.heap.size w3 wr ∧ Hid (EE = appE (appL S (P.take k)) (P.drop k))) (fun i _ => n - (intOf i).toNat)
  case atStart => exact ⟨0, by omega, rfl, Below.refl _ _, Lib.hid HEE.out.symm⟩
  case round =>
    obtain ⟨k, hk, rfl, hnk, HE⟩ := hrel
    by_cases hlt : k < n
    · have hkl : k < P.length := by rw [HN.out]; exact hlt
      obtain ⟨g2, o2, rfl, hg2, hrec⟩ := AP.out k hkl
      obtain ⟨y0, y1, y2, y3, y4, y5, y6, y7, y8⟩ := actCells (hrec.keep (b3.trans (hnk.mono b3.size)) hg2)
      have hx := XC.out k hlt
      have x0 := (hnk.cell (p := ⟨g, (n1 + k) * 3, none⟩) hgl).trans (hx 0 _ rfl)
      have x1 := (hnk.cell (p := ⟨g, (n1 + k) * 3 + 1, none⟩) hgl).trans (hx 1 _ rfl)
      have x2 := (hnk.cell (p := ⟨g, (n1 + k) * 3 + 2, none⟩) hgl).trans (hx 2 _ rfl)
      rw [Nat.add_mul] at x0 x1 x2
      have hst : actE (appL S (P.take k)) P[k] ≠ 0 → EE = actE (appL S (P.take k)) P[k] := fun h => by rw [HE.out, appE_stop hkl h]
      have hgo : actE (appL S (P.take k)) P[k] = 0 → EE = appE (appL S (P.take (k + 1))) (P.drop (k + 1)) := fun h => by rw [HE.out, appE_drop hkl h]
      unfold actE at hst hgo
      have HST := Lib.hid hst
      have HGO := Lib.hid hgo
      have hlt' : (k : Int) < (n : Int) := by omega
      clear hst hgo hx hrec y1 y2 y3 y4 y5 y6 y7 y8
      generalize doA (appL S (P.take k)) P[k] = x at x0 x1 x2 HST HGO
      generalize P[k] = a at y0 HST HGO
      have hnA := hnk.alloc hnk.size (.cells #[.int .i64 x.1, .int .i64 x.2.1, .int .i64 x.2.2] 79)
      have hbA := (Below.refl wr.heap.size wr).alloc (Nat.le_refl _) (.cells #[.int .i64 x.1, .int .i64 x.2.1, .int .i64 x.2.2] 79)
      have y0' := (hbA.cell (p := ⟨g2, o2 + k * 9, none⟩) (Nat.lt_of_lt_of_le hg2 (Nat.le_trans b3.size hnk.size))).trans y0
      have hbZ : Below w.heap.size w (wr.alloc (.cells #[.int .i64 x.1, .int .i64 x.2.1, .int .i64 x.2.2] 79)) := thenBelow b3 hnA
      have HBZ := Lib.hid hbZ
      clear hbZ hbA
      by_cases hkd : a.k = 1 ∨ a.k = 2
      · have k1 : a.k = 1 ∨ a.k = 2 := hkd
        have HG2 := Lib.hid (show (x.1 ≠ 0 → EE = x.1) ∧ (x.1 = 0 → EE = appE (appL S (P.take (k + 1))) (P.drop (k + 1))) from
          ⟨fun h => by have := HST.out; rw [if_pos hkd] at this; exact this h, fun h => by have := HGO.out; rw [if_pos hkd] at this; exact this h⟩)
        clear hkd HST HGO HE y0
        by_cases hc : x.1 = 0
        · have HE2 := Lib.hid (HG2.out.2 hc)
          have hc' : (x.1 == 0) = true := by simp [hc]
          clear HG2 hc
          rcases k1 with k1 | k1
          all_goals
            rw [k1] at y0'
            clear k1
            go_wp2_with fail
            go_roundw
            case rel => exact ⟨k + 1, by omega, by go_num, hnA, HE2⟩
            case measure => simp [intOf]; omega
        · have HE2 := Lib.hid (HG2.out.1 hc)
          have HR : Hid (appR S P = []) := Lib.hid (by rw [appR, HEE.out, HE2.out, if_neg hc])
          have hc' : (x.1 == 0) = false := by simp [hc]
          clear HG2 hc
          rcases k1 with k1 | k1
          all_goals
            rw [k1] at y0'
            clear k1
            go_wp2_with fail
            go_region
            go_wp2
            go_ret2
            exact ⟨.slice none 0 0, by rw [HE2.out]; simp, by rw [HR.out]; exact World.ownsRow_nil _ _ _ _, HBZ.out.drew⟩
      · obtain ⟨kk, hkk⟩ : ∃ kk, a.k = kk := ⟨_, rfl⟩
        have k1 : (kk == 1) = false := by simp; omega
        have k2 : (kk == 2) = false := by simp; omega
        have k3 : (kk != 1) = true := by simp; omega
        have k4 : (kk != 2) = true := by simp; omega
        have k5 : ¬ kk = 1 := by omega
        have k6 : ¬ kk = 2 := by omega
        rw [hkk] at y0'
        have HE2 := Lib.hid (show EE = 3 by have := HST.out; rw [if_neg hkd] at this; exact this (by decide))
        have HR : Hid (appR S P = []) := Lib.hid (by rw [appR, HEE.out, HE2.out, if_neg (by decide)])
        clear hkd HST HGO HE hkk y0
        go_wp2
        go_ret2
        exact ⟨.slice none 0 0, by rw [HE2.out]; simp, by rw [HR.out]; exact World.ownsRow_nil _ _ _ _, HBZ.out⟩
    · obtain rfl : k = n := by omega
      have HE0 : Hid (EE = 0) := Lib.hid (by rw [HE.out, List.drop_eq_nil_of_le (by rw [HN.out]; exact Nat.le_refl _)]; rfl)
      have HR : Hid (appR S P = appL S P) := Lib.hid (by rw [appR, HEE.out, HE0.out, if_pos rfl])
      have b4 := thenBelow b3 hnk
      have C3' := Lib.hid (C3.out wr v2 (RV.out.keep hnk))
      clear HE XC AP C3 RV
      go_wp2_with fail
      refine C3'.out.mono ?_
      rintro e w5 ⟨u5, rfl, o5, hb5⟩
      have O5 := Lib.hid (ownsLow o5 b4.size)
      have b5 := thenBelow b4 hb5
      clear C3' o5 hb5
      go_wp2
      go_ret2
      exact ⟨u5, by rw [HE0.out]; simp, by rw [HR.out]; exact O5.out, b5⟩
end Go.Proofs.Ytmjlmfbceccjdaa
/-
  slices.Chunk of acts: the parts of a row, one by one.
-/
namespace Go.Proofs.Ytmjlmfbceccjdaa
open Go.RowKit Go.Shelf
set_option linter.unusedVariables false
set_option linter.unusedSimpArgs false
attribute [local go_sem] Oper.semAt_some

/-- What a round of a loop over the parts leaves: all blocks below M but A and B. -/
def KpB (M A B : Nat) (W W' : World) : Prop := W.heap.size ≤ W'.heap.size ∧ ∀ k, k < M → k ≠ A → k ≠ B → W'.heap[k]? = W.heap[k]?
theorem KpB.trans {M A B : Nat} {X Y Z : World} (h : KpB M A B X Y) (g : KpB M A B Y Z) : KpB M A B X Z := ⟨Nat.le_trans h.1 g.1, fun k hk hn hb => (g.2 k hk hn hb).trans (h.2 k hk hn hb)⟩
theorem KpB.below {M A B n : Nat} {X Y : World} (h : Below n X Y) (hM : M ≤ n) : KpB M A B X Y := ⟨h.size, fun k hk _ _ => h.block k (Nat.lt_of_lt_of_le hk hM)⟩
theorem KpB.cell {M A B : Nat} {X Y : World} (h : KpB M A B X Y) {p : Addr} (hp : p.block < M) (hA : p.block ≠ A) (hB : p.block ≠ B) : Y.cell? p = X.cell? p := World.cell?_of_block (h.2 p.block hp hA hB)
/-- The k-th part of forty acts. -/
def partV (g o N k : Nat) : Value := .slice (some ⟨g, o + k * 360, none⟩) (min 40 (N - k * 40)) (min 40 (N - k * 40))
theorem chunk_calls (p : Option Addr) (N c : Nat) (w : World) :
    Calls Try.prog 37 #[.slice p N c, .int .i64 40] w fun e w' => e = .returned (.func (.func 65) #[] #[.pointer (some ⟨w.heap.size, 0, none⟩), .pointer (some ⟨w.heap.size + 1, 0, none⟩)]) ∧ (w.alloc (.cells #[.slice p N c] 26)).alloc (.cells #[.int .i64 40] 3) = w' := by
  go_enter Try.func37, Try.ntmps37
  go_wp2
  go_ret
  exact ⟨by simp, rfl⟩
set_option maxRecDepth 100000 in
set_option maxHeartbeats 4000000 in
theorem chunk1_in (n : Nat) (l M A B Bs Bn g o N c K : Nat) (p : Option Addr) (J Jx : List Nat → World → Prop)
    (hY : ∀ pre x W, J pre W → pre.length < K → x < K → YieldAt Fence.wide (n - 1) Try.prog l #[partV g o N x] W fun e W' => (e = .returned (.bool true) ∧ J (pre ++ [x]) W' ∧ KpB M A B W W') ∨ (e = .returned (.bool false) ∧ Jx (pre ++ [x]) W'))
    (W : World) (hJ : AbidesFrom W.heap.size J) (hM : M ≤ W.heap.size) (hN : N ≤ 120) (hc : N ≤ c) (hp : 0 < N → p = some ⟨g, o, none⟩)
    (hK : K = (N + 39) / 40)
    (hBs : Bs < M ∧ Bs ≠ A ∧ Bs ≠ B) (hBn : Bn < M ∧ Bn ≠ A ∧ Bn ≠ B) (cS : W.cell? ⟨Bs, 0, none⟩ = some (.slice p N c)) (cN : W.cell? ⟨Bn, 0, none⟩ = some (.int .i64 40)) (h0 : J [] W) :
    CallsIn Fence.wide n Try.prog 65 #[.func (.yield l) #[] #[], .pointer (some ⟨Bs, 0, none⟩), .pointer (some ⟨Bn, 0, none⟩)] W fun e W' => (∃ v, e = .returned v) ∧
      ((∃ ys, ys = List.range K ∧ J ys W') ∨ (∃ pre, (∃ j, j ≤ K ∧ pre = List.range j) ∧ Jx pre W')) := by
  have HY := Lib.hid hY
  have HJ := Lib.hid hJ
  have HK := Lib.hid hK
  have HP := Lib.hid hp
  clear hY hJ hK hp
  refine callsIn_of_wp Try.func65 rfl trivial ?_ rfl
  simp only [Try.ntmps65, List.size_toArray, List.length_cons, List.length_nil, Nat.reduceAdd, Nat.reduceSub, Array.replicate_succ, Array.replicate_zero, List.push_toArray, List.append_toArray, List.nil_append, List.cons_append]
  gi_wp2
  gi_loopw [4] (fun i wr => ∃ k m : Nat, m = k * 40 ∧ k ≤ K ∧ i = .int .i64 (m : Int) ∧ Hid (J (List.range k) wr) ∧ KpB M A B W wr ∧ W.heap.size ≤ wr.heap.size) (fun i _ => N + 40 - (intOf i).toNat)
  case atStart => exact ⟨0, 0, rfl, by omega, rfl, Lib.hid h0, ⟨Nat.le_refl _, fun _ _ _ _ => rfl⟩, Nat.le_refl _⟩
  case round =>
    obtain ⟨k, m, hm, hk, rfl, JS, hkp, hsz⟩ := hrel
    have HM := Lib.hid hm
    have hM' : M ≤ wr.heap.size := Nat.le_trans hM hsz
    have s0 := (hkp.cell (p := ⟨Bs, 0, none⟩) hBs.1 hBs.2.1 hBs.2.2).trans cS
    have n0 := (hkp.cell (p := ⟨Bn, 0, none⟩) hBn.1 hBn.2.1 hBn.2.2).trans cN
    by_cases hlt : m < N
    · obtain rfl := HP.out (by omega)
      have hklt : (m : Int) < (N : Int) := by omega
      have hmN : m ≤ N := by omega
      have hNc : N - m ≤ c - m := by omega
      clear hm
      gi_wp2
      obtain ⟨q, hq⟩ : ∃ q, min 40 (N - m) = q := ⟨_, rfl⟩
      have hif : (if ((N - m : Nat) : Int) < 40 then ((N - m : Nat) : Int) else 40) = (q : Int) := by split <;> omega
      have hV : partV g o N k = .slice (some ⟨g, o + m * 9, none⟩) q q := by
        have e1 : o + k * 360 = o + m * 9 := by rw [HM.out]; omega
        have e2 : min 40 (N - k * 40) = q := by rw [← HM.out]; exact hq
        rw [partV, e1, e2]
      have FL : Hid ((List.range k).length < K) := Lib.hid (by rw [List.length_range, HK.out]; have := HM.out; omega)
      have FR : Hid (List.range (k + 1) = List.range k ++ [k]) := Lib.hid List.range_succ
      have bD : Below wr.heap.size wr wr.drew := (Below.refl _ _).drew
      have J1 := Lib.hid (HJ.out _ _ _ none JS.out (below_grownNone bD) (fun _ h => by cases h))
      have hq1 : m + q ≤ N := by omega
      have hq2 : m + q ≤ c := by omega
      have hq3 : q ≤ 40 := by omega
      have hkp1 := hkp.trans (KpB.below (A := A) (B := B) bD hM')
      clear JS hq
      obtain ⟨fn, tmps, assign, body, hy', hR⟩ := HY.out _ k wr.drew J1.out FL.out (by rw [HK.out]; have := HM.out; omega)
      rw [hV] at hy'
      gi_region
      all_goals gi_wp2
      have hk1 : k + 1 ≤ K := by rw [HK.out]; have := HM.out; omega
      have hme : m + 40 = (k + 1) * 40 := by have := HM.out; omega
      refine ⟨fun h => by simp [Fence.wide] at h, hR.mono ?_⟩
      rintro e W3 (⟨rfl, hJ3, hk3⟩ | ⟨rfl, hJx3⟩)
      · have n3 := ((hkp1.trans hk3).cell (p := ⟨Bn, 0, none⟩) hBn.1 hBn.2.1 hBn.2.2).trans cN
        have hs3 : W.heap.size ≤ W3.heap.size := (hkp1.trans hk3).1
        gi_wp2
        go_roundw
        case rel => exact ⟨k + 1, m + 40, hme, hk1, by go_num, Lib.hid (by rw [FR.out]; exact hJ3), hkp1.trans hk3, hs3⟩
        case measure => simp [intOf]; omega
      · gi_wp2
        refine bodyPost_ret (results_none rfl _ _ _) rfl ?_
        exact ⟨⟨_, rfl⟩, .inr ⟨_, ⟨k + 1, hk1, FR.out.symm⟩, hJx3⟩⟩
    · have hkK : k = K := by have := HK.out; omega
      rw [hkK] at JS
      have hnlt : ¬ (m : Int) < (N : Int) := by omega
      gi_wp2
      go_end0
      exact ⟨⟨_, rfl⟩, .inl JS.out⟩
end Go.Proofs.Ytmjlmfbceccjdaa
/-
  The parts of a row of acts: a part is a row; all parts in their order are the whole.
-/
namespace Go.Proofs.Ytmjlmfbceccjdaa
open Go.RowKit
set_option linter.unusedVariables false
set_option linter.unusedSimpArgs false
/-- The x-th part of forty acts. -/
def partA (P : List ActT) (x : Nat) : List ActT := (P.drop (x * 40)).take 40
theorem partA_len (P : List ActT) (x : Nat) : (partA P x).length = min 40 (P.length - x * 40) := by rw [partA, List.length_take, List.length_drop]
theorem part_row {w : World} {g o c : Nat} {P : List ActT} {x : Nat} (r : RowA w (.slice (some ⟨g, o, none⟩) P.length c) P) (hx : x * 40 < P.length) : RowA w (partV g o P.length x) (partA P x) := by
  rcases r with ⟨e0, _⟩ | ⟨g', o', c', e, hg, hc, hr⟩
  · rw [e0] at hx; simp at hx
  · cases e
    refine .inr ⟨g, o + x * 360, min 40 (P.length - x * 40), by rw [partA_len]; rfl, hg, by rw [partA_len]; exact Nat.le_refl _, fun i hi => ?_⟩
    have hl : i < 40 ∧ x * 40 + i < P.length := by rw [partA_len] at hi; omega
    have h2 := hr (x * 40 + i) hl.2
    have e1 : (partA P x)[i] = P[x * 40 + i]'hl.2 := by simp [partA]
    have e2 : o + x * 360 + i * 9 = o + (x * 40 + i) * 9 := by omega
    rw [e1, e2]; exact h2
theorem partA_words {P : List ActT} (h : WordsA P) (x : Nat) : WordsA (partA P x) := fun a ha => h a (List.mem_of_mem_drop (List.mem_of_mem_take ha))
/-- The parts of a list of numbers, one behind the other. -/
def ptA (P : List ActT) (l : List Nat) : List ActT := (l.map (partA P)).flatten
theorem ptA_snoc (P : List ActT) (l : List Nat) (x : Nat) : ptA P (l ++ [x]) = ptA P l ++ partA P x := by simp [ptA]
theorem ptA_range (P : List ActT) : ∀ j, ptA P (List.range j) = P.take (j * 40)
  | 0 => by simp [ptA]
  | j + 1 => by
    rw [List.range_succ, ptA_snoc, ptA_range P j, partA, show (j + 1) * 40 = j * 40 + 40 by omega, List.take_add]
theorem ptA_all (P : List ActT) {K : Nat} (hK : K = (P.length + 39) / 40) : ptA P (List.range K) = P := by
  rw [ptA_range]; exact List.take_of_length_le (by omega)
/-- The first parts went wrong: so went all. -/
theorem ptA_bad {S : List RT} {P : List ActT} {j : Nat} (h : appE S (ptA P (List.range j)) ≠ 0) : appE S P = appE S (ptA P (List.range j)) := by
  rw [ptA_range] at h ⊢
  have e : P = P.take (j * 40) ++ P.drop (j * 40) := (List.take_append_drop _ _).symm
  have h3 : appE S P = appE S (P.take (j * 40) ++ P.drop (j * 40)) := congrArg _ e
  rw [h3]; exact appE_bad _ _ _ h
end Go.Proofs.Ytmjlmfbceccjdaa
/-
  delta.Apply: the walk.
-/
namespace Go.Proofs.Ytmjlmfbceccjdaa
open Go.RowKit Go.Shelf
set_option linter.unusedVariables false
set_option linter.unusedSimpArgs false
attribute [local go_sem] Oper.semAt_some
/-- What Apply answers. -/
def dapE (l : List RT) (P : List ActT) : Int := if tabE l = 0 then (if 120 < P.length then 1 else appE (sorL l) P) else tabE l
def dapL (l : List RT) (P : List ActT) : List RT := if dapE l P = 0 then appL (sorL l) P else []
theorem Box.notrow {X : World} {b : Nat} {v : Value} {row : Option Nat} (h : Box X b v) (hr : ∀ r, row = some r → ∃ o : Obj, X.heap[r]? = some o ∧ o.isCells = false) : row ≠ some b := fun e => by
  obtain ⟨ob, h1, h2⟩ := hr b e
  have h := h.1
  unfold World.cell? at h
  rw [h1] at h
  cases ob <;> simp [Obj.isCells] at h h2
theorem own_notrow {X : World} {base : Nat} {v : Value} {L : List RT} {row : Option Nat} (h : OwnR X base v L) (hr : ∀ r, row = some r → ∃ o : Obj, X.heap[r]? = some o ∧ o.isCells = false) : v.ownBlock = none ∨ v.ownBlock ≠ row := by
  rcases h.2 with ⟨e, _⟩ | ⟨g, cap, cur, e, _, hh, _⟩
  · left; rw [e]; rfl
  · right; rw [e]; intro e2
    obtain ⟨ob, h1, h2⟩ := hr g e2.symm
    rw [hh] at h1; cases h1; simp [Obj.isCells] at h2
theorem KpB.setA {M A B : Nat} (W : World) (u : Value) : KpB M A B W (W.setCell ⟨A, 0, none⟩ u) := ⟨by simp, fun k _ hk _ => Below.heap_setCell _ _ _ k hk⟩
theorem KpB.setB {M A B : Nat} (W : World) (u : Value) : KpB M A B W (W.setCell ⟨B, 0, none⟩ u) := ⟨by simp, fun k _ _ hk => Below.heap_setCell _ _ _ k hk⟩
theorem map_minR {K j : Nat} (h : j ≤ K) : (List.range j).map (fun x => min x (K - 1)) = List.range j := by
  conv => rhs; rw [← List.map_id (List.range j)]
  exact List.map_congr_left fun x hx => by have := List.mem_range.1 hx; show min x (K - 1) = x; omega
theorem dap_finish {w Wz : World} {tm : Array Value} {l : List RT} {P : List ActT} {u : Value} {E : Int} (hE : dapE l P = E) (X0 : Box Wz w.heap.size u) (X1 : Box Wz (w.heap.size + 1) (.int .i64 E))
    (h4 : tm[4]? = some (.pointer (some ⟨w.heap.size, 0, none⟩))) (h5 : tm[5]? = some (.pointer (some ⟨w.heap.size + 1, 0, none⟩))) (own : OwnR Wz w.heap.size u (dapL l P)) (b : Below w.heap.size w Wz) :
    LeavesInM Fence.wide 3 Try.prog Try.f15 tm (fun e w' => ∃ u, e = .returned (.tuple #[u, .int .i64 (dapE l P)]) ∧ OwnR w' w.heap.size u (dapL l P) ∧ Below w.heap.size w w') [] .returning Wz := by
  refine ⟨.tuple #[u, .int .i64 E], ?_, u, by rw [hE], own, b⟩
  simp [results, Try.results15, Try.f15, go_sem, h4, h5, X0.1, X1.1]
set_option maxRecDepth 100000 in
set_option maxHeartbeats 4000000 in
theorem dapply_calls (l : List RT) (P : List ActT) (v t : Value) (hlen : l.length ≤ 9223372036854775807) (hw : WordsR l) (hP : P.length ≤ 9223372036854775807) (wP : WordsA P) (w : World) (r1 : RowR w v l) (r2 : RowA w t P) :
    Calls Try.prog 15 #[v, t] w fun e w' => ∃ u, e = .returned (.tuple #[u, .int .i64 (dapE l P)]) ∧ OwnR w' w.heap.size u (dapL l P) ∧ Below w.heap.size w w' := by
  have C1 := Lib.hid (fun (W : World) (row : RowR W v l) => sorted_calls l v hlen hw W row)
  have R1 := Lib.hid r1
  have R2 := Lib.hid r2
  obtain ⟨p1, c1, rfl⟩ := r1.form
  obtain ⟨p2, c2, rfl⟩ := r2.form
  obtain ⟨N, hN⟩ : ∃ N, P.length = N := ⟨_, rfl⟩
  have HN := Lib.hid hN
  rw [hN] at R2 hP ⊢
  clear r1 r2 hN
  have HW := Lib.hid wP
  clear wP
  refine (callsIn_wide (n := 3)).1 ?_
  refine callsIn_of_wp_marks Try.func15 rfl trivial ?_ rfl
  simp only [Try.ntmps15, List.size_toArray, List.length_cons, List.length_nil, Nat.reduceAdd, Nat.reduceSub, Array.replicate_succ, Array.replicate_zero, List.push_toArray, List.append_toArray, List.nil_append, List.cons_append]
  have B0 := (Box.new w (.slice none 0 0) 23).alloc (.cells #[.int .i64 0] 36)
  have B1 := Box.new (w.alloc (.cells #[.slice none 0 0] 23)) (.int .i64 0) 36
  have bA : Below w.heap.size w ((w.alloc (.cells #[.slice none 0 0] 23)).alloc (.cells #[.int .i64 0] 36)) := ((Below.refl _ _).alloc (Nat.le_refl _) _).alloc (by simp) _
  simp only [World.size_alloc] at B0 B1
  gi_wp2_with (fail)
  refine ⟨trivial, (callsIn_wide.2 (C1.out _ (R1.out.keep bA))).mono ?_⟩
  rintro e w1 ⟨u, rfl, o1, hb1⟩
  have hs0 : ((w.alloc (.cells #[.slice none 0 0] 23)).alloc (.cells #[.int .i64 0] 36)).heap.size = w.heap.size + 2 := by simp
  obtain ⟨W0, hW0⟩ : ∃ W0, (w.alloc (.cells #[.slice none 0 0] 23)).alloc (.cells #[.int .i64 0] 36) = W0 := ⟨_, rfl⟩
  rw [hW0] at B0 B1 bA hb1 o1 hs0
  rw [hs0] at hb1 o1
  clear hW0 C1 R1
  have B0 : Box w1 w.heap.size (.slice none 0 0) := B0.keep hb1 (by omega)
  have B1 : Box w1 (w.heap.size + 1) (.int .i64 0) := B1.keep hb1 (by omega)
  have b1 : Below w.heap.size w w1 := bA.trans (hb1.mono (by omega))
  have hs1 := hb1.size
  rw [hs0] at hs1
  have O1 := Lib.hid o1
  obtain ⟨up, uc, rfl⟩ := o1.row.form
  clear o1 bA hb1 hs0
  obtain ⟨x0, x1, x2⟩ := id B0
  obtain ⟨y0, y1, y2⟩ := id B1
  by_cases h0 : tabE l = 0
  · by_cases h120 : 120 < N
    · have h120' : (120 : Int) < (N : Int) := by omega
      have hE : Hid (dapE l P = 1) := Lib.hid (by rw [dapE, if_pos h0, HN.out, if_pos h120])
      rw [h0]
      gi_wp2
      have bZ := ((((b1.setCell (p := ⟨w.heap.size, 0, none⟩) (Nat.le_refl _) (.slice none 0 0)).setCell (p := ⟨w.heap.size + 1, 0, none⟩) (Nat.le_succ _) (.int .i64 1)).alloc (by simp; omega) (.cells #[.slice up (sorL l).length uc] 23)).alloc (by simp; omega) (.cells #[.int .i64 0] 36))
      have X0 := (((B0.store (.slice none 0 0)).far (p := ⟨w.heap.size + 1, 0, none⟩) (by simp) (.int .i64 1)).alloc (.cells #[.slice up (sorL l).length uc] 23)).alloc (.cells #[.int .i64 0] 36)
      have X1 := ((Box.store (B1.far (p := ⟨w.heap.size, 0, none⟩) (by simp) (.slice none 0 0)) (.int .i64 1)).alloc (.cells #[.slice up (sorL l).length uc] 23)).alloc (.cells #[.int .i64 0] 36)
      exact dap_finish hE.out X0 X1 rfl rfl (by rw [dapL, hE.out, if_neg (by decide)]; exact World.ownsRow_nil _ _ _ _) bZ
    · have h120' : ¬ (120 : Int) < (N : Int) := by omega
      rw [h0]
      gi_wp2_with (fail)
      refine ⟨trivial, (callsIn_wide.2 (chunk_calls _ _ _ _)).mono ?_⟩
      rintro e w2 ⟨rfl, rfl⟩
      gi_wp2
      obtain ⟨g, o, hcap, hp⟩ : ∃ g o, N ≤ c2 ∧ (0 < N → p2 = some ⟨g, o, none⟩ ∧ g < w.heap.size) := by
        have hn := HN.out
        rcases R2.out with ⟨h0, p, c, e⟩ | ⟨g, o, c, e, hg, hc, _⟩
        · cases e; exact ⟨0, 0, by omega, fun h => by omega⟩
        · cases e; exact ⟨g, o, by omega, fun _ => ⟨rfl, hg⟩⟩
      obtain ⟨K, hK⟩ : ∃ K, K = (N + 39) / 40 := ⟨_, rfl⟩
      have HK := Lib.hid hK
      clear hK
      have XR := ((((Box.new w1 (.slice up (sorL l).length uc) 23).alloc (.cells #[.int .i64 0] 36)).alloc (.cells #[.slice p2 N c2] 26)).alloc (.cells #[.int .i64 40] 3))
      have XE := (((Box.new (w1.alloc (.cells #[.slice up (sorL l).length uc] 23)) (.int .i64 0) 36).alloc (.cells #[.slice p2 N c2] 26)).alloc (.cells #[.int .i64 40] 3))
      have XS := ((Box.new ((w1.alloc (.cells #[.slice up (sorL l).length uc] 23)).alloc (.cells #[.int .i64 0] 36)) (.slice p2 N c2) 26).alloc (.cells #[.int .i64 40] 3))
      have XN := (Box.new (((w1.alloc (.cells #[.slice up (sorL l).length uc] 23)).alloc (.cells #[.int .i64 0] 36)).alloc (.cells #[.slice p2 N c2] 26)) (.int .i64 40) 3)
      simp only [World.size_alloc] at XR XE XS XN
      have bC : Below w1.heap.size w1 ((((w1.alloc (.cells #[.slice up (sorL l).length uc] 23)).alloc (.cells #[.int .i64 0] 36)).alloc (.cells #[.slice p2 N c2] 26)).alloc (.cells #[.int .i64 40] 3)) := by go_grown
      have hsz : ((((w1.alloc (.cells #[.slice up (sorL l).length uc] 23)).alloc (.cells #[.int .i64 0] 36)).alloc (.cells #[.slice p2 N c2] 26)).alloc (.cells #[.int .i64 40] 3)).heap.size = w1.heap.size + 4 := by simp
      obtain ⟨WC, hWC⟩ : ∃ W0, ((((w1.alloc (.cells #[.slice up (sorL l).length uc] 23)).alloc (.cells #[.int .i64 0] 36)).alloc (.cells #[.slice p2 N c2] 26)).alloc (.cells #[.int .i64 40] 3)) = W0 := ⟨_, rfl⟩
      rw [hWC] at XR XE XS XN bC hsz ⊢
      clear hWC
      have B0C := B0.keep bC B0.2.2
      have B1C := B1.keep bC B1.2.2
      have OC := Lib.hid (ownsKeep O1.out bC)
      have bW := thenBelow b1 bC
      clear B0 B1 x0 x1 x2 y0 y1 y2 O1 bC b1
      have stops : SeqStopsK Fence.wide 2 Try.prog 65 #[.pointer (some ⟨w1.heap.size + 1 + 1, 0, none⟩), .pointer (some ⟨w1.heap.size + 1 + 1 + 1, 0, none⟩)] (fun x => #[partV g o N (min x (K - 1))]) (KpB (w1.heap.size + 4) w1.heap.size (w1.heap.size + 1)) (fun ys => ys = List.range K) (fun pre => ∃ j, j ≤ K ∧ pre = List.range j) K WC := fun l J Jx W hW hJ _ hY h0 =>
        chunk1_in 2 l (w1.heap.size + 4) w1.heap.size (w1.heap.size + 1) (w1.heap.size + 1 + 1) (w1.heap.size + 1 + 1 + 1) g o N c2 K p2 J Jx (fun pre x W hj hl hx => by have h := hY pre x W hj hl; simp only [Nat.min_eq_left (show x ≤ K - 1 by omega)] at h; exact h) W hJ (by have := hW.size; omega) (by omega) hcap (fun h => (hp h).1) HK.out
          ⟨by omega, by omega, by omega⟩ ⟨by omega, by omega, by omega⟩ (XS.keep hW XS.2.2).1 (XN.keep hW XN.2.2).1 h0
      have ST := Lib.hid stops
      clear stops XS XN
      have IS : InvR (sorL l) := by rw [sorL, if_pos h0]; exact srt_inv h0
      obtain ⟨S, hS⟩ : ∃ S, sorL l = S := ⟨_, rfl⟩
      have HS := Lib.hid hS
      rw [hS] at OC XR IS ⊢
      have DE : Hid (dapE l P = appE S P) := Lib.hid (by rw [dapE, if_pos h0, HN.out, if_neg (by omega), HS.out])
      have DL : Hid (dapL l P = if appE S P = 0 then appL S P else []) := Lib.hid (by rw [dapL, DE.out, HS.out])
      clear hS
      refine wpIn_rangeFunc_ownH rfl (by omega) (gf := 65) (lb := #[.pointer (some ⟨w1.heap.size + 1 + 1, 0, none⟩), .pointer (some ⟨w1.heap.size + 1 + 1 + 1, 0, none⟩)]) rfl trivial (enters_of Try.func65 (by kernel_rfl) rfl)
        ST.out (fun h g => h.trans g) (fun W l o o' hl ho _ _ => ⟨by simp, fun k hk _ _ => World.putObj_heap_other (by rw [hsz] at hl; omega)⟩) (Below.refl _ _) (fun _ => rfl)
        (fun pre W => (Box W w.heap.size (.slice none 0 0) ∧ Box W (w.heap.size + 1) (.int .i64 0) ∧ (∃ u, Box W w1.heap.size u ∧ OwnR W (w.heap.size + 2) u (appL S (ptA P (pre.map fun x => min x (K - 1))))) ∧ (∃ E, Box W (w1.heap.size + 1) (.int .i64 E)) ∧ appE S (ptA P (pre.map fun x => min x (K - 1))) = 0 ∧ w1.heap.size + 4 ≤ W.heap.size) ∧ Below w.heap.size w W)
        (fun c pre W => (c = .ret ∧ Box W w.heap.size (.slice none 0 0) ∧ Box W (w.heap.size + 1) (.int .i64 (appE S (ptA P (pre.map fun x => min x (K - 1))))) ∧ appE S (ptA P (pre.map fun x => min x (K - 1))) ≠ 0 ∧ w1.heap.size + 4 ≤ W.heap.size) ∧ Below w.heap.size w W)
        (OwnFrom.and (Own.from (fun s X Y row hs hg hr => by
          obtain ⟨h1, h2, ⟨u, h3, h4⟩, ⟨E, h5⟩, h6, h7⟩ := hs
          exact ⟨h1.grown hg (h1.notrow hr), h2.grown hg (h2.notrow hr), ⟨u, h3.grown hg (h3.notrow hr), h4.kept hg (own_notrow h4 hr)⟩, ⟨E, h5.grown hg (h5.notrow hr)⟩, h6, Nat.le_trans h7 hg.size⟩) _) (ownFrom_below (Nat.le_refl _) (by omega)))
        (fun c => OwnFrom.and (Own.from (fun s X Y row hs hg hr => by
          obtain ⟨h0, h1, h2, h6, h7⟩ := hs
          exact ⟨h0, h1.grown hg (h1.notrow hr), h2.grown hg (h2.notrow hr), h6, Nat.le_trans h7 hg.size⟩) _) (ownFrom_below (Nat.le_refl _) (by omega)))
        ⟨⟨B0C, B1C, ⟨_, XR, OC.out⟩, ⟨0, XE⟩, rfl, by omega⟩, bW⟩
        (fun x a' W => a' = { tmps := #[.slice p1 l.length c1, .slice p2 N c2, undef, undef, .pointer (some ⟨w.heap.size, 0, none⟩), .pointer (some ⟨w.heap.size + 1, 0, none⟩), .pointer (some ⟨w1.heap.size, 0, none⟩), .pointer (some ⟨w1.heap.size + 1, 0, none⟩), partV g o N (min x (K - 1)), .tuple #[.slice up S.length uc, .int .i64 0], .slice p1 l.length c1, .tuple #[.slice up S.length uc, .int .i64 0], .slice up S.length uc, .int .i64 0, .int .i64 0, .bool false, undef, .slice p2 N c2, .int .i64 N, .bool (decide ((120 : Int) < (N : Int))), .slice p2 N c2, .func (.func 65) #[] #[.pointer (some ⟨w1.heap.size + 1 + 1, 0, none⟩), .pointer (some ⟨w1.heap.size + 1 + 1 + 1, 0, none⟩)], partV g o N (min x (K - 1)), undef, undef, undef, undef, undef, undef, undef, undef, undef, undef], defers := [] })
        (fun x a' _ X Y row hs hg hr => hs)
        ?assign ?body ?done ?stop
      case assign =>
        rintro ll pre x W KK hI hKK
        gi_wp2
        exact hKK _ _ (KeepsFrom.refl _ _) ⟨Nat.le_refl _, fun _ _ _ _ => rfl⟩ hI rfl
      case body =>
        rintro ll pre x a' W hl ⟨r, hr⟩ ⟨⟨h1, h2, ⟨u, h3, h4⟩, ⟨E, h5⟩, h6, h7⟩, hB⟩ rfl hlt
        have hy : min x (K - 1) * 40 < N := by have := HK.out; omega
        have hsn : ptA P ((pre ++ [x]).map fun x => min x (K - 1)) = ptA P (pre.map fun x => min x (K - 1)) ++ partA P (min x (K - 1)) := by rw [List.map_append, List.map_cons, List.map_nil, ptA_snoc]
        obtain ⟨y, hyx⟩ : ∃ y, min x (K - 1) = y := ⟨_, rfl⟩
        rw [hyx] at hy hsn ⊢
        have gE : appE S (ptA P ((pre ++ [x]).map fun x => min x (K - 1))) = appE (appL S (ptA P (pre.map fun x => min x (K - 1)))) (partA P y) := by rw [hsn]; exact appE_app _ _ S h6
        have gL : appL S (ptA P ((pre ++ [x]).map fun x => min x (K - 1))) = appL (appL S (ptA P (pre.map fun x => min x (K - 1)))) (partA P y) := by rw [hsn]; exact appL_app _ _ S
        obtain ⟨T, hT⟩ : ∃ T, appL S (ptA P (pre.map fun x => min x (K - 1))) = T := ⟨_, rfl⟩
        have IT : InvR T := by rw [← hT]; exact appL_inv _ IS
        rw [hT] at h4 gE gL
        have GE := Lib.hid gE
        have GL := Lib.hid gL
        clear hT gE gL hyx hsn
        have hpl : (partA P y).length = min 40 (N - y * 40) := by rw [partA_len, HN.out]
        have rP : RowA w (partV g o N y) (partA P y) := by
          have r2 := R2.out
          obtain ⟨rfl, _⟩ := hp (by omega)
          rw [← HN.out] at r2 hy ⊢
          exact part_row r2 hy
        have C := Lib.hid (fun (X : World) (hX : Below W.heap.size W X) => dplay_calls T (partA P y) u (partV g o N y) IT (by omega) (by omega) (partA_words HW.out y) X (OwnR.row (ownsKeep h4 hX)) (rP.keep (hB.trans (hX.mono hB.size))))
        obtain ⟨q, hq⟩ : ∃ q, min 40 (N - y * 40) = q := ⟨_, rfl⟩
        unfold partV at C ⊢
        rw [hq] at C ⊢
        clear rP
        have OT := Lib.hid h4
        obtain ⟨vp, vc, rfl⟩ := h4.row.form
        clear h4
        obtain ⟨z0, z1, z2⟩ := id h3
        obtain ⟨e0, e1, e2⟩ := id h5
        gi_wp2_with (fail)
        refine ⟨trivial, ((CallsIn.inRound ll (callsIn_wide.2 (C.out W (Below.refl _ _)))).mono ?_)⟩
        rintro e w3 ⟨u3, rfl, o3, hb3⟩
        have g1 := h1.keep hb3 h1.2.2
        have g2 := h2.keep hb3 h2.2.2
        have g3 := h3.keep hb3 h3.2.2
        have g5 := h5.keep hb3 h5.2.2
        have hKF := KeepsFrom.of_grownBy (B := WC.heap.size) (below_grownNone hb3) (fun _ e => by cases e)
        have hKp := KpB.below (M := w1.heap.size + 4) (A := w1.heap.size) (B := w1.heap.size + 1) hb3 h7
        have hB3 := thenBelow hB hb3
        have hs3 := hb3.size
        have h73 : w1.heap.size + 4 ≤ w3.heap.size := Nat.le_trans h7 hs3
        have OO := Lib.hid (ownsLow o3 (show w.heap.size + 2 ≤ W.heap.size by omega))
        have ON := Lib.hid (fun k e => (o3.lt k e).1)
        obtain ⟨vp3, vc3, rfl⟩ := (OwnR.row o3).form
        clear C OT o3 hb3 z0 z1 z2 e0 e1 e2 h1 h2 h3 h5
        obtain ⟨z0, z1, z2⟩ := id g3
        obtain ⟨e0, e1, e2⟩ := id g5
        obtain ⟨x0, x1, x2⟩ := id g1
        obtain ⟨y0, y1, y2⟩ := id g2
        have hne : ¬ w1.heap.size + 1 = w1.heap.size := by omega
        by_cases hz : appE T (partA P y) = 0
        · have HR : appR T (partA P y) = appL T (partA P y) := by rw [appR, if_pos hz]
          rw [HR] at OO ON ⊢
          rw [hz]
          gi_wp2
          have O4 := OO.out.kept (grownBy_setCell w3 ⟨w1.heap.size, 0, none⟩ (.slice vp3 (appL T (partA P y)).length vc3)) (.inr fun e => by have : W.heap.size ≤ w1.heap.size := ON.out _ e; omega)
          have O5 := O4.kept (grownBy_setCell _ ⟨w1.heap.size + 1, 0, none⟩ (.int .i64 0)) (.inr fun e => by have : W.heap.size ≤ w1.heap.size + 1 := ON.out _ e; omega)
          exact ⟨hKF.trans (((KeepsOthers.setCell _ _ _).from _).trans ((KeepsOthers.setCell _ _ _).from _)), hKp.trans ((KpB.setA _ _).trans (KpB.setB _ _)),
            ⟨(g1.far (p := ⟨w1.heap.size, 0, none⟩) (by show w.heap.size ≠ w1.heap.size; omega) _).far (p := ⟨w1.heap.size + 1, 0, none⟩) (by show w.heap.size ≠ w1.heap.size + 1; omega) _,
             (g2.far (p := ⟨w1.heap.size, 0, none⟩) (by show w.heap.size + 1 ≠ w1.heap.size; omega) _).far (p := ⟨w1.heap.size + 1, 0, none⟩) (by show w.heap.size + 1 ≠ w1.heap.size + 1; omega) _,
             ⟨_, (g3.store _).far (p := ⟨w1.heap.size + 1, 0, none⟩) (by show w1.heap.size ≠ w1.heap.size + 1; omega) _, by rw [GL.out]; exact O5⟩,
             ⟨0, Box.store (g5.far (p := ⟨w1.heap.size, 0, none⟩) (by show w1.heap.size + 1 ≠ w1.heap.size; omega) _) _⟩, GE.out.trans hz, by simp; omega⟩,
            (hB3.setCell (p := ⟨w1.heap.size, 0, none⟩) (by show w.heap.size ≤ w1.heap.size; omega) _).setCell (p := ⟨w1.heap.size + 1, 0, none⟩) (by show w.heap.size ≤ w1.heap.size + 1; omega) _⟩
        · have hz' : (appE T (partA P y) != 0) = true := by simpa using hz
          gi_wp2
          have k1 := (((g1.far (p := ⟨w1.heap.size, 0, none⟩) (by show w.heap.size ≠ w1.heap.size; omega) (.slice vp3 (appR T (partA P y)).length vc3)).far (p := ⟨w1.heap.size + 1, 0, none⟩) (by show w.heap.size ≠ w1.heap.size + 1; omega) (.int .i64 (appE T (partA P y)))).store (.slice none 0 0)).far (p := ⟨w.heap.size + 1, 0, none⟩) (by simp) (.int .i64 (appE T (partA P y)))
          have k2 := Box.store (((g2.far (p := ⟨w1.heap.size, 0, none⟩) (by show w.heap.size + 1 ≠ w1.heap.size; omega) (.slice vp3 (appR T (partA P y)).length vc3)).far (p := ⟨w1.heap.size + 1, 0, none⟩) (by show w.heap.size + 1 ≠ w1.heap.size + 1; omega) (.int .i64 (appE T (partA P y)))).far (p := ⟨w.heap.size, 0, none⟩) (by simp) (.slice none 0 0)) (.int .i64 (appE T (partA P y)))
          have kB := (((hB3.setCell (p := ⟨w1.heap.size, 0, none⟩) (by show w.heap.size ≤ w1.heap.size; omega) (.slice vp3 (appR T (partA P y)).length vc3)).setCell (p := ⟨w1.heap.size + 1, 0, none⟩) (by show w.heap.size ≤ w1.heap.size + 1; omega) (.int .i64 (appE T (partA P y)))).setCell (p := ⟨w.heap.size, 0, none⟩) (Nat.le_refl _) (.slice none 0 0)).setCell (p := ⟨w.heap.size + 1, 0, none⟩) (Nat.le_succ _) (.int .i64 (appE T (partA P y)))
          have kF := hKF.trans ((((KeepsOthers.setCell w3 ⟨w1.heap.size, 0, none⟩ (.slice vp3 (appR T (partA P y)).length vc3)).from WC.heap.size).trans ((KeepsOthers.setCell _ ⟨w1.heap.size + 1, 0, none⟩ (.int .i64 (appE T (partA P y)))).from _)).trans (((KeepsOthers.setCell _ ⟨w.heap.size, 0, none⟩ (.slice none 0 0)).from _).trans ((KeepsOthers.setCell _ ⟨w.heap.size + 1, 0, none⟩ (.int .i64 (appE T (partA P y)))).from _)))
          gi_region
          all_goals gi_wp2
          all_goals first
            | exact ⟨kF, ⟨rfl, k1, by rw [GE.out]; exact k2, by rw [GE.out]; exact hz, by simp; omega⟩, kB⟩
            | exact ⟨kF.trans (KeepsFrom.of_grownBy (below_grownNone ((Below.refl _ _).drew)) (fun _ e => by cases e)), ⟨rfl, k1.drew, by rw [GE.out]; exact k2.drew, by rw [GE.out]; exact hz, by simp; omega⟩, kB.drew⟩
      case done =>
        rintro D zs W hD rfl ⟨⟨h1, h2, ⟨u, h3, h4⟩, ⟨E, h5⟩, h6, h7⟩, hB⟩ hK'
        rw [map_minR (Nat.le_refl _), ptA_all P (by rw [HN.out]; exact HK.out)] at h4 h6
        obtain ⟨vp, vc, rfl⟩ := h4.row.form
        obtain ⟨z0, z1, z2⟩ := id h3
        obtain ⟨x0, x1, x2⟩ := id h1
        obtain ⟨y0, y1, y2⟩ := id h2
        gi_wp2
        have bS := (hB.setCell (p := ⟨w.heap.size, 0, none⟩) (Nat.le_refl _) (.slice vp (appL S P).length vc)).setCell (p := ⟨w.heap.size + 1, 0, none⟩) (Nat.le_succ _) (.int .i64 0)
        have X0 := (h1.store (.slice vp (appL S P).length vc)).far (p := ⟨w.heap.size + 1, 0, none⟩) (by simp) (.int .i64 0)
        have X1 := Box.store (h2.far (p := ⟨w.heap.size, 0, none⟩) (by simp) (.slice vp (appL S P).length vc)) (.int .i64 0)
        have O2 := h4.kept (grownBy_setCell W ⟨w.heap.size, 0, none⟩ (.slice vp (appL S P).length vc)) (.inr fun e => by have := (h4.lt w.heap.size e).1; omega)
        have O3 := O2.kept (grownBy_setCell _ ⟨w.heap.size + 1, 0, none⟩ (.int .i64 0)) (.inr fun e => by have := (O2.lt (w.heap.size + 1) e).1; omega)
        have hK2 := (KeepsOthers.setCell _ ⟨w.heap.size + 1, 0, none⟩ (.int .i64 0)).same D _ ((KeepsOthers.setCell W ⟨w.heap.size, 0, none⟩ (.slice vp (appL S P).length vc)).same D _ hK' rfl) rfl
        have gD := grownBy_putObj' ((W.setCell ⟨w.heap.size, 0, none⟩ (.slice vp (appL S P).length vc)).setCell ⟨w.heap.size + 1, 0, none⟩ (.int .i64 0)) D (.deferred none)
        have hr : ∀ r, some D = some r → ∃ o : Obj, ((W.setCell ⟨w.heap.size, 0, none⟩ (.slice vp (appL S P).length vc)).setCell ⟨w.heap.size + 1, 0, none⟩ (.int .i64 0)).heap[r]? = some o ∧ o.isCells = false := fun r e => by cases e; exact ⟨_, hK2, rfl⟩
        refine ⟨by simp, .inl ⟨_, _, rfl, run_takeDeferred hK2, ?_⟩⟩
        exact dap_finish (DE.out.trans h6) (X0.grown gD (X0.notrow hr)) (X1.grown gD (X1.notrow hr)) rfl rfl (by rw [DL.out, if_pos h6]; exact ownsLow (O3.kept gD (own_notrow O3 hr)) (by omega)) (bS.trans (belowK_b (w := w) (Nat.le_refl _) _ D _ _ (by rw [hsz] at hD; omega) hK2 rfl rfl))
      case stop =>
        rintro D c pre W hD ⟨j, hj, rfl⟩ ⟨⟨rfl, h1, h2, h6, h7⟩, hB⟩ hK'
        rw [map_minR hj] at h2 h6
        gi_wp2
        have gD := grownBy_putObj' W D (.deferred none)
        have hr : ∀ r, some D = some r → ∃ o : Obj, W.heap[r]? = some o ∧ o.isCells = false := fun r e => by cases e; exact ⟨_, hK', rfl⟩
        refine ⟨by simp, .inl ⟨_, _, rfl, run_takeDeferred hK', ?_⟩⟩
        exact dap_finish (DE.out.trans (ptA_bad h6)) (h1.grown gD (h1.notrow hr)) (h2.grown gD (h2.notrow hr)) rfl rfl (by rw [DL.out, if_neg (by rw [ptA_bad h6]; exact h6)]; exact World.ownsRow_nil _ _ _ _) (hB.trans (belowK_b (w := w) (Nat.le_refl _) _ D _ _ (by rw [hsz] at hD; omega) hK' rfl rfl))
  · have hE : Hid (dapE l P = tabE l) := Lib.hid (by rw [dapE, if_neg h0])
    have h0' : (tabE l != 0) = true := by simpa using h0
    gi_wp2
    gi_region
    gi_wp2
    have X0 := ((((B0.store (.slice none 0 0)).far (p := ⟨w.heap.size + 1, 0, none⟩) (by simp) (.int .i64 (tabE l))).alloc (.cells #[.slice up (sorL l).length uc] 23)).alloc (.cells #[.int .i64 (tabE l)] 36)).drew
    have X1 := (((Box.store (B1.far (p := ⟨w.heap.size, 0, none⟩) (by simp) (.slice none 0 0)) (.int .i64 (tabE l))).alloc (.cells #[.slice up (sorL l).length uc] 23)).alloc (.cells #[.int .i64 (tabE l)] 36)).drew
    have bZ := ((((b1.setCell (p := ⟨w.heap.size, 0, none⟩) (Nat.le_refl _) (.slice none 0 0)).setCell (p := ⟨w.heap.size + 1, 0, none⟩) (Nat.le_succ _) (.int .i64 (tabE l))).alloc (by simp; omega) (.cells #[.slice up (sorL l).length uc] 23)).alloc (by simp; omega) (.cells #[.int .i64 (tabE l)] 36)).drew
    exact dap_finish hE.out X0 X1 rfl rfl (by rw [dapL, hE.out, if_neg h0]; exact World.ownsRow_nil _ _ _ _) bZ
end Go.Proofs.Ytmjlmfbceccjdaa

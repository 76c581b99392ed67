/-
  delta.play: the walk.
-/
import Derived.Test.YtnpaijmibkbhfaaDeltaG
import Derived.Deep.Cut
namespace Go.Proofs.Ytnpaijmibkbhfaa
open Go.RowKit
set_option linter.unusedVariables false
set_option linter.unusedSimpArgs false
/-- What a play leaves. -/
def appR (S : List RT) (P : List ActT) : List RT := if appE S P = 0 then appL S P else []
set_option maxHeartbeats 8000000 in
set_option maxRecDepth 100000 in
theorem dplay_calls (S : List RT) (P : List ActT) (v t : Value) (I : InvR S) (hP1 : 1 ≤ P.length) (hP : P.length ≤ 40) (wP : WordsA P) (w : World) (r1 : RowR w v S) (r2 : RowA w t P) :
    Calls Try.prog 44 #[v, t] w fun e w' => ∃ u, e = .returned (.tuple #[u, .int .i64 (appE S P)]) ∧ OwnR w' w.heap.size u (appR S P) ∧ Below w.heap.size w w' := by
  have hS := I.size
  have wS : WordsR S := fun r hr => lt128 (chk0 (I.val r hr)).1
  obtain ⟨e1, e2, e3⟩ := play_puts I hP
  have hl : (putsL S ++ P).length ≤ 100 := by rw [List.length_append, putsL_len]; omega
  have wA : WordsA (putsL S ++ P) := fun a ha => (List.mem_append.1 ha).elim (putsL_words wS a) (wP a)
  have C1 := Lib.hid (puts_calls S v (by omega) w r1)
  have C2 := Lib.hid (fun (W : World) (u : Value) (r : RowA W u (putsL S ++ P)) => play_calls _ u (by omega) wA W r)
  have C3 := Lib.hid (fun (W : World) (u : Value) (r : RowA W u (putsL S ++ P)) => routes_calls _ u (by omega) wA W r)
  rw [e1, e3] at C2
  rw [e1, e2] at C3
  have R2 := Lib.hid r2
  have hpl := putsL_len S
  have hX : (runX [] (putsL S)).length = S.length := by rw [runX_len, putsL_len]
  have hby : ((putsL S).length + P.length) * 72 ≤ 140737488355328 := by omega
  have h63 : (putsL S).length + P.length ≤ maxLen := by unfold maxLen; omega
  obtain ⟨i0, hii, hz0, hz1, hz2⟩ := info_parts info_act
  obtain ⟨p1, c1, rfl⟩ := r1.form
  obtain ⟨p2, c2, rfl, _, ap⟩ := r2.at
  have AP := Lib.hid ap
  obtain ⟨n1, hn1⟩ : ∃ n, S.length = n := ⟨_, rfl⟩
  obtain ⟨n, hn⟩ : ∃ n, P.length = n := ⟨_, rfl⟩
  have HN := Lib.hid hn
  have HN1 := Lib.hid hn1
  have HP := Lib.hid (show P.length ≤ 40 from hP)
  obtain ⟨PS, hPS⟩ : ∃ X, putsL S = X := ⟨_, rfl⟩
  rw [hPS] at C1 C2 C3 hby h63 hpl hX
  have HX := Lib.hid hX
  rw [hn1] at C1 hS ⊢
  rw [hn] at R2 hP1 hP ⊢
  clear r1 r2 ap wS wA e1 e2 e3 hPS hX hpl hn1 hn
  obtain ⟨EE, hEE⟩ : ∃ E, appE S P = E := ⟨_, rfl⟩
  have HEE := Lib.hid hEE
  rw [hEE]
  clear hEE
  go_enter Try.func44, Try.ntmps44
  go_wp2_with fail
  refine C1.out.mono ?_
  rintro e w1 ⟨u1, rfl, o1, hb1⟩
  have R21 := Lib.hid (R2.out.keep hb1)
  have O1 := Lib.hid o1
  have hs1 := hb1.size
  clear C1 R2 o1
  go_upto_region 2 with (at_builtin; refine wpList_append_any rfl _ _ 33 rfl w.heap.size 43 i0 _ 72 Try.underlying33 hii hz0 hz1 hz2 rfl (by decide) acs_len acs_one _ PS.length (rowOf acs PS) rfl O1.out _ P rfl R21.out hby h63 hs1 ?_; intro v2 w2 ho2 hb2)
  have b2 : Below w.heap.size w w2 := hb1.trans hb2
  have O2 : Hid (OwnA w2 w.heap.size v2 (PS ++ P)) := Lib.hid (by unfold OwnA; rw [List.length_append, rowOf_app]; exact ho2)
  clear ho2 hb2 hb1 O1 R21 hii hz0 hz1 hz2
  go_wp2_with fail
  refine (C2.out _ _ (OwnA.row O2.out)).mono ?_
  rintro e w3 ⟨u3, rfl, o3, hb3⟩
  have b3 := thenBelow b2 hb3
  have O23 := Lib.hid (ownsKeep O2.out hb3)
  obtain ⟨g, cap, hu3, hgl, hcap⟩ : ∃ g cap, u3 = .slice (some ⟨g, 0, none⟩) (n1 + n) cap ∧ g < w3.heap.size ∧ n1 + n ≤ cap := by
    have hlen : (runX [] PS ++ runX S P).length = n1 + n := by rw [List.length_append, HX.out, runX_len, HN1.out, HN.out]
    rcases o3.2 with ⟨_, h0⟩ | ⟨g, cap, cur, e, hb, hg, hc, _⟩
    · rw [hlen] at h0; omega
    · rw [hlen] at e hc
      exact ⟨g, cap, e, (Array.getElem?_eq_some_iff.1 hg).1, hc⟩
  have XC := Lib.hid (show ∀ i (hi : i < n), RecAt w3 g ((n1 + i) * 3) (xcs (doA (appL S (P.take i)) (P[i]'(by rw [HN.out]; exact hi)))) from fun i hi => by
    have hP' : i < P.length := by rw [HN.out]; exact hi
    have hlt : n1 + i < (runX [] PS ++ runX S P).length := by rw [List.length_append, HX.out, runX_len, HN1.out, HN.out]; omega
    have he : (runX [] PS ++ runX S P)[n1 + i] = doA (appL S (P.take i)) P[i] := by
      have h2 := runX_atD P S i hP'
      have h3 : (runX [] PS ++ runX S P)[n1 + i]? = some (doA (appL S (P.take i)) P[i]) := by
        rw [List.getElem?_append_right (by rw [HX.out, HN1.out]; omega), HX.out, HN1.out, Nat.add_sub_cancel_left]; exact h2
      rw [List.getElem?_eq_getElem hlt] at h3
      exact Option.some.inj h3
    rw [hu3] at o3
    intro j u hj
    have hj3 : j < 3 := by
      rcases Nat.lt_or_ge j 3 with h | h
      · exact h
      · rw [List.getElem?_eq_none (by rw [xcs_len]; exact h)] at hj; cases hj
    exact owns_cellAt o3 ((n1 + i) * 3 + j) u (by rw [rowOf_at xcs 3 xcs_len _ (n1 + i) hlt j hj3, he]; exact hj))
  subst hu3
  clear o3 hb3 C2 O2 b2
  have hcl : n1 < cap := by omega
  go_upto_region 5 with fail
  go_wp2
  have RV := Lib.hid (OwnA.row O23.out)
  clear O23 hl
  go_loopw [29] (fun i wr => ∃ k : Nat, k ≤ n ∧ i = .int .i64 k ∧ Below w3.heap.size w3 wr ∧ Hid (EE = appE (appL S (P.take k)) (P.drop k))) (fun i _ => n - (intOf i).toNat)
  case atStart => exact ⟨0, by omega, rfl, Below.refl _ _, Lib.hid HEE.out.symm⟩
  case round =>
    obtain ⟨k, hk, rfl, hnk, HE⟩ := hrel
    by_cases hlt : k < n
    · have hkl : k < P.length := by rw [HN.out]; exact hlt
      obtain ⟨g2, o2, rfl, hg2, hrec⟩ := AP.out k hkl
      obtain ⟨y0, y1, y2, y3, y4, y5, y6, y7, y8⟩ := actCells (hrec.keep (b3.trans (hnk.mono b3.size)) hg2)
      have hx := XC.out k hlt
      have x0 := (hnk.cell (p := ⟨g, (n1 + k) * 3, none⟩) hgl).trans (hx 0 _ rfl)
      have x1 := (hnk.cell (p := ⟨g, (n1 + k) * 3 + 1, none⟩) hgl).trans (hx 1 _ rfl)
      have x2 := (hnk.cell (p := ⟨g, (n1 + k) * 3 + 2, none⟩) hgl).trans (hx 2 _ rfl)
      rw [Nat.add_mul] at x0 x1 x2
      have hst : actE (appL S (P.take k)) P[k] ≠ 0 → EE = actE (appL S (P.take k)) P[k] := fun h => by rw [HE.out, appE_stop hkl h]
      have hgo : actE (appL S (P.take k)) P[k] = 0 → EE = appE (appL S (P.take (k + 1))) (P.drop (k + 1)) := fun h => by rw [HE.out, appE_drop hkl h]
      unfold actE at hst hgo
      have HST := Lib.hid hst
      have HGO := Lib.hid hgo
      have hlt' : (k : Int) < (n : Int) := by omega
      clear hst hgo hx hrec y1 y2 y3 y4 y5 y6 y7 y8
      generalize doA (appL S (P.take k)) P[k] = x at x0 x1 x2 HST HGO
      generalize P[k] = a at y0 HST HGO
      have hnA := hnk.alloc hnk.size (.cells #[.int .i64 x.1, .int .i64 x.2.1, .int .i64 x.2.2] 88)
      have hbA := (Below.refl wr.heap.size wr).alloc (Nat.le_refl _) (.cells #[.int .i64 x.1, .int .i64 x.2.1, .int .i64 x.2.2] 88)
      have y0' := (hbA.cell (p := ⟨g2, o2 + k * 9, none⟩) (Nat.lt_of_lt_of_le hg2 (Nat.le_trans b3.size hnk.size))).trans y0
      have hbZ : Below w.heap.size w (wr.alloc (.cells #[.int .i64 x.1, .int .i64 x.2.1, .int .i64 x.2.2] 88)) := thenBelow b3 hnA
      have HBZ := Lib.hid hbZ
      clear hbZ hbA
      by_cases hkd : a.k = 1 ∨ a.k = 2
      · have k1 : a.k = 1 ∨ a.k = 2 := hkd
        have HG2 := Lib.hid (show (x.1 ≠ 0 → EE = x.1) ∧ (x.1 = 0 → EE = appE (appL S (P.take (k + 1))) (P.drop (k + 1))) from
          ⟨fun h => by have := HST.out; rw [if_pos hkd] at this; exact this h, fun h => by have := HGO.out; rw [if_pos hkd] at this; exact this h⟩)
        clear hkd HST HGO HE y0
        by_cases hc : x.1 = 0
        · have HE2 := Lib.hid (HG2.out.2 hc)
          have hc' : (x.1 == 0) = true := by simp [hc]
          clear HG2 hc
          rcases k1 with k1 | k1
          all_goals
            rw [k1] at y0'
            clear k1
            go_wp2_with fail
            go_roundw
            case rel => exact ⟨k + 1, by omega, by go_num, hnA, HE2⟩
            case measure => simp [intOf]; omega
        · have HE2 := Lib.hid (HG2.out.1 hc)
          have HR : Hid (appR S P = []) := Lib.hid (by rw [appR, HEE.out, HE2.out, if_neg hc])
          have hc' : (x.1 == 0) = false := by simp [hc]
          clear HG2 hc
          rcases k1 with k1 | k1
          all_goals
            rw [k1] at y0'
            clear k1
            go_wp2_with fail
            go_region
            go_wp2
            go_ret2
            exact ⟨.slice none 0 0, by rw [HE2.out]; simp, by rw [HR.out]; exact World.ownsRow_nil _ _ _ _, HBZ.out.drew⟩
      · obtain ⟨kk, hkk⟩ : ∃ kk, a.k = kk := ⟨_, rfl⟩
        have k1 : (kk == 1) = false := by simp; omega
        have k2 : (kk == 2) = false := by simp; omega
        have k3 : (kk != 1) = true := by simp; omega
        have k4 : (kk != 2) = true := by simp; omega
        have k5 : ¬ kk = 1 := by omega
        have k6 : ¬ kk = 2 := by omega
        rw [hkk] at y0'
        have HE2 := Lib.hid (show EE = 3 by have := HST.out; rw [if_neg hkd] at this; exact this (by decide))
        have HR : Hid (appR S P = []) := Lib.hid (by rw [appR, HEE.out, HE2.out, if_neg (by decide)])
        clear hkd HST HGO HE hkk y0
        go_wp2
        go_ret2
        exact ⟨.slice none 0 0, by rw [HE2.out]; simp, by rw [HR.out]; exact World.ownsRow_nil _ _ _ _, HBZ.out⟩
    · obtain rfl : k = n := by omega
      have HE0 : Hid (EE = 0) := Lib.hid (by rw [HE.out, List.drop_eq_nil_of_le (by rw [HN.out]; exact Nat.le_refl _)]; rfl)
      have HR : Hid (appR S P = appL S P) := Lib.hid (by rw [appR, HEE.out, HE0.out, if_pos rfl])
      have b4 := thenBelow b3 hnk
      have C3' := Lib.hid (C3.out wr v2 (RV.out.keep hnk))
      clear HE XC AP C3 RV
      go_wp2_with fail
      refine C3'.out.mono ?_
      rintro e w5 ⟨u5, rfl, o5, hb5⟩
      have O5 := Lib.hid (ownsLow o5 b4.size)
      have b5 := thenBelow b4 hb5
      clear C3' o5 hb5
      go_wp2
      go_ret2
      exact ⟨u5, by rw [HE0.out]; simp, by rw [HR.out]; exact O5.out, b5⟩
end Go.Proofs.Ytnpaijmibkbhfaa

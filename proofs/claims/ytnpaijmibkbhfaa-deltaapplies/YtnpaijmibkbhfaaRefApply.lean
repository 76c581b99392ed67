/-
  The document's DeltaApply.
-/
import Derived.Test.YtnpaijmibkbhfaaRefPlay
import Derived.Test.YtnpaijmibkbhfaaDeltaF
import Derived.Test.YtnpaijmibkbhfaaDapQ
import Derived.Test.YtnpaijmibkbhfaaG12
namespace Go.Proofs.Ytnpaijmibkbhfaa
open Go.RowKit
set_option linter.unusedVariables false
set_option linter.unusedSimpArgs false
theorem told_act {U' L : List RT} {a : ActT} {c h n : Int} (hk : a.k = 1 ∨ a.k = 2) (t : Told U' L a c h n) : actE L a = c ∧ RelU U' (doL L a) := by
  refine ⟨?_, t.2⟩
  rw [actE, if_pos hk, t.1]
theorem app_next {S : List RT} {P : List ActT} {k : Nat} (hk : k < P.length) (h : appE S (P.take k) = 0) (h2 : actE (appL S (P.take k)) P[k] = 0) : appE S (P.take (k + 1)) = 0 ∧ appL S (P.take (k + 1)) = doL (appL S (P.take k)) P[k] := by
  refine ⟨?_, appL_take hk⟩
  rw [take_snoc hk, appE_app _ _ _ h, appE, if_pos h2]; rfl
theorem app_stop {S : List RT} {P : List ActT} {k : Nat} (hk : k < P.length) (h : appE S (P.take k) = 0) (h2 : actE (appL S (P.take k)) P[k] ≠ 0) : appE S P = actE (appL S (P.take k)) P[k] := by
  have e : P = P.take k ++ P[k] :: P.drop (k + 1) := by rw [← List.drop_eq_getElem_cons hk, List.take_append_drop]
  have h3 : appE S P = appE S (P.take k ++ P[k] :: P.drop (k + 1)) := congrArg _ e
  rw [h3, appE_app _ _ _ h, appE, if_neg h2]
set_option maxHeartbeats 8000000 in
set_option maxRecDepth 100000 in
theorem refApply_ok (l : List RT) (P : List ActT) (v t : Value) (h1 : tabE l = 0) (hw : WordsR l) (hP : P.length ≤ 120) (wP : WordsA P) (w : World) (r1 : RowR w v l) (r2 : RowA w t P) :
    Calls Try.prog 18 #[v, t] w fun e w' => ∃ u, e = .returned (.tuple #[u, .int .i64 (appE (srt l) P)]) ∧ OwnR w' w.heap.size u (if appE (srt l) P = 0 then appL (srt l) P else []) ∧ Below w.heap.size w w' := by
  have ll := (tabE_val h1).2.2
  have F1 := Lib.hid (tableFault_calls l v (by omega) hw w r1)
  have RU0 := Lib.hid (relU_srt h1)
  rw [h1] at F1
  have SC := Lib.hid (fun (U L : List RT) (u : Value) (base : Nat) (W : World) (h : RelU U L) (o : OwnR W base u U) => sortR_calls U L u base W h o)
  generalize srt l = S at RU0 ⊢
  have R1 := Lib.hid r1
  obtain ⟨j0, jii, jz0, jz1, jz2⟩ := info_parts info_route
  obtain ⟨p1, c1, rfl⟩ := r1.form
  obtain ⟨p2, c2, rfl, hcap, at_⟩ := r2.at
  have AT := Lib.hid at_
  have hby1 : l.length * 40 ≤ 140737488355328 := by omega
  have h631 : l.length ≤ maxLen := by unfold maxLen; omega
  obtain ⟨n, hn⟩ : ∃ n, P.length = n := ⟨_, rfl⟩
  have HN := Lib.hid hn
  have HW := Lib.hid wP
  rw [hn] at hP
  rw [hn]
  obtain ⟨EE, hEE⟩ : ∃ E, appE S P = E := ⟨_, rfl⟩
  rw [hEE]
  obtain ⟨LL, hLL⟩ : ∃ L, (if EE = 0 then appL S P else []) = L := ⟨_, rfl⟩
  rw [hLL]
  have HE := Lib.hid hEE
  have HL := Lib.hid hLL
  have hP' : ¬ (120 : Int) < (n : Int) := by omega
  clear r1 r2 hn h1 hEE hLL at_ hcap
  go_enter Try.func18, Try.ntmps18
  go_wp2_with fail
  refine F1.out.mono ?_
  rintro e w1 ⟨rfl, hb1⟩
  have R1a := Lib.hid (R1.out.keep hb1)
  clear F1 R1
  go_wp2_with (at_builtin; refine wpList_append_copy rfl _ _ _ rfl 57 j0 _ 40 Try.underlying32 jii jz0 jz1 jz2 rfl (by decide) rcs_len rcs_one rfl _ _ rfl R1a.out hby1 h631 ?_; intro v2 w2 ho2 hb2)
  have O2 : Hid (OwnR w2 w.heap.size v2 l) := Lib.hid (ownsLow (show OwnR w2 w1.heap.size v2 l from ho2) hb1.size)
  have b2 : Below w.heap.size w w2 := thenBelow hb1 hb2
  clear ho2 hb2 hb1 R1a
  obtain ⟨B, hB⟩ : ∃ B, w.heap.size = B := ⟨_, rfl⟩
  have HB := Lib.hid hB
  go_loopw [7, 26] (fun lu i wr => ∃ (k : Nat) (U : List RT), k ≤ n ∧ i = .int .i64 k ∧ Below w.heap.size w wr ∧ Hid (RelU U (appL S (P.take k))) ∧ Hid (appE S (P.take k) = 0) ∧ Hid (OwnR wr w.heap.size lu U)) (fun _ i _ => n - (intOf i).toNat)
  case atStart => exact ⟨0, l, by omega, rfl, b2, RU0, Lib.hid rfl, O2⟩
  case round =>
    clear b2 O2 RU0
    obtain ⟨k, U, hk, rfl, hnx, RU, E0, OU⟩ := hrel
    by_cases hlt : k < n
    · have hkl : k < P.length := by rw [HN.out]; exact hlt
      obtain ⟨g, o, rfl, hgw, hrec⟩ := AT.out k hkl
      obtain ⟨x0, x1, x2, x3, x4, x5, x6, x7, x8⟩ := actCells (hrec.keep hnx hgw)
      have hwk := HW.out _ (List.getElem_mem hkl)
      have NX := Lib.hid (fun h => app_next hkl E0.out h)
      have ST := Lib.hid (fun h => HE.out.symm.trans (app_stop hkl E0.out h))
      have hklt : (k : Int) < (n : Int) := by omega
      generalize hr : P[k] = a at x0 x1 x2 x3 x4 x5 x6 x7 x8 hwk NX ST
      clear hr
      have hgr := Nat.lt_of_lt_of_le hgw hnx.size
      obtain ⟨TL, hTL⟩ : ∃ x, appL S (P.take k) = x := ⟨_, rfl⟩
      rw [hTL] at RU NX ST
      have BAD := Lib.hid (show ∀ c : Int, c ≠ 0 → actE TL a = c → EE = c ∧ LL = [] from fun c h0 h => by
        have e1 : EE = c := by rw [ST.out (by rw [h]; exact h0), h]
        exact ⟨e1, by rw [← HL.out, if_neg (by rw [e1]; exact h0)]⟩)
      clear hTL E0 ST
      obtain ⟨lp, lc, rfl⟩ := (OwnR.row OU.out).form
      have hUl := RU.out.len
      have hUs := RU.out.inv.size
      obtain ⟨m, hm⟩ : ∃ m, U.length = m := ⟨_, rfl⟩
      have HM := Lib.hid hm
      rw [hm] at hUl OU
      rw [hm]
      have hm60 : m ≤ 60 := by omega
      have AV := ActV.new wr a
      have bA : Below wr.heap.size wr (wr.alloc (objA a)) := (Below.refl _ wr).alloc (Nat.le_refl _) _
      have OU1 : Hid (OwnR (wr.alloc (objA a)) w.heap.size (.slice lp m lc) U) := Lib.hid (OU.out.alloc _)
      have hn1 := thenBelow hnx bA
      clear hm hUl hUs OU
      go_wp2_with fail
      revert AV OU1 hn1
      clear bA
      generalize wr.alloc (objA a) = Y
      intro AV OU1 hn1
      obtain ⟨bq, hbq⟩ : ∃ b, wr.heap.size = b := ⟨_, rfl⟩
      rw [hbq] at AV ⊢
      clear hbq hgr hnx
      have hmU : m ≤ U.length := by rw [HM.out]; exact Nat.le_refl _
      obtain ⟨lp', lc', hle, _, atU⟩ := (OwnR.row OU1.out).at
      injection hle with h1 h2 h3
      subst h1
      clear h2 h3
      have ATU := Lib.hid atU
      have AVH := Lib.hid AV
      clear atU AV x0 x1 x2 x3 x4 x5 x6 x7 x8
      go_loopw [10, 32] (fun at_ i wy => ∃ j : Nat, j ≤ m ∧ i = .int .i64 j ∧ at_ = .int .i64 (atF a.p (U.take j)) ∧ Below Y.heap.size Y wy) (fun _ i _ => m - (intOf i).toNat)
      case atStart => exact ⟨0, by omega, rfl, rfl, Below.refl _ _⟩
      case round =>
        obtain ⟨j, hj, rfl, rfl, BJ⟩ := hrel
        by_cases hltj : j < m
        · have hju : j < U.length := Nat.lt_of_lt_of_le hltj hmU
          obtain ⟨gu, ou, rfl, hgu, hru⟩ := ATU.out j hju
          obtain ⟨x0, x1, x2, x3, x4⟩ := routeCells (hru.keep BJ hgu)
          have HT := Lib.hid (atF_take (p := a.p) hju)
          generalize U[j] = r at x0 x1 x2 x3 x4 HT
          have AJ := AVH.out.keep BJ
          obtain ⟨k0, k1, k2, k3, k4, k5, k6, k7, k8⟩ := actCells AJ.1
          have hal := AJ.2.2
          have hltj' : (j : Int) < (m : Int) := by omega
          have hne : ¬ bq = wr.heap.size := by omega
          have hne2 : ¬ wr.heap.size = bq := by omega
          clear k0 k5 k6 k7 k8 hru AJ
          rcases pk_cases r.1 a.p with e | e | ⟨e1, e⟩ | ⟨e1, e2, e⟩ | ⟨e1, e2, e3, e⟩
          · have H2 : Hid (atF a.p (U.take (j + 1)) = j) := Lib.hid (by rw [HT.out, if_pos e])
            rw [e] at x0 x1 x2 x3
            clear e HT
            go_wp2_with fail
            exact ⟨⟨j + 1, by omega, by go_num, by rw [H2.out], BJ.alloc BJ.size _⟩, by simp [intOf]; omega⟩
          all_goals
            have H2 : Hid (atF a.p (U.take (j + 1)) = atF a.p (U.take j)) := Lib.hid (by rw [HT.out, if_neg (fun h => by rw [h] at e; simp at e)])
            clear HT
            try rw [e1] at x0
            try rw [e2] at x1
            try rw [e3] at x2
            go_wp2_with fail
            exact ⟨⟨j + 1, by omega, by go_num, by rw [H2.out], BJ.alloc BJ.size _⟩, by simp [intOf]; omega⟩
        · obtain rfl : j = m := by omega
          have e1 : U.take j = U := by rw [← HM.out]; exact List.take_length
          rw [e1]
          obtain ⟨at_, hat⟩ : ∃ x, atF a.p U = x := ⟨_, rfl⟩
          have HAT := Lib.hid hat
          rw [hat]
          have AV2 := AVH.out.keep BJ
          have OU2 : Hid (OwnR wr w.heap.size (.slice lp j lc) U) := Lib.hid (ownsKeep OU1.out BJ)
          have hn2 := thenBelow hn1 BJ
          clear ATU AVH OU1 hn1 BJ e1 hat
          obtain ⟨k0, k1, k2, k3, k4, k5, k6, k7, k8⟩ := actCells AV2.1
          have hal := AV2.2.2
          have FC := Lib.hid (fun W => refFault_calls a.p.1 a.p.2.1 a.p.2.2 hwk.1 W)
          by_cases ck : a.k = 1 ∨ a.k = 2
          · have KK := Lib.hid ck
            have kb : ((a.k != 1) && (a.k != 2)) = false := by rcases ck with h | h <;> simp [h]
            rcases ck with hk1 | hk2
            · have K1 := Lib.hid hk1
              rw [hk1] at k0
              clear hk1 kb
              go_wp2_with fail
              refine (FC.out _).mono ?_
              rintro e w5 ⟨rfl, hb5⟩
              have hn5 := thenBelow hn2 hb5
              have AV5 := AV2.keep hb5
              have OU5 : Hid (OwnR w5 w.heap.size (.slice lp j lc) U) := Lib.hid (ownsKeep OU2.out hb5)
              clear OU2 hn2 AV2 hb5 k0 k1 k2 k3 k4 k5 k6 k7 k8 hal FC
              obtain ⟨ft, hft⟩ : ∃ x, chkE a.p.1 a.p.2.1 a.p.2.2 = x := ⟨_, rfl⟩
              have HFT := Lib.hid hft
              rw [hft]
              clear hft
              obtain ⟨k0, k1, k2, k3, k4, k5, k6, k7, k8⟩ := actCells AV5.1
              simp only [Nat.zero_add] at k0 k1 k2 k3 k4 k5 k6 k7 k8
              have hal := AV5.2.2
              by_cases cf : ft = 0
              · subst cf
                have HF0 := HFT
                rw [K1.out] at k0
                by_cases r1 : a.h < 1
                · have HB2 := Lib.hid (BAD.out 2 (by decide) (told_act KK.out (play_range RU.out K1.out HF0.out (by omega))).1)
                  go_wp2_with fail
                  go_ret2
                  exact ⟨.slice none 0 0, by rw [HB2.out.1]; simp, by rw [HB2.out.2]; exact World.ownsRow_nil _ _ _ _, hn5⟩
                by_cases r2 : 999 < a.h
                · have HB2 := Lib.hid (BAD.out 2 (by decide) (told_act KK.out (play_range RU.out K1.out HF0.out (by omega))).1)
                  go_wp2_with fail
                  go_ret2
                  exact ⟨.slice none 0 0, by rw [HB2.out.1]; simp, by rw [HB2.out.2]; exact World.ownsRow_nil _ _ _ _, hn5⟩
                rcases atF_or a.p U with ⟨ha, hn⟩ | ⟨i, hi, ha, he⟩
                · rw [HAT.out] at ha
                  subst ha
                  have HNO := Lib.hid hn
                  clear hn
                  by_cases h6 : j = 60
                  · have HB2 := Lib.hid (BAD.out 9 (by decide) (told_act KK.out (play_full RU.out K1.out HF0.out (by omega) (by omega) HNO.out (by rw [HM.out]; omega))).1)
                    have h6b : ((j : Int) == 60) = true := by simp; omega
                    subst h6
                    go_wp2_with fail
                    go_ret2
                    exact ⟨.slice none 0 0, by rw [HB2.out.1]; simp, by rw [HB2.out.2]; exact World.ownsRow_nil _ _ _ _, hn5⟩
                  · have h6b : ((j : Int) == 60) = false := by simp; omega
                    have TD := Lib.hid (play_put_new RU.out K1.out HF0.out (by omega) (by omega) HNO.out (by rw [HM.out]; omega))
                    have hsz := hn5.size
                    have OUJ := Lib.hid (OU5.out.alloc (.cells #[.bool a.p.1, .int .u64 (aH a.p.2.1), .int .u64 (aL a.p.2.1), .int .i64 a.p.2.2, .int .i64 a.h] 57))
                    have hnw := Lib.hid (cell_new w5 (rcs (a.p, a.h)) 57)
                    have hnA := hn5.alloc hn5.size (.cells #[.bool a.p.1, .int .u64 (aH a.p.2.1), .int .u64 (aL a.p.2.1), .int .i64 a.p.2.2, .int .i64 a.h] 57)
                    have hU60 : U.length ≤ 100000 := by rw [HM.out]; omega
                    have OUU : Hid (OwnR (w5.alloc (.cells #[.bool a.p.1, .int .u64 (aH a.p.2.1), .int .u64 (aL a.p.2.1), .int .i64 a.p.2.2, .int .i64 a.h] 57)) w.heap.size (.slice lp j lc) U) := OUJ
                    clear OUJ OU5
                    go_wp2_with (at_builtin; refine wpList_append_one rfl _ _ 32 rfl w.heap.size 57 j0 _ 40 Try.underlying32 jii jz0 jz1 jz2 rfl (by decide) rcs_len rcs_one U ⟨_, rfl, OUU.out⟩ (a.p, a.h) w5.heap.size 1 rfl hnw.out hU60 (by decide) (by simp; omega) ?_; intro v7 w7 ho7 hg7 hb7)
                    have hn7 := hnA.trans hb7
                    have O7 := Lib.hid ho7
                    clear ho7 hg7 hb7 hnA OUU hnw
                    go_wp2_with fail
                    have TA := told_act KK.out TD.out
                    have N2 := NX.out TA.1
                    go_roundw
                    case rel => exact ⟨k + 1, _, by omega, by go_num, hn7, Lib.hid (by rw [N2.2]; exact TA.2), Lib.hid N2.1, O7⟩
                    case measure => simp [intOf]; omega
                · rw [HAT.out] at ha
                  subst ha
                  have hij : i < j := by rw [← HM.out]; exact hi
                  have hij' : (i : Int) < (j : Int) := by omega
                  have TD := Lib.hid (play_put_at RU.out K1.out HF0.out (by omega) (by omega) hi he)
                  have own5 := OU5.out
                  rcases own5.2 with ⟨hv, h0⟩ | ⟨gu, cap, cur, hv, hbg, hg, hnc, hcm, hcs, htake⟩
                  · rw [HM.out] at h0; omega
                  injection hv with hv1 hv2 hv3
                  subst hv1
                  clear hv2 hv3
                  have hfr : w5.frozen? ⟨gu, i * 5 + 4, none⟩ = false := by simp [World.frozen?, hg]
                  have hgl := (Array.getElem?_eq_some_iff.1 hg).1
                  have x4 : w5.cell? ⟨gu, i * 5 + 4, none⟩ = some (.int .i64 U[i].2) := owns_cellAt own5 (i * 5 + 4) _ (by rw [rowOf_at rcs 5 rcs_len U i hi 4 (by decide)]; rfl)
                  have O7 : Hid (∀ W, OwnR W w.heap.size (.slice (some ⟨gu, 0, none⟩) j lc) U → OwnR (W.setCell ⟨gu, i * 5 + 4, none⟩ (.int .i64 a.h)) w.heap.size (.slice (some ⟨gu, 0, none⟩) j lc) (U.set i (a.p, a.h))) := Lib.hid fun W h => by
                    have e1 : (a.p, a.h) = (U[i].1, a.h) := by rw [he]
                    rw [e1]
                    unfold OwnR
                    rw [List.length_set, rowOf_hop a.h U i hi]
                    exact ownsRow_set h _ _
                  generalize U[i].2 = hop at x4 TD
                  clear own5 hg hnc hcm hcs htake
                  go_wp2_with fail
                  have TA := told_act KK.out TD.out
                  have N2 := NX.out TA.1
                  go_roundw
                  case rel => exact ⟨k + 1, _, by omega, by go_num, hn5.setCell (p := ⟨gu, i * 5 + 4, none⟩) hbg _, Lib.hid (by rw [N2.2]; exact TA.2), Lib.hid N2.1, Lib.hid (O7.out _ OU5.out)⟩
                  case measure => simp [intOf]; omega
              · have cfb : (ft == 0) = false := by simpa using cf
                have cfc : (ft != 0) = true := by simpa using cf
                have HB2 := Lib.hid (BAD.out ft cf (told_act KK.out (show Told U TL a ft 0 0 by have := play_fault RU.out (show a.k = 1 ∨ a.k = 2 ∨ a.k = 4 by have := KK.out; omega) (by rw [HFT.out]; exact cf); rw [HFT.out] at this; exact this)).1)
                go_wp2_with fail
                go_ret2
                exact ⟨.slice none 0 0, by rw [HB2.out.1]; simp, by rw [HB2.out.2]; exact World.ownsRow_nil _ _ _ _, hn5⟩
            · have K2 := Lib.hid hk2
              rw [hk2] at k0
              clear hk2 kb
              go_wp2_with fail
              refine (FC.out _).mono ?_
              rintro e w5 ⟨rfl, hb5⟩
              have hn5 := thenBelow hn2 hb5
              have AV5 := AV2.keep hb5
              have OU5 : Hid (OwnR w5 w.heap.size (.slice lp j lc) U) := Lib.hid (ownsKeep OU2.out hb5)
              clear OU2 hn2 AV2 hb5 k0 k1 k2 k3 k4 k5 k6 k7 k8 hal FC
              obtain ⟨ft, hft⟩ : ∃ x, chkE a.p.1 a.p.2.1 a.p.2.2 = x := ⟨_, rfl⟩
              have HFT := Lib.hid hft
              rw [hft]
              clear hft
              obtain ⟨k0, k1, k2, k3, k4, k5, k6, k7, k8⟩ := actCells AV5.1
              simp only [Nat.zero_add] at k0 k1 k2 k3 k4 k5 k6 k7 k8
              have hal := AV5.2.2
              by_cases cf : ft = 0
              · subst cf
                have HF0 := HFT
                rw [K2.out] at k0
                rcases atF_or a.p U with ⟨ha, hn⟩ | ⟨i, hi, ha, he⟩
                · rw [HAT.out] at ha
                  subst ha
                  have HB2 := Lib.hid (BAD.out 7 (by decide) (told_act KK.out (play_none RU.out (.inl K2.out) HF0.out hn)).1)
                  clear hn
                  go_wp2_with fail
                  go_ret2
                  exact ⟨.slice none 0 0, by rw [HB2.out.1]; simp, by rw [HB2.out.2]; exact World.ownsRow_nil _ _ _ _, hn5⟩
                · rw [HAT.out] at ha
                  subst ha
                  have hij : i < j := by rw [← HM.out]; exact hi
                  have hij' : (i : Int) < (j : Int) := by omega
                  have TD := Lib.hid (play_cut RU.out K2.out HF0.out hi he)
                  have own5 := OU5.out
                  rcases own5.2 with ⟨hv, h0⟩ | ⟨gu, cap, cur, hv, hbg, hg, hnc, hcm, hcs, htake⟩
                  · rw [HM.out] at h0; omega
                  injection hv with hv1 hv2 hv3
                  subst hv1
                  have hjl : j ≤ lc := by rw [hv3, ← HM.out]; exact hnc
                  have hlc : lc ≤ 9223372036854775807 := by rw [hv3]; exact hcm
                  clear hv2 hv3
                  clear own5 hg hnc hcm hcs htake
                  have hne0 : U ≠ [] := fun e => by rw [e] at hi; exact absurd hi (Nat.not_lt_zero _)
                  have ROW : RowR w5 (.slice (some ⟨gu, 0, none⟩) U.length lc) U := by rw [HM.out]; exact OwnR.row OU5.out
                  have R1 : Hid (RowR w5 (.slice (some ⟨gu, 0, none⟩) i lc) (U.take i)) := Lib.hid (by
                    have := RowK.part ROW hne0 0 i (Nat.zero_le _) (Nat.le_of_lt hi) (by rw [HM.out]; exact hjl)
                    simpa using this)
                  have hLl : (U.take i).length = i := by rw [List.length_take]; omega
                  have hLd : (U.drop (i + 1)).length = j - (i + 1) := by rw [List.length_drop, HM.out]
                  obtain ⟨A2, hA2, R2⟩ : ∃ A : Addr, (if lc = i + 1 then some (⟨gu, 0, none⟩ : Addr) else some ⟨gu, (i + 1) * 5, none⟩) = some A ∧ Hid (RowR w5 (.slice (some A) (j - (i + 1)) (lc - (i + 1))) (U.drop (i + 1))) := by
                    by_cases h : lc = i + 1
                    · refine ⟨_, by rw [if_pos h], Lib.hid (.inl ⟨List.eq_nil_of_length_eq_zero (by rw [hLd]; omega), some ⟨gu, 0, none⟩, lc - (i + 1), ?_⟩)⟩
                      rw [show j - (i + 1) = 0 by omega]
                    · refine ⟨_, by rw [if_neg h], Lib.hid ?_⟩
                      have := RowK.part ROW hne0 (i + 1) U.length hi (Nat.le_refl _) (by rw [HM.out]; exact hjl)
                      rw [HM.out] at this
                      rw [show U.drop (i + 1) = (U.take j).drop (i + 1) by rw [← HM.out, List.take_length]]
                      simpa using this
                  have hcap0 : (i : Int) ≤ (lc : Int) := by omega
                  have hcap1 : (i : Int) + 1 ≤ (j : Int) := by omega
                  have hcap2 : (j : Int) ≤ (lc : Int) := by omega
                  have hn1 : i ≤ lc := by omega
                  have hn2 : i + 1 ≤ j := by omega
                  have hn3 : i + 1 ≤ lc := by omega
                  have hi0 : (0 : Int) ≤ (i : Int) := by omega
                  have hi1 : (0 : Int) ≤ (i : Int) + 1 := by omega
                  have hi2 : (i : Int) + 1 ≤ (lc : Int) := by omega
                  have hie : ¬ ((i : Int) = (i : Int) + 1) := by omega
                  have hwi : IntKind.i64.wrap ((i : Int) + 1) = (i : Int) + 1 := by rw [IntKind.wrap_i64]; omega
                  have hby : (U.take i).length * 40 ≤ 140737488355328 := by rw [hLl]; omega
                  have h63 : (U.take i).length ≤ maxLen := by rw [hLl]; unfold maxLen; omega
                  have hby2 : (i + (U.drop (i + 1)).length) * 40 ≤ 140737488355328 := by rw [hLd]; omega
                  have h632 : i + (U.drop (i + 1)).length ≤ maxLen := by rw [hLd]; unfold maxLen; omega
                  have hsz5 := hn5.size
                  go_upto_region 25 with fail
                  clear k0 k1 k2 k3 k4 k5 k6 k7 k8 ROW
                  go_region_held3 (fun w' => True ∧ True)
                    (exact ⟨trivial, trivial⟩)
                    (first
                      | (refine step_append_copy rfl _ _ _ rfl 57 j0 _ 40 Try.underlying32 jii jz0 jz1 jz2 rfl (by decide) rcs_len rcs_one rfl _ _ rfl (R1.out.keep ((Below.refl _ w5).drew)) hby h63 ?_; intro v7 w7 ho7 hb7; have B7 : Below w5.heap.size w5 w7 := thenBelow ((Below.refl _ w5).drew) hb7; have O7 : Hid (w7.ownsRow w5.heap.size 57 5 v7 i (rowOf rcs (U.take i))) := Lib.hid (by have := ho7; rw [hLl] at this; exact this))
                      | (refine step_append_row rfl _ _ _ rfl w5.heap.size 57 j0 _ 40 Try.underlying32 jii jz0 jz1 jz2 rfl (by decide) rcs_len rcs_one _ _ _ rfl O7.out _ _ rfl (R2.out.keep B7) ⟨_, _, _, rfl⟩ hby2 h632 B7.size ?_; intro v8 w8 ho8 hb8; have B8 := B7.trans hb8; have O8 := Lib.hid ho8)
                      | fail)
                  all_goals
                    have TA := told_act KK.out TD.out
                    have N2 := NX.out TA.1
                    have hn8 := thenBelow hn5 B8
                    have OW8 : Hid (OwnR w8 w.heap.size v8 (U.take i ++ U.drop (i + 1))) := Lib.hid (by unfold OwnR; rw [List.length_append, hLl, rowOf_app]; exact ownsLow O8.out hn5.size)
                    clear O7 O8 B7 B8 R1 R2 OU5 AV5
                    go_wp2_with fail
                    go_roundw
                    case rel => exact ⟨k + 1, _, by omega, by go_num, hn8, Lib.hid (by rw [N2.2]; exact TA.2), Lib.hid N2.1, OW8⟩
                    case measure => simp [intOf]; omega
              · have cfb : (ft == 0) = false := by simpa using cf
                have cfc : (ft != 0) = true := by simpa using cf
                have HB2 := Lib.hid (BAD.out ft cf (told_act KK.out (show Told U TL a ft 0 0 by have := play_fault RU.out (show a.k = 1 ∨ a.k = 2 ∨ a.k = 4 by have := KK.out; omega) (by rw [HFT.out]; exact cf); rw [HFT.out] at this; exact this)).1)
                go_wp2_with fail
                go_ret2
                exact ⟨.slice none 0 0, by rw [HB2.out.1]; simp, by rw [HB2.out.2]; exact World.ownsRow_nil _ _ _ _, hn5⟩
          · have HB2 := Lib.hid (BAD.out 3 (by decide) (by rw [actE, if_neg ck]))
            have kb1 : (a.k != 1) = true := by simp; omega
            have kb2 : (a.k != 2) = true := by simp; omega
            go_wp2
            go_ret2
            exact ⟨.slice none 0 0, by rw [HB2.out.1]; simp, by rw [HB2.out.2]; exact World.ownsRow_nil _ _ _ _, hn2⟩
    · obtain rfl : k = n := by omega
      have e1 : P.take k = P := by rw [← HN.out]; exact List.take_length
      rw [e1] at RU E0
      have HF := Lib.hid (show EE = 0 ∧ LL = appL S P by
        have e0 : EE = 0 := by rw [← HE.out]; exact E0.out
        exact ⟨e0, by rw [← HL.out, if_pos e0]⟩)
      obtain ⟨lp, lc, rfl⟩ := (OwnR.row OU.out).form
      have SCU := Lib.hid (SC.out U _ _ w.heap.size wr RU.out OU.out)
      clear e1 E0
      go_wp2_with fail
      refine SCU.out.mono ?_
      rintro e w3 ⟨rfl, O3, B3⟩
      have hn3 := hnx.trans (B3.below (n := w.heap.size) (fun q h => (OU.out.lt q h).1) hnx.size)
      have O3H := Lib.hid O3
      clear O3 SCU B3
      go_wp2
      go_ret2
      exact ⟨_, by rw [HF.out.1]; rfl, by rw [HF.out.2]; exact O3H.out, hn3⟩
set_option maxHeartbeats 2000000 in
/-- The document's DeltaApply answers what ours does. -/
theorem refApply_calls (l : List RT) (P : List ActT) (v t : Value) (hlen : l.length ≤ 9223372036854775807) (hw : WordsR l) (hP : P.length ≤ 9223372036854775807) (wP : WordsA P) (w : World) (r1 : RowR w v l) (r2 : RowA w t P) :
    Calls Try.prog 18 #[v, t] w fun e w' => ∃ u, e = .returned (.tuple #[u, .int .i64 (dapE l P)]) ∧ OwnR w' w.heap.size u (dapL l P) ∧ Below w.heap.size w w' := by
  by_cases h0 : tabE l = 0
  · by_cases h120 : P.length ≤ 120
    · have h := refApply_ok l P v t h0 hw h120 wP w r1 r2
      have e1 : sorL l = srt l := by rw [sorL, if_pos h0]
      have e2 : dapE l P = appE (srt l) P := by rw [dapE, if_pos h0, if_neg (by omega), e1]
      rw [e2, dapL, e2, e1]
      exact h
    · have E : dapE l P = 1 ∧ dapL l P = [] := by
        have : dapE l P = 1 := by rw [dapE, if_pos h0, if_pos (by omega)]
        exact ⟨this, by rw [dapL, this, if_neg (by decide)]⟩
      rw [E.1, E.2]
      have F1 := Lib.hid (tableFault_calls l v hlen hw w r1)
      obtain ⟨p1, c1, rfl⟩ := r1.form
      obtain ⟨p2, c2, rfl⟩ := r2.form
      rw [h0] at F1
      have h120' : (120 : Int) < (P.length : Int) := by omega
      clear r1 r2 E
      go_enter Try.func18, Try.ntmps18
      go_wp2_with fail
      refine F1.out.mono ?_
      rintro e w1 ⟨rfl, hb1⟩
      clear F1
      go_wp2
      go_ret2
      exact ⟨.slice none 0 0, by simp, World.ownsRow_nil _ _ _ _, hb1⟩
  · have E : dapE l P = tabE l ∧ dapL l P = [] := by
      have : dapE l P = tabE l := by rw [dapE, if_neg h0]
      exact ⟨this, by rw [dapL, this, if_neg h0]⟩
    rw [E.1, E.2]
    have F1 := Lib.hid (tableFault_calls l v hlen hw w r1)
    obtain ⟨p1, c1, rfl⟩ := r1.form
    obtain ⟨p2, c2, rfl⟩ := r2.form
    generalize tabE l = t at F1 h0 ⊢
    have hz1 : (t == 0) = false := by simpa using h0
    have hz2 : (t != 0) = true := by simp [bne, hz1]
    clear r1 r2 E
    go_enter Try.func18, Try.ntmps18
    go_wp2_with fail
    refine F1.out.mono ?_
    rintro e w1 ⟨rfl, hb1⟩
    clear F1
    go_wp2
    go_ret2
    exact ⟨.slice none 0 0, by simp, World.ownsRow_nil _ _ _ _, hb1⟩
end Go.Proofs.Ytnpaijmibkbhfaa

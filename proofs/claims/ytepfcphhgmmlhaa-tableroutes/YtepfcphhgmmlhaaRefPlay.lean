/-
  The document's TablePlayed.
-/
import Derived.Test.YtepfcphhgmmlhaaTPlayN
import Derived.Test.YtepfcphhgmmlhaaAppRow
import Derived.Test.YtepfcphhgmmlhaaG4
import Derived.Test.YtepfcphhgmmlhaaG2
import Derived.Deep.CutRange
import Derived.Deep.DeepCutAuto
import Derived.Deep.CutBlock
namespace Go.Proofs.Ytepfcphhgmmlhaa
open Go.RowKit
set_option linter.unusedVariables false
set_option linter.unusedSimpArgs false
theorem AnsV.code {w : World} {b : Nat} {c h l : Int} (a : AnsV w b c h l) (u : Int) : AnsV (w.setCell ⟨b, 0, none⟩ (.int .i64 u)) b u h l := by
  obtain ⟨a0, a1, a2, af, az⟩ := a
  exact ⟨by simp [go_sem, a0, a1, a2], by simp [go_sem, a0, a1, a2], by simp [go_sem, a0, a1, a2], fun o => by simp only [World.frozen?_setCell]; exact af o, by simpa using az⟩
theorem AnsV.hop {w : World} {b : Nat} {c h l : Int} (a : AnsV w b c h l) (u : Int) : AnsV (w.setCell ⟨b, 1, none⟩ (.int .i64 u)) b c u l := by
  obtain ⟨a0, a1, a2, af, az⟩ := a
  exact ⟨by simp [go_sem, a0, a1, a2], by simp [go_sem, a0, a1, a2], by simp [go_sem, a0, a1, a2], fun o => by simp only [World.frozen?_setCell]; exact af o, by simpa using az⟩
theorem rowOf_hop (h : Int) : ∀ (L : List RT) (i : Nat) (hi : i < L.length), rowOf rcs (L.set i (L[i].1, h)) = (rowOf rcs L).set (i * 5 + 4) (.int .i64 h)
  | q :: t, 0, _ => by simp [rowOf, rcs]
  | q :: t, i + 1, hi => by
    have hi' : i < t.length := by simpa using hi
    have ih := rowOf_hop h t i hi'
    have e : rowOf rcs (q :: t) = rcs q ++ rowOf rcs t := rfl
    have hl : (rcs q).length = 5 := rfl
    rw [List.set_cons_succ, List.getElem_cons_succ, show rowOf rcs (q :: t.set i (t[i].1, h)) = rcs q ++ rowOf rcs (t.set i (t[i].1, h)) from rfl, ih, e]
    rw [List.set_append_right _ _ (by rw [hl]; omega), hl, show (i + 1) * 5 + 4 - 5 = i * 5 + 4 by omega]
set_option maxHeartbeats 8000000 in
set_option maxRecDepth 100000 in
theorem played_calls (SC : Hid (∀ (U L : List RT) (v : Value) (base : Nat) (W : World), RelU U L → OwnR W base v U → Calls Try.prog 32 #[v] W fun e w' => e = .returned (.tuple #[]) ∧ OwnR w' base v L ∧ But (fun k => v.ownBlock = some k) W w')) (l : List ActT) (v : Value) (hlen : l.length ≤ 9223372036854775807) (hw : WordsA l) (w : World) (row : RowA w v l) :
    Calls Try.prog 13 #[v] w fun e w' => ∃ u1 u2, e = .returned (.tuple #[u1, u2, .int .i64 (playE l)]) ∧ OwnX w' w.heap.size u1 (playX l) ∧ OwnR w' w.heap.size u2 (playL l) ∧ Below w.heap.size w w' := by
  obtain ⟨p, c, rfl, hcap, at_⟩ := row.at
  by_cases h60 : 100 < l.length
  · have h60' : (100 : Int) < (l.length : Int) := by omega
    rw [show playE l = 1 by simp [playE, h60], show playL l = [] by simp [playL, h60], show playX l = [] by simp [playX, h60]]
    go_enter Try.func13, Try.ntmps13
    go_wp2
    go_returns
    exact ⟨_, _, rfl, World.ownsRow_nil _ _ _ _, World.ownsRow_nil _ _ _ _, by go_grown⟩
  · have h60' : ¬ (100 : Int) < (l.length : Int) := by omega
    rw [show playE l = 0 by simp [playE, h60], show playL l = runL l by simp [playL, h60], show playX l = runX [] l by simp [playX, h60]]
    obtain ⟨n, hn⟩ : ∃ n, l.length = n := ⟨_, rfl⟩
    have HN := Lib.hid hn
    have AT := Lib.hid at_
    have HW := Lib.hid hw
    rw [hn] at hlen h60 h60' ⊢
    obtain ⟨i0, hii, hz0, hz1, hz2⟩ := info_parts info_ans
    obtain ⟨j0, jii, jz0, jz1, jz2⟩ := info_parts info_route
    clear row hw at_ hn
    go_enter Try.func13, Try.ntmps13
    go_wp2
    go_loopw [5, 6, 19] (fun lu xu i wr => ∃ (k : Nat) (U : List RT), k ≤ n ∧ i = .int .i64 k ∧ Below w.heap.size w wr ∧ Hid (RelU U (runL (l.take k))) ∧ Hid (OwnR wr w.heap.size lu U) ∧ Hid (OwnX wr w.heap.size xu (runX [] (l.take k)))) (fun _ _ i _ => n - (intOf i).toNat)
    case atStart => exact ⟨0, [], by omega, rfl, Below.refl _ _, Lib.hid RelU.nil, Lib.hid (World.ownsRow_nil _ _ _ _), Lib.hid (World.ownsRow_nil _ _ _ _)⟩
    case round =>
      obtain ⟨k, U, hk, rfl, hnx, RU, OU, OX⟩ := hrel
      by_cases hlt : k < n
      · have hkl : k < l.length := by rw [HN.out]; exact hlt
        obtain ⟨g, o, rfl, hgw, hrec⟩ := AT.out k hkl
        obtain ⟨x0, x1, x2, x3, x4, x5, x6, x7, x8⟩ := actCells (hrec.keep hnx hgw)
        have hwk := HW.out _ (List.getElem_mem hkl)
        have E1 := Lib.hid (show runL (l.take (k + 1)) = doL (runL (l.take k)) l[k] ∧ runX [] (l.take (k + 1)) = runX [] (l.take k) ++ [doA (runL (l.take k)) l[k]] by rw [take_snoc hkl, runL_snoc, runX_snoc]; exact ⟨rfl, rfl⟩)
        have hklt : (k : Int) < (n : Int) := by omega
        generalize hr : l[k] = a at x0 x1 x2 x3 x4 x5 x6 x7 x8 hwk E1
        clear hr
        have hgr := Nat.lt_of_lt_of_le hgw hnx.size
        have hXl : (runX [] (l.take k)).length = k := by rw [runX_len, List.length_take]; omega
        obtain ⟨TL, hTL⟩ : ∃ x, runL (l.take k) = x := ⟨_, rfl⟩
        obtain ⟨XL, hXL⟩ : ∃ x, runX [] (l.take k) = x := ⟨_, rfl⟩
        rw [hTL] at RU E1
        rw [hXL] at OX E1 hXl
        have HXl := Lib.hid hXl
        clear hTL hXL hXl
        obtain ⟨lp, lc, rfl⟩ := (OwnR.row OU.out).form
        have hUl := RU.out.len
        have hUs := RU.out.inv.size
        obtain ⟨m, hm⟩ : ∃ m, U.length = m := ⟨_, rfl⟩
        have HM := Lib.hid hm
        rw [hm] at hUl OU
        rw [hm]
        have hm60 : m ≤ 60 := by omega
        have AV := ActV.new wr a
        have bA : Below wr.heap.size wr (wr.alloc (objA a)) := (Below.refl _ wr).alloc (Nat.le_refl _) _
        have OU1 : Hid (OwnR (wr.alloc (objA a)) w.heap.size (.slice lp m lc) U) := Lib.hid (OU.out.alloc _)
        have OX1 : Hid (OwnX (wr.alloc (objA a)) w.heap.size u6 XL) := Lib.hid (OX.out.alloc _)
        have hn1 := thenBelow hnx bA
        clear hm hUl hUs OU OX
        go_wp2_with fail
        revert AV OU1 OX1 hn1
        clear bA
        generalize wr.alloc (objA a) = Y
        intro AV OU1 OX1 hn1
        obtain ⟨bq, hbq⟩ : ∃ b, wr.heap.size = b := ⟨_, rfl⟩
        rw [hbq] at AV ⊢
        clear hbq hgr hnx
        have hmU : m ≤ U.length := by rw [HM.out]; exact Nat.le_refl _
        obtain ⟨lp', lc', hle, _, atU⟩ := (OwnR.row OU1.out).at
        injection hle with h1 h2 h3
        subst h1
        clear h2 h3
        have ATU := Lib.hid atU
        have AVH := Lib.hid AV
        clear atU AV x0 x1 x2 x3 x4 x5 x6 x7 x8
        go_loopw [9, 25] (fun at_ i wy => ∃ j : Nat, j ≤ m ∧ i = .int .i64 j ∧ at_ = .int .i64 (atF a.p (U.take j)) ∧ Below Y.heap.size Y wy) (fun _ i _ => m - (intOf i).toNat)
        case atStart => exact ⟨0, by omega, rfl, rfl, Below.refl _ _⟩
        case round =>
          obtain ⟨j, hj, rfl, rfl, BJ⟩ := hrel
          by_cases hltj : j < m
          · have hju : j < U.length := Nat.lt_of_lt_of_le hltj hmU
            obtain ⟨gu, ou, rfl, hgu, hru⟩ := ATU.out j hju
            obtain ⟨x0, x1, x2, x3, x4⟩ := routeCells (hru.keep BJ hgu)
            have HT := Lib.hid (atF_take (p := a.p) hju)
            generalize U[j] = r at x0 x1 x2 x3 x4 HT
            have AJ := AVH.out.keep BJ
            obtain ⟨k0, k1, k2, k3, k4, k5, k6, k7, k8⟩ := actCells AJ.1
            have hal := AJ.2.2
            have hltj' : (j : Int) < (m : Int) := by omega
            have hne : ¬ bq = wr.heap.size := by omega
            have hne2 : ¬ wr.heap.size = bq := by omega
            clear k0 k5 k6 k7 k8 hru AJ
            rcases pk_cases r.1 a.p with e | e | ⟨e1, e⟩ | ⟨e1, e2, e⟩ | ⟨e1, e2, e3, e⟩
            · have H2 : Hid (atF a.p (U.take (j + 1)) = j) := Lib.hid (by rw [HT.out, if_pos e])
              rw [e] at x0 x1 x2 x3
              clear e HT
              go_wp2_with fail
              exact ⟨⟨j + 1, by omega, by go_num, by rw [H2.out], BJ.alloc BJ.size _⟩, by simp [intOf]; omega⟩
            all_goals
              have H2 : Hid (atF a.p (U.take (j + 1)) = atF a.p (U.take j)) := Lib.hid (by rw [HT.out, if_neg (fun h => by rw [h] at e; simp at e)])
              clear HT
              try rw [e1] at x0
              try rw [e2] at x1
              try rw [e3] at x2
              go_wp2_with fail
              exact ⟨⟨j + 1, by omega, by go_num, by rw [H2.out], BJ.alloc BJ.size _⟩, by simp [intOf]; omega⟩
          · obtain rfl : j = m := by omega
            have e1 : U.take j = U := by rw [← HM.out]; exact List.take_length
            rw [e1]
            obtain ⟨at_, hat⟩ : ∃ x, atF a.p U = x := ⟨_, rfl⟩
            have HAT := Lib.hid hat
            rw [hat]
            have AV2 := AVH.out.keep BJ
            have OU2 : Hid (OwnR wr w.heap.size (.slice lp j lc) U) := Lib.hid (ownsKeep OU1.out BJ)
            have OX2 : Hid (OwnX wr w.heap.size u6 XL) := Lib.hid (ownsKeep OX1.out BJ)
            have hn2 := thenBelow hn1 BJ
            clear ATU AVH OU1 OX1 hn1 BJ e1 hat
            have hn3 := hn2.alloc hn2.size (.cells #[.int .i64 0, .int .i64 0, .int .i64 0] 63)
            have V3 := AnsV.new wr 0 0 0 63
            have AV3 := AV2.keep ((Below.refl wr.heap.size wr).alloc (Nat.le_refl _) (.cells #[.int .i64 0, .int .i64 0, .int .i64 0] 63))
            have OU3 : Hid (OwnR (wr.alloc (.cells #[.int .i64 0, .int .i64 0, .int .i64 0] 63)) w.heap.size (.slice lp j lc) U) := Lib.hid (OU2.out.alloc _)
            have OX3 : Hid (OwnX (wr.alloc (.cells #[.int .i64 0, .int .i64 0, .int .i64 0] 63)) w.heap.size u6 XL) := Lib.hid (OX2.out.alloc _)
            obtain ⟨k0, k1, k2, k3, k4, k5, k6, k7, k8⟩ := actCells AV2.1
            have hal := AV2.2.2
            have hne : ¬ bq = wr.heap.size := by omega
            have FC := Lib.hid (fun W => refFault_calls a.p.1 a.p.2.1 a.p.2.2 hwk.1 W)
            go_wp2_with fail
            refine (FC.out _).mono ?_
            rintro e w5 ⟨rfl, hb5⟩
            have hn5 := thenBelow hn3 hb5
            have V5 := V3.keep hb5 V3.2.2.2.2
            have AV5 := AV3.keep hb5
            have OU5 : Hid (OwnR w5 w.heap.size (.slice lp j lc) U) := Lib.hid (ownsKeep OU3.out hb5)
            have OX5 : Hid (OwnX w5 w.heap.size u6 XL) := Lib.hid (ownsKeep OX3.out hb5)
            obtain ⟨bt, hbt⟩ : ∃ b, wr.heap.size = b := ⟨_, rfl⟩
            have NEU : Hid (∀ q, (Value.slice lp j lc).ownBlock = some q → q = bt → False) := Lib.hid fun q hq e => by have := (OU2.out.lt q hq).2; omega
            have NEX : Hid (∀ q, u6.ownBlock = some q → q = bt → False) := Lib.hid fun q hq e => by have := (OX2.out.lt q hq).2; omega
            have HWB : Hid (w.heap.size ≤ bt) := Lib.hid (by rw [← hbt]; exact hn2.size)
            rw [hbt] at V5 hne ⊢
            clear hbt OU3 OX3 V3 AV3 hn3 hb5 hn2 OU2 OX2 AV2 k0 k1 k2 k3 k4 k5 k6 k7 k8 hal FC
            obtain ⟨ft, hft⟩ : ∃ x, chkE a.p.1 a.p.2.1 a.p.2.2 = x := ⟨_, rfl⟩
            have HFT := Lib.hid hft
            rw [hft]
            clear hft
            have neU : ∀ q, (Value.slice lp j lc).ownBlock = some q → q ≠ bt := fun q hq e => NEU.out q hq e
            have neX : ∀ q, u6.ownBlock = some q → q ≠ bt := fun q hq e => NEX.out q hq e
            have hwb : w.heap.size ≤ bt := HWB.out
            have KU : Hid (∀ (W : World) (o : Nat) (u : Value), OwnR W w.heap.size (.slice lp j lc) U → OwnR (W.setCell ⟨bt, o, none⟩ u) w.heap.size (.slice lp j lc) U) := Lib.hid fun W o u h => h.kept (grownBy_setCell W ⟨bt, o, none⟩ u) (by cases hq : (Value.slice lp j lc).ownBlock with | none => exact .inl rfl | some q => exact .inr fun e => NEU.out q hq (by simpa using e))
            have KX : Hid (∀ (W : World) (o : Nat) (u : Value), OwnX W w.heap.size u6 XL → OwnX (W.setCell ⟨bt, o, none⟩ u) w.heap.size u6 XL) := Lib.hid fun W o u h => h.kept (grownBy_setCell W ⟨bt, o, none⟩ u) (by cases hq : u6.ownBlock with | none => exact .inl rfl | some q => exact .inr fun e => NEX.out q hq (by simpa using e))
            obtain ⟨k0, k1, k2, k3, k4, k5, k6, k7, k8⟩ := actCells AV5.1
            simp only [Nat.zero_add] at k0 k1 k2 k3 k4 k5 k6 k7 k8
            have hal := AV5.2.2
            have V5' := V5
            obtain ⟨v0, v1, v2, vf, vl⟩ := V5'
            have AVH5 := Lib.hid AV5
            clear neU neX AV5
            go_upto_block 4 with fail
            go_cut [5, 19] from 19 to 168 (fun s5 s19 wx => s19 = .int .i64 k ∧ ∃ (U' : List RT) (c h q : Int), Hid (Told U' TL a c h q) ∧ Hid (OwnR wx w.heap.size s5 U') ∧ Hid (OwnX wx w.heap.size u6 XL) ∧ AnsV wx bt c h q ∧ Below w.heap.size w wx)
            case first =>
              by_cases c1 : a.k < 1
              · go_wp2_with fail
                go_meet
                exact ⟨rfl, U, 3, 0, 0, Lib.hid (play_kind RU.out (.inl c1)), Lib.hid (KU.out _ _ _ OU5.out), Lib.hid (KX.out _ _ _ OX5.out), V5.code 3, hn5.setCell hwb _⟩
              by_cases c2 : 4 < a.k
              · go_wp2_with fail
                go_meet
                exact ⟨rfl, U, 3, 0, 0, Lib.hid (play_kind RU.out (.inr c2)), Lib.hid (KU.out _ _ _ OU5.out), Lib.hid (KX.out _ _ _ OX5.out), V5.code 3, hn5.setCell hwb _⟩
              by_cases c3 : a.k = 3
              · clear c1 c2
                have K3 := Lib.hid c3
                rw [c3] at k0
                clear c3
                by_cases hy : a.y < 2 ^ wideN a.s
                · have MC := Lib.hid (fun W => refMay_num a.s a.y hwk.2 true (decide_eq_true hy) W)
                  have GC := Lib.hid (fun (W : World) (r : RowR W (.slice lp j lc) U) => goes_calls U _ a.s a.y (by rw [HM.out]; omega) (fun r hr => RU.out.inv.val r ((RU.out.same r).1 hr)) hy W r)
                  go_wp2_with fail
                  refine (MC.out _).mono ?_
                  rintro e w6 ⟨rfl, hw6⟩
                  have b6 := (Below.refl w5.heap.size w5).alloc (Nat.le_refl _) (.cells #[.bool a.s, .int .u64 (aH a.y), .int .u64 (aL a.y)] 49)
                  rw [hw6] at b6
                  have V6 := V5.keep b6 vl
                  have A6 := AVH5.out.keep b6
                  have OU6 : Hid (OwnR w6 w.heap.size (.slice lp j lc) U) := Lib.hid (ownsKeep OU5.out b6)
                  have OX6 : Hid (OwnX w6 w.heap.size u6 XL) := Lib.hid (ownsKeep OX5.out b6)
                  have hn6 := thenBelow hn5 b6
                  clear hw6 b6 k0 k1 k2 k3 k4 k5 k6 k7 k8 v0 v1 v2 vf vl hal MC
                  obtain ⟨k0, k1, k2, k3, k4, k5, k6, k7, k8⟩ := actCells A6.1
                  simp only [Nat.zero_add] at k0 k1 k2 k3 k4 k5 k6 k7 k8
                  rw [K3.out] at k0
                  go_wp2_with fail
                  refine (GC.out _ (OwnR.row OU6.out)).mono ?_
                  rintro e w7 ⟨rfl, hb7⟩
                  have V7 := V6.keep hb7 V6.2.2.2.2
                  have OU7 : Hid (OwnR w7 w.heap.size (.slice lp j lc) U) := Lib.hid (ownsKeep OU6.out hb7)
                  have OX7 : Hid (OwnX w7 w.heap.size u6 XL) := Lib.hid (ownsKeep OX6.out hb7)
                  have hn7 := thenBelow hn6 hb7
                  have TD := Lib.hid (play_look RU.out K3.out hy)
                  generalize (bestA a.s a.y U).1 = p1 at TD
                  generalize (bestA a.s a.y U).2 = p2 at TD
                  clear hb7 k0 k1 k2 k3 k4 k5 k6 k7 k8 OU6 OX6 V6 A6 GC
                  obtain ⟨v0, v1, v2, vf, vl⟩ := id V7
                  go_wp2_with fail
                  go_meet
                  exact ⟨rfl, U, 0, p1, p2, TD, Lib.hid (KU.out _ _ _ (KU.out _ _ _ (KU.out _ _ _ OU7.out))), Lib.hid (KX.out _ _ _ (KX.out _ _ _ (KX.out _ _ _ OX7.out))), V7.store 0 p1 p2, ((hn7.setCell hwb _).setCell hwb _).setCell hwb _⟩
                · have MC := Lib.hid (fun W => refMay_num a.s a.y hwk.2 false (decide_eq_false hy) W)
                  go_wp2_with fail
                  refine (MC.out _).mono ?_
                  rintro e w6 ⟨rfl, hw6⟩
                  have b6 := (Below.refl w5.heap.size w5).alloc (Nat.le_refl _) (.cells #[.bool a.s, .int .u64 (aH a.y), .int .u64 (aL a.y)] 49)
                  rw [hw6] at b6
                  have V6 := V5.keep b6 vl
                  have OU6 : Hid (OwnR w6 w.heap.size (.slice lp j lc) U) := Lib.hid (ownsKeep OU5.out b6)
                  have OX6 : Hid (OwnX w6 w.heap.size u6 XL) := Lib.hid (ownsKeep OX5.out b6)
                  have hn6 := thenBelow hn5 b6
                  clear hw6 b6 k0 k1 k2 k3 k4 k5 k6 k7 k8 v0 v1 v2 vf vl hal MC
                  obtain ⟨v0, v1, v2, vf, vl⟩ := id V6
                  go_wp2_with fail
                  go_meet
                  exact ⟨rfl, U, 4, 0, 0, Lib.hid (play_form RU.out K3.out hy), Lib.hid (KU.out _ _ _ OU6.out), Lib.hid (KX.out _ _ _ OX6.out), V6.code 4, hn6.setCell hwb _⟩
              have c3b : (a.k == 3) = false := by simpa using c3
              by_cases cf : ft = 0
              · have HF0 : Hid (chkE a.p.1 a.p.2.1 a.p.2.2 = 0) := Lib.hid (by rw [HFT.out, cf])
                have cfb : (ft == 0) = true := by simpa using cf
                clear cf
                have kor : a.k = 1 ∨ a.k = 2 ∨ a.k = 4 := by omega
                clear c1 c2 c3 c3b
                rcases kor with hk1 | hk2 | hk4
                · have K1 := Lib.hid hk1
                  rw [hk1] at k0
                  clear hk1
                  by_cases r1 : a.h < 1
                  · go_wp2_with fail
                    go_meet
                    exact ⟨rfl, U, 2, 0, 0, Lib.hid (play_range RU.out K1.out HF0.out (by omega)), Lib.hid (KU.out _ _ _ OU5.out), Lib.hid (KX.out _ _ _ OX5.out), V5.code 2, hn5.setCell hwb _⟩
                  by_cases r2 : 999 < a.h
                  · go_wp2_with fail
                    go_meet
                    exact ⟨rfl, U, 2, 0, 0, Lib.hid (play_range RU.out K1.out HF0.out (by omega)), Lib.hid (KU.out _ _ _ OU5.out), Lib.hid (KX.out _ _ _ OX5.out), V5.code 2, hn5.setCell hwb _⟩
                  rcases atF_or a.p U with ⟨ha, hn⟩ | ⟨i, hi, ha, he⟩
                  · rw [HAT.out] at ha
                    subst ha
                    have HNO := Lib.hid hn
                    clear hn
                    by_cases h6 : 60 ≤ j
                    · have h6' : (60 : Int) ≤ (j : Int) := by omega
                      go_wp2_with fail
                      go_meet
                      exact ⟨rfl, U, 9, 0, 0, Lib.hid (play_full RU.out K1.out HF0.out (by omega) (by omega) HNO.out (by rw [HM.out]; exact h6)), Lib.hid (KU.out _ _ _ OU5.out), Lib.hid (KX.out _ _ _ OX5.out), V5.code 9, hn5.setCell hwb _⟩
                    · have h6' : ¬ (60 : Int) ≤ (j : Int) := by omega
                      have OUJ : Hid (w5.ownsRow w.heap.size 53 5 (.slice lp j lc) j (rowOf rcs U)) := Lib.hid (by have := OU5.out; unfold OwnR at this; rw [HM.out] at this; exact this)
                      have hnw : Hid (∀ W : World, ∀ t u, (rcs (a.p, a.h))[t]? = some u → (W.alloc (.cells #[.bool a.p.1, .int .u64 (aH a.p.2.1), .int .u64 (aL a.p.2.1), .int .i64 a.p.2.2, .int .i64 a.h] 53)).cell? ((⟨W.heap.size, 0, none⟩ : Addr).add t) = some u) := Lib.hid fun W t u hj =>
                        World.news_of_block (_root_.Go.heap_alloc_new W _) t u (by simpa [rcs] using hj)
                      have h63 : j + 1 ≤ maxLen := by unfold maxLen; omega
                      have hby : (j + 1) * 40 ≤ 140737488355328 := by omega
                      have HSZ : Hid (∀ o : Obj, w.heap.size ≤ (w5.alloc o).heap.size) := Lib.hid fun o => by have := hn5.size; simp; omega
                      go_wp2_with (at_builtin; refine wpList_append_own _ rfl _ _ 27 rfl w.heap.size 53 j0 _ 5 40 Try.underlying27 jii jz0 jz1 jz2 rfl (by decide) _ _ _ rfl (OUJ.out.alloc _) ⟨w5.heap.size, 0, none⟩ 1 1 (rcs (a.p, a.h)) rfl rfl (hnw.out w5) (rcs_one _) h63 hby (HSZ.out _) ?_; intro v7 w7 ho7 hg7 _)
                      have hn7 := (hn5.alloc hn5.size _).grown hg7 (by have := hn5.size; simp; omega) (fun q hq => (OUJ.out.lt q hq).1)
                      have O7 : Hid (OwnR w7 w.heap.size v7 (U ++ [(a.p, a.h)])) := Lib.hid (by unfold OwnR; rw [List.length_append, rowOf_app, HM.out]; exact ho7)
                      have X7 : Hid (OwnX w7 w.heap.size u6 XL) := Lib.hid ((OX5.out.alloc _).kept hg7 (by cases hq : u6.ownBlock with | none => exact .inl rfl | some q => exact .inr fun e => (ownX_notR OX5.out hq).ne OU5.out e.symm))
                      have V7 : AnsV w7 bt 0 0 0 := (V5.alloc _).of_block (hg7.block bt (by simp; omega) (fun e => NEU.out bt e.symm rfl)) hg7.size
                      go_wp2_with fail
                      go_meet
                      exact ⟨rfl, _, 0, 0, 0, Lib.hid (play_put_new RU.out K1.out HF0.out (by omega) (by omega) HNO.out (by rw [HM.out]; exact h6)), O7, X7, V7, hn7⟩
                  · rw [HAT.out] at ha
                    subst ha
                    have hij : i < j := by rw [← HM.out]; exact hi
                    have hij' : (i : Int) < (j : Int) := by omega
                    have TD := Lib.hid (play_put_at RU.out K1.out HF0.out (by omega) (by omega) hi he)
                    have own5 := OU5.out
                    rcases own5.2 with ⟨hv, h0⟩ | ⟨gu, cap, cur, hv, hbg, hg, hnc, hcm, hcs, htake⟩
                    · rw [HM.out] at h0; omega
                    injection hv with hv1 hv2 hv3
                    subst hv1
                    clear hv2 hv3
                    have hfr : w5.frozen? ⟨gu, i * 5 + 4, none⟩ = false := by simp [World.frozen?, hg]
                    have hgl := (Array.getElem?_eq_some_iff.1 hg).1
                    have hgt : gu ≠ bt := fun e => NEU.out gu rfl e
                    have x4 : w5.cell? ⟨gu, i * 5 + 4, none⟩ = some (.int .i64 U[i].2) := owns_cellAt own5 (i * 5 + 4) _ (by rw [rowOf_at rcs 5 rcs_len U i hi 4 (by decide)]; rfl)
                    have O7 : Hid (∀ W, OwnR W w.heap.size (.slice (some ⟨gu, 0, none⟩) j lc) U → OwnR (W.setCell ⟨gu, i * 5 + 4, none⟩ (.int .i64 a.h)) w.heap.size (.slice (some ⟨gu, 0, none⟩) j lc) (U.set i (a.p, a.h))) := Lib.hid fun W h => by
                      have e1 : (a.p, a.h) = (U[i].1, a.h) := by rw [he]
                      rw [e1]
                      unfold OwnR
                      rw [List.length_set, rowOf_hop a.h U i hi]
                      exact ownsRow_set h _ _
                    have X7 : Hid (∀ W, OwnX W w.heap.size u6 XL → W.heap[gu]? = w5.heap[gu]? → OwnX (W.setCell ⟨gu, i * 5 + 4, none⟩ (.int .i64 a.h)) w.heap.size u6 XL) := Lib.hid fun W h hW => h.kept (grownBy_setCell W ⟨gu, i * 5 + 4, none⟩ (.int .i64 a.h)) (by cases hq : u6.ownBlock with | none => exact .inl rfl | some q => exact .inr fun e => (ownX_notR OX5.out hq).ne OU5.out (show (some gu) = some q from e.symm))
                    generalize U[i].2 = hop at x4 TD
                    clear own5 hg hnc hcm hcs htake
                    have hgt2 : ¬ bt = gu := fun e => hgt e.symm
                    go_wp2_with fail
                    go_meet
                    exact ⟨rfl, _, 0, hop, 0, TD, Lib.hid (O7.out _ (KU.out _ _ _ OU5.out)), Lib.hid (X7.out _ (KX.out _ _ _ OX5.out) (Below.heap_setCell _ _ _ gu hgt)), (V5.hop hop).far (p := ⟨gu, i * 5 + 4, none⟩) hgt2 _, (hn5.setCell hwb _).setCell (p := ⟨gu, i * 5 + 4, none⟩) hbg _⟩
                · have K2 := Lib.hid hk2
                  rw [hk2] at k0
                  clear hk2
                  rcases atF_or a.p U with ⟨ha, hn⟩ | ⟨i, hi, ha, he⟩
                  · rw [HAT.out] at ha
                    subst ha
                    have HNO := Lib.hid hn
                    clear hn
                    go_wp2_with fail
                    go_meet
                    exact ⟨rfl, U, 7, 0, 0, Lib.hid (play_none RU.out (.inl K2.out) HF0.out HNO.out), Lib.hid (KU.out _ _ _ OU5.out), Lib.hid (KX.out _ _ _ OX5.out), V5.code 7, hn5.setCell hwb _⟩
                  · rw [HAT.out] at ha
                    subst ha
                    have hij : i < j := by rw [← HM.out]; exact hi
                    have hij' : (i : Int) < (j : Int) := by omega
                    have TD := Lib.hid (play_cut RU.out K2.out HF0.out hi he)
                    have own5 := OU5.out
                    rcases own5.2 with ⟨hv, h0⟩ | ⟨gu, cap, cur, hv, hbg, hg, hnc, hcm, hcs, htake⟩
                    · rw [HM.out] at h0; omega
                    injection hv with hv1 hv2 hv3
                    subst hv1
                    have hjl : j ≤ lc := by rw [hv3, ← HM.out]; exact hnc
                    have hlc : lc ≤ 9223372036854775807 := by rw [hv3]; exact hcm
                    clear hv2 hv3
                    have x4 : w5.cell? ⟨gu, i * 5 + 4, none⟩ = some (.int .i64 U[i].2) := owns_cellAt own5 (i * 5 + 4) _ (by rw [rowOf_at rcs 5 rcs_len U i hi 4 (by decide)]; rfl)
                    generalize U[i].2 = hop at x4 TD
                    clear own5 hg hnc hcm hcs htake
                    go_upto_region 18 with fail
                    have OU6 : Hid (OwnR (w5.setCell ⟨bt, 1, none⟩ (.int .i64 hop)) w.heap.size (.slice (some ⟨gu, 0, none⟩) j lc) U) := Lib.hid (KU.out _ _ _ OU5.out)
                    have OX6 : Hid (OwnX (w5.setCell ⟨bt, 1, none⟩ (.int .i64 hop)) w.heap.size u6 XL) := Lib.hid (KX.out _ _ _ OX5.out)
                    have V6 := V5.hop hop
                    have hn6 := hn5.setCell (p := ⟨bt, 1, none⟩) hwb (.int .i64 hop)
                    revert OU6 OX6 V6 hn6
                    generalize w5.setCell ⟨bt, 1, none⟩ (.int .i64 hop) = W6
                    intro OU6 OX6 V6 hn6
                    have hne0 : U ≠ [] := fun e => by rw [e] at hi; exact absurd hi (Nat.not_lt_zero _)
                    have ROW : RowR W6 (.slice (some ⟨gu, 0, none⟩) U.length lc) U := by rw [HM.out]; exact OwnR.row OU6.out
                    have R1 : Hid (RowR W6 (.slice (some ⟨gu, 0, none⟩) i lc) (U.take i)) := Lib.hid (by
                      have := RowK.part ROW hne0 0 i (Nat.zero_le _) (Nat.le_of_lt hi) (by rw [HM.out]; exact hjl)
                      simpa using this)
                    have hLl : (U.take i).length = i := by rw [List.length_take]; omega
                    have hLd : (U.drop (i + 1)).length = j - (i + 1) := by rw [List.length_drop, HM.out]
                    obtain ⟨A2, hA2, R2⟩ : ∃ A : Addr, (if lc = i + 1 then some (⟨gu, 0, none⟩ : Addr) else some ⟨gu, (i + 1) * 5, none⟩) = some A ∧ Hid (RowR W6 (.slice (some A) (j - (i + 1)) (lc - (i + 1))) (U.drop (i + 1))) := by
                      by_cases h : lc = i + 1
                      · refine ⟨_, by rw [if_pos h], Lib.hid (.inl ⟨List.eq_nil_of_length_eq_zero (by rw [hLd]; omega), some ⟨gu, 0, none⟩, lc - (i + 1), ?_⟩)⟩
                        rw [show j - (i + 1) = 0 by omega]
                      · refine ⟨_, by rw [if_neg h], Lib.hid ?_⟩
                        have := RowK.part ROW hne0 (i + 1) U.length hi (Nat.le_refl _) (by rw [HM.out]; exact hjl)
                        rw [HM.out] at this
                        rw [show U.drop (i + 1) = (U.take j).drop (i + 1) by rw [← HM.out, List.take_length]]
                        simpa using this
                    have hcap0 : (i : Int) ≤ (lc : Int) := by omega
                    have hcap1 : (i : Int) + 1 ≤ (j : Int) := by omega
                    have hcap2 : (j : Int) ≤ (lc : Int) := by omega
                    have hn1 : i ≤ lc := by omega
                    have hn2 : i + 1 ≤ j := by omega
                    have hn3 : i + 1 ≤ lc := by omega
                    have hi0 : (0 : Int) ≤ (i : Int) := by omega
                    have hi1 : (0 : Int) ≤ (i : Int) + 1 := by omega
                    have hi2 : (i : Int) + 1 ≤ (lc : Int) := by omega
                    have hie : ¬ ((i : Int) = (i : Int) + 1) := by omega
                    have hwi : IntKind.i64.wrap ((i : Int) + 1) = (i : Int) + 1 := by rw [IntKind.wrap_i64]; omega
                    have hby : (U.take i).length * 40 ≤ 140737488355328 := by rw [hLl]; omega
                    have h63 : (U.take i).length ≤ maxLen := by rw [hLl]; unfold maxLen; omega
                    have hby2 : (i + (U.drop (i + 1)).length) * 40 ≤ 140737488355328 := by rw [hLd]; omega
                    have h632 : i + (U.drop (i + 1)).length ≤ maxLen := by rw [hLd]; unfold maxLen; omega
                    clear ROW k0 k1 k2 k3 k4 k5 k6 k7 k8 v0 v1 v2 vf
                    go_region_held3 (fun w' => True ∧ True)
                      (exact ⟨trivial, trivial⟩)
                      (first
                        | (refine step_append_copy rfl _ _ _ rfl 53 j0 _ 40 Try.underlying27 jii jz0 jz1 jz2 rfl (by decide) rcs_len rcs_one rfl _ _ rfl (R1.out.keep ((Below.refl _ W6).drew)) hby h63 ?_; intro v7 w7 ho7 hb7; have B7 : Below W6.heap.size W6 w7 := thenBelow ((Below.refl _ W6).drew) hb7; have O7 : Hid (w7.ownsRow W6.heap.size 53 5 v7 i (rowOf rcs (U.take i))) := Lib.hid (by have := ho7; rw [hLl] at this; exact this))
                        | (refine step_append_row rfl _ _ _ rfl W6.heap.size 53 j0 _ 40 Try.underlying27 jii jz0 jz1 jz2 rfl (by decide) rcs_len rcs_one _ _ _ rfl O7.out _ _ rfl (R2.out.keep B7) ⟨_, _, _, rfl⟩ hby2 h632 B7.size ?_; intro v8 w8 ho8 hb8; have B8 := B7.trans hb8; have O8 := Lib.hid ho8)
                        | fail)
                    all_goals
                      go_wp2_with fail
                      go_meet
                      exact ⟨rfl, _, 0, hop, 0, TD, Lib.hid (by unfold OwnR; rw [List.length_append, hLl, rowOf_app]; exact ownsLow O8.out hn6.size), Lib.hid (ownsKeep OX6.out B8), V6.keep B8 V6.2.2.2.2, thenBelow hn6 B8⟩
                · have K4 := Lib.hid hk4
                  rw [hk4] at k0
                  clear hk4
                  rcases atF_or a.p U with ⟨ha, hn⟩ | ⟨i, hi, ha, he⟩
                  · rw [HAT.out] at ha
                    subst ha
                    have HNO := Lib.hid hn
                    clear hn
                    go_wp2_with fail
                    go_meet
                    exact ⟨rfl, U, 7, 0, 0, Lib.hid (play_none RU.out (.inr K4.out) HF0.out HNO.out), Lib.hid (KU.out _ _ _ OU5.out), Lib.hid (KX.out _ _ _ OX5.out), V5.code 7, hn5.setCell hwb _⟩
                  · rw [HAT.out] at ha
                    subst ha
                    have hij : i < j := by rw [← HM.out]; exact hi
                    have hij' : (i : Int) < (j : Int) := by omega
                    have TD := Lib.hid (play_get RU.out K4.out HF0.out hi he)
                    obtain ⟨lp', lc', hle, _, atU⟩ := (OwnR.row OU5.out).at
                    injection hle with h1 h2 h3
                    subst h1
                    clear h2 h3
                    obtain ⟨gu, ou, rfl, hgu, hru⟩ := atU i hi
                    obtain ⟨_, _, _, _, x4⟩ := routeCells hru
                    generalize U[i].2 = hop at x4 TD
                    clear hru atU
                    go_wp2_with fail
                    go_meet
                    exact ⟨rfl, U, 0, hop, _, TD, Lib.hid (KU.out _ _ _ (KU.out _ _ _ OU5.out)), Lib.hid (KX.out _ _ _ (KX.out _ _ _ OX5.out)), (V5.hop hop).len _, (hn5.setCell hwb _).setCell hwb _⟩
              · have cfb : (ft == 0) = false := by simpa using cf
                have TD : Hid (Told U TL a ft 0 0) := Lib.hid (by have := play_fault RU.out (show a.k = 1 ∨ a.k = 2 ∨ a.k = 4 by omega) (by rw [HFT.out]; exact cf); rw [HFT.out] at this; exact this)
                go_wp2_with fail
                go_meet
                exact ⟨rfl, U, ft, 0, 0, TD, Lib.hid (KU.out _ _ _ OU5.out), Lib.hid (KX.out _ _ _ OX5.out), V5.code ft, hn5.setCell hwb _⟩
            case rest =>
              obtain ⟨rfl, U', c, h, q, TD, OU', OX', V', hn'⟩ := hcut
              obtain ⟨v0, v1, v2, vf, vl⟩ := id V'
              have OXJ : Hid (wc.ownsRow w.heap.size 63 3 u6 k (rowOf xcs XL)) := Lib.hid (by have := OX'.out; unfold OwnX at this; rw [HXl.out] at this; exact this)
              have hnw : Hid (∀ W : World, ∀ t u, (xcs (c, h, q))[t]? = some u → (W.alloc (.cells #[.int .i64 c, .int .i64 h, .int .i64 q] 63)).cell? ((⟨W.heap.size, 0, none⟩ : Addr).add t) = some u) := Lib.hid fun W t u hj =>
                World.news_of_block (_root_.Go.heap_alloc_new W _) t u (by simpa [xcs] using hj)
              have h63 : k + 1 ≤ maxLen := by unfold maxLen; omega
              have hby : (k + 1) * 24 ≤ 140737488355328 := by omega
              have HSZ : Hid (∀ o : Obj, w.heap.size ≤ (wc.alloc o).heap.size) := Lib.hid fun o => by have := hn'.size; simp; omega
              clear OU5 OX5 V5 AVH5 KU KX NEU NEX HWB hn5 V' vf RU OX' HFT
              go_wp2_with (at_builtin; refine wpList_append_own _ rfl _ _ 23 rfl w.heap.size 63 i0 _ 3 24 Try.underlying23 hii hz0 hz1 hz2 rfl (by decide) _ _ _ rfl (OXJ.out.alloc _) ⟨wc.heap.size, 0, none⟩ 1 1 (xcs (c, h, q)) rfl rfl (hnw.out wc) (xcs_one _) h63 hby (HSZ.out _) ?_; intro v7 w7 ho7 hg7 _)
              have hn7 := (hn'.alloc hn'.size _).grown hg7 (by have := hn'.size; simp; omega) (fun q hq => (OXJ.out.lt q hq).1)
              have RU7 : Hid (RelU U' (runL (l.take (k + 1)))) := Lib.hid (by rw [E1.out.1]; exact TD.out.2)
              have OX7 : Hid (OwnX w7 w.heap.size v7 (runX [] (l.take (k + 1)))) := Lib.hid (by rw [E1.out.2, TD.out.1]; unfold OwnX; rw [List.length_append, rowOf_app, HXl.out]; exact ho7)
              have hg8 : World.grownBy (wc.alloc (.cells #[.int .i64 c, .int .i64 h, .int .i64 q] 63)) w7 u6.ownBlock := hg7
              have hun : u5.ownBlock = none ∨ u5.ownBlock ≠ u6.ownBlock := by
                cases hq : u6.ownBlock with
                | none => cases u5.ownBlock <;> simp
                | some q => exact .inr ((ownX_notR (l := XL) (by unfold OwnX; rw [HXl.out]; exact OXJ.out) hq).ne OU'.out)
              have OU7 : Hid (OwnR w7 w.heap.size u5 U') := Lib.hid ((OU'.out.alloc _).kept hg8 hun)
              clear hg8 hun
              clear ho7 hg7 OU' OXJ hnw HSZ TD E1
              go_wp2
              go_roundw
              case rel => exact ⟨k + 1, U', by omega, by go_num, hn7, RU7, OU7, OX7⟩
              case measure => simp [intOf]; omega
      · obtain rfl : k = n := by omega
        have e1 : l.take k = l := by rw [← HN.out]; exact List.take_length
        rw [e1] at RU OX
        obtain ⟨lp, lc, rfl⟩ := (OwnR.row OU.out).form
        have SCU := Lib.hid (SC.out U _ _ w.heap.size wr RU.out OU.out)
        clear e1
        go_wp2_with fail
        refine SCU.out.mono ?_
        rintro e w2 ⟨rfl, O2, B2⟩
        have X2 : OwnX w2 w.heap.size u6 (runX [] l) := B2.owns OX.out (fun q hq h => (ownX_notR OX.out hq).ne OU.out h)
        have hn2 := hnx.trans (B2.below (n := w.heap.size) (fun q h => (OU.out.lt q h).1) hnx.size)
        have O2H := Lib.hid O2
        have X2H := Lib.hid X2
        clear O2 X2 SCU B2
        go_wp2
        go_returns
        exact ⟨_, _, rfl, X2H.out, O2H.out, hn2⟩
end Go.Proofs.Ytepfcphhgmmlhaa

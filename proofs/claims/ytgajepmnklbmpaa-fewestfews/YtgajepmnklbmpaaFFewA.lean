/-
  The document's FewestFault and FewestMany.
-/
import Derived.Test.YtgajepmnklbmpaaFFewB
import Derived.Test.YtgajepmnklbmpaaG17
import Derived.Test.YtgajepmnklbmpaaFwG
import Derived.Test.YtgajepmnklbmpaaRefSameB
import Derived.Test.YtgajepmnklbmpaaG5
namespace Go.Proofs.Ytgajepmnklbmpaa
open Go.RowKit
set_option linter.unusedVariables false
set_option linter.unusedSimpArgs false
theorem len_zero {r : RT} (hc : chkE r.1.1 r.1.2.1 r.1.2.2 = 0) (h6 : r.1.1 = false) : r.1.2.2 = 0 ↔ r.1 = (false, 0, 0) := by
  obtain ⟨hB, e⟩ := al_of hc
  obtain ⟨⟨s, x, n⟩, h⟩ := r
  simp only at hB e h6 ⊢
  subst h6
  obtain ⟨kk, hk⟩ : ∃ kk, kR (((false, x, n), h) : RT) = kk := ⟨_, rfl⟩
  rw [hk] at hB e
  refine ⟨fun h0 => ?_, fun h0 => by injection h0 with _ h0; injection h0⟩
  rw [h0] at e
  have hk : kk = 32 := by
    have h1 := hB.1
    have h3 : wideN false = 32 := rfl
    rw [h3] at h1 e
    have h4 : ((32 - kk : Nat) : Int) = 0 := e.symm
    omega
  rw [hk] at hB
  obtain ⟨c, hc2⟩ := hB.2.2
  have h2 := hB.2.1
  simp [wideN] at h2 hc2
  have : x = 0 := by omega
  rw [this, h0]
theorem any_take {l : List RT} {k : Nat} (hk : k < l.length) (P : RT → Bool) : (l.take (k + 1)).any P = ((l.take k).any P || P l[k]) := by
  rw [List.take_succ_eq_append_getElem hk, List.any_append]; simp
set_option maxHeartbeats 4000000 in
set_option maxRecDepth 100000 in
theorem fewFault_calls (l : List RT) (v : Value) (hlen : l.length ≤ 9223372036854775807) (hw : WordsR l) (w : World) (row : RowR w v l) :
    Calls Try.prog 18 #[v] w fun e w' => e = .returned (.int .i64 (fwE l)) ∧ Below w.heap.size w w' := by
  have C1 := Lib.hid (tableFault_calls l v hlen hw w row)
  obtain ⟨p, c, rfl, hcap, at_⟩ := row.at
  have AT := Lib.hid at_
  obtain ⟨E, hE⟩ : ∃ E, fwE l = E := ⟨_, rfl⟩
  have HE := Lib.hid hE
  obtain ⟨n, hn⟩ : ∃ n, l.length = n := ⟨_, rfl⟩
  have HN := Lib.hid hn
  rw [hn] at hlen C1 ⊢
  rw [hE]
  clear row at_ hE hcap
  by_cases h0 : tabE l = 0
  · have HV := Lib.hid (tabE_val h0).1
    have HF := Lib.hid (show E = if (l.any fun r => r.1.1) = true then 6 else if (l.any fun r => decide (r.1 = (false, 0, 0))) = true then 0 else 7 by rw [← HE.out, fwE, if_pos h0])
    rw [h0] at C1
    clear h0 HE hn
    go_enter Try.func18, Try.ntmps18
    go_wp2_with fail
    refine C1.out.mono ?_
    rintro e w1 ⟨rfl, hb1⟩
    clear C1
    go_wp2_with fail
    go_loopw [4, 14] (fun u i wr => ∃ (k : Nat) (z : Int), k ≤ n ∧ i = .int .i64 k ∧ Below w.heap.size w wr ∧ u = .int .i64 z ∧ Hid (z = if ((l.take k).any fun r => decide (r.1 = (false, 0, 0))) = true then 0 else 7) ∧ Hid (((l.take k).any fun r => r.1.1) = false)) (fun _ i _ => n - (intOf i).toNat)
    case atStart => exact ⟨0, 7, by omega, rfl, hb1, rfl, Lib.hid rfl, Lib.hid rfl⟩
    case round =>
      clear hb1
      obtain ⟨k, z, hk, rfl, hnx, rfl, HZ, IV⟩ := hrel
      by_cases hlt : k < n
      · have hkl : k < l.length := by rw [HN.out]; exact hlt
        obtain ⟨g, o, rfl, hgw, hrec⟩ := AT.out k hkl
        obtain ⟨x0, x1, x2, x3, x4⟩ := routeCells (hrec.keep hnx hgw)
        have T1 := Lib.hid (any_take hkl fun r => r.1.1)
        have T2 := Lib.hid (any_take hkl fun r => decide (r.1 = (false, 0, 0)))
        have T3 := Lib.hid (show l[k].1.1 = true → (l.any fun r => r.1.1) = true from fun h => List.any_eq_true.2 ⟨l[k], List.getElem_mem hkl, h⟩)
        have hc := Lib.hid (HV.out _ (List.getElem_mem hkl))
        have hklt : (k : Int) < (n : Int) := by omega
        generalize l[k] = r at x0 x1 x2 x3 x4 T1 T2 T3 hc
        have hn1 := hnx.alloc hnx.size (.cells #[.bool r.1.1, .int .u64 (aH r.1.2.1), .int .u64 (aL r.1.2.1), .int .i64 r.1.2.2, .int .i64 r.2] 66)
        by_cases h6 : r.1.1 = true
        · have HE6 := Lib.hid (show E = 6 by rw [HF.out, if_pos (T3.out h6)])
          rw [h6] at x0 hn1
          clear h6 T1 T2 T3 hrec hc
          go_wp2_with fail
          go_ret
          exact ⟨by rw [HE6.out]; (first | done | rfl), hn1⟩
        · have h6 : r.1.1 = false := by simpa using h6
          have HL := Lib.hid (len_zero hc.out h6)
          have IV2 : Hid (((l.take (k + 1)).any fun r => r.1.1) = false) := Lib.hid (by rw [T1.out, IV.out, h6]; rfl)
          rw [h6] at x0 hn1
          clear h6 T1 T3 hrec hc IV
          by_cases hz : r.1.2.2 = 0
          · have HU := Lib.hid (show ((l.take (k + 1)).any fun r => decide (r.1 = (false, 0, 0))) = true by rw [T2.out, decide_eq_true (HL.out.1 hz), Bool.or_true])
            have hzb : (r.1.2.2 == 0) = true := by rw [hz]; rfl
            clear hz HL T2
            go_wp2_with fail
            go_roundw
            case rel => exact ⟨k + 1, 0, by omega, by go_num, hn1, rfl, Lib.hid (by rw [HU.out]; rfl), IV2⟩
            case measure => simp [intOf]; omega
          · have HU := Lib.hid (show ((l.take (k + 1)).any fun r => decide (r.1 = (false, 0, 0))) = ((l.take k).any fun r => decide (r.1 = (false, 0, 0))) by rw [T2.out, decide_eq_false (fun h => hz (HL.out.2 h)), Bool.or_false])
            have hzb : (r.1.2.2 == 0) = false := by simpa using hz
            clear hz HL T2
            go_wp2_with fail
            go_roundw
            case rel => exact ⟨k + 1, z, by omega, by go_num, hn1, rfl, Lib.hid (by rw [HU.out]; exact HZ.out), IV2⟩
            case measure => simp [intOf]; omega
      · obtain rfl : n = k := by omega
        rw [show l.take n = l by rw [← HN.out]; exact List.take_length] at IV HZ
        have HE7 := Lib.hid (show E = z by rw [HF.out, IV.out, HZ.out]; simp)
        clear IV HF HZ
        go_wp2_with fail
        go_ret
        exact ⟨by rw [HE7.out]; (first | done | rfl), hnx⟩
  · have HE2 := Lib.hid (show E = tabE l by rw [← HE.out, fwE, if_neg h0])
    generalize tabE l = t at C1 h0 HE2
    have hz1 : (t == 0) = false := by simpa using h0
    have hz2 : (t != 0) = true := by simp [bne, hz1]
    clear HE
    go_enter Try.func18, Try.ntmps18
    go_wp2_with fail
    refine C1.out.mono ?_
    rintro e w1 ⟨rfl, hb1⟩
    clear C1
    go_wp2
    go_ret
    exact ⟨by rw [HE2.out]; (first | done | rfl), hb1⟩
set_option maxHeartbeats 4000000 in
set_option maxRecDepth 100000 in
theorem fewMany_calls (l : List RT) (v : Value) (hl : ValR l) (ll : l.length ≤ 60) (w : World) (row : RowR w v l) :
    Calls Try.prog 20 #[v] w fun e w' => e = .returned (.int .i64 (cstT (dvT false l 32 0 0) 0 : Nat)) ∧ Below w.heap.size w w' := by
  obtain ⟨i0, hii, hz0, hz1, hz2⟩ := info_parts info_int
  have R := Lib.hid row
  obtain ⟨p, c, rfl, hcap, at_⟩ := row.at
  have AT := Lib.hid at_
  have CC := Lib.hid (fun (u : Value) (W : World) (r1 : RowR W (.slice p l.length c) l) (r2 : RowN W u (hopsL l)) => by
    have := cost_calls l _ (hopsL l) u hl (by omega) (List.length_pos_iff.2 (hopsL_ne l)) (by have := hopsL_len l; omega) (fun r hr => hopsL_in hr) 32 0 0 W ⟨by decide, by decide, 0, by decide⟩ (hopsL_zero l) r1 r2
    rw [show ((wideN false - 32 : Nat) : Int) = 0 by decide, show aH 0 = 0 by unfold aH; simp, show aL 0 = 0 by unfold aL; simp] at this
    exact this)
  have TF := Lib.hid (fun (W : World) => topF_calls false W)
  have HR := Lib.hid (show (outL (hopsL l) (dvT false l 32 0 0))[0]? = some ((cstT (dvT false l 32 0 0) 0 : Nat) : Int) ∧ 0 < (outL (hopsL l) (dvT false l 32 0 0)).length from by
    have h1 := hopsL_head l
    cases he : hopsL l with
    | nil => exact absurd he (hopsL_ne l)
    | cons a t =>
      rw [he] at h1
      have h1 : a = 0 := h1
      subst h1
      exact ⟨rfl, by simp [outL]⟩)
  obtain ⟨n, hn⟩ : ∃ n, l.length = n := ⟨_, rfl⟩
  have HN := Lib.hid hn
  rw [hn] at ll CC R ⊢
  generalize outL (hopsL l) (dvT false l 32 0 0) = OUT at CC HR
  generalize cstT (dvT false l 32 0 0) 0 = ans at HR ⊢
  clear row at_ hn hcap hl
  have b1 := (Below.refl w.heap.size w).alloc (Nat.le_refl _) (.cells #[.int .i64 0] 3)
  have O1 : Hid (OwnN (w.alloc (.cells #[.int .i64 0] 3)) w.heap.size (.slice (some ⟨w.heap.size, 0, none⟩) 1 1) (hopsL [])) := Lib.hid (World.ownsRow_lit w #[.int .i64 0] 1 (Nat.le_refl _) (by unfold maxLen; omega) rfl)
  go_enter Try.func20, Try.ntmps20
  go_wp2_with fail
  go_loopw [3, 12] (fun u i wr => ∃ (k : Nat), k ≤ n ∧ i = .int .i64 k ∧ Below w.heap.size w wr ∧ Hid (OwnN wr w.heap.size u (hopsL (l.take k)))) (fun _ i _ => n - (intOf i).toNat)
  case atStart => exact ⟨0, by omega, rfl, b1, O1⟩
  case round =>
    clear b1 O1
    obtain ⟨k, hk, rfl, hnx, OW⟩ := hrel
    have HL := Lib.hid (hopsL_len (l.take k))
    by_cases hlt : k < n
    · have hkl : k < l.length := by rw [HN.out]; exact hlt
      obtain ⟨g, o, rfl, hgw, hrec⟩ := AT.out k hkl
      obtain ⟨x0, x1, x2, x3, x4⟩ := routeCells (hrec.keep hnx hgw)
      have HT := Lib.hid (hopsL_take hkl)
      have hklt : (k : Int) < (n : Int) := by omega
      generalize l[k] = r at x0 x1 x2 x3 x4 HT
      have hm60 : (hopsL (l.take k)).length ≤ 1000 := by have := HL.out; rw [List.length_take] at this; omega
      obtain ⟨S, hS⟩ : ∃ S, hopsL (l.take k) = S := ⟨_, rfl⟩
      rw [hS] at OW HT hm60
      clear hS HL hrec
      have hn1 := hnx.alloc hnx.size (.cells #[.bool r.1.1, .int .u64 (aH r.1.2.1), .int .u64 (aL r.1.2.1), .int .i64 r.1.2.2, .int .i64 r.2] 66)
      have hnew : Hid ((wr.alloc (.cells #[.bool r.1.1, .int .u64 (aH r.1.2.1), .int .u64 (aL r.1.2.1), .int .i64 r.1.2.2, .int .i64 r.2] 66)).cell? ⟨wr.heap.size, 4, none⟩ = some (.int .i64 r.2)) := Lib.hid (by simp)
      have O2 : Hid (OwnN (wr.alloc (.cells #[.bool r.1.1, .int .u64 (aH r.1.2.1), .int .u64 (aL r.1.2.1), .int .i64 r.1.2.2, .int .i64 r.2] 66)) w.heap.size u3 S) := Lib.hid (OW.out.alloc _)
      have AT2 := Lib.hid (RowK.at (OwnN.row O2.out))
      obtain ⟨sp, sc, rfl⟩ := (OwnN.row O2.out).form
      obtain ⟨m, hm⟩ : ∃ m, S.length = m := ⟨_, rfl⟩
      have HM := Lib.hid hm
      rw [hm] at O2 hm60 ⊢
      clear OW hm AT2
      have AT2 : Hid (∀ i (hi : i < S.length), ∃ g o, sp = some ⟨g, o, none⟩ ∧ g < (wr.alloc (.cells #[.bool r.1.1, .int .u64 (aH r.1.2.1), .int .u64 (aL r.1.2.1), .int .i64 r.1.2.2, .int .i64 r.2] 66)).heap.size ∧ RecAt (wr.alloc (.cells #[.bool r.1.1, .int .u64 (aH r.1.2.1), .int .u64 (aL r.1.2.1), .int .i64 r.1.2.2, .int .i64 r.2] 66)) g (o + i * 1) (ics S[i])) := Lib.hid (by
        obtain ⟨p', c', e, _, h⟩ := RowK.at (OwnN.row (show OwnN _ w.heap.size (.slice sp S.length sc) S by rw [HM.out]; exact O2.out))
        injection e with e1 e2 e3
        subst e1
        exact h)
      go_wp2_with fail
      revert hnew O2 hn1 AT2
      have hne : wr.heap.size < (wr.alloc (.cells #[.bool r.1.1, .int .u64 (aH r.1.2.1), .int .u64 (aL r.1.2.1), .int .i64 r.1.2.2, .int .i64 r.2] 66)).heap.size := by simp
      revert hne
      generalize wr.alloc (.cells #[.bool r.1.1, .int .u64 (aH r.1.2.1), .int .u64 (aL r.1.2.1), .int .i64 r.1.2.2, .int .i64 r.2] 66) = Y
      intro hne hn1 hnew O2 AT2
      obtain ⟨bp, hbp⟩ : ∃ b, wr.heap.size = b := ⟨_, rfl⟩
      rw [hbp] at hne hnew ⊢
      clear hbp x0 x1 x2 x3 x4 hnx
      go_loopw [6, 18] (fun f i wz => ∃ (q : Nat) (b : Bool), i = .int .i64 q ∧ q ≤ m ∧ f = .bool b ∧ Hid (b = decide (r.2 ∉ S.take q)) ∧ wz = Y) (fun _ i _ => m - (intOf i).toNat)
      case atStart => exact ⟨0, true, rfl, by omega, rfl, Lib.hid (by simp), rfl⟩
      case round =>
        obtain ⟨q, b, rfl, hq, rfl, HB, rfl⟩ := hrel
        by_cases hlt2 : q < m
        · have hqS : q < S.length := by rw [HM.out]; exact hlt2
          obtain ⟨g', o', rfl, hg', hrec'⟩ := AT2.out q hqS
          have x0 := intCell hrec'
          have y0 := hnew.out
          have HT2 := Lib.hid (List.take_succ_eq_append_getElem hqS)
          have hqm : (q : Int) < (m : Int) := by omega
          generalize S[q] = z at x0 HT2
          clear hrec'
          cases b with
          | false =>
            have HB2 : Hid (false = decide (r.2 ∉ S.take (q + 1))) := Lib.hid (by
              have h := HB.out
              rw [HT2.out]
              symm at h ⊢
              simp only [decide_eq_false_iff_not, Decidable.not_not] at h ⊢
              exact List.mem_append_left _ h)
            clear HB HT2
            go_wp2_with fail
            go_roundw
            case rel => exact ⟨q + 1, false, by go_num, by omega, rfl, HB2, trivial⟩
            case measure => simp [intOf]; omega
          | true =>
            have hb := HB.out
            symm at hb
            simp only [decide_eq_true_eq] at hb
            by_cases e : z = r.2
            · have HB2 : Hid (false = decide (r.2 ∉ S.take (q + 1))) := Lib.hid (by
                rw [HT2.out]; symm; simp [e])
              have hb1 : (z == r.2) = true := by rw [e]; exact beq_self_eq_true _
              have hb2 : (z != r.2) = false := by simp [bne, hb1]
              clear HB HT2 e hb
              go_wp2_with fail
              go_roundw
              case rel => exact ⟨q + 1, false, by go_num, by omega, rfl, HB2, trivial⟩
              case measure => simp [intOf]; omega
            · have HB2 : Hid (true = decide (r.2 ∉ S.take (q + 1))) := Lib.hid (by
                rw [HT2.out]; symm; simp [hb, Ne.symm e])
              have hb1 : (z == r.2) = false := by simpa using e
              have hb2 : (z != r.2) = true := by simp [bne, hb1]
              clear HB HT2 e hb
              go_wp2_with fail
              go_roundw
              case rel => exact ⟨q + 1, true, by go_num, by omega, rfl, HB2, trivial⟩
              case measure => simp [intOf]; omega
        · obtain rfl : m = q := by omega
          rw [show S.take m = S by rw [← HM.out]; exact List.take_length] at HB
          clear AT2
          cases b with
          | false =>
            have OW2 : Hid (OwnN wr w.heap.size (.slice sp m sc) (hopsL (l.take (k + 1)))) := Lib.hid (by
              have h : r.2 ∈ S := by have := HB.out; symm at this; simpa using this
              rw [HT.out, hopsS, if_pos h]; exact O2.out)
            clear HB HT O2
            go_wp2_with fail
            go_roundw
            case rel => exact ⟨k + 1, by omega, by go_num, hn1, OW2⟩
            case measure => simp [intOf]; omega
          | true =>
            have HS := Lib.hid (show hopsL (l.take (k + 1)) = S ++ [r.2] by
              have h : r.2 ∉ S := by have := HB.out; symm at this; simpa using this
              rw [HT.out, hopsS, if_neg h])
            have y0 := hnew.out
            have hnw := Lib.hid (cell_new wr (ics r.2) 3)
            have O3 : Hid (OwnN (wr.alloc (.cells #[.int .i64 r.2] 3)) w.heap.size (.slice sp m sc) S) := Lib.hid (O2.out.alloc _)
            have hn2 := hn1.alloc hn1.size (.cells #[.int .i64 r.2] 3)
            have hS60 : S.length ≤ 100000 := by rw [HM.out]; omega
            have hw1 := hn2.size
            clear HB HT O2
            go_wp2_with (at_builtin; refine wpList_append_one rfl _ _ 41 rfl w.heap.size 3 i0 _ 8 Try.underlying41 hii hz0 hz1 hz2 rfl (by decide) ics_len ics_one S ⟨_, rfl, O3.out⟩ r.2 wr.heap.size 1 rfl hnw.out hS60 (by decide) hw1 ?_; intro v7 w7 ho7 hg7 hb7)
            have OW2 : Hid (OwnN w7 w.heap.size v7 (hopsL (l.take (k + 1)))) := Lib.hid (by rw [HS.out]; exact ho7)
            have hn3 := hn2.trans hb7
            clear HS ho7 hg7 O3 hnw
            go_roundw
            case rel => exact ⟨k + 1, by omega, by go_num, hn3, OW2⟩
            case measure => simp [intOf]; omega
    · obtain rfl : n = k := by omega
      rw [show l.take n = l by rw [← HN.out]; exact List.take_length] at OW
      have RR := Lib.hid (OwnN.row OW.out)
      obtain ⟨sp, sc, rfl⟩ := RR.out.form
      clear AT HL
      go_wp2_with fail
      refine (TF.out _).mono ?_
      rintro e w3 ⟨rfl, hb3⟩
      have R3 := Lib.hid (R.out.keep (thenBelow hnx hb3))
      have R4 := Lib.hid (RR.out.keep hb3)
      have b3 := thenBelow hnx hb3
      generalize (hopsL l).length = m at CC R4 ⊢
      clear TF OW RR hb3 hnx R
      go_wp2_with fail
      refine (CC.out _ _ R3.out R4.out).mono ?_
      rintro e w5 ⟨u5, rfl, o5, hb5⟩
      have b5 := thenBelow b3 hb5
      obtain ⟨g5, c5, m5, rfl, hm5, hx5⟩ : ∃ g c m, u5 = .slice (some ⟨g, 0, none⟩) m c ∧ 0 < m ∧ w5.cell? ⟨g, 0, none⟩ = some (.int .i64 (ans : Int)) := by
        rcases o5.2 with ⟨hv, h0⟩ | ⟨g, cap, cur, hv, hb, hg, hnc, hcm, _⟩
        · have := HR.out.2; omega
        · refine ⟨g, cap, OUT.length, hv, HR.out.2, ?_⟩
          rw [hv] at o5
          exact owns_cellAt o5 0 _ (by rw [rowN_map, List.getElem?_map, HR.out.1]; rfl)
      have hm5' : (0 : Int) < (m5 : Int) := by omega
      clear o5 hb5 CC R3 R4 b3 HR
      go_wp2_with fail
      go_ret
      exact ⟨rfl, b5⟩
end Go.Proofs.Ytgajepmnklbmpaa

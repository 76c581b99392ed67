/-
  The document's viaPort and ViaPort.
-/
import Derived.Test.YtgajepmnklbmpaaViaD
import Derived.Test.YtgajepmnklbmpaaFwA
import Derived.Test.YtgajepmnklbmpaaAppRow
import Derived.Deep.DeepCutAuto
import Derived.Deep.RegionHeld3
namespace Go.Proofs.Ytgajepmnklbmpaa
open Go.RowKit
set_option linter.unusedVariables false
set_option linter.unusedSimpArgs false
theorem newN (W : World) (z : Int) : RowN (W.alloc (.cells #[.int .i64 z] 3)) (.slice (some ⟨W.heap.size, 0, none⟩) 1 1) [z] :=
  .inr ⟨W.heap.size, 0, 1, rfl, by simp, Nat.le_refl _, fun i hi j u hj => by
    have hi0 : i = 0 := by simp at hi; omega
    subst hi0
    have := cell_new W (ics z) 3 j u hj
    simp only [Nat.zero_mul, Nat.zero_add]
    exact this⟩
theorem vfind_at {l : List VT} {j : Nat} {h : Int} (hj : j < l.length) (hno : hasV (l.take j) h = false) (e : l[j].1 = h) : vfind l h = some l[j] := by
  have h1 := vfind_not hno
  unfold vfind at h1 ⊢
  obtain ⟨r, hr⟩ : ∃ r, l[j] = r := ⟨_, rfl⟩
  have e2 : l = l.take j ++ r :: l.drop (j + 1) := by rw [← hr, ← List.drop_eq_getElem_cons hj, List.take_append_drop]
  rw [hr] at e ⊢
  have h3 := congrArg (List.find? fun v => decide (v.1 = h)) e2
  rw [List.find?_append, h1, List.find?_cons_of_pos (by simpa using e)] at h3
  simpa using h3
set_option maxHeartbeats 16000000 in
set_option maxRecDepth 100000 in
theorem refPort_calls (l : List VT) (v : Value) (ll : l.length ≤ 1000) :
    ∀ (m : Nat) (h : Int) (s : List Int) (vb : Value) (w : World), 9 ≤ m + s.length → s.length ≤ 9 → RowV w v l → RowN w vb s →
      Calls Try.prog 28 #[v, .int .i64 h, vb] w fun e w' => e = .returned (.tuple #[.int .i64 (vp l m h s).1, .int .i64 (vp l m h s).2.1, .int .i64 (vp l m h s).2.2]) ∧ Below w.heap.size w w' := by
  intro m
  induction m using Nat.strongRecOn with
  | _ m ih =>
  intro h s vb w hm hs9 row rows
  obtain ⟨i0, hii, hz0, hz1, hz2⟩ := info_parts info_int
  have IH := Lib.hid ih
  have ROW := Lib.hid row
  have ROWS := Lib.hid rows
  obtain ⟨p, c, rfl, hcap, at_⟩ := row.at
  obtain ⟨p2, c2, rfl, hcap2, at2_⟩ := rows.at
  have AT := Lib.hid at_
  have AT2 := Lib.hid at2_
  obtain ⟨n, hn⟩ : ∃ n, l.length = n := ⟨_, rfl⟩
  obtain ⟨q, hq⟩ : ∃ q, s.length = q := ⟨_, rfl⟩
  have HN := Lib.hid hn
  have HQ := Lib.hid hq
  obtain ⟨R, hR⟩ : ∃ R, vp l m h s = R := ⟨_, rfl⟩
  have HR := Lib.hid hR
  rw [hR]
  rw [hn] at ROW ll ⊢
  rw [hq] at ROWS hm hs9 ⊢
  have HM := Lib.hid hm
  clear ih row rows at_ at2_ hcap hcap2 hn hq hR hm
  go_enter Try.func28, Try.ntmps28
  go_wp2_with fail
  go_loopw [15] (fun i wr => ∃ (j : Nat), i = .int .i64 j ∧ j ≤ n ∧ Below w.heap.size w wr ∧ Hid (hasV (l.take j) h = false)) (fun i _ => n - (intOf i).toNat)
  case atStart => exact ⟨0, rfl, by omega, Below.refl _ _, Lib.hid rfl⟩
  case round =>
    obtain ⟨j, rfl, hj, hnx, IV⟩ := hrel
    by_cases hlt : j < n
    · have hjl : j < l.length := by rw [HN.out]; exact hlt
      obtain ⟨g, o, rfl, hgw, hrec⟩ := AT.out j hjl
      obtain ⟨x0, x1, x2⟩ := viaCells (hrec.keep hnx hgw)
      have HF := Lib.hid (fun e => vfind_at (h := h) hjl IV.out e)
      have HT := Lib.hid (show l.take (j + 1) = l.take j ++ [l[j]] from List.take_succ_eq_append_getElem hjl)
      have hltj : (j : Int) < (n : Int) := by omega
      generalize l[j] = r at x0 x1 x2 HF HT
      have hnA := hnx.alloc hnx.size (objV r)
      clear hrec
      by_cases e : r.1 = h
      · have HV := Lib.hid (HF.out e)
        have hh : Hid (hasV l h = true) := Lib.hid (by rw [← vfind_has, HV.out]; rfl)
        have hg : Hid (vget l h = r) := Lib.hid (by rw [vget, HV.out]; rfl)
        have hb1 : (r.1 == h) = true := by rw [e]; exact beq_self_eq_true _
        have hb2 : (r.1 != h) = false := by simp [bne, hb1]
        clear e HF HT HV IV
        go_wp2_with fail
        have RR := Lib.hid (objV_new wr r)
        have hal : wr.heap.size < (wr.alloc (objV r)).heap.size := by simp
        revert hnA RR hal
        generalize wr.alloc (objV r) = Y
        intro hnA RR hal
        obtain ⟨bp, hbp⟩ : ∃ b, wr.heap.size = b := ⟨_, rfl⟩
        rw [hbp] at RR hal ⊢
        clear hbp x0 x1 x2
        go_loopw [25] (fun i wz => ∃ (t : Nat), i = .int .i64 t ∧ t ≤ q ∧ wz = Y ∧ Hid (h ∉ s.take t)) (fun i _ => q - (intOf i).toNat)
        case atStart => exact ⟨0, rfl, by omega, rfl, Lib.hid (by simp)⟩
        case round =>
          obtain ⟨t, rfl, ht, rfl, TV⟩ := hrel
          by_cases hlt2 : t < q
          · have hts : t < s.length := by rw [HQ.out]; exact hlt2
            obtain ⟨g', o', rfl, hg', hrec'⟩ := AT2.out t hts
            have x0 := intCell (hrec'.keep hnA hg')
            have T2 := Lib.hid (List.take_succ_eq_append_getElem hts)
            have TM := Lib.hid (show s[t] = h → h ∈ s from fun e => by rw [← e]; exact List.getElem_mem hts)
            have hlt3 : (t : Int) < (q : Int) := by omega
            generalize s[t] = z at x0 T2 TM
            clear hrec'
            by_cases e : z = h
            · have HE := Lib.hid (show R = (0, 0, 10) by rw [← HR.out, vp_loop hh.out (TM.out e)])
              have hb3 : (z == h) = true := by rw [e]; exact beq_self_eq_true _
              clear e T2 TM TV
              go_wp2_with fail
              go_ret3
              exact ⟨by rw [HE.out]; rfl, hnA⟩
            · have TV2 : Hid (h ∉ s.take (t + 1)) := Lib.hid (by rw [T2.out, List.mem_append, List.mem_singleton, not_or]; exact ⟨TV.out, Ne.symm e⟩)
              have hb3 : (z == h) = false := by simpa using e
              clear e T2 TM TV
              go_wp2_with fail
              go_roundw
              case rel => exact ⟨t + 1, by go_num, by omega, trivial, TV2⟩
              case measure => simp [intOf]; omega
          · obtain rfl : q = t := by omega
            rw [show s.take q = s by rw [← HQ.out]; exact List.take_length] at TV
            obtain ⟨y0, y1, y2⟩ := viaCells RR.out
            simp only [Nat.zero_add] at y0 y1 y2
            by_cases h8 : 8 < q
            · have HE := Lib.hid (show R = (0, 0, 9) by rw [← HR.out, vp_full hh.out TV.out (by rw [HQ.out]; exact h8)])
              have h8' : (8 : Int) < (q : Int) := by omega
              clear TV hh hg
              go_wp2_with fail
              go_ret3
              exact ⟨by rw [HE.out]; rfl, hnA⟩
            · have h8' : ¬ (8 : Int) < (q : Int) := by omega
              by_cases hp : 0 < r.2.1
              · have HE := Lib.hid (show R = (r.2.1, (q : Int), 0) by rw [← HR.out, vp_port hh.out TV.out (by rw [HQ.out]; exact h8) (by rw [hg.out]; exact hp), hg.out, HQ.out])
                clear TV hh hg
                go_wp2_with fail
                go_ret3
                exact ⟨by rw [HE.out]; rfl, hnA⟩
              · obtain ⟨m', hm'⟩ : ∃ m', m = m' + 1 := ⟨m - 1, by have := HM.out; omega⟩
                subst hm'
                have HE := Lib.hid (show vp l m' r.2.2 (s ++ [h]) = R by rw [← HR.out, vp_next hh.out TV.out (by rw [HQ.out]; exact h8) (by rw [hg.out]; exact hp), hg.out])
                have CC := Lib.hid (fun (u : Value) (W : World) (r1 : RowV W (.slice (some ⟨g, o, none⟩) l.length c) l) (r2 : RowN W u (s ++ [h])) => IH.out m' (by omega) r.2.2 (s ++ [h]) u W (by have := HM.out; rw [List.length_append, HQ.out]; simp; omega) (by rw [List.length_append, HQ.out]; simp; omega) r1 r2)
                rw [HE.out, HN.out] at CC
                have RV := Lib.hid (ROW.out.keep hnA)
                have RS := Lib.hid (ROWS.out.keep hnA)
                have hby1 : s.length * 8 ≤ 140737488355328 := by rw [HQ.out]; omega
                have h631 : s.length ≤ maxLen := by rw [HQ.out]; unfold maxLen; omega
                have hby2 : (s.length + [h].length) * 8 ≤ 140737488355328 := by rw [HQ.out]; simp; omega
                have h632 : s.length + [h].length ≤ maxLen := by rw [HQ.out]; unfold maxLen; simp; omega
                clear TV hh hg IH HE HR AT AT2 ROW ROWS HM
                have KK := Lib.hid (fun (W : World) (hb : Below wr.heap.size wr W) => show W.cell? ⟨bp, 2, none⟩ = some (.int .i64 r.2.2) from (hb.cell (p := ⟨bp, 2, none⟩) hal).trans y2)
                have BA : Hid (Below wr.heap.size wr (wr.alloc (.cells #[.int .i64 h] 3)).drew) := Lib.hid ((Below.refl wr.heap.size wr).alloc (Nat.le_refl _) _).drew
                have RNW : Hid (RowN (wr.alloc (.cells #[.int .i64 h] 3)).drew (.slice (some ⟨wr.heap.size, 0, none⟩) 1 1) [h]) := Lib.hid ((newN wr h).keep (Below.refl _ _).drew)
                have tk1 : True := trivial
                have tk2 : True := trivial
                go_upto_region 15 with fail
                go_region_held3 (fun W => W.cell? ⟨bp, 2, none⟩ = some (.int .i64 r.2.2) ∧ True)
                  (first | exact ⟨KK.out _ ((Below.refl _ wr).drew), trivial⟩ | exact ⟨KK.out _ BA.out, trivial⟩ | exact ⟨KK.out _ B3_, trivial⟩ | exact ⟨KK.out _ B2_, trivial⟩ | exact ⟨KK.out _ B1_, trivial⟩ | exact ⟨KK.out _ (B1_.alloc B1_.size _), trivial⟩ | fail)
                  (first
                    | (have _t := tk1; refine step_append_copy rfl _ _ _ rfl 3 i0 _ 8 Try.underlying41 hii hz0 hz1 hz2 rfl (by decide) ics_len ics_one rfl _ _ rfl (RS.out.keep ((Below.refl _ wr).drew)) hby1 h631 ?_; intro v30 w30 ho30 hb30; have B1_ : Below wr.heap.size wr w30 := thenBelow ((Below.refl _ wr).drew) hb30; have O7A : Hid (w30.ownsRow wr.heap.size 3 1 v30 s.length (rowOf ics s)) := Lib.hid ho30; have RN7A := Lib.hid (newN w30 h); clear tk1)
                    | (have _t := tk1; refine step_append_copy rfl _ _ _ rfl 3 i0 _ 8 Try.underlying41 hii hz0 hz1 hz2 rfl (by decide) ics_len ics_one rfl _ _ rfl (RS.out.keep BA.out) hby1 h631 ?_; intro v30 w30 ho30 hb30; have B1_ : Below wr.heap.size wr w30 := thenBelow BA.out hb30; have O7 : Hid (w30.ownsRow wr.heap.size 3 1 v30 s.length (rowOf ics s)) := Lib.hid (ownsLow ho30 BA.out.size); have RN7 := Lib.hid (RNW.out.keep hb30); clear tk1)
                    | (have _t := tk2; refine step_append_row rfl _ _ _ rfl wr.heap.size 3 i0 _ 8 Try.underlying41 hii hz0 hz1 hz2 rfl (by decide) ics_len ics_one _ _ _ rfl (O7A.out.alloc _) _ _ rfl RN7A.out ⟨_, _, _, rfl⟩ hby2 h632 (B1_.alloc B1_.size _).size ?_; intro v31 w31 ho31 hb31; have B2_ := (B1_.alloc B1_.size _).trans hb31; have O8 := Lib.hid ho31; clear tk2)
                    | (have _t := tk2; refine step_append_row rfl _ _ _ rfl wr.heap.size 3 i0 _ 8 Try.underlying41 hii hz0 hz1 hz2 rfl (by decide) ics_len ics_one _ _ _ rfl O7.out _ _ rfl RN7.out ⟨_, _, _, rfl⟩ hby2 h632 B1_.size ?_; intro v31 w31 ho31 hb31; have B2_ := B1_.trans hb31; have O8 := Lib.hid ho31; clear tk2)
                    | (go_at_call 28; refine (CC.out _ _ (RV.out.keep B2_) (OwnN.row (base := wr.heap.size) (by unfold OwnN; rw [List.length_append, rowOf_app]; exact O8.out))).mono ?_; rintro e w32 ⟨rfl, hb32⟩; have B3_ : Below wr.heap.size wr w32 := thenBelow B2_ hb32)
                    | fail)
                all_goals
                  go_wp2
                  go_ret3
                  exact ⟨by simp, thenBelow hnA B3_⟩
      · have IV2 : Hid (hasV (l.take (j + 1)) h = false) := Lib.hid (by rw [HT.out, hasV_snoc, IV.out, decide_eq_false e]; rfl)
        have hb1 : (r.1 == h) = false := by simpa using e
        have hb2 : (r.1 != h) = true := by simp [bne, hb1]
        clear e HF HT IV
        go_wp2_with fail
        go_roundw
        case rel => exact ⟨j + 1, by go_num, by omega, hnA, IV2⟩
        case measure => simp [intOf]; omega
    · obtain rfl : n = j := by omega
      rw [show l.take n = l by rw [← HN.out]; exact List.take_length] at IV
      have HE := Lib.hid (show R = (0, 0, 7) by rw [← HR.out, vp_none IV.out])
      clear IV
      go_wp2_with fail
      go_ret3
      exact ⟨by rw [HE.out]; rfl, hnx⟩
set_option maxHeartbeats 2000000 in
theorem refViaPort_calls (l : List VT) (v : Value) (hop : Int) (hlen : l.length ≤ 9223372036854775807) (w : World) (row : RowV w v l) :
    Calls Try.prog 14 #[v, .int .i64 hop] w fun e w' => e = .returned (.tuple #[.int .i64 (vportE l hop).1, .int .i64 (vportE l hop).2.1, .int .i64 (vportE l hop).2.2]) ∧ Below w.heap.size w w' := by
  have C := Lib.hid (viaFault_calls l v hlen w row)
  have ROW := Lib.hid row
  obtain ⟨p, c, rfl⟩ := row.form
  clear row
  by_cases h0 : viaE l = 0
  · have ll := (viaE_0 h0).1
    rw [show vportE l hop = vport l hop by rw [vportE, if_pos h0]]
    have F := Lib.hid (fun (W : World) (r : RowV W (.slice p l.length c) l) => refPort_calls l _ (by omega) 9 hop [] (.slice none 0 0) W (by simp) (by simp) r (.inl ⟨rfl, none, 0, rfl⟩))
    rw [show vp l 9 hop [] = vport l hop from rfl] at F
    rw [h0] at C
    generalize vport l hop = R at F ⊢
    clear h0 ll
    go_enter Try.func14, Try.ntmps14
    go_wp2_with fail
    refine C.out.mono ?_
    rintro e w1 ⟨rfl, hb1⟩
    have R1 := Lib.hid (ROW.out.keep hb1)
    clear C ROW
    go_wp2_with fail
    refine (F.out _ R1.out).mono ?_
    rintro e w2 ⟨rfl, hb2⟩
    have b2 := thenBelow hb1 hb2
    clear F R1 hb1 hb2
    go_wp2
    go_ret3
    exact ⟨by simp, b2⟩
  · rw [show vportE l hop = (0, 0, viaE l) by rw [vportE, if_neg h0]]
    generalize viaE l = t at C h0 ⊢
    have hz1 : (t == 0) = false := by simpa using h0
    have hz2 : (t != 0) = true := by simp [bne, hz1]
    clear h0
    go_enter Try.func14, Try.ntmps14
    go_wp2_with fail
    refine C.out.mono ?_
    rintro e w1 ⟨rfl, hb1⟩
    clear C
    go_wp2
    go_ret3
    exact ⟨by simp, hb1⟩
end Go.Proofs.Ytgajepmnklbmpaa

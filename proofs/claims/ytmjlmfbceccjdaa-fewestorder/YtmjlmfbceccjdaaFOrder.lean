/-
  FewestOrder: for every list of jobs and all numbers the compressed table's size hangs not on the order of routes, and a route that says what stands above it adds none. No conditions.
-/
import Derived.Test.YtmjlmfbceccjdaaRows
import Derived.Test.YtmjlmfbceccjdaaFOrdM
import Derived.Deep.DeepCutAuto
import Derived.Deep.RegionHeld3
import Derived.Test.YtmjlmfbceccjdaaG15
import Derived.Test.YtmjlmfbceccjdaaRowsJ
import Derived.Test.YtmjlmfbceccjdaaDBackN
import Derived.Test.YtmjlmfbceccjdaaG12
import Derived.Test.YtmjlmfbceccjdaaPreK2
import Derived.Test.YtmjlmfbceccjdaaFHalves
import Derived.Test.YtmjlmfbceccjdaaG13
import Derived.Deep.CutRange
namespace Go.Proofs.Ytmjlmfbceccjdaa
open Go.ChangeShapes Go.WideShapes Go.ChangeAt Go.RowKit Go.Joins
set_option linter.unusedSimpArgs false
set_option linter.unusedVariables false
theorem cvU_calls {x k : Nat} (hA : AL false x k) (r : RT) (hc : chkE r.1.1 r.1.2.1 r.1.2.2 = 0) (h6 : r.1.1 = false) (w : World) :
    Calls Try.prog 22 #[.agg #[.bool r.1.1, .int .u64 (aH r.1.2.1), .int .u64 (aL r.1.2.1), .int .i64 r.1.2.2], .agg #[.bool false, .int .u64 (aH x), .int .u64 (aL x), .int .i64 ((wideN false - k : Nat) : Int)]] w fun e w' => e = .returned (.tuple #[.bool (cvR x k r), .int .i64 0]) ∧ Below w.heap.size w w' := by
  obtain ⟨hB, e⟩ := al_of hc
  have ho : cvR x k r = cov r.1.2.1 (kR r) x k := by rw [cvR, decide_eq_true h6, Bool.true_and]
  rw [ho, e]
  rw [h6] at hB ⊢
  exact covers_al hB hA _ rfl w
set_option maxHeartbeats 8000000 in
set_option maxRecDepth 100000 in
theorem FOrder.walk (v0 : Value) (l0 : List JT) (a1 a2 a3 : Int) (wrd0 : WordsJ l0) (len0 : l0.length ≤ 9223372036854775807) (b0 : -9223372036854775808 ≤ a1) (b1 : a1 ≤ 9223372036854775807) (c0 : -9223372036854775808 ≤ a2) (c1 : a2 ≤ 9223372036854775807) (d0 : -9223372036854775808 ≤ a3) (d1 : a3 ≤ 9223372036854775807) (w : World) (row0 : RowJ w v0 l0) :
    Calls Try.prog 6 #[v0, .int .i64 a1, .int .i64 a2, .int .i64 a3] w fun e w' => e = .returned (.bool true) ∧ Below w.heap.size w w' := by
  obtain ⟨i0, hii, hz0, hz1, hz2⟩ := info_parts info_route
  have WC := Lib.hid (whole_calls l0 v0 a1 len0 wrd0 b0 b1 w row0)
  obtain ⟨hz, hlz⟩ := whole_fw l0 a1
  generalize wholeZ l0 a1 = L at WC hz hlz
  have HZF := Lib.hid hz
  have TZ := Lib.hid (fwE_0 hz).1
  have hpos : 0 < L.length := by obtain ⟨_, _, r, hr, _⟩ := fwE_0 hz; exact List.length_pos_of_mem hr
  have PC := Lib.hid (fun (g : Nat) (W : World) (hc : W.cell? ⟨g, 0, none⟩ = some (.int .i64 a3)) => pres1_calls a3 d0 d1 g W hc)
  have FW := Lib.hid (fun (T : List RT) (hT : fwE T = 0) (u : Value) (W : World) (r : RowR W u T) => fewest_ok T u hT (words_tab (fwE_0 hT).1) W r)
  have R0 := Lib.hid row0
  obtain ⟨q0, e0, rfl⟩ := row0.form
  clear row0 wrd0 hz
  go_enter Try.func6, Try.ntmps6
  go_wp2_with fail
  refine WC.out.mono ?_
  rintro e w1 ⟨u1, rfl, o1, hb1⟩
  have RZ1 := Lib.hid (OwnR.row o1)
  obtain ⟨m, hm⟩ : ∃ m, L.length = m := ⟨_, rfl⟩
  have HM := Lib.hid hm
  obtain ⟨rp, rc, rfl, _, at_⟩ := RZ1.out.at
  have AT := Lib.hid at_
  obtain ⟨d, hd⟩ : ∃ d : Nat, (a2 % (m : Int)).toNat = d := ⟨_, rfl⟩
  have HD := Lib.hid hd
  rw [hm] at hlz hpos
  rw [hm]
  clear at_ hm hd o1 WC R0
  go_wp2_with fail
  go_loopw [11, 12] (fun u i wr => ∃ k : Nat, k ≤ m ∧ i = .int .i64 k ∧ Below w1.heap.size w1 wr ∧ Hid (OwnR wr w1.heap.size u (rotL L d k))) (fun _ i _ => m - (intOf i).toNat)
  case atStart => exact ⟨0, by omega, rfl, Below.refl _ _, Lib.hid (World.ownsRow_nil _ _ _ _)⟩
  case round =>
    obtain ⟨k, hk, rfl, bw, OW⟩ := hrel
    by_cases hlt : k < m
    · have hm0 : (0 : Int) < (m : Int) := by omega
      have hd0 := Int.emod_nonneg a2 (show (m : Int) ≠ 0 by omega)
      have hd1 := Int.emod_lt_of_pos a2 hm0
      have PK := Lib.hid (fun W => picked_calls a2 m (by omega) (by omega) c0 c1 W)
      have ed : a2 % (m : Int) = (d : Int) := by have := HD.out; omega
      rw [ed] at PK hd1
      obtain ⟨j, hj⟩ : ∃ j : Nat, (k + d) % m = j := ⟨_, rfl⟩
      have hjm : j < m := by rw [← hj]; exact Nat.mod_lt _ (by omega)
      have hdm : d < m := by omega
      have e2 : ((k : Int) + (d : Int)) % (m : Int) = (j : Int) := by rw [← hj]; simp
      have hjl : j < L.length := by rw [HM.out]; exact hjm
      obtain ⟨g, o, rfl, hgw, hrec⟩ := AT.out j hjl
      obtain ⟨x0, x1, x2, x3, x4⟩ := routeCells (hrec.keep bw hgw)
      have HT : Hid (rotL L d (k + 1) = rotL L d k ++ [L[j]]) := Lib.hid (by rw [rotL_succ, HM.out, hj, getElem!_pos L j hjl])
      have hcll : (rotL L d k).length ≤ 60 := by rw [rotL_len]; omega
      generalize L[j] = r at x0 x1 x2 x3 x4 HT
      obtain ⟨cl, hcl⟩ : ∃ cl, rotL L d k = cl := ⟨_, rfl⟩
      rw [hcl] at OW HT hcll
      have hjlt : (j : Int) < (m : Int) := by omega
      have hklt : (k : Int) < (m : Int) := by omega
      have hsz := bw.size
      have OD3 := Lib.hid (OW.out.alloc (.cells #[.bool r.1.1, .int .u64 (aH r.1.2.1), .int .u64 (aL r.1.2.1), .int .i64 r.1.2.2, .int .i64 r.2] 51))
      have hCN := Lib.hid (cell_new wr (rcs r) 51)
      have hnA := bw.alloc bw.size (.cells #[.bool r.1.1, .int .u64 (aH r.1.2.1), .int .u64 (aL r.1.2.1), .int .i64 r.1.2.2, .int .i64 r.2] 51)
      clear hj hrec hd0 hcl OW ed
      go_wp2_with fail
      refine (PK.out _).mono ?_
      rintro e w' ⟨rfl, rfl⟩
      have e0 : ((m : Int) == 0) = false := by simp; omega
      go_wp2_with (at_builtin; refine wpList_append_one rfl _ _ 23 rfl w1.heap.size 51 i0 _ 40 Try.underlying23 hii hz0 hz1 hz2 rfl (by decide) rcs_len rcs_one cl ⟨_, rfl, OD3.out⟩ r wr.heap.size 1 rfl hCN.out (by omega) (by decide) (by simp; omega) ?_; intro v5 w5 ho5 hg5 hb5)
      have hn5 := hnA.trans hb5
      have OD5 := Lib.hid ho5
      clear ho5 hg5 hb5 hnA OD3 hCN
      go_roundw
      case rel => exact ⟨k + 1, by omega, by go_num, hn5, Lib.hid (by rw [HT.out]; exact OD5.out)⟩
      case measure => simp [intOf]; omega
    · obtain rfl : k = m := by omega
      have RF : Hid (fwE (rotL L d k) = 0 ∧ (fwL (rotL L d k)).length = (fwL L).length) := Lib.hid (by
        rw [← HM.out]; exact rot_fw HZF.out d)
      have hRl : (rotL L d k).length = k := rotL_len _ _ _
      obtain ⟨R, hRe⟩ : ∃ R, rotL L d k = R := ⟨_, rfl⟩
      rw [hRe] at RF OW hRl
      obtain ⟨op, oc, hoe⟩ := OW.out.row.form
      rw [hRl] at hoe
      subst hoe
      have RO := Lib.hid (OwnR.row OW.out)
      have RZ := Lib.hid (RZ1.out.keep bw)
      have bW : Below w.heap.size w wr := thenBelow hb1 bw
      have bI := (Below.refl wr.heap.size wr).alloc (Nat.le_refl _) (.cells #[.int .i64 a3] 3)
      clear hRe OW hlt
      go_wp2_with fail
      refine (PC.out wr.heap.size _ (by simp)).mono ?_
      rintro e w2 ⟨pv, rfl, hop, hb2⟩
      obtain ⟨pg, pc, hpv⟩ : ∃ pg pc, pv = .slice (some ⟨pg, 0, none⟩) 1 pc := by
        rcases hop.2 with ⟨_, h0⟩ | ⟨g, cap, cur, e, _⟩
        · cases h0
        · exact ⟨g, cap, e⟩
      subst hpv
      have z0 := owns_cellAt hop 0 _ rfl
      have z1 := owns_cellAt hop 1 _ rfl
      have z2 := owns_cellAt hop 2 _ rfl
      have z3 := owns_cellAt hop 3 _ rfl
      have HZ := Lib.hid (preZ_ok a3)
      have HX := Lib.hid (show (preZ a3).1 = false from rfl)
      obtain ⟨z, hz⟩ : ∃ z, preZ a3 = z := ⟨_, rfl⟩
      rw [hz] at z0 z1 z2 z3 HZ HX
      have n2 : Below wr.heap.size wr w2 := thenBelow bI hb2
      clear hz hop PC hb2 bI
      have PP := PreAt.new w2 z.1 (aH z.2.1) (aL z.2.1) z.2.2 32
      have bP := (Below.refl w2.heap.size w2).alloc (Nat.le_refl _) (.cells #[.bool z.1, .int .u64 (aH z.2.1), .int .u64 (aL z.2.1), .int .i64 z.2.2] 32)
      have n3 := thenBelow n2 bP
      go_wp2_with fail
      clear z0 z1 z2 z3
      have bY := thenBelow bW n3
      have c3 := thenBelow bw n3
      have RZY := Lib.hid (RZ.out.keep n3)
      have ROY := Lib.hid (RO.out.keep n3)
      clear RZ RO bP n2 n3 bw bW RZ1
      revert PP bY c3 RZY ROY
      generalize w2.alloc (.cells #[.bool z.1, .int .u64 (aH z.2.1), .int .u64 (aL z.2.1), .int .i64 z.2.2] 32) = Y
      intro PP bY c3 RZY ROY
      obtain ⟨bq, hbq⟩ : ∃ b, w2.heap.size = b := ⟨_, rfl⟩
      rw [hbq] at PP ⊢
      clear hbq
      have PQ := Lib.hid PP
      obtain ⟨y0, y1, y2, y3, yl⟩ := PP
      go_wp2_with fail
      go_loopw [14, 15] (fun h i wr => ∃ j q : Nat, j ≤ k ∧ i = .int .i64 j ∧ h = .bool ((L.take j).any fun r => decide (r.1 = z)) ∧ wr = Y.drewN q) (fun _ i _ => k - (intOf i).toNat)
      case atStart => exact ⟨0, 0, Nat.zero_le _, rfl, rfl, rfl⟩
      case round =>
        obtain ⟨j, q, hj, rfl, rfl, rfl⟩ := hrel
        by_cases hlt : j < k
        · have hjl : j < L.length := by rw [HM.out]; exact hlt
          obtain ⟨g, o, rfl, hgw, hrec⟩ := AT.out j hjl
          obtain ⟨x0, x1, x2, x3, x4⟩ := routeCells (hrec.keep c3 hgw)
          have HT := Lib.hid (show ((L.take (j + 1)).any fun r => decide (r.1 = z)) = (((L.take j).any fun r => decide (r.1 = z)) || decide (L[j].1 = z)) by rw [take_snoc hjl, List.any_append]; simp)
          generalize L[j] = r at x0 x1 x2 x3 x4 HT
          have hltj : (j : Int) < (k : Int) := by omega
          clear hrec
          obtain ⟨hd, hhd⟩ : ∃ hd, ((L.take j).any fun r => decide (r.1 = z)) = hd := ⟨_, rfl⟩
          rw [hhd] at HT ⊢
          clear hhd
          cases hd with
          | true =>
            go_wp2_with fail
            go_quiet ((fail))
            go_wp2
            go_roundw
            case rel => exact ⟨j + 1, _, by omega, by go_num, by rw [HT.out]; rfl, rfl⟩
            case measure => simp [intOf]; omega
          | false =>
            rw [Bool.false_or] at HT
            rcases pk_cases r.1 z with e | e | ⟨e1, e⟩ | ⟨e1, e2, e⟩ | ⟨e1, e2, e3, e⟩
            · rw [decide_eq_true e] at HT
              rw [e] at x0 x1 x2 x3
              clear e
              go_wp2_with fail
              go_quiet ((fail))
              go_wp2
              go_roundw
              case rel => exact ⟨j + 1, _, by omega, by go_num, by rw [HT.out], rfl⟩
              case measure => simp [intOf]; omega
            · rw [decide_eq_false fun c => by rw [c] at e; simp at e] at HT
              go_wp2_with fail
              go_quiet ((fail))
              go_wp2
              go_roundw
              case rel => exact ⟨j + 1, _, by omega, by go_num, by rw [HT.out], rfl⟩
              case measure => simp [intOf]; omega
            · rw [decide_eq_false fun c => by rw [c] at e; simp at e] at HT
              rw [e1] at x0
              go_wp2_with fail
              go_quiet ((fail))
              go_wp2
              go_roundw
              case rel => exact ⟨j + 1, _, by omega, by go_num, by rw [HT.out], rfl⟩
              case measure => simp [intOf]; omega
            · rw [decide_eq_false fun c => by rw [c] at e; simp at e] at HT
              rw [e1] at x0
              rw [e2] at x1
              go_wp2_with fail
              go_quiet ((fail))
              go_wp2
              go_roundw
              case rel => exact ⟨j + 1, _, by omega, by go_num, by rw [HT.out], rfl⟩
              case measure => simp [intOf]; omega
            · rw [decide_eq_false fun c => by rw [c] at e; simp at e] at HT
              rw [e1] at x0
              rw [e2] at x1
              rw [e3] at x2
              go_wp2_with fail
              go_quiet ((fail))
              go_wp2
              go_roundw
              case rel => exact ⟨j + 1, _, by omega, by go_num, by rw [HT.out], rfl⟩
              case measure => simp [intOf]; omega
        · obtain rfl : j = k := by omega
          have bd := below_drewN (Below.refl Y.heap.size Y) q
          have b5 := thenBelow bY bd
          have c5 := thenBelow c3 bd
          have RZ5 := Lib.hid (RZY.out.keep bd)
          have RO5 := Lib.hid (ROY.out.keep bd)
          have PQ5 := Lib.hid (PQ.out.keep bd)
          clear RZY ROY PQ y0 y1 y2 y3 yl bY c3 bd hlt
          obtain ⟨hd, hhd⟩ : ∃ hd, ((L.take j).any fun r => decide (r.1 = z)) = hd := ⟨_, rfl⟩
          have HHD := Lib.hid (show (L.any fun r => decide (r.1 = z)) = hd by rw [← hhd, ← HM.out, List.take_length])
          rw [hhd]
          clear hhd
          generalize Y.drewN q = W5 at b5 c5 RZ5 RO5 PQ5 ⊢
          rw [HM.out] at RZ5
          have hby1 : L.length * 40 ≤ 140737488355328 := by rw [HM.out]; omega
          have h631 : L.length ≤ maxLen := by rw [HM.out]; unfold maxLen; omega
          have hpX : 1 ≤ (fwL L).length := by obtain ⟨r, hr, _⟩ := fw_def HZF.out; exact List.length_pos_of_mem hr
          have hlX : (fwL L).length ≤ 60 := (tabE_val (fw_tab HZF.out)).2.2
          have RZ5' : Hid (RowR W5 (.slice rp L.length rc) L) := Lib.hid (by rw [HM.out]; exact RZ5.out)
          go_wp2_with (at_builtin; refine wpList_append_copy rfl _ _ _ rfl 51 i0 _ 40 Try.underlying23 hii hz0 hz1 hz2 rfl (by decide) rcs_len rcs_one rfl _ _ rfl RZ5.out (by have := HM.out; omega) (by have := HM.out; unfold maxLen; omega) ?_; intro u6 w6 o6 hb6)
          have RZ6 := Lib.hid (RZ5'.out.keep hb6)
          have RO6 := Lib.hid (RO5.out.keep hb6)
          have PQ6 := Lib.hid (PQ5.out.keep hb6)
          have b6 := thenBelow b5 hb6
          have c6 := thenBelow c5 hb6
          have C6 := Lib.hid (OwnR.row o6)
          clear RZ5 RZ5' RO5 PQ5 b5 c5 o6 hb6
          refine (FW.out L HZF.out _ _ C6.out).mono ?_
          rintro e w7 ⟨u7, rfl, o7, hb7⟩
          have RZ7 := Lib.hid (RZ6.out.keep hb7)
          have RO7 := Lib.hid (RO6.out.keep hb7)
          have PQ7 := Lib.hid (PQ6.out.keep hb7)
          have b7 := thenBelow b6 hb7
          have c7 := thenBelow c6 hb7
          obtain ⟨p7, f7, rfl⟩ := (OwnR.row o7).form
          clear RZ6 RO6 PQ6 b6 c6 C6 o7 hb7
          go_wp2_with fail
          refine (FW.out R RF.out.1 _ _ RO7.out).mono ?_
          rintro e w8 ⟨u8, rfl, o8, hb8⟩
          have RZ8 := Lib.hid (RZ7.out.keep hb8)
          have PQ8 := Lib.hid (PQ7.out.keep hb8)
          have b8 := thenBelow b7 hb8
          have c8 := thenBelow c7 hb8
          obtain ⟨p8, f8, rfl⟩ := (OwnR.row o8).form
          rw [RF.out.2]
          have ADD := Lib.hid (fun (x k : Nat) (hA : AL false x k) (hn : ∀ r ∈ L, r.1 ≠ pkB false x k) => add_fw HZF.out (by have := HM.out; omega) hA hn)
          obtain ⟨n, hn⟩ : ∃ n, (fwL L).length = n := ⟨_, rfl⟩
          rw [hn] at hpX hlX ADD ⊢
          have hn1 : ¬ (n : Int) < 1 := by omega
          clear hn RZ7 RO7 PQ7 b7 c7 o8 hb8 RF hRl
          cases hd with
          | true =>
            go_wp2_with fail
            go_ret
            exact ⟨by simp, b8⟩
          | false =>
            obtain ⟨hAL, hAe⟩ := al_of (r := (z, 0)) HZ.out
            obtain ⟨kk, hkk⟩ : ∃ kk, kR (z, 0) = kk := ⟨_, rfl⟩
            rw [hkk] at hAL hAe
            clear hkk
            obtain ⟨s, x, N⟩ := z
            have hs := HX.out
            simp only at hs hAL hAe PQ8 HHD
            subst hs
            obtain ⟨v, hv⟩ : ∃ v : Nat, wideN false - kk = v := ⟨_, rfl⟩
            have CV := Lib.hid (fun (r : RT) (hc : chkE r.1.1 r.1.2.1 r.1.2.2 = 0) (h6 : r.1.1 = false) (W : World) => cvU_calls hAL r hc h6 W)
            have HPK := Lib.hid (show pkB false x kk = (false, x, N) by rw [pkB, hAe])
            have HLF := Lib.hid (show ∀ r ∈ L, chkE r.1.1 r.1.2.1 r.1.2.2 = 0 ∧ r.1.1 = false from fun r hr => ⟨(tabE_val TZ.out).1 r hr, (fwE_0 HZF.out).2.1 r hr⟩)
            have HAL := Lib.hid hAL
            rw [hv] at hAe CV
            subst hAe
            clear hAL hv HZ HX
            go_wp2_with fail
            go_loopw [20, 21, 22] (fun a g i wr => ∃ t : Nat, t ≤ j ∧ i = .int .i64 t ∧ a = .int .i64 (cvF x kk (L.take t)).1 ∧ g = .int .i64 (cvF x kk (L.take t)).2 ∧ Below w8.heap.size w8 wr) (fun _ _ i _ => j - (intOf i).toNat)
            case atStart => exact ⟨0, Nat.zero_le _, rfl, rfl, rfl, Below.refl _ _⟩
            case round =>
              obtain ⟨t, ht, rfl, rfl, rfl, bw⟩ := hrel
              have c9 := thenBelow c8 bw
              obtain ⟨y0, y1, y2, y3, yl⟩ := PQ8.out.keep bw
              by_cases hlt : t < j
              · have htl : t < L.length := by rw [HM.out]; exact hlt
                obtain ⟨gb, o, rfl, hgw, hrec⟩ := AT.out t htl
                have hrec9 := hrec.keep c9 hgw
                obtain ⟨x0, x1, x2, x3, x4⟩ := routeCells hrec9
                have HT := Lib.hid (show cvF x kk (L.take (t + 1)) = _ by rw [take_snoc htl, cvF_snoc])
                obtain ⟨hc, h6⟩ := HLF.out _ (List.getElem_mem htl)
                generalize L[t] = r at hrec hrec9 x0 x1 x2 x3 x4 HT hc h6
                have CVr := Lib.hid (fun (W : World) => CV.out r hc h6 W)
                have hltt : (t : Int) < (j : Int) := by omega
                obtain ⟨cf, hcf⟩ : ∃ cf, cvF x kk (L.take t) = cf := ⟨_, rfl⟩
                rw [hcf] at HT ⊢
                obtain ⟨cr, hcr⟩ : ∃ cr, cvR x kk r = cr := ⟨_, rfl⟩
                rw [hcr] at HT CVr
                clear hcf hcr hc h6 hrec
                have hgb : gb < wr.heap.size := Nat.lt_of_lt_of_le hgw c9.size
                have HBB := Lib.hid (show ∀ W, Below wr.heap.size wr W → W.cell? ⟨gb, o + t * 5, none⟩ = some (.bool r.1.1) ∧ W.cell? ⟨gb, o + t * 5 + 1, none⟩ = some (.int .u64 (aH r.1.2.1)) ∧ W.cell? ⟨gb, o + t * 5 + 2, none⟩ = some (.int .u64 (aL r.1.2.1)) ∧ W.cell? ⟨gb, o + t * 5 + 3, none⟩ = some (.int .i64 r.1.2.2) ∧ W.cell? ⟨bq, 0, none⟩ = some (.bool false) ∧ W.cell? ⟨bq, 1, none⟩ = some (.int .u64 (aH x)) ∧ W.cell? ⟨bq, 2, none⟩ = some (.int .u64 (aL x)) ∧ W.cell? ⟨bq, 3, none⟩ = some (.int .i64 v) from fun W hW => ⟨(hW.cell (p := ⟨gb, o + t * 5, none⟩) hgb).trans x0, (hW.cell (p := ⟨gb, o + t * 5 + 1, none⟩) hgb).trans x1, (hW.cell (p := ⟨gb, o + t * 5 + 2, none⟩) hgb).trans x2, (hW.cell (p := ⟨gb, o + t * 5 + 3, none⟩) hgb).trans x3, (hW.cell (p := ⟨bq, 0, none⟩) yl).trans y0, (hW.cell (p := ⟨bq, 1, none⟩) yl).trans y1, (hW.cell (p := ⟨bq, 2, none⟩) yl).trans y2, (hW.cell (p := ⟨bq, 3, none⟩) yl).trans y3⟩)
                clear x0 x1 x2 x3 x4 y0 y1 y2 y3 yl
                go_upto_region 24 with fail
                go_region_held3 (fun W => W.cell? ⟨gb, o + t * 5, none⟩ = some (.bool r.1.1) ∧ W.cell? ⟨gb, o + t * 5 + 1, none⟩ = some (.int .u64 (aH r.1.2.1)) ∧ W.cell? ⟨gb, o + t * 5 + 2, none⟩ = some (.int .u64 (aL r.1.2.1)) ∧ W.cell? ⟨gb, o + t * 5 + 3, none⟩ = some (.int .i64 r.1.2.2) ∧ W.cell? ⟨bq, 0, none⟩ = some (.bool false) ∧ W.cell? ⟨bq, 1, none⟩ = some (.int .u64 (aH x)) ∧ W.cell? ⟨bq, 2, none⟩ = some (.int .u64 (aL x)) ∧ W.cell? ⟨bq, 3, none⟩ = some (.int .i64 v))
                  (first | exact HBB.out _ ((Below.refl _ wr).drew) | exact HBB.out _ B1_ | fail)
                  (first
                    | (go_at_call 22; refine (CVr.out _).mono ?_; rintro e x1 ⟨rfl, hc1⟩; have B1_ : Below wr.heap.size wr x1 := thenBelow ((Below.refl _ wr).drew) hc1)
                    | fail)
                all_goals
                  obtain ⟨x0, x1, x2, x3, x4⟩ := routeCells (hrec9.keep B1_ hgb)
                  have B2_ := thenBelow bw B1_
                  clear HBB CVr hrec9
                  cases cr with
                  | false =>
                    go_wp2_with fail
                    go_roundw
                    case rel => exact ⟨t + 1, by omega, by go_num, by rw [HT.out]; simp, by rw [HT.out]; simp, B2_⟩
                    case measure => simp [intOf]; omega
                  | true =>
                    by_cases hgt : r.1.2.2 > cf.2
                    · have hgl : cf.2 < r.1.2.2 := hgt
                      rw [if_pos (by simp [hgt])] at HT
                      go_wp2_with fail
                      go_roundw
                      case rel => exact ⟨t + 1, by omega, by go_num, by rw [HT.out], by rw [HT.out], B2_⟩
                      case measure => simp [intOf]; omega
                    · have hgl : ¬ cf.2 < r.1.2.2 := hgt
                      rw [if_neg (by simp [hgt])] at HT
                      go_wp2_with fail
                      go_roundw
                      case rel => exact ⟨t + 1, by omega, by go_num, by rw [HT.out], by rw [HT.out], B2_⟩
                      case measure => simp [intOf]; omega
              · obtain rfl : t = j := by omega
                have hLt : L.take t = L := by rw [← HM.out, List.take_length]
                rw [hLt]
                have AF := ADD.out x kk HAL.out (fun r hr c => by
                  have := HHD.out
                  rw [List.any_eq_false] at this
                  exact this r hr (decide_eq_true (c.trans HPK.out)))
                rw [HPK.out] at AF
                obtain ⟨ab, hab⟩ : ∃ ab, (cvF x kk L).1 = ab := ⟨_, rfl⟩
                rw [hab] at AF ⊢
                have A2 := Lib.hid AF
                have RZr : Hid (RowR wr (.slice rp t rc) L) := Lib.hid (by have := RZ8.out.keep bw; rw [HM.out] at this; exact this)
                have HBB := Lib.hid (show ∀ W, Below wr.heap.size wr W → W.cell? ⟨bq, 0, none⟩ = some (.bool false) ∧ W.cell? ⟨bq, 1, none⟩ = some (.int .u64 (aH x)) ∧ W.cell? ⟨bq, 2, none⟩ = some (.int .u64 (aL x)) ∧ W.cell? ⟨bq, 3, none⟩ = some (.int .i64 v) from fun W hW => ⟨(hW.cell (p := ⟨bq, 0, none⟩) yl).trans y0, (hW.cell (p := ⟨bq, 1, none⟩) yl).trans y1, (hW.cell (p := ⟨bq, 2, none⟩) yl).trans y2, (hW.cell (p := ⟨bq, 3, none⟩) yl).trans y3⟩)
                have hbya : L.length * 40 ≤ 140737488355328 := by have := HM.out; omega
                have h63a : L.length ≤ maxLen := by have := HM.out; unfold maxLen; omega
                have hbyb : (L.length + [(((false, x, (v : Int)), ab) : RT)].length) * 40 ≤ 140737488355328 := by have := HM.out; simp only [List.length_singleton]; omega
                have h63b : L.length + [(((false, x, (v : Int)), ab) : RT)].length ≤ maxLen := by have := HM.out; unfold maxLen; simp only [List.length_singleton]; omega
                have bwr := thenBelow b8 bw
                clear y0 y1 y2 y3 yl hLt hab AF ADD HHD HPK HAL CV HLF
                go_upto_region 30 with fail
                have BA : Hid (Below wr.heap.size wr (wr.alloc (.cells #[.bool false, .int .u64 (aH x), .int .u64 (aL x), .int .i64 (v : Int), .int .i64 ab] 51)).drew) := Lib.hid ((Below.refl wr.heap.size wr).alloc (Nat.le_refl _) _).drew
                have RN : Hid (RowR (wr.alloc (.cells #[.bool false, .int .u64 (aH x), .int .u64 (aL x), .int .i64 (v : Int), .int .i64 ab] 51)).drew (.slice (some ⟨wr.heap.size, 0, none⟩) 1 1) [(((false, x, (v : Int)), ab) : RT)]) := Lib.hid ((row_new wr [(((false, x, (v : Int)), ab) : RT)] [.bool false, .int .u64 (aH x), .int .u64 (aL x), .int .i64 (v : Int), .int .i64 ab] rfl).keep (Below.refl _ _).drew)
                have tk1 : True := trivial
                have tk2 : True := trivial
                go_region_held3 (fun W => W.cell? ⟨bq, 0, none⟩ = some (.bool false) ∧ W.cell? ⟨bq, 1, none⟩ = some (.int .u64 (aH x)) ∧ W.cell? ⟨bq, 2, none⟩ = some (.int .u64 (aL x)) ∧ W.cell? ⟨bq, 3, none⟩ = some (.int .i64 v))
                  (first | exact HBB.out _ ((Below.refl _ wr).drew) | exact HBB.out _ BA.out | exact HBB.out _ B3_ | exact HBB.out _ B2_ | exact HBB.out _ B1_ | exact HBB.out _ (B1_.alloc B1_.size _) | fail)
                  (first
                    | (have _t := tk1; refine step_append_copy rfl _ _ _ rfl 51 i0 _ 40 Try.underlying23 hii hz0 hz1 hz2 rfl (by decide) rcs_len rcs_one rfl _ _ rfl (RZr.out.keep ((Below.refl _ wr).drew)) hbya h63a ?_; intro v30 w30 ho30 hb30; have B1_ : Below wr.heap.size wr w30 := thenBelow ((Below.refl _ wr).drew) hb30; have O7A : Hid (w30.ownsRow wr.heap.size 51 5 v30 L.length (rowOf rcs L)) := Lib.hid ho30; have RN7A := Lib.hid (row_new w30 [(((false, x, (v : Int)), ab) : RT)] [.bool false, .int .u64 (aH x), .int .u64 (aL x), .int .i64 (v : Int), .int .i64 ab] rfl); clear tk1)
                    | (have _t := tk1; refine step_append_copy rfl _ _ _ rfl 51 i0 _ 40 Try.underlying23 hii hz0 hz1 hz2 rfl (by decide) rcs_len rcs_one rfl _ _ rfl (RZr.out.keep BA.out) hbya h63a ?_; intro v30 w30 ho30 hb30; have B1_ : Below wr.heap.size wr w30 := thenBelow BA.out hb30; have O7 : Hid (w30.ownsRow wr.heap.size 51 5 v30 L.length (rowOf rcs L)) := Lib.hid (ownsLow ho30 BA.out.size); have RN7 := Lib.hid (RN.out.keep hb30); clear tk1)
                    | (have _t := tk2; refine step_append_row rfl _ _ _ rfl wr.heap.size 51 i0 _ 40 Try.underlying23 hii hz0 hz1 hz2 rfl (by decide) rcs_len rcs_one _ _ _ rfl (O7A.out.alloc _) _ _ rfl RN7A.out ⟨_, _, _, rfl⟩ hbyb h63b (B1_.alloc B1_.size _).size ?_; intro v31 w31 ho31 hb31; have B2_ := (B1_.alloc B1_.size _).trans hb31; have O8 := Lib.hid ho31; clear tk2)
                    | (have _t := tk2; refine step_append_row rfl _ _ _ rfl wr.heap.size 51 i0 _ 40 Try.underlying23 hii hz0 hz1 hz2 rfl (by decide) rcs_len rcs_one _ _ _ rfl O7.out _ _ rfl RN7.out ⟨_, _, _, rfl⟩ hbyb h63b B1_.size ?_; intro v31 w31 ho31 hb31; have B2_ := B1_.trans hb31; have O8 := Lib.hid ho31; clear tk2)
                    | (go_at_call 13; refine (FW.out _ A2.out.1 _ _ (OwnR.row (base := wr.heap.size) (by unfold OwnR; rw [List.length_append, rowOf_app]; exact O8.out))).mono ?_; rintro e w32 ⟨u32, rfl, o32, hb32⟩; have B3_ : Below wr.heap.size wr w32 := thenBelow B2_ hb32; obtain ⟨p32, f32, rfl⟩ := (OwnR.row o32).form; rw [A2.out.2])
                    | fail)
                all_goals
                  go_wp2
                  go_ret
                  exact ⟨by simp, thenBelow bwr B3_⟩
theorem FOrder.own : ownKnob Try.prog.godebug = none := by kernel_rfl
set_option maxRecDepth 100000 in
theorem FOrder.lifted (os : Os) (started : os.Started) (H : Type) (enc : TypeId × Value → H) :
    ReturnsInHanded {} Try.checked os 6 .any (Rows.fewestOrderSpec.pre6 enc Try.prog Try.f6 Rows.fewestOrderRow.domain false) (Rows.fewestOrderSpec.post enc Try.prog Try.f6 false true false false) := by
  refine returnsInHanded_of_change (C := Try.checked) FOrder.own started (by kernel_rfl) Try.func6
    (ChangeSpec.witness6 (enc := enc) (C := Try.checked) false ⟨#[], #[.slice none 0 0, .int .i64 0, .int .i64 0, .int .i64 0], []⟩ 8 (by kernel_rfl) (by kernel_rfl) (by kernel_rfl) (by kernel_rfl)) ?_
  intro W base args ds gs before hval0 hW hcnd _
  have hval : ∀ (j : Nat) t v, Try.f6.params[j]? = some t → args[j]? = some v → Value.okWide Try.prog W .any base t v := hval0
  have hW' := hW
  obtain ⟨p, q, hA0, hV, rfl, hfz, hnd⟩ := hW
  have hA : DataW.TrodAll enc Try.prog W 0 (fun _ => true) true Try.f6.params.toList args.toList ds p := hA0
  rw [Try.params6] at hA hval
  obtain ⟨v0, vs0, d0, ds0, p0, q0, hargs, rfl, rfl, rd0, r0⟩ := trodAll_cons hA
  obtain ⟨v1, vs1, d1, ds1, p1, q1, rfl, rfl, rfl, rd1, r1⟩ := trodAll_cons r0
  obtain ⟨v2, vs2, d2, ds2, p2, q2, rfl, rfl, rfl, rd2, r2⟩ := trodAll_cons r1
  obtain ⟨v3, vs3, d3, ds3, p3, q3, rfl, rfl, rfl, rd3, r3⟩ := trodAll_cons r2
  obtain ⟨rfl, rfl, rfl⟩ := trodAll_nil r3
  obtain rfl : args = #[v0, v1, v2, v3] := by cases args; simp_all
  obtain ⟨rfl, rfl⟩ := trodVars_none hV
  obtain ⟨l0, row0, wrd0, len0⟩ := openJobs (hval 0 22 v0 rfl rfl) rd0
  obtain ⟨a1, rfl, rfl, rfl, wa1⟩ := open_int Try.underlying3 (hval 1 3 v1 rfl rfl) rd1
  obtain ⟨a2, rfl, rfl, rfl, wa2⟩ := open_int Try.underlying3 (hval 2 3 v2 rfl rfl) rd2
  obtain ⟨a3, rfl, rfl, rfl, wa3⟩ := open_int Try.underlying3 (hval 3 3 v3 rfl rfl) rd3
  clear hA0 hval0
  refine (FOrder.walk v0 l0 a1 a2 a3 wrd0 len0 (i64_of_wf wa1).1 (i64_of_wf wa1).2 (i64_of_wf wa2).1 (i64_of_wf wa2).2 (i64_of_wf wa3).1 (i64_of_wf wa3).2 W row0).mono fun e W' ⟨he, hb⟩ => ?_
  subst he
  exact ⟨_, rfl, postBelowR (pv := []) hW' hb (fun _ _ _ => trodAll_cons_mk (shut_bool Try.underlying4 _) trodAll_mk0) (trodAll_cons_mk (Below.trod laidOutR (by kernel_rfl) (of_decide_eq_true (by kernel_rfl)) rd0 hb (fun x hx => hW'.lt x (by simp [hx]))) (trodAll_cons_mk (Below.trod laidOutR (by kernel_rfl) (of_decide_eq_true (by kernel_rfl)) rd1 hb (fun x hx => by cases hx)) (trodAll_cons_mk (Below.trod laidOutR (by kernel_rfl) (of_decide_eq_true (by kernel_rfl)) rd2 hb (fun x hx => by cases hx)) (trodAll_cons_mk (Below.trod laidOutR (by kernel_rfl) (of_decide_eq_true (by kernel_rfl)) rd3 hb (fun x hx => by cases hx)) trodAll_mk0)))) (fun _ _ => rfl) rfl⟩

theorem FOrder.holds : Rows.FewestOrderSaid :=
  OpenClaim.holds_of_wide 6 Try.f6 rfl rfl rfl rfl rfl rfl rfl ⟨rfl, rfl, rfl, rfl, rfl⟩ rfl rfl rfl rfl rfl (by kernel_rfl) Try.func6 (by kernel_rfl)
    (of_decide_eq_true (by kernel_rfl)) (by unfold Func.isWrapper; first | (rw [if_pos (by decide +kernel)]; kernel_rfl) | (rw [if_neg (by decide +kernel)]; exact ⟨rfl, rfl⟩))
    (fun os started H enc _ => FOrder.lifted os started H enc)
#print axioms FOrder.holds
end Go.Proofs.Ytmjlmfbceccjdaa

/-
  The document's fewestCost.
-/
import Derived.Test.YtgajepmnklbmpaaFFewM
import Derived.Test.YtgajepmnklbmpaaG13
import Derived.Test.YtgajepmnklbmpaaRefSame
import Derived.BigRegion
namespace Go.Proofs.Ytgajepmnklbmpaa
open Go.RowKit
set_option linter.unusedVariables false
set_option linter.unusedSimpArgs false
/-- A row of which the first j places are filled. -/
def fillL (L : List Int) (j : Nat) : List Int := L.take j ++ List.replicate (L.length - j) 0
theorem fill_len {L : List Int} {j : Nat} (h : j ≤ L.length) : (fillL L j).length = L.length := by
  unfold fillL; rw [List.length_append, List.length_take, List.length_replicate]; omega
theorem fill_set {L : List Int} {j : Nat} (h : j < L.length) : (fillL L j).set j L[j] = fillL L (j + 1) := by
  unfold fillL
  have h1 : (L.take j).length = j := by rw [List.length_take]; omega
  rw [List.set_append_right _ _ (by omega), h1, Nat.sub_self, show L.length - j = (L.length - (j + 1)) + 1 by omega, List.replicate_succ, List.set_cons_zero, List.take_succ_eq_append_getElem h, List.append_assoc]
  rfl
theorem fill_skip {L : List Int} {j : Nat} (h : j < L.length) (h0 : L[j] = 0) : fillL L j = fillL L (j + 1) := by
  rw [← fill_set h, h0]
  unfold fillL
  have h1 : (L.take j).length = j := by rw [List.length_take]; omega
  rw [List.set_append_right _ _ (by omega), h1, Nat.sub_self, show L.length - j = (L.length - (j + 1)) + 1 by omega, List.replicate_succ, List.set_cons_zero]
theorem fill_all (L : List Int) : fillL L L.length = L := by unfold fillL; rw [List.take_length, Nat.sub_self]; simp
theorem fill_at {L : List Int} {j : Nat} (h : j < L.length) : (rowOf ics (fillL L j))[j]? = some (.int .i64 0) := by
  rw [rowN_map, List.getElem?_map]
  unfold fillL
  have h1 : (L.take j).length = j := by rw [List.length_take]; omega
  rw [List.getElem?_append_right (by omega), h1, Nat.sub_self, show L.length - j = (L.length - (j + 1)) + 1 by omega]
  rfl
theorem made_fill {w : World} {base g n : Nat} (h : w.ownsRow base 3 1 (.slice (some ⟨g, 0, none⟩) n n) n (madeCells (Value.int .i64 0).cells (n * 1)).toList) {L : List Int} (hL : L.length = n) :
    w.ownsRow base 3 1 (.slice (some ⟨g, 0, none⟩) n n) n (rowOf ics (fillL L 0)) := by
  have e : (madeCells (Value.int .i64 0).cells (n * 1)).toList = rowOf ics (fillL L 0) := by
    rw [Nat.mul_one, show (Value.int .i64 0).cells = #[Value.int .i64 0] from rfl, toList_madeCells_one, rowN_map]
    unfold fillL
    simp [hL]
  rw [← e]; exact h
/-- What a part's row of numbers is. -/
def outL (H : List Int) (t : FT) : List Int := H.map fun z => (cstT t z : Int)
theorem bare_at {H : List Int} {f : Int → Nat} {j : Nat} (h : j < (bareL H f).length) (h' : j < H.length) : (bareL H f)[j] = (f H[j] : Int) := by simp [bareL]
theorem out_at {H : List Int} {t : FT} {j : Nat} (h : j < (outL H t).length) (h' : j < H.length) : (outL H t)[j] = (cstT t H[j] : Int) := by simp [outL]
theorem min_if (a b : Int) : (if b < a then b else a) = min a b := by split <;> omega
theorem lf_bound (g z : Int) : lfF g z ≤ 1048576 := by unfold lfF; split <;> omega
/-- What the last two loops ask: the least number, the row beneath it. -/
structure CostOk (B O : List Int) (m : Int) (n : Nat) : Prop where
  lb : B.length = n
  lo : O.length = n
  bd : ∀ i (h : i < B.length), 0 ≤ B[i] ∧ B[i] ≤ 17179869184
  m0 : 0 ≤ m
  m1 : m ≤ 17179869184
  mn : ∀ b ∈ B, mnI b B = m
  ou : ∀ i (h : i < B.length) (h' : i < O.length), min B[i] (m + 1) = O[i]
theorem costOk_leaf (p : PK) {H : List Int} {g : Int} (hg : g ∈ H) : CostOk (bareL H (lfF g)) (outL H (.leaf p [g])) 0 H.length := by
  refine ⟨by simp [bareL], by simp [outL], fun i h => ?_, by decide, by decide, fun b hb => leaf_min hg b hb, fun i h h' => ?_⟩
  · have h2 : i < H.length := by simpa [bareL] using h
    rw [bare_at h h2]
    have := lf_bound g H[i]
    omega
  · have h2 : i < H.length := by simpa [bareL] using h
    rw [bare_at h h2, out_at h' h2, ← leaf_out p g H[i]]
theorem costOk_node {s : Bool} {l : List RT} {k x : Nat} {a : Int} (hk : k ≤ 31) (hd : deepR s x (k + 1) l = true) {H : List Int} (hin : ∀ r ∈ l, r.2 ∈ H) (ha : a ∈ H) :
    CostOk (bareL H fun z => cstT (dvT s l k x (atH (pkB s x (k + 1)) l a)) z + cstT (dvT s l k (x + 2 ^ k) (atH (pkB s x (k + 1)) l a)) z) (outL H (dvT s l (k + 1) x a)) (muT (dvT s l (k + 1) x a)) H.length := by
  have g := dvT_good s l (k + 1) x a
  have hm := mu_pow s l (k + 1) x a
  have hsub : ∀ z ∈ (dvT s l (k + 1) x a).hs, z ∈ H := fun z hz => by
    rcases dvT_in s l (k + 1) x a z hz with rfl | h
    · exact ha
    · obtain ⟨r, hr, rfl⟩ := List.mem_map.1 h; exact hin r hr
  have hp : 2 ^ (k + 1) ≤ 2 ^ 32 := Nat.pow_le_pow_right (by decide) (by omega)
  have hp2 : 2 ^ k ≤ 2 ^ 31 := Nat.pow_le_pow_right (by decide) hk
  have e0 : dvT s l (k + 1) x a = .node (pkB s x (k + 1)) (bestL (dvT s l k x (atH (pkB s x (k + 1)) l a)).hs (dvT s l k (x + 2 ^ k) (atH (pkB s x (k + 1)) l a)).hs) (dvT s l k x (atH (pkB s x (k + 1)) l a)) (dvT s l k (x + 2 ^ k) (atH (pkB s x (k + 1)) l a)) := by rw [dvT, if_pos hd]
  rw [e0] at g hsub hm ⊢
  refine ⟨by simp [bareL], by simp [outL], fun i h => ?_, by omega, by omega, fun b hb => node_min g hsub b hb, fun i h h' => ?_⟩
  · have h2 : i < H.length := by simpa [bareL] using h
    rw [bare_at h h2]
    have := cst_pow s l k x (atH (pkB s x (k + 1)) l a) H[i]
    have := cst_pow s l k (x + 2 ^ k) (atH (pkB s x (k + 1)) l a) H[i]
    omega
  · have h2 : i < H.length := by simpa [bareL] using h
    rw [bare_at h h2, out_at h' h2, ← node_out g H[i]]
set_option maxHeartbeats 8000000 in
set_option maxRecDepth 100000 in
theorem cost_calls (l : List RT) (v1 : Value) (H : List Int) (vh : Value) (hl : ValR l) (ll : l.length ≤ 1000) (hH1 : 0 < H.length) (hH2 : H.length ≤ 1000) (hin : ∀ r ∈ l, r.2 ∈ H) :
    ∀ (k x : Nat) (a : Int) (w : World), AL false x k → a ∈ H → RowR w v1 l → RowN w vh H →
      Calls Try.prog 36 #[.agg #[.bool false, .int .u64 (aH x), .int .u64 (aL x), .int .i64 ((wideN false - k : Nat) : Int)], v1, .int .i64 a, vh] w fun e w' => ∃ u, e = .returned u ∧ OwnN w' w.heap.size u (outL H (dvT false l k x a)) ∧ Below w.heap.size w w' := by
  intro k
  induction k using Nat.strongRecOn with
  | _ k ih =>
    intro x a w hA haH r1 r2
    obtain ⟨i0, hii, hz0, hz1, hz2⟩ := info_parts info_int
    have IH := Lib.hid ih
    have HA := Lib.hid hA
    have HAH := Lib.hid haH
    have OV := Lib.hid (fun (r : RT) (hc : chkE r.1.1 r.1.2.1 r.1.2.2 = 0) (W : World) => overM_calls hA r hc W)
    have HV := Lib.hid hl
    have HIN := Lib.hid hin
    have R1 := Lib.hid r1
    have R2 := Lib.hid r2
    obtain ⟨p1, q1, rfl, _, at1⟩ := r1.at
    obtain ⟨p2, q2, rfl, _, at2⟩ := r2.at
    have AT1 := Lib.hid at1
    have AT2 := Lib.hid at2
    obtain ⟨n1, hn1⟩ : ∃ n, l.length = n := ⟨_, rfl⟩
    obtain ⟨n, hn⟩ : ∃ n, H.length = n := ⟨_, rfl⟩
    have HN1 := Lib.hid hn1
    have HN := Lib.hid hn
    rw [hn1] at R1 ll ⊢
    rw [hn] at R2 hH1 hH2 ⊢
    have hn0 := hH1
    have hn0' : (0 : Int) < (n : Int) := by omega
    have hnn : ¬ (n : Int) < 0 := by omega
    obtain ⟨q, hq⟩ : ∃ q : Nat, wideN false - k = q := ⟨_, rfl⟩
    rw [hq] at OV ⊢
    have HQ := Lib.hid hq
    have PB := PreAt.new w false (aH x) (aL x) (q : Int) 63
    have bB := (Below.refl w.heap.size w).alloc (Nat.le_refl _) (.cells #[.bool false, .int .u64 (aH x), .int .u64 (aL x), .int .i64 (q : Int)] 63)
    have hp : pkB false x k = (false, x, (q : Int)) := by rw [pkB, hq]
    have HP := Lib.hid hp
    obtain ⟨A1, hA1⟩ : ∃ z, atH (pkB false x k) l a = z := ⟨_, rfl⟩
    obtain ⟨D1, hD1⟩ : ∃ z, deepR false x k l = z := ⟨_, rfl⟩
    have HE := Lib.hid (And.intro hA1 hD1)
    obtain ⟨T, hT⟩ : ∃ t, dvT false l k x a = t := ⟨_, rfl⟩
    have HTT := Lib.hid hT
    rw [hT]
    obtain ⟨O, hO⟩ : ∃ O, outL H T = O := ⟨_, rfl⟩
    have HOT := Lib.hid hO
    rw [hO]
    have hA1H : Hid (A1 ∈ H) := Lib.hid (by
      rw [← hA1]
      rcases atH_in (pkB false x k) l a with e | e
      · rw [e]; exact haH
      · obtain ⟨r, hr, e2⟩ := List.mem_map.1 e; rw [← e2]; exact hin r hr)
    clear ih hA haH r1 r2 at1 at2 hq hp hn1 hn hA1 hD1 hl hin hT hO
    go_enter Try.func36, Try.ntmps36
    go_wp2
    revert PB bB
    have hYs : w.heap.size < (w.alloc (.cells #[.bool false, .int .u64 (aH x), .int .u64 (aL x), .int .i64 (q : Int)] 63)).heap.size := by simp
    revert hYs
    generalize w.alloc (.cells #[.bool false, .int .u64 (aH x), .int .u64 (aL x), .int .i64 (q : Int)] 63) = Y
    intro hYs PY bY
    obtain ⟨bp, hbp⟩ : ∃ b, w.heap.size = b := ⟨_, rfl⟩
    have HBP := Lib.hid hbp
    rw [hbp] at PY hYs ⊢
    clear hbp
    go_loopw [2, 9, 28] (fun A D j wr => ∃ j' : Nat, j' ≤ n1 ∧ A = .int .i64 (atH (pkB false x k) (l.take j') a) ∧ D = .bool (deepR false x k (l.take j')) ∧ j = .int .i64 j' ∧ Below Y.heap.size Y wr) (fun _ _ j _ => n1 - (intOf j).toNat)
    case atStart => exact ⟨0, by omega, rfl, rfl, rfl, Below.refl _ _⟩
    case round =>
      obtain ⟨j, hj, rfl, rfl, rfl, BJ⟩ := hrel
      by_cases hlt : j < n1
      · have hjl : j < l.length := by rw [HN1.out]; exact hlt
        obtain ⟨g, o, rfl, hg, hrec⟩ := AT1.out j hjl
        obtain ⟨x0, x1, x2, x3, x4⟩ := routeCells (hrec.keep (thenBelow bY BJ) (by first | exact hg | (rw [HBP.out] at hg; exact hg) | (rw [← HBP.out]; exact hg)))
        obtain ⟨y0, y1, y2, y3, yl⟩ := PY.keep BJ
        have HTA := Lib.hid (atH_take (p := pkB false x k) (a := a) hjl)
        have HTD := Lib.hid (deep_take (s := false) (x := x) (k := k) hjl)
        have hc := HV.out _ (List.getElem_mem hjl)
        generalize l[j] = r at x0 x1 x2 x3 x4 HTA HTD hc
        have OVr := Lib.hid (fun (W : World) => OV.out r hc W)
        have hltj : (j : Int) < (n1 : Int) := by omega
        have hne : ¬ bp = wr.heap.size := by have := BJ.size; omega
        have hnJ := BJ.alloc BJ.size (.cells #[.bool r.1.1, .int .u64 (aH r.1.2.1), .int .u64 (aL r.1.2.1), .int .i64 r.1.2.2, .int .i64 r.2] 66)
        clear hrec hc
        rcases pk_cases r.1 (false, x, (q : Int)) with e | e | ⟨e1, e⟩ | ⟨e1, e2, e⟩ | ⟨e1, e2, e3, e⟩
        · have ek : r.1 = pkB false x k := e.trans HP.out.symm
          rw [if_pos ek] at HTA
          rw [decide_eq_true ek, Bool.not_true, Bool.false_and, Bool.or_false] at HTD
          have e0 : r.1.1 = false := by rw [e]
          have e1 : r.1.2.1 = x := by rw [e]
          have e2 : r.1.2.2 = (q : Int) := by rw [e]
          rw [e0, e1, e2] at hnJ
          rw [e0] at x0
          rw [e1] at x1 x2
          rw [e2] at x3
          clear e ek OVr e0 e1 e2
          go_wp2_with fail
          go_roundw
          case rel => exact ⟨j + 1, by omega, by rw [HTA.out], by rw [HTD.out], by go_num, hnJ⟩
          case measure => simp [intOf]; omega
        all_goals
          have ek : ¬ r.1 = pkB false x k := fun h => by rw [h, HP.out] at e; simp at e
          rw [if_neg ek] at HTA
          rw [decide_eq_false ek, Bool.not_false, Bool.true_and] at HTD
          clear ek
          simp only at e
          try (have e1b : (r.1.1 == false) = true := (by rw [e1]; rfl))
          try (have e2b : (aH r.1.2.1 == aH x) = true := (by rw [e2]; exact beq_self_eq_true (aH x)))
          try (have e3b : (aL r.1.2.1 == aL x) = true := (by rw [e3]; exact beq_self_eq_true (aL x)))
          try clear e1
          try clear e2
          try clear e3
          go_wp2_with fail
          refine (OVr.out _).mono ?_
          rintro e' w5 ⟨rfl, hb5⟩
          have hn5 := thenBelow hnJ hb5
          generalize ovR false x k r = ov at HTD
          clear OVr hb5 hnJ x0 x1 x2 x3 x4 y0 y1 y2 y3 hne
          cases ov
          · rw [Bool.or_false] at HTD
            go_wp2_with fail
            go_roundw
            case rel => exact ⟨j + 1, by omega, by rw [HTA.out], by rw [HTD.out], by go_num, hn5⟩
            case measure => simp [intOf]; omega
          · rw [Bool.or_true] at HTD
            go_wp2_with fail
            go_roundw
            case rel => exact ⟨j + 1, by omega, by rw [HTA.out], by rw [HTD.out], by go_num, hn5⟩
            case measure => simp [intOf]; omega
      · obtain rfl : j = n1 := by omega
        rw [show l.take j = l by rw [← HN1.out]; exact List.take_length, HE.out.1, HE.out.2]
        have hbR : Below w.heap.size w wr := thenBelow bY BJ
        rw [HBP.out] at hbR
        have hbs : bp ≤ wr.heap.size := by rw [← HBP.out]; exact Nat.le_trans (by rw [HBP.out]; exact Nat.le_of_lt hYs) BJ.size
        obtain ⟨y0, y1, y2, y3, yl⟩ := PY.keep BJ
        have PY7 := PY.keep BJ
        clear AT1 OV PY bY
        cases D1 with
        | false =>
          have HCO := Lib.hid (costOk_leaf (pkB false x k) hA1H.out)
          rw [HN.out] at HCO
          have HT2 := Lib.hid (show T = .leaf (pkB false x k) [A1] by
            rw [← HTT.out, ← HE.out.1]
            have hd := HE.out.2
            cases k with
            | zero => rw [dvT]
            | succ k => rw [dvT, hd]; rfl)
          rw [← HT2.out] at HCO
          obtain ⟨B, hB⟩ : ∃ B, bareL H (lfF A1) = B := ⟨_, rfl⟩
          have HB : Hid (∀ i (h : i < B.length) (h' : i < H.length), B[i] = if H[i] = A1 then 0 else 1048576) := Lib.hid (by
            intro i h h'
            subst hB
            rw [bare_at h h']; unfold lfF; split <;> rfl)
          rw [hB] at HCO
          rw [HOT.out] at HCO
          clear hB HT2 HOT HA HIN hA1H HAH IH
          have CO := HCO
          go_wp2_with (at_make; refine wpList_make_full _ rfl _ _ _ rfl bp 3 i0 _ 1 Try.underlying41 hii hz0 hz1 .i64 .i64 _ _ n rfl rfl rfl rfl (by rw [hz2]; omega) (by unfold maxLen; omega) hbs ?_; intro w7 ho7 hg7)
          have O7 : Hid (w7.ownsRow bp 3 1 (.slice (some ⟨wr.heap.size, 0, none⟩) n n) n (rowOf ics (fillL B 0))) := Lib.hid (made_fill ho7 CO.out.lb)
          have b7 : Below wr.heap.size wr w7 := (Below.refl _ wr).grown hg7 (Nat.le_refl _) (fun j hj => by cases hj)
          have hs7 : wr.heap.size < w7.heap.size := by
            rcases ho7.2 with ⟨hv, _⟩ | ⟨g', cap', cur, hv, _, hg, _⟩
            · cases hv
            · cases hv; exact (Array.getElem?_eq_some_iff.1 hg).1
          clear ho7 hg7
          obtain ⟨gb, hgb0⟩ : ∃ g, wr.heap.size = g := ⟨_, rfl⟩
          have HGB := Lib.hid hgb0
          rw [hgb0] at O7 hs7 hbs ⊢
          clear hgb0 HCO
          go_loopw [50] (fun i wq => ∃ (q : Nat), i = .int .i64 q ∧ q ≤ n ∧ Below wr.heap.size wr wq ∧ gb < wq.heap.size ∧ Hid (wq.ownsRow bp 3 1 (.slice (some ⟨gb, 0, none⟩) n n) n (rowOf ics (fillL B q)))) (fun i _ => n - (intOf i).toNat)
          case atStart => exact ⟨0, rfl, by omega, b7, hs7, O7⟩
          case round =>
            clear O7 b7 hs7 y0 y1 y2 y3 yl
            obtain ⟨r, rfl, hr, bq, hgb, OQ⟩ := hrel
            have hbT : Below bp w wr := hbR.trans (bq.mono (by rw [HGB.out]; exact hbs))
            by_cases hlt2 : r < n
            · have hrB : r < B.length := by rw [CO.out.lb]; exact hlt2
              have hrH : r < H.length := by rw [HN.out]; exact hlt2
              obtain ⟨g, o, rfl, hg, hrec⟩ := AT2.out r hrH
              have x1 := intCell (hrec.keep hbT (by rw [← HBP.out]; exact hg))
              have y0 : wr.cell? ⟨gb, r, none⟩ = some (.int .i64 0) := owns_cellAt OQ.out r _ (fill_at hrB)
              have y1 : wr.frozen? ⟨gb, r, none⟩ = false := owns_thaw OQ.out r
              have HO := Lib.hid (HB.out r hrB hrH)
              have hrj : (r : Int) < (n : Int) := by omega
              have OQ2 : Hid (B[r] = 0 → wr.ownsRow bp 3 1 (.slice (some ⟨gb, 0, none⟩) n n) n (rowOf ics (fillL B (r + 1)))) := Lib.hid (fun h => by rw [← fill_skip hrB h]; exact OQ.out)
              have OQ3 : Hid ((wr.setCell ⟨gb, r, none⟩ (.int .i64 B[r])).ownsRow bp 3 1 (.slice (some ⟨gb, 0, none⟩) n n) n (rowOf ics (fillL B (r + 1)))) := Lib.hid (by rw [← fill_set hrB, rowN_set]; exact ownsRow_set OQ.out r _)
              have hle : gb ≤ gb := Nat.le_refl _
              generalize H[r] = z at x1 HO
              generalize B[r] = br at HO OQ2 OQ3
              clear hrec
              by_cases e : z = A1
              · have HZ := Lib.hid (OQ2.out (by rw [HO.out, if_pos e]))
                have hb1 : (z == A1) = true := by rw [e]; exact beq_self_eq_true A1
                have hb2 : (z != A1) = false := by simp [bne, hb1]
                clear e HO OQ2 OQ3
                go_wp2_with fail
                go_roundw
                case rel => exact ⟨r + 1, by go_num, by omega, bq, hgb, HZ⟩
                case measure => simp [intOf]; omega
              · have hbr : br = 1048576 := by rw [HO.out, if_neg e]
                subst hbr
                have hb1 : (z == A1) = false := by simpa using e
                have hb2 : (z != A1) = true := by simp [bne, hb1]
                have bq2 := bq.setCell (p := ⟨gb, r, none⟩) (by rw [HGB.out]; exact Nat.le_refl _) (.int .i64 1048576)
                have hg2 : gb < (wr.setCell ⟨gb, r, none⟩ (.int .i64 1048576)).heap.size := by simpa using hgb
                clear e HO OQ2
                go_wp2_with fail
                go_roundw
                case rel => exact ⟨r + 1, by go_num, by omega, bq2, hg2, OQ3⟩
                case measure => simp [intOf]; omega
            · obtain rfl : n = r := by omega
              rw [show fillL B n = B by rw [← CO.out.lb]; exact fill_all B] at OQ
              have OB := OQ
              have hbsT : bp ≤ wr.heap.size := Nat.le_trans hbs (Nat.le_of_lt hgb)
              clear OQ bq hbR AT2 R1 R2 HB HTT HE
              obtain ⟨m, hm⟩ : ∃ m : Int, m = 0 := ⟨_, rfl⟩
              rw [← hm] at CO
              clear hm
              have hB0 := Lib.hid (show ∃ b0, B[0]? = some b0 ∧ b0 ∈ B from ⟨B[0]'(by rw [CO.out.lb]; exact hn0), List.getElem?_eq_getElem _, List.getElem_mem _⟩)
              obtain ⟨b0, hb0, hb0m⟩ := hB0.out
              have HMN := Lib.hid (CO.out.mn b0 hb0m)
              have hx0 : wr.cell? ⟨gb, 0, none⟩ = some (.int .i64 b0) := owns_cellAt OB.out 0 _ (by rw [rowN_map, List.getElem?_map, hb0]; rfl)
              clear hB0 hb0 hb0m
              go_wp2_with fail
              go_loopw [21, 101] (fun u i wz => ∃ (j : Nat), i = .int .i64 j ∧ j ≤ n ∧ u = .int .i64 (mnI b0 (B.take j)) ∧ wz = wr) (fun _ i _ => n - (intOf i).toNat)
              case atStart => exact ⟨0, rfl, by omega, rfl, rfl⟩
              case round =>
                obtain ⟨j, rfl, hj, rfl, rfl⟩ := hrel
                by_cases hlt : j < n
                · have hjB : j < B.length := by rw [CO.out.lb]; exact hlt
                  have x1 : wr.cell? ⟨gb, j, none⟩ = some (.int .i64 B[j]) := owns_cellAt OB.out j _ (rowN_at B hjB)
                  have HT := Lib.hid (mnI_take (b := b0) hjB)
                  have hltj : (j : Int) < (n : Int) := by omega
                  generalize B[j] = bj at x1 HT
                  obtain ⟨M, hM⟩ : ∃ M, mnI b0 (B.take j) = M := ⟨_, rfl⟩
                  rw [hM] at HT ⊢
                  clear hM hx0
                  go_wp2_with fail
                  exact ⟨⟨j + 1, by go_num, by omega, by rw [HT.out, min_if], trivial⟩, by simp [intOf]; omega⟩
                · obtain rfl : j = n := by omega
                  rw [show B.take j = B by rw [← CO.out.lb]; exact List.take_length, HMN.out]
                  clear hx0 HMN
                  have hm0 := CO.out.m0
                  have hm1 := CO.out.m1
                  have hwm : IntKind.i64.wrap (m + 1) = m + 1 := by rw [IntKind.wrap_i64]; omega
                  go_wp2_with (at_make; refine wpList_make_full _ rfl _ _ _ rfl bp 3 i0 _ 1 Try.underlying41 hii hz0 hz1 .i64 .i64 _ _ j rfl rfl rfl rfl (by rw [hz2]; omega) (by unfold maxLen; omega) hbsT ?_; intro w8 ho8 hg8)
                  have O8 : Hid (w8.ownsRow bp 3 1 (.slice (some ⟨wr.heap.size, 0, none⟩) j j) j (rowOf ics (fillL O 0))) := Lib.hid (made_fill ho8 CO.out.lo)
                  have b8 : Below wr.heap.size wr w8 := (Below.refl _ wr).grown hg8 (Nat.le_refl _) (fun j hj => by cases hj)
                  clear ho8 hg8
                  obtain ⟨go, hgo⟩ : ∃ g, wr.heap.size = g := ⟨_, rfl⟩
                  have HGO := Lib.hid hgo
                  rw [hgo] at O8 hgb ⊢
                  clear hgo
                  go_loopw [114] (fun i wq => ∃ (q : Nat), i = .int .i64 q ∧ q ≤ j ∧ Below wr.heap.size wr wq ∧ Hid (wq.ownsRow bp 3 1 (.slice (some ⟨go, 0, none⟩) j j) j (rowOf ics (fillL O q)))) (fun i _ => j - (intOf i).toNat)
                  case atStart => exact ⟨0, rfl, by omega, b8, O8⟩
                  case round =>
                    clear O8 b8
                    obtain ⟨q, rfl, hq, bq, OQ⟩ := hrel
                    by_cases hlt2 : q < j
                    · have hqB : q < B.length := by rw [CO.out.lb]; exact hlt2
                      have hqO : q < O.length := by rw [CO.out.lo]; exact hlt2
                      have x1 : wr.cell? ⟨gb, q, none⟩ = some (.int .i64 B[q]) := (bq.cell (p := ⟨gb, q, none⟩) (by rw [HGO.out]; exact hgb)).trans (owns_cellAt OB.out q _ (rowN_at B hqB))
                      have y0 : wr.cell? ⟨go, q, none⟩ = some (.int .i64 0) := owns_cellAt OQ.out q _ (fill_at hqO)
                      have y1 : wr.frozen? ⟨go, q, none⟩ = false := owns_thaw OQ.out q
                      have HO := Lib.hid (CO.out.ou q hqB hqO)
                      have hqj : (q : Int) < (j : Int) := by omega
                      have OQ2 : Hid ((wr.setCell ⟨go, q, none⟩ (.int .i64 O[q])).ownsRow bp 3 1 (.slice (some ⟨go, 0, none⟩) j j) j (rowOf ics (fillL O (q + 1)))) := Lib.hid (by rw [← fill_set hqO, rowN_set]; exact ownsRow_set OQ.out q _)
                      have bq2 := bq.setCell (p := ⟨go, q, none⟩) (by rw [HGO.out]; exact Nat.le_refl _) (.int .i64 O[q])
                      generalize B[q] = bj at x1 HO
                      generalize O[q] = oq at HO OQ2 bq2
                      go_wp2_with fail
                      rw [min_if, HO.out]
                      exact ⟨⟨q + 1, by go_num, by omega, bq2, OQ2⟩, by simp [intOf]; omega⟩
                    · obtain rfl : q = j := by omega
                      rw [show fillL O q = O by rw [← CO.out.lo]; exact fill_all O] at OQ
                      go_wp2
                      go_ret
                      refine ⟨_, rfl, ?_, ?_⟩
                      · unfold OwnN; rw [CO.out.lo, HBP.out]; exact OQ.out
                      · rw [HBP.out]; exact hbT.trans (bq.mono hbsT)
        | true =>
          have hk0 : k ≠ 0 := fun h0 => by
            subst h0
            have := HE.out.2
            rw [deep_zero HV.out] at this
            cases this
          obtain ⟨k', hk'⟩ : ∃ k', k = k' + 1 := ⟨k - 1, by omega⟩
          subst hk'
          have hk31 : k' ≤ 31 := by have := HA.out.1; simp [wideN] at this; omega
          have HCO := Lib.hid (costOk_node (a := a) hk31 HE.out.2 HIN.out HAH.out)
          rw [HN.out, HTT.out, HE.out.1, HOT.out] at HCO
          obtain ⟨B, hB⟩ : ∃ B, (bareL H fun z => cstT (dvT false l k' x A1) z + cstT (dvT false l k' (x + 2 ^ k') A1) z) = B := ⟨_, rfl⟩
          have HB : Hid (∀ i (h : i < B.length) (h1 : i < (outL H (dvT false l k' x A1)).length) (h2 : i < (outL H (dvT false l k' (x + 2 ^ k') A1)).length), B[i] = (outL H (dvT false l k' x A1))[i] + (outL H (dvT false l k' (x + 2 ^ k') A1))[i]) := Lib.hid (by
            intro i h h1 h2
            subst hB
            have hH : i < H.length := by simpa [bareL] using h
            rw [bare_at h hH, out_at h1 hH, out_at h2 hH]; simp)
          rw [hB] at HCO
          generalize muT T = mN at HCO
          have CO := HCO
          have PHC := Lib.hid (fun (W : World) => refHalves_al2 HA.out W)
          have IHl := Lib.hid (fun (W : World) (r1 : RowR W (.slice p1 l.length q1) l) (r2 : RowN W (.slice p2 H.length q2) H) => IH.out k' (by omega) x A1 W HA.out.low hA1H.out r1 r2)
          have IHh := Lib.hid (fun (W : World) (r1 : RowR W (.slice p1 l.length q1) l) (r2 : RowN W (.slice p2 H.length q2) H) => IH.out k' (by omega) (x + 2 ^ k') A1 W HA.out.high hA1H.out r1 r2)
          rw [HN1.out, HN.out] at IHl IHh
          rw [HQ.out] at PHC
          have hl1 : (outL H (dvT false l k' x A1)).length = n := by rw [← HN.out]; simp [outL]
          have hl2 : (outL H (dvT false l k' (x + 2 ^ k') A1)).length = n := by rw [← HN.out]; simp [outL]
          obtain ⟨q2', hq2'⟩ : ∃ z : Nat, wideN false - k' = z := ⟨_, rfl⟩
          rw [hq2'] at PHC IHl IHh
          generalize outL H (dvT false l k' x A1) = X at IHl HB hl1
          generalize outL H (dvT false l k' (x + 2 ^ k') A1) = Z at IHh HB hl2
          obtain ⟨xh, hxh⟩ : ∃ z, x + 2 ^ k' = z := ⟨_, rfl⟩
          rw [hxh] at PHC IHh
          have HX := Lib.hid hl1
          have HZ := Lib.hid hl2
          clear hB HA HIN hA1H HAH IH hq2' hxh hk0 hk31 hl1 hl2 HTT HOT HE HQ HP
          go_wp2_with (at_make; refine wpList_make_full _ rfl _ _ _ rfl bp 3 i0 _ 1 Try.underlying41 hii hz0 hz1 .i64 .i64 _ _ n rfl rfl rfl rfl (by rw [hz2]; omega) (by unfold maxLen; omega) hbs ?_; intro w7 ho7 hg7; have b7 : Below wr.heap.size wr w7 := (Below.refl _ wr).grown hg7 (Nat.le_refl _) (fun j hj => by cases hj); obtain ⟨z0, z1, z2, z3, zl⟩ := PY7.keep b7)
          have O7 : Hid (w7.ownsRow bp 3 1 (.slice (some ⟨wr.heap.size, 0, none⟩) n n) n (rowOf ics (fillL B 0))) := Lib.hid (made_fill ho7 CO.out.lb)
          have hs7 : wr.heap.size < w7.heap.size := by
            rcases ho7.2 with ⟨hv, _⟩ | ⟨g', cap', cur, hv, _, hg, _⟩
            · cases hv
            · cases hv; exact (Array.getElem?_eq_some_iff.1 hg).1
          clear ho7 hg7 y0 y1 y2 y3 yl PY7
          obtain ⟨gb, hgb0⟩ : ∃ g, wr.heap.size = g := ⟨_, rfl⟩
          have HGB := Lib.hid hgb0
          rw [hgb0] at O7 hs7 hbs b7 ⊢
          have hbT7 : Below bp w w7 := hbR.trans (b7.mono hbs)
          clear hgb0 HCO b7
          refine (PHC.out _).mono ?_
          rintro e w8 ⟨rfl, hb8⟩
          have O8 := Lib.hid (ownsKeep O7.out hb8)
          have bT8 : Below bp w w8 := hbT7.trans (hb8.mono (by omega))
          have hs8 : gb < w8.heap.size := Nat.lt_of_lt_of_le hs7 hb8.size
          have bA := ((Below.refl w8.heap.size w8).alloc (Nat.le_refl _) (.cells #[.bool false, .int .u64 (aH x), .int .u64 (aL x), .int .i64 (q2' : Int)] 63)).alloc (by simp) (.cells #[.bool false, .int .u64 (aH xh), .int .u64 (aL xh), .int .i64 (q2' : Int)] 63)
          have PHh := PreAt.new (w8.alloc (.cells #[.bool false, .int .u64 (aH x), .int .u64 (aL x), .int .i64 (q2' : Int)] 63)) false (aH xh) (aL xh) (q2' : Int) 63
          simp only [World.size_alloc] at PHh
          have O9 := Lib.hid (ownsKeep O8.out bA)
          have bT9 := bT8.trans (bA.mono (by omega))
          have hs9 := Nat.lt_of_lt_of_le hs8 bA.size
          have R1a := Lib.hid (R1.out.keep (by rw [HBP.out]; exact bT9))
          have R2a := Lib.hid (R2.out.keep (by rw [HBP.out]; exact bT9))
          clear O7 hbT7 hb8 hs7 O8 bT8 z0 z1 z2 z3 zl PHC hbR bA
          go_wp2_with fail
          refine (IHl.out _ R1a.out R2a.out).mono ?_
          rintro e w10 ⟨u1, rfl, o1, hb10⟩
          have O10 := Lib.hid (ownsKeep O9.out hb10)
          have bT10 := bT9.trans (hb10.mono (by omega))
          have hs10 := Nat.lt_of_lt_of_le hs9 hb10.size
          obtain ⟨z0, z1, z2, z3, zl⟩ := PHh.keep hb10
          have R1b := Lib.hid (R1.out.keep (by rw [HBP.out]; exact bT10))
          have R2b := Lib.hid (R2.out.keep (by rw [HBP.out]; exact bT10))
          obtain ⟨g1, c1, rfl, hgc1⟩ : ∃ g c, u1 = .slice (some ⟨g, 0, none⟩) n c ∧ n ≤ c := by
            rcases o1.2 with ⟨hv, h0⟩ | ⟨g, cap, cur, hv, hb, hg, hnc, hcm, _⟩
            · rw [HX.out] at h0; omega
            · exact ⟨g, _, by rw [hv, HX.out], by rw [← HX.out]; exact hnc⟩
          have U1 : Hid (w10.ownsRow (gb + 1) 3 1 (.slice (some ⟨g1, 0, none⟩) n c1) n (rowOf ics X)) := Lib.hid (by
            have := ownsLow o1 (show gb + 1 ≤ _ from hs9)
            rw [HX.out] at this; exact this)
          clear O9 bT9 hb10 hs9 o1 PHh R1a R2a IHl
          go_wp2_with fail
          refine (IHh.out _ R1b.out R2b.out).mono ?_
          rintro e w11 ⟨u2, rfl, o2, hb11⟩
          have O11 := Lib.hid (ownsKeep O10.out hb11)
          have U1b := Lib.hid (ownsKeep U1.out hb11)
          have bT11 := bT10.trans (hb11.mono (by omega))
          have hs11 := Nat.lt_of_lt_of_le hs10 hb11.size
          obtain ⟨g2, c2, rfl, hgc2⟩ : ∃ g c, u2 = .slice (some ⟨g, 0, none⟩) n c ∧ n ≤ c := by
            rcases o2.2 with ⟨hv, h0⟩ | ⟨g, cap, cur, hv, hb, hg, hnc, hcm, _⟩
            · rw [HZ.out] at h0; omega
            · exact ⟨g, _, by rw [hv, HZ.out], by rw [← HZ.out]; exact hnc⟩
          have U2b : Hid (w11.ownsRow (gb + 1) 3 1 (.slice (some ⟨g2, 0, none⟩) n c2) n (rowOf ics Z)) := Lib.hid (by
            have := ownsLow o2 (show gb + 1 ≤ _ from hs10)
            rw [HZ.out] at this; exact this)
          clear O10 bT10 hb11 hs10 o2 R1b R2b IHh U1 z0 z1 z2 z3 zl
          go_wp2_with fail
          go_loopw [80] (fun i wq => ∃ (r : Nat), i = .int .i64 r ∧ r ≤ n ∧ Below bp w wq ∧ gb < wq.heap.size ∧ Hid (wq.ownsRow bp 3 1 (.slice (some ⟨gb, 0, none⟩) n n) n (rowOf ics (fillL B r))) ∧ Hid (wq.ownsRow (gb + 1) 3 1 (.slice (some ⟨g1, 0, none⟩) n c1) n (rowOf ics X)) ∧ Hid (wq.ownsRow (gb + 1) 3 1 (.slice (some ⟨g2, 0, none⟩) n c2) n (rowOf ics Z))) (fun i _ => n - (intOf i).toNat)
          case atStart => exact ⟨0, rfl, by omega, bT11, hs11, O11, U1b, U2b⟩
          case round =>
            clear O11 bT11 hs11 U1b U2b
            obtain ⟨r, rfl, hr, hbT, hgb, OQ, V1, V2⟩ := hrel
            by_cases hlt2 : r < n
            · have hrB : r < B.length := by rw [CO.out.lb]; exact hlt2
              have hrX : r < X.length := by rw [HX.out]; exact hlt2
              have hrZ : r < Z.length := by rw [HZ.out]; exact hlt2
              have x1 : wr.cell? ⟨g1, r, none⟩ = some (.int .i64 X[r]) := owns_cellAt V1.out r _ (rowN_at X hrX)
              have x2 : wr.cell? ⟨g2, r, none⟩ = some (.int .i64 Z[r]) := owns_cellAt V2.out r _ (rowN_at Z hrZ)
              have y0 : wr.cell? ⟨gb, r, none⟩ = some (.int .i64 0) := owns_cellAt OQ.out r _ (fill_at hrB)
              have y1 : wr.frozen? ⟨gb, r, none⟩ = false := owns_thaw OQ.out r
              have HO := HB.out r hrB hrX hrZ
              have HD := CO.out.bd r hrB
              have hrj : (r : Int) < (n : Int) := by omega
              have OQ3 : Hid ((wr.setCell ⟨gb, r, none⟩ (.int .i64 B[r])).ownsRow bp 3 1 (.slice (some ⟨gb, 0, none⟩) n n) n (rowOf ics (fillL B (r + 1)))) := Lib.hid (by rw [← fill_set hrB, rowN_set]; exact ownsRow_set OQ.out r _)
              have V1b := Lib.hid (ownsRow_setCell_below V1.out (a := ⟨gb, r, none⟩) (Nat.lt_succ_self gb) (.int .i64 B[r]))
              have V2b := Lib.hid (ownsRow_setCell_below V2.out (a := ⟨gb, r, none⟩) (Nat.lt_succ_self gb) (.int .i64 B[r]))
              have hbT2 := hbT.setCell (p := ⟨gb, r, none⟩) hbs (.int .i64 B[r])
              have hgb2 : gb < (wr.setCell ⟨gb, r, none⟩ (.int .i64 B[r])).heap.size := by simpa using hgb
              generalize X[r] = xr at x1 HO
              generalize Z[r] = zr at x2 HO
              generalize B[r] = br at HO HD OQ3 V1b V2b hbT2 hgb2
              have hwr : IntKind.i64.wrap (xr + zr) = br := by rw [← HO, IntKind.wrap_i64]; omega
              have HDD := Lib.hid HD
              clear HO HD V1 V2 OQ hbT hgb
              go_wp2_with fail
              go_region
              go_wp2_with fail
              exact ⟨⟨r + 1, by go_num, by omega, hbT2.drew, hgb2, OQ3, V1b, V2b⟩, by simp [intOf]; omega⟩
            · obtain rfl : n = r := by omega
              rw [show fillL B n = B by rw [← CO.out.lb]; exact fill_all B] at OQ
              have OB := OQ
              have hbsT : bp ≤ wr.heap.size := Nat.le_trans hbs (Nat.le_of_lt hgb)
              clear OQ AT2 R1 R2 HB V1 V2
              obtain ⟨m, hm⟩ : ∃ m : Int, m = (mN : Int) := ⟨_, rfl⟩
              rw [← hm] at CO
              clear hm
              have hB0 := Lib.hid (show ∃ b0, B[0]? = some b0 ∧ b0 ∈ B from ⟨B[0]'(by rw [CO.out.lb]; exact hn0), List.getElem?_eq_getElem _, List.getElem_mem _⟩)
              obtain ⟨b0, hb0, hb0m⟩ := hB0.out
              have HMN := Lib.hid (CO.out.mn b0 hb0m)
              have hx0 : wr.cell? ⟨gb, 0, none⟩ = some (.int .i64 b0) := owns_cellAt OB.out 0 _ (by rw [rowN_map, List.getElem?_map, hb0]; rfl)
              clear hB0 hb0 hb0m
              go_wp2_with fail
              go_loopw [21, 101] (fun u i wz => ∃ (j : Nat), i = .int .i64 j ∧ j ≤ n ∧ u = .int .i64 (mnI b0 (B.take j)) ∧ wz = wr) (fun _ i _ => n - (intOf i).toNat)
              case atStart => exact ⟨0, rfl, by omega, rfl, rfl⟩
              case round =>
                obtain ⟨j, rfl, hj, rfl, rfl⟩ := hrel
                by_cases hlt : j < n
                · have hjB : j < B.length := by rw [CO.out.lb]; exact hlt
                  have x1 : wr.cell? ⟨gb, j, none⟩ = some (.int .i64 B[j]) := owns_cellAt OB.out j _ (rowN_at B hjB)
                  have HT := Lib.hid (mnI_take (b := b0) hjB)
                  have hltj : (j : Int) < (n : Int) := by omega
                  generalize B[j] = bj at x1 HT
                  obtain ⟨M, hM⟩ : ∃ M, mnI b0 (B.take j) = M := ⟨_, rfl⟩
                  rw [hM] at HT ⊢
                  clear hM hx0
                  go_wp2_with fail
                  exact ⟨⟨j + 1, by go_num, by omega, by rw [HT.out, min_if], trivial⟩, by simp [intOf]; omega⟩
                · obtain rfl : j = n := by omega
                  rw [show B.take j = B by rw [← CO.out.lb]; exact List.take_length, HMN.out]
                  clear hx0 HMN
                  have hm0 := CO.out.m0
                  have hm1 := CO.out.m1
                  have hwm : IntKind.i64.wrap (m + 1) = m + 1 := by rw [IntKind.wrap_i64]; omega
                  go_wp2_with (at_make; refine wpList_make_full _ rfl _ _ _ rfl bp 3 i0 _ 1 Try.underlying41 hii hz0 hz1 .i64 .i64 _ _ j rfl rfl rfl rfl (by rw [hz2]; omega) (by unfold maxLen; omega) hbsT ?_; intro w8 ho8 hg8)
                  have O8 : Hid (w8.ownsRow bp 3 1 (.slice (some ⟨wr.heap.size, 0, none⟩) j j) j (rowOf ics (fillL O 0))) := Lib.hid (made_fill ho8 CO.out.lo)
                  have b8 : Below wr.heap.size wr w8 := (Below.refl _ wr).grown hg8 (Nat.le_refl _) (fun j hj => by cases hj)
                  clear ho8 hg8
                  obtain ⟨go, hgo⟩ : ∃ g, wr.heap.size = g := ⟨_, rfl⟩
                  have HGO := Lib.hid hgo
                  rw [hgo] at O8 hgb ⊢
                  clear hgo
                  go_loopw [114] (fun i wq => ∃ (q : Nat), i = .int .i64 q ∧ q ≤ j ∧ Below wr.heap.size wr wq ∧ Hid (wq.ownsRow bp 3 1 (.slice (some ⟨go, 0, none⟩) j j) j (rowOf ics (fillL O q)))) (fun i _ => j - (intOf i).toNat)
                  case atStart => exact ⟨0, rfl, by omega, b8, O8⟩
                  case round =>
                    clear O8 b8
                    obtain ⟨q, rfl, hq, bq, OQ⟩ := hrel
                    by_cases hlt2 : q < j
                    · have hqB : q < B.length := by rw [CO.out.lb]; exact hlt2
                      have hqO : q < O.length := by rw [CO.out.lo]; exact hlt2
                      have x1 : wr.cell? ⟨gb, q, none⟩ = some (.int .i64 B[q]) := (bq.cell (p := ⟨gb, q, none⟩) (by rw [HGO.out]; exact hgb)).trans (owns_cellAt OB.out q _ (rowN_at B hqB))
                      have y0 : wr.cell? ⟨go, q, none⟩ = some (.int .i64 0) := owns_cellAt OQ.out q _ (fill_at hqO)
                      have y1 : wr.frozen? ⟨go, q, none⟩ = false := owns_thaw OQ.out q
                      have HO := Lib.hid (CO.out.ou q hqB hqO)
                      have hqj : (q : Int) < (j : Int) := by omega
                      have OQ2 : Hid ((wr.setCell ⟨go, q, none⟩ (.int .i64 O[q])).ownsRow bp 3 1 (.slice (some ⟨go, 0, none⟩) j j) j (rowOf ics (fillL O (q + 1)))) := Lib.hid (by rw [← fill_set hqO, rowN_set]; exact ownsRow_set OQ.out q _)
                      have bq2 := bq.setCell (p := ⟨go, q, none⟩) (by rw [HGO.out]; exact Nat.le_refl _) (.int .i64 O[q])
                      generalize B[q] = bj at x1 HO
                      generalize O[q] = oq at HO OQ2 bq2
                      go_wp2_with fail
                      rw [min_if, HO.out]
                      exact ⟨⟨q + 1, by go_num, by omega, bq2, OQ2⟩, by simp [intOf]; omega⟩
                    · obtain rfl : q = j := by omega
                      rw [show fillL O q = O by rw [← CO.out.lo]; exact fill_all O] at OQ
                      go_wp2
                      go_ret
                      refine ⟨_, rfl, ?_, ?_⟩
                      · unfold OwnN; rw [CO.out.lo, HBP.out]; exact OQ.out
                      · rw [HBP.out]; exact hbT.trans (bq.mono hbsT)
end Go.Proofs.Ytgajepmnklbmpaa

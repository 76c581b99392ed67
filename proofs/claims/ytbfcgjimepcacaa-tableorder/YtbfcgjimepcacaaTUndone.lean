/-
  TableUndone: for every list of jobs, number and hop a Put that is undone leaves the table as it was. No conditions.
-/
import Derived.Test.YtbfcgjimepcacaaRows
import Derived.Test.YtbfcgjimepcacaaTabZ
import Derived.Test.YtbfcgjimepcacaaRowsJ
import Derived.Deep.CutRange
import Derived.Deep.DeepCutAuto
namespace Go.Proofs.Ytbfcgjimepcacaa
open Go.ChangeShapes Go.WideShapes Go.ChangeAt Go.RowKit Go.Joins
set_option linter.unusedSimpArgs false
set_option linter.unusedVariables false
/-- One act in a block of its own. -/
theorem own_act (W : World) (a : ActT) : (W.alloc (objA a)).ownsRow W.heap.size 53 9 (.slice (some ⟨W.heap.size, 0, none⟩) 1 1) 1 (acs a) :=
  ⟨rfl, .inr ⟨W.heap.size, 1, (acs a).toArray, rfl, Nat.le_refl _, _root_.Go.heap_alloc_new W _, Nat.le_refl _, by unfold maxLen; omega, rfl, rfl⟩⟩
theorem ownA_notR {w : World} {base k : Nat} {v : Value} {l : List ActT} (h : OwnA w base v l) (e : v.ownBlock = some k) : NotR w k := by
  rcases h.2 with ⟨rfl, _⟩ | ⟨g, cap, cur, rfl, _, hg, _⟩
  · simp [Value.ownBlock] at e
  · simp only [Value.ownBlock, Option.some.injEq] at e
    subst e
    intro c he
    rw [hg] at he
    simp only [Option.some.injEq, Obj.cells.injEq] at he
    exact absurd he.2.1 (by decide)
theorem ownA_ne {w : World} {base base' : Nat} {v t : Value} {l : List ActT} {L : List RT} (h : OwnA w base v l) (o : OwnR w base' t L) : t.ownBlock = none ∨ t.ownBlock ≠ v.ownBlock := by
  cases hv : v.ownBlock with
  | none => cases t.ownBlock <;> simp
  | some k => exact .inr ((ownA_notR h hv).ne o)
set_option maxHeartbeats 8000000 in
set_option maxRecDepth 100000 in
theorem TUndone.walk (v0 : Value) (l0 : List JT) (a1 a2 : Int) (wrd0 : WordsJ l0) (len0 : l0.length ≤ 9223372036854775807) (b0 : -9223372036854775808 ≤ a1) (b1 : a1 ≤ 9223372036854775807) (c0 : -9223372036854775808 ≤ a2) (c1 : a2 ≤ 9223372036854775807) (w : World) (row0 : RowJ w v0 l0) :
    Calls Try.prog 8 #[v0, .int .i64 a1, .int .i64 a2] w fun e w' => e = .returned (.bool true) ∧ Below w.heap.size w w' := by
  obtain ⟨i0, hii, hz0, hz1, hz2⟩ := info_parts info_act
  have AC := Lib.hid (fun (W : World) (r : RowJ W v0 l0) => acts_calls l0 v0 60 (by decide) len0 wrd0 W r)
  have PC := Lib.hid (fun (W : World) (b : Nat) (h : W.cell? ⟨b, 0, none⟩ = some (.int .i64 a1)) => pres1_calls a1 b0 b1 b W h)
  have P9 := Lib.hid (fun W => picked_calls a2 9 (by decide) (by decide) c0 c1 W)
  have R0 := Lib.hid row0
  obtain ⟨p, c, rfl⟩ := row0.form
  have hal : (actsZ l0 60).length ≤ 60 := by unfold actsZ; rw [List.length_map, List.length_take]; omega
  have hwa : Hid (WordsA (actsZ l0 60)) := Lib.hid (actsZ_words l0 60)
  obtain ⟨as_, has⟩ : ∃ x, actsZ l0 60 = x := ⟨_, rfl⟩
  rw [has] at AC hal hwa
  have RC := Lib.hid (fun (m : List ActT) (u : Value) (hm : m.length ≤ 100) (hw : WordsA m) (W : World) (r : RowA W u m) => routesOf_calls m u hm hw W r)
  have SR := Lib.hid (fun (u1 u2 : Value) (m : List RT) (hm : m.length ≤ 1000) (W : World) (r1 : RowR W u1 m) (r2 : RowR W u2 m) => sameRoutes_calls u1 u2 m hm W r1 r2)
  have II := Lib.hid (InvR.run as_)
  clear row0 has
  go_enter Try.func8, Try.ntmps8
  go_wp2_with fail
  refine (AC.out _ R0.out).mono ?_
  rintro e w1 ⟨u, rfl, OA, hb1⟩
  obtain ⟨up, uc, rfl⟩ := OA.row.form
  have OA := Lib.hid OA
  clear AC R0
  go_wp2_with fail
  have bI := (Below.refl w1.heap.size w1).alloc (Nat.le_refl _) (.cells #[.int .i64 a1] 3)
  refine (PC.out _ w1.heap.size (by simp)).mono ?_
  rintro e w2 ⟨pv, rfl, hop, hb2⟩
  obtain ⟨pg, pc, hpv⟩ : ∃ pg pc, pv = .slice (some ⟨pg, 0, none⟩) 1 pc := by
    rcases hop.2 with ⟨_, h0⟩ | ⟨g, cap, cur, e, _⟩
    · cases h0
    · exact ⟨g, cap, e⟩
  subst hpv
  have q0 := owns_cellAt hop 0 _ rfl
  have q1 := owns_cellAt hop 1 _ rfl
  have q2 := owns_cellAt hop 2 _ rfl
  have q3 := owns_cellAt hop 3 _ rfl
  obtain ⟨z, hz⟩ : ∃ z, preZ a1 = z := ⟨_, rfl⟩
  have HZ : Hid (chkE z.1 z.2.1 z.2.2 = 0 ∧ z.2.1 < 2 ^ 128) := Lib.hid (by rw [← hz]; exact ⟨preZ_ok a1, Nat.lt_of_lt_of_le (xZ_lt _) (by decide)⟩)
  rw [hz] at q0 q1 q2 q3
  have bP := (thenBelow bI hb2).alloc (thenBelow bI hb2).size (.cells #[.bool z.1, .int .u64 (aH z.2.1), .int .u64 (aL z.2.1), .int .i64 z.2.2] 51)
  have OA2 : Hid (OwnA (w2.alloc (.cells #[.bool z.1, .int .u64 (aH z.2.1), .int .u64 (aL z.2.1), .int .i64 z.2.2] 51)) w.heap.size (.slice up as_.length uc) as_) := Lib.hid (ownsKeep OA.out bP)
  have PP := PreAt.new w2 z.1 (aH z.2.1) (aL z.2.1) z.2.2 51
  have hn2 := thenBelow hb1 bP
  clear hz hop PC hb1 hb2 bI bP OA
  go_wp2_with fail
  refine (RC.out as_ _ (by omega) hwa.out _ OA2.out.row).mono ?_
  rintro e w3 ⟨rs, rfl, OR, hb3⟩
  have OA3 : Hid (OwnA w3 w.heap.size (.slice up as_.length uc) as_) := Lib.hid (ownsKeep OA2.out hb3)
  have PQ := PP.keep hb3
  have hn3 := thenBelow hn2 hb3
  have RR : Hid (OwnR w3 w.heap.size rs (runL as_)) := Lib.hid (ownsLow OR hn2.size)
  obtain ⟨rp, rc, rfl, _, at_⟩ := (OwnR.row RR.out).at
  have AT := Lib.hid at_
  obtain ⟨L, hL⟩ : ∃ L, runL as_ = L := ⟨_, rfl⟩
  rw [hL] at AT RR II
  have HL := Lib.hid hL
  rw [hL]
  have hLl : L.length ≤ 60 := II.out.size
  clear OR OA2 PP hn2 hb3 at_ hL q0 q1 q2 q3
  obtain ⟨m, hm⟩ : ∃ m, L.length = m := ⟨_, rfl⟩
  have HM := Lib.hid hm
  rw [hm] at hLl RR
  rw [hm]
  clear hm
  go_wp2_with fail
  go_loopw [11, 12] (fun h i wr => ∃ (k q : Nat) (hh : Int), k ≤ m ∧ i = .int .i64 k ∧ h = .int .i64 hh ∧ wr = w3.drewN q ∧ Hid (hadZ z (L.take k) = hh)) (fun _ i _ => m - (intOf i).toNat)
  case atStart => exact ⟨0, 0, 0, by omega, rfl, rfl, rfl, Lib.hid rfl⟩
  case round =>
    obtain ⟨k, q, hh, hk, rfl, rfl, rfl, HH⟩ := hrel
    by_cases hlt : k < m
    · have hkl : k < L.length := by rw [HM.out]; exact hlt
      obtain ⟨g, o, rfl, _, hrec⟩ := AT.out k hkl
      obtain ⟨x0, x1, x2, x3, x4⟩ := routeCells hrec
      have HT := Lib.hid (hadZ_take (q := z) hkl)
      generalize L[k] = r at x0 x1 x2 x3 x4 HT
      obtain ⟨y0, y1, y2, y3, yl⟩ := PQ
      have hlt' : (k : Int) < (m : Int) := by omega
      rcases pk_cases r.1 z with e | e | ⟨e1, e⟩ | ⟨e1, e2, e⟩ | ⟨e1, e2, e3, e⟩
      · have H2 := Lib.hid (show hadZ z (L.take (k + 1)) = r.2 by rw [HT.out, if_pos e])
        rw [e] at x0 x1 x2 x3
        clear e HT
        go_wp2_with fail
        go_quiet ((fail))
        go_wp2
        go_roundw
        case rel => exact ⟨k + 1, _, _, by omega, by go_num, rfl, rfl, H2⟩
        case measure => simp [intOf]; omega
      all_goals
        have H2 := Lib.hid (show hadZ z (L.take (k + 1)) = hh by rw [HT.out, if_neg (fun h => by rw [h] at e; simp at e)]; exact HH.out)
        clear HT
        try rw [e1] at x0
        try rw [e2] at x1
        try rw [e3] at x2
        go_wp2_with fail
        go_quiet ((fail))
        go_wp2
        go_roundw
        case rel => exact ⟨k + 1, _, _, by omega, by go_num, rfl, rfl, H2⟩
        case measure => simp [intOf]; omega
    · obtain rfl : k = m := by omega
      have e1 : L.take k = L := by rw [← HM.out]; exact List.take_length
      rw [e1] at HH
      have hm0 := Int.emod_nonneg a2 (show (9 : Int) ≠ 0 by decide)
      have hm1 := Int.emod_lt_of_pos a2 (show (0 : Int) < 9 by decide)
      have hw9 : IntKind.i64.wrap (1 + a2 % 9) = 1 + a2 % 9 := by rw [IntKind.wrap_i64]; omega
      obtain ⟨t9, ht9⟩ : ∃ t9, a2 % 9 = t9 := ⟨_, rfl⟩
      rw [ht9] at P9 hm0 hm1 hw9
      clear ht9 e1
      generalize hY : w3.drewN q = Y
      have PY : PreAt Y w2.heap.size z.1 (aH z.2.1) (aL z.2.1) z.2.2 := by rw [← hY]; exact PQ.keep (below_drewN (Below.refl _ _) _)
      have OY : Hid (OwnA Y w.heap.size (.slice up as_.length uc) as_) := Lib.hid (by rw [← hY]; exact ownsKeep OA3.out (below_drewN (Below.refl _ _) _))
      have RY : Hid (OwnR Y w.heap.size (.slice rp k rc) L) := Lib.hid (by rw [← hY]; exact ownsKeep RR.out (below_drewN (Below.refl _ _) _))
      have hnY : Below w.heap.size w Y := by rw [← hY]; exact below_drewN hn3 _
      clear hY PQ OA3 RR hn3 AT
      have yl := PY.2.2.2.2
      have BB : ∀ X : World, Below Y.heap.size Y X → X.cell? ⟨w2.heap.size, 0, none⟩ = some (.bool z.1) ∧ X.cell? ⟨w2.heap.size, 1, none⟩ = some (.int .u64 (aH z.2.1)) ∧ X.cell? ⟨w2.heap.size, 2, none⟩ = some (.int .u64 (aL z.2.1)) ∧ X.cell? ⟨w2.heap.size, 3, none⟩ = some (.int .i64 z.2.2) := fun X h => by
        obtain ⟨y0, y1, y2, y3, _⟩ := PY.keep h
        exact ⟨y0, y1, y2, y3⟩
      have HBB := Lib.hid BB
      clear BB
      have hby : as_.length * 72 ≤ 140737488355328 := by omega
      have h63 : as_.length ≤ maxLen := by unfold maxLen; omega
      have hby2 : (as_.length + 1) * 72 ≤ 140737488355328 := by omega
      have h632 : as_.length + 1 ≤ maxLen := by unfold maxLen; omega
      have RYA := Lib.hid (OwnA.row OY.out)
      obtain ⟨pt, hpt⟩ : ∃ pt : ActT, pt = ⟨1, z, 1 + t9, false, 0⟩ := ⟨_, rfl⟩
      have HPT : Hid (objA pt = .cells #[.int .i64 1, .bool z.1, .int .u64 (aH z.2.1), .int .u64 (aL z.2.1), .int .i64 z.2.2, .int .i64 (1 + t9), .bool false, .int .u64 0, .int .u64 0] 53) := Lib.hid (by rw [hpt]; simp [objA, aH0, aL0])
      have OACT : Hid (∀ W : World, (W.alloc (.cells #[.int .i64 1, .bool z.1, .int .u64 (aH z.2.1), .int .u64 (aL z.2.1), .int .i64 z.2.2, .int .i64 (1 + t9), .bool false, .int .u64 0, .int .u64 0] 53)).ownsRow W.heap.size 53 9 (.slice (some ⟨W.heap.size, 0, none⟩) 1 1) 1 (acs pt)) := Lib.hid fun W => by rw [← HPT.out]; exact own_act W pt
      have HP1 := Lib.hid hpt
      clear hpt
      obtain ⟨M1, hM1⟩ : ∃ M1, as_ ++ [pt] = M1 := ⟨_, rfl⟩
      have HM1 := Lib.hid hM1
      clear hM1
      go_upto_region 10 with fail
      go_cut [13] from 46 to 54 (fun s13 wx => Hid (OwnA wx w.heap.size s13 M1) ∧ Below Y.heap.size Y wx)
      case first =>
        go_region_held3 (fun w' => w'.cell? ⟨w2.heap.size, 0, none⟩ = some (.bool z.1) ∧ w'.cell? ⟨w2.heap.size, 1, none⟩ = some (.int .u64 (aH z.2.1)) ∧ w'.cell? ⟨w2.heap.size, 2, none⟩ = some (.int .u64 (aL z.2.1)) ∧ w'.cell? ⟨w2.heap.size, 3, none⟩ = some (.int .i64 z.2.2))
          (first
            | exact HBB.out _ ((Below.refl _ Y).drew)
            | exact HBB.out _ B1
            | exact HBB.out _ (B1.alloc B1.size _)
            | exact HBB.out _ B2
            | fail)
          (first
            | (refine step_append_copy rfl _ _ _ rfl 53 i0 _ 72 Try.underlying26 hii hz0 hz1 hz2 rfl (by decide) acs_len acs_one rfl _ _ rfl (RYA.out.keep ((Below.refl _ Y).drew)) hby h63 ?_; intro v5 w5 ho5 hb5; have B1 : Below Y.heap.size Y w5 := thenBelow ((Below.refl _ Y).drew) hb5; have O5 := Lib.hid ho5)
            | (go_at_call 27; refine (P9.out _).mono ?_; rintro e w' ⟨rfl, rfl⟩)
            | (refine step_append_two rfl _ _ _ rfl Y.heap.size 53 i0 _ 9 72 Try.underlying26 hii hz0 hz1 hz2 rfl (by decide) _ _ _ rfl (O5.out.alloc _) _ w5.heap.size 1 (acs pt) rfl (OACT.out w5) (acs_one pt) hby2 h632 (by have := B1.size; simp; omega) ?_; intro v6 w6 ho6 hb6; have B2 : Below Y.heap.size Y w6 := (B1.alloc B1.size _).trans hb6)
            | fail)
        go_wp2_with fail
        go_meet
        exact ⟨Lib.hid (show OwnA w6 w.heap.size v6 M1 by rw [← HM1.out]; unfold OwnA; rw [List.length_append, rowOf_app]; exact ownsLow ho6 hnY.size), B2⟩
      case rest =>
        obtain ⟨O13, B13⟩ := hcut
        have PC2 := PY.keep B13
        have RYC : Hid (OwnR wc w.heap.size (.slice rp k rc) L) := Lib.hid (ownsKeep RY.out B13)
        have hnc := thenBelow hnY B13
        obtain ⟨y0, y1, y2, y3, _⟩ := PC2
        clear PY RY OY RYA B13
        have UD := Lib.hid (undone II.out HZ.out.1 (show 1 ≤ 1 + t9 by omega) (show 1 + t9 ≤ 999 by omega))
        have h0w : (0 : Nat) < 2 ^ 128 := by decide
        by_cases h0 : hh = 0
        · have h0b : (hh == 0) = true := by simpa using h0
          have HU := Lib.hid (UD.out.1 (HH.out.trans h0))
          clear h0
          have ZA : Hid (∃ ct : ActT, ct = ⟨2, z, 0, false, 0⟩) := Lib.hid ⟨_, rfl⟩
          obtain ⟨ct, hct⟩ := ZA.out
          have HCT : Hid (objA ct = .cells #[.int .i64 2, .bool z.1, .int .u64 (aH z.2.1), .int .u64 (aL z.2.1), .int .i64 z.2.2, .int .i64 0, .bool false, .int .u64 0, .int .u64 0] 53) := Lib.hid (by rw [hct]; simp [objA, aH0, aL0])
          have HRUN : Hid (runL (M1 ++ [ct]) = L) := Lib.hid (by
            rw [← HM1.out, runL_snoc, runL_snoc, HL.out, hct, HP1.out]
            rw [doL, if_neg (show ¬ ((2 : Int) = 1) by decide), if_pos rfl, doL, if_pos rfl]; exact HU.out)
          have HWM : Hid (WordsA (M1 ++ [ct])) := Lib.hid (fun a ha => by
            rw [← HM1.out] at ha
            rcases List.mem_append.1 ha with ha | ha
            · rcases List.mem_append.1 ha with ha | ha
              · exact hwa.out a ha
              · simp at ha; subst ha; rw [HP1.out]; exact ⟨HZ.out.2, h0w⟩
            · simp at ha; subst ha; rw [hct]; exact ⟨HZ.out.2, h0w⟩)
          have hl1 : M1.length ≤ 61 := by rw [← HM1.out]; simp; omega
          have hlm : (M1 ++ [ct]).length ≤ 100 := by simp; omega
          have HLM := Lib.hid hlm
          have hnw : Hid (∀ W : World, ∀ j u, (acs ct)[j]? = some u → (W.alloc (.cells #[.int .i64 2, .bool z.1, .int .u64 (aH z.2.1), .int .u64 (aL z.2.1), .int .i64 z.2.2, .int .i64 0, .bool false, .int .u64 0, .int .u64 0] 53)).cell? ((⟨W.heap.size, 0, none⟩ : Addr).add j) = some u) := Lib.hid fun W j u hj => by
            rw [← HCT.out]; exact World.news_of_block (_root_.Go.heap_alloc_new W _) j u (by simpa [acs] using hj)
          have h63c : M1.length + 1 ≤ maxLen := by unfold maxLen; omega
          have hbyc : (M1.length + 1) * 72 ≤ 140737488355328 := by omega
          have hszc : ∀ o : Obj, w.heap.size ≤ (wc.alloc o).heap.size := fun o => by have := hnc.size; simp; omega
          have HSZ := Lib.hid hszc
          clear hszc
          obtain ⟨M2, hM2⟩ : ∃ M2, M1 ++ [ct] = M2 := ⟨_, rfl⟩
          rw [hM2] at HRUN HWM HLM
          have HM2 := Lib.hid hM2
          clear hct hlm ZA h0w hM2
          go_wp2_with (at_builtin; refine wpList_append_own _ rfl _ _ 26 rfl w.heap.size 53 i0 _ 9 72 Try.underlying26 hii hz0 hz1 hz2 rfl (by decide) _ _ _ rfl (O13.out.alloc _) ⟨wc.heap.size, 0, none⟩ 1 1 (acs ct) rfl rfl (hnw.out wc) (acs_one ct) h63c hbyc (HSZ.out _) ?_; intro v7 w7 ho7 hg7 _)
          have O7 : Hid (OwnA w7 w.heap.size v7 M2) := Lib.hid (by rw [← HM2.out]; unfold OwnA; rw [List.length_append, rowOf_app]; exact ho7)
          have hn7 := (hnc.alloc hnc.size _).grown hg7 (by have := hnc.size; simp; omega) (fun q hq => (O13.out.lt q hq).1)
          have R7' : Hid (OwnR w7 w.heap.size (.slice rp k rc) L) := Lib.hid ((RYC.out.alloc _).kept hg7 (ownA_ne O13.out RYC.out))
          obtain ⟨v7p, v7c, rfl⟩ := O7.out.row.form
          clear ho7 hg7 O13
          go_wp2_with fail
          refine (RC.out _ _ HLM.out HWM.out _ O7.out.row).mono ?_
          rintro e w8 ⟨rs2, rfl, OR2, hb8⟩
          rw [HRUN.out] at OR2
          have R8 := Lib.hid (OwnR.row (ownsKeep R7'.out hb8))
          have R9 := Lib.hid OR2.row
          obtain ⟨sp, sc, rfl⟩ := OR2.row.form
          have hn8 := thenBelow hn7 hb8
          have SC := Lib.hid (SR.out _ _ L (by rw [HM.out]; omega) w8 R8.out R9.out)
          clear OR2 hb8 R7' O7
          go_wp2_with fail
          refine SC.out.mono ?_
          rintro e w9 ⟨rfl, hb9⟩
          go_wp2
          go_ret
          exact ⟨by simp, thenBelow hn8 hb9⟩
        · have h0b : (hh == 0) = false := by simpa using h0
          have HU := Lib.hid (UD.out.2 (by rw [HH.out]; exact h0))
          rw [HH.out] at HU
          have ZA : Hid (∃ ct : ActT, ct = ⟨1, z, hh, false, 0⟩) := Lib.hid ⟨_, rfl⟩
          obtain ⟨ct, hct⟩ := ZA.out
          have HCT : Hid (objA ct = .cells #[.int .i64 1, .bool z.1, .int .u64 (aH z.2.1), .int .u64 (aL z.2.1), .int .i64 z.2.2, .int .i64 hh, .bool false, .int .u64 0, .int .u64 0] 53) := Lib.hid (by rw [hct]; simp [objA, aH0, aL0])
          have HRUN : Hid (runL (M1 ++ [ct]) = L) := Lib.hid (by
            rw [← HM1.out, runL_snoc, runL_snoc, HL.out, hct, HP1.out]
            rw [doL, if_pos rfl, doL, if_pos rfl]; exact HU.out)
          have HWM : Hid (WordsA (M1 ++ [ct])) := Lib.hid (fun a ha => by
            rw [← HM1.out] at ha
            rcases List.mem_append.1 ha with ha | ha
            · rcases List.mem_append.1 ha with ha | ha
              · exact hwa.out a ha
              · simp at ha; subst ha; rw [HP1.out]; exact ⟨HZ.out.2, h0w⟩
            · simp at ha; subst ha; rw [hct]; exact ⟨HZ.out.2, h0w⟩)
          have hl1 : M1.length ≤ 61 := by rw [← HM1.out]; simp; omega
          have hlm : (M1 ++ [ct]).length ≤ 100 := by simp; omega
          have HLM := Lib.hid hlm
          have hnw : Hid (∀ W : World, ∀ j u, (acs ct)[j]? = some u → (W.alloc (.cells #[.int .i64 1, .bool z.1, .int .u64 (aH z.2.1), .int .u64 (aL z.2.1), .int .i64 z.2.2, .int .i64 hh, .bool false, .int .u64 0, .int .u64 0] 53)).cell? ((⟨W.heap.size, 0, none⟩ : Addr).add j) = some u) := Lib.hid fun W j u hj => by
            rw [← HCT.out]; exact World.news_of_block (_root_.Go.heap_alloc_new W _) j u (by simpa [acs] using hj)
          have h63c : M1.length + 1 ≤ maxLen := by unfold maxLen; omega
          have hbyc : (M1.length + 1) * 72 ≤ 140737488355328 := by omega
          have hszc : ∀ o : Obj, w.heap.size ≤ (wc.alloc o).heap.size := fun o => by have := hnc.size; simp; omega
          have HSZ := Lib.hid hszc
          clear hszc
          obtain ⟨M2, hM2⟩ : ∃ M2, M1 ++ [ct] = M2 := ⟨_, rfl⟩
          rw [hM2] at HRUN HWM HLM
          have HM2 := Lib.hid hM2
          clear hct hlm ZA h0w hM2
          go_wp2_with (at_builtin; refine wpList_append_own _ rfl _ _ 26 rfl w.heap.size 53 i0 _ 9 72 Try.underlying26 hii hz0 hz1 hz2 rfl (by decide) _ _ _ rfl (O13.out.alloc _) ⟨wc.heap.size, 0, none⟩ 1 1 (acs ct) rfl rfl (hnw.out wc) (acs_one ct) h63c hbyc (HSZ.out _) ?_; intro v7 w7 ho7 hg7 _)
          have O7 : Hid (OwnA w7 w.heap.size v7 M2) := Lib.hid (by rw [← HM2.out]; unfold OwnA; rw [List.length_append, rowOf_app]; exact ho7)
          have hn7 := (hnc.alloc hnc.size _).grown hg7 (by have := hnc.size; simp; omega) (fun q hq => (O13.out.lt q hq).1)
          have R7' : Hid (OwnR w7 w.heap.size (.slice rp k rc) L) := Lib.hid ((RYC.out.alloc _).kept hg7 (ownA_ne O13.out RYC.out))
          obtain ⟨v7p, v7c, rfl⟩ := O7.out.row.form
          clear ho7 hg7 O13
          go_wp2_with fail
          refine (RC.out _ _ HLM.out HWM.out _ O7.out.row).mono ?_
          rintro e w8 ⟨rs2, rfl, OR2, hb8⟩
          rw [HRUN.out] at OR2
          have R8 := Lib.hid (OwnR.row (ownsKeep R7'.out hb8))
          have R9 := Lib.hid OR2.row
          obtain ⟨sp, sc, rfl⟩ := OR2.row.form
          have hn8 := thenBelow hn7 hb8
          have SC := Lib.hid (SR.out _ _ L (by rw [HM.out]; omega) w8 R8.out R9.out)
          clear OR2 hb8 R7' O7
          go_wp2_with fail
          refine SC.out.mono ?_
          rintro e w9 ⟨rfl, hb9⟩
          go_wp2
          go_ret
          exact ⟨by simp, thenBelow hn8 hb9⟩
theorem TUndone.own : ownKnob Try.prog.godebug = none := by kernel_rfl
set_option maxRecDepth 100000 in
theorem TUndone.lifted (os : Os) (started : os.Started) (H : Type) (enc : TypeId × Value → H) :
    ReturnsInHanded {} Try.checked os 8 .any (Rows.tableUndoneSpec.pre6 enc Try.prog Try.f8 Rows.tableUndoneRow.domain false) (Rows.tableUndoneSpec.post enc Try.prog Try.f8 false true false false) := by
  refine returnsInHanded_of_change (C := Try.checked) TUndone.own started (by kernel_rfl) Try.func8
    (ChangeSpec.witness6 (enc := enc) (C := Try.checked) false ⟨#[], #[.slice none 0 0, .int .i64 0, .int .i64 0], []⟩ 8 (by kernel_rfl) (by kernel_rfl) (by kernel_rfl) (by kernel_rfl)) ?_
  intro W base args ds gs before hval0 hW hcnd _
  have hval : ∀ (j : Nat) t v, Try.f8.params[j]? = some t → args[j]? = some v → Value.okWide Try.prog W .any base t v := hval0
  have hW' := hW
  obtain ⟨p, q, hA0, hV, rfl, hfz, hnd⟩ := hW
  have hA : DataW.TrodAll enc Try.prog W 0 (fun _ => true) true Try.f8.params.toList args.toList ds p := hA0
  rw [Try.params8] at hA hval
  obtain ⟨v0, vs0, d0, ds0, p0, q0, hargs, rfl, rfl, rd0, r0⟩ := trodAll_cons hA
  obtain ⟨v1, vs1, d1, ds1, p1, q1, rfl, rfl, rfl, rd1, r1⟩ := trodAll_cons r0
  obtain ⟨v2, vs2, d2, ds2, p2, q2, rfl, rfl, rfl, rd2, r2⟩ := trodAll_cons r1
  obtain ⟨rfl, rfl, rfl⟩ := trodAll_nil r2
  obtain rfl : args = #[v0, v1, v2] := by cases args; simp_all
  obtain ⟨rfl, rfl⟩ := trodVars_none hV
  obtain ⟨l0, row0, wrd0, len0⟩ := openJobs (hval 0 45 v0 rfl rfl) rd0
  obtain ⟨a1, rfl, rfl, rfl, wa1⟩ := open_int Try.underlying3 (hval 1 3 v1 rfl rfl) rd1
  obtain ⟨a2, rfl, rfl, rfl, wa2⟩ := open_int Try.underlying3 (hval 2 3 v2 rfl rfl) rd2
  clear hA0 hval0
  refine (TUndone.walk v0 l0 a1 a2 wrd0 len0 (i64_of_wf wa1).1 (i64_of_wf wa1).2 (i64_of_wf wa2).1 (i64_of_wf wa2).2 W row0).mono fun e W' ⟨he, hb⟩ => ?_
  subst he
  exact ⟨_, rfl, postBelowR (pv := []) hW' hb (fun _ _ _ => trodAll_cons_mk (shut_bool Try.underlying4 _) trodAll_mk0) (trodAll_cons_mk (Below.trod laidOutR (by kernel_rfl) (of_decide_eq_true (by kernel_rfl)) rd0 hb (fun x hx => hW'.lt x (by simp [hx]))) (trodAll_cons_mk (Below.trod laidOutR (by kernel_rfl) (of_decide_eq_true (by kernel_rfl)) rd1 hb (fun x hx => by cases hx)) (trodAll_cons_mk (Below.trod laidOutR (by kernel_rfl) (of_decide_eq_true (by kernel_rfl)) rd2 hb (fun x hx => by cases hx)) trodAll_mk0))) (fun _ _ => rfl) rfl⟩

theorem TUndone.holds : Rows.TableUndoneSaid :=
  OpenClaim.holds_of_wide 8 Try.f8 rfl rfl rfl rfl rfl rfl rfl ⟨rfl, rfl, rfl, rfl, rfl⟩ rfl rfl rfl rfl rfl (by kernel_rfl) Try.func8 (by kernel_rfl)
    (of_decide_eq_true (by kernel_rfl)) (by unfold Func.isWrapper; first | (rw [if_pos (by decide +kernel)]; kernel_rfl) | (rw [if_neg (by decide +kernel)]; exact ⟨rfl, rfl⟩))
    (fun os started H enc _ => TUndone.lifted os started H enc)
#print axioms TUndone.holds
end Go.Proofs.Ytbfcgjimepcacaa

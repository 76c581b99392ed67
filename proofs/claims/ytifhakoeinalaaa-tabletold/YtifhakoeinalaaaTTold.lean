/-
  TableTold: for every list of jobs and numbers the answers tell what was there. No conditions.
-/
import Derived.Test.YtifhakoeinalaaaRows
import Derived.Test.YtifhakoeinalaaaActOwn
import Derived.Test.YtifhakoeinalaaaRowsJ
import Derived.Test.YtifhakoeinalaaaTToldM
import Derived.Deep.CutRange
import Derived.Deep.DeepCutAuto
import Derived.Deep.CutBlock
namespace Go.Proofs.Ytifhakoeinalaaa
open Go.ChangeShapes Go.WideShapes Go.ChangeAt Go.RowKit Go.Joins
set_option linter.unusedSimpArgs false
set_option linter.unusedVariables false
theorem own_acts3 (W : World) (a b c : ActT) : (W.alloc (.cells #[.int .i64 a.k, .bool a.p.1, .int .u64 (aH a.p.2.1), .int .u64 (aL a.p.2.1), .int .i64 a.p.2.2, .int .i64 a.h, .bool a.s, .int .u64 (aH a.y), .int .u64 (aL a.y), .int .i64 b.k, .bool b.p.1, .int .u64 (aH b.p.2.1), .int .u64 (aL b.p.2.1), .int .i64 b.p.2.2, .int .i64 b.h, .bool b.s, .int .u64 (aH b.y), .int .u64 (aL b.y), .int .i64 c.k, .bool c.p.1, .int .u64 (aH c.p.2.1), .int .u64 (aL c.p.2.1), .int .i64 c.p.2.2, .int .i64 c.h, .bool c.s, .int .u64 (aH c.y), .int .u64 (aL c.y)] 46)).ownsRow W.heap.size 46 9 (.slice (some ⟨W.heap.size, 0, none⟩) 3 3) 3 (rowOf acs [a, b, c]) :=
  ⟨rfl, .inr ⟨W.heap.size, 3, (rowOf acs [a, b, c]).toArray, rfl, Nat.le_refl _, _root_.Go.heap_alloc_new W _, Nat.le_refl _, by unfold maxLen; omega, rfl, rfl⟩⟩
theorem ansCells {w : World} {g o : Nat} {x : Int × Int × Int} (h : RecAt w g o (xcs x)) : w.cell? ⟨g, o, none⟩ = some (.int .i64 x.1) ∧ w.cell? ⟨g, o + 1, none⟩ = some (.int .i64 x.2.1) ∧ w.cell? ⟨g, o + 2, none⟩ = some (.int .i64 x.2.2) := ⟨h 0 _ rfl, h 1 _ rfl, h 2 _ rfl⟩
theorem told_at {as_ M X : List ActT} {XL : List (Int × Int × Int)} {k : Nat} (h : runX [] M = XL) (e : M = as_ ++ X) (hk : k < as_.length) (hx : k < XL.length) : XL[k] = doA (runL (as_.take k)) as_[k] := by
  subst h; subst e
  rw [runX_at (show k < (as_ ++ X).length by simp; omega), List.take_append_of_le_length (by omega), List.getElem_append_left hk]
set_option maxHeartbeats 8000000 in
set_option maxRecDepth 100000 in
theorem TTold.walk (v0 : Value) (l0 : List JT) (a1 a2 : Int) (wrd0 : WordsJ l0) (len0 : l0.length ≤ 9223372036854775807) (b0 : -9223372036854775808 ≤ a1) (b1 : a1 ≤ 9223372036854775807) (c0 : -9223372036854775808 ≤ a2) (c1 : a2 ≤ 9223372036854775807) (w : World) (row0 : RowJ w v0 l0) :
    Calls Try.prog 7 #[v0, .int .i64 a1, .int .i64 a2] w fun e w' => e = .returned (.bool true) ∧ Below w.heap.size w w' := by
  obtain ⟨i0, hii, hz0, hz1, hz2⟩ := info_parts info_act
  have AC := Lib.hid (fun (W : World) (r : RowJ W v0 l0) => acts_calls l0 v0 50 (by decide) len0 wrd0 W r)
  have PC := Lib.hid (fun (W : World) (b : Nat) (h : W.cell? ⟨b, 0, none⟩ = some (.int .i64 a1)) => pres1_calls a1 b0 b1 b W h)
  have P2 := Lib.hid (fun W => picked_calls a2 2 (by decide) (by decide) c0 c1 W)
  have R0 := Lib.hid row0
  obtain ⟨p, c, rfl⟩ := row0.form
  have hal : (actsZ l0 50).length ≤ 50 := by unfold actsZ; rw [List.length_map, List.length_take]; omega
  have hwa : Hid (WordsA (actsZ l0 50)) := Lib.hid (actsZ_words l0 50)
  obtain ⟨as_, has⟩ : ∃ x, actsZ l0 50 = x := ⟨_, rfl⟩
  rw [has] at AC hal hwa
  have PL := Lib.hid (fun (m : List ActT) (u : Value) (hm : m.length ≤ 100) (hw : WordsA m) (W : World) (r : RowA W u m) => play_calls m u (by omega) hw W r)
  clear row0 has
  go_enter Try.func7, Try.ntmps7
  go_wp2_with fail
  refine (AC.out _ R0.out).mono ?_
  rintro e w1 ⟨u, rfl, OA, hb1⟩
  obtain ⟨up, uc, rfl⟩ := OA.row.form
  have OA := Lib.hid OA
  clear AC R0
  go_wp2_with fail
  have bI := (Below.refl w1.heap.size w1).alloc (Nat.le_refl _) (.cells #[.int .i64 a1] 3)
  refine (PC.out _ w1.heap.size (by simp)).mono ?_
  rintro e w2 ⟨pv, rfl, hop, hb2⟩
  obtain ⟨pg, pc, hpv⟩ : ∃ pg pc, pv = .slice (some ⟨pg, 0, none⟩) 1 pc := by
    rcases hop.2 with ⟨_, h0⟩ | ⟨g, cap, cur, e, _⟩
    · cases h0
    · exact ⟨g, cap, e⟩
  subst hpv
  have q0 := owns_cellAt hop 0 _ rfl
  have q1 := owns_cellAt hop 1 _ rfl
  have q2 := owns_cellAt hop 2 _ rfl
  have q3 := owns_cellAt hop 3 _ rfl
  obtain ⟨z, hz⟩ : ∃ z, preZ a1 = z := ⟨_, rfl⟩
  have HZ : Hid (chkE z.1 z.2.1 z.2.2 = 0 ∧ z.2.1 < 2 ^ 128) := Lib.hid (by rw [← hz]; exact ⟨preZ_ok a1, Nat.lt_of_lt_of_le (xZ_lt _) (by decide)⟩)
  rw [hz] at q0 q1 q2 q3
  have bP := (thenBelow bI hb2).alloc (thenBelow bI hb2).size (.cells #[.bool z.1, .int .u64 (aH z.2.1), .int .u64 (aL z.2.1), .int .i64 z.2.2] 44)
  have OA2 : Hid (OwnA (w2.alloc (.cells #[.bool z.1, .int .u64 (aH z.2.1), .int .u64 (aL z.2.1), .int .i64 z.2.2] 44)) w.heap.size (.slice up as_.length uc) as_) := Lib.hid (ownsKeep OA.out bP)
  have PP := PreAt.new w2 z.1 (aH z.2.1) (aL z.2.1) z.2.2 44
  have hn2 := thenBelow hb1 bP
  clear hz hop PC hb1 hb2 bI bP OA
  have HY1 := Lib.hid (show (w2.alloc (.cells #[.bool z.1, .int .u64 (aH z.2.1), .int .u64 (aL z.2.1), .int .i64 z.2.2] 44)).heap.size = w2.heap.size + 1 by simp)
  go_upto_region 3 with fail
  clear q0 q1 q2 q3
  revert OA2 PP hn2 HY1
  generalize w2.alloc (.cells #[.bool z.1, .int .u64 (aH z.2.1), .int .u64 (aL z.2.1), .int .i64 z.2.2] 44) = Y1
  intro OA2 PP hn2 HY1
  obtain ⟨y0, y1, y2, y3, yl⟩ := PP
  go_upto_if 28 with (refine (P2.out _).mono ?_; rintro e w' ⟨rfl, rfl⟩)
  have YA := Lib.hid ((Below.refl _ Y1).alloc (Nat.le_refl _) (.cells #[.int .i64 1, .bool z.1, .int .u64 (aH z.2.1), .int .u64 (aL z.2.1), .int .i64 z.2.2, .int .i64 9, .bool false, .int .u64 0, .int .u64 0] 46))
  have HO : objA ⟨1, z, 9, false, 0⟩ = .cells #[.int .i64 1, .bool z.1, .int .u64 (aH z.2.1), .int .u64 (aL z.2.1), .int .i64 z.2.2, .int .i64 9, .bool false, .int .u64 0, .int .u64 0] 46 := by simp [objA, aH0, aL0]
  have AV0 := ActV.new Y1 ⟨1, z, 9, false, 0⟩
  rw [HO] at AV0
  clear HO
  go_cut [] from 17 to 30 (fun wx => Below Y1.heap.size Y1 wx ∧ ∃ la : ActT, Hid (la = ⟨1, z, 9, false, 0⟩ ∨ la = ⟨2, z, 0, false, 0⟩) ∧ ActV wx Y1.heap.size la)
  case first =>
    by_cases h0 : a2 % 2 = 0
    · have h0b : (a2 % 2 == 0) = true := by simpa using h0
      clear h0
      have HO2 : objA ⟨2, z, 0, false, 0⟩ = .cells #[.int .i64 2, .bool z.1, .int .u64 (aH z.2.1), .int .u64 (aL z.2.1), .int .i64 z.2.2, .int .i64 0, .bool false, .int .u64 0, .int .u64 0] 46 := by simp [objA, aH0, aL0]
      have AV2 := ActV.new Y1 ⟨2, z, 0, false, 0⟩
      rw [HO2] at AV2
      clear HO2
      go_wp2_with fail
      go_meet
      exact ⟨(Below.refl _ Y1).alloc (Nat.le_refl _) _, _, Lib.hid (.inr rfl), AV2⟩
    · have h0b : (a2 % 2 == 0) = false := by simpa using h0
      clear h0
      go_wp2_with fail
      go_meet
      exact ⟨YA.out, _, Lib.hid (.inl rfl), AV0⟩
  case rest =>
    obtain ⟨BY, la, HLA, AVL⟩ := hcut
    have PY : PreAt wc w2.heap.size z.1 (aH z.2.1) (aL z.2.1) z.2.2 := PreAt.keep ⟨y0, y1, y2, y3, yl⟩ BY
    have OY : Hid (OwnA wc w.heap.size (.slice up as_.length uc) as_) := Lib.hid (ownsKeep OA2.out BY)
    have hnY := thenBelow hn2 BY
    clear y0 y1 y2 y3 OA2 hn2 P2 AV0 YA BY HY1
    obtain ⟨Y, hY⟩ : ∃ Y, wc = Y := ⟨_, rfl⟩
    subst hY
    have HBB : Hid (∀ X : World, Below wc.heap.size wc X → X.cell? ⟨w2.heap.size, 0, none⟩ = some (.bool z.1) ∧ X.cell? ⟨w2.heap.size, 1, none⟩ = some (.int .u64 (aH z.2.1)) ∧ X.cell? ⟨w2.heap.size, 2, none⟩ = some (.int .u64 (aL z.2.1)) ∧ X.cell? ⟨w2.heap.size, 3, none⟩ = some (.int .i64 z.2.2) ∧ X.cell? ⟨Y1.heap.size, 0, none⟩ = some (.int .i64 la.k) ∧ X.cell? ⟨Y1.heap.size, 1, none⟩ = some (.bool la.p.1) ∧ X.cell? ⟨Y1.heap.size, 2, none⟩ = some (.int .u64 (aH la.p.2.1)) ∧ X.cell? ⟨Y1.heap.size, 3, none⟩ = some (.int .u64 (aL la.p.2.1)) ∧ X.cell? ⟨Y1.heap.size, 4, none⟩ = some (.int .i64 la.p.2.2) ∧ X.cell? ⟨Y1.heap.size, 5, none⟩ = some (.int .i64 la.h) ∧ X.cell? ⟨Y1.heap.size, 6, none⟩ = some (.bool la.s) ∧ X.cell? ⟨Y1.heap.size, 7, none⟩ = some (.int .u64 (aH la.y)) ∧ X.cell? ⟨Y1.heap.size, 8, none⟩ = some (.int .u64 (aL la.y))) := Lib.hid fun X h => by
      obtain ⟨y0, y1, y2, y3, _⟩ := PY.keep h
      obtain ⟨k0, k1, k2, k3, k4, k5, k6, k7, k8⟩ := actCells (AVL.keep h).1
      simp only [Nat.zero_add] at k0 k1 k2 k3 k4 k5 k6 k7 k8
      exact ⟨y0, y1, y2, y3, k0, k1, k2, k3, k4, k5, k6, k7, k8⟩
    have hby : as_.length * 72 ≤ 140737488355328 := by omega
    have h63 : as_.length ≤ maxLen := by unfold maxLen; omega
    have hby2 : (as_.length + 3) * 72 ≤ 140737488355328 := by omega
    have h632 : as_.length + 3 ≤ maxLen := by unfold maxLen; omega
    have RYA := Lib.hid (OwnA.row OY.out)
    obtain ⟨g4, hg4⟩ : ∃ g4 : ActT, g4 = ⟨4, z, 0, false, 0⟩ := ⟨_, rfl⟩
    obtain ⟨X3, hX3⟩ : ∃ X3, rowOf acs [g4, la, g4] = X3 := ⟨_, rfl⟩
    have OACT : Hid (∀ W : World, (W.alloc (.cells #[.int .i64 4, .bool z.1, .int .u64 (aH z.2.1), .int .u64 (aL z.2.1), .int .i64 z.2.2, .int .i64 0, .bool false, .int .u64 0, .int .u64 0, .int .i64 la.k, .bool la.p.1, .int .u64 (aH la.p.2.1), .int .u64 (aL la.p.2.1), .int .i64 la.p.2.2, .int .i64 la.h, .bool la.s, .int .u64 (aH la.y), .int .u64 (aL la.y), .int .i64 4, .bool z.1, .int .u64 (aH z.2.1), .int .u64 (aL z.2.1), .int .i64 z.2.2, .int .i64 0, .bool false, .int .u64 0, .int .u64 0] 46)).ownsRow W.heap.size 46 9 (.slice (some ⟨W.heap.size, 0, none⟩) 3 3) 3 X3) := Lib.hid fun W => by
      have := own_acts3 W g4 la g4
      rw [hX3] at this
      simpa only [hg4, aH0, aL0] using this
    have H1 : Hid (∀ u ∈ X3, u.oneCell' = true) := Lib.hid (by rw [← hX3]; exact rowOf_one acs acs_one _)
    obtain ⟨M, hM⟩ : ∃ M, as_ ++ [g4, la, g4] = M := ⟨_, rfl⟩
    have hMl : M.length = as_.length + 3 := by rw [← hM]; simp
    have HM : Hid (M = as_ ++ [g4, la, g4] ∧ g4 = ⟨4, z, 0, false, 0⟩ ∧ M.length = as_.length + 3 ∧ rowOf acs M = rowOf acs as_ ++ X3) := Lib.hid ⟨hM.symm, hg4, hMl, by rw [← hM, rowOf_app, hX3]⟩
    have HWM : Hid (WordsA M) := Lib.hid (fun a ha => by
      rw [← hM] at ha
      rcases List.mem_append.1 ha with ha | ha
      · exact hwa.out a ha
      · have hl : la.p.2.1 < 2 ^ 128 ∧ la.y < 2 ^ 128 := by
          rcases HLA.out with e | e <;> rw [e] <;> exact ⟨HZ.out.2, Nat.two_pow_pos 128⟩
        have hg : g4.p.2.1 < 2 ^ 128 ∧ g4.y < 2 ^ 128 := by rw [hg4]; exact ⟨HZ.out.2, Nat.two_pow_pos 128⟩
        simp only [List.mem_cons, List.not_mem_nil, or_false] at ha
        rcases ha with e | e | e <;> rw [e] <;> assumption)
    have EX : Hid (playE M = 0 ∧ playX M = runX [] M) := Lib.hid (by simp [playE, playX]; omega)
    have PLM := Lib.hid (fun (W : World) (u : Value) (r : RowA W u M) => PL.out M u (by omega) HWM.out W r)
    rw [EX.out.1, EX.out.2] at PLM
    clear hg4 hX3 hM hMl EX PL
    have AVLH := Lib.hid AVL
    clear AVL
    go_upto_region 6 with fail
    go_cut [10, 11] from 32 to 43 (fun s10 s11 wx => Hid (OwnX wx w.heap.size s10 (runX [] M)) ∧ s11 = .int .i64 0 ∧ Below wc.heap.size wc wx)
    case first =>
      go_region_held3 (fun w' => w'.cell? ⟨w2.heap.size, 0, none⟩ = some (.bool z.1) ∧ w'.cell? ⟨w2.heap.size, 1, none⟩ = some (.int .u64 (aH z.2.1)) ∧ w'.cell? ⟨w2.heap.size, 2, none⟩ = some (.int .u64 (aL z.2.1)) ∧ w'.cell? ⟨w2.heap.size, 3, none⟩ = some (.int .i64 z.2.2) ∧ w'.cell? ⟨Y1.heap.size, 0, none⟩ = some (.int .i64 la.k) ∧ w'.cell? ⟨Y1.heap.size, 1, none⟩ = some (.bool la.p.1) ∧ w'.cell? ⟨Y1.heap.size, 2, none⟩ = some (.int .u64 (aH la.p.2.1)) ∧ w'.cell? ⟨Y1.heap.size, 3, none⟩ = some (.int .u64 (aL la.p.2.1)) ∧ w'.cell? ⟨Y1.heap.size, 4, none⟩ = some (.int .i64 la.p.2.2) ∧ w'.cell? ⟨Y1.heap.size, 5, none⟩ = some (.int .i64 la.h) ∧ w'.cell? ⟨Y1.heap.size, 6, none⟩ = some (.bool la.s) ∧ w'.cell? ⟨Y1.heap.size, 7, none⟩ = some (.int .u64 (aH la.y)) ∧ w'.cell? ⟨Y1.heap.size, 8, none⟩ = some (.int .u64 (aL la.y)))
        (first
          | exact HBB.out _ ((Below.refl _ wc).drew)
          | exact HBB.out _ (((Below.refl _ wc).alloc (Nat.le_refl _) _).drew)
          | exact HBB.out _ B1
          | exact HBB.out _ (B1.alloc B1.size _)
          | exact HBB.out _ B2
          | exact HBB.out _ B3
          | fail)
        (first
          | (refine step_append_copy rfl _ _ _ rfl 46 i0 _ 72 Try.underlying22 hii hz0 hz1 hz2 rfl (by decide) acs_len acs_one rfl _ _ rfl (RYA.out.keep ((Below.refl _ wc).drew)) hby h63 ?_; intro v5 w5 ho5 hb5; have B1 : Below wc.heap.size wc w5 := thenBelow ((Below.refl _ wc).drew) hb5; have O5 := Lib.hid ho5)
          | (refine step_append_copy rfl _ _ _ rfl 46 i0 _ 72 Try.underlying22 hii hz0 hz1 hz2 rfl (by decide) acs_len acs_one rfl _ _ rfl (RYA.out.keep (((Below.refl _ wc).alloc (Nat.le_refl _) _).drew)) hby h63 ?_; intro v5 w5 ho5 hb5; have B1 : Below wc.heap.size wc w5 := thenBelow (((Below.refl _ wc).alloc (Nat.le_refl _) _).drew) hb5; have O5 : Hid (OwnA w5 wc.heap.size v5 as_) := Lib.hid (ownsLow ho5 (by simp [go_sem])); have OT := Lib.hid (ownsKeep (ownsKeep (OACT.out wc) ((Below.refl _ _).drew)) hb5))
          | (refine step_append_two rfl _ _ _ rfl wc.heap.size 46 i0 _ 9 72 Try.underlying22 hii hz0 hz1 hz2 rfl (by decide) _ _ _ rfl (O5.out.alloc _) _ w5.heap.size 3 X3 rfl (OACT.out w5) H1.out hby2 h632 (by have := B1.size; simp; omega) ?_; intro v6 w6 ho6 hb6; have B2 : Below wc.heap.size wc w6 := (B1.alloc B1.size _).trans hb6; have O6 : Hid (OwnA w6 wc.heap.size v6 M) := Lib.hid (by unfold OwnA; rw [HM.out.2.2.1, HM.out.2.2.2]; exact ho6))
          | (refine step_append_two rfl _ _ _ rfl wc.heap.size 46 i0 _ 9 72 Try.underlying22 hii hz0 hz1 hz2 rfl (by decide) _ _ _ rfl O5.out _ wc.heap.size 3 X3 rfl OT.out H1.out hby2 h632 B1.size ?_; intro v6 w6 ho6 hb6; have B2 : Below wc.heap.size wc w6 := B1.trans hb6; have O6 : Hid (OwnA w6 wc.heap.size v6 M) := Lib.hid (by unfold OwnA; rw [HM.out.2.2.1, HM.out.2.2.2]; exact ho6))
          | (go_at_call 8; refine (PLM.out _ _ O6.out.row).mono ?_; rintro e w7 ⟨u7, rfl, ho7, hb7⟩; have B3 := thenBelow B2 hb7; have O7 := Lib.hid ho7; have S6 := B2.size)
          | fail)
      all_goals
        go_wp2_with fail
        go_meet
        exact ⟨Lib.hid (ownsLow O7.out (Nat.le_trans hnY.size S6)), rfl, B3⟩
    case rest =>
      obtain ⟨OX, rfl, BX⟩ := hcut
      have OZ : Hid (OwnA wc w.heap.size (.slice up as_.length uc) as_) := Lib.hid (ownsKeep OY.out BX)
      have PZ := PY.keep BX
      have AVZ := Lib.hid (AVLH.out.keep BX)
      have hnZ := thenBelow hnY BX
      clear OY PY AVLH hnY BX RYA OACT H1 HBB PLM HWM hby h63 hby2 h632 hii hz0 hz1 hz2
      obtain ⟨XL, hXL⟩ : ∃ XL, runX [] M = XL := ⟨_, rfl⟩
      obtain ⟨n, hn⟩ : ∃ n, as_.length = n := ⟨_, rfl⟩
      have hXn : XL.length = n + 3 := by rw [← hXL, runX_len, HM.out.2.2.1, hn]
      rw [hXL] at OX
      obtain ⟨xp, xc, hxe, _, atX⟩ := (OwnX.row OX.out).at
      rw [hXn] at hxe
      subst hxe
      obtain ⟨up', uc', hue, _, atA⟩ := (OwnA.row OZ.out).at
      injection hue with h1 h2 h3
      subst h1
      clear h2 h3
      have ATX := Lib.hid atX
      have ATA := Lib.hid atA
      have HXL := Lib.hid (And.intro hXL hXn)
      have HN := Lib.hid hn
      rw [hn] at hal
      rw [hn]
      clear atX atA hXL hXn hn OX OZ
      go_wp2_with fail
      go_loopw [12, 13] (fun h i wr => ∃ (k q : Nat) (hh : Int), k ≤ n ∧ i = .int .i64 k ∧ h = .int .i64 hh ∧ wr = wc.drewN q ∧ Hid (hadZ z (runL (as_.take k)) = hh)) (fun _ i _ => n - (intOf i).toNat)
      case atStart => exact ⟨0, 0, 0, by omega, rfl, rfl, rfl, Lib.hid rfl⟩
      case round =>
        obtain ⟨k, q, hh, hk, rfl, rfl, rfl, HH⟩ := hrel
        by_cases hlt : k < n
        · have hkl : k < as_.length := by rw [HN.out]; exact hlt
          have hkx : k < XL.length := by rw [HXL.out.2]; omega
          obtain ⟨g, o, rfl, _, hrec⟩ := ATA.out k hkl
          obtain ⟨gx, ox, rfl, _, hrecx⟩ := ATX.out k hkx
          obtain ⟨x0, x1, x2, x3, x4, x5, x6, x7, x8⟩ := actCells hrec
          obtain ⟨e0, e1, e2⟩ := ansCells hrecx
          have HT : Hid (hadZ z (runL (as_.take (k + 1))) = toldF z XL[k].1 hh as_[k]) := Lib.hid (by
            rw [take_snoc hkl, runL_snoc, had_step (InvR.run _), HH.out]
            have : XL[k] = doA (runL (as_.take k)) as_[k] := told_at HXL.out.1 HM.out.1 hkl hkx
            rw [this])
          generalize as_[k] = r at x0 x1 x2 x3 x4 x5 x6 x7 x8 HT
          generalize XL[k] = t at e0 e1 e2 HT
          obtain ⟨y0, y1, y2, y3, yl⟩ := PZ
          have hlt' : (k : Int) < (n : Int) := by omega
          have hltx : (k : Int) < ((n + 3 : Nat) : Int) := by omega
          have hltx2 : (k : Int) < (n : Int) + 3 := by omega
          clear x6 x7 x8 e1 e2 hrec hrecx
          rcases pk_cases r.p z with e | e | ⟨e1, e⟩ | ⟨e1, e2, e⟩ | ⟨e1, e2, e3, e⟩
          · by_cases hc : t.1 = 0
            · have hcb : (t.1 == 0) = true := by simpa using hc
              by_cases hk1 : r.k = 1
              · have H2 := Lib.hid (show hadZ z (runL (as_.take (k + 1))) = r.h by rw [HT.out, toldF, if_pos ⟨e, hc⟩, if_pos hk1])
                have hk2b : (r.k == 2) = false := by rw [hk1]; rfl
                have hk1b : (r.k == 1) = true := by simpa using hk1
                rw [e] at x1 x2 x3 x4
                rw [hc] at e0
                clear e HT hc hk1 hcb
                go_wp2_with fail
                go_quiet ((fail))
                go_wp2
                go_roundw
                case rel => exact ⟨k + 1, _, _, by omega, by go_num, rfl, rfl, H2⟩
                case measure => simp [intOf]; omega
              · have hk1b : (r.k == 1) = false := by simpa using hk1
                by_cases hk2 : r.k = 2
                · have H2 := Lib.hid (show hadZ z (runL (as_.take (k + 1))) = 0 by rw [HT.out, toldF, if_pos ⟨e, hc⟩, if_neg hk1, if_pos hk2])
                  have hk2b : (r.k == 2) = true := by simpa using hk2
                  rw [e] at x1 x2 x3 x4
                  rw [hc] at e0
                  clear e HT hc hk1 hk2 hcb
                  go_wp2_with fail
                  go_quiet ((fail))
                  go_wp2
                  go_roundw
                  case rel => exact ⟨k + 1, _, _, by omega, by go_num, rfl, rfl, H2⟩
                  case measure => simp [intOf]; omega
                · have H2 := Lib.hid (show hadZ z (runL (as_.take (k + 1))) = hh by rw [HT.out, toldF, if_pos ⟨e, hc⟩, if_neg hk1, if_neg hk2])
                  have hk2b : (r.k == 2) = false := by simpa using hk2
                  rw [e] at x1 x2 x3 x4
                  rw [hc] at e0
                  clear e HT hc hk1 hk2 hcb
                  go_wp2_with fail
                  go_quiet ((fail))
                  go_wp2
                  go_roundw
                  case rel => exact ⟨k + 1, _, _, by omega, by go_num, rfl, rfl, H2⟩
                  case measure => simp [intOf]; omega
            · have hcb : (t.1 == 0) = false := by simpa using hc
              have H2 := Lib.hid (show hadZ z (runL (as_.take (k + 1))) = hh by rw [HT.out, toldF, if_neg (fun h => hc h.2)])
              rw [e] at x1 x2 x3 x4
              clear e HT hc
              go_wp2_with fail
              go_quiet ((fail))
              go_wp2
              go_roundw
              case rel => exact ⟨k + 1, _, _, by omega, by go_num, rfl, rfl, H2⟩
              case measure => simp [intOf]; omega
          all_goals
            have H2 := Lib.hid (show hadZ z (runL (as_.take (k + 1))) = hh by rw [HT.out, toldF, if_neg (fun h => by rw [h.1] at e; simp at e)])
            clear HT
            try rw [e1] at x1
            try rw [e2] at x2
            try rw [e3] at x3
            go_wp2_with fail
            go_quiet ((fail))
            go_wp2
            go_roundw
            case rel => exact ⟨k + 1, _, _, by omega, by go_num, rfl, rfl, H2⟩
            case measure => simp [intOf]; omega
        · obtain rfl : k = n := by omega
          have e1 : as_.take k = as_ := by rw [← HN.out]; exact List.take_length
          rw [e1] at HH
          clear e1
          generalize hY : wc.drewN q = Y
          have AVY : ActV Y Y1.heap.size la := by rw [← hY]; exact AVZ.out.keep (below_drewN (Below.refl _ _) q)
          have hnY : Below w.heap.size w Y := by rw [← hY]; exact below_drewN hnZ _
          have ATY : Hid (∀ i (hi : i < XL.length), ∃ g o, xp = some ⟨g, o, none⟩ ∧ g < Y.heap.size ∧ RecAt Y g (o + i * 3) (xcs XL[i])) := Lib.hid (by
            rw [← hY]
            exact fun i hi => by
              obtain ⟨g, o, e, hg, h⟩ := ATX.out i hi
              exact ⟨g, o, e, hg, h.keep (below_drewN (Below.refl _ _) q) hg⟩)
          clear hY PZ AVZ hnZ ATX ATA
          have i0 : k < XL.length := by rw [HXL.out.2]; omega
          have i1 : k + 1 < XL.length := by rw [HXL.out.2]; omega
          have i2 : k + 2 < XL.length := by rw [HXL.out.2]; omega
          obtain ⟨E0, E1, E2, E3⟩ := told_end HXL.out.1 HM.out.1 HM.out.2.1 HLA.out HZ.out.1 HN.out hal HH.out i0 i1 i2
          obtain ⟨gx, ox, rfl, _, r0⟩ := ATY.out k i0
          obtain ⟨gx', ox', hp1, _, r1⟩ := ATY.out (k + 1) i1
          obtain ⟨gx'', ox'', hp2, _, r2⟩ := ATY.out (k + 2) i2
          cases hp1
          cases hp2
          obtain ⟨m0, m1, m2⟩ := ansCells r0
          obtain ⟨n0, n1, n2⟩ := ansCells r1
          obtain ⟨o0, o1, o2⟩ := ansCells r2
          generalize XL[k] = t0 at E0 E1 E2 E3 m0 m1 m2
          generalize XL[k + 1] = t1 at E0 E1 E2 E3 n0 n1 n2
          generalize XL[k + 2] = t2 at E0 E1 E2 E3 o0 o1 o2
          obtain ⟨k0, k1, k2, k3, k4, k5, k6, k7, k8⟩ := actCells AVY.1
          rw [E1] at m1
          rw [E2] at n1
          have hl0 : (k : Int) < ((k + 3 : Nat) : Int) := by omega
          have hl1 : (k : Int) + 1 < ((k + 3 : Nat) : Int) := by omega
          have hl2 : (k : Int) + 2 < ((k + 3 : Nat) : Int) := by omega
          have hyl := AVY.2.2
          have hy0 : ¬ Y1.heap.size = Y.heap.size := by omega
          have hy1 : ¬ Y1.heap.size = Y.heap.size + 1 := by omega
          have hy2 : ¬ Y1.heap.size = Y.heap.size + 1 + 1 := by omega
          have k0' : ∀ o1 o2 o3 : Obj, (((Y.alloc o1).alloc o2).alloc o3).cell? ⟨Y1.heap.size, 0, none⟩ = some (.int .i64 la.k) := fun o1 o2 o3 => ((((Below.refl Y.heap.size Y).alloc (Nat.le_refl _) o1).alloc (by simp) o2).alloc (by simp; omega) o3).cell (p := ⟨Y1.heap.size, 0, none⟩) hyl |>.trans k0
          clear k1 k2 k3 k4 k5 k6 k7 k8 r0 r1 r2 ATY AVY E1 E2 HN HM HXL HLA HH i0 i1 i2
          by_cases h0 : hh = 0
          · rw [if_pos h0] at E0 E3
            subst h0
            rw [E0] at m0
            clear E0
            rcases E3 with ⟨a, b, d⟩ | ⟨a, b, d⟩
            · rw [a] at k0 k0'
              rw [b] at o0
              rw [d] at n0
              clear a b d
              go_wp2
              go_ret
              exact ⟨by simp, ((hnY.alloc hnY.size _).alloc (by have := hnY.size; simp; omega) _).alloc (by have := hnY.size; simp; omega) _⟩
            · rw [a] at k0 k0'
              rw [b] at n0
              rw [d] at o1
              clear a b d
              go_wp2
              go_ret
              exact ⟨by simp, ((hnY.alloc hnY.size _).alloc (by have := hnY.size; simp; omega) _).alloc (by have := hnY.size; simp; omega) _⟩
          · rw [if_neg h0] at E0 E3
            have h0b : (hh == 0) = false := by simpa using h0
            clear h0
            rw [E0] at m0
            clear E0
            rcases E3 with ⟨a, b, d⟩ | ⟨a, b, d⟩
            · rw [a] at k0 k0'
              rw [b] at o0
              rw [d] at n0
              clear a b d
              go_wp2
              go_ret
              exact ⟨by simp, ((hnY.alloc hnY.size _).alloc (by have := hnY.size; simp; omega) _).alloc (by have := hnY.size; simp; omega) _⟩
            · rw [a] at k0 k0'
              rw [b] at n0
              rw [d] at o1
              clear a b d
              go_wp2
              go_ret
              exact ⟨by simp, ((hnY.alloc hnY.size _).alloc (by have := hnY.size; simp; omega) _).alloc (by have := hnY.size; simp; omega) _⟩
theorem TTold.own : ownKnob Try.prog.godebug = none := by kernel_rfl
set_option maxRecDepth 100000 in
theorem TTold.lifted (os : Os) (started : os.Started) (H : Type) (enc : TypeId × Value → H) :
    ReturnsInHanded {} Try.checked os 7 .any (Rows.tableToldSpec.pre6 enc Try.prog Try.f7 Rows.tableToldRow.domain false) (Rows.tableToldSpec.post enc Try.prog Try.f7 false true false false) := by
  refine returnsInHanded_of_change (C := Try.checked) TTold.own started (by kernel_rfl) Try.func7
    (ChangeSpec.witness6 (enc := enc) (C := Try.checked) false ⟨#[], #[.slice none 0 0, .int .i64 0, .int .i64 0], []⟩ 8 (by kernel_rfl) (by kernel_rfl) (by kernel_rfl) (by kernel_rfl)) ?_
  intro W base args ds gs before hval0 hW hcnd _
  have hval : ∀ (j : Nat) t v, Try.f7.params[j]? = some t → args[j]? = some v → Value.okWide Try.prog W .any base t v := hval0
  have hW' := hW
  obtain ⟨p, q, hA0, hV, rfl, hfz, hnd⟩ := hW
  have hA : DataW.TrodAll enc Try.prog W 0 (fun _ => true) true Try.f7.params.toList args.toList ds p := hA0
  rw [Try.params7] at hA hval
  obtain ⟨v0, vs0, d0, ds0, p0, q0, hargs, rfl, rfl, rd0, r0⟩ := trodAll_cons hA
  obtain ⟨v1, vs1, d1, ds1, p1, q1, rfl, rfl, rfl, rd1, r1⟩ := trodAll_cons r0
  obtain ⟨v2, vs2, d2, ds2, p2, q2, rfl, rfl, rfl, rd2, r2⟩ := trodAll_cons r1
  obtain ⟨rfl, rfl, rfl⟩ := trodAll_nil r2
  obtain rfl : args = #[v0, v1, v2] := by cases args; simp_all
  obtain ⟨rfl, rfl⟩ := trodVars_none hV
  obtain ⟨l0, row0, wrd0, len0⟩ := openJobs (hval 0 35 v0 rfl rfl) rd0
  obtain ⟨a1, rfl, rfl, rfl, wa1⟩ := open_int Try.underlying3 (hval 1 3 v1 rfl rfl) rd1
  obtain ⟨a2, rfl, rfl, rfl, wa2⟩ := open_int Try.underlying3 (hval 2 3 v2 rfl rfl) rd2
  clear hA0 hval0
  refine (TTold.walk v0 l0 a1 a2 wrd0 len0 (i64_of_wf wa1).1 (i64_of_wf wa1).2 (i64_of_wf wa2).1 (i64_of_wf wa2).2 W row0).mono fun e W' ⟨he, hb⟩ => ?_
  subst he
  exact ⟨_, rfl, postBelowR (pv := []) hW' hb (fun _ _ _ => trodAll_cons_mk (shut_bool Try.underlying4 _) trodAll_mk0) (trodAll_cons_mk (Below.trod laidOutR (by kernel_rfl) (of_decide_eq_true (by kernel_rfl)) rd0 hb (fun x hx => hW'.lt x (by simp [hx]))) (trodAll_cons_mk (Below.trod laidOutR (by kernel_rfl) (of_decide_eq_true (by kernel_rfl)) rd1 hb (fun x hx => by cases hx)) (trodAll_cons_mk (Below.trod laidOutR (by kernel_rfl) (of_decide_eq_true (by kernel_rfl)) rd2 hb (fun x hx => by cases hx)) trodAll_mk0))) (fun _ _ => rfl) rfl⟩

theorem TTold.holds : Rows.TableToldSaid :=
  OpenClaim.holds_of_wide 7 Try.f7 rfl rfl rfl rfl rfl rfl rfl ⟨rfl, rfl, rfl, rfl, rfl⟩ rfl rfl rfl rfl rfl (by kernel_rfl) Try.func7 (by kernel_rfl)
    (of_decide_eq_true (by kernel_rfl)) (by unfold Func.isWrapper; first | (rw [if_pos (by decide +kernel)]; kernel_rfl) | (rw [if_neg (by decide +kernel)]; exact ⟨rfl, rfl⟩))
    (fun os started H enc _ => TTold.lifted os started H enc)
#print axioms TTold.holds
end Go.Proofs.Ytifhakoeinalaaa

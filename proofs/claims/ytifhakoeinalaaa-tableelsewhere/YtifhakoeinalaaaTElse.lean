/-
  TableElsewhere: for every list of jobs and numbers a new route changes just what it says. No conditions.
-/
import Derived.Test.YtifhakoeinalaaaRows
import Derived.Test.YtifhakoeinalaaaActOwn
import Derived.Test.YtifhakoeinalaaaRowsJ
import Derived.Test.YtifhakoeinalaaaTElseM
import Derived.Deep.CutRange
import Derived.Deep.DeepCutAuto
import Derived.Deep.CutBlock
namespace Go.Proofs.Ytifhakoeinalaaa
open Go.ChangeShapes Go.WideShapes Go.ChangeAt Go.RowKit Go.Joins
set_option linter.unusedSimpArgs false
set_option linter.unusedVariables false
theorem hasF_callsE (r : RT) (y : Nat) (hf : r.1.1 = false) (hc : chkE r.1.1 r.1.2.1 r.1.2.2 = 0) (hy : y < 2 ^ wideN false) (w : World) :
    Calls Try.prog 16 #[.agg #[.bool r.1.1, .int .u64 (aH r.1.2.1), .int .u64 (aL r.1.2.1), .int .i64 r.1.2.2], .agg #[.bool false, .int .u64 (aH y), .int .u64 (aL y)]] w fun e w' => e = .returned (.tuple #[.bool (mB false y r), .int .i64 0]) ∧ Below w.heap.size w w' := by
  obtain ⟨⟨t, x, n⟩, h⟩ := r
  simp only at hf
  subst hf
  obtain ⟨hx, k, rfl, hk, hl⟩ := chk0 hc
  simp only at hx hk hl hc ⊢
  refine (has_ok false x y k _ _ (lt128 hx) (lt128 hy) hc hk hy rfl rfl w).mono ?_
  rintro e w' ⟨rfl, hb⟩
  exact ⟨by simp [mB], hb⟩
set_option maxHeartbeats 8000000 in
set_option maxRecDepth 100000 in
theorem TElse.walk (v0 : Value) (l0 : List JT) (a1 a2 a3 : Int) (wrd0 : WordsJ l0) (len0 : l0.length ≤ 9223372036854775807) (b0 : -9223372036854775808 ≤ a1) (b1 : a1 ≤ 9223372036854775807) (c0 : -9223372036854775808 ≤ a2) (c1 : a2 ≤ 9223372036854775807) (d0 : -9223372036854775808 ≤ a3) (d1 : a3 ≤ 9223372036854775807) (w : World) (row0 : RowJ w v0 l0) :
    Calls Try.prog 6 #[v0, .int .i64 a1, .int .i64 a2, .int .i64 a3] w fun e w' => e = .returned (.bool true) ∧ Below w.heap.size w w' := by
  obtain ⟨i0, hii, hz0, hz1, hz2⟩ := info_parts info_act
  obtain ⟨j0, jii, jz0, jz1, jz2⟩ := info_parts info_route
  have AC := Lib.hid (fun (W : World) (r : RowJ W v0 l0) => acts_calls l0 v0 50 (by decide) len0 wrd0 W r)
  have PC := Lib.hid (fun (W : World) (b : Nat) (h : W.cell? ⟨b, 0, none⟩ = some (.int .i64 a1)) => pres1_calls a1 b0 b1 b W h)
  have P9 := Lib.hid (fun W => picked_calls a2 9 (by decide) (by decide) c0 c1 W)
  have NC := Lib.hid (fun (W : World) => near_calls a3 d0 d1 W)
  have R0 := Lib.hid row0
  obtain ⟨p, c, rfl⟩ := row0.form
  have hal : (actsZ l0 50).length ≤ 50 := by unfold actsZ; rw [List.length_map, List.length_take]; omega
  have hwa : Hid (WordsA (actsZ l0 50)) := Lib.hid (actsZ_words l0 50)
  obtain ⟨as_, has⟩ : ∃ x, actsZ l0 50 = x := ⟨_, rfl⟩
  rw [has] at AC hal hwa
  obtain ⟨y, hy⟩ : ∃ y, nearZ a3 = y := ⟨_, rfl⟩
  have HY : Hid (y < 2 ^ wideN false ∧ y < 2 ^ 128) := Lib.hid (by have := nearZ_lt a3; rw [hy] at this; exact ⟨this, Nat.lt_of_lt_of_le this (by decide)⟩)
  rw [hy] at NC
  have RC := Lib.hid (fun (m : List ActT) (u : Value) (hm : m.length ≤ 100) (hw : WordsA m) (W : World) (r : RowA W u m) => routesOf_calls m u hm hw W r)
  have LC := Lib.hid (fun (m : List RT) (u : Value) (hm : m.length ≤ 1000) (hw : WordsR m) (W : World) (r : RowR W u m) => tableLook_calls m u false y (by omega) hw HY.out.2 W r)
  have II := Lib.hid (InvR.run as_)
  have hls : (runL as_).length ≤ 50 := Nat.le_trans (runL_len as_) hal
  have hm0 := Int.emod_nonneg a2 (show (9 : Int) ≠ 0 by decide)
  have hm1 := Int.emod_lt_of_pos a2 (show (0 : Int) < 9 by decide)
  have hw9 : IntKind.i64.wrap (1 + a2 % 9) = 1 + a2 % 9 := by rw [IntKind.wrap_i64]; omega
  obtain ⟨t9, ht9⟩ : ∃ t9, a2 % 9 = t9 := ⟨_, rfl⟩
  rw [ht9] at P9 hm0 hm1 hw9
  clear row0 has hy ht9
  go_enter Try.func6, Try.ntmps6
  go_wp2_with fail
  refine (AC.out _ R0.out).mono ?_
  rintro e w1 ⟨u, rfl, OA, hb1⟩
  obtain ⟨up, uc, rfl⟩ := OA.row.form
  have OA := Lib.hid OA
  clear AC R0
  go_wp2_with fail
  have bI := (Below.refl w1.heap.size w1).alloc (Nat.le_refl _) (.cells #[.int .i64 a1] 3)
  refine (PC.out _ w1.heap.size (by simp)).mono ?_
  rintro e w2 ⟨pv, rfl, hop, hb2⟩
  obtain ⟨pg, pc, hpv⟩ : ∃ pg pc, pv = .slice (some ⟨pg, 0, none⟩) 1 pc := by
    rcases hop.2 with ⟨_, h0⟩ | ⟨g, cap, cur, e, _⟩
    · cases h0
    · exact ⟨g, cap, e⟩
  subst hpv
  have q0 := owns_cellAt hop 0 _ rfl
  have q1 := owns_cellAt hop 1 _ rfl
  have q2 := owns_cellAt hop 2 _ rfl
  have q3 := owns_cellAt hop 3 _ rfl
  obtain ⟨z, hz⟩ : ∃ z, preZ a1 = z := ⟨_, rfl⟩
  have HZ : Hid (chkE z.1 z.2.1 z.2.2 = 0 ∧ z.2.1 < 2 ^ 128 ∧ z.1 = false) := Lib.hid (by rw [← hz]; exact ⟨preZ_ok a1, Nat.lt_of_lt_of_le (xZ_lt _) (by decide), rfl⟩)
  rw [hz] at q0 q1 q2 q3
  have bP := (thenBelow bI hb2).alloc (thenBelow bI hb2).size (.cells #[.bool z.1, .int .u64 (aH z.2.1), .int .u64 (aL z.2.1), .int .i64 z.2.2] 44)
  have OA2 : Hid (OwnA (w2.alloc (.cells #[.bool z.1, .int .u64 (aH z.2.1), .int .u64 (aL z.2.1), .int .i64 z.2.2] 44)) w.heap.size (.slice up as_.length uc) as_) := Lib.hid (ownsKeep OA.out bP)
  have PP := PreAt.new w2 z.1 (aH z.2.1) (aL z.2.1) z.2.2 44
  have hn2 := thenBelow hb1 bP
  clear hz hop PC hb1 hb2 bI bP OA
  go_wp2_with fail
  refine (P9.out _).mono ?_
  rintro e w' ⟨rfl, rfl⟩
  go_wp2_with fail
  refine (RC.out as_ _ (by omega) hwa.out _ OA2.out.row).mono ?_
  rintro e w3 ⟨rs, rfl, OR, hb3⟩
  have OY : Hid (OwnA w3 w.heap.size (.slice up as_.length uc) as_) := Lib.hid (ownsKeep OA2.out hb3)
  have PY := PP.keep hb3
  have hnY := thenBelow hn2 hb3
  have RR : Hid (OwnR w3 w.heap.size rs (runL as_)) := Lib.hid (ownsLow OR hn2.size)
  obtain ⟨rp, rc, rfl⟩ := (OwnR.row RR.out).form
  obtain ⟨L, hL⟩ : ∃ L, runL as_ = L := ⟨_, rfl⟩
  rw [hL] at RR II hls
  have HL := Lib.hid hL
  rw [hL]
  clear OR OA2 PP hn2 hb3 hL q0 q1 q2 q3
  go_upto_region 5 with fail
  have yl := PY.2.2.2.2
  have HBB : Hid (∀ X : World, Below w3.heap.size w3 X → X.cell? ⟨w2.heap.size, 0, none⟩ = some (.bool z.1) ∧ X.cell? ⟨w2.heap.size, 1, none⟩ = some (.int .u64 (aH z.2.1)) ∧ X.cell? ⟨w2.heap.size, 2, none⟩ = some (.int .u64 (aL z.2.1)) ∧ X.cell? ⟨w2.heap.size, 3, none⟩ = some (.int .i64 z.2.2)) := Lib.hid fun X h => by
    obtain ⟨y0, y1, y2, y3, _⟩ := PY.keep h
    exact ⟨y0, y1, y2, y3⟩
  have hby : as_.length * 72 ≤ 140737488355328 := by omega
  have h63 : as_.length ≤ maxLen := by unfold maxLen; omega
  have hby2 : (as_.length + 1) * 72 ≤ 140737488355328 := by omega
  have h632 : as_.length + 1 ≤ maxLen := by unfold maxLen; omega
  have RYA := Lib.hid (OwnA.row OY.out)
  obtain ⟨pt, hpt⟩ : ∃ pt : ActT, pt = ⟨1, z, 1 + t9, false, 0⟩ := ⟨_, rfl⟩
  have HPT : Hid (objA pt = .cells #[.int .i64 1, .bool z.1, .int .u64 (aH z.2.1), .int .u64 (aL z.2.1), .int .i64 z.2.2, .int .i64 (1 + t9), .bool false, .int .u64 0, .int .u64 0] 46) := Lib.hid (by rw [hpt]; simp [objA, aH0, aL0])
  have OACT : Hid (∀ W : World, (W.alloc (.cells #[.int .i64 1, .bool z.1, .int .u64 (aH z.2.1), .int .u64 (aL z.2.1), .int .i64 z.2.2, .int .i64 (1 + t9), .bool false, .int .u64 0, .int .u64 0] 46)).ownsRow W.heap.size 46 9 (.slice (some ⟨W.heap.size, 0, none⟩) 1 1) 1 (acs pt)) := Lib.hid fun W => by rw [← HPT.out]; exact own_act W pt
  obtain ⟨M1, hM1⟩ : ∃ M1, as_ ++ [pt] = M1 := ⟨_, rfl⟩
  have HM1 : Hid (as_ ++ [pt] = M1) := Lib.hid hM1
  have HML : Hid (M1.length ≤ 100) := Lib.hid (by rw [← hM1]; simp; omega)
  have HWM : Hid (WordsA M1) := Lib.hid (fun a ha => by
    rw [← hM1] at ha
    rcases List.mem_append.1 ha with ha | ha
    · exact hwa.out a ha
    · simp only [List.mem_singleton] at ha
      subst ha
      rw [hpt]; exact ⟨HZ.out.2.1, Nat.two_pow_pos 128⟩)
  obtain ⟨L2, hL2⟩ : ∃ L2, putL L (z, 1 + t9) = L2 := ⟨_, rfl⟩
  have HR2 : Hid (runL M1 = L2) := Lib.hid (by rw [← hM1, runL_snoc, HL.out, hpt, ← hL2]; rfl)
  have JJ : Hid (InvR L2) := Lib.hid (by rw [← hL2]; exact II.out.put _)
  have hze : putE L (z, 1 + t9) = 0 := put_small (by omega) (rt_mk HZ.out.1 (by omega) (by omega))
  have HEL := Lib.hid (else_best II.out hze HZ.out.1 false y)
  rw [hL2] at HEL
  have RC2 := Lib.hid (fun (W : World) (u : Value) (r : RowA W u M1) => RC.out M1 u HML.out HWM.out W r)
  rw [HR2.out] at RC2
  clear hM1 hpt hL2 hze HPT RC
  go_cut [14, 15] from 38 to 48 (fun s14 s15 wx => Hid (OwnR wx w.heap.size s14 L2) ∧ s15 = .bool true ∧ Below w3.heap.size w3 wx)
  case first =>
    go_region_held3 (fun w' => w'.cell? ⟨w2.heap.size, 0, none⟩ = some (.bool z.1) ∧ w'.cell? ⟨w2.heap.size, 1, none⟩ = some (.int .u64 (aH z.2.1)) ∧ w'.cell? ⟨w2.heap.size, 2, none⟩ = some (.int .u64 (aL z.2.1)) ∧ w'.cell? ⟨w2.heap.size, 3, none⟩ = some (.int .i64 z.2.2))
      (first
        | exact HBB.out _ ((Below.refl _ w3).drew)
        | exact HBB.out _ (((Below.refl _ w3).alloc (Nat.le_refl _) _).drew)
        | exact HBB.out _ B1
        | exact HBB.out _ (B1.alloc B1.size _)
        | exact HBB.out _ B2
        | exact HBB.out _ B3
        | fail)
      (first
        | (refine step_append_copy rfl _ _ _ rfl 46 i0 _ 72 Try.underlying22 hii hz0 hz1 hz2 rfl (by decide) acs_len acs_one rfl _ _ rfl (RYA.out.keep ((Below.refl _ w3).drew)) hby h63 ?_; intro v5 w5 ho5 hb5; have B1 : Below w3.heap.size w3 w5 := thenBelow ((Below.refl _ w3).drew) hb5; have O5 := Lib.hid ho5)
        | (refine step_append_copy rfl _ _ _ rfl 46 i0 _ 72 Try.underlying22 hii hz0 hz1 hz2 rfl (by decide) acs_len acs_one rfl _ _ rfl (RYA.out.keep (((Below.refl _ w3).alloc (Nat.le_refl _) _).drew)) hby h63 ?_; intro v5 w5 ho5 hb5; have B1 : Below w3.heap.size w3 w5 := thenBelow (((Below.refl _ w3).alloc (Nat.le_refl _) _).drew) hb5; have O5 : Hid (OwnA w5 w3.heap.size v5 as_) := Lib.hid (ownsLow ho5 (by simp [go_sem])); have OT := Lib.hid (ownsKeep (ownsKeep (OACT.out w3) ((Below.refl _ _).drew)) hb5))
        | (refine step_append_two rfl _ _ _ rfl w3.heap.size 46 i0 _ 9 72 Try.underlying22 hii hz0 hz1 hz2 rfl (by decide) _ _ _ rfl (O5.out.alloc _) _ w5.heap.size 1 (acs pt) rfl (OACT.out w5) (acs_one pt) hby2 h632 (by have := B1.size; simp; omega) ?_; intro v6 w6 ho6 hb6; have B2 : Below w3.heap.size w3 w6 := (B1.alloc B1.size _).trans hb6; have O6 : Hid (OwnA w6 w3.heap.size v6 M1) := Lib.hid (by rw [← HM1.out]; unfold OwnA; rw [List.length_append, rowOf_app]; exact ho6))
        | (refine step_append_two rfl _ _ _ rfl w3.heap.size 46 i0 _ 9 72 Try.underlying22 hii hz0 hz1 hz2 rfl (by decide) _ _ _ rfl O5.out _ w3.heap.size 1 (acs pt) rfl OT.out (acs_one pt) hby2 h632 B1.size ?_; intro v6 w6 ho6 hb6; have B2 : Below w3.heap.size w3 w6 := B1.trans hb6; have O6 : Hid (OwnA w6 w3.heap.size v6 M1) := Lib.hid (by rw [← HM1.out]; unfold OwnA; rw [List.length_append, rowOf_app]; exact ho6))
        | (go_at_call 14; refine (RC2.out _ _ O6.out.row).mono ?_; rintro e w7 ⟨u7, rfl, ho7, hb7⟩; have B3 := thenBelow B2 hb7; have O7 := Lib.hid ho7; have S6 := B2.size)
        | fail)
    all_goals
      go_wp2_with fail
      go_meet
      exact ⟨Lib.hid (ownsLow O7.out (Nat.le_trans hnY.size S6)), rfl, B3⟩
  case rest =>
    obtain ⟨O14, rfl, B14⟩ := hcut
    rename World => X1
    have RX : Hid (OwnR X1 w.heap.size (.slice rp L.length rc) L) := Lib.hid (ownsKeep RR.out B14)
    have PX := PY.keep B14
    have hnX := thenBelow hnY B14
    obtain ⟨rp2, rc2, rfl⟩ := (OwnR.row O14.out).form
    clear RR PY hnY B14 OY RYA OACT HBB hby h63 hby2 h632 RC2 HR2 HM1 HML HWM hii hz0 hz1 hz2
    go_wp2_with fail
    refine (NC.out _).mono ?_
    rintro e w4 ⟨rfl, hb4⟩
    have RX4 : Hid (OwnR w4 w.heap.size (.slice rp L.length rc) L) := Lib.hid (ownsKeep RX.out hb4)
    have R24 : Hid (OwnR w4 w.heap.size (.slice rp2 L2.length rc2) L2) := Lib.hid (ownsKeep O14.out hb4)
    have PX4 := PX.keep hb4
    have hn4 := thenBelow hnX hb4
    clear RX O14 PX hnX hb4 NC
    have bA := hn4.alloc hn4.size (.cells #[.bool false, .int .u64 (aH y), .int .u64 (aL y)] 41)
    have A0 := AddrAt.new w4 false (aH y) (aL y) 41
    have RY : Hid (OwnR (w4.alloc (.cells #[.bool false, .int .u64 (aH y), .int .u64 (aL y)] 41)) w.heap.size (.slice rp L.length rc) L) := Lib.hid (RX4.out.alloc _)
    have RY2 : Hid (OwnR (w4.alloc (.cells #[.bool false, .int .u64 (aH y), .int .u64 (aL y)] 41)) w.heap.size (.slice rp2 L2.length rc2) L2) := Lib.hid (R24.out.alloc _)
    have PY := PX4.alloc (.cells #[.bool false, .int .u64 (aH y), .int .u64 (aL y)] 41)
    have PH := Lib.hid (fun (W : World) => hasF_callsE (z, 1 + t9) y HZ.out.2.2 HZ.out.1 HY.out.1 W)
    obtain ⟨x0, x1, x2, x3, xl⟩ := PX4
    go_wp2_with fail
    refine (PH.out _).mono ?_
    rintro e w8 ⟨rfl, hb8⟩
    have RE : Hid (RowR w8 (.slice rp L.length rc) L) := Lib.hid (OwnR.row (ownsKeep RY.out hb8))
    have RE2 : Hid (OwnR w8 w.heap.size (.slice rp2 L2.length rc2) L2) := Lib.hid (ownsKeep RY2.out hb8)
    have PE := PY.keep hb8
    have AE := A0.keep hb8
    have hn8 := thenBelow bA hb8
    clear RX4 R24 RY RY2 PY A0 bA hb8 hn4 x0 x1 x2 x3 xl PH
    obtain ⟨ib, hib⟩ : ∃ x, mB false y (z, 1 + t9) = x := ⟨_, rfl⟩
    rw [hib] at HEL
    rw [hib]
    clear hib
    obtain ⟨lk1, lk2⟩ := look_inv II.out HY.out.1
    obtain ⟨lm1, lm2⟩ := look_inv JJ.out HY.out.1
    have LC1 := Lib.hid (fun (W : World) (u : Value) (r : RowR W u L) => LC.out L u (by omega) (inv_words II.out) W r)
    have LC2 := Lib.hid (fun (W : World) (u : Value) (r : RowR W u L2) => LC.out L2 u (by have := JJ.out.size; omega) (inv_words JJ.out) W r)
    rw [lk1, lk2] at LC1
    rw [lm1, lm2] at LC2
    have HQ : Hid ((bestA false y L2).1 = (bestA false y L2).1) := Lib.hid rfl
    obtain ⟨p1, hp1⟩ : ∃ x, (bestA false y L).1 = x := ⟨_, rfl⟩
    obtain ⟨p2, hp2⟩ : ∃ x, (bestA false y L).2 = x := ⟨_, rfl⟩
    obtain ⟨r1, hr1⟩ : ∃ x, (bestA false y L2).1 = x := ⟨_, rfl⟩
    obtain ⟨r2, hr2⟩ : ∃ x, (bestA false y L2).2 = x := ⟨_, rfl⟩
    rw [hp1, hp2] at LC1
    rw [hr1, hr2] at LC2
    have HE1 : Hid (ib = true → p2 ≤ z.2.2 → r1 = 1 + t9 ∧ r2 = z.2.2) := Lib.hid (fun a b => by
      have := HEL.out.1 a (by rw [hp2]; exact b)
      rw [← hr1, ← hr2, this]; exact ⟨rfl, rfl⟩)
    have HE2 : Hid ((ib = false ∨ ¬ p2 ≤ z.2.2) → r1 = p1 ∧ r2 = p2) := Lib.hid (fun a => by
      have := HEL.out.2 (a.imp id (fun h => by rw [hp2]; omega))
      rw [← hr1, ← hr2, this]; exact ⟨hp1, hp2⟩)
    have hby : L.length * 40 ≤ 140737488355328 := by omega
    have h63 : L.length ≤ maxLen := by unfold maxLen; omega
    have hl2 := JJ.out.size
    clear HEL lk1 lk2 lm1 lm2 HQ hp1 hp2 hr1 hr2 LC
    obtain ⟨a0, a1', a2', al⟩ := AE
    have HBB : Hid (∀ X : World, Below w8.heap.size w8 X → X.cell? ⟨w4.heap.size, 0, none⟩ = some (.bool false) ∧ X.cell? ⟨w4.heap.size, 1, none⟩ = some (.int .u64 (aH y)) ∧ X.cell? ⟨w4.heap.size, 2, none⟩ = some (.int .u64 (aL y))) := Lib.hid fun X h => ⟨(h.cell (p := ⟨w4.heap.size, 0, none⟩) al).trans a0, (h.cell (p := ⟨w4.heap.size, 1, none⟩) al).trans a1', (h.cell (p := ⟨w4.heap.size, 2, none⟩) al).trans a2'⟩
    go_upto_region 8 with fail
    go_cut [19, 20] from 57 to 63 (fun sa sb wx => ∃ b, sa = .pointer (some ⟨b, 0, none⟩) ∧ sb = .int .i64 0 ∧ AnsV wx b 0 p1 p2 ∧ Below w8.heap.size w8 wx)
    case first =>
      go_region_held3 (fun w' => w'.cell? ⟨w4.heap.size, 0, none⟩ = some (.bool false) ∧ w'.cell? ⟨w4.heap.size, 1, none⟩ = some (.int .u64 (aH y)) ∧ w'.cell? ⟨w4.heap.size, 2, none⟩ = some (.int .u64 (aL y)))
        (first
          | exact HBB.out _ ((Below.refl _ w8).drew)
          | exact HBB.out _ (((Below.refl _ w8).alloc (Nat.le_refl _) _).drew)
          | exact HBB.out _ B1
          | exact HBB.out _ (B1.alloc B1.size _)
          | exact HBB.out _ B2
          | exact HBB.out _ (B2.alloc B2.size _)
          | exact HBB.out _ (((B2.setCell (by first | exact Nat.le_refl _ | exact B1.size) _).setCell (by first | exact Nat.le_refl _ | exact B1.size) _).setCell (by first | exact Nat.le_refl _ | exact B1.size) _)
          | exact HBB.out _ ((((B2.alloc B2.size _).setCell (by exact B2.size) _).setCell (by exact B2.size) _).setCell (by exact B2.size) _)
          | fail)
        (first
          | (refine step_append_copy rfl _ _ _ rfl 50 j0 _ 40 Try.underlying27 jii jz0 jz1 jz2 rfl (by decide) rcs_len rcs_one rfl _ _ rfl (RE.out.keep ((Below.refl _ w8).drew)) hby h63 ?_; intro v5 w5 ho5 hb5; have B1 : Below w8.heap.size w8 w5 := thenBelow ((Below.refl _ w8).drew) hb5; have O5 := Lib.hid (OwnR.row ho5))
          | (refine step_append_copy rfl _ _ _ rfl 50 j0 _ 40 Try.underlying27 jii jz0 jz1 jz2 rfl (by decide) rcs_len rcs_one rfl _ _ rfl (RE.out.keep (((Below.refl _ w8).alloc (Nat.le_refl _) _).drew)) hby h63 ?_; intro v5 w5 ho5 hb5; have B1 : Below w8.heap.size w8 w5 := thenBelow (((Below.refl _ w8).alloc (Nat.le_refl _) _).drew) hb5; have VA := (((AnsV.new w8 0 0 0 52).drew).keep hb5 (by simp [go_sem])); have O5 := Lib.hid (OwnR.row ho5))
          | (go_at_call 20; have VA' := VA; refine (LC1.out _ _ O5.out).mono ?_; rintro e w6 ⟨rfl, hb6⟩; have B2 := thenBelow B1 hb6; have V6 := VA'.keep hb6 VA'.2.2.2.2; obtain ⟨v0, v1, v2, vf, vl⟩ := id V6)
          | (go_at_call 20; refine (LC1.out _ _ O5.out).mono ?_; rintro e w6 ⟨rfl, hb6⟩; have B2 := thenBelow B1 hb6)
          | (go_at_call 20; refine (LC1.out _ _ (O5.out.keep ((Below.refl _ _).alloc (Nat.le_refl _) _))).mono ?_; rintro e w6 ⟨rfl, hb6⟩; have V6 := (AnsV.new w5 0 0 0 52).keep hb6 (by simp [go_sem]); have B2 := thenBelow (B1.alloc B1.size _) hb6; obtain ⟨v0, v1, v2, vf, vl⟩ := id V6)
          | fail)
      all_goals
        go_wp2_with fail
        go_meet
        first
          | exact ⟨_, rfl, rfl, AnsV.new w6 0 p1 p2 52, B2.alloc B2.size _⟩
          | exact ⟨_, rfl, rfl, V6.store 0 p1 p2, ((B2.setCell (by first | exact Nat.le_refl _ | exact B1.size) _).setCell (by first | exact Nat.le_refl _ | exact B1.size) _).setCell (by first | exact Nat.le_refl _ | exact B1.size) _⟩
    case rest =>
      obtain ⟨bx, rfl, rfl, VX, BX⟩ := hcut
      rename World => X2
      have RF : Hid (RowR X2 (.slice rp2 L2.length rc2) L2) := Lib.hid (OwnR.row (ownsKeep RE2.out BX))
      have PF := PE.keep BX
      have AF := AddrAt.keep ⟨a0, a1', a2', al⟩ BX
      have hnF := thenBelow hn8 BX
      clear RE RE2 PE a0 a1' a2' BX hn8 hby h63 HBB al LC1
      have hby : L2.length * 40 ≤ 140737488355328 := by omega
      have h63 : L2.length ≤ maxLen := by unfold maxLen; omega
      obtain ⟨a0, a1', a2', al⟩ := AF
      have HBB : Hid (∀ X : World, Below X2.heap.size X2 X → X.cell? ⟨w4.heap.size, 0, none⟩ = some (.bool false) ∧ X.cell? ⟨w4.heap.size, 1, none⟩ = some (.int .u64 (aH y)) ∧ X.cell? ⟨w4.heap.size, 2, none⟩ = some (.int .u64 (aL y))) := Lib.hid fun X h => ⟨(h.cell (p := ⟨w4.heap.size, 0, none⟩) al).trans a0, (h.cell (p := ⟨w4.heap.size, 1, none⟩) al).trans a1', (h.cell (p := ⟨w4.heap.size, 2, none⟩) al).trans a2'⟩
      go_upto_region 9 with fail
      go_cut [21, 22] from 64 to 70 (fun sa sb wx => ∃ b, sa = .pointer (some ⟨b, 0, none⟩) ∧ sb = .int .i64 0 ∧ AnsV wx b 0 r1 r2 ∧ Below X2.heap.size X2 wx)
      case first =>
        go_region_held3 (fun w' => w'.cell? ⟨w4.heap.size, 0, none⟩ = some (.bool false) ∧ w'.cell? ⟨w4.heap.size, 1, none⟩ = some (.int .u64 (aH y)) ∧ w'.cell? ⟨w4.heap.size, 2, none⟩ = some (.int .u64 (aL y)))
          (first
            | exact HBB.out _ ((Below.refl _ X2).drew)
            | exact HBB.out _ (((Below.refl _ X2).alloc (Nat.le_refl _) _).drew)
            | exact HBB.out _ B1
            | exact HBB.out _ (B1.alloc B1.size _)
            | exact HBB.out _ B2
            | exact HBB.out _ (B2.alloc B2.size _)
            | exact HBB.out _ (((B2.setCell (by first | exact Nat.le_refl _ | exact B1.size) _).setCell (by first | exact Nat.le_refl _ | exact B1.size) _).setCell (by first | exact Nat.le_refl _ | exact B1.size) _)
            | exact HBB.out _ ((((B2.alloc B2.size _).setCell (by exact B2.size) _).setCell (by exact B2.size) _).setCell (by exact B2.size) _)
            | fail)
          (first
            | (refine step_append_copy rfl _ _ _ rfl 50 j0 _ 40 Try.underlying27 jii jz0 jz1 jz2 rfl (by decide) rcs_len rcs_one rfl _ _ rfl (RF.out.keep ((Below.refl _ X2).drew)) hby h63 ?_; intro v5 w5 ho5 hb5; have B1 : Below X2.heap.size X2 w5 := thenBelow ((Below.refl _ X2).drew) hb5; have O5 := Lib.hid (OwnR.row ho5))
            | (refine step_append_copy rfl _ _ _ rfl 50 j0 _ 40 Try.underlying27 jii jz0 jz1 jz2 rfl (by decide) rcs_len rcs_one rfl _ _ rfl (RF.out.keep (((Below.refl _ X2).alloc (Nat.le_refl _) _).drew)) hby h63 ?_; intro v5 w5 ho5 hb5; have B1 : Below X2.heap.size X2 w5 := thenBelow (((Below.refl _ X2).alloc (Nat.le_refl _) _).drew) hb5; have VA := (((AnsV.new X2 0 0 0 52).drew).keep hb5 (by simp [go_sem])); have O5 := Lib.hid (OwnR.row ho5))
            | (go_at_call 20; have VA' := VA; refine (LC2.out _ _ O5.out).mono ?_; rintro e w6 ⟨rfl, hb6⟩; have B2 := thenBelow B1 hb6; have V6 := VA'.keep hb6 VA'.2.2.2.2; obtain ⟨v0, v1, v2, vf, vl⟩ := id V6)
            | (go_at_call 20; refine (LC2.out _ _ O5.out).mono ?_; rintro e w6 ⟨rfl, hb6⟩; have B2 := thenBelow B1 hb6)
            | (go_at_call 20; refine (LC2.out _ _ (O5.out.keep ((Below.refl _ _).alloc (Nat.le_refl _) _))).mono ?_; rintro e w6 ⟨rfl, hb6⟩; have V6 := (AnsV.new w5 0 0 0 52).keep hb6 (by simp [go_sem]); have B2 := thenBelow (B1.alloc B1.size _) hb6; obtain ⟨v0, v1, v2, vf, vl⟩ := id V6)
            | fail)
        all_goals
          go_wp2_with fail
          go_meet
          first
            | exact ⟨_, rfl, rfl, AnsV.new w6 0 r1 r2 52, B2.alloc B2.size _⟩
            | exact ⟨_, rfl, rfl, V6.store 0 r1 r2, ((B2.setCell (by first | exact Nat.le_refl _ | exact B1.size) _).setCell (by first | exact Nat.le_refl _ | exact B1.size) _).setCell (by first | exact Nat.le_refl _ | exact B1.size) _⟩
      case rest =>
        obtain ⟨bz, rfl, rfl, VZ, BZ⟩ := hcut
        rename World => X3
        have VX3 := VX.keep BZ VX.2.2.2.2
        have PG := PF.keep BZ
        have hnG := thenBelow hnF BZ
        clear VX PF hnF BZ RF a0 a1' a2' al HBB LC2 hby h63
        obtain ⟨g0, g1, g2, g3, gl⟩ := PG
        obtain ⟨s0, s1, s2, sf, sl⟩ := VX3
        obtain ⟨t0, t1, t2, tf, tl⟩ := VZ
        clear sf tf
        cases hi : ib
        · obtain ⟨e1, e2⟩ := HE2.out (.inl hi)
          subst e1
          subst e2
          clear HE1 HE2
          go_wp2
          go_ret
          exact ⟨by simp, hnG⟩
        · by_cases hle : p2 ≤ z.2.2
          · obtain ⟨e1, e2⟩ := HE1.out hi hle
            subst e1
            subst e2
            clear HE1 HE2
            go_wp2
            go_ret
            exact ⟨by simp, hnG⟩
          · obtain ⟨e1, e2⟩ := HE2.out (.inr (by omega))
            subst e1
            subst e2
            clear HE1 HE2
            go_wp2
            go_ret
            exact ⟨by simp, hnG⟩
theorem TElse.own : ownKnob Try.prog.godebug = none := by kernel_rfl
set_option maxRecDepth 100000 in
theorem TElse.lifted (os : Os) (started : os.Started) (H : Type) (enc : TypeId × Value → H) :
    ReturnsInHanded {} Try.checked os 6 .any (Rows.tableElsewhereSpec.pre6 enc Try.prog Try.f6 Rows.tableElsewhereRow.domain false) (Rows.tableElsewhereSpec.post enc Try.prog Try.f6 false true false false) := by
  refine returnsInHanded_of_change (C := Try.checked) TElse.own started (by kernel_rfl) Try.func6
    (ChangeSpec.witness6 (enc := enc) (C := Try.checked) false ⟨#[], #[.slice none 0 0, .int .i64 0, .int .i64 0, .int .i64 0], []⟩ 8 (by kernel_rfl) (by kernel_rfl) (by kernel_rfl) (by kernel_rfl)) ?_
  intro W base args ds gs before hval0 hW hcnd _
  have hval : ∀ (j : Nat) t v, Try.f6.params[j]? = some t → args[j]? = some v → Value.okWide Try.prog W .any base t v := hval0
  have hW' := hW
  obtain ⟨p, q, hA0, hV, rfl, hfz, hnd⟩ := hW
  have hA : DataW.TrodAll enc Try.prog W 0 (fun _ => true) true Try.f6.params.toList args.toList ds p := hA0
  rw [Try.params6] at hA hval
  obtain ⟨v0, vs0, d0, ds0, p0, q0, hargs, rfl, rfl, rd0, r0⟩ := trodAll_cons hA
  obtain ⟨v1, vs1, d1, ds1, p1, q1, rfl, rfl, rfl, rd1, r1⟩ := trodAll_cons r0
  obtain ⟨v2, vs2, d2, ds2, p2, q2, rfl, rfl, rfl, rd2, r2⟩ := trodAll_cons r1
  obtain ⟨v3, vs3, d3, ds3, p3, q3, rfl, rfl, rfl, rd3, r3⟩ := trodAll_cons r2
  obtain ⟨rfl, rfl, rfl⟩ := trodAll_nil r3
  obtain rfl : args = #[v0, v1, v2, v3] := by cases args; simp_all
  obtain ⟨rfl, rfl⟩ := trodVars_none hV
  obtain ⟨l0, row0, wrd0, len0⟩ := openJobs (hval 0 35 v0 rfl rfl) rd0
  obtain ⟨a1, rfl, rfl, rfl, wa1⟩ := open_int Try.underlying3 (hval 1 3 v1 rfl rfl) rd1
  obtain ⟨a2, rfl, rfl, rfl, wa2⟩ := open_int Try.underlying3 (hval 2 3 v2 rfl rfl) rd2
  obtain ⟨a3, rfl, rfl, rfl, wa3⟩ := open_int Try.underlying3 (hval 3 3 v3 rfl rfl) rd3
  clear hA0 hval0
  refine (TElse.walk v0 l0 a1 a2 a3 wrd0 len0 (i64_of_wf wa1).1 (i64_of_wf wa1).2 (i64_of_wf wa2).1 (i64_of_wf wa2).2 (i64_of_wf wa3).1 (i64_of_wf wa3).2 W row0).mono fun e W' ⟨he, hb⟩ => ?_
  subst he
  exact ⟨_, rfl, postBelowR (pv := []) hW' hb (fun _ _ _ => trodAll_cons_mk (shut_bool Try.underlying4 _) trodAll_mk0) (trodAll_cons_mk (Below.trod laidOutR (by kernel_rfl) (of_decide_eq_true (by kernel_rfl)) rd0 hb (fun x hx => hW'.lt x (by simp [hx]))) (trodAll_cons_mk (Below.trod laidOutR (by kernel_rfl) (of_decide_eq_true (by kernel_rfl)) rd1 hb (fun x hx => by cases hx)) (trodAll_cons_mk (Below.trod laidOutR (by kernel_rfl) (of_decide_eq_true (by kernel_rfl)) rd2 hb (fun x hx => by cases hx)) (trodAll_cons_mk (Below.trod laidOutR (by kernel_rfl) (of_decide_eq_true (by kernel_rfl)) rd3 hb (fun x hx => by cases hx)) trodAll_mk0)))) (fun _ _ => rfl) rfl⟩

theorem TElse.holds : Rows.TableElsewhereSaid :=
  OpenClaim.holds_of_wide 6 Try.f6 rfl rfl rfl rfl rfl rfl rfl ⟨rfl, rfl, rfl, rfl, rfl⟩ rfl rfl rfl rfl rfl (by kernel_rfl) Try.func6 (by kernel_rfl)
    (of_decide_eq_true (by kernel_rfl)) (by unfold Func.isWrapper; first | (rw [if_pos (by decide +kernel)]; kernel_rfl) | (rw [if_neg (by decide +kernel)]; exact ⟨rfl, rfl⟩))
    (fun os started H enc _ => TElse.lifted os started H enc)
#print axioms TElse.holds
end Go.Proofs.Ytifhakoeinalaaa

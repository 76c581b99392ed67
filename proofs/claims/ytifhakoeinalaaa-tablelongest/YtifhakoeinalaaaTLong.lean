/-
  TableLongest: for every list of jobs and number the longest prefix decides where an address goes. No conditions.
-/
import Derived.Test.YtifhakoeinalaaaRows
import Derived.Test.YtifhakoeinalaaaActOwn
import Derived.Test.YtifhakoeinalaaaRowsJ
import Derived.Test.YtifhakoeinalaaaTLongM
import Derived.Deep.CutRange
import Derived.Deep.DeepCutAuto
import Derived.Deep.CutBlock
namespace Go.Proofs.Ytifhakoeinalaaa
open Go.ChangeShapes Go.WideShapes Go.ChangeAt Go.RowKit Go.Joins
set_option linter.unusedSimpArgs false
set_option linter.unusedVariables false
theorem ansCellsL {w : World} {g o : Nat} {x : Int × Int × Int} (h : RecAt w g o (xcs x)) : w.cell? ⟨g, o, none⟩ = some (.int .i64 x.1) ∧ w.cell? ⟨g, o + 1, none⟩ = some (.int .i64 x.2.1) ∧ w.cell? ⟨g, o + 2, none⟩ = some (.int .i64 x.2.2) := ⟨h 0 _ rfl, h 1 _ rfl, h 2 _ rfl⟩
theorem hasF_calls (r : RT) (y : Nat) (hf : r.1.1 = false) (hc : chkE r.1.1 r.1.2.1 r.1.2.2 = 0) (hy : y < 2 ^ wideN false) (w : World) :
    Calls Try.prog 16 #[.agg #[.bool r.1.1, .int .u64 (aH r.1.2.1), .int .u64 (aL r.1.2.1), .int .i64 r.1.2.2], .agg #[.bool false, .int .u64 (aH y), .int .u64 (aL y)]] w fun e w' => e = .returned (.tuple #[.bool (mB false y r), .int .i64 0]) ∧ Below w.heap.size w w' := by
  obtain ⟨⟨t, x, n⟩, h⟩ := r
  simp only at hf
  subst hf
  obtain ⟨hx, k, rfl, hk, hl⟩ := chk0 hc
  simp only at hx hk hl hc ⊢
  refine (has_ok false x y k _ _ (lt128 hx) (lt128 hy) hc hk hy rfl rfl w).mono ?_
  rintro e w' ⟨rfl, hb⟩
  exact ⟨by simp [mB], hb⟩
set_option maxHeartbeats 8000000 in
set_option maxRecDepth 100000 in
theorem TLong.walk (v0 : Value) (l0 : List JT) (a1 : Int) (wrd0 : WordsJ l0) (len0 : l0.length ≤ 9223372036854775807) (b0 : -9223372036854775808 ≤ a1) (b1 : a1 ≤ 9223372036854775807) (w : World) (row0 : RowJ w v0 l0) :
    Calls Try.prog 5 #[v0, .int .i64 a1] w fun e w' => e = .returned (.bool true) ∧ Below w.heap.size w w' := by
  obtain ⟨i0, hii, hz0, hz1, hz2⟩ := info_parts info_act
  have AC := Lib.hid (fun (W : World) (r : RowJ W v0 l0) => acts_calls l0 v0 60 (by decide) len0 wrd0 W r)
  have NC := Lib.hid (fun (W : World) => near_calls a1 b0 b1 W)
  have R0 := Lib.hid row0
  obtain ⟨p, c, rfl⟩ := row0.form
  have hal : (actsZ l0 60).length ≤ 60 := by unfold actsZ; rw [List.length_map, List.length_take]; omega
  have hwa : Hid (WordsA (actsZ l0 60)) := Lib.hid (actsZ_words l0 60)
  have HF : Hid (∀ r ∈ runL (actsZ l0 60), r.1.1 = false) := Lib.hid (acts_four l0 60)
  obtain ⟨as_, has⟩ : ∃ x, actsZ l0 60 = x := ⟨_, rfl⟩
  rw [has] at AC hal hwa HF
  obtain ⟨y, hy⟩ : ∃ y, nearZ a1 = y := ⟨_, rfl⟩
  have HY : Hid (y < 2 ^ wideN false ∧ y < 2 ^ 128) := Lib.hid (by have := nearZ_lt a1; rw [hy] at this; exact ⟨this, Nat.lt_of_lt_of_le this (by decide)⟩)
  rw [hy] at NC
  have RC := Lib.hid (fun (m : List ActT) (u : Value) (hm : m.length ≤ 100) (hw : WordsA m) (W : World) (r : RowA W u m) => routesOf_calls m u hm hw W r)
  have GC := Lib.hid (fun (m : List RT) (u : Value) (hm : m.length ≤ 1000) (hw : WordsR m) (W : World) (r : RowR W u m) => goesTo_calls m u false y hm hw HY.out.2 W r)
  have PL := Lib.hid (fun (m : List ActT) (u : Value) (hm : m.length ≤ 100) (hw : WordsA m) (W : World) (r : RowA W u m) => play_calls m u (by omega) hw W r)
  have II := Lib.hid (InvR.run as_)
  clear row0 has hy
  go_enter Try.func5, Try.ntmps5
  go_wp2_with fail
  refine (AC.out _ R0.out).mono ?_
  rintro e w1 ⟨u, rfl, OA, hb1⟩
  obtain ⟨up, uc, rfl⟩ := OA.row.form
  have OA := Lib.hid OA
  clear AC R0
  go_wp2_with fail
  refine (RC.out as_ _ (by omega) hwa.out _ OA.out.row).mono ?_
  rintro e w3 ⟨rs, rfl, OR, hb3⟩
  have OA3 : Hid (OwnA w3 w.heap.size (.slice up as_.length uc) as_) := Lib.hid (ownsKeep OA.out hb3)
  have hn3 := thenBelow hb1 hb3
  have RR : Hid (OwnR w3 w.heap.size rs (runL as_)) := Lib.hid (ownsLow OR hb1.size)
  obtain ⟨L, hL⟩ : ∃ L, runL as_ = L := ⟨_, rfl⟩
  rw [hL] at RR II HF
  have HL := Lib.hid hL
  have hLl : L.length ≤ 60 := II.out.size
  obtain ⟨rp, rc, rfl⟩ := (OwnR.row RR.out).form
  clear OR OA hb3 hb1 hL
  go_wp2_with fail
  refine (NC.out _).mono ?_
  rintro e w4 ⟨rfl, hb4⟩
  have OA4 : Hid (OwnA w4 w.heap.size (.slice up as_.length uc) as_) := Lib.hid (ownsKeep OA3.out hb4)
  have RR4 : Hid (OwnR w4 w.heap.size (.slice rp L.length rc) L) := Lib.hid (ownsKeep RR.out hb4)
  have hn4 := thenBelow hn3 hb4
  clear OA3 RR hn3 hb4 NC
  go_upto_region 4 with fail
  have bA := hn4.alloc hn4.size (.cells #[.bool false, .int .u64 (aH y), .int .u64 (aL y)] 41)
  have A0 := AddrAt.new w4 false (aH y) (aL y) 41
  have OY : Hid (OwnA (w4.alloc (.cells #[.bool false, .int .u64 (aH y), .int .u64 (aL y)] 41)) w.heap.size (.slice up as_.length uc) as_) := Lib.hid (OA4.out.alloc _)
  have RY : Hid (OwnR (w4.alloc (.cells #[.bool false, .int .u64 (aH y), .int .u64 (aL y)] 41)) w.heap.size (.slice rp L.length rc) L) := Lib.hid (RR4.out.alloc _)
  clear OA4 RR4 hn4
  revert bA A0 OY RY
  generalize w4.alloc (.cells #[.bool false, .int .u64 (aH y), .int .u64 (aL y)] 41) = Y
  intro bA A0 OY RY
  obtain ⟨a0, a1', a2, al⟩ := A0
  have HBB : Hid (∀ X : World, Below Y.heap.size Y X → X.cell? ⟨w4.heap.size, 0, none⟩ = some (.bool false) ∧ X.cell? ⟨w4.heap.size, 1, none⟩ = some (.int .u64 (aH y)) ∧ X.cell? ⟨w4.heap.size, 2, none⟩ = some (.int .u64 (aL y))) := Lib.hid fun X h => ⟨(h.cell (p := ⟨w4.heap.size, 0, none⟩) al).trans a0, (h.cell (p := ⟨w4.heap.size, 1, none⟩) al).trans a1', (h.cell (p := ⟨w4.heap.size, 2, none⟩) al).trans a2⟩
  have hby : as_.length * 72 ≤ 140737488355328 := by omega
  have h63 : as_.length ≤ maxLen := by unfold maxLen; omega
  have hby2 : (as_.length + 1) * 72 ≤ 140737488355328 := by omega
  have h632 : as_.length + 1 ≤ maxLen := by unfold maxLen; omega
  have RYA := Lib.hid (OwnA.row OY.out)
  obtain ⟨pt, hpt⟩ : ∃ pt : ActT, pt = ⟨3, (false, 0, 0), 0, false, y⟩ := ⟨_, rfl⟩
  have HPT : Hid (objA pt = .cells #[.int .i64 3, .bool false, .int .u64 0, .int .u64 0, .int .i64 0, .int .i64 0, .bool false, .int .u64 (aH y), .int .u64 (aL y)] 46) := Lib.hid (by rw [hpt]; simp [objA, aH0, aL0])
  have OACT : Hid (∀ W : World, (W.alloc (.cells #[.int .i64 3, .bool false, .int .u64 0, .int .u64 0, .int .i64 0, .int .i64 0, .bool false, .int .u64 (aH y), .int .u64 (aL y)] 46)).ownsRow W.heap.size 46 9 (.slice (some ⟨W.heap.size, 0, none⟩) 1 1) 1 (acs pt)) := Lib.hid fun W => by rw [← HPT.out]; exact own_act W pt
  obtain ⟨M, hM⟩ : ∃ M, as_ ++ [pt] = M := ⟨_, rfl⟩
  have hMl : M.length = as_.length + 1 := by rw [← hM]; simp
  have HM : Hid (M = as_ ++ [pt] ∧ pt = ⟨3, (false, 0, 0), 0, false, y⟩ ∧ M.length = as_.length + 1 ∧ rowOf acs M = rowOf acs as_ ++ acs pt) := Lib.hid ⟨hM.symm, hpt, hMl, by rw [← hM, rowOf_app]; simp [rowOf]⟩
  have HWM : Hid (WordsA M) := Lib.hid (fun a ha => by
    rw [← hM] at ha
    rcases List.mem_append.1 ha with ha | ha
    · exact hwa.out a ha
    · simp only [List.mem_singleton] at ha
      subst ha
      rw [hpt]; exact ⟨Nat.two_pow_pos 128, HY.out.2⟩)
  have EX : Hid (playE M = 0 ∧ playX M = runX [] M) := Lib.hid (by simp [playE, playX]; omega)
  have PLM := Lib.hid (fun (W : World) (u : Value) (r : RowA W u M) => PL.out M u (by omega) HWM.out W r)
  rw [EX.out.1, EX.out.2] at PLM
  have H1 : Hid (∀ u ∈ acs pt, u.oneCell' = true) := Lib.hid (acs_one pt)
  obtain ⟨X3, hX3⟩ : ∃ X3, acs pt = X3 := ⟨_, rfl⟩
  rw [hX3] at HM OACT H1
  clear hpt hX3 hM hMl EX PL HPT
  go_cut [9, 10] from 26 to 35 (fun s9 s10 wx => Hid (OwnX wx w.heap.size s9 (runX [] M)) ∧ s10 = .int .i64 0 ∧ Below Y.heap.size Y wx)
  case first =>
    go_region_held3 (fun w' => w'.cell? ⟨w4.heap.size, 0, none⟩ = some (.bool false) ∧ w'.cell? ⟨w4.heap.size, 1, none⟩ = some (.int .u64 (aH y)) ∧ w'.cell? ⟨w4.heap.size, 2, none⟩ = some (.int .u64 (aL y)))
      (first
        | exact HBB.out _ ((Below.refl _ Y).drew)
        | exact HBB.out _ (((Below.refl _ Y).alloc (Nat.le_refl _) _).drew)
        | exact HBB.out _ B1
        | exact HBB.out _ (B1.alloc B1.size _)
        | exact HBB.out _ B2
        | exact HBB.out _ B3
        | fail)
      (first
        | (refine step_append_copy rfl _ _ _ rfl 46 i0 _ 72 Try.underlying22 hii hz0 hz1 hz2 rfl (by decide) acs_len acs_one rfl _ _ rfl (RYA.out.keep ((Below.refl _ Y).drew)) hby h63 ?_; intro v5 w5 ho5 hb5; have B1 : Below Y.heap.size Y w5 := thenBelow ((Below.refl _ Y).drew) hb5; have O5 := Lib.hid ho5)
        | (refine step_append_copy rfl _ _ _ rfl 46 i0 _ 72 Try.underlying22 hii hz0 hz1 hz2 rfl (by decide) acs_len acs_one rfl _ _ rfl (RYA.out.keep (((Below.refl _ Y).alloc (Nat.le_refl _) _).drew)) hby h63 ?_; intro v5 w5 ho5 hb5; have B1 : Below Y.heap.size Y w5 := thenBelow (((Below.refl _ Y).alloc (Nat.le_refl _) _).drew) hb5; have O5 : Hid (OwnA w5 Y.heap.size v5 as_) := Lib.hid (ownsLow ho5 (by simp [go_sem])); have OT := Lib.hid (ownsKeep (ownsKeep (OACT.out Y) ((Below.refl _ _).drew)) hb5))
        | (refine step_append_two rfl _ _ _ rfl Y.heap.size 46 i0 _ 9 72 Try.underlying22 hii hz0 hz1 hz2 rfl (by decide) _ _ _ rfl (O5.out.alloc _) _ w5.heap.size 1 X3 rfl (OACT.out w5) H1.out hby2 h632 (by have := B1.size; simp; omega) ?_; intro v6 w6 ho6 hb6; have B2 : Below Y.heap.size Y w6 := (B1.alloc B1.size _).trans hb6; have O6 : Hid (OwnA w6 Y.heap.size v6 M) := Lib.hid (by unfold OwnA; rw [HM.out.2.2.1, HM.out.2.2.2]; exact ho6))
        | (refine step_append_two rfl _ _ _ rfl Y.heap.size 46 i0 _ 9 72 Try.underlying22 hii hz0 hz1 hz2 rfl (by decide) _ _ _ rfl O5.out _ Y.heap.size 1 X3 rfl OT.out H1.out hby2 h632 B1.size ?_; intro v6 w6 ho6 hb6; have B2 : Below Y.heap.size Y w6 := B1.trans hb6; have O6 : Hid (OwnA w6 Y.heap.size v6 M) := Lib.hid (by unfold OwnA; rw [HM.out.2.2.1, HM.out.2.2.2]; exact ho6))
        | (go_at_call 8; refine (PLM.out _ _ O6.out.row).mono ?_; rintro e w7 ⟨u7, rfl, ho7, hb7⟩; have B3 := thenBelow B2 hb7; have O7 := Lib.hid ho7; have S6 := B2.size)
        | fail)
    all_goals
      go_wp2_with fail
      go_meet
      exact ⟨Lib.hid (ownsLow O7.out (Nat.le_trans bA.size S6)), rfl, B3⟩
  case rest =>
    obtain ⟨OX, rfl, BX⟩ := hcut
    have RZ : Hid (OwnR wc w.heap.size (.slice rp L.length rc) L) := Lib.hid (ownsKeep RY.out BX)
    have AZ : AddrAt wc w4.heap.size false (aH y) (aL y) := AddrAt.keep ⟨a0, a1', a2, al⟩ BX
    have hnZ := thenBelow bA BX
    clear OY RY a0 a1' a2 bA BX RYA OACT H1 HBB PLM HWM hby h63 hby2 h632 hii hz0 hz1 hz2
    obtain ⟨XL, hXL⟩ : ∃ XL, runX [] M = XL := ⟨_, rfl⟩
    obtain ⟨n, hn⟩ : ∃ n, as_.length = n := ⟨_, rfl⟩
    have hXn : XL.length = n + 1 := by rw [← hXL, runX_len, HM.out.2.2.1, hn]
    rw [hXL] at OX
    obtain ⟨xp, xc, hxe, _, atX⟩ := (OwnX.row OX.out).at
    rw [hXn] at hxe
    subst hxe
    have ATX := Lib.hid atX
    obtain ⟨m, hm⟩ : ∃ m, L.length = m := ⟨_, rfl⟩
    have HLm := Lib.hid hm
    have HEND : Hid (∀ i0 : n < XL.length, XL[n] = (0, (bestM false y L).1, if (bestM false y L).2 < 0 then 0 else (bestM false y L).2)) := Lib.hid (fun i0 => by
      have := long_end hXL HM.out.1 HM.out.2.1 HY.out.1 hn i0
      rw [HL.out] at this; exact this)
    have HXn := Lib.hid hXn
    rw [hn] at hal
    rw [hn]
    rw [hm] at hLl
    rw [hm]
    rw [hm] at RZ
    clear atX hXL hXn hn hm OX HM hwa HL
    have RZ2 := Lib.hid RZ.out
    have hw1 : IntKind.i64.wrap ((n : Int) + 1) = (n : Int) + 1 := by rw [IntKind.wrap_i64]; omega
    have hw2 : ((n + 1 : Nat) : Int) = (n : Int) + 1 := by omega
    go_wp2_with fail
    have HV : Hid (ValR L) := Lib.hid II.out.val
    obtain ⟨rp', rc', hre, _, atR⟩ := (OwnR.row RZ2.out).at
    injection hre with h1 h2 h3
    subst h1
    clear h2 h3
    have ATR := Lib.hid atR
    clear atR
    go_loopw [11, 12, 13] (fun b h i wr => ∃ (k : Nat) (bb bh : Int), k ≤ m ∧ b = .int .i64 bb ∧ h = .int .i64 bh ∧ i = .int .i64 k ∧ Hid (bestM false y (L.take k) = (bh, bb)) ∧ Below wc.heap.size wc wr) (fun _ _ i _ => m - (intOf i).toNat)
    case atStart => exact ⟨0, -1, 0, by omega, rfl, rfl, rfl, Lib.hid rfl, Below.refl _ _⟩
    case round =>
      obtain ⟨k, bb, bh, hk, rfl, rfl, rfl, HB, BR⟩ := hrel
      by_cases hlt : k < m
      · have hkl : k < L.length := by rw [HLm.out]; exact hlt
        obtain ⟨g, o, rfl, hg, hrec⟩ := ATR.out k hkl
        have hrec' := hrec.keep BR hg
        have AZ' := AZ.keep BR
        have hgr := Nat.lt_of_lt_of_le hg BR.size
        have HT := Lib.hid (bestM_take (s := false) (y := y) hkl)
        have hc := HV.out _ (List.getElem_mem hkl)
        have hf := HF.out _ (List.getElem_mem hkl)
        generalize L[k] = r at hrec hrec' HT hc hf
        rw [HB.out] at HT
        have HBB : Hid (∀ X : World, Below wr.heap.size wr X → X.cell? ⟨g, o + k * 5, none⟩ = some (.bool r.1.1) ∧ X.cell? ⟨g, o + k * 5 + 1, none⟩ = some (.int .u64 (aH r.1.2.1)) ∧ X.cell? ⟨g, o + k * 5 + 2, none⟩ = some (.int .u64 (aL r.1.2.1)) ∧ X.cell? ⟨g, o + k * 5 + 3, none⟩ = some (.int .i64 r.1.2.2) ∧ X.cell? ⟨g, o + k * 5 + 4, none⟩ = some (.int .i64 r.2) ∧ X.cell? ⟨w4.heap.size, 0, none⟩ = some (.bool false) ∧ X.cell? ⟨w4.heap.size, 1, none⟩ = some (.int .u64 (aH y)) ∧ X.cell? ⟨w4.heap.size, 2, none⟩ = some (.int .u64 (aL y))) := Lib.hid fun X h => by
          obtain ⟨x0, x1, x2, x3, x4⟩ := routeCells (hrec'.keep h hgr)
          obtain ⟨y0, y1, y2, _⟩ := AZ'.keep h
          exact ⟨x0, x1, x2, x3, x4, y0, y1, y2⟩
        obtain ⟨x0, x1, x2, x3, x4, y0, y1, y2⟩ := HBB.out _ (Below.refl _ wr)
        have PH := Lib.hid (fun (W : World) => hasF_calls r y hf hc HY.out.1 W)
        have hlt' : (k : Int) < (m : Int) := by omega
        clear hrec hrec' AZ' hf hc
        go_wp2_with fail
        go_region_held3 (fun w' => w'.cell? ⟨g, o + k * 5, none⟩ = some (.bool r.1.1) ∧ w'.cell? ⟨g, o + k * 5 + 1, none⟩ = some (.int .u64 (aH r.1.2.1)) ∧ w'.cell? ⟨g, o + k * 5 + 2, none⟩ = some (.int .u64 (aL r.1.2.1)) ∧ w'.cell? ⟨g, o + k * 5 + 3, none⟩ = some (.int .i64 r.1.2.2) ∧ w'.cell? ⟨w4.heap.size, 0, none⟩ = some (.bool false) ∧ w'.cell? ⟨w4.heap.size, 1, none⟩ = some (.int .u64 (aH y)) ∧ w'.cell? ⟨w4.heap.size, 2, none⟩ = some (.int .u64 (aL y)))
          (first
            | (have q := HBB.out _ ((Below.refl _ wr).drew); exact ⟨q.1, q.2.1, q.2.2.1, q.2.2.2.1, q.2.2.2.2.2.1, q.2.2.2.2.2.2.1, q.2.2.2.2.2.2.2⟩)
            | (have q := HBB.out _ B8; exact ⟨q.1, q.2.1, q.2.2.1, q.2.2.2.1, q.2.2.2.2.2.1, q.2.2.2.2.2.2.1, q.2.2.2.2.2.2.2⟩)
            | fail)
          (first
            | (go_at_call 16; refine (PH.out _).mono ?_; rintro e w8 ⟨rfl, hb8⟩; have B8 : Below wr.heap.size wr w8 := thenBelow ((Below.refl _ wr).drew) hb8)
            | fail)
        obtain ⟨z0, z1, z2, z3, z4, _, _, _⟩ := HBB.out _ B8
        have hn8 := thenBelow BR B8
        by_cases hm : mB false y r = true
        · by_cases hgt : bb < r.1.2.2
          · have H2 := Lib.hid (show bestM false y (L.take (k + 1)) = (r.2, r.1.2.2) by rw [HT.out, hm]; simp [hgt])
            rw [hm]
            clear HT hm HBB PH HB
            go_wp2_with fail
            exact ⟨⟨k + 1, _, _, by omega, rfl, rfl, by go_num, H2, hn8⟩, by simp [intOf]; omega⟩
          · have H2 := Lib.hid (show bestM false y (L.take (k + 1)) = (bh, bb) by rw [HT.out, hm]; simp [hgt])
            rw [hm]
            clear HT hm HBB PH HB
            go_wp2_with fail
            exact ⟨⟨k + 1, _, _, by omega, rfl, rfl, by go_num, H2, hn8⟩, by simp [intOf]; omega⟩
        · have hm' : mB false y r = false := by simpa using hm
          have H2 := Lib.hid (show bestM false y (L.take (k + 1)) = (bh, bb) by rw [HT.out, hm']; simp)
          rw [hm']
          clear HT hm hm' HBB PH HB
          go_wp2_with fail
          exact ⟨⟨k + 1, _, _, by omega, rfl, rfl, by go_num, H2, hn8⟩, by simp [intOf]; omega⟩
      · obtain rfl : k = m := by omega
        have e1 : L.take k = L := by rw [← HLm.out]; exact List.take_length
        rw [e1] at HB
        have i0 : n < XL.length := by rw [HXn.out]; omega
        have HE := HEND.out i0
        rw [HB.out] at HE
        obtain ⟨gx, ox, rfl, hgx, rx⟩ := ATX.out n i0
        obtain ⟨q0, q1, q2⟩ := ansCellsL (rx.keep BR hgx)
        rw [HE] at q0 q1 q2
        simp only at q0 q1 q2
        have hn9 := thenBelow hnZ BR
        have RW := Lib.hid (OwnR.row (ownsKeep RZ.out BR))
        obtain ⟨a0, a1', a2, al⟩ := AZ.keep BR
        have hne : ¬ w4.heap.size = wr.heap.size := by omega
        have GG := Lib.hid (fun (u : Value) (W : World) (r : RowR W u L) => GC.out L u (by rw [HLm.out]; omega) (inv_words II.out) W r)
        have hge : goesZ L false y = bh := by rw [goes_inv II.out HY.out.1, HB.out]
        rw [hge] at GG
        have hw3 : IntKind.i64.wrap (((n + 1 : Nat) : Int) - 1) = (n : Int) := by rw [IntKind.wrap_i64]; omega
        have hw4 : IntKind.i64.wrap ((n : Int) + 1 - 1) = (n : Int) := by rw [IntKind.wrap_i64]; omega
        have hlx : (n : Int) < ((n + 1 : Nat) : Int) := by omega
        have hlx2 : (n : Int) < (n : Int) + 1 := by omega
        clear HE rx HEND ATX HB e1 hge GC
        by_cases hb : bb < 0
        · rw [if_pos hb] at q2
          have hmx : max bb 0 = 0 := by omega
          go_wp2_with fail
          refine (GG.out _ _ (RW.out.keep ((Below.refl _ wr).alloc (Nat.le_refl _) _))).mono ?_
          rintro e w9 ⟨rfl, hb9⟩
          go_wp2
          go_ret
          exact ⟨by simp, thenBelow (hn9.alloc hn9.size _) hb9⟩
        · rw [if_neg hb] at q2
          have hmx : max bb 0 = bb := by omega
          go_wp2_with fail
          refine (GG.out _ _ (RW.out.keep ((Below.refl _ wr).alloc (Nat.le_refl _) _))).mono ?_
          rintro e w9 ⟨rfl, hb9⟩
          go_wp2
          go_ret
          exact ⟨by simp, thenBelow (hn9.alloc hn9.size _) hb9⟩
theorem TLong.own : ownKnob Try.prog.godebug = none := by kernel_rfl
set_option maxRecDepth 100000 in
theorem TLong.lifted (os : Os) (started : os.Started) (H : Type) (enc : TypeId × Value → H) :
    ReturnsInHanded {} Try.checked os 5 .any (Rows.tableLongestSpec.pre6 enc Try.prog Try.f5 Rows.tableLongestRow.domain false) (Rows.tableLongestSpec.post enc Try.prog Try.f5 false true false false) := by
  refine returnsInHanded_of_change (C := Try.checked) TLong.own started (by kernel_rfl) Try.func5
    (ChangeSpec.witness6 (enc := enc) (C := Try.checked) false ⟨#[], #[.slice none 0 0, .int .i64 0], []⟩ 8 (by kernel_rfl) (by kernel_rfl) (by kernel_rfl) (by kernel_rfl)) ?_
  intro W base args ds gs before hval0 hW hcnd _
  have hval : ∀ (j : Nat) t v, Try.f5.params[j]? = some t → args[j]? = some v → Value.okWide Try.prog W .any base t v := hval0
  have hW' := hW
  obtain ⟨p, q, hA0, hV, rfl, hfz, hnd⟩ := hW
  have hA : DataW.TrodAll enc Try.prog W 0 (fun _ => true) true Try.f5.params.toList args.toList ds p := hA0
  rw [Try.params5] at hA hval
  obtain ⟨v0, vs0, d0, ds0, p0, q0, hargs, rfl, rfl, rd0, r0⟩ := trodAll_cons hA
  obtain ⟨v1, vs1, d1, ds1, p1, q1, rfl, rfl, rfl, rd1, r1⟩ := trodAll_cons r0
  obtain ⟨rfl, rfl, rfl⟩ := trodAll_nil r1
  obtain rfl : args = #[v0, v1] := by cases args; simp_all
  obtain ⟨rfl, rfl⟩ := trodVars_none hV
  obtain ⟨l0, row0, wrd0, len0⟩ := openJobs (hval 0 35 v0 rfl rfl) rd0
  obtain ⟨a1, rfl, rfl, rfl, wa1⟩ := open_int Try.underlying3 (hval 1 3 v1 rfl rfl) rd1
  clear hA0 hval0
  refine (TLong.walk v0 l0 a1 wrd0 len0 (i64_of_wf wa1).1 (i64_of_wf wa1).2 W row0).mono fun e W' ⟨he, hb⟩ => ?_
  subst he
  exact ⟨_, rfl, postBelowR (pv := []) hW' hb (fun _ _ _ => trodAll_cons_mk (shut_bool Try.underlying4 _) trodAll_mk0) (trodAll_cons_mk (Below.trod laidOutR (by kernel_rfl) (of_decide_eq_true (by kernel_rfl)) rd0 hb (fun x hx => hW'.lt x (by simp [hx]))) (trodAll_cons_mk (Below.trod laidOutR (by kernel_rfl) (of_decide_eq_true (by kernel_rfl)) rd1 hb (fun x hx => by cases hx)) trodAll_mk0)) (fun _ _ => rfl) rfl⟩

theorem TLong.holds : Rows.TableLongestSaid :=
  OpenClaim.holds_of_wide 5 Try.f5 rfl rfl rfl rfl rfl rfl rfl ⟨rfl, rfl, rfl, rfl, rfl⟩ rfl rfl rfl rfl rfl (by kernel_rfl) Try.func5 (by kernel_rfl)
    (of_decide_eq_true (by kernel_rfl)) (by unfold Func.isWrapper; first | (rw [if_pos (by decide +kernel)]; kernel_rfl) | (rw [if_neg (by decide +kernel)]; exact ⟨rfl, rfl⟩))
    (fun os started H enc _ => TLong.lifted os started H enc)
#print axioms TLong.holds
end Go.Proofs.Ytifhakoeinalaaa

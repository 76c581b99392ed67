/-
  The walk of the document's AddrText at an IPv6 address.
-/
import Derived.Test.YtojdlhiibffnfabDoorRefSix
namespace Go.Proofs.YtojdlhiibffnfabDoor
open Go.RowKit Go.Sort
set_option linter.unusedVariables false
set_option linter.unusedSimpArgs false

set_option maxHeartbeats 4000000 in
set_option maxRecDepth 100000 in
theorem refText_six (H L : Nat) (h1 : H < 18446744073709551616) (l1 : L < 18446744073709551616) (w : World) :
    Calls Tryd.prog 13 #[.agg #[.bool true, .int .u64 (H : Int), .int .u64 (L : Int)]] w fun e w' => e = .returned (.tuple #[.string ⟨(sixT (grpP H L)).toArray⟩, .int .i64 0]) ∧ Below w.heap.size w w' := by
  have hgl : (grpP H L).length = 8 := rfl
  have hg16 : ∀ u ∈ grpP H L, u < 65536 := by
    intro u hu
    simp only [grpP, List.mem_cons, List.mem_nil_iff, or_false] at hu
    omega
  have hpat := pat_same (H / 281474976710656 % 65536 == 0) (H / 4294967296 % 65536 == 0) (H / 65536 % 65536 == 0) (H % 65536 == 0) (L / 281474976710656 % 65536 == 0) (L / 4294967296 % 65536 == 0) (L / 65536 % 65536 == 0) (L % 65536 == 0)
  have hps := parts_six H L
  obtain ⟨gs, hgs⟩ : ∃ gs, grpP H L = gs := ⟨_, rfl⟩
  obtain ⟨zs, hzs⟩ : ∃ zs, zeroP gs = zs := ⟨_, rfl⟩
  have hpat2 : (if (lzTo zs 8).2.2 - (lzTo zs 8).2.1 < 2 then refTo zs 8 = (-1, 1) else refTo zs 8 = ((lzTo zs 8).2.1, (lzTo zs 8).2.2 - (lzTo zs 8).2.1)) := by rw [← hzs, ← hgs]; exact hpat
  rw [hgs] at hgl hg16 hps
  rw [hgs]
  have hzl : zs.length = 8 := by rw [← hzs]; simp [zeroP, hgl]
  have hzg : ∀ j, j < 8 → zs.getD j false = (gs.getD j 0 == 0) := fun j hj => by rw [← hzs]; exact getD_zero gs j (by omega)
  have hsix : sixT gs = if (lzTo zs 8).2.2 - (lzTo zs 8).2.1 < 2 then Lib.join (hexT gs) [58] else Lib.join (hexT (gs.take (lzTo zs 8).2.1.toNat)) [58] ++ [58, 58] ++ Lib.join (hexT (gs.drop (lzTo zs 8).2.2.toNat)) [58] := by rw [← hzs]; rfl
  have hlb := lzTo_bd zs 8
  obtain ⟨T, hT⟩ : ∃ T, sixT gs = T := ⟨_, rfl⟩
  rw [hT]
  rw [hT] at hsix
  have HP := Lib.hid hpat2; have HZL := Lib.hid hzl; have HZG := Lib.hid hzg; have HSX := Lib.hid hsix; have HGL := Lib.hid hgl; have HG16 := Lib.hid hg16; have HLB := Lib.hid hlb; have HPS := Lib.hid hps
  clear hpat hpat2 hzl hzg hsix hgl hg16 hT hzs hgs hlb hps
  go_enter Tryd.func13, Tryd.ntmps13
  go_wp2_with (first
    | (go_at_call 24; go_in))
  refine (partsOf_six H L (by omega) (by omega) (by omega) (by omega) _ rfl _).mono ?_
  rintro e w1 ⟨v, rfl, hown, hb⟩
  have bb := thenBelow (((Below.refl _ w).alloc (Nat.le_refl _) _).alloc (by simp) _) hb
  clear hb
  rw [HPS.out] at hown
  obtain ⟨g, cap, rfl, hg1, hg2⟩ := hown.form (by omega)
  have HC := Lib.hid (fun j hj => ints_cell hown HGL.out j hj)
  clear hown hg1 hg2 HPS
  go_wp2
  go_loop [8, 9, 41] (fun f b i => ∃ k : Nat, k ≤ 8 ∧ i = .int .i64 k ∧ f = .int .i64 (refTo zs k).1 ∧ b = .int .i64 (refTo zs k).2)
    (fun _ _ i => 8 - (intOf i).toNat)
  case atStart => exact ⟨0, by omega, rfl, rfl, rfl⟩
  case round =>
    obtain ⟨k, hk, rfl, rfl, rfl⟩ := hrel
    by_cases hlt : k < 8
    · have hbd := refTo_bd zs (by rw [HZL.out]; omega) k (by omega)
      have hstep : refTo zs (k + 1) = if (refTo zs k).2 < (runFrom zs k : Int) then ((k : Int), (runFrom zs k : Int)) else refTo zs k := rfl
      have hrl := runFrom_le zs k
      rw [HZL.out] at hrl
      have HIN := Lib.hid (runFrom_in zs k)
      have HEND := Lib.hid (runFrom_end zs k)
      obtain ⟨R, hR⟩ : ∃ R, runFrom zs k = R := ⟨_, rfl⟩
      obtain ⟨F, hF⟩ : ∃ F, (refTo zs k).1 = F := ⟨_, rfl⟩
      obtain ⟨B, hB⟩ : ∃ B, (refTo zs k).2 = B := ⟨_, rfl⟩
      have hFB : refTo zs k = (F, B) := by rw [← hF, ← hB]
      rw [hR] at hstep hrl HIN HEND
      rw [hFB] at hstep hbd
      rw [hF, hB]
      have HSTEP := Lib.hid hstep
      obtain ⟨c1, c2, c3, c4⟩ := hbd
      simp only at c1 c2 c3 c4
      clear hstep hR hF hB hFB
      go_wp2
      go_loop [11] (fun n => ∃ m : Nat, m ≤ R ∧ n = .int .i64 m) (fun n => 8 - (intOf n).toNat)
      case atStart => exact ⟨0, by omega, rfl⟩
      case round =>
        obtain ⟨m, hm, rfl⟩ := hrel
        by_cases hmr : m < R
        · have hz := HIN.out m hmr
          rw [HZG.out (k + m) (by omega)] at hz
          have hp0 : gs.getD (k + m) 0 = 0 := by simpa using hz
          have hcell : w1.cell? ⟨g, k + m, none⟩ = some (.int .i64 0) := by have h := HC.out (k + m) (by omega); rw [hp0] at h; exact h
          have hlt2 : (k : Int) + m < 8 := by omega
          clear hz hp0
          go_wp2
          go_round
          case rel => exact ⟨m + 1, by omega, by go_num⟩
          case measure => simp [intOf]; omega
        · obtain rfl : m = R := by omega
          by_cases he : k + m < 8
          · have hz := HEND.out
            rw [HZG.out (k + m) he] at hz
            obtain ⟨p, hp⟩ : ∃ p, gs.getD (k + m) 0 = p := ⟨_, rfl⟩
            have hcell : w1.cell? ⟨g, k + m, none⟩ = some (.int .i64 (p : Int)) := by have h := HC.out (k + m) he; rw [hp] at h; exact h
            have hpn : ((p : Int) == 0) = false := by rw [hp] at hz; simp at hz; simp; omega
            have hlt2 : (k : Int) + m < 8 := by omega
            clear hz hp
            by_cases hB : B < (m : Int)
            · have hfin : Hid (refTo zs (k + 1) = ((k : Int), (m : Int))) := by show _ = _; rw [HSTEP.out, if_pos hB]
              go_wp2
              go_round
              case rel => exact ⟨k + 1, by omega, by go_num, by rw [hfin.out], by rw [hfin.out]⟩
              case measure => simp [intOf]; omega
            · have hfin : Hid (refTo zs (k + 1) = (F, B)) := by show _ = _; rw [HSTEP.out, if_neg hB]
              go_wp2
              go_round
              case rel => exact ⟨k + 1, by omega, by go_num, by rw [hfin.out], by rw [hfin.out]⟩
              case measure => simp [intOf]; omega
          · have hge : ¬ (k : Int) + m < 8 := by omega
            have hgeb : decide ((k : Int) + m < 8) = false := decide_eq_false hge
            by_cases hB : B < (m : Int)
            · have hfin : Hid (refTo zs (k + 1) = ((k : Int), (m : Int))) := by show _ = _; rw [HSTEP.out, if_pos hB]
              go_wp2
              go_round
              case rel => exact ⟨k + 1, by omega, by go_num, by rw [hfin.out], by rw [hfin.out]⟩
              case measure => simp [intOf]; omega
            · have hfin : Hid (refTo zs (k + 1) = (F, B)) := by show _ = _; rw [HSTEP.out, if_neg hB]
              go_wp2
              go_round
              case rel => exact ⟨k + 1, by omega, by go_num, by rw [hfin.out], by rw [hfin.out]⟩
              case measure => simp [intOf]; omega
    · obtain rfl : k = 8 := by omega
      have hhl : (hexT gs).length = 8 := by simp [hexT, HGL.out]
      have HHL := Lib.hid hhl
      clear hhl
      by_cases hpt : (lzTo zs 8).2.2 - (lzTo zs 8).2.1 < 2
      · have hp1 := HP.out
        rw [if_pos hpt] at hp1
        have hT := HSX.out
        rw [if_pos hpt] at hT
        have HTX := Lib.hid hT
        have e1 : (refTo zs 8).1 = -1 := by rw [hp1]
        have e2 : (refTo zs 8).2 = 1 := by rw [hp1]
        rw [e1, e2]
        clear hpt hp1 hT e1 e2 HP HSX HLB
        go_wp2
        go_loop [4, 12] (fun o i => ∃ k : Nat, k ≤ 8 ∧ i = .int .i64 k ∧ o = .string ⟨(Lib.join ((hexT gs).take k) [58]).toArray⟩) (fun _ i => 8 - (intOf i).toNat)
        case atStart => exact ⟨0, by omega, rfl, rfl⟩
        case round =>
          obtain ⟨k, hk, rfl, rfl⟩ := hrel
          have hkm : ((k : Int) == -1) = false := by simp <;> omega
          by_cases hlt : k < 8
          · have hcell := HC.out k hlt
            have hkg : k < gs.length := by rw [HGL.out]; exact hlt
            have hkl : k < (hexT gs).length := by rw [HHL.out]; exact hlt
            obtain ⟨p, hp⟩ : ∃ p, gs.getD k 0 = p := ⟨_, rfl⟩
            have hp16 : p < 65536 := by
              rw [← hp, List.getD_eq_getElem?_getD, List.getElem?_eq_getElem hkg]; exact HG16.out _ (List.getElem_mem hkg)
            have ht := hexT_get gs k hkg hkl
            rw [hp] at hcell ht
            obtain ⟨t1, htt⟩ : ∃ t1, numText 16 4 p = t1 := ⟨_, rfl⟩
            have htl := numText_len 16 4 p
            have c := numberText_calls 16 (.inr rfl) 4 p (by omega) (by omega) (by omega) (by omega)
            rw [htt] at c htl ht
            have C := Lib.hid c
            have HTT := Lib.hid ht
            clear c htt ht hp
            have hsucc : (hexT gs).take (k + 1) = (hexT gs).take k ++ [t1] := by rw [List.take_succ_eq_append_getElem hkl]; exact congrArg (fun x => (hexT gs).take k ++ [x]) HTT.out
            have HSU := Lib.hid hsucc
            clear hsucc
            by_cases h0 : k = 0
            · subst h0
              obtain ⟨A, hA⟩ : ∃ A, Lib.join ((hexT gs).take 0) [58] = A := ⟨_, rfl⟩
              rw [hA]
              have hlen : A.length ≤ 100 := by rw [← hA]; simp [Lib.join_nil]
              have ha2 : ∀ W, (Op.stringOp .add ⟨A.toArray⟩ ⟨t1.toArray⟩).run Tryd.prog W = .ok (.string ⟨(A ++ t1).toArray⟩) W := fun W => run_string_add_lists W A t1 (by omega) (by omega)
              obtain ⟨D, hD⟩ : ∃ D, A ++ t1 = D := ⟨_, rfl⟩
              rw [hD] at ha2
              have hfin : Hid (Lib.join ((hexT gs).take (0 + 1)) [58] = D) := by
                show _ = _
                rw [HSU.out, show (hexT gs).take 0 = [] from rfl, List.nil_append, Lib.join_one, ← hD, ← hA]; rfl
              clear hA hD hlen
              go_wp2_with (go_at_call 26; refine (C.out _).mono ?_; rintro e w2 ⟨rfl, rfl⟩)
              go_round
              case rel => exact ⟨0 + 1, by omega, by go_num, by rw [hfin.out]⟩
              case measure => simp [intOf]
            · have hkp : 0 < (k : Int) := by omega
              have hkn : ((k : Int) != 0) = true := by simp; omega
              have hne : (hexT gs).take k ≠ [] := fun h => by have := congrArg List.length h; rw [List.length_take, HHL.out] at this; simp at this; omega
              obtain ⟨A, hA⟩ : ∃ A, Lib.join ((hexT gs).take k) [58] = A := ⟨_, rfl⟩
              rw [hA]
              have hlen : A.length ≤ 100 := by rw [← hA]; have := join_take_len (hexT gs) [58] 4 k (hexT_len gs); rw [HHL.out] at this; simp at this; omega
              have ha1 : ∀ W, (Op.stringOp .add ⟨A.toArray⟩ ⟨#[58]⟩).run Tryd.prog W = .ok (.string ⟨(A ++ [58]).toArray⟩) W := fun W => run_string_add_lists W A [58] (by omega) (by simp)
              have ha2 : ∀ W, (Op.stringOp .add ⟨(A ++ [58]).toArray⟩ ⟨t1.toArray⟩).run Tryd.prog W = .ok (.string ⟨(A ++ [58] ++ t1).toArray⟩) W := fun W => run_string_add_lists W (A ++ [58]) t1 (by simp; omega) (by omega)
              obtain ⟨AC, hAC⟩ : ∃ AC, A ++ [58] = AC := ⟨_, rfl⟩
              obtain ⟨D, hD⟩ : ∃ D, AC ++ t1 = D := ⟨_, rfl⟩
              rw [hAC] at ha1 ha2
              rw [hD] at ha2
              have hfin : Hid (Lib.join ((hexT gs).take (k + 1)) [58] = D) := by
                show _ = _
                rw [HSU.out, join_snoc _ _ _ hne]
                rw [hA, hAC, hD]
              clear hA hAC hD hlen
              go_wp2_with (go_at_call 26; refine (C.out _).mono ?_; rintro e w2 ⟨rfl, rfl⟩)
              go_round
              case rel => exact ⟨k + 1, by omega, by go_num, by rw [hfin.out]⟩
              case measure => simp [intOf]; omega
          · obtain rfl : k = 8 := by omega
            have hfin : Hid (Lib.join ((hexT gs).take 8) [58] = T) := by show _ = _; rw [HTX.out, show (hexT gs).take 8 = hexT gs from List.take_of_length_le (by rw [HHL.out]; omega)]
            go_wp2
            go_ret2
            exact ⟨by rw [← hfin.out]; rfl, bb⟩
      · have hp1 := HP.out
        rw [if_neg hpt] at hp1
        have hT := HSX.out
        rw [if_neg hpt] at hT
        obtain ⟨b1, b2, b3, b4, b5⟩ := HLB.out
        obtain ⟨f, hf⟩ := Int.eq_ofNat_of_zero_le b3
        obtain ⟨t, htn⟩ := Int.eq_ofNat_of_zero_le (Int.le_trans b3 b4)
        rw [hf, htn] at hp1 hT hpt
        rw [htn] at b5
        simp only [Int.toNat_natCast] at hT
        obtain ⟨n, rfl⟩ : ∃ n, t = f + n := ⟨t - f, by omega⟩
        have e1 : (refTo zs 8).1 = (f : Int) := by rw [hp1]
        have e2 : (refTo zs 8).2 = (n : Int) := by rw [hp1]; simp only; omega
        rw [e1, e2]
        have hn2 : 2 ≤ n := by omega
        have ht8 : f + n ≤ 8 := by omega
        have HTX := Lib.hid hT
        clear hpt hp1 hT e1 e2 HP HSX HLB b1 b2 b3 b4 b5 hf htn
        go_wp2
        go_loop [4, 12] (fun o i => ∃ k : Nat, k ≤ 8 ∧ (k ≤ f ∨ f + n ≤ k) ∧ i = .int .i64 k ∧ o = .string ⟨(outB gs f (f + n) k).toArray⟩) (fun _ i => 8 - (intOf i).toNat)
        case atStart => exact ⟨0, by omega, by omega, rfl, by rw [outB_le _ _ _ _ (by omega)]; rfl⟩
        case round =>
          obtain ⟨k, hk, hside, rfl, rfl⟩ := hrel
          have HSIDE := Lib.hid hside
          clear hside
          by_cases hlt : k < 8
          · by_cases hkf : k = f
            · subst hkf
              obtain ⟨A, hA⟩ : ∃ A, outB gs k (k + n) k = A := ⟨_, rfl⟩
              rw [hA]
              have hlen : A.length ≤ 100 := by rw [← hA]; exact outB_len gs k (k + n) _ HHL.out
              have ha1 : ∀ W, (Op.stringOp .add ⟨A.toArray⟩ ⟨#[58, 58]⟩).run Tryd.prog W = .ok (.string ⟨(A ++ [58, 58]).toArray⟩) W := fun W => run_string_add_lists W A [58, 58] (by omega) (by simp)
              obtain ⟨D, hD⟩ : ∃ D, A ++ [58, 58] = D := ⟨_, rfl⟩
              rw [hD] at ha1
              have hfin : Hid (outB gs k (k + n) (k + n) = D) := by
                show _ = _
                rw [← hD, ← hA, outB_gt gs k (k + n) (k + n) (by omega), outB_le gs k (k + n) k (by omega), List.drop_of_length_le (by rw [List.length_take]; omega), Lib.join_nil, List.append_nil]
              clear hA hD hlen
              go_wp2
              go_round
              case rel => exact ⟨k + n, by omega, by omega, by go_num, by rw [hfin.out]⟩
              case measure => simp [intOf]; omega
            · have hkfb : ((k : Int) == (f : Int)) = false := by simp; omega
              have hcell := HC.out k hlt
              have hkg : k < gs.length := by rw [HGL.out]; exact hlt
              have hkl : k < (hexT gs).length := by rw [HHL.out]; exact hlt
              obtain ⟨p, hp⟩ : ∃ p, gs.getD k 0 = p := ⟨_, rfl⟩
              have hp16 : p < 65536 := by
                rw [← hp, List.getD_eq_getElem?_getD, List.getElem?_eq_getElem hkg]; exact HG16.out _ (List.getElem_mem hkg)
              have ht := hexT_get gs k hkg hkl
              rw [hp] at hcell ht
              obtain ⟨t1, htt⟩ : ∃ t1, numText 16 4 p = t1 := ⟨_, rfl⟩
              have htl := numText_len 16 4 p
              have c := numberText_calls 16 (.inr rfl) 4 p (by omega) (by omega) (by omega) (by omega)
              rw [htt] at c htl ht
              have C := Lib.hid c
              have HTT := Lib.hid ht
              clear c htt ht hp
              have hsucc : (hexT gs).take (k + 1) = (hexT gs).take k ++ [t1] := by rw [List.take_succ_eq_append_getElem hkl]; exact congrArg (fun x => (hexT gs).take k ++ [x]) HTT.out
              have HSU := Lib.hid hsucc
              clear hsucc
              by_cases hlow : k < f
              · by_cases h0 : k = 0
                · subst h0
                  obtain ⟨A, hA⟩ : ∃ A, outB gs f (f + n) 0 = A := ⟨_, rfl⟩
                  rw [hA]
                  have hlen : A.length ≤ 100 := by rw [← hA]; exact outB_len gs f (f + n) _ HHL.out
                  have ha2 : ∀ W, (Op.stringOp .add ⟨A.toArray⟩ ⟨t1.toArray⟩).run Tryd.prog W = .ok (.string ⟨(A ++ t1).toArray⟩) W := fun W => run_string_add_lists W A t1 (by omega) (by omega)
                  obtain ⟨D, hD⟩ : ∃ D, A ++ t1 = D := ⟨_, rfl⟩
                  rw [hD] at ha2
                  have hfin : Hid (outB gs f (f + n) (0 + 1) = D) := by
                    show _ = _
                    rw [← hD, ← hA, outB_le gs f (f + n) (0 + 1) (by omega), HSU.out, outB_le gs f (f + n) 0 (by omega), show (hexT gs).take 0 = [] from rfl, List.nil_append, Lib.join_one]; rfl
                  clear hA hD hlen
                  go_wp2_with (go_at_call 26; refine (C.out _).mono ?_; rintro e w2 ⟨rfl, rfl⟩)
                  go_round
                  case rel => exact ⟨0 + 1, by omega, by omega, by go_num, by rw [hfin.out]⟩
                  case measure => simp [intOf]
                · have hkp : 0 < (k : Int) := by omega
                  have hkn : ((k : Int) != (f : Int) + n) = true := by simp; omega
                  have hne : (hexT gs).take k ≠ [] := fun h => by have := congrArg List.length h; rw [List.length_take, HHL.out] at this; simp at this; omega
                  obtain ⟨A, hA⟩ : ∃ A, outB gs f (f + n) k = A := ⟨_, rfl⟩
                  rw [hA]
                  have hlen : A.length ≤ 100 := by rw [← hA]; exact outB_len gs f (f + n) _ HHL.out
                  have ha1 : ∀ W, (Op.stringOp .add ⟨A.toArray⟩ ⟨#[58]⟩).run Tryd.prog W = .ok (.string ⟨(A ++ [58]).toArray⟩) W := fun W => run_string_add_lists W A [58] (by omega) (by simp)
                  have ha2 : ∀ W, (Op.stringOp .add ⟨(A ++ [58]).toArray⟩ ⟨t1.toArray⟩).run Tryd.prog W = .ok (.string ⟨(A ++ [58] ++ t1).toArray⟩) W := fun W => run_string_add_lists W (A ++ [58]) t1 (by simp; omega) (by omega)
                  obtain ⟨AC, hAC⟩ : ∃ AC, A ++ [58] = AC := ⟨_, rfl⟩
                  obtain ⟨D, hD⟩ : ∃ D, AC ++ t1 = D := ⟨_, rfl⟩
                  rw [hAC] at ha1 ha2
                  rw [hD] at ha2
                  have hfin : Hid (outB gs f (f + n) (k + 1) = D) := by
                    show _ = _
                    rw [← hD, ← hAC, ← hA, outB_le gs f (f + n) (k + 1) (by omega), HSU.out, join_snoc _ _ _ hne, outB_le gs f (f + n) k (by omega)]
                  clear hA hAC hD hlen
                  go_wp2_with (go_at_call 26; refine (C.out _).mono ?_; rintro e w2 ⟨rfl, rfl⟩)
                  go_round
                  case rel => exact ⟨k + 1, by omega, by omega, by go_num, by rw [hfin.out]⟩
                  case measure => simp [intOf]; omega
              · have hkt : f + n ≤ k := by have := HSIDE.out; omega
                have hkp : 0 < (k : Int) := by omega
                have hf0 : ¬ (f : Int) < 0 := by omega
                have hdr : ((hexT gs).take (k + 1)).drop (f + n) = ((hexT gs).take k).drop (f + n) ++ [t1] := by rw [HSU.out, List.drop_append_of_le_length (by rw [List.length_take, HHL.out]; omega)]
                have HDR := Lib.hid hdr
                clear hdr
                by_cases hkt2 : k = f + n
                · have hkn : ((k : Int) != (f : Int) + n) = false := by simp; omega
                  have hd0 : ((hexT gs).take k).drop (f + n) = [] := List.drop_of_length_le (by rw [List.length_take]; omega)
                  have HD0 := Lib.hid hd0
                  have HK := Lib.hid hkt2
                  clear hd0 hkt2
                  obtain ⟨A, hA⟩ : ∃ A, outB gs f (f + n) k = A := ⟨_, rfl⟩
                  rw [hA]
                  have hlen : A.length ≤ 100 := by rw [← hA]; exact outB_len gs f (f + n) _ HHL.out
                  have ha2 : ∀ W, (Op.stringOp .add ⟨A.toArray⟩ ⟨t1.toArray⟩).run Tryd.prog W = .ok (.string ⟨(A ++ t1).toArray⟩) W := fun W => run_string_add_lists W A t1 (by omega) (by omega)
                  obtain ⟨D, hD⟩ : ∃ D, A ++ t1 = D := ⟨_, rfl⟩
                  rw [hD] at ha2
                  have hfin : Hid (outB gs f (f + n) (k + 1) = D) := by
                    show _ = _
                    rw [← hD, ← hA, outB_gt gs f (f + n) (k + 1) (by omega), HDR.out, outB_gt gs f (f + n) k (by omega), HD0.out, List.nil_append, Lib.join_one, Lib.join_nil, List.append_nil]
                  clear hA hD hlen
                  go_wp2_with (go_at_call 26; refine (C.out _).mono ?_; rintro e w2 ⟨rfl, rfl⟩)
                  go_round
                  case rel => exact ⟨k + 1, by omega, by omega, by go_num, by rw [hfin.out]⟩
                  case measure => simp [intOf]; omega
                · have hkn : ((k : Int) != (f : Int) + n) = true := by simp; omega
                  have hne : ((hexT gs).take k).drop (f + n) ≠ [] := fun h => by have := congrArg List.length h; rw [List.length_drop, List.length_take, HHL.out] at this; simp at this; omega
                  obtain ⟨A, hA⟩ : ∃ A, outB gs f (f + n) k = A := ⟨_, rfl⟩
                  rw [hA]
                  have hlen : A.length ≤ 100 := by rw [← hA]; exact outB_len gs f (f + n) _ HHL.out
                  have ha1 : ∀ W, (Op.stringOp .add ⟨A.toArray⟩ ⟨#[58]⟩).run Tryd.prog W = .ok (.string ⟨(A ++ [58]).toArray⟩) W := fun W => run_string_add_lists W A [58] (by omega) (by simp)
                  have ha2 : ∀ W, (Op.stringOp .add ⟨(A ++ [58]).toArray⟩ ⟨t1.toArray⟩).run Tryd.prog W = .ok (.string ⟨(A ++ [58] ++ t1).toArray⟩) W := fun W => run_string_add_lists W (A ++ [58]) t1 (by simp; omega) (by omega)
                  obtain ⟨AC, hAC⟩ : ∃ AC, A ++ [58] = AC := ⟨_, rfl⟩
                  obtain ⟨D, hD⟩ : ∃ D, AC ++ t1 = D := ⟨_, rfl⟩
                  rw [hAC] at ha1 ha2
                  rw [hD] at ha2
                  have hfin : Hid (outB gs f (f + n) (k + 1) = D) := by
                    show _ = _
                    rw [← hD, ← hAC, ← hA, outB_gt gs f (f + n) (k + 1) (by omega), HDR.out, join_snoc _ _ _ hne, outB_gt gs f (f + n) k (by omega)]; simp only [List.append_assoc]
                  clear hA hAC hD hlen
                  go_wp2_with (go_at_call 26; refine (C.out _).mono ?_; rintro e w2 ⟨rfl, rfl⟩)
                  go_round
                  case rel => exact ⟨k + 1, by omega, by omega, by go_num, by rw [hfin.out]⟩
                  case measure => simp [intOf]; omega
          · obtain rfl : k = 8 := by omega
            have hfin : Hid (outB gs f (f + n) 8 = T) := by
              show _ = _
              rw [HTX.out, outB_gt gs f (f + n) 8 (by omega), show (hexT gs).take 8 = hexT gs from List.take_of_length_le (by rw [HHL.out]; omega)]
              simp only [hexT, List.map_take, List.map_drop]
            go_wp2
            go_ret2
            exact ⟨by rw [← hfin.out]; rfl, bb⟩
end Go.Proofs.YtojdlhiibffnfabDoor

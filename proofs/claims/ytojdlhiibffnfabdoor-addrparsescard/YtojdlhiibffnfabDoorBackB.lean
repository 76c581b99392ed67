/-
  The text of an address is read back as that address. Plain facts.
-/
import Derived.Test.YtojdlhiibffnfabDoorBackA
namespace Go.Proofs.YtojdlhiibffnfabDoor
open Go.RowKit
set_option linter.unusedVariables false
set_option linter.unusedSimpArgs false

theorem fourP_is (L : Nat) : fourP L = [L / 16777216 % 256, L / 65536 % 256, L / 256 % 256, L / 1 % 256] := rfl
theorem back_four (L : Nat) (h : L < 4294967296) : readOf (Lib.join (fourT L) [46]) = some (false, 0, L) := by
  have hf := four_facts L
  unfold readOf
  rw [if_neg (by rw [indexByte_out 58 _ hf.1]; decide)]
  have h1 : numsOf 10 255 46 (Lib.join (fourT L) [46]) = some (fourP L) := by
    unfold numsOf
    rw [split_join 46 (fourT L) (by simp [fourT, fourP]) (fourT_count L 46 (.inl rfl))]
    refine nums_map 10 255 2 (by omega) (by omega) (fourP L) (fun n hn => ?_)
    rw [fourP_is] at hn
    simp only [List.mem_cons, List.mem_nil_iff, or_false] at hn
    have h3 : (10 : Nat) ^ (2 + 1) = 1000 := by decide
    rw [h3]
    omega
  rw [h1, fourP_is]
  show some (false, 0, _) = _
  congr 3
  omega

theorem grps_join (l : List Nat) (h : ∀ x ∈ l, x < 65536) : grpsOf (Lib.join (hexT l) [58]) = some l := by
  unfold grpsOf
  by_cases hl : l = []
  · subst hl
    rw [if_pos (by simp [hexT, Lib.join_nil])]
  · have hne : hexT l ≠ [] := by simpa [hexT] using hl
    have hlen : 1 ≤ (hexT l).length := by cases e : hexT l with | nil => exact absurd e hne | cons _ _ => simp
    have hj := join_len 58 4 (hexT l) (hexT_lens l) hlen
    rw [if_neg (fun e => by rw [e] at hj; simp at hj; omega)]
    unfold numsOf
    rw [split_join 58 (hexT l) hne (hexT_count l 58 (.inr rfl))]
    refine nums_map 16 65535 3 (by omega) (by omega) l (fun n hn => ?_)
    have := h n hn
    have h3 : (16 : Nat) ^ (3 + 1) = 65536 := by decide
    rw [h3]
    omega
theorem hex_ok (l : List Nat) : okc (Lib.join (hexT l) [58]) :=
  okc_join _ (fun t ht => ⟨fun e => by have := (hexT_lens l t ht).1; rw [e] at this; simp at this, hexT_count l 58 (.inr rfl) t ht⟩)

theorem lz_zero : ∀ b0 b1 b2 b3 b4 b5 b6 b7 : Bool, ∀ j : Fin 8, (lzTo [b0, b1, b2, b3, b4, b5, b6, b7] 8).2.1 ≤ (j.1 : Int) → (j.1 : Int) < (lzTo [b0, b1, b2, b3, b4, b5, b6, b7] 8).2.2 → [b0, b1, b2, b3, b4, b5, b6, b7].getD j.1 false = true := by decide +kernel
theorem mid_zero (gs : List Nat) (hl : gs.length = 8) (f t : Nat) (hft : f ≤ t) (ht : t ≤ 8) (hz : ∀ j, f ≤ j → j < t → gs.getD j 0 = 0) : gs.take f ++ List.replicate (8 - f - (8 - t)) 0 ++ gs.drop t = gs := by
  apply List.ext_getElem?
  intro j
  by_cases h1 : j < f
  · rw [List.append_assoc, List.getElem?_append_left (by rw [List.length_take]; omega), List.getElem?_take_of_lt h1]
  · by_cases h2 : j < t
    · rw [List.getElem?_append_left (by rw [List.length_append, List.length_take, List.length_replicate]; omega), List.getElem?_append_right (by rw [List.length_take]; omega), List.getElem?_replicate, if_pos (by rw [List.length_take]; omega)]
      have := hz j (by omega) h2
      rw [List.getD_eq_getElem?_getD, List.getElem?_eq_getElem (by omega)] at this
      rw [List.getElem?_eq_getElem (by omega)]
      simpa using this.symm
    · rw [List.getElem?_append_right (by rw [List.length_append, List.length_take, List.length_replicate]; omega), List.getElem?_drop]
      congr 1
      rw [List.length_append, List.length_take, List.length_replicate]
      omega

theorem hor_grp (H L : Nat) (h1 : H < 18446744073709551616) (l1 : L < 18446744073709551616) : hor ((grpP H L).take 4) = H ∧ hor ((grpP H L).drop 4) = L := by
  constructor
  · show hor [H / 281474976710656 % 65536, H / 4294967296 % 65536, H / 65536 % 65536, H % 65536] = H
    simp only [hor, List.foldl]
    omega
  · show hor [L / 281474976710656 % 65536, L / 4294967296 % 65536, L / 65536 % 65536, L % 65536] = L
    simp only [hor, List.foldl]
    omega

theorem back_six (H L : Nat) (h1 : H < 18446744073709551616) (l1 : L < 18446744073709551616) : readOf (sixT (grpP H L)) = some (true, H, L) := by
  have hgl : (grpP H L).length = 8 := rfl
  have hg16 : ∀ u ∈ grpP H L, u < 65536 := by
    intro u hu
    simp only [grpP, List.mem_cons, List.mem_nil_iff, or_false] at hu
    omega
  have hfacts := six_facts (grpP H L) hgl
  have hhor := hor_grp H L h1 l1
  have hbd := lzTo_bd (zeroP (grpP H L)) 8
  have hz8 := lz_zero (H / 281474976710656 % 65536 == 0) (H / 4294967296 % 65536 == 0) (H / 65536 % 65536 == 0) (H % 65536 == 0) (L / 281474976710656 % 65536 == 0) (L / 4294967296 % 65536 == 0) (L / 65536 % 65536 == 0) (L % 65536 == 0)
  have hz : ∀ j : Nat, j < 8 → (lzTo (zeroP (grpP H L)) 8).2.1 ≤ (j : Int) → (j : Int) < (lzTo (zeroP (grpP H L)) 8).2.2 → (grpP H L).getD j 0 = 0 := by
    intro j hj a b
    have := hz8 ⟨j, hj⟩ a b
    have e := getD_zero (grpP H L) j (by rw [hgl]; exact hj)
    have e2 : ((grpP H L).map (· == 0)).getD j false = true := this
    rw [e] at e2
    simpa using e2
  unfold readOf
  rw [if_pos (indexByte_pos 58 _ (by omega))]
  have key : sixFrom (Lib.cut (sixT (grpP H L)) [58, 58]).2.2 (grpsOf (Lib.cut (sixT (grpP H L)) [58, 58]).1) (grpsOf (Lib.cut (sixT (grpP H L)) [58, 58]).2.1) = some (grpP H L) := by
    generalize grpP H L = gs at *
    by_cases hft : (lzTo (zeroP gs) 8).2.2 - (lzTo (zeroP gs) 8).2.1 < 2
    · have hs : sixT gs = Lib.join (hexT gs) [58] := by unfold sixT; simp only; rw [if_pos hft]
      rw [hs]
      have hc : Lib.cut (Lib.join (hexT gs) [58]) [58, 58] = (Lib.join (hexT gs) [58], [], false) := by
        unfold Lib.cut
        rw [cc_out _ (hex_ok gs), if_neg (by decide)]
      rw [hc]
      show sixFrom false (grpsOf (Lib.join (hexT gs) [58])) (grpsOf []) = some gs
      rw [grps_join gs hg16, show grpsOf [] = some [] from rfl, sixFrom_ok (by rw [hgl]; simp), hgl]
      simp
    · obtain ⟨f, hf⟩ := Int.eq_ofNat_of_zero_le hbd.2.2.1
      obtain ⟨t, ht⟩ := Int.eq_ofNat_of_zero_le (Int.le_trans hbd.2.2.1 hbd.2.2.2.1)
      have ht8 := hbd.2.2.2.2
      rw [hf, ht] at hft hz
      rw [ht] at ht8
      have hs : sixT gs = Lib.join (hexT (gs.take f)) [58] ++ 58 :: 58 :: Lib.join (hexT (gs.drop t)) [58] := by
        unfold sixT
        simp only
        rw [hf, ht, if_neg hft]
        simp
      rw [hs]
      generalize hA : Lib.join (hexT (gs.take f)) [58] = A
      generalize hB : Lib.join (hexT (gs.drop t)) [58] = B
      have hi : Lib.index (A ++ 58 :: 58 :: B) [58, 58] = A.length := cc_in B A (by rw [← hA]; exact hex_ok _)
      have hc : Lib.cut (A ++ 58 :: 58 :: B) [58, 58] = (A, B, true) := by
        unfold Lib.cut
        rw [hi, if_pos (by omega), Int.toNat_natCast]
        simp
      rw [hc]
      show sixFrom true (grpsOf A) (grpsOf B) = some gs
      rw [← hA, ← hB, grps_join _ (fun x hx => hg16 x (List.mem_of_mem_take hx)), grps_join _ (fun x hx => hg16 x (List.mem_of_mem_drop hx))]
      have e1 : (gs.take f).length = f := by rw [List.length_take, hgl]; omega
      have e2 : (gs.drop t).length = 8 - t := by rw [List.length_drop, hgl]
      rw [sixFrom_ok (by rw [e1, e2]; simp; omega), e1, e2]
      rw [mid_zero gs hgl f t (by omega) (by omega) (fun j a b => hz j (by omega) (by omega) (by omega))]
  unfold sixOf
  rw [key, Option.map_some, hhor.1, hhor.2]

/-- Reading undoes writing. -/
theorem back_all (six : Bool) (H L : Nat) (h1 : H < 18446744073709551616) (l1 : L < 18446744073709551616) (hE : textE six H L = 0) : readOf (textL six H L) = some (six, H, L) := by
  cases six
  · have hm : H = 0 ∧ L < 4294967296 := by
      unfold textE at hE
      rw [if_neg (by decide)] at hE
      split at hE
      · assumption
      · cases hE
    have e1 : textL false H L = Lib.join (fourT L) [46] := by simp [textL, hm]
    rw [e1, back_four L hm.2, hm.1]
  · exact back_six H L h1 l1
theorem parse_back (six : Bool) (H L : Nat) (h1 : H < 18446744073709551616) (l1 : L < 18446744073709551616) (hE : textE six H L = 0) : parseOf (textL six H L) = some (six, H, L) := by
  unfold parseOf
  rw [back_all six H L h1 l1 hE]
  show (if textE six H L = 0 ∧ textL six H L = textL six H L then some (six, H, L) else none) = _
  rw [if_pos ⟨hE, rfl⟩]
theorem text_inj {six six2 : Bool} {H L H2 L2 : Nat} (h1 : H < 18446744073709551616) (l1 : L < 18446744073709551616) (hE : textE six H L = 0) (h2 : H2 < 18446744073709551616) (l2 : L2 < 18446744073709551616) (hE2 : textE six2 H2 L2 = 0)
    (h : textL six H L = textL six2 H2 L2) : six = six2 ∧ H = H2 ∧ L = L2 := by
  have a := back_all six H L h1 l1 hE
  rw [h, back_all six2 H2 L2 h2 l2 hE2] at a
  simp only [Option.some.injEq, Prod.mk.injEq] at a
  exact ⟨a.1.symm, a.2.1.symm, a.2.2.symm⟩
end Go.Proofs.YtojdlhiibffnfabDoor

/-
  Laid together: RefParseI, RefPParse.
-/
import Derived.Test.YtojdlhiibffnfabDoorG2
import Derived.Test.YtojdlhiibffnfabDoorG3
import Derived.Test.YtojdlhiibffnfabDoorG1
import Derived.Test.YtojdlhiibffnfabDoorPreAt
/-
  The document's AddrParse, whole: it answers the address whose text this is, or ErrForm.
-/
namespace Go.Proofs.YtojdlhiibffnfabDoor
open Go.RowKit Go.Sort
set_option linter.unusedVariables false
set_option linter.unusedSimpArgs false

theorem parseOf_some' {s : List UInt8} {six : Bool} {H L : Nat} (h : parseOf s = some (six, H, L)) : H < 18446744073709551616 ∧ L < 18446744073709551616 := by
  unfold parseOf at h
  split at h
  · rename_i six2 H2 L2 hr
    split at h
    · simp only [Option.some.injEq, Prod.mk.injEq] at h
      obtain ⟨rfl, rfl, rfl⟩ := h
      exact readOf_lt hr
    · cases h
  · cases h
theorem try_err (six : Bool) (ns : List Int) (hl : ns.length = tryN six) (s : List UInt8) (hp : parseOf s = none) : tryAns six ns s = errAns := by
  unfold tryAns
  rw [if_neg ?_]
  · rfl
  · intro h
    have e := eq_of_beq h
    obtain ⟨b1, b2, b3⟩ := try_bd six ns hl
    have hE : textE six (tryH six ns) (tryL six ns) = 0 := by
      unfold textE
      cases six
      · rw [if_neg (by decide), if_pos (b3 rfl)]
      · rfl
    have := parse_back six _ _ b1 b2 hE
    rw [e, hp] at this
    cases this
theorem try_ok (six : Bool) (ns : List Int) (H L : Nat) (hH : tryH six ns = H) (hL : tryL six ns = L) : tryAns six ns (textL six H L) = .tuple #[.agg #[.bool six, .int .u64 (H : Int), .int .u64 (L : Int)], .int .i64 0] := by
  unfold tryAns
  rw [hH, hL, if_pos (by simp)]
theorem spell4 (w : Nat) (a b c d : Nat) (ha : a < 2 ^ w) (hb : b < 2 ^ w) (hc : c < 2 ^ w) (hd : d < 2 ^ w) :
    spell (fl w [(a : Int), (b : Int), (c : Int), (d : Int)]) = ((((a * 2 ^ w + b) * 2 ^ w + c) * 2 ^ w + d : Nat) : Int) := by
  have e : ∀ x : Nat, x < 2 ^ w → spell (bitsTo (x : Int) w w) = (x : Int) := fun x hx => spell_bits _ _ (by omega) (by exact_mod_cast hx)
  have : fl w [(a : Int), (b : Int), (c : Int), (d : Int)] = ((bitsTo a w w ++ bitsTo b w w) ++ bitsTo c w w) ++ bitsTo d w w := by simp [fl]
  rw [this, spell_append, spell_append, spell_append, e a ha, e b hb, e c hc, e d hd, bitsTo_length, bitsTo_length, bitsTo_length]
  push_cast
  rfl
theorem tryL_four (L : Nat) (h : L < 4294967296) : tryL false ((fourP L).map (fun k : Nat => (k : Int))) = L := by
  show (spell (fl 8 [((L / 16777216 % 256 : Nat) : Int), ((L / 65536 % 256 : Nat) : Int), ((L / 256 % 256 : Nat) : Int), ((L / 1 % 256 : Nat) : Int)])).toNat = L
  rw [spell4 8 _ _ _ _ (by omega) (by omega) (by omega) (by omega)]
  rw [Int.toNat_natCast]
  omega
theorem fl_app (w : Nat) (l r : List Int) : fl w (l ++ r) = fl w l ++ fl w r := by unfold fl; rw [List.flatMap_append]
theorem try_six (H L : Nat) (h1 : H < 18446744073709551616) (l1 : L < 18446744073709551616) : tryH true ((grpP H L).map (fun k : Nat => (k : Int))) = H ∧ tryL true ((grpP H L).map (fun k : Nat => (k : Int))) = L := by
  have e : (grpP H L).map (fun k : Nat => (k : Int)) = [((H / 281474976710656 % 65536 : Nat) : Int), ((H / 4294967296 % 65536 : Nat) : Int), ((H / 65536 % 65536 : Nat) : Int), ((H % 65536 : Nat) : Int)] ++ [((L / 281474976710656 % 65536 : Nat) : Int), ((L / 4294967296 % 65536 : Nat) : Int), ((L / 65536 % 65536 : Nat) : Int), ((L % 65536 : Nat) : Int)] := rfl
  unfold tryH tryL
  rw [if_pos rfl, if_pos rfl, e, fl_app, List.take_left' (by rw [fl_length]; rfl), List.drop_left' (by rw [fl_length]; rfl), spell4 16 _ _ _ _ (by omega) (by omega) (by omega) (by omega), spell4 16 _ _ _ _ (by omega) (by omega) (by omega) (by omega), Int.toNat_natCast, Int.toNat_natCast]
  constructor <;> omega
theorem rd58 : rdTo 58 10 < 0 := by decide +kernel
/-- A text with a colon is no four numbers. -/
theorem rn_colon (s : List UInt8) (h : (58 : UInt8) ∈ s) : rn 10 255 46 [] (-1) s = none := rn_bad 10 255 46 58 (by decide) rd58 s [] (-1) h
theorem two_split (s : List UInt8) (F : Nat) (h : F + 1 < s.length) (e0 : s[F] = 58) (e1 : s[F + 1] = 58) : s = s.take F ++ 58 :: 58 :: s.drop (F + 2) := by
  conv => lhs; rw [← List.take_append_drop F s]
  rw [List.drop_eq_getElem_cons (by omega), e0, List.drop_eq_getElem_cons (by omega), e1]
/-- The first two colons side by side, if there are two. -/
theorem first_two (s : List UInt8) : (∀ k (h : k + 1 < s.length), ¬ (s[k] = 58 ∧ s[k + 1] = 58)) ∨
    ∃ F, ∃ h : F + 1 < s.length, s[F] = 58 ∧ s[F + 1] = 58 ∧ ∀ k (h : k + 1 < s.length), k < F → ¬ (s[k] = 58 ∧ s[k + 1] = 58) := by
  have key : ∀ n, (∀ k (h : k + 1 < s.length), k < n → ¬ (s[k] = 58 ∧ s[k + 1] = 58)) ∨ ∃ F, ∃ h : F + 1 < s.length, s[F] = 58 ∧ s[F + 1] = 58 ∧ ∀ k (h : k + 1 < s.length), k < F → ¬ (s[k] = 58 ∧ s[k + 1] = 58) := by
    intro n
    induction n with
    | zero => exact .inl (fun k _ h => by omega)
    | succ n ih =>
      rcases ih with h | h
      · by_cases hc : ∃ h : n + 1 < s.length, s[n] = 58 ∧ s[n + 1] = 58
        · obtain ⟨a, b, c⟩ := hc
          exact .inr ⟨n, a, b, c, h⟩
        · refine .inl (fun k hk hlt => ?_)
          by_cases e : k = n
          · subst e; exact fun hh => hc ⟨hk, hh⟩
          · exact h k hk (by omega)
      · exact .inr h
  rcases key s.length with h | h
  · exact .inl (fun k hk => h k hk (by omega))
  · exact .inr h
/-- AddrParse at two colons. -/
theorem ap_two (s : List UInt8) (hl : s.length ≤ 600) (F : Nat) (hF : F + 1 < s.length) (e0 : s[F] = 58) (e1 : s[F + 1] = 58) (hno : ∀ k (h : k + 1 < s.length), k < F → ¬ (s[k] = 58 ∧ s[k + 1] = 58)) (w : World) :
    Calls Tryd.prog 6 #[.string ⟨s.toArray⟩] w fun e w' => e = .returned (twoOf (sideL (s.take F)) (sideL (s.drop (F + 2))) s) ∧ Below w.heap.size w w' := by
  have hs := two_split s F hF e0 e1
  have h4 : rn 10 255 46 [] (-1) s = none := rn_colon s (by rw [hs]; simp)
  have h8 : rn 16 65535 58 [] (-1) s = none := by rw [hs]; exact rn_two 16 65535 58 _ _ _ _
  clear hs
  have sl : ∀ t : List UInt8, t ≠ [] → rn 16 65535 58 [] (-1) t = sideL t := fun t h => by unfold sideL; rw [if_neg h]
  have s0 : ∀ t : List UInt8, t.length = 0 → (some [] : Option (List Int)) = sideL t := fun t h => by unfold sideL; rw [if_pos (List.eq_nil_of_length_eq_zero h)]
  have ne : ∀ t : List UInt8, 0 < t.length → t ≠ [] := fun t h e => by rw [e] at h; simp at h
  by_cases c0 : 0 < F
  · by_cases c1 : F + 2 < s.length
    · exact ap_two_11 s hl h4 h8 F hF e0 e1 hno c0 c1 _ _ (sl _ (ne _ (by rw [List.length_take]; omega))) (sl _ (ne _ (by rw [List.length_drop]; omega))) w
    · exact ap_two_10 s hl h4 h8 F hF e0 e1 hno c0 c1 _ _ (sl _ (ne _ (by rw [List.length_take]; omega))) (s0 _ (by rw [List.length_drop]; omega)) w
  · by_cases c1 : F + 2 < s.length
    · exact ap_two_01 s hl h4 h8 F hF e0 e1 hno (by omega) c1 _ _ (s0 _ (by rw [List.length_take]; omega)) (sl _ (ne _ (by rw [List.length_drop]; omega))) w
    · exact ap_two_00 s hl h4 h8 F hF e0 e1 hno (by omega) c1 _ _ (s0 _ (by rw [List.length_take]; omega)) (s0 _ (by rw [List.length_drop]; omega)) w
theorem two_none (l r : Option (List Int)) (s : List UInt8) (hp : parseOf s = none) : twoOf l r s = errAns := by
  cases l with
  | none => exact two_no1 rfl
  | some l => cases r with
    | none => exact two_no2 rfl
    | some r =>
      by_cases h : 6 < l.length + r.length
      · exact two_long rfl rfl rfl rfl h
      · rw [two_ok (l := some l) (r := some r) (ln := l) (rn := r) rfl rfl rfl rfl h]
        exact try_err true _ (by simp only [List.length_append, List.length_replicate]; show _ = 8; omega) s hp
theorem doc_none (s : List UInt8) (hl : s.length ≤ 600) (hp : parseOf s = none) (w : World) :
    Calls Tryd.prog 6 #[.string ⟨s.toArray⟩] w fun e w' => e = .returned errAns ∧ Below w.heap.size w w' := by
  by_cases h4 : ∃ ns, rn 10 255 46 [] (-1) s = some ns ∧ ns.length = 4
  · obtain ⟨ns, hr, hn⟩ := h4
    have := ap_four s hl ns hr hn w
    rw [try_err false ns hn s hp] at this
    exact this
  · have h4' : ∀ ns, rn 10 255 46 [] (-1) s = some ns → ns.length ≠ 4 := fun ns hr hn => h4 ⟨ns, hr, hn⟩
    by_cases h8 : ∃ ns, rn 16 65535 58 [] (-1) s = some ns ∧ ns.length = 8
    · obtain ⟨ns, hr, hn⟩ := h8
      have := ap_eight s hl h4' ns hr hn w
      rw [try_err true ns hn s hp] at this
      exact this
    · have h8' : ∀ ns, rn 16 65535 58 [] (-1) s = some ns → ns.length ≠ 8 := fun ns hr hn => h8 ⟨ns, hr, hn⟩
      rcases first_two s with h | ⟨F, hF, e0, e1, hno⟩
      · exact ap_none s hl h4' h8' h w
      · have := ap_two s hl F hF e0 e1 hno w
        rw [two_none _ _ s hp] at this
        exact this
theorem okc_at : ∀ (p : List UInt8), okc p → ∀ k (h : k + 1 < p.length), ¬ (p[k] = 58 ∧ p[k + 1] = 58)
  | [], _, k, h => by simp at h
  | [x], _, k, h => by simp at h
  | x :: y :: l, ho, 0, h => fun e => ho.1 e.1 e.2
  | x :: y :: l, ho, k + 1, h => okc_at (y :: l) ho.2 k (by simpa using h)
theorem okc_last : ∀ (p : List UInt8), okc p → ∀ (h : 0 < p.length), p[p.length - 1] ≠ 58
  | [], _, h => by simp at h
  | [x], ho, _ => ho
  | x :: y :: l, ho, _ => okc_last (y :: l) ho.2 (by simp)
theorem side_hex (l : List Nat) (h : ∀ x ∈ l, x < 65536) : sideL (Lib.join (hexT l) [58]) = some (l.map (fun k : Nat => (k : Int))) := by
  cases l with
  | nil => unfold sideL; rw [if_pos (by simp [hexT, Lib.join_nil])]; rfl
  | cons m ms =>
    have hlen : 1 ≤ (hexT (m :: ms)).length := by simp [hexT]
    have hj := join_len 58 4 (hexT (m :: ms)) (hexT_lens (m :: ms)) hlen
    unfold sideL
    rw [if_neg (fun e => by rw [e] at hj; simp at hj; omega)]
    exact rn_join 16 65535 58 3 (by omega) (by omega) (by omega) noDig58 m ms (fun k hk => ⟨by rw [show (16 : Nat) ^ (3 + 1) = 65536 from by decide]; exact h k hk, by have := h k hk; omega⟩)
theorem doc_four (L : Nat) (h : L < 4294967296) (w : World) :
    Calls Tryd.prog 6 #[.string ⟨(textL false 0 L).toArray⟩] w fun e w' => e = .returned (.tuple #[.agg #[.bool false, .int .u64 ((0 : Nat) : Int), .int .u64 (L : Int)], .int .i64 0]) ∧ Below w.heap.size w w' := by
  have ht : textL false 0 L = Lib.join (fourT L) [46] := by unfold textL; rw [if_neg (by decide), if_pos ⟨rfl, h⟩]
  have hf := four_facts L
  have hr : rn 10 255 46 [] (-1) (textL false 0 L) = some ((fourP L).map (fun k : Nat => (k : Int))) := by
    rw [ht]
    refine rn_join 10 255 46 2 (by omega) (by omega) (by omega) noDig46 (L / 16777216 % 256) [L / 65536 % 256, L / 256 % 256, L / 1 % 256] (fun k hk => ?_)
    rw [show (10 : Nat) ^ (2 + 1) = 1000 from by decide]
    simp only [List.mem_cons, List.not_mem_nil, or_false] at hk
    omega
  have := ap_four (textL false 0 L) (by rw [ht]; omega) _ hr rfl w
  rw [try_ok false _ 0 L rfl (tryL_four L h)] at this
  exact this
theorem doc_six (H L : Nat) (h1 : H < 18446744073709551616) (l1 : L < 18446744073709551616) (w : World) :
    Calls Tryd.prog 6 #[.string ⟨(textL true H L).toArray⟩] w fun e w' => e = .returned (.tuple #[.agg #[.bool true, .int .u64 (H : Int), .int .u64 (L : Int)], .int .i64 0]) ∧ Below w.heap.size w w' := by
  have ht : textL true H L = sixT (grpP H L) := by unfold textL; rw [if_pos rfl]
  have hgl : (grpP H L).length = 8 := rfl
  have hg16 : ∀ u ∈ grpP H L, u < 65536 := by
    intro u hu
    simp only [grpP, List.mem_cons, List.mem_nil_iff, or_false] at hu
    omega
  have hfacts := six_facts (grpP H L) hgl
  have hbd := lzTo_bd (zeroP (grpP H L)) 8
  have hz8 := lz_zero (H / 281474976710656 % 65536 == 0) (H / 4294967296 % 65536 == 0) (H / 65536 % 65536 == 0) (H % 65536 == 0) (L / 281474976710656 % 65536 == 0) (L / 4294967296 % 65536 == 0) (L / 65536 % 65536 == 0) (L % 65536 == 0)
  have hz : ∀ j : Nat, j < 8 → (lzTo (zeroP (grpP H L)) 8).2.1 ≤ (j : Int) → (j : Int) < (lzTo (zeroP (grpP H L)) 8).2.2 → (grpP H L).getD j 0 = 0 := by
    intro j hj a b
    have := hz8 ⟨j, hj⟩ a b
    have e := getD_zero (grpP H L) j (by rw [hgl]; exact hj)
    have e2 : ((grpP H L).map (· == 0)).getD j false = true := this
    rw [e] at e2
    simpa using e2
  obtain ⟨tH, tL⟩ := try_six H L h1 l1
  have fin := try_ok true ((grpP H L).map (fun k : Nat => (k : Int))) H L tH tL
  have hlen : (textL true H L).length ≤ 600 := by rw [ht]; omega
  have hcol : (58 : UInt8) ∈ textL true H L := by rw [ht]; exact List.count_pos_iff.1 (by omega)
  clear hz8 tH tL
  by_cases hft : (lzTo (zeroP (grpP H L)) 8).2.2 - (lzTo (zeroP (grpP H L)) 8).2.1 < 2
  · have hs : textL true H L = Lib.join (hexT (grpP H L)) [58] := by rw [ht]; unfold sixT; simp only; rw [if_pos hft]
    have hr : rn 16 65535 58 [] (-1) (textL true H L) = some ((grpP H L).map (fun k : Nat => (k : Int))) := by
      have := side_hex (grpP H L) hg16
      unfold sideL at this
      rw [← hs, if_neg (fun e => by rw [e] at hcol; cases hcol)] at this
      exact this
    have := ap_eight (textL true H L) hlen (fun ns hn => by rw [rn_colon _ hcol] at hn; cases hn) _ hr (by rw [List.length_map]; rfl) w
    rw [fin] at this
    exact this
  · obtain ⟨f, hf⟩ := Int.eq_ofNat_of_zero_le hbd.2.2.1
    obtain ⟨t, htt⟩ := Int.eq_ofNat_of_zero_le (Int.le_trans hbd.2.2.1 hbd.2.2.2.1)
    have ht8 := hbd.2.2.2.2
    rw [hf, htt] at hft hz
    rw [htt] at ht8
    have hs : textL true H L = Lib.join (hexT ((grpP H L).take f)) [58] ++ 58 :: 58 :: Lib.join (hexT ((grpP H L).drop t)) [58] := by
      rw [ht]
      unfold sixT
      simp only
      rw [hf, htt, if_neg hft]
      simp
    have sA := side_hex ((grpP H L).take f) (fun x hx => hg16 x (List.mem_of_mem_take hx))
    have sB := side_hex ((grpP H L).drop t) (fun x hx => hg16 x (List.mem_of_mem_drop hx))
    have hA := hex_ok ((grpP H L).take f)
    generalize Lib.join (hexT ((grpP H L).take f)) [58] = A at hs sA hA
    generalize Lib.join (hexT ((grpP H L).drop t)) [58] = B at hs sB
    have mz := mid_zero (grpP H L) hgl f t (by omega) (by omega) (fun j a b => hz j (by omega) (by omega) (by omega))
    have hF : A.length + 1 < (textL true H L).length := by rw [hs]; simp
    have e0 : (textL true H L)[A.length]'(by omega) = 58 := by
      have : (textL true H L)[A.length]? = some 58 := by rw [hs]; simp
      simpa [List.getElem?_eq_getElem (show A.length < (textL true H L).length by omega)] using this
    have e1 : (textL true H L)[A.length + 1]'hF = 58 := by
      have : (textL true H L)[A.length + 1]? = some 58 := by rw [hs, List.getElem?_append_right (by omega)]; simp
      simpa [List.getElem?_eq_getElem hF] using this
    have hno : ∀ k (h : k + 1 < (textL true H L).length), k < A.length → ¬ ((textL true H L)[k] = 58 ∧ (textL true H L)[k + 1] = 58) := by
      intro k h hk ⟨a, b⟩
      have ga : (textL true H L)[k]? = some 58 := by rw [List.getElem?_eq_getElem (by omega), a]
      have gb : (textL true H L)[k + 1]? = some 58 := by rw [List.getElem?_eq_getElem h, b]
      rw [hs, List.getElem?_append_left hk] at ga
      rw [hs] at gb
      by_cases hk1 : k + 1 < A.length
      · rw [List.getElem?_append_left hk1] at gb
        rw [List.getElem?_eq_getElem hk] at ga
        rw [List.getElem?_eq_getElem hk1] at gb
        exact okc_at A hA k hk1 ⟨Option.some.inj ga, Option.some.inj gb⟩
      · rw [List.getElem?_eq_getElem hk] at ga
        have := okc_last A hA (by omega)
        have ek : A.length - 1 = k := by omega
        simp only [ek] at this
        exact this (Option.some.inj ga)
    have := ap_two (textL true H L) hlen A.length hF e0 e1 hno w
    have tk : (textL true H L).take A.length = A := by rw [hs]; simp
    have dr : (textL true H L).drop (A.length + 2) = B := by rw [hs, List.drop_append]; simp
    rw [tk, dr, sA, sB] at this
    have l1' : ((grpP H L).take f).length = f := by rw [List.length_take, hgl]; omega
    have l2' : ((grpP H L).drop t).length = 8 - t := by rw [List.length_drop, hgl]
    rw [two_ok (ln := ((grpP H L).take f).map (fun k : Nat => (k : Int))) (rn := ((grpP H L).drop t).map (fun k : Nat => (k : Int))) rfl rfl rfl rfl (by rw [List.length_map, List.length_map, l1', l2']; omega)] at this
    have em : ((grpP H L).take f).map (fun k : Nat => (k : Int)) ++ List.replicate (8 - ((((grpP H L).take f).map (fun k : Nat => (k : Int))).length + (((grpP H L).drop t).map (fun k : Nat => (k : Int))).length)) 0 ++ ((grpP H L).drop t).map (fun k : Nat => (k : Int)) = (grpP H L).map (fun k : Nat => (k : Int)) := by
      conv => rhs; rw [← mz]
      rw [List.map_append, List.map_append, List.map_replicate, List.length_map, List.length_map, l1', l2', show 8 - (f + (8 - t)) = 8 - f - (8 - t) by omega]
      rfl
    rw [em, fin] at this
    exact this
/-- The document's AddrParse: the address whose text it is. -/
theorem doc_parse (s : List UInt8) (hl : s.length ≤ 600) (w : World) :
    Calls Tryd.prog 6 #[.string ⟨s.toArray⟩] w fun e w' => ParseOut (parseOf s) e ∧ Below w.heap.size w w' := by
  cases hp : parseOf s with
  | none => exact doc_none s hl hp w
  | some r =>
    obtain ⟨six, H, L⟩ := r
    unfold parseOf at hp
    split at hp
    · rename_i six' H' L' hr
      split at hp
      · rename_i hc
        simp only [Option.some.injEq, Prod.mk.injEq] at hp
        obtain ⟨rfl, rfl, rfl⟩ := hp
        obtain ⟨hE, hT⟩ := hc
        have bd := parseOf_some' (s := s) (by unfold parseOf; rw [hr]; simp only; rw [if_pos ⟨hE, hT⟩])
        subst hT
        cases six'
        · have hv : H' = 0 ∧ L' < 4294967296 := by
            unfold textE at hE
            rw [if_neg (by decide)] at hE
            split at hE
            · assumption
            · cases hE
          obtain ⟨rfl, hv⟩ := hv
          exact doc_four L' hv w
        · exact doc_six H' L' bd.1 bd.2 w
      · cases hp
    · cases hp
end Go.Proofs.YtojdlhiibffnfabDoor
/-
  The document's PreParse, way by way.
-/
namespace Go.Proofs.YtojdlhiibffnfabDoor
open Go.RowKit Go.Sort
set_option linter.unusedVariables false
set_option linter.unusedSimpArgs false

theorem byte_ne47 {x : UInt8} (h : x ≠ 47) : ((x.toNat : Int) == 47) = false ∧ ((x.toNat : Int) != 47) = true ∧ ¬ (x.toNat : Int) = 47 := by
  have : ¬ (x.toNat : Int) = 47 := fun e => h (UInt8.toNat_inj.1 (show x.toNat = 47 by omega))
  simp [this]
/-- A reading: whether it is one, and then its numbers. -/
theorem nums_len (s : List UInt8) (hl : s.length ≤ 600) (w : World) :
    Calls Tryd.prog 14 #[.string ⟨s.toArray⟩, .int .u8 47, .int .i64 10, .int .i64 128] w fun e w' => (∃ v, e = .returned (.tuple #[v, .bool (rn 10 128 47 [] (-1) s).isSome]) ∧ w'.ownsRow w.heap.size 3 1 v ((rn 10 128 47 [] (-1) s).getD []).length (((rn 10 128 47 [] (-1) s).getD []).map (Value.int .i64))) ∧ Below w.heap.size w w' := by
  refine (refNums_calls 10 128 (by decide) (by decide) (by decide) (by decide) 47 s hl w).mono ?_
  rintro e w' ⟨ho, hb⟩
  refine ⟨?_, hb⟩
  cases hr : rn 10 128 47 [] (-1) s with
  | none => rw [hr] at ho; exact ⟨_, ho, World.ownsRow_nil _ _ _ _⟩
  | some ns => rw [hr] at ho; exact ho
def pErr : Value := .tuple #[.agg #[.bool false, .int .u64 0, .int .u64 0, .int .i64 0], .int .i64 4]
theorem pd_long (s : List UInt8) (hl : 600 < s.length) (hm : s.length ≤ 9223372036854775807) (w : World) :
    Calls Tryd.prog 8 #[.string ⟨s.toArray⟩] w fun e w' => e = .returned (.tuple #[.agg #[.bool false, .int .u64 0, .int .u64 0, .int .i64 0], .int .i64 1]) ∧ Below w.heap.size w w' := by
  have hsz : (⟨s.toArray⟩ : ByteArray).size = s.length := by simp [ByteArray.size]
  have hli : 600 < (s.length : Int) := by omega
  go_enter Tryd.func8, Tryd.ntmps8
  go_wp2
  go_returns
  exact ⟨rfl, by go_grown⟩
set_option maxHeartbeats 4000000 in
set_option maxRecDepth 100000 in
theorem pd_none (s : List UInt8) (hl : s.length ≤ 600) (hno : ∀ k (h : k < s.length), s[k] ≠ 47) (w : World) :
    Calls Tryd.prog 8 #[.string ⟨s.toArray⟩] w fun e w' => e = .returned pErr ∧ Below w.heap.size w w' := by
  have hsz : (⟨s.toArray⟩ : ByteArray).size = s.length := by simp [ByteArray.size]
  have hli : ¬ 600 < (s.length : Int) := by omega
  have NO := Lib.hid hno
  have HR := Lib.hid (PreV.new w false 0 0 0 30)
  have b0 : Below w.heap.size w (w.alloc (.cells #[.bool false, .int .u64 0, .int .u64 0, .int .i64 0] 30)) := (Below.refl _ w).alloc (Nat.le_refl _) _
  clear hno
  go_enter Tryd.func8, Tryd.ntmps8
  go_wp2
  go_loopw [4] (fun iv wr => ∃ k : Nat, k ≤ s.length ∧ iv = .int .i64 k ∧ wr = w.alloc (.cells #[.bool false, .int .u64 0, .int .u64 0, .int .i64 0] 30)) (fun iv _ => s.length - (intOf iv).toNat)
  case atStart => exact ⟨0, by omega, rfl, by first | rfl | trivial⟩
  case round =>
    obtain ⟨k, hk, rfl, rfl⟩ := hrel
    by_cases hlt : k < s.length
    · have hx := index_list s k (by omega)
      have hn := NO.out k (by omega)
      generalize s[k]'(by omega) = x at hx hn
      obtain ⟨x0, x1, x2⟩ := byte_ne47 hn
      clear hn
      go_wp2_with fail
      go_roundw
      case rel => exact ⟨k + 1, by omega, by go_num, by first | rfl | trivial⟩
      case measure => simp [intOf]; omega
    · have HRX := HR
      obtain ⟨⟨r0, r1, r2, r3, rl⟩, rf⟩ := HRX.out
      have f0 := rf 0; have f1 := rf 1; have f2 := rf 2; have f3 := rf 3
      clear rf HRX
      go_wp2
      try simp only [Exit.inBlock, Exit.then]
      refine bodyPost_ret (v := .tuple #[.agg #[.bool false, .int .u64 0, .int .u64 0, .int .i64 0], .int .i64 4]) (by simp [results, Tryd.results8, go_sem, r0, r1, r2, r3]) rfl ?_
      exact ⟨rfl, by first | exact (((b0.setCell (by simp) _).setCell (by simp) _).setCell (by simp) _).setCell (by simp) _ | exact b0 | go_grown⟩
set_option maxHeartbeats 4000000 in
set_option maxRecDepth 100000 in
theorem pd_noaddr (s : List UInt8) (hl : s.length ≤ 600) (F : Nat) (hF : F < s.length) (e0 : s[F] = 47) (hno : ∀ k (h : k < s.length), k < F → s[k] ≠ 47) (sx : Bool) (H L : Int) (E : Int) (KA : Hid (∀ W : World, Calls Tryd.prog 6 #[.string ⟨(s.take F).toArray⟩] W fun e w' => e = .returned (.tuple #[.agg #[.bool sx, .int .u64 H, .int .u64 L], .int .i64 E]) ∧ Below W.heap.size W w')) (hE : (E == 0) = false) (w : World) :
    Calls Tryd.prog 8 #[.string ⟨s.toArray⟩] w fun e w' => e = .returned pErr ∧ Below w.heap.size w w' := by
  have hsz : (⟨s.toArray⟩ : ByteArray).size = s.length := by simp [ByteArray.size]
  have hli : ¬ 600 < (s.length : Int) := by omega
  have NO := Lib.hid hno
  have HR := Lib.hid (PreV.new w false 0 0 0 30)
  have b0 : Below w.heap.size w (w.alloc (.cells #[.bool false, .int .u64 0, .int .u64 0, .int .i64 0] 30)) := (Below.refl _ w).alloc (Nat.le_refl _) _
  clear hno
  have hx := index_list s F hF
  rw [e0] at hx
  replace hx : ∀ W, (Instr.index 9 (.string ⟨s.toArray⟩) (.int .i64 (F : Int))).run Tryd.prog W = .ok (.int .u8 47) W := hx
  have HX := Lib.hid hx
  have EXT := Lib.hid (ext_to s F)
  have EXF := Lib.hid (ext_from s (F + 1))
  have KN := Lib.hid (fun W : World => nums_len (s.drop (F + 1)) (by rw [List.length_drop]; omega) W)
  clear hx e0
  have hE2 : (E != 0) = true := by simp [bne, hE]
  have hE3 : ¬ E = 0 := by simpa using hE
  go_enter Tryd.func8, Tryd.ntmps8
  go_wp2
  go_loopw [4] (fun iv wr => ∃ k : Nat, k ≤ F ∧ iv = .int .i64 k ∧ wr = w.alloc (.cells #[.bool false, .int .u64 0, .int .u64 0, .int .i64 0] 30)) (fun iv _ => s.length - (intOf iv).toNat)
  case atStart => exact ⟨0, by omega, rfl, by first | rfl | trivial⟩
  case round =>
    obtain ⟨k, hk, rfl, rfl⟩ := hrel
    by_cases hlt : k < F
    · have hx := index_list s k (by omega)
      have hn := NO.out k (by omega) hlt
      generalize s[k]'(by omega) = x at hx hn
      obtain ⟨x0, x1, x2⟩ := byte_ne47 hn
      clear hn
      go_wp2_with fail
      go_roundw
      case rel => exact ⟨k + 1, by omega, by go_num, by first | rfl | trivial⟩
      case measure => simp [intOf]; omega
    · obtain rfl : k = F := by omega
      have hx := HX.out
      have hF1 : (k : Int) < (s.length : Int) := by omega
      have hF2 : (k : Int) ≤ (s.length : Int) := by omega
      have hF3 : (k : Int) + 1 ≤ (s.length : Int) := by omega
      have hF4 : ((k : Int) + 1).toNat = k + 1 := by omega
      clear HX NO hlt hk
      go_wp2_with fail
      rw [EXT.out]
      refine (KA.out _).mono ?_
      rintro e w1 ⟨rfl, hb1⟩
      have b1 := thenBelow b0 hb1
      have HR1 := Lib.hid (HR.out.keep hb1)
      clear hb1 b0 HR KA
      go_wp2_with fail
      first | rw [EXF.out] | rw [hF4, hsz, EXF.out] | rw [hsz, EXF.out] | rw [hF4, EXF.out]
      refine (KN.out _).mono ?_
      rintro e w2 ⟨⟨v, rfl, ov⟩, hb2⟩
      have HA := (AddrAt.new w1 sx H L 24).keep hb2
      have b2 := thenBelow (thenBelow b1 ((Below.refl _ w1).alloc (Nat.le_refl _) (.cells #[.bool sx, .int .u64 H, .int .u64 L] 24))) hb2
      have HRX := Lib.hid ((HR1.out.alloc (.cells #[.bool sx, .int .u64 H, .int .u64 L] 24)).keep hb2)
      have hw21 : w1.heap.size ≤ w2.heap.size := by have := hb2.size; simp at this; omega
      have hw1 := b1.size
      clear hb2 b1 HR1 KN EXT EXF
      obtain ⟨p, c, rfl⟩ := owns_slice ov
      clear HA
      obtain ⟨⟨r0, r1, r2, r3, rl⟩, rf⟩ := HRX.out
      have f0 := rf 0; have f1 := rf 1; have f2 := rf 2; have f3 := rf 3
      clear rf HRX
      go_wp2
      try simp only [Exit.inBlock, Exit.then]
      refine bodyPost_ret (v := .tuple #[.agg #[.bool false, .int .u64 0, .int .u64 0, .int .i64 0], .int .i64 4]) (by simp [results, Tryd.results8, go_sem, r0, r1, r2, r3]) rfl ?_
      exact ⟨rfl, by first | exact (((b2.setCell (by simp) _).setCell (by simp) _).setCell (by simp) _).setCell (by simp) _ | exact b2 | go_grown⟩
set_option maxHeartbeats 4000000 in
set_option maxRecDepth 100000 in
theorem pd_nonum (s : List UInt8) (hl : s.length ≤ 600) (F : Nat) (hF : F < s.length) (e0 : s[F] = 47) (hno : ∀ k (h : k < s.length), k < F → s[k] ≠ 47) (sx : Bool) (H L : Int) (KA : Hid (∀ W : World, Calls Tryd.prog 6 #[.string ⟨(s.take F).toArray⟩] W fun e w' => e = .returned (.tuple #[.agg #[.bool sx, .int .u64 H, .int .u64 L], .int .i64 0]) ∧ Below W.heap.size W w')) (hn : (rn 10 128 47 [] (-1) (s.drop (F + 1))).isSome = false) (w : World) :
    Calls Tryd.prog 8 #[.string ⟨s.toArray⟩] w fun e w' => e = .returned pErr ∧ Below w.heap.size w w' := by
  have hsz : (⟨s.toArray⟩ : ByteArray).size = s.length := by simp [ByteArray.size]
  have hli : ¬ 600 < (s.length : Int) := by omega
  have NO := Lib.hid hno
  have HR := Lib.hid (PreV.new w false 0 0 0 30)
  have b0 : Below w.heap.size w (w.alloc (.cells #[.bool false, .int .u64 0, .int .u64 0, .int .i64 0] 30)) := (Below.refl _ w).alloc (Nat.le_refl _) _
  clear hno
  have hx := index_list s F hF
  rw [e0] at hx
  replace hx : ∀ W, (Instr.index 9 (.string ⟨s.toArray⟩) (.int .i64 (F : Int))).run Tryd.prog W = .ok (.int .u8 47) W := hx
  have HX := Lib.hid hx
  have EXT := Lib.hid (ext_to s F)
  have EXF := Lib.hid (ext_from s (F + 1))
  have KN := Lib.hid (fun W : World => nums_len (s.drop (F + 1)) (by rw [List.length_drop]; omega) W)
  clear hx e0
  rw [hn] at KN
  clear hn
  go_enter Tryd.func8, Tryd.ntmps8
  go_wp2
  go_loopw [4] (fun iv wr => ∃ k : Nat, k ≤ F ∧ iv = .int .i64 k ∧ wr = w.alloc (.cells #[.bool false, .int .u64 0, .int .u64 0, .int .i64 0] 30)) (fun iv _ => s.length - (intOf iv).toNat)
  case atStart => exact ⟨0, by omega, rfl, by first | rfl | trivial⟩
  case round =>
    obtain ⟨k, hk, rfl, rfl⟩ := hrel
    by_cases hlt : k < F
    · have hx := index_list s k (by omega)
      have hn := NO.out k (by omega) hlt
      generalize s[k]'(by omega) = x at hx hn
      obtain ⟨x0, x1, x2⟩ := byte_ne47 hn
      clear hn
      go_wp2_with fail
      go_roundw
      case rel => exact ⟨k + 1, by omega, by go_num, by first | rfl | trivial⟩
      case measure => simp [intOf]; omega
    · obtain rfl : k = F := by omega
      have hx := HX.out
      have hF1 : (k : Int) < (s.length : Int) := by omega
      have hF2 : (k : Int) ≤ (s.length : Int) := by omega
      have hF3 : (k : Int) + 1 ≤ (s.length : Int) := by omega
      have hF4 : ((k : Int) + 1).toNat = k + 1 := by omega
      clear HX NO hlt hk
      go_wp2_with fail
      rw [EXT.out]
      refine (KA.out _).mono ?_
      rintro e w1 ⟨rfl, hb1⟩
      have b1 := thenBelow b0 hb1
      have HR1 := Lib.hid (HR.out.keep hb1)
      clear hb1 b0 HR KA
      go_wp2_with fail
      first | rw [EXF.out] | rw [hF4, hsz, EXF.out] | rw [hsz, EXF.out] | rw [hF4, EXF.out]
      refine (KN.out _).mono ?_
      rintro e w2 ⟨⟨v, rfl, ov⟩, hb2⟩
      have HA := (AddrAt.new w1 sx H L 24).keep hb2
      have b2 := thenBelow (thenBelow b1 ((Below.refl _ w1).alloc (Nat.le_refl _) (.cells #[.bool sx, .int .u64 H, .int .u64 L] 24))) hb2
      have HRX := Lib.hid ((HR1.out.alloc (.cells #[.bool sx, .int .u64 H, .int .u64 L] 24)).keep hb2)
      have hw21 : w1.heap.size ≤ w2.heap.size := by have := hb2.size; simp at this; omega
      have hw1 := b1.size
      clear hb2 b1 HR1 KN EXT EXF
      obtain ⟨p, c, rfl⟩ := owns_slice ov
      clear HA
      obtain ⟨⟨r0, r1, r2, r3, rl⟩, rf⟩ := HRX.out
      have f0 := rf 0; have f1 := rf 1; have f2 := rf 2; have f3 := rf 3
      clear rf HRX
      go_wp2
      try simp only [Exit.inBlock, Exit.then]
      refine bodyPost_ret (v := .tuple #[.agg #[.bool false, .int .u64 0, .int .u64 0, .int .i64 0], .int .i64 4]) (by simp [results, Tryd.results8, go_sem, r0, r1, r2, r3]) rfl ?_
      exact ⟨rfl, by first | exact (((b2.setCell (by simp) _).setCell (by simp) _).setCell (by simp) _).setCell (by simp) _ | exact b2 | go_grown⟩
set_option maxHeartbeats 4000000 in
set_option maxRecDepth 100000 in
theorem pd_len (s : List UInt8) (hl : s.length ≤ 600) (F : Nat) (hF : F < s.length) (e0 : s[F] = 47) (hno : ∀ k (h : k < s.length), k < F → s[k] ≠ 47) (sx : Bool) (H L : Int) (KA : Hid (∀ W : World, Calls Tryd.prog 6 #[.string ⟨(s.take F).toArray⟩] W fun e w' => e = .returned (.tuple #[.agg #[.bool sx, .int .u64 H, .int .u64 L], .int .i64 0]) ∧ Below W.heap.size W w')) (ns : List Int) (hn : rn 10 128 47 [] (-1) (s.drop (F + 1)) = some ns) (hl1 : ns.length ≠ 1) (w : World) :
    Calls Tryd.prog 8 #[.string ⟨s.toArray⟩] w fun e w' => e = .returned pErr ∧ Below w.heap.size w w' := by
  have hsz : (⟨s.toArray⟩ : ByteArray).size = s.length := by simp [ByteArray.size]
  have hli : ¬ 600 < (s.length : Int) := by omega
  have NO := Lib.hid hno
  have HR := Lib.hid (PreV.new w false 0 0 0 30)
  have b0 : Below w.heap.size w (w.alloc (.cells #[.bool false, .int .u64 0, .int .u64 0, .int .i64 0] 30)) := (Below.refl _ w).alloc (Nat.le_refl _) _
  clear hno
  have hx := index_list s F hF
  rw [e0] at hx
  replace hx : ∀ W, (Instr.index 9 (.string ⟨s.toArray⟩) (.int .i64 (F : Int))).run Tryd.prog W = .ok (.int .u8 47) W := hx
  have HX := Lib.hid hx
  have EXT := Lib.hid (ext_to s F)
  have EXF := Lib.hid (ext_from s (F + 1))
  have KN := Lib.hid (fun W : World => nums_len (s.drop (F + 1)) (by rw [List.length_drop]; omega) W)
  clear hx e0
  rw [hn] at KN
  simp only [Option.isSome_some, Option.getD_some] at KN
  clear hn
  have hl2 : ¬ (ns.length : Int) = 1 := by omega
  have hl3 : ((ns.length : Int) == 1) = false := by simpa using hl2
  have hl4 : ((ns.length : Int) != 1) = true := by simp [bne, hl3]
  go_enter Tryd.func8, Tryd.ntmps8
  go_wp2
  go_loopw [4] (fun iv wr => ∃ k : Nat, k ≤ F ∧ iv = .int .i64 k ∧ wr = w.alloc (.cells #[.bool false, .int .u64 0, .int .u64 0, .int .i64 0] 30)) (fun iv _ => s.length - (intOf iv).toNat)
  case atStart => exact ⟨0, by omega, rfl, by first | rfl | trivial⟩
  case round =>
    obtain ⟨k, hk, rfl, rfl⟩ := hrel
    by_cases hlt : k < F
    · have hx := index_list s k (by omega)
      have hn := NO.out k (by omega) hlt
      generalize s[k]'(by omega) = x at hx hn
      obtain ⟨x0, x1, x2⟩ := byte_ne47 hn
      clear hn
      go_wp2_with fail
      go_roundw
      case rel => exact ⟨k + 1, by omega, by go_num, by first | rfl | trivial⟩
      case measure => simp [intOf]; omega
    · obtain rfl : k = F := by omega
      have hx := HX.out
      have hF1 : (k : Int) < (s.length : Int) := by omega
      have hF2 : (k : Int) ≤ (s.length : Int) := by omega
      have hF3 : (k : Int) + 1 ≤ (s.length : Int) := by omega
      have hF4 : ((k : Int) + 1).toNat = k + 1 := by omega
      clear HX NO hlt hk
      go_wp2_with fail
      rw [EXT.out]
      refine (KA.out _).mono ?_
      rintro e w1 ⟨rfl, hb1⟩
      have b1 := thenBelow b0 hb1
      have HR1 := Lib.hid (HR.out.keep hb1)
      clear hb1 b0 HR KA
      go_wp2_with fail
      first | rw [EXF.out] | rw [hF4, hsz, EXF.out] | rw [hsz, EXF.out] | rw [hF4, EXF.out]
      refine (KN.out _).mono ?_
      rintro e w2 ⟨⟨v, rfl, ov⟩, hb2⟩
      have HA := (AddrAt.new w1 sx H L 24).keep hb2
      have b2 := thenBelow (thenBelow b1 ((Below.refl _ w1).alloc (Nat.le_refl _) (.cells #[.bool sx, .int .u64 H, .int .u64 L] 24))) hb2
      have HRX := Lib.hid ((HR1.out.alloc (.cells #[.bool sx, .int .u64 H, .int .u64 L] 24)).keep hb2)
      have hw21 : w1.heap.size ≤ w2.heap.size := by have := hb2.size; simp at this; omega
      have hw1 := b1.size
      clear hb2 b1 HR1 KN EXT EXF
      obtain ⟨p, c, rfl⟩ := owns_slice ov
      clear HA
      obtain ⟨⟨r0, r1, r2, r3, rl⟩, rf⟩ := HRX.out
      have f0 := rf 0; have f1 := rf 1; have f2 := rf 2; have f3 := rf 3
      clear rf HRX
      go_wp2
      try simp only [Exit.inBlock, Exit.then]
      refine bodyPost_ret (v := .tuple #[.agg #[.bool false, .int .u64 0, .int .u64 0, .int .i64 0], .int .i64 4]) (by simp [results, Tryd.results8, go_sem, r0, r1, r2, r3]) rfl ?_
      exact ⟨rfl, by first | exact (((b2.setCell (by simp) _).setCell (by simp) _).setCell (by simp) _).setCell (by simp) _ | exact b2 | go_grown⟩
set_option maxHeartbeats 4000000 in
set_option maxRecDepth 100000 in
theorem pd_err (s : List UInt8) (hl : s.length ≤ 600) (F : Nat) (hF : F < s.length) (e0 : s[F] = 47) (hno : ∀ k (h : k < s.length), k < F → s[k] ≠ 47) (sx : Bool) (H L : Int) (KA : Hid (∀ W : World, Calls Tryd.prog 6 #[.string ⟨(s.take F).toArray⟩] W fun e w' => e = .returned (.tuple #[.agg #[.bool sx, .int .u64 H, .int .u64 L], .int .i64 0]) ∧ Below W.heap.size W w')) (n : Int) (hn : rn 10 128 47 [] (-1) (s.drop (F + 1)) = some [n]) (T : List UInt8) (E : Int) (KT : Hid (∀ W : World, Calls Tryd.prog 17 #[.agg #[.bool sx, .int .u64 H, .int .u64 L, .int .i64 n]] W fun e w' => e = .returned (.tuple #[.string ⟨T.toArray⟩, .int .i64 E]) ∧ Below W.heap.size W w')) (hE : (E == 0) = false) (w : World) :
    Calls Tryd.prog 8 #[.string ⟨s.toArray⟩] w fun e w' => e = .returned pErr ∧ Below w.heap.size w w' := by
  have hsz : (⟨s.toArray⟩ : ByteArray).size = s.length := by simp [ByteArray.size]
  have hli : ¬ 600 < (s.length : Int) := by omega
  have NO := Lib.hid hno
  have HR := Lib.hid (PreV.new w false 0 0 0 30)
  have b0 : Below w.heap.size w (w.alloc (.cells #[.bool false, .int .u64 0, .int .u64 0, .int .i64 0] 30)) := (Below.refl _ w).alloc (Nat.le_refl _) _
  clear hno
  have hx := index_list s F hF
  rw [e0] at hx
  replace hx : ∀ W, (Instr.index 9 (.string ⟨s.toArray⟩) (.int .i64 (F : Int))).run Tryd.prog W = .ok (.int .u8 47) W := hx
  have HX := Lib.hid hx
  have EXT := Lib.hid (ext_to s F)
  have EXF := Lib.hid (ext_from s (F + 1))
  have KN := Lib.hid (fun W : World => nums_len (s.drop (F + 1)) (by rw [List.length_drop]; omega) W)
  clear hx e0
  rw [hn] at KN
  simp only [Option.isSome_some, Option.getD_some] at KN
  clear hn
  have hE2 : (E != 0) = true := by simp [bne, hE]
  have hE3 : ¬ E = 0 := by simpa using hE
  go_enter Tryd.func8, Tryd.ntmps8
  go_wp2
  go_loopw [4] (fun iv wr => ∃ k : Nat, k ≤ F ∧ iv = .int .i64 k ∧ wr = w.alloc (.cells #[.bool false, .int .u64 0, .int .u64 0, .int .i64 0] 30)) (fun iv _ => s.length - (intOf iv).toNat)
  case atStart => exact ⟨0, by omega, rfl, by first | rfl | trivial⟩
  case round =>
    obtain ⟨k, hk, rfl, rfl⟩ := hrel
    by_cases hlt : k < F
    · have hx := index_list s k (by omega)
      have hn := NO.out k (by omega) hlt
      generalize s[k]'(by omega) = x at hx hn
      obtain ⟨x0, x1, x2⟩ := byte_ne47 hn
      clear hn
      go_wp2_with fail
      go_roundw
      case rel => exact ⟨k + 1, by omega, by go_num, by first | rfl | trivial⟩
      case measure => simp [intOf]; omega
    · obtain rfl : k = F := by omega
      have hx := HX.out
      have hF1 : (k : Int) < (s.length : Int) := by omega
      have hF2 : (k : Int) ≤ (s.length : Int) := by omega
      have hF3 : (k : Int) + 1 ≤ (s.length : Int) := by omega
      have hF4 : ((k : Int) + 1).toNat = k + 1 := by omega
      clear HX NO hlt hk
      go_wp2_with fail
      rw [EXT.out]
      refine (KA.out _).mono ?_
      rintro e w1 ⟨rfl, hb1⟩
      have b1 := thenBelow b0 hb1
      have HR1 := Lib.hid (HR.out.keep hb1)
      clear hb1 b0 HR KA
      go_wp2_with fail
      first | rw [EXF.out] | rw [hF4, hsz, EXF.out] | rw [hsz, EXF.out] | rw [hF4, EXF.out]
      refine (KN.out _).mono ?_
      rintro e w2 ⟨⟨v, rfl, ov⟩, hb2⟩
      have HA := (AddrAt.new w1 sx H L 24).keep hb2
      have b2 := thenBelow (thenBelow b1 ((Below.refl _ w1).alloc (Nat.le_refl _) (.cells #[.bool sx, .int .u64 H, .int .u64 L] 24))) hb2
      have HRX := Lib.hid ((HR1.out.alloc (.cells #[.bool sx, .int .u64 H, .int .u64 L] 24)).keep hb2)
      have hw21 : w1.heap.size ≤ w2.heap.size := by have := hb2.size; simp at this; omega
      have hw1 := b1.size
      clear hb2 b1 HR1 KN EXT EXF
      obtain ⟨g, c, rfl, hg0, hg1⟩ := ov.form (by simp)
      have cN : w2.cell? ⟨g, 0, none⟩ = some (.int .i64 n) := by rw [ov.cellAt 0 (by simp)]; rfl
      obtain ⟨a0, a1, a2, al⟩ := HA
      clear ov
      go_wp2_with fail
      go_region
      go_wp2_with fail
      refine (KT.out _).mono ?_
      rintro e w3 ⟨rfl, hb3⟩
      have bq : Below w2.heap.size w2 (w2.alloc (.cells #[.bool sx, .int .u64 H, .int .u64 L, .int .i64 n] 30)).drew := ((Below.refl _ w2).alloc (Nat.le_refl _) _).drew
      have b3 := thenBelow (thenBelow b2 bq) hb3
      have hr2 : w.heap.size < w2.heap.size := HRX.out.1.2.2.2.2
      have HRX := Lib.hid ((HRX.out.keep bq).keep hb3)
      obtain ⟨q0, q1, q2, q3, ql⟩ := ((PreAt.new w2 sx H L n 30).keep (Below.refl _ _).drew).keep hb3
      have hw2 := b2.size
      clear a0 a1 a2 al cN hb3 bq b2 KT
      obtain ⟨⟨r0, r1, r2, r3, rl⟩, rf⟩ := HRX.out
      have f0 := rf 0; have f1 := rf 1; have f2 := rf 2; have f3 := rf 3
      clear rf HRX
      go_wp2
      try simp only [Exit.inBlock, Exit.then]
      refine bodyPost_ret (v := .tuple #[.agg #[.bool false, .int .u64 0, .int .u64 0, .int .i64 0], .int .i64 4]) (by simp [results, Tryd.results8, go_sem, r0, r1, r2, r3]) rfl ?_
      exact ⟨rfl, by first | exact (((b3.setCell (by simp) _).setCell (by simp) _).setCell (by simp) _).setCell (by simp) _ | exact b3 | go_grown⟩
set_option maxHeartbeats 4000000 in
set_option maxRecDepth 100000 in
theorem pd_ne (s : List UInt8) (hl : s.length ≤ 600) (F : Nat) (hF : F < s.length) (e0 : s[F] = 47) (hno : ∀ k (h : k < s.length), k < F → s[k] ≠ 47) (sx : Bool) (H L : Int) (KA : Hid (∀ W : World, Calls Tryd.prog 6 #[.string ⟨(s.take F).toArray⟩] W fun e w' => e = .returned (.tuple #[.agg #[.bool sx, .int .u64 H, .int .u64 L], .int .i64 0]) ∧ Below W.heap.size W w')) (n : Int) (hn : rn 10 128 47 [] (-1) (s.drop (F + 1)) = some [n]) (T : List UInt8) (E : Int) (KT : Hid (∀ W : World, Calls Tryd.prog 17 #[.agg #[.bool sx, .int .u64 H, .int .u64 L, .int .i64 n]] W fun e w' => e = .returned (.tuple #[.string ⟨T.toArray⟩, .int .i64 E]) ∧ Below W.heap.size W w')) (hE : E = 0) (hT : (T == s) = false) (w : World) :
    Calls Tryd.prog 8 #[.string ⟨s.toArray⟩] w fun e w' => e = .returned pErr ∧ Below w.heap.size w w' := by
  have hsz : (⟨s.toArray⟩ : ByteArray).size = s.length := by simp [ByteArray.size]
  have hli : ¬ 600 < (s.length : Int) := by omega
  have NO := Lib.hid hno
  have HR := Lib.hid (PreV.new w false 0 0 0 30)
  have b0 : Below w.heap.size w (w.alloc (.cells #[.bool false, .int .u64 0, .int .u64 0, .int .i64 0] 30)) := (Below.refl _ w).alloc (Nat.le_refl _) _
  clear hno
  have hx := index_list s F hF
  rw [e0] at hx
  replace hx : ∀ W, (Instr.index 9 (.string ⟨s.toArray⟩) (.int .i64 (F : Int))).run Tryd.prog W = .ok (.int .u8 47) W := hx
  have HX := Lib.hid hx
  have EXT := Lib.hid (ext_to s F)
  have EXF := Lib.hid (ext_from s (F + 1))
  have KN := Lib.hid (fun W : World => nums_len (s.drop (F + 1)) (by rw [List.length_drop]; omega) W)
  clear hx e0
  rw [hn] at KN
  simp only [Option.isSome_some, Option.getD_some] at KN
  clear hn
  subst hE
  go_enter Tryd.func8, Tryd.ntmps8
  go_wp2
  go_loopw [4] (fun iv wr => ∃ k : Nat, k ≤ F ∧ iv = .int .i64 k ∧ wr = w.alloc (.cells #[.bool false, .int .u64 0, .int .u64 0, .int .i64 0] 30)) (fun iv _ => s.length - (intOf iv).toNat)
  case atStart => exact ⟨0, by omega, rfl, by first | rfl | trivial⟩
  case round =>
    obtain ⟨k, hk, rfl, rfl⟩ := hrel
    by_cases hlt : k < F
    · have hx := index_list s k (by omega)
      have hn := NO.out k (by omega) hlt
      generalize s[k]'(by omega) = x at hx hn
      obtain ⟨x0, x1, x2⟩ := byte_ne47 hn
      clear hn
      go_wp2_with fail
      go_roundw
      case rel => exact ⟨k + 1, by omega, by go_num, by first | rfl | trivial⟩
      case measure => simp [intOf]; omega
    · obtain rfl : k = F := by omega
      have hx := HX.out
      have hF1 : (k : Int) < (s.length : Int) := by omega
      have hF2 : (k : Int) ≤ (s.length : Int) := by omega
      have hF3 : (k : Int) + 1 ≤ (s.length : Int) := by omega
      have hF4 : ((k : Int) + 1).toNat = k + 1 := by omega
      clear HX NO hlt hk
      go_wp2_with fail
      rw [EXT.out]
      refine (KA.out _).mono ?_
      rintro e w1 ⟨rfl, hb1⟩
      have b1 := thenBelow b0 hb1
      have HR1 := Lib.hid (HR.out.keep hb1)
      clear hb1 b0 HR KA
      go_wp2_with fail
      first | rw [EXF.out] | rw [hF4, hsz, EXF.out] | rw [hsz, EXF.out] | rw [hF4, EXF.out]
      refine (KN.out _).mono ?_
      rintro e w2 ⟨⟨v, rfl, ov⟩, hb2⟩
      have HA := (AddrAt.new w1 sx H L 24).keep hb2
      have b2 := thenBelow (thenBelow b1 ((Below.refl _ w1).alloc (Nat.le_refl _) (.cells #[.bool sx, .int .u64 H, .int .u64 L] 24))) hb2
      have HRX := Lib.hid ((HR1.out.alloc (.cells #[.bool sx, .int .u64 H, .int .u64 L] 24)).keep hb2)
      have hw21 : w1.heap.size ≤ w2.heap.size := by have := hb2.size; simp at this; omega
      have hw1 := b1.size
      clear hb2 b1 HR1 KN EXT EXF
      obtain ⟨g, c, rfl, hg0, hg1⟩ := ov.form (by simp)
      have cN : w2.cell? ⟨g, 0, none⟩ = some (.int .i64 n) := by rw [ov.cellAt 0 (by simp)]; rfl
      obtain ⟨a0, a1, a2, al⟩ := HA
      clear ov
      go_wp2_with fail
      go_region
      go_wp2_with fail
      refine (KT.out _).mono ?_
      rintro e w3 ⟨rfl, hb3⟩
      have bq : Below w2.heap.size w2 (w2.alloc (.cells #[.bool sx, .int .u64 H, .int .u64 L, .int .i64 n] 30)).drew := ((Below.refl _ w2).alloc (Nat.le_refl _) _).drew
      have b3 := thenBelow (thenBelow b2 bq) hb3
      have hr2 : w.heap.size < w2.heap.size := HRX.out.1.2.2.2.2
      have HRX := Lib.hid ((HRX.out.keep bq).keep hb3)
      obtain ⟨q0, q1, q2, q3, ql⟩ := ((PreAt.new w2 sx H L n 30).keep (Below.refl _ _).drew).keep hb3
      have hw2 := b2.size
      clear a0 a1 a2 al cN hb3 bq b2 KT
      obtain ⟨⟨r0, r1, r2, r3, rl⟩, rf⟩ := HRX.out
      have f0 := rf 0; have f1 := rf 1; have f2 := rf 2; have f3 := rf 3
      clear rf HRX
      go_wp2
      try simp only [Exit.inBlock, Exit.then]
      refine bodyPost_ret (v := .tuple #[.agg #[.bool false, .int .u64 0, .int .u64 0, .int .i64 0], .int .i64 4]) (by simp [results, Tryd.results8, go_sem, r0, r1, r2, r3]) rfl ?_
      exact ⟨rfl, by first | exact (((b3.setCell (by simp) _).setCell (by simp) _).setCell (by simp) _).setCell (by simp) _ | exact b3 | go_grown⟩
set_option maxHeartbeats 4000000 in
set_option maxRecDepth 100000 in
theorem pd_yes (s : List UInt8) (hl : s.length ≤ 600) (F : Nat) (hF : F < s.length) (e0 : s[F] = 47) (hno : ∀ k (h : k < s.length), k < F → s[k] ≠ 47) (sx : Bool) (H L : Int) (KA : Hid (∀ W : World, Calls Tryd.prog 6 #[.string ⟨(s.take F).toArray⟩] W fun e w' => e = .returned (.tuple #[.agg #[.bool sx, .int .u64 H, .int .u64 L], .int .i64 0]) ∧ Below W.heap.size W w')) (n : Int) (hn : rn 10 128 47 [] (-1) (s.drop (F + 1)) = some [n]) (KT : Hid (∀ W : World, Calls Tryd.prog 17 #[.agg #[.bool sx, .int .u64 H, .int .u64 L, .int .i64 n]] W fun e w' => e = .returned (.tuple #[.string ⟨s.toArray⟩, .int .i64 0]) ∧ Below W.heap.size W w')) (w : World) :
    Calls Tryd.prog 8 #[.string ⟨s.toArray⟩] w fun e w' => e = .returned (.tuple #[.agg #[.bool sx, .int .u64 H, .int .u64 L, .int .i64 n], .int .i64 0]) ∧ Below w.heap.size w w' := by
  have hsz : (⟨s.toArray⟩ : ByteArray).size = s.length := by simp [ByteArray.size]
  have hli : ¬ 600 < (s.length : Int) := by omega
  have NO := Lib.hid hno
  have HR := Lib.hid (PreV.new w false 0 0 0 30)
  have b0 : Below w.heap.size w (w.alloc (.cells #[.bool false, .int .u64 0, .int .u64 0, .int .i64 0] 30)) := (Below.refl _ w).alloc (Nat.le_refl _) _
  clear hno
  have hx := index_list s F hF
  rw [e0] at hx
  replace hx : ∀ W, (Instr.index 9 (.string ⟨s.toArray⟩) (.int .i64 (F : Int))).run Tryd.prog W = .ok (.int .u8 47) W := hx
  have HX := Lib.hid hx
  have EXT := Lib.hid (ext_to s F)
  have EXF := Lib.hid (ext_from s (F + 1))
  have KN := Lib.hid (fun W : World => nums_len (s.drop (F + 1)) (by rw [List.length_drop]; omega) W)
  clear hx e0
  rw [hn] at KN
  simp only [Option.isSome_some, Option.getD_some] at KN
  clear hn
  go_enter Tryd.func8, Tryd.ntmps8
  go_wp2
  go_loopw [4] (fun iv wr => ∃ k : Nat, k ≤ F ∧ iv = .int .i64 k ∧ wr = w.alloc (.cells #[.bool false, .int .u64 0, .int .u64 0, .int .i64 0] 30)) (fun iv _ => s.length - (intOf iv).toNat)
  case atStart => exact ⟨0, by omega, rfl, by first | rfl | trivial⟩
  case round =>
    obtain ⟨k, hk, rfl, rfl⟩ := hrel
    by_cases hlt : k < F
    · have hx := index_list s k (by omega)
      have hn := NO.out k (by omega) hlt
      generalize s[k]'(by omega) = x at hx hn
      obtain ⟨x0, x1, x2⟩ := byte_ne47 hn
      clear hn
      go_wp2_with fail
      go_roundw
      case rel => exact ⟨k + 1, by omega, by go_num, by first | rfl | trivial⟩
      case measure => simp [intOf]; omega
    · obtain rfl : k = F := by omega
      have hx := HX.out
      have hF1 : (k : Int) < (s.length : Int) := by omega
      have hF2 : (k : Int) ≤ (s.length : Int) := by omega
      have hF3 : (k : Int) + 1 ≤ (s.length : Int) := by omega
      have hF4 : ((k : Int) + 1).toNat = k + 1 := by omega
      clear HX NO hlt hk
      go_wp2_with fail
      rw [EXT.out]
      refine (KA.out _).mono ?_
      rintro e w1 ⟨rfl, hb1⟩
      have b1 := thenBelow b0 hb1
      have HR1 := Lib.hid (HR.out.keep hb1)
      clear hb1 b0 HR KA
      go_wp2_with fail
      first | rw [EXF.out] | rw [hF4, hsz, EXF.out] | rw [hsz, EXF.out] | rw [hF4, EXF.out]
      refine (KN.out _).mono ?_
      rintro e w2 ⟨⟨v, rfl, ov⟩, hb2⟩
      have HA := (AddrAt.new w1 sx H L 24).keep hb2
      have b2 := thenBelow (thenBelow b1 ((Below.refl _ w1).alloc (Nat.le_refl _) (.cells #[.bool sx, .int .u64 H, .int .u64 L] 24))) hb2
      have HRX := Lib.hid ((HR1.out.alloc (.cells #[.bool sx, .int .u64 H, .int .u64 L] 24)).keep hb2)
      have hw21 : w1.heap.size ≤ w2.heap.size := by have := hb2.size; simp at this; omega
      have hw1 := b1.size
      clear hb2 b1 HR1 KN EXT EXF
      obtain ⟨g, c, rfl, hg0, hg1⟩ := ov.form (by simp)
      have cN : w2.cell? ⟨g, 0, none⟩ = some (.int .i64 n) := by rw [ov.cellAt 0 (by simp)]; rfl
      obtain ⟨a0, a1, a2, al⟩ := HA
      clear ov
      go_wp2_with fail
      go_region
      go_wp2_with fail
      refine (KT.out _).mono ?_
      rintro e w3 ⟨rfl, hb3⟩
      have bq : Below w2.heap.size w2 (w2.alloc (.cells #[.bool sx, .int .u64 H, .int .u64 L, .int .i64 n] 30)).drew := ((Below.refl _ w2).alloc (Nat.le_refl _) _).drew
      have b3 := thenBelow (thenBelow b2 bq) hb3
      have hr2 : w.heap.size < w2.heap.size := HRX.out.1.2.2.2.2
      have HRX := Lib.hid ((HRX.out.keep bq).keep hb3)
      obtain ⟨q0, q1, q2, q3, ql⟩ := ((PreAt.new w2 sx H L n 30).keep (Below.refl _ _).drew).keep hb3
      have hw2 := b2.size
      clear a0 a1 a2 al cN hb3 bq b2 KT
      obtain ⟨⟨r0, r1, r2, r3, rl⟩, rf⟩ := HRX.out
      have f0 := rf 0; have f1 := rf 1; have f2 := rf 2; have f3 := rf 3
      have hne : ¬ w.heap.size = w2.heap.size := by omega
      clear rf HRX
      go_wp2
      try simp only [Exit.inBlock, Exit.then]
      refine bodyPost_ret (v := .tuple #[.agg #[.bool sx, .int .u64 H, .int .u64 L, .int .i64 n], .int .i64 0]) (by simp [results, Tryd.results8, go_sem, r0, r1, r2, r3]) rfl ?_
      exact ⟨rfl, (((b3.setCell (by simp) _).setCell (by simp) _).setCell (by simp) _).setCell (by simp) _⟩
end Go.Proofs.YtojdlhiibffnfabDoor

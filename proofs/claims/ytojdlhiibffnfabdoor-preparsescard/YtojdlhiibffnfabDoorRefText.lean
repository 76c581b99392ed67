/-
  The contracts of the document's numberText, partsOf, AddrText.
-/
import Derived.Test.YtojdlhiibffnfabDoorText
import Derived.Test.YtojdlhiibffnfabDoorBitsOf
namespace Go.Proofs.YtojdlhiibffnfabDoor
open Go.RowKit Go.Sort
set_option linter.unusedVariables false
set_option linter.unusedSimpArgs false

theorem digEx (k : Nat) (h : k < 16) : ((⟨#[48, 49, 50, 51, 52, 53, 54, 55, 56, 57, 97, 98, 99, 100, 101, 102]⟩ : ByteArray).extract k 16).extract 0 1 = ⟨#[dig k]⟩ := by
  match k, h with
  | 0, _ => rfl
  | 1, _ => rfl
  | 2, _ => rfl
  | 3, _ => rfl
  | 4, _ => rfl
  | 5, _ => rfl
  | 6, _ => rfl
  | 7, _ => rfl
  | 8, _ => rfl
  | 9, _ => rfl
  | 10, _ => rfl
  | 11, _ => rfl
  | 12, _ => rfl
  | 13, _ => rfl
  | 14, _ => rfl
  | 15, _ => rfl
  | n + 16, h => exact absurd h (by omega)

set_option maxHeartbeats 1000000 in
theorem numberText_small (base n : Nat) (hb : base = 10 ∨ base = 16) (h : n < base) (w : World) :
    Calls Tryd.prog 26 #[.int .i64 (n : Int), .int .i64 (base : Int)] w fun e w' => e = .returned (.string ⟨[dig n].toArray⟩) ∧ w = w' := by
  have b1 : base ≤ 16 := by omega
  have b2 : 10 ≤ base := by omega
  have hm : n % base = n := Nat.mod_eq_of_lt h
  have hd := Lib.hid (digEx n (by omega))
  clear hb
  go_enter Tryd.func26, Tryd.ntmps26
  go_wp2
  go_ret
  exact ⟨congrArg (fun b => Ending.returned (.string b)) hd.out, rfl⟩

theorem numText_len (base f n : Nat) : (numText base f n).length ≤ f := by
  induction f generalizing n with
  | zero => simp [numText]
  | succ f ih =>
    simp only [numText]
    split
    · simp
    · have := ih (n / base); simp; omega

set_option maxHeartbeats 1000000 in
theorem numberText_calls (base : Nat) (hb : base = 10 ∨ base = 16) : ∀ (f n : Nat), f ≤ 8 → n < base ^ f → n < 1000000 → 0 < f → ∀ w : World,
    Calls Tryd.prog 26 #[.int .i64 (n : Int), .int .i64 (base : Int)] w fun e w' => e = .returned (.string ⟨(numText base f n).toArray⟩) ∧ w = w' := by
  intro f
  induction f with
  | zero => intro n _ _ _ h0; omega
  | succ f ih =>
    intro n hf hn hm _ w
    by_cases hs : n < base
    · have e : numText base (f + 1) n = [dig n] := by simp [numText, hs]
      rw [e]
      exact numberText_small base n hb hs w
    · have hf0 : 0 < f := by
        rcases Nat.eq_zero_or_pos f with rfl | h
        · simp at hn; omega
        · exact h
      have e : numText base (f + 1) n = numText base f (n / base) ++ [dig (n % base)] := by simp [numText, hs]
      have b1 : base ≤ 16 := by omega
      have b2 : 10 ≤ base := by omega
      have hdl : n / base ≤ n := Nat.div_le_self _ _
      have hq : n / base < base ^ f := by rw [Nat.div_lt_iff_lt_mul (by omega), ← Nat.pow_succ]; exact hn
      have hr : n % base < base := Nat.mod_lt _ (by omega)
      have c := ih (n / base) (by omega) hq (by omega) hf0 w
      have hd := digEx (n % base) (by omega)
      have hl := numText_len base f (n / base)
      rw [e]
      have hadd : ∀ W, (Op.stringOp .add ⟨(numText base f (n / base)).toArray⟩ ⟨[dig (n % base)].toArray⟩).run Tryd.prog W = .ok (.string ⟨(numText base f (n / base) ++ [dig (n % base)]).toArray⟩) W := fun W => run_string_add_lists W _ _ (by omega) (by simp)
      obtain ⟨t, ht⟩ : ∃ t, numText base f (n / base) = t := ⟨_, rfl⟩
      obtain ⟨r, hr2⟩ : ∃ r, n % base = r := ⟨_, rfl⟩
      obtain ⟨q, hq2⟩ : ∃ q, n / base = q := ⟨_, rfl⟩
      have hri : (n : Int) % base = r := by rw [← hr2]; simp
      have hqi : (n : Int) / base = q := by rw [← hq2]; simp
      rw [ht] at c hadd
      rw [ht]
      rw [hq2] at c hdl
      rw [hr2] at hd hadd hr
      rw [hr2]
      obtain ⟨tr, htr⟩ : ∃ tr, t ++ [dig r] = tr := ⟨_, rfl⟩
      rw [htr] at hadd
      rw [htr]
      have C := Lib.hid c
      clear c ih e hq hl ht htr hq2 hb hn
      have hm2 : n % base = r := hr2
      go_enter Tryd.func26, Tryd.ntmps26
      go_wp2_with fail
      refine C.out.mono ?_
      rintro e w1 ⟨rfl, rfl⟩
      go_wp2
      go_ret
      exact ⟨rfl, rfl⟩

/-- Parts of so many bits: the full ones, and what there is of the next one, when k bits have been taken. -/
def chunk (wide : Nat) (l : List Int) (j : Nat) : Int := spell ((l.drop (j * wide)).take wide)
def partsAt (wide : Nat) (l : List Int) (k : Nat) : List Int :=
  (List.range (k / wide)).map (chunk wide l) ++ (if k % wide = 0 then [] else [spell ((l.drop (k / wide * wide)).take (k % wide))])
/-- .. and with a 0 for a part that begins here. -/
def partsOn (wide : Nat) (l : List Int) (k : Nat) : List Int := if k % wide = 0 then partsAt wide l k ++ [0] else partsAt wide l k
theorem partsOn_eq (wide : Nat) (l : List Int) (k : Nat) : partsOn wide l k = (List.range (k / wide)).map (chunk wide l) ++ [spell ((l.drop (k / wide * wide)).take (k % wide))] := by
  unfold partsOn partsAt
  by_cases h : k % wide = 0
  · simp [h, spell_nil]
  · simp [h]
theorem partsOn_length (wide : Nat) (l : List Int) (k : Nat) : (partsOn wide l k).length = k / wide + 1 := by rw [partsOn_eq]; simp
theorem partsOn_get (wide : Nat) (l : List Int) (k : Nat) : (partsOn wide l k)[k / wide]? = some (spell ((l.drop (k / wide * wide)).take (k % wide))) := by
  rw [partsOn_eq, List.getElem?_append_right (by simp)]; simp
theorem parts_step (wide : Nat) (l : List Int) (k : Nat) (hw : 2 ≤ wide) (hk : k < l.length) :
    partsAt wide l (k + 1) = (partsOn wide l k).set (k / wide) (2 * spell ((l.drop (k / wide * wide)).take (k % wide)) + l[k]) := by
  have hdm := Nat.div_add_mod k wide
  have hr := Nat.mod_lt k (show 0 < wide by omega)
  have hsp : spell ((l.drop (k / wide * wide)).take (k % wide + 1)) = 2 * spell ((l.drop (k / wide * wide)).take (k % wide)) + l[k] := by
    have hlt : k % wide < (l.drop (k / wide * wide)).length := by rw [List.length_drop, Nat.mul_comm]; omega
    rw [List.take_succ_eq_append_getElem hlt, spell_snoc, List.getElem_drop]
    congr 2
    rw [Nat.mul_comm]; omega
  rw [partsOn_eq, List.set_append_right _ _ (by simp)]
  simp only [List.length_map, List.length_range, Nat.sub_self, List.set_cons_zero]
  rw [← hsp]
  by_cases he : k % wide + 1 = wide
  · have e1 : (k + 1) / wide = k / wide + 1 := by
      rw [Nat.div_eq_iff (by omega)]
      have : wide * (k / wide) = k / wide * wide := Nat.mul_comm _ _
      have h2 : (k / wide + 1) * wide = k / wide * wide + wide := Nat.succ_mul _ _
      omega
    have e2 : (k + 1) % wide = 0 := by
      have := Nat.div_add_mod (k + 1) wide
      rw [e1, Nat.mul_add, Nat.mul_one] at this
      omega
    unfold partsAt
    rw [e1, e2, if_pos rfl, List.range_succ, List.map_append, he]
    simp [chunk]
  · have e1 : (k + 1) / wide = k / wide := by
      rw [Nat.div_eq_iff (by omega)]
      have : wide * (k / wide) = k / wide * wide := Nat.mul_comm _ _
      omega
    have e2 : (k + 1) % wide = k % wide + 1 := by
      have := Nat.div_add_mod (k + 1) wide
      rw [e1] at this
      omega
    unfold partsAt
    rw [e1, e2, if_neg (by omega)]
theorem part_bd (l : List Int) (o r : Nat) (hr : r ≤ 16) (h : ∀ b ∈ l, b = 0 ∨ b = 1) : 0 ≤ spell ((l.drop o).take r) ∧ spell ((l.drop o).take r) < 65536 := by
  have h1 := spell_bd ((l.drop o).take r) (fun b hb => h b (List.mem_of_mem_drop (List.mem_of_mem_take hb)))
  have h2 : (2 : Int) ^ ((l.drop o).take r).length ≤ 65536 := by
    have : ((l.drop o).take r).length ≤ 16 := by rw [List.length_take]; omega
    have h3 : (2 : Nat) ^ ((l.drop o).take r).length ≤ 2 ^ 16 := Nat.pow_le_pow_right (by omega) this
    have h4 : ((2 ^ ((l.drop o).take r).length : Nat) : Int) ≤ ((2 ^ 16 : Nat) : Int) := by exact_mod_cast h3
    simpa using h4
  omega

theorem ownsLower {w : World} {base base' : Nat} {e : TypeId} {size : Nat} {v : Value} {n : Nat} {xs : List Value} (h : w.ownsRow base e size v n xs) (hb : base' ≤ base) : w.ownsRow base' e size v n xs := by
  refine ⟨h.1, ?_⟩
  rcases h.2 with h2 | ⟨g, cap, cur, a, b, c⟩
  · exact .inl h2
  · exact .inr ⟨g, cap, cur, a, Nat.le_trans hb b, c⟩
theorem bitsL_01' (six : Bool) (hi lo : Int) : ∀ b ∈ bitsL six hi lo, b = 0 ∨ b = 1 := by
  cases six
  · exact bitsTo_01 lo 32 32
  · intro b hb
    simp only [bitsL, if_true, List.mem_append] at hb
    rcases hb with hb | hb
    · exact bitsTo_01 _ _ _ b hb
    · exact bitsTo_01 _ _ _ b hb

set_option maxHeartbeats 2000000 in
set_option maxRecDepth 100000 in
theorem partsOf_four (hi lo : Int) (h0 : 0 ≤ hi) (h1 : hi ≤ 18446744073709551615) (l0 : 0 ≤ lo) (l1 : lo ≤ 18446744073709551615) (l : List Int) (hl : bitsL false hi lo = l) (w : World) :
    Calls Tryd.prog 25 #[.agg #[.bool false, .int .u64 hi, .int .u64 lo], .int .i64 8] w fun e w' => ∃ v, e = .returned v ∧ w'.ownsRow w.heap.size 3 1 v 4 ((partsAt 8 l 32).map (Value.int .i64)) ∧ Below w.heap.size w w' := by
  have hlen : l.length = 32 := by rw [← hl, bitsL_length]; rfl
  have h01 : ∀ b ∈ l, b = 0 ∨ b = 1 := by rw [← hl]; exact bitsL_01' false hi lo
  have HL := Lib.hid hlen; have H01 := Lib.hid h01; have HLL := Lib.hid hl
  clear hl hlen h01
  obtain ⟨i0, hii, hz0, hz1, hz2⟩ := info_parts info_int
  go_enter Tryd.func25, Tryd.ntmps25
  go_wp2_with fail
  refine (bitsOf_four' hi lo l0 l1 _).mono ?_
  rintro e w1 ⟨g, cap, rfl, hown, hb⟩
  rw [HLL.out] at hown
  have hs := hb.size
  have bb := thenBelow ((Below.refl _ w).alloc (Nat.le_refl _) _) hb
  simp only [World.size_alloc] at hs hb hown
  have hg2 := (hown.lt g rfl).2
  have HC : Hid (∀ j, j < 32 → ∀ b, l[j]? = some b → w1.cell? ⟨g, j, none⟩ = some (.int .i64 b)) := fun j hj b hbj => by rw [hown.cellAt j (by omega), List.getElem?_map, hbj]; rfl
  clear hown hb
  go_wp2
  go_loopw [5, 11] (fun v i wr => ∃ k : Nat, k ≤ 32 ∧ i = .int .i64 k ∧ wr.ownsRow w1.heap.size 3 1 v (partsAt 8 l k).length ((partsAt 8 l k).map (Value.int .i64)) ∧ Below w1.heap.size w1 wr)
    (fun _ i _ => 32 - (intOf i).toNat)
  case atStart => exact ⟨0, by omega, rfl, by simpa [partsAt] using World.ownsRow_nil _ _ _ _, Below.refl _ _⟩
  case round =>
    obtain ⟨k, hk, rfl, hown, hnx⟩ := hrel
    have hsz := hnx.size
    by_cases hlt : k < 32
    · have hkl : k < l.length := by rw [HL.out]; exact hlt
      obtain ⟨b, hb⟩ : ∃ b, l[k] = b := ⟨_, rfl⟩
      have hcell : wr.cell? ⟨g, k, none⟩ = some (.int .i64 b) := (hnx.cell (p := ⟨g, k, none⟩) hg2).trans (HC.out k hlt b (by rw [List.getElem?_eq_getElem hkl, hb]))
      have hb01 : b = 0 ∨ b = 1 := H01.out b (by rw [← hb]; exact List.getElem_mem hkl)
      have hstep := parts_step 8 l k (by omega) hkl
      have hget := partsOn_get 8 l k
      have hpl := partsOn_length 8 l k
      have hbd := part_bd l (k / 8 * 8) (k % 8) (by omega) H01.out
      rw [hb] at hstep
      obtain ⟨x, hx⟩ : ∃ x, spell ((l.drop (k / 8 * 8)).take (k % 8)) = x := ⟨_, rfl⟩
      obtain ⟨m, hm⟩ : ∃ m, k / 8 = m := ⟨_, rfl⟩
      rw [hx] at hstep hget hbd
      rw [hm] at hstep hget hpl
      have HSTEP := Lib.hid hstep; have HGET := Lib.hid hget; have HPL := Lib.hid hpl; have HM := Lib.hid hm
      obtain ⟨hx0, hx1⟩ := hbd
      have hb0 : 0 ≤ b := by omega
      have hb1 : b ≤ 1 := by omega
      have hm8 : m < 32 := by omega
      clear hstep hget hpl hm hx hb hb01
      by_cases hr : k % 8 = 0
      · have hrb : ((k : Int) % 8 == 0) = true := by simp; omega
        have hpo : partsOn 8 l k = partsAt 8 l k ++ [0] := by unfold partsOn; rw [if_pos hr]
        have hpl2 : (partsAt 8 l k).length + 1 = m + 1 := by rw [← HPL.out, hpo]; simp
        have HPO := Lib.hid hpo; have HPL2 := Lib.hid hpl2
        have hn8 : (partsAt 8 l k).length < 32 := by omega
        clear hpo hpl2 hr
        go_wp2_with (first
          | (at_builtin; refine wpList_append_own _ rfl _ _ 37 rfl w1.heap.size 3 i0 (.int .i64 0) 1 8 Tryd.underlying37 hii hz0 hz1 hz2 rfl (by decide) _ _ _ rfl (hown.alloc _) ⟨wr.heap.size, 0, none⟩ 1 1 [.int .i64 0] rfl rfl ?c1 ?c2 ?c3 ?c4 ?c5 ?_))
        case c1 => exact cell_one_new _ _ _
        case c2 => intro u hu; simp at hu; subst hu; rfl
        case c3 => unfold maxLen; omega
        case c4 => omega
        case c5 => simp; omega
        · intro v' w2 hown' hgrow _
          have hb2 := below_app hnx (Nat.le_refl _) (Nat.le_refl _) hown hgrow
          have hown2 : w2.ownsRow w1.heap.size 3 1 v' (m + 1) ((partsOn 8 l k).map (Value.int .i64)) := by rw [HPO.out, List.map_append, ← HPL2.out]; exact hown'
          obtain ⟨g2, cap2, rfl, hg3, hg4⟩ := hown2.form (by omega)
          have hcm : w2.cell? ⟨g2, m, none⟩ = some (.int .i64 x) := by rw [hown2.cellAt m (by omega), List.getElem?_map, HGET.out]; rfl
          have hfm := hown2.frozenAt m
          have hst := (hown2.stored m (.int .i64 (2 * x + b))).1
          rw [← List.map_set, ← HSTEP.out] at hst
          have hln : (partsAt 8 l (k + 1)).length = m + 1 := by rw [HSTEP.out, List.length_set, HPL.out]
          have HST := Lib.hid hst; have HLN := Lib.hid hln
          clear hown' hgrow hown hnx hcell hst hln hown2
          go_wp2
          go_roundw
          case rel => exact ⟨k + 1, by omega, by go_num, by rw [HLN.out]; exact HST.out, hb2.setCell (by simpa using hg3) _⟩
          case measure => simp [intOf]; omega
      · have hrb : ((k : Int) % 8 == 0) = false := by simp; omega
        have hpo : partsOn 8 l k = partsAt 8 l k := by unfold partsOn; rw [if_neg hr]
        have hown2 : wr.ownsRow w1.heap.size 3 1 u5 (m + 1) ((partsOn 8 l k).map (Value.int .i64)) := by rw [← HPL.out, hpo]; exact hown
        clear hown hpo hr
        obtain ⟨g2, cap2, rfl, hg3, hg4⟩ := hown2.form (by omega)
        have hcm : wr.cell? ⟨g2, m, none⟩ = some (.int .i64 x) := by rw [hown2.cellAt m (by omega), List.getElem?_map, HGET.out]; rfl
        have hfm := hown2.frozenAt m
        have hst := (hown2.stored m (.int .i64 (2 * x + b))).1
        rw [← List.map_set, ← HSTEP.out] at hst
        have hln : (partsAt 8 l (k + 1)).length = m + 1 := by rw [HSTEP.out, List.length_set, HPL.out]
        have HST := Lib.hid hst; have HLN := Lib.hid hln
        clear hst hln hown2
        go_wp2
        go_roundw
        case rel => exact ⟨k + 1, by omega, by go_num, by rw [HLN.out]; exact HST.out, hnx.setCell (by simpa using hg3) _⟩
        case measure => simp [intOf]; omega
    · obtain rfl : k = 32 := by omega
      have hpl : (partsAt 8 l 32).length = 4 := by simp [partsAt]
      rw [hpl] at hown
      go_wp2
      go_ret
      exact ⟨_, rfl, ownsLower hown (by have := bb.size; omega), thenBelow bb hnx⟩

set_option maxHeartbeats 2000000 in
set_option maxRecDepth 100000 in
theorem partsOf_six (hi lo : Int) (h0 : 0 ≤ hi) (h1 : hi ≤ 18446744073709551615) (l0 : 0 ≤ lo) (l1 : lo ≤ 18446744073709551615) (l : List Int) (hl : bitsL true hi lo = l) (w : World) :
    Calls Tryd.prog 25 #[.agg #[.bool true, .int .u64 hi, .int .u64 lo], .int .i64 16] w fun e w' => ∃ v, e = .returned v ∧ w'.ownsRow w.heap.size 3 1 v 8 ((partsAt 16 l 128).map (Value.int .i64)) ∧ Below w.heap.size w w' := by
  have hlen : l.length = 128 := by rw [← hl, bitsL_length]; rfl
  have h01 : ∀ b ∈ l, b = 0 ∨ b = 1 := by rw [← hl]; exact bitsL_01' true hi lo
  have HL := Lib.hid hlen; have H01 := Lib.hid h01; have HLL := Lib.hid hl
  clear hl hlen h01
  obtain ⟨i0, hii, hz0, hz1, hz2⟩ := info_parts info_int
  go_enter Tryd.func25, Tryd.ntmps25
  go_wp2_with fail
  refine (bitsOf_six' hi lo h0 h1 l0 l1 _).mono ?_
  rintro e w1 ⟨g, cap, rfl, hown, hb⟩
  rw [HLL.out] at hown
  have hs := hb.size
  have bb := thenBelow ((Below.refl _ w).alloc (Nat.le_refl _) _) hb
  simp only [World.size_alloc] at hs hb hown
  have hg2 := (hown.lt g rfl).2
  have HC : Hid (∀ j, j < 128 → ∀ b, l[j]? = some b → w1.cell? ⟨g, j, none⟩ = some (.int .i64 b)) := fun j hj b hbj => by rw [hown.cellAt j (by omega), List.getElem?_map, hbj]; rfl
  clear hown hb
  go_wp2
  go_loopw [5, 11] (fun v i wr => ∃ k : Nat, k ≤ 128 ∧ i = .int .i64 k ∧ wr.ownsRow w1.heap.size 3 1 v (partsAt 16 l k).length ((partsAt 16 l k).map (Value.int .i64)) ∧ Below w1.heap.size w1 wr)
    (fun _ i _ => 128 - (intOf i).toNat)
  case atStart => exact ⟨0, by omega, rfl, by simpa [partsAt] using World.ownsRow_nil _ _ _ _, Below.refl _ _⟩
  case round =>
    obtain ⟨k, hk, rfl, hown, hnx⟩ := hrel
    have hsz := hnx.size
    by_cases hlt : k < 128
    · have hkl : k < l.length := by rw [HL.out]; exact hlt
      obtain ⟨b, hb⟩ : ∃ b, l[k] = b := ⟨_, rfl⟩
      have hcell : wr.cell? ⟨g, k, none⟩ = some (.int .i64 b) := (hnx.cell (p := ⟨g, k, none⟩) hg2).trans (HC.out k hlt b (by rw [List.getElem?_eq_getElem hkl, hb]))
      have hb01 : b = 0 ∨ b = 1 := H01.out b (by rw [← hb]; exact List.getElem_mem hkl)
      have hstep := parts_step 16 l k (by omega) hkl
      have hget := partsOn_get 16 l k
      have hpl := partsOn_length 16 l k
      have hbd := part_bd l (k / 16 * 16) (k % 16) (by omega) H01.out
      rw [hb] at hstep
      obtain ⟨x, hx⟩ : ∃ x, spell ((l.drop (k / 16 * 16)).take (k % 16)) = x := ⟨_, rfl⟩
      obtain ⟨m, hm⟩ : ∃ m, k / 16 = m := ⟨_, rfl⟩
      rw [hx] at hstep hget hbd
      rw [hm] at hstep hget hpl
      have HSTEP := Lib.hid hstep; have HGET := Lib.hid hget; have HPL := Lib.hid hpl; have HM := Lib.hid hm
      obtain ⟨hx0, hx1⟩ := hbd
      have hb0 : 0 ≤ b := by omega
      have hb1 : b ≤ 1 := by omega
      have hm8 : m < 128 := by omega
      clear hstep hget hpl hm hx hb hb01
      by_cases hr : k % 16 = 0
      · have hrb : ((k : Int) % 16 == 0) = true := by simp; omega
        have hpo : partsOn 16 l k = partsAt 16 l k ++ [0] := by unfold partsOn; rw [if_pos hr]
        have hpl2 : (partsAt 16 l k).length + 1 = m + 1 := by rw [← HPL.out, hpo]; simp
        have HPO := Lib.hid hpo; have HPL2 := Lib.hid hpl2
        have hn8 : (partsAt 16 l k).length < 128 := by omega
        clear hpo hpl2 hr
        go_wp2_with (first
          | (at_builtin; refine wpList_append_own _ rfl _ _ 37 rfl w1.heap.size 3 i0 (.int .i64 0) 1 8 Tryd.underlying37 hii hz0 hz1 hz2 rfl (by decide) _ _ _ rfl (hown.alloc _) ⟨wr.heap.size, 0, none⟩ 1 1 [.int .i64 0] rfl rfl ?c1 ?c2 ?c3 ?c4 ?c5 ?_))
        case c1 => exact cell_one_new _ _ _
        case c2 => intro u hu; simp at hu; subst hu; rfl
        case c3 => unfold maxLen; omega
        case c4 => omega
        case c5 => simp; omega
        · intro v' w2 hown' hgrow _
          have hb2 := below_app hnx (Nat.le_refl _) (Nat.le_refl _) hown hgrow
          have hown2 : w2.ownsRow w1.heap.size 3 1 v' (m + 1) ((partsOn 16 l k).map (Value.int .i64)) := by rw [HPO.out, List.map_append, ← HPL2.out]; exact hown'
          obtain ⟨g2, cap2, rfl, hg3, hg4⟩ := hown2.form (by omega)
          have hcm : w2.cell? ⟨g2, m, none⟩ = some (.int .i64 x) := by rw [hown2.cellAt m (by omega), List.getElem?_map, HGET.out]; rfl
          have hfm := hown2.frozenAt m
          have hst := (hown2.stored m (.int .i64 (2 * x + b))).1
          rw [← List.map_set, ← HSTEP.out] at hst
          have hln : (partsAt 16 l (k + 1)).length = m + 1 := by rw [HSTEP.out, List.length_set, HPL.out]
          have HST := Lib.hid hst; have HLN := Lib.hid hln
          clear hown' hgrow hown hnx hcell hst hln hown2
          go_wp2
          go_roundw
          case rel => exact ⟨k + 1, by omega, by go_num, by rw [HLN.out]; exact HST.out, hb2.setCell (by simpa using hg3) _⟩
          case measure => simp [intOf]; omega
      · have hrb : ((k : Int) % 16 == 0) = false := by simp; omega
        have hpo : partsOn 16 l k = partsAt 16 l k := by unfold partsOn; rw [if_neg hr]
        have hown2 : wr.ownsRow w1.heap.size 3 1 u5 (m + 1) ((partsOn 16 l k).map (Value.int .i64)) := by rw [← HPL.out, hpo]; exact hown
        clear hown hpo hr
        obtain ⟨g2, cap2, rfl, hg3, hg4⟩ := hown2.form (by omega)
        have hcm : wr.cell? ⟨g2, m, none⟩ = some (.int .i64 x) := by rw [hown2.cellAt m (by omega), List.getElem?_map, HGET.out]; rfl
        have hfm := hown2.frozenAt m
        have hst := (hown2.stored m (.int .i64 (2 * x + b))).1
        rw [← List.map_set, ← HSTEP.out] at hst
        have hln : (partsAt 16 l (k + 1)).length = m + 1 := by rw [HSTEP.out, List.length_set, HPL.out]
        have HST := Lib.hid hst; have HLN := Lib.hid hln
        clear hst hln hown2
        go_wp2
        go_roundw
        case rel => exact ⟨k + 1, by omega, by go_num, by rw [HLN.out]; exact HST.out, hnx.setCell (by simpa using hg3) _⟩
        case measure => simp [intOf]; omega
    · obtain rfl : k = 128 := by omega
      have hpl : (partsAt 16 l 128).length = 8 := by simp [partsAt]
      rw [hpl] at hown
      go_wp2
      go_ret
      exact ⟨_, rfl, ownsLower hown (by have := bb.size; omega), thenBelow bb hnx⟩

theorem bitsTo_part (x : Int) (n a b : Nat) (h : a + b ≤ n) : ((bitsTo x n n).drop a).take b = bitsTo x (n - a) b := by
  apply List.ext_getElem?
  intro j
  by_cases hj : j < b
  · rw [List.getElem?_take_of_lt hj, List.getElem?_drop, bitsTo_get _ _ _ _ (by omega), bitsTo_get _ _ _ _ hj, show n - 1 - (a + j) = n - a - 1 - j from by omega]
  · rw [List.getElem?_eq_none (by rw [List.length_take]; omega), List.getElem?_eq_none (by rw [bitsTo_length]; omega)]
theorem chunk_num (L n a b : Nat) (h : a + b ≤ n) : spell (((bitsTo (L : Int) n n).drop a).take b) = ((L / 2 ^ (n - a - b) % 2 ^ b : Nat) : Int) := by
  rw [bitsTo_part _ _ _ _ h, spell_bitsTo_nat L (n - a) b (by omega)]
theorem parts_four (hi : Int) (L : Nat) : partsAt 8 (bitsL false hi L) 32 = (fourP L).map (fun n : Nat => (n : Int)) := by
  show (List.range 4).map (chunk 8 (bitsTo (L : Int) 32 32)) ++ [] = _
  rw [List.append_nil, fourP, List.map_map]
  apply List.map_congr_left
  intro j hj
  have hj4 : j < 4 := List.mem_range.1 hj
  show spell (((bitsTo (L : Int) 32 32).drop (j * 8)).take 8) = _
  rw [chunk_num L 32 (j * 8) 8 (by omega), show 32 - j * 8 - 8 = 8 * (3 - j) from by omega]
  rfl
theorem parts_six (H L : Nat) : partsAt 16 (bitsL true H L) 128 = (grpP H L).map (fun n : Nat => (n : Int)) := by
  have hl : (bitsTo (H : Int) 64 64).length = 64 := bitsTo_length _ _ _
  have hlo : ∀ a, a + 16 ≤ 64 → spell (((bitsL true H L).drop a).take 16) = ((H / 2 ^ (64 - a - 16) % 65536 : Nat) : Int) := fun a ha => by
    simp only [bitsL, if_true]
    rw [List.drop_append_of_le_length (by omega), List.take_append_of_le_length (by rw [List.length_drop]; omega), chunk_num H 64 a 16 ha]
  have hhi : ∀ a, a + 16 ≤ 64 → spell (((bitsL true H L).drop (64 + a)).take 16) = ((L / 2 ^ (64 - a - 16) % 65536 : Nat) : Int) := fun a ha => by
    simp only [bitsL, if_true]
    rw [show 64 + a = (bitsTo (H : Int) 64 64).length + a from by rw [hl], List.drop_length_add_append, chunk_num L 64 a 16 ha]
  show (List.range 8).map (chunk 16 (bitsL true H L)) ++ [] = _
  rw [List.append_nil]
  have h0 := hlo 0 (by omega); have h1 := hlo 16 (by omega); have h2 := hlo 32 (by omega); have h3 := hlo 48 (by omega)
  have h4 := hhi 0 (by omega); have h5 := hhi 16 (by omega); have h6 := hhi 32 (by omega); have h7 := hhi 48 (by omega)
  simp only [List.range_succ, List.range_zero, List.nil_append, List.map_append, List.map_cons, List.map_nil, chunk, grpP, List.cons_append]
  simp only [Nat.zero_mul, Nat.one_mul, Nat.reduceMul] at *
  rw [h0, h1, h2, h3]
  simp only [Nat.reduceAdd] at h4 h5 h6 h7
  rw [h4, h5, h6, h7]
  simp
end Go.Proofs.YtojdlhiibffnfabDoor

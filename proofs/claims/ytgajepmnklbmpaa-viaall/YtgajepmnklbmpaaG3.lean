/-
  Laid together: BitsOf, RefAddrOf.
-/
import Derived.Test.YtgajepmnklbmpaaProg
import Derived.Test.YtgajepmnklbmpaaG1
/-
  The contract of the document's bitsOf: the bits of an address, the highest first, in new memory.
-/
namespace Go.Proofs.Ytgajepmnklbmpaa
open Go.RowKit
set_option linter.unusedVariables false
set_option linter.unusedSimpArgs false

/-- The bits of an address. -/
def bitsL (six : Bool) (hi lo : Int) : List Int := if six then bitsTo hi 64 64 ++ bitsTo lo 64 64 else bitsTo lo 32 32

theorem info_int : (Try.prog.info? 3).map (fun i => (i.zero, i.size, i.bytes)) = some (some (.int .i64 0), 1, 8) := by kernel_rfl

/-- A slice of ints that a call has made (its blocks from 'base' on). -/
def OwnInts (w : World) (base : Nat) (v : Value) (xs : List Int) : Prop := w.ownsRow base 3 1 v xs.length (xs.map (Value.int .i64))

theorem below_app {B b0 : Nat} {w wr w1 : World} {e : TypeId} {size n : Nat} {v : Value} {xs : List Value} {o : Obj} (hb : Below B w wr) (hB : B ≤ b0) (hw : B ≤ w.heap.size) (hown : wr.ownsRow b0 e size v n xs) (hg : (wr.alloc o).grownBy w1 v.ownBlock) : Below B w w1 :=
  (hb.alloc (Nat.le_trans hw hb.size) o).grown hg (by have := hb.size; simp; omega) (fun k hk => Nat.le_trans hB (hown.lt k hk).1)

set_option maxHeartbeats 1000000 in
set_option maxRecDepth 100000 in
theorem bitsOf_four (hi lo : Int) (l0 : 0 ≤ lo) (l1 : lo ≤ 18446744073709551615) (w : World) :
    Calls Try.prog 70 #[.agg #[.bool false, .int .u64 hi, .int .u64 lo]] w fun e w' => ∃ v, e = .returned v ∧ OwnInts w' (w.heap.size + 1) v (bitsTo lo 32 32) ∧ Below w.heap.size w w' := by
  obtain ⟨i0, hii, hz0, hz1, hz2⟩ := info_parts info_int
  go_enter Try.func70, Try.ntmps70
  go_wp2
  go_loopw [3, 6] (fun v i wr => ∃ k : Nat, k ≤ 32 ∧ i = .int .i64 (31 - (k : Int)) ∧ wr.ownsRow (w.heap.size + 1) 3 1 v k ((bitsTo lo 32 k).map (Value.int .i64)) ∧ Below (w.heap.size + 1) (w.alloc (.cells #[.bool false, .int .u64 hi, .int .u64 lo] 61)) wr)
    (fun _ i _ => ((intOf i) + 1).toNat)
  case atStart => exact ⟨0, by omega, rfl, World.ownsRow_nil _ _ _ _, Below.refl _ _⟩
  case round =>
    obtain ⟨k, hk, rfl, hown, hnx⟩ := hrel
    have hcx : wr.cell? ⟨w.heap.size, 2, none⟩ = some (.int .u64 lo) := (hnx.cell (by simp)).trans (by simp)
    have hsz := hnx.size
    simp at hsz
    by_cases hlt : k < 32
    · have hbit : wrap64 (bits .and .u64 (lo / 2 ^ (31 - k)) 1) = bitW lo (31 - k) := shrAnd1 _ _ l0 l1
      go_wp2_with (first
        | (at_builtin; refine wpList_append_own _ rfl _ _ 41 rfl (w.heap.size + 1) 3 i0 (.int .i64 0) 1 8 Try.underlying41 hii hz0 hz1 hz2 rfl (by decide) _ _ _ rfl (hown.alloc _) ⟨wr.heap.size, 0, none⟩ 1 1 [.int .i64 (bitW lo (31 - k))] rfl rfl ?c1 ?c2 ?c3 ?c4 ?c5 ?_))
      case c1 => exact cell_one_new _ _ _
      case c2 => intro u hu; simp at hu; subst hu; rfl
      case c3 => unfold maxLen; omega
      case c4 => omega
      case c5 => simp; omega
      · intro v' w1 hown' hgrow _
        have hb1 := below_app hnx (Nat.le_refl _) (by simp) hown hgrow
        have hown2 : w1.ownsRow (w.heap.size + 1) 3 1 v' (k + 1) ((bitsTo lo 32 (k + 1)).map (Value.int .i64)) := by rw [bitsTo_succ, List.map_append]; exact hown'
        clear hown' hgrow hown hnx hcx hbit
        go_wp2
        go_roundw
        case rel => exact ⟨k + 1, by omega, by go_num, hown2, hb1⟩
        case measure => simp [intOf]; omega
    · obtain rfl : k = 32 := by omega
      go_wp2
      go_ret
      exact ⟨_, rfl, by unfold OwnInts; rw [bitsTo_length]; exact hown, ((Below.refl _ _).alloc (Nat.le_refl _) _).trans (hnx.mono (by simp))⟩
set_option maxHeartbeats 1000000 in
set_option maxRecDepth 100000 in
theorem bitsOf_six (hi lo : Int) (h0 : 0 ≤ hi) (h1 : hi ≤ 18446744073709551615) (l0 : 0 ≤ lo) (l1 : lo ≤ 18446744073709551615) (w : World) :
    Calls Try.prog 70 #[.agg #[.bool true, .int .u64 hi, .int .u64 lo]] w fun e w' => ∃ v, e = .returned v ∧ OwnInts w' (w.heap.size + 1) v (bitsTo hi 64 64 ++ bitsTo lo 64 64) ∧ Below w.heap.size w w' := by
  obtain ⟨i0, hii, hz0, hz1, hz2⟩ := info_parts info_int
  go_enter Try.func70, Try.ntmps70
  go_wp2
  go_loopw [3, 4] (fun v i wr => ∃ k : Nat, k ≤ 64 ∧ i = .int .i64 (63 - (k : Int)) ∧ wr.ownsRow (w.heap.size + 1) 3 1 v k ((bitsTo hi 64 k).map (Value.int .i64)) ∧ Below (w.heap.size + 1) (w.alloc (.cells #[.bool true, .int .u64 hi, .int .u64 lo] 61)) wr)
    (fun _ i _ => ((intOf i) + 1).toNat)
  case atStart => exact ⟨0, by omega, rfl, World.ownsRow_nil _ _ _ _, Below.refl _ _⟩
  case round =>
    obtain ⟨k, hk, rfl, hown, hnx⟩ := hrel
    have hcx : wr.cell? ⟨w.heap.size, 1, none⟩ = some (.int .u64 hi) := (hnx.cell (by simp)).trans (by simp)
    have hsz := hnx.size
    simp at hsz
    by_cases hlt : k < 64
    · have hbit : wrap64 (bits .and .u64 (hi / 2 ^ (63 - k)) 1) = bitW hi (63 - k) := shrAnd1 _ _ h0 h1
      go_wp2_with (first
        | (at_builtin; refine wpList_append_own _ rfl _ _ 41 rfl (w.heap.size + 1) 3 i0 (.int .i64 0) 1 8 Try.underlying41 hii hz0 hz1 hz2 rfl (by decide) _ _ _ rfl (hown.alloc _) ⟨wr.heap.size, 0, none⟩ 1 1 [.int .i64 (bitW hi (63 - k))] rfl rfl ?c1 ?c2 ?c3 ?c4 ?c5 ?_))
      case c1 => exact cell_one_new _ _ _
      case c2 => intro u hu; simp at hu; subst hu; rfl
      case c3 => unfold maxLen; omega
      case c4 => omega
      case c5 => simp; omega
      · intro v' w1 hown' hgrow _
        have hb1 := below_app hnx (Nat.le_refl _) (by simp) hown hgrow
        have hown2 : w1.ownsRow (w.heap.size + 1) 3 1 v' (k + 1) ((bitsTo hi 64 (k + 1)).map (Value.int .i64)) := by rw [bitsTo_succ, List.map_append]; exact hown'
        clear hown' hgrow hown hnx hcx hbit
        go_wp2
        go_roundw
        case rel => exact ⟨k + 1, by omega, by go_num, hown2, hb1⟩
        case measure => simp [intOf]; omega
    · obtain rfl : k = 64 := by omega
      obtain ⟨wo, rfl⟩ : ∃ wo : World, wo = wr := ⟨_, rfl⟩
      clear hcx
      rw [show (63 : Int) - ((64 : Nat) : Int) = -1 from rfl]
      go_wp2
      go_loopw [3, 5] (fun v i wr => ∃ k : Nat, k ≤ 64 ∧ i = .int .i64 (63 - (k : Int)) ∧ wr.ownsRow (w.heap.size + 1) 3 1 v (64 + k) ((bitsTo hi 64 64 ++ bitsTo lo 64 k).map (Value.int .i64)) ∧ Below (w.heap.size + 1) (w.alloc (.cells #[.bool true, .int .u64 hi, .int .u64 lo] 61)) wr)
        (fun _ i _ => ((intOf i) + 1).toNat)
      case atStart => exact ⟨0, by omega, rfl, by simpa [bitsTo] using hown, hnx⟩
      case round =>
        clear hown hnx hsz
        obtain ⟨k, hk, rfl, hown, hnx⟩ := hrel
        have hcx : wr.cell? ⟨w.heap.size, 2, none⟩ = some (.int .u64 lo) := (hnx.cell (by simp)).trans (by simp)
        have hsz := hnx.size
        simp at hsz
        by_cases hlt : k < 64
        · have hbit : wrap64 (bits .and .u64 (lo / 2 ^ (63 - k)) 1) = bitW lo (63 - k) := shrAnd1 _ _ l0 l1
          go_wp2_with (first
            | (at_builtin; refine wpList_append_own _ rfl _ _ 41 rfl (w.heap.size + 1) 3 i0 (.int .i64 0) 1 8 Try.underlying41 hii hz0 hz1 hz2 rfl (by decide) _ _ _ rfl (hown.alloc _) ⟨wr.heap.size, 0, none⟩ 1 1 [.int .i64 (bitW lo (63 - k))] rfl rfl ?d1 ?d2 ?d3 ?d4 ?d5 ?_))
          case d1 => exact cell_one_new _ _ _
          case d2 => intro u hu; simp at hu; subst hu; rfl
          case d3 => unfold maxLen; omega
          case d4 => omega
          case d5 => simp; omega
          · intro v' w1 hown' hgrow _
            have hb1 := below_app hnx (Nat.le_refl _) (by simp) hown hgrow
            have hown2 : w1.ownsRow (w.heap.size + 1) 3 1 v' (64 + (k + 1)) ((bitsTo hi 64 64 ++ bitsTo lo 64 (k + 1)).map (Value.int .i64)) := by rw [bitsTo_succ lo 64 k, List.map_append, List.map_append]; exact hown'
            clear hown' hgrow hown hnx hcx hbit
            go_wp2
            go_roundw
            case rel => exact ⟨k + 1, by omega, by go_num, hown2, hb1⟩
            case measure => simp [intOf]; omega
        · obtain rfl : k = 64 := by omega
          go_wp2
          go_ret
          exact ⟨_, rfl, by unfold OwnInts; rw [List.length_append, bitsTo_length, bitsTo_length]; exact hown, ((Below.refl _ _).alloc (Nat.le_refl _) _).trans (hnx.mono (by simp))⟩

theorem bitsL_length (six : Bool) (hi lo : Int) : (bitsL six hi lo).length = if six then 128 else 32 := by
  cases six <;> simp [bitsL, bitsTo_length]
theorem bitsTo_get (x : Int) (n k j : Nat) (h : j < k) : (bitsTo x n k)[j]? = some (bitW x (n - 1 - j)) := by
  simp [bitsTo, List.getElem?_range h]
theorem bitsL_get (six : Bool) (hi lo : Int) (j : Nat) (h : j < if six then 128 else 32) : (bitsL six hi lo)[j]? = some (bitAt six hi lo j) := by
  cases six
  · simp at h
    simp only [bitsL, bitAt]
    exact bitsTo_get _ _ _ _ h
  · simp at h
    simp only [bitsL, bitAt, if_true]
    by_cases hj : j < 64
    · rw [List.getElem?_append_left (by rw [bitsTo_length]; exact hj), if_pos hj]; exact bitsTo_get _ _ _ _ hj
    · rw [List.getElem?_append_right (by rw [bitsTo_length]; omega), if_neg hj, bitsTo_length, bitsTo_get _ _ _ _ (by omega)]
      rw [show 64 - 1 - (j - 64) = 127 - j from by omega]

/-- bitsOf of an IPv6 address. -/
theorem bitsOf_six' (hi lo : Int) (h0 : 0 ≤ hi) (h1 : hi ≤ 18446744073709551615) (l0 : 0 ≤ lo) (l1 : lo ≤ 18446744073709551615) (w : World) :
    Calls Try.prog 70 #[.agg #[.bool true, .int .u64 hi, .int .u64 lo]] w fun e w' => ∃ g cap, e = .returned (.slice (some ⟨g, 0, none⟩) 128 cap) ∧ w'.ownsRow (w.heap.size + 1) 3 1 (.slice (some ⟨g, 0, none⟩) 128 cap) 128 ((bitsL true hi lo).map (Value.int .i64)) ∧ Below w.heap.size w w' := by
  refine (bitsOf_six hi lo h0 h1 l0 l1 w).mono ?_
  rintro e w' ⟨v, rfl, hown, hb⟩
  unfold OwnInts at hown
  have hl := bitsL_length true hi lo
  simp only [if_true] at hl
  have hown' : w'.ownsRow (w.heap.size + 1) 3 1 v 128 ((bitsL true hi lo).map (Value.int .i64)) := hl ▸ hown
  obtain ⟨g, cap, rfl, _, _⟩ := hown'.form (by omega)
  exact ⟨g, cap, rfl, hown', hb⟩
/-- bitsOf of an IPv4 address. -/
theorem bitsOf_four' (hi lo : Int) (l0 : 0 ≤ lo) (l1 : lo ≤ 18446744073709551615) (w : World) :
    Calls Try.prog 70 #[.agg #[.bool false, .int .u64 hi, .int .u64 lo]] w fun e w' => ∃ g cap, e = .returned (.slice (some ⟨g, 0, none⟩) 32 cap) ∧ w'.ownsRow (w.heap.size + 1) 3 1 (.slice (some ⟨g, 0, none⟩) 32 cap) 32 ((bitsL false hi lo).map (Value.int .i64)) ∧ Below w.heap.size w w' := by
  refine (bitsOf_four hi lo l0 l1 w).mono ?_
  rintro e w' ⟨v, rfl, hown, hb⟩
  unfold OwnInts at hown
  have hl := bitsL_length false hi lo
  simp only [Bool.false_eq_true, if_false] at hl
  have hown' : w'.ownsRow (w.heap.size + 1) 3 1 v 32 ((bitsL false hi lo).map (Value.int .i64)) := hl ▸ hown
  obtain ⟨g, cap, rfl, _, _⟩ := hown'.form (by omega)
  exact ⟨g, cap, rfl, hown', hb⟩
end Go.Proofs.Ytgajepmnklbmpaa
/-
  The contract of the document's addrOf.
-/
namespace Go.Proofs.Ytgajepmnklbmpaa
open Go.RowKit
set_option linter.unusedVariables false
set_option linter.unusedSimpArgs false

theorem two_alloc {w : World} {g k : Nat} {u : Value} (hg : g < w.heap.size) (h : w.cell? ⟨g, k, none⟩ = some u) (o1 o2 : Obj) : ((w.alloc o1).alloc o2).cell? ⟨g, k, none⟩ = some u := by
  rw [World.cell?_alloc_lt _ _ _ (by simp; omega), World.cell?_alloc_lt _ _ _ hg]; exact h

set_option maxHeartbeats 1000000 in
set_option maxRecDepth 100000 in
theorem addrOf_six (l : List Int) (hl : l.length = 128) (h01 : ∀ b ∈ l, b = 0 ∨ b = 1) (g cap : Nat) (w : World) (hg : g < w.heap.size) (hc : ∀ j u, l[j]? = some u → w.cell? ⟨g, j, none⟩ = some (.int .i64 u)) :
    Calls Try.prog 72 #[.slice (some ⟨g, 0, none⟩) 128 cap] w fun e w' => e = .returned (.agg #[.bool true, .int .u64 (spell (l.take 64)), .int .u64 (spell (l.drop 64))]) ∧ Below w.heap.size w w' := by
  have HL := Lib.hid hl; have H01 := Lib.hid h01; have HC := Lib.hid hc
  clear hl h01 hc
  go_enter Try.func72, Try.ntmps72
  go_wp2
  go_loopw [12] (fun i wr => ∃ k : Nat, k ≤ 128 ∧ i = .int .i64 k ∧ wr = (w.alloc (.cells #[.bool false, .int .u64 0, .int .u64 0] 61)).alloc (.cells #[.bool true, .int .u64 (hiTo l k), .int .u64 (loTo l k)] 61))
    (fun i _ => 128 - (intOf i).toNat)
  case atStart => exact ⟨0, by omega, rfl, by simp [hiTo, loTo, spell_nil]⟩
  case round =>
    obtain ⟨k, hk, rfl, rfl⟩ := hrel
    by_cases hlt : k < 128
    · have hkl : k < l.length := by rw [HL.out]; exact hlt
      obtain ⟨b, hb⟩ : ∃ b, b = l[k] := ⟨_, rfl⟩
      have HB := Lib.hid hb
      have hcell := two_alloc hg (HC.out k b (by rw [hb]; exact List.getElem?_eq_getElem hkl))
      have hb01 : b = 0 ∨ b = 1 := H01.out b (by rw [hb]; exact List.getElem_mem hkl)
      have hb0 : 0 ≤ b := by omega
      have hb1 : b ≤ 1 := by omega
      clear hb01 hb
      by_cases h64 : k < 64
      · have bd := hiTo_bd l k h64 H01.out
        have S1 := Lib.hid (hiTo_lt l k h64 hkl)
        have S2 := Lib.hid (loTo_lt l k h64)
        obtain ⟨bd0, bd1⟩ := bd
        go_wp2
        go_roundw
        case rel => exact ⟨k + 1, by omega, by go_num, by rw [S1.out, S2.out, HB.out]⟩
        case measure => simp [intOf]; omega
      · have bd := loTo_bd l k hlt H01.out
        have S1 := Lib.hid (hiTo_ge l k (by omega))
        have S2 := Lib.hid (loTo_ge l k (by omega) hkl)
        obtain ⟨bd0, bd1⟩ := bd
        go_wp2
        go_roundw
        case rel => exact ⟨k + 1, by omega, by go_num, by rw [S1.out, S2.out, HB.out]⟩
        case measure => simp [intOf]; omega
    · obtain rfl : k = 128 := by omega
      have e1 : hiTo l 128 = spell (l.take 64) := by simp [hiTo]
      have e2 : loTo l 128 = spell (l.drop 64) := by unfold loTo; rw [List.take_of_length_le (by rw [HL.out]; omega)]
      rw [e1, e2]
      clear e1 e2
      go_wp2
      go_returns
      exact ⟨rfl, by go_grown⟩

set_option maxHeartbeats 1000000 in
set_option maxRecDepth 100000 in
theorem addrOf_four (l : List Int) (hl : l.length = 32) (h01 : ∀ b ∈ l, b = 0 ∨ b = 1) (g cap : Nat) (w : World) (hg : g < w.heap.size) (hc : ∀ j u, l[j]? = some u → w.cell? ⟨g, j, none⟩ = some (.int .i64 u)) :
    Calls Try.prog 72 #[.slice (some ⟨g, 0, none⟩) 32 cap] w fun e w' => e = .returned (.agg #[.bool false, .int .u64 0, .int .u64 (spell l)]) ∧ Below w.heap.size w w' := by
  have HL := Lib.hid hl; have H01 := Lib.hid h01; have HC := Lib.hid hc
  clear hl h01 hc
  go_enter Try.func72, Try.ntmps72
  go_wp2
  go_loopw [12] (fun i wr => ∃ k : Nat, k ≤ 32 ∧ i = .int .i64 k ∧ wr = (w.alloc (.cells #[.bool false, .int .u64 0, .int .u64 0] 61)).alloc (.cells #[.bool false, .int .u64 0, .int .u64 (fourTo l k)] 61))
    (fun i _ => 32 - (intOf i).toNat)
  case atStart => exact ⟨0, by omega, rfl, by simp [fourTo, spell_nil]⟩
  case round =>
    obtain ⟨k, hk, rfl, rfl⟩ := hrel
    by_cases hlt : k < 32
    · have hkl : k < l.length := by rw [HL.out]; exact hlt
      obtain ⟨b, hb⟩ : ∃ b, b = l[k] := ⟨_, rfl⟩
      have HB := Lib.hid hb
      have hcell := two_alloc hg (HC.out k b (by rw [hb]; exact List.getElem?_eq_getElem hkl))
      have hb01 : b = 0 ∨ b = 1 := H01.out b (by rw [hb]; exact List.getElem_mem hkl)
      have hb0 : 0 ≤ b := by omega
      have hb1 : b ≤ 1 := by omega
      clear hb01 hb
      have bd := fourTo_bd l k (by omega) H01.out
      have S1 := Lib.hid (fourTo_succ l k hkl)
      obtain ⟨bd0, bd1⟩ := bd
      go_wp2
      go_roundw
      case rel => exact ⟨k + 1, by omega, by go_num, by rw [S1.out, HB.out]⟩
      case measure => simp [intOf]; omega
    · obtain rfl : k = 32 := by omega
      have e1 : fourTo l 32 = spell l := by unfold fourTo; rw [List.take_of_length_le (by rw [HL.out]; omega)]
      rw [e1]
      clear e1
      go_wp2
      go_returns
      exact ⟨rfl, by go_grown⟩

end Go.Proofs.Ytgajepmnklbmpaa

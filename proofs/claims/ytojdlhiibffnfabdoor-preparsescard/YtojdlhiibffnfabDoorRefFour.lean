/-
  The contract of the document's AddrText at an IPv4 address, and where there is no text.
-/
import Derived.Test.YtojdlhiibffnfabDoorRefText
namespace Go.Proofs.YtojdlhiibffnfabDoor
open Go.RowKit Go.Sort
set_option linter.unusedVariables false
set_option linter.unusedSimpArgs false

theorem join_snoc (ts : List (List UInt8)) (t sep : List UInt8) (h : ts ≠ []) : Lib.join (ts ++ [t]) sep = Lib.join ts sep ++ sep ++ t := by
  cases ts with
  | nil => exact absurd rfl h
  | cons x r =>
    rw [List.cons_append, Lib.join_cons, Lib.join_cons]
    simp [Lib.joinTail, List.append_assoc]
theorem join_take_len (ts : List (List UInt8)) (sep : List UInt8) (m k : Nat) (h : ∀ t ∈ ts, t.length ≤ m) : (Lib.join (ts.take k) sep).length ≤ ts.length * (m + sep.length) := by
  have h1 := join_len_le (ts.take k) sep m (fun t ht => h t (List.mem_of_mem_take ht))
  have h2 : (ts.take k).length * (m + sep.length) ≤ ts.length * (m + sep.length) := Nat.mul_le_mul_right _ (by rw [List.length_take]; omega)
  omega
theorem fourT_len (L : Nat) : ∀ t ∈ fourT L, t.length ≤ 3 := by
  intro t ht
  simp only [fourT, List.mem_map] at ht
  obtain ⟨p, hp, rfl⟩ := ht
  exact numText_len 10 3 p
/-- Ints that lie in a row. -/
theorem ints_cell {w : World} {base g n cap : Nat} {ps : List Nat} (h : w.ownsRow base 3 1 (.slice (some ⟨g, 0, none⟩) n cap) n ((ps.map (fun n : Nat => (n : Int))).map (Value.int .i64))) (hl : ps.length = n) (j : Nat) (hj : j < n) : w.cell? ⟨g, j, none⟩ = some (.int .i64 ((ps.getD j 0 : Nat) : Int)) := by
  rw [h.cellAt j (by omega), List.getElem?_map, List.getElem?_map, List.getElem?_eq_getElem (by omega)]
  simp [List.getD_eq_getElem?_getD, List.getElem?_eq_getElem (show j < ps.length by omega)]

set_option maxHeartbeats 2000000 in
set_option maxRecDepth 100000 in
theorem refText_four (L : Nat) (l1 : L < 4294967296) (w : World) :
    Calls Tryd.prog 13 #[.agg #[.bool false, .int .u64 0, .int .u64 (L : Int)]] w fun e w' => e = .returned (.tuple #[.string ⟨(Lib.join (fourT L) [46]).toArray⟩, .int .i64 0]) ∧ Below w.heap.size w w' := by
  have l2 : (L : Int) ≤ 4294967295 := by omega
  go_enter Tryd.func13, Tryd.ntmps13
  go_wp2_with (first
    | (go_at_call 24; go_in))
  refine (partsOf_four 0 L (by omega) (by omega) (by omega) (by omega) _ rfl _).mono ?_
  rintro e w1 ⟨v, rfl, hown, hb⟩
  have bb := thenBelow (((Below.refl _ w).alloc (Nat.le_refl _) _).alloc (by simp) _) hb
  clear hb
  rw [parts_four] at hown
  obtain ⟨g, cap, rfl, hg1, hg2⟩ := hown.form (by omega)
  have HC := Lib.hid (fun j hj => ints_cell hown (by simp [fourP]) j hj)
  clear hown hg1 hg2
  go_wp2
  go_loop [4, 22] (fun o i => ∃ k : Nat, k ≤ 4 ∧ i = .int .i64 k ∧ o = .string ⟨(Lib.join ((fourT L).take k) [46]).toArray⟩)
    (fun _ i => 4 - (intOf i).toNat)
  case atStart => exact ⟨0, by omega, rfl, rfl⟩
  case round =>
    obtain ⟨k, hk, rfl, rfl⟩ := hrel
    by_cases hlt : k < 4
    · have hcell := HC.out k hlt
      have hkl : k < (fourT L).length := by rw [fourT_length]; exact hlt
      have hkp : k < (fourP L).length := by simp [fourP]; exact hlt
      obtain ⟨p, hp⟩ : ∃ p, (fourP L).getD k 0 = p := ⟨_, rfl⟩
      have hp2 : (fourP L)[k] = p := by rw [← hp]; simp [List.getD_eq_getElem?_getD, hkp]
      have hp256 : p < 256 := by
        rw [← hp2]; simp only [fourP, List.getElem_map]; exact Nat.mod_lt _ (by omega)
      have ht : (fourT L)[k] = numText 10 3 p := by simp only [fourT, List.getElem_map]; rw [hp2]
      rw [hp] at hcell
      have hlen := join_take_len (fourT L) [46] 3 k (fourT_len L)
      rw [fourT_length] at hlen
      simp at hlen
      have htl := numText_len 10 3 p
      have hsucc : (fourT L).take (k + 1) = (fourT L).take k ++ [numText 10 3 p] := by rw [List.take_succ_eq_append_getElem hkl]; exact congrArg (fun x => (fourT L).take k ++ [x]) ht
      obtain ⟨t, htt⟩ : ∃ t, numText 10 3 p = t := ⟨_, rfl⟩
      rw [htt] at hsucc htl
      have c := numberText_calls 10 (.inl rfl) 3 p (by omega) (by omega) (by omega) (by omega)
      rw [htt] at c
      have C := Lib.hid c
      obtain ⟨A, hA⟩ : ∃ A, Lib.join ((fourT L).take k) [46] = A := ⟨_, rfl⟩
      rw [hA]
      rw [hA] at hlen
      by_cases h0 : k = 0
      · subst h0
        have hA0 : A = [] := by rw [← hA]; rfl
        subst hA0
        have hfin : Hid (Lib.join ((fourT L).take (0 + 1)) [46] = t) := by show _ = _; rw [hsucc]; simp [Lib.join_one]
        have ha2 : ∀ W, (Op.stringOp .add ⟨[].toArray⟩ ⟨t.toArray⟩).run Tryd.prog W = .ok (.string ⟨t.toArray⟩) W := fun W => run_string_add_lists W [] t (by simp) (by omega)
        clear hA c htt ht hp hp2 hsucc hlen
        go_wp2_with (go_at_call 26; refine (C.out _).mono ?_; rintro e w2 ⟨rfl, rfl⟩)
        go_round
        case rel => exact ⟨0 + 1, by omega, by go_num, by rw [hfin.out]⟩
        case measure => simp [intOf]
      · have hk0 : 0 < k := by omega
        have hne : (fourT L).take k ≠ [] := fun h => by have := congrArg List.length h; rw [List.length_take, fourT_length] at this; simp at this; omega
        have ha1 : ∀ W, (Op.stringOp .add ⟨A.toArray⟩ ⟨#[46]⟩).run Tryd.prog W = .ok (.string ⟨(A ++ [46]).toArray⟩) W := fun W => run_string_add_lists W A [46] (by omega) (by simp)
        have ha2 : ∀ W, (Op.stringOp .add ⟨(A ++ [46]).toArray⟩ ⟨t.toArray⟩).run Tryd.prog W = .ok (.string ⟨(A ++ [46] ++ t).toArray⟩) W := fun W => run_string_add_lists W (A ++ [46]) t (by simp; omega) (by omega)
        obtain ⟨AC, hAC⟩ : ∃ AC, A ++ [46] = AC := ⟨_, rfl⟩
        obtain ⟨D, hD⟩ : ∃ D, AC ++ t = D := ⟨_, rfl⟩
        rw [hAC] at ha1 ha2
        rw [hD] at ha2
        have hfin : Hid (Lib.join ((fourT L).take (k + 1)) [46] = D) := by show _ = _; rw [hsucc, join_snoc _ _ _ hne, hA, hAC, hD]
        clear hA c htt ht hp hp2 hsucc hlen hAC hD hne h0
        go_wp2_with (go_at_call 26; refine (C.out _).mono ?_; rintro e w2 ⟨rfl, rfl⟩)
        go_round
        case rel => exact ⟨k + 1, by omega, by go_num, by rw [hfin.out]⟩
        case measure => simp [intOf]; omega
    · obtain rfl : k = 4 := by omega
      have hfin : Hid (Lib.join ((fourT L).take 4) [46] = Lib.join (fourT L) [46]) := by show _ = _; rw [List.take_of_length_le (by rw [fourT_length]; omega)]
      go_wp2
      go_ret2
      exact ⟨by rw [← hfin.out]; rfl, bb⟩
end Go.Proofs.YtojdlhiibffnfabDoor

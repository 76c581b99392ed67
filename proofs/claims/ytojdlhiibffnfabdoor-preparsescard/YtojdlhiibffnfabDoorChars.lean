/-
  Plain facts about the texts: how many colons, dots and signs there are.
-/
import Derived.Test.YtojdlhiibffnfabDoorText
namespace Go.Proofs.YtojdlhiibffnfabDoor
open Go.RowKit
set_option linter.unusedVariables false
set_option linter.unusedSimpArgs false

theorem dig_not (d : Nat) : dig d ≠ 46 ∧ dig d ≠ 58 := by
  by_cases h : d < 16
  · have : ∀ k : Fin 16, dig k ≠ 46 ∧ dig k ≠ 58 := by decide +kernel
    exact this ⟨d, h⟩
  · unfold dig
    rw [List.getD_eq_getElem?_getD, List.getElem?_eq_none (by simp [digs]; omega)]
    decide
theorem numText_no (base f n : Nat) (c : UInt8) (hc : c = 46 ∨ c = 58) : (numText base f n).count c = 0 := by
  have hd : ∀ d, ¬ dig d = c := fun d h => by rcases hc with rfl | rfl; exact (dig_not d).1 h; exact (dig_not d).2 h
  induction f generalizing n with
  | zero => simp [numText]
  | succ f ih =>
    unfold numText
    split
    · simp [List.count_cons, hd]
    · rw [List.count_append, ih]; simp [List.count_cons, hd]
theorem numText_pos (base f n : Nat) : 1 ≤ (numText base (f + 1) n).length := by
  unfold numText
  split <;> simp
theorem numText_le (base f n : Nat) : (numText base f n).length ≤ f := by
  induction f generalizing n with
  | zero => simp [numText]
  | succ f ih =>
    unfold numText
    split
    · simp
    · have := ih (n / base); simp; omega

theorem joinTail_count (s c : UInt8) (ts : List (List UInt8)) (h : ∀ t ∈ ts, t.count c = 0) : (Lib.joinTail [s] ts).count c = if s = c then ts.length else 0 := by
  induction ts with
  | nil => simp [Lib.joinTail]
  | cons t ts ih =>
    have e : Lib.joinTail [s] (t :: ts) = [s] ++ t ++ Lib.joinTail [s] ts := by simp [Lib.joinTail]
    rw [e, List.count_append, List.count_append, ih (fun t ht => h t (.tail _ ht)), h t (.head _)]
    by_cases hs : s = c <;> simp [hs, List.count_cons] <;> omega
theorem join_count (s c : UInt8) (ts : List (List UInt8)) (h : ∀ t ∈ ts, t.count c = 0) : (Lib.join ts [s]).count c = if s = c then ts.length - 1 else 0 := by
  cases ts with
  | nil => simp [Lib.join_nil]
  | cons t ts =>
    rw [Lib.join_cons, List.count_append, joinTail_count s c ts (fun t ht => h t (.tail _ ht)), h t (.head _)]
    simp
theorem joinTail_len (s : UInt8) (m : Nat) (ts : List (List UInt8)) (h : ∀ t ∈ ts, 1 ≤ t.length ∧ t.length ≤ m) : 2 * ts.length ≤ (Lib.joinTail [s] ts).length ∧ (Lib.joinTail [s] ts).length ≤ (m + 1) * ts.length := by
  induction ts with
  | nil => simp [Lib.joinTail]
  | cons t ts ih =>
    have e : Lib.joinTail [s] (t :: ts) = [s] ++ t ++ Lib.joinTail [s] ts := by simp [Lib.joinTail]
    have := ih (fun t ht => h t (.tail _ ht))
    have h2 := h t (.head _)
    rw [e, List.length_append, List.length_append]
    simp only [List.length_cons, List.length_nil, Nat.mul_add]
    omega
theorem join_len (s : UInt8) (m : Nat) (ts : List (List UInt8)) (h : ∀ t ∈ ts, 1 ≤ t.length ∧ t.length ≤ m) (hne : 1 ≤ ts.length) : 2 * ts.length - 1 ≤ (Lib.join ts [s]).length ∧ (Lib.join ts [s]).length + 1 ≤ (m + 1) * ts.length := by
  cases ts with
  | nil => simp at hne
  | cons t ts =>
    have h1 := joinTail_len s m ts (fun t ht => h t (.tail _ ht))
    have h2 := h t (.head _)
    rw [Lib.join_cons, List.length_append]
    simp only [List.length_cons, Nat.mul_add]
    omega

theorem fourT_count (L : Nat) (c : UInt8) (hc : c = 46 ∨ c = 58) : ∀ t ∈ fourT L, t.count c = 0 := fun t ht => by
  simp only [fourT, List.mem_map] at ht
  obtain ⟨p, _, rfl⟩ := ht
  exact numText_no _ _ _ c hc
theorem hexT_count (gs : List Nat) (c : UInt8) (hc : c = 46 ∨ c = 58) : ∀ t ∈ hexT gs, t.count c = 0 := fun t ht => by
  simp only [hexT, List.mem_map] at ht
  obtain ⟨p, _, rfl⟩ := ht
  exact numText_no _ _ _ c hc
theorem hexT_lens (gs : List Nat) : ∀ t ∈ hexT gs, 1 ≤ t.length ∧ t.length ≤ 4 := fun t ht => by
  simp only [hexT, List.mem_map] at ht
  obtain ⟨p, _, rfl⟩ := ht
  exact ⟨numText_pos 16 3 p, numText_le 16 4 p⟩

theorem four_facts (L : Nat) : (Lib.join (fourT L) [46]).count 58 = 0 ∧ (Lib.join (fourT L) [46]).count 46 = 3 ∧ (Lib.join (fourT L) [46]).length ≤ 15 ∧ 7 ≤ (Lib.join (fourT L) [46]).length := by
  have hl : (fourT L).length = 4 := rfl
  have h3 := join_len 46 3 (fourT L) (fun t ht => by
    simp only [fourT, List.mem_map] at ht
    obtain ⟨p, _, rfl⟩ := ht
    exact ⟨numText_pos 10 2 p, numText_le 10 3 p⟩) (by rw [hl]; omega)
  rw [join_count 46 58 _ (fourT_count L 58 (.inr rfl)), join_count 46 46 _ (fourT_count L 46 (.inl rfl)), hl]
  rw [hl] at h3
  exact ⟨by simp, by simp, by omega, by omega⟩

theorem six_facts (gs : List Nat) (hg : gs.length = 8) : (sixT gs).count 46 = 0 ∧ 2 ≤ (sixT gs).count 58 ∧ (sixT gs).count 58 ≤ 7 ∧ (sixT gs).length ≤ 39 := by
  have hb := lzTo_bd (zeroP gs) 8
  have hlen : ∀ l : List Nat, (hexT l).length = l.length := fun l => by simp [hexT]
  unfold sixT
  simp only
  split
  · rename_i h
    have h3 := join_len 58 4 (hexT gs) (hexT_lens gs) (by rw [hlen]; omega)
    rw [join_count 58 58 _ (hexT_count gs 58 (.inr rfl)), join_count 58 46 _ (hexT_count gs 46 (.inl rfl)), hlen, hg]
    rw [hlen, hg] at h3
    exact ⟨by simp, by simp, by simp, by omega⟩
  · rename_i h
    obtain ⟨f, hf⟩ := Int.eq_ofNat_of_zero_le hb.2.2.1
    obtain ⟨t, ht⟩ := Int.eq_ofNat_of_zero_le (Int.le_trans hb.2.2.1 hb.2.2.2.1)
    rw [hf, ht] at h
    have ht8 := hb.2.2.2.2
    rw [ht] at ht8
    rw [hf, ht]
    simp only [Int.toNat_natCast, List.count_append, List.length_append]
    rw [join_count 58 58 _ (hexT_count _ 58 (.inr rfl)), join_count 58 58 _ (hexT_count _ 58 (.inr rfl)), join_count 58 46 _ (hexT_count _ 46 (.inl rfl)), join_count 58 46 _ (hexT_count _ 46 (.inl rfl))]
    have hj : ∀ l : List Nat, (Lib.join (hexT l) [58]).length ≤ 5 * l.length := fun l => by
      by_cases hl : 1 ≤ l.length
      · have := join_len 58 4 (hexT l) (hexT_lens l) (by rw [hlen]; omega)
        rw [hlen] at this; omega
      · have : l = [] := List.eq_nil_of_length_eq_zero (by omega)
        subst this; simp [hexT, Lib.join_nil]
    have j1 := hj (gs.take f)
    have j2 := hj (gs.drop t)
    simp only [hlen, List.length_take, List.length_drop, hg] at j1 j2 ⊢
    refine ⟨by simp, ?_, ?_, ?_⟩ <;> simp <;> omega
end Go.Proofs.YtojdlhiibffnfabDoor

/-
  offers.Check, and the document's OfferFault.
-/
import Derived.Test.YtnpaijmibkbhfaaRefFault
import Derived.Test.YtnpaijmibkbhfaaPreC
import Derived.Test.YtnpaijmibkbhfaaAppOne
namespace Go.Proofs.Ytnpaijmibkbhfaa
open Go.RowKit
set_option linter.unusedVariables false
set_option linter.unusedSimpArgs false
/-- The error of an offer: its prefix's; source, peer, metric, hop. -/
def offE (six : Bool) (x : Nat) (n s p m h : Int) : Int :=
  if chkE six x n ≠ 0 then chkE six x n else if s < 1 ∨ 4 < s then 3 else if p < 0 ∨ 999 < p ∨ m < 0 ∨ 999 < m ∨ h < 1 ∨ 999 < h then 2 else 0
theorem within_calls (a b : Int) (w : World) :
    Calls Try.prog 40 #[.int .i64 a, .int .i64 b] w fun e w' => e = .returned (.bool (decide (b ≤ a) && decide (a ≤ 999))) ∧ w = w' := by
  by_cases h1 : b ≤ a
  · by_cases h2 : a ≤ 999
    · go_enter Try.func40, Try.ntmps40
      go_wp2
      go_ret
      exact ⟨by simp [h1, h2], rfl⟩
    · go_enter Try.func40, Try.ntmps40
      go_wp2
      go_ret
      exact ⟨by simp [h1, h2], rfl⟩
  · go_enter Try.func40, Try.ntmps40
    go_wp2
    go_ret
    exact ⟨by rw [decide_eq_false (Int.not_le.2 h1)]; rfl, rfl⟩
set_option maxHeartbeats 2000000 in
theorem offCheck_calls (six : Bool) (x : Nat) (n s p m h : Int) (hx : x < 2 ^ 128) (w : World) :
    Calls Try.prog 15 #[.agg #[.bool six, .int .u64 (aH x), .int .u64 (aL x), .int .i64 n, .int .i64 s, .int .i64 p, .int .i64 m, .int .i64 h]] w fun e w' => e = .returned (.int .i64 (offE six x n s p m h)) ∧ Below w.heap.size w w' := by
  have bA := (Below.refl w.heap.size w).alloc (Nat.le_refl _) (.cells #[.bool six, .int .u64 (aH x), .int .u64 (aL x), .int .i64 n, .int .i64 s, .int .i64 p, .int .i64 m, .int .i64 h] 28)
  have HC := Lib.hid (cell_new w [.bool six, .int .u64 (aH x), .int .u64 (aL x), .int .i64 n, .int .i64 s, .int .i64 p, .int .i64 m, .int .i64 h] 28)
  have FC := Lib.hid (fun W => check_calls six x n hx W)
  obtain ⟨E, hE⟩ : ∃ E, offE six x n s p m h = E := ⟨_, rfl⟩
  have HE := Lib.hid hE
  rw [hE]
  unfold offE at HE
  generalize chkE six x n = c at FC HE
  clear hE
  go_enter Try.func15, Try.ntmps15
  go_wp2_with fail
  refine (FC.out _).mono ?_
  rintro e w1 ⟨rfl, hb1⟩
  have K := fun j u (hj : ([.bool six, .int .u64 (aH x), .int .u64 (aL x), .int .i64 n, .int .i64 s, .int .i64 p, .int .i64 m, .int .i64 h] : List Value)[j]? = some u) => (hb1.cell (p := ⟨w.heap.size, j, none⟩) (by simp)).trans (HC.out j u hj)
  have x4 := K 4 _ rfl
  have x5 := K 5 _ rfl
  have x6 := K 6 _ rfl
  have x7 := K 7 _ rfl
  have b1 := thenBelow bA hb1
  clear K HC bA hb1
  by_cases h0 : c = 0
  · subst h0
    rw [if_neg (by decide)] at HE
    by_cases h1 : s < 1
    · rw [if_pos (.inl h1)] at HE
      go_wp2
      go_ret
      exact ⟨by rw [← HE.out]; (first | done | rfl), b1⟩
    by_cases h2 : 4 < s
    · rw [if_pos (.inr h2)] at HE
      go_wp2
      go_ret
      exact ⟨by rw [← HE.out]; (first | done | rfl), b1⟩
    rw [if_neg (by omega)] at HE
    by_cases hp : 0 ≤ p ∧ p ≤ 999
    · have W1 := Lib.hid (fun W => within_calls p 0 W)
      rw [show (decide ((0 : Int) ≤ p) && decide (p ≤ 999)) = true by simp [hp]] at W1
      by_cases hm : 0 ≤ m ∧ m ≤ 999
      · have W2 := Lib.hid (fun W => within_calls m 0 W)
        rw [show (decide ((0 : Int) ≤ m) && decide (m ≤ 999)) = true by simp [hm]] at W2
        by_cases hh : 1 ≤ h ∧ h ≤ 999
        · have W3 := Lib.hid (fun W => within_calls h 1 W)
          rw [show (decide ((1 : Int) ≤ h) && decide (h ≤ 999)) = true by simp [hh]] at W3
          rw [if_neg (by omega)] at HE
          go_wp2_with fail
          refine (W1.out _).mono ?_
          rintro e w2 ⟨rfl, rfl⟩
          go_wp2_with fail
          refine (W2.out _).mono ?_
          rintro e w2 ⟨rfl, rfl⟩
          go_wp2_with fail
          refine (W3.out _).mono ?_
          rintro e w2 ⟨rfl, rfl⟩
          go_wp2
          go_ret
          exact ⟨by rw [← HE.out]; (first | done | rfl), b1⟩
        · have W3 := Lib.hid (fun W => within_calls h 1 W)
          rw [show (decide ((1 : Int) ≤ h) && decide (h ≤ 999)) = false by rw [Bool.and_eq_false_iff, decide_eq_false_iff_not, decide_eq_false_iff_not]; omega] at W3
          rw [if_pos (by omega)] at HE
          go_wp2_with fail
          refine (W1.out _).mono ?_
          rintro e w2 ⟨rfl, rfl⟩
          go_wp2_with fail
          refine (W2.out _).mono ?_
          rintro e w2 ⟨rfl, rfl⟩
          go_wp2_with fail
          refine (W3.out _).mono ?_
          rintro e w2 ⟨rfl, rfl⟩
          go_wp2
          go_ret
          exact ⟨by rw [← HE.out]; (first | done | rfl), b1⟩
      · have W2 := Lib.hid (fun W => within_calls m 0 W)
        rw [show (decide ((0 : Int) ≤ m) && decide (m ≤ 999)) = false by rw [Bool.and_eq_false_iff, decide_eq_false_iff_not, decide_eq_false_iff_not]; omega] at W2
        rw [if_pos (by omega)] at HE
        go_wp2_with fail
        refine (W1.out _).mono ?_
        rintro e w2 ⟨rfl, rfl⟩
        go_wp2_with fail
        refine (W2.out _).mono ?_
        rintro e w2 ⟨rfl, rfl⟩
        go_wp2
        go_ret
        exact ⟨by rw [← HE.out]; (first | done | rfl), b1⟩
    · have W1 := Lib.hid (fun W => within_calls p 0 W)
      rw [show (decide ((0 : Int) ≤ p) && decide (p ≤ 999)) = false by rw [Bool.and_eq_false_iff, decide_eq_false_iff_not, decide_eq_false_iff_not]; omega] at W1
      rw [if_pos (by omega)] at HE
      go_wp2_with fail
      refine (W1.out _).mono ?_
      rintro e w2 ⟨rfl, rfl⟩
      go_wp2
      go_ret
      exact ⟨by rw [← HE.out]; (first | done | rfl), b1⟩
  · rw [if_pos h0] at HE
    have hb : (c != 0) = true := by simpa using h0
    have hb' : (c == 0) = false := by simpa using h0
    go_wp2
    go_ret
    exact ⟨by rw [← HE.out]; (first | done | rfl), b1⟩
set_option maxHeartbeats 2000000 in
theorem offFault_calls (six : Bool) (x : Nat) (n s p m h : Int) (hx : x < 2 ^ 128) (w : World) :
    Calls Try.prog 16 #[.agg #[.bool six, .int .u64 (aH x), .int .u64 (aL x), .int .i64 n, .int .i64 s, .int .i64 p, .int .i64 m, .int .i64 h]] w fun e w' => e = .returned (.int .i64 (offE six x n s p m h)) ∧ Below w.heap.size w w' := by
  have bA := (Below.refl w.heap.size w).alloc (Nat.le_refl _) (.cells #[.bool six, .int .u64 (aH x), .int .u64 (aL x), .int .i64 n, .int .i64 s, .int .i64 p, .int .i64 m, .int .i64 h] 28)
  have HC := Lib.hid (cell_new w [.bool six, .int .u64 (aH x), .int .u64 (aL x), .int .i64 n, .int .i64 s, .int .i64 p, .int .i64 m, .int .i64 h] 28)
  have FC := Lib.hid (fun W => refFault_calls six x n hx W)
  obtain ⟨E, hE⟩ : ∃ E, offE six x n s p m h = E := ⟨_, rfl⟩
  have HE := Lib.hid hE
  rw [hE]
  unfold offE at HE
  generalize chkE six x n = c at FC HE
  clear hE
  go_enter Try.func16, Try.ntmps16
  go_wp2_with fail
  refine (FC.out _).mono ?_
  rintro e w1 ⟨rfl, hb1⟩
  have K := fun j u (hj : ([.bool six, .int .u64 (aH x), .int .u64 (aL x), .int .i64 n, .int .i64 s, .int .i64 p, .int .i64 m, .int .i64 h] : List Value)[j]? = some u) => (hb1.cell (p := ⟨w.heap.size, j, none⟩) (by simp)).trans (HC.out j u hj)
  have x4 := K 4 _ rfl
  have x5 := K 5 _ rfl
  have x6 := K 6 _ rfl
  have x7 := K 7 _ rfl
  have b1 := thenBelow bA hb1
  clear K HC bA hb1
  by_cases h0 : c = 0
  · subst h0
    rw [if_neg (by decide)] at HE
    by_cases hs : s < 1 ∨ 4 < s
    · rw [if_pos hs] at HE
      have e1 : (s != 1) = true := by simp; omega
      have e2 : (s != 2) = true := by simp; omega
      have e3 : (s != 3) = true := by simp; omega
      have e4 : (s != 4) = true := by simp; omega
      go_wp2
      go_ret
      exact ⟨by rw [← HE.out]; (first | done | rfl), b1⟩
    rw [if_neg hs] at HE
    have TAIL : Hid (s = 1 ∨ s = 2 ∨ s = 3 ∨ s = 4) := Lib.hid (by omega)
    clear hs
    by_cases c1 : p < 0
    · rw [if_pos (.inl c1)] at HE
      clear FC; rcases TAIL.out with rfl | rfl | rfl | rfl <;> (go_wp2; go_ret; exact ⟨by rw [← HE.out]; (first | done | rfl), b1⟩)
    by_cases c2 : 999 < p
    · rw [if_pos (by omega)] at HE
      clear FC; rcases TAIL.out with rfl | rfl | rfl | rfl <;> (go_wp2; go_ret; exact ⟨by rw [← HE.out]; (first | done | rfl), b1⟩)
    by_cases c3 : m < 0
    · rw [if_pos (by omega)] at HE
      clear FC; rcases TAIL.out with rfl | rfl | rfl | rfl <;> (go_wp2; go_ret; exact ⟨by rw [← HE.out]; (first | done | rfl), b1⟩)
    by_cases c4 : 999 < m
    · rw [if_pos (by omega)] at HE
      clear FC; rcases TAIL.out with rfl | rfl | rfl | rfl <;> (go_wp2; go_ret; exact ⟨by rw [← HE.out]; (first | done | rfl), b1⟩)
    by_cases c5 : h < 1
    · rw [if_pos (by omega)] at HE
      clear FC; rcases TAIL.out with rfl | rfl | rfl | rfl <;> (go_wp2; go_ret; exact ⟨by rw [← HE.out]; (first | done | rfl), b1⟩)
    by_cases c6 : 999 < h
    · rw [if_pos (by omega)] at HE
      clear FC; rcases TAIL.out with rfl | rfl | rfl | rfl <;> (go_wp2; go_ret; exact ⟨by rw [← HE.out]; (first | done | rfl), b1⟩)
    rw [if_neg (by omega)] at HE
    clear FC; rcases TAIL.out with rfl | rfl | rfl | rfl <;> (go_wp2; go_ret; exact ⟨by rw [← HE.out]; (first | done | rfl), b1⟩)
  · rw [if_pos h0] at HE
    have hb : (c != 0) = true := by simpa using h0
    have hb' : (c == 0) = false := by simpa using h0
    go_wp2
    go_ret
    exact ⟨by rw [← HE.out]; (first | done | rfl), b1⟩
end Go.Proofs.Ytnpaijmibkbhfaa

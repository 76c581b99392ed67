/-
  Contract of whipcordkeep.Picked.
-/
import Derived.Test.YtgajepmnklbmpaaG5
namespace Go.Proofs.Ytgajepmnklbmpaa
open Go.RowKit
set_option linter.unusedVariables false
set_option linter.unusedSimpArgs false

set_option maxHeartbeats 400000 in
theorem picked_calls (a n : Int) (n0 : 0 < n) (n1 : n ≤ 1152921504606846976) (a0 : -9223372036854775808 ≤ a) (a1 : a ≤ 9223372036854775807) (w : World) :
    Calls Try.prog 23 #[.int .i64 a, .int .i64 n] w fun e w' => e = .returned (.int .i64 (a % n)) ∧ w = w' := by
  have e1 : a.tmod n = if a.tmod n < 0 then a % n - n else a % n := by
    have h1 := Int.tmod_eq_emod_of_nonneg (a := a) (b := n)
    rw [Int.tmod_eq_emod]
    have hz := Int.emod_nonneg a (show n ≠ 0 by omega)
    have hl := Int.emod_lt_of_pos a n0
    have hd : a % n = 0 ↔ n ∣ a := Int.dvd_iff_emod_eq_zero.symm
    split
    · rw [if_neg (by omega)]; omega
    · rw [if_pos (by omega)]; omega
  have hz := Int.emod_nonneg a (show n ≠ 0 by omega)
  have hl := Int.emod_lt_of_pos a n0
  obtain ⟨t, ht⟩ : ∃ t, a.tmod n = t := ⟨_, rfl⟩
  rw [ht] at e1
  have hne : (n == 0) = false := by simp; omega
  have hn1 : (n == -1) = false := by simp; omega
  by_cases hneg : t < 0
  · rw [if_pos hneg] at e1
    have e2 : Hid (t + n = a % n) := by show t + n = a % n; omega
    obtain ⟨z, hze⟩ : ∃ z, a % n = z := ⟨_, rfl⟩
    rw [hze] at hz hl e1 e2
    rw [hze]
    have hb0 : -1152921504606846976 ≤ t := by omega
    clear e1 hze
    go_enter Try.func23, Try.ntmps23
    go_wp2
    go_ret
    exact ⟨by show Ending.returned (.int .i64 (t + n)) = _; rw [e2.out], rfl⟩
  · rw [if_neg hneg] at e1
    have e2 : Hid (t = a % n) := e1
    obtain ⟨z, hze⟩ : ∃ z, a % n = z := ⟨_, rfl⟩
    rw [hze] at hz hl e1 e2
    rw [hze]
    have hb0 : 0 ≤ t := by omega
    have hb1 : t < 1152921504606846976 := by omega
    clear e1 hze
    go_enter Try.func23, Try.ntmps23
    go_wp2
    go_ret
    exact ⟨by show Ending.returned (.int .i64 t) = _; rw [e2.out], rfl⟩

end Go.Proofs.Ytgajepmnklbmpaa

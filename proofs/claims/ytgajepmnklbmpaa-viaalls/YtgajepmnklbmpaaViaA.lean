/-
  via.within, checkFields; the document's ViaFault.
-/
import Derived.Test.YtgajepmnklbmpaaViaM
import Derived.Test.YtgajepmnklbmpaaG2
import Derived.Test.YtgajepmnklbmpaaG3
namespace Go.Proofs.Ytgajepmnklbmpaa
open Go.RowKit
set_option linter.unusedVariables false
set_option linter.unusedSimpArgs false
theorem info_via : (Try.prog.info? 27).map (fun i => (i.zero, i.size, i.bytes)) = some (some (.agg #[.int .i64 0, .int .i64 0, .int .i64 0]), 3, 24) := by kernel_rfl
theorem vwithin_calls (a b : Int) (w : World) :
    Calls Try.prog 52 #[.int .i64 a, .int .i64 b] w fun e w' => e = .returned (.bool (decide (b ≤ a) && decide (a ≤ 999))) ∧ w = w' := by
  by_cases h1 : b ≤ a
  · by_cases h2 : a ≤ 999
    · go_enter Try.func52, Try.ntmps52
      go_wp2
      go_ret
      exact ⟨by simp [h1, h2], rfl⟩
    · go_enter Try.func52, Try.ntmps52
      go_wp2
      go_ret
      exact ⟨by simp [h1, h2], rfl⟩
  · go_enter Try.func52, Try.ntmps52
    go_wp2
    go_ret
    exact ⟨by rw [decide_eq_false (Int.not_le.2 h1)]; rfl, rfl⟩
abbrev objV (v : VT) : Obj := .cells #[.int .i64 v.1, .int .i64 v.2.1, .int .i64 v.2.2] 27
abbrev aggV (v : VT) : Value := .agg #[.int .i64 v.1, .int .i64 v.2.1, .int .i64 v.2.2]
set_option maxHeartbeats 2000000 in
theorem vfields_calls (v : VT) (w : World) :
    Calls Try.prog 37 #[aggV v] w fun e w' => e = .returned (.int .i64 (vfE v)) ∧ Below w.heap.size w w' := by
  obtain ⟨h, p, n⟩ := v
  have b1 := (Below.refl w.heap.size w).alloc (Nat.le_refl _) (objV (h, p, n))
  obtain ⟨E, hE⟩ : ∃ E, vfE (h, p, n) = E := ⟨_, rfl⟩
  have HE := Lib.hid hE
  rw [hE]
  unfold vfE at HE
  simp only at HE b1 ⊢
  clear hE
  by_cases hh : 1 ≤ h ∧ h ≤ 999
  · have W1 := Lib.hid (fun W => vwithin_calls h 1 W)
    rw [show (decide ((1 : Int) ≤ h) && decide (h ≤ 999)) = true by simp [hh]] at W1
    rw [if_neg (by omega)] at HE
    by_cases h0 : p = 0
    · by_cases h2 : n = 0
      · have b1q : (p == 0) = true := by simp [h0]
        have b2q : (n == 0) = true := by simp [h2]
        rw [if_pos (by omega)] at HE
        clear h0 h2
        go_enter Try.func37, Try.ntmps37
        go_wp2_with fail
        refine (W1.out _).mono ?_
        rintro e w2 ⟨rfl, rfl⟩
        go_wp2
        go_ret
        exact ⟨by rw [← HE.out]; (first | done | rfl), b1⟩
      · have b1q : (p == 0) = true := by simp [h0]
        have b2q : (n == 0) = false := by simpa using h2
        rw [if_neg (by omega)] at HE
        by_cases hp : 0 ≤ p ∧ p ≤ 999
        · have W2 := Lib.hid (fun W => vwithin_calls p 0 W)
          rw [show (decide ((0 : Int) ≤ p) && decide (p ≤ 999)) = true by simp [hp]] at W2
          by_cases hn : 0 ≤ n ∧ n ≤ 999
          · have W3 := Lib.hid (fun W => vwithin_calls n 0 W)
            rw [show (decide ((0 : Int) ≤ n) && decide (n ≤ 999)) = true by simp [hn]] at W3
            rw [if_neg (by omega)] at HE
            clear h0 h2
            go_enter Try.func37, Try.ntmps37
            go_wp2_with fail
            refine (W1.out _).mono ?_
            rintro e w2 ⟨rfl, rfl⟩
            go_wp2_with fail
            refine (W2.out _).mono ?_
            rintro e w2 ⟨rfl, rfl⟩
            go_wp2_with fail
            refine (W3.out _).mono ?_
            rintro e w2 ⟨rfl, rfl⟩
            go_wp2
            go_ret
            exact ⟨by rw [← HE.out]; (first | done | rfl), b1⟩
          · have W3 := Lib.hid (fun W => vwithin_calls n 0 W)
            rw [show (decide ((0 : Int) ≤ n) && decide (n ≤ 999)) = false by rw [Bool.and_eq_false_iff, decide_eq_false_iff_not, decide_eq_false_iff_not]; omega] at W3
            rw [if_pos (by omega)] at HE
            clear h0 h2
            go_enter Try.func37, Try.ntmps37
            go_wp2_with fail
            refine (W1.out _).mono ?_
            rintro e w2 ⟨rfl, rfl⟩
            go_wp2_with fail
            refine (W2.out _).mono ?_
            rintro e w2 ⟨rfl, rfl⟩
            go_wp2_with fail
            refine (W3.out _).mono ?_
            rintro e w2 ⟨rfl, rfl⟩
            go_wp2
            go_ret
            exact ⟨by rw [← HE.out]; (first | done | rfl), b1⟩
        · have W2 := Lib.hid (fun W => vwithin_calls p 0 W)
          rw [show (decide ((0 : Int) ≤ p) && decide (p ≤ 999)) = false by rw [Bool.and_eq_false_iff, decide_eq_false_iff_not, decide_eq_false_iff_not]; omega] at W2
          rw [if_pos (by omega)] at HE
          clear h0 h2
          go_enter Try.func37, Try.ntmps37
          go_wp2_with fail
          refine (W1.out _).mono ?_
          rintro e w2 ⟨rfl, rfl⟩
          go_wp2_with fail
          refine (W2.out _).mono ?_
          rintro e w2 ⟨rfl, rfl⟩
          go_wp2
          go_ret
          exact ⟨by rw [← HE.out]; (first | done | rfl), b1⟩
    · by_cases h2 : n = 0
      · have b1q : (p == 0) = false := by simpa using h0
        have b2q : (n == 0) = true := by simp [h2]
        rw [if_neg (by omega)] at HE
        by_cases hp : 0 ≤ p ∧ p ≤ 999
        · have W2 := Lib.hid (fun W => vwithin_calls p 0 W)
          rw [show (decide ((0 : Int) ≤ p) && decide (p ≤ 999)) = true by simp [hp]] at W2
          by_cases hn : 0 ≤ n ∧ n ≤ 999
          · have W3 := Lib.hid (fun W => vwithin_calls n 0 W)
            rw [show (decide ((0 : Int) ≤ n) && decide (n ≤ 999)) = true by simp [hn]] at W3
            rw [if_neg (by omega)] at HE
            clear h0 h2
            go_enter Try.func37, Try.ntmps37
            go_wp2_with fail
            refine (W1.out _).mono ?_
            rintro e w2 ⟨rfl, rfl⟩
            go_wp2_with fail
            refine (W2.out _).mono ?_
            rintro e w2 ⟨rfl, rfl⟩
            go_wp2_with fail
            refine (W3.out _).mono ?_
            rintro e w2 ⟨rfl, rfl⟩
            go_wp2
            go_ret
            exact ⟨by rw [← HE.out]; (first | done | rfl), b1⟩
          · have W3 := Lib.hid (fun W => vwithin_calls n 0 W)
            rw [show (decide ((0 : Int) ≤ n) && decide (n ≤ 999)) = false by rw [Bool.and_eq_false_iff, decide_eq_false_iff_not, decide_eq_false_iff_not]; omega] at W3
            rw [if_pos (by omega)] at HE
            clear h0 h2
            go_enter Try.func37, Try.ntmps37
            go_wp2_with fail
            refine (W1.out _).mono ?_
            rintro e w2 ⟨rfl, rfl⟩
            go_wp2_with fail
            refine (W2.out _).mono ?_
            rintro e w2 ⟨rfl, rfl⟩
            go_wp2_with fail
            refine (W3.out _).mono ?_
            rintro e w2 ⟨rfl, rfl⟩
            go_wp2
            go_ret
            exact ⟨by rw [← HE.out]; (first | done | rfl), b1⟩
        · have W2 := Lib.hid (fun W => vwithin_calls p 0 W)
          rw [show (decide ((0 : Int) ≤ p) && decide (p ≤ 999)) = false by rw [Bool.and_eq_false_iff, decide_eq_false_iff_not, decide_eq_false_iff_not]; omega] at W2
          rw [if_pos (by omega)] at HE
          clear h0 h2
          go_enter Try.func37, Try.ntmps37
          go_wp2_with fail
          refine (W1.out _).mono ?_
          rintro e w2 ⟨rfl, rfl⟩
          go_wp2_with fail
          refine (W2.out _).mono ?_
          rintro e w2 ⟨rfl, rfl⟩
          go_wp2
          go_ret
          exact ⟨by rw [← HE.out]; (first | done | rfl), b1⟩
      · have b1q : (p == 0) = false := by simpa using h0
        have b2q : (n == 0) = false := by simpa using h2
        rw [if_pos (by omega)] at HE
        clear h0 h2
        go_enter Try.func37, Try.ntmps37
        go_wp2_with fail
        refine (W1.out _).mono ?_
        rintro e w2 ⟨rfl, rfl⟩
        go_wp2
        go_ret
        exact ⟨by rw [← HE.out]; (first | done | rfl), b1⟩
  · have W1 := Lib.hid (fun W => vwithin_calls h 1 W)
    rw [show (decide ((1 : Int) ≤ h) && decide (h ≤ 999)) = false by rw [Bool.and_eq_false_iff, decide_eq_false_iff_not, decide_eq_false_iff_not]; omega] at W1
    rw [if_pos (by omega)] at HE
    go_enter Try.func37, Try.ntmps37
    go_wp2_with fail
    refine (W1.out _).mono ?_
    rintro e w2 ⟨rfl, rfl⟩
    go_wp2
    go_ret
    exact ⟨by rw [← HE.out]; (first | done | rfl), b1⟩
theorem objV_new (W : World) (v : VT) : RecAt (W.alloc (objV v)) W.heap.size 0 (vcs v) := by
  intro j u hj
  rw [Nat.zero_add]
  exact cell_new W (vcs v) 27 j u hj
end Go.Proofs.Ytgajepmnklbmpaa

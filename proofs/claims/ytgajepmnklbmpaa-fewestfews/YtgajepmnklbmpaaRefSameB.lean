/-
  The document's FewestSame.
-/
import Derived.Test.YtgajepmnklbmpaaRefSame
namespace Go.Proofs.Ytgajepmnklbmpaa
open Go.RowKit
set_option linter.unusedVariables false
set_option linter.unusedSimpArgs false
/-- The error of a comparison of two tables. -/
def fsE (l m : List RT) : Int := if tabE l = 0 then tabE m else tabE l
theorem topF_calls (s : Bool) (w : World) : Calls Try.prog 35 #[.bool s] w fun e w' => e = .returned (.agg #[.bool s, .int .u64 0, .int .u64 0, .int .i64 0]) ∧ Below w.heap.size w w' := by
  go_enter Try.func35, Try.ntmps35
  go_wp2
  go_returns
  exact ⟨rfl, by go_grown⟩
theorem sameTop (s : Bool) (l m : List RT) (v1 v2 : Value) (hl : tabE l = 0) (hm : tabE m = 0) (w : World) (r1 : RowR w v1 l) (r2 : RowR w v2 m) :
    Calls Try.prog 34 #[.agg #[.bool s, .int .u64 0, .int .u64 0, .int .i64 0], v1, v2, .int .i64 0, .int .i64 0] w fun e w' => e = .returned (.bool (swE s l m (wideN s) 0 0 0)) ∧ Below w.heap.size w w' := by
  have c := sameWay_calls s l m v1 v2 (tabE_val hl).1 (tabE_val hm).1 (by have := (tabE_val hl).2.2; omega) (by have := (tabE_val hm).2.2; omega) (wideN s) 0 0 0 w (AL.top s) r1 r2
  rw [show ((wideN s - wideN s : Nat) : Int) = 0 by simp, show aH 0 = 0 by unfold aH; simp, show aL 0 = 0 by unfold aL; simp] at c
  exact c
set_option maxHeartbeats 2000000 in
theorem refSame_calls (l m : List RT) (v1 v2 : Value) (hl : l.length ≤ 9223372036854775807) (hm : m.length ≤ 9223372036854775807) (wl : WordsR l) (wm : WordsR m) (w : World) (r1 : RowR w v1 l) (r2 : RowR w v2 m) :
    Calls Try.prog 19 #[v1, v2] w fun e w' => e = .returned (.tuple #[.bool (if fsE l m = 0 then swE false l m (wideN false) 0 0 0 && swE true l m (wideN true) 0 0 0 else false), .int .i64 (fsE l m)]) ∧ Below w.heap.size w w' := by
  have F1 := Lib.hid (fun (W : World) (r : RowR W v1 l) => tableFault_calls l v1 hl wl W r)
  have F2 := Lib.hid (fun (W : World) (r : RowR W v2 m) => tableFault_calls m v2 hm wm W r)
  have TF := Lib.hid (fun (W : World) => topF_calls false W)
  have TT := Lib.hid (fun (W : World) => topF_calls true W)
  have ST := Lib.hid (fun (s : Bool) (h1 : tabE l = 0) (h2 : tabE m = 0) (W : World) (r1 : RowR W v1 l) (r2 : RowR W v2 m) => sameTop s l m v1 v2 h1 h2 W r1 r2)
  have R1 := Lib.hid r1
  have R2 := Lib.hid r2
  obtain ⟨p1, q1, rfl⟩ := r1.form
  obtain ⟨p2, q2, rfl⟩ := r2.form
  clear r1 r2
  by_cases h1 : tabE l = 0
  · by_cases h2 : tabE m = 0
    · have e0 : fsE l m = 0 := by rw [fsE, if_pos h1, h2]
      rw [e0, if_pos rfl]
      rw [h1] at F1
      rw [h2] at F2
      have S1 := Lib.hid (ST.out false h1 h2)
      have S2 := Lib.hid (ST.out true h1 h2)
      generalize swE false l m (wideN false) 0 0 0 = B1 at S1 ⊢
      generalize swE true l m (wideN true) 0 0 0 = B2 at S2 ⊢
      clear ST e0 h1 h2
      go_enter Try.func19, Try.ntmps19
      go_wp2_with fail
      refine (F1.out _ R1.out).mono ?_
      rintro e w1 ⟨rfl, hb1⟩
      have R2a := Lib.hid (R2.out.keep hb1)
      go_wp2_with fail
      refine (F2.out _ R2a.out).mono ?_
      rintro e w2 ⟨rfl, hb2⟩
      have b2 := thenBelow hb1 hb2
      clear R2a hb1 hb2 F1 F2
      go_wp2_with fail
      refine (TF.out _).mono ?_
      rintro e w3 ⟨rfl, hb3⟩
      have b3 := thenBelow b2 hb3
      have R1b := Lib.hid (R1.out.keep b3)
      have R2b := Lib.hid (R2.out.keep b3)
      clear hb3 b2
      go_wp2_with fail
      refine (S1.out _ R1b.out R2b.out).mono ?_
      rintro e w4 ⟨rfl, hb4⟩
      have b4 := thenBelow b3 hb4
      clear hb4 b3 R1b R2b S1
      cases B1
      · go_wp2
        go_ret2
        exact ⟨by simp, b4⟩
      · go_wp2_with fail
        refine (TT.out _).mono ?_
        rintro e w5 ⟨rfl, hb5⟩
        have b5 := thenBelow b4 hb5
        have R1b := Lib.hid (R1.out.keep b5)
        have R2b := Lib.hid (R2.out.keep b5)
        clear hb5 b4
        go_wp2_with fail
        refine (S2.out _ R1b.out R2b.out).mono ?_
        rintro e w6 ⟨rfl, hb6⟩
        have b6 := thenBelow b5 hb6
        clear hb6 b5
        go_wp2
        go_ret2
        exact ⟨by simp, b6⟩
    · have e0 : fsE l m = tabE m := by rw [fsE, if_pos h1]
      have hb : (tabE m == 0) = false := by simpa using h2
      rw [e0, if_neg h2]
      rw [h1] at F1
      generalize tabE m = E at F2 hb ⊢
      clear ST e0 h1 h2
      go_enter Try.func19, Try.ntmps19
      go_wp2_with fail
      refine (F1.out _ R1.out).mono ?_
      rintro e w1 ⟨rfl, hb1⟩
      have R2a := Lib.hid (R2.out.keep hb1)
      go_wp2_with fail
      refine (F2.out _ R2a.out).mono ?_
      rintro e w2 ⟨rfl, hb2⟩
      have b2 := thenBelow hb1 hb2
      go_wp2
      go_ret2
      exact ⟨by simp, b2⟩
  · have e0 : fsE l m = tabE l := by rw [fsE, if_neg h1]
    have hb : (tabE l == 0) = false := by simpa using h1
    rw [e0, if_neg h1]
    generalize tabE l = E at F1 hb ⊢
    clear ST e0 h1
    go_enter Try.func19, Try.ntmps19
    go_wp2_with fail
    refine (F1.out _ R1.out).mono ?_
    rintro e w1 ⟨rfl, hb1⟩
    go_wp2
    go_ret2
    exact ⟨by simp, hb1⟩
end Go.Proofs.Ytgajepmnklbmpaa

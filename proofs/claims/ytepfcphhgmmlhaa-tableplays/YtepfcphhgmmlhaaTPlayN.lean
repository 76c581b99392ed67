/-
  Plain mathematics: one act, case by case, in the document's order.
-/
import Derived.Test.YtepfcphhgmmlhaaTPlayM
namespace Go.Proofs.Ytepfcphhgmmlhaa
open Go.RowKit
set_option linter.unusedVariables false
set_option linter.unusedSimpArgs false
variable {U L : List RT} {a : ActT}
/-- What an act answers and leaves. -/
def Told (U' L : List RT) (a : ActT) (c h n : Int) : Prop := doA L a = (c, h, n) ∧ RelU U' (doL L a)
theorem doL_other (h1 : a.k ≠ 1) (h2 : a.k ≠ 2) : doL L a = L := by rw [doL, if_neg h1, if_neg h2]
theorem play_kind (R : RelU U L) (h : a.k < 1 ∨ 4 < a.k) : Told U L a 3 0 0 := by
  refine ⟨?_, by rw [doL_other (by omega) (by omega)]; exact R⟩
  rw [doA, if_neg (by omega), if_neg (by omega), if_neg (by omega), if_neg (by omega)]
theorem play_form (R : RelU U L) (h : a.k = 3) (hy : ¬ a.y < 2 ^ wideN a.s) : Told U L a 4 0 0 := by
  refine ⟨?_, by rw [doL_other (by omega) (by omega)]; exact R⟩
  rw [doA, if_neg (by omega), if_neg (by omega), if_pos h, if_neg hy]
theorem play_look (R : RelU U L) (h : a.k = 3) (hy : a.y < 2 ^ wideN a.s) : Told U L a 0 (bestA a.s a.y U).1 (bestA a.s a.y U).2 := by
  refine ⟨?_, by rw [doL_other (by omega) (by omega)]; exact R⟩
  rw [doA, if_neg (by omega), if_neg (by omega), if_pos h, if_pos hy, last_bestA R.inv, R.best]
theorem rtE_chk {p : PK} {h : Int} (hc : chkE p.1 p.2.1 p.2.2 ≠ 0) : rtE (p, h) = chkE p.1 p.2.1 p.2.2 := by rw [rtE, if_neg hc]
theorem play_fault (R : RelU U L) (h : a.k = 1 ∨ a.k = 2 ∨ a.k = 4) (hc : chkE a.p.1 a.p.2.1 a.p.2.2 ≠ 0) : Told U L a (chkE a.p.1 a.p.2.1 a.p.2.2) 0 0 := by
  have hf : finE L a.p = chkE a.p.1 a.p.2.1 a.p.2.2 := by rw [finE, if_neg hc]
  have hr := rtE_chk (h := a.h) hc
  rcases h with h | h | h
  · have hne : putE L (a.p, a.h) = chkE a.p.1 a.p.2.1 a.p.2.2 := by rw [putE, hr, if_neg hc]
    refine ⟨?_, ?_⟩
    · rw [doA, if_pos h, hne, putA, hr, if_neg hc]
    · rw [doL, if_pos h, put_err (by rw [hne]; exact hc)]; exact R
  · refine ⟨?_, ?_⟩
    · rw [doA, if_neg (by omega), if_pos h, hf, cutA, hf, if_neg hc]
    · rw [doL, if_neg (by omega), if_pos h, cut_err (by rw [hf]; exact hc)]; exact R
  · refine ⟨?_, by rw [doL_other (by omega) (by omega)]; exact R⟩
    rw [doA, if_neg (by omega), if_neg (by omega), if_neg (by omega), if_pos h, getR, hf, if_neg hc]
theorem play_range (R : RelU U L) (h : a.k = 1) (hc : chkE a.p.1 a.p.2.1 a.p.2.2 = 0) (hh : ¬ (1 ≤ a.h ∧ a.h ≤ 999)) : Told U L a 2 0 0 := by
  have hr : rtE (a.p, a.h) = 2 := by rw [rtE, if_pos hc, if_neg hh]
  have hne : putE L (a.p, a.h) = 2 := by rw [putE, hr, if_neg (by decide)]
  refine ⟨?_, ?_⟩
  · rw [doA, if_pos h, hne, putA, hr, if_neg (by decide)]
  · rw [doL, if_pos h, put_err (by rw [hne]; decide)]; exact R
theorem play_put_at (R : RelU U L) (h : a.k = 1) (hc : chkE a.p.1 a.p.2.1 a.p.2.2 = 0) (h1 : 1 ≤ a.h) (h2 : a.h ≤ 999) {i : Nat} (hi : i < U.length) (e : U[i].1 = a.p) : Told (U.set i (a.p, a.h)) L a 0 U[i].2 0 := by
  have hr := rt_mk hc h1 h2
  obtain ⟨f1, f2, _⟩ := R.found hi e
  have hz : putE L (a.p, a.h) = 0 := by rw [putE, if_pos hr, if_pos f1]
  refine ⟨?_, ?_⟩
  · rw [doA, if_pos h, hz, putA, if_pos hr, if_pos f1, f2]
  · rw [doL, if_pos h]; exact R.put_at hi e hz
theorem play_full (R : RelU U L) (h : a.k = 1) (hc : chkE a.p.1 a.p.2.1 a.p.2.2 = 0) (h1 : 1 ≤ a.h) (h2 : a.h ≤ 999) (hn : ∀ r ∈ U, r.1 ≠ a.p) (h6 : 60 ≤ U.length) : Told U L a 9 0 0 := by
  have hr := rt_mk hc h1 h2
  have f1 : ¬ hasR L a.p = true := by rw [R.lost hn]; decide
  have h6' : 60 ≤ L.length := by rw [← R.len]; exact h6
  have hz : putE L (a.p, a.h) = 9 := by rw [putE, if_pos hr, if_neg f1, if_pos h6']
  refine ⟨?_, ?_⟩
  · rw [doA, if_pos h, hz, putA, if_pos hr, if_neg f1]
  · rw [doL, if_pos h, put_err (by rw [hz]; decide)]; exact R
theorem play_put_new (R : RelU U L) (h : a.k = 1) (hc : chkE a.p.1 a.p.2.1 a.p.2.2 = 0) (h1 : 1 ≤ a.h) (h2 : a.h ≤ 999) (hn : ∀ r ∈ U, r.1 ≠ a.p) (h6 : ¬ 60 ≤ U.length) : Told (U ++ [(a.p, a.h)]) L a 0 0 0 := by
  have hr := rt_mk hc h1 h2
  have f1 : ¬ hasR L a.p = true := by rw [R.lost hn]; decide
  have h6' : ¬ 60 ≤ L.length := by rw [← R.len]; exact h6
  have hz : putE L (a.p, a.h) = 0 := by rw [putE, if_pos hr, if_neg f1, if_neg h6']
  refine ⟨?_, ?_⟩
  · rw [doA, if_pos h, hz, putA, if_pos hr, if_neg f1]
  · rw [doL, if_pos h]; exact R.put_new hn hz
theorem play_none (R : RelU U L) (h : a.k = 2 ∨ a.k = 4) (hc : chkE a.p.1 a.p.2.1 a.p.2.2 = 0) (hn : ∀ r ∈ U, r.1 ≠ a.p) : Told U L a 7 0 0 := by
  have f1 : ¬ hasR L a.p = true := by rw [R.lost hn]; decide
  have hf : finE L a.p = 7 := by rw [finE, if_pos hc, if_neg f1]
  rcases h with h | h
  · refine ⟨?_, ?_⟩
    · rw [doA, if_neg (by omega), if_pos h, hf, cutA, hf, if_neg (by decide)]
    · rw [doL, if_neg (by omega), if_pos h, cut_err (by rw [hf]; decide)]; exact R
  · refine ⟨?_, by rw [doL_other (by omega) (by omega)]; exact R⟩
    rw [doA, if_neg (by omega), if_neg (by omega), if_neg (by omega), if_pos h, getR, hf, if_neg (by decide)]
theorem play_get (R : RelU U L) (h : a.k = 4) (hc : chkE a.p.1 a.p.2.1 a.p.2.2 = 0) {i : Nat} (hi : i < U.length) (e : U[i].1 = a.p) : Told U L a 0 U[i].2 a.p.2.2 := by
  obtain ⟨f1, f2, _⟩ := R.found hi e
  have hf : finE L a.p = 0 := by rw [finE, if_pos hc, if_pos f1]
  refine ⟨?_, by rw [doL_other (by omega) (by omega)]; exact R⟩
  rw [doA, if_neg (by omega), if_neg (by omega), if_neg (by omega), if_pos h, getR, if_pos hf, hf, f2]
theorem play_cut (R : RelU U L) (h : a.k = 2) (hc : chkE a.p.1 a.p.2.1 a.p.2.2 = 0) {i : Nat} (hi : i < U.length) (e : U[i].1 = a.p) : Told (U.take i ++ U.drop (i + 1)) L a 0 U[i].2 0 := by
  obtain ⟨f1, f2, _⟩ := R.found hi e
  have hf : finE L a.p = 0 := by rw [finE, if_pos hc, if_pos f1]
  refine ⟨?_, ?_⟩
  · rw [doA, if_neg (by omega), if_pos h, hf, cutA, if_pos hf, f2]
  · rw [doL, if_neg (by omega), if_pos h]; exact R.cut_at hi e hf
end Go.Proofs.Ytepfcphhgmmlhaa

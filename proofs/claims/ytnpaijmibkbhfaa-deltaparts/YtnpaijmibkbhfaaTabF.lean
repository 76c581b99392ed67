/-
  slices.Insert into a table's routes; table.checkRoute.
-/
import Derived.Test.YtnpaijmibkbhfaaTabE
import Derived.Test.YtnpaijmibkbhfaaTabD
namespace Go.Proofs.Ytnpaijmibkbhfaa
open Go.RowKit
set_option linter.unusedVariables false
set_option linter.unusedSimpArgs false

/-- A slice of routes that a call has made, its blocks from 'base' on. -/
abbrev OwnR (w : World) (base : Nat) (v : Value) (l : List RT) : Prop := w.ownsRow base 57 5 v l.length (rowOf rcs l)
theorem OwnR.row {w : World} {base : Nat} {v : Value} {l : List RT} (h : OwnR w base v l) : RowR w v l := RowK.owned rcs_len h
theorem insert_calls (base vb i : Nat) (tV : TypeId) (v : Value) (l : List RT) (r : RT) (hn : l.length ≤ 1000) (hi : i ≤ l.length) (w : World) (hb : base ≤ w.heap.size)
    (hown : OwnR w base v l) (hv : w.heap[vb]? = some (.cells (rcs r).toArray tV (0, 0))) (hne : v.ownBlock ≠ some vb) :
    Calls Try.prog 110 #[v, .int .i64 (i : Nat), .slice (some ⟨vb, 0, none⟩) 1 1] w fun e w' => ∃ v', e = .returned v' ∧ OwnR w' base v' (l.take i ++ r :: l.drop i) ∧ w.grownBy w' v.ownBlock := by
  have fin : ∀ e w', InsOut base v l.length i (rowOf rcs l) (rcs r) w e w' → ∃ v', e = .returned v' ∧ OwnR w' base v' (l.take i ++ r :: l.drop i) ∧ w.grownBy w' v.ownBlock := by
    rintro e w' ⟨v', he, ho, hg⟩
    refine ⟨v', he, ?_, hg⟩
    unfold OwnR
    rw [show (l.take i ++ r :: l.drop i).length = l.length + 1 by rw [List.length_append, List.length_cons, List.length_take, List.length_drop]; omega]
    rw [rowOf_take rcs 5 rcs_len l i hi, rowOf_drop rcs 5 rcs_len l i hi] at ho
    rw [show rowOf rcs (l.take i ++ r :: l.drop i) = rowOf rcs (l.take i) ++ rcs r ++ rowOf rcs (l.drop i) by rw [rowOf_app, List.append_assoc]; rfl]
    exact ho
  by_cases h : i = l.length
  · subst h
    exact (insert_end base vb _ tV v _ _ hn rfl (rcs_one r) w hb hown hv).mono fin
  · have hown' := hown
    rcases hown.2 with ⟨rfl, h0⟩ | ⟨g, cap, cur, rfl, hbg, hg, hnc, hcm, hcs, htake⟩
    · omega
    · by_cases hroom : l.length + 1 ≤ cap
      · exact (insert_shift base vb _ i g cap tV cur _ _ hn (by omega) rfl (rcs_one r) (rowOf_one rcs rcs_one l) w hbg hg hcm hcs htake hroom hv (fun e => hne (by rw [e]; rfl))).mono fin
      · obtain rfl : cap = l.length := by omega
        exact (insert_grow base vb _ i g tV cur _ _ hn (by omega) rfl (rcs_one r) (rowOf_one rcs rcs_one l) w hb hg hcs htake hv).mono fin
/-- The error of a route on its own. -/
def rtE (r : RT) : Int := if chkE r.1.1 r.1.2.1 r.1.2.2 = 0 then (if 1 ≤ r.2 ∧ r.2 ≤ 999 then 0 else 2) else chkE r.1.1 r.1.2.1 r.1.2.2
theorem checkRoute_calls (r : RT) (hx : r.1.2.1 < 2 ^ 128) (w : World) :
    Calls Try.prog 108 #[.agg #[.bool r.1.1, .int .u64 (aH r.1.2.1), .int .u64 (aL r.1.2.1), .int .i64 r.1.2.2, .int .i64 r.2]] w fun e w' => e = .returned (.int .i64 (rtE r)) ∧ Below w.heap.size w w' := by
  obtain ⟨⟨s, x, n⟩, h⟩ := r
  simp only at hx ⊢
  have C := Lib.hid (fun W => check_calls s x n hx W)
  have b0 := (Below.refl w.heap.size w).alloc (Nat.le_refl _) (.cells #[.bool s, .int .u64 (aH x), .int .u64 (aL x), .int .i64 n, .int .i64 h] 57)
  have h4 : (w.alloc (.cells #[.bool s, .int .u64 (aH x), .int .u64 (aL x), .int .i64 n, .int .i64 h] 57)).cell? ⟨w.heap.size, 4, none⟩ = some (.int .i64 h) := by simp
  have hl : w.heap.size < (w.alloc (.cells #[.bool s, .int .u64 (aH x), .int .u64 (aL x), .int .i64 n, .int .i64 h] 57)).heap.size := by simp
  by_cases hc : chkE s x n = 0
  · by_cases h1 : 1 ≤ h
    · by_cases h2 : h ≤ 999
      · rw [show rtE ((s, x, n), h) = 0 by simp [rtE, hc, h1, h2]]
        have d1 : ¬ h < 1 := by omega
        have d2 : ¬ h > 999 := by omega
        go_enter Try.func108, Try.ntmps108
        go_wp2_with fail
        refine (C.out _).mono ?_
        rw [hc]
        rintro e w1 ⟨rfl, hb1⟩
        have c4 := (hb1.cell (p := ⟨w.heap.size, 4, none⟩) hl).trans h4
        have b1 := thenBelow b0 hb1
        go_wp2
        go_ret
        exact ⟨rfl, b1⟩
      · rw [show rtE ((s, x, n), h) = 2 by simp [rtE, hc, h2]]
        have d1 : ¬ h < 1 := by omega
        have d2 : h > 999 := by omega
        go_enter Try.func108, Try.ntmps108
        go_wp2_with fail
        refine (C.out _).mono ?_
        rw [hc]
        rintro e w1 ⟨rfl, hb1⟩
        have c4 := (hb1.cell (p := ⟨w.heap.size, 4, none⟩) hl).trans h4
        have b1 := thenBelow b0 hb1
        go_wp2
        go_ret
        exact ⟨rfl, b1⟩
    · rw [show rtE ((s, x, n), h) = 2 by simp [rtE, hc, h1]]
      have d1 : h < 1 := by omega
      go_enter Try.func108, Try.ntmps108
      go_wp2_with fail
      refine (C.out _).mono ?_
      rw [hc]
      rintro e w1 ⟨rfl, hb1⟩
      have c4 := (hb1.cell (p := ⟨w.heap.size, 4, none⟩) hl).trans h4
      have b1 := thenBelow b0 hb1
      go_wp2
      go_ret
      exact ⟨rfl, b1⟩
  · rw [show rtE ((s, x, n), h) = chkE s x n by simp [rtE, hc]]
    have hz1 : (chkE s x n == 0) = false := by simpa using hc
    have hz2 : (chkE s x n != 0) = true := by simp [bne, hz1]
    go_enter Try.func108, Try.ntmps108
    go_wp2_with fail
    refine (C.out _).mono ?_
    rintro e w1 ⟨rfl, hb1⟩
    have b1 := thenBelow b0 hb1
    go_wp2
    go_ret
    exact ⟨rfl, b1⟩
end Go.Proofs.Ytnpaijmibkbhfaa

/-
  Contracts of pre.Check.
-/
import Derived.Test.YtgajepmnklbmpaaG5
import Derived.WalkSmall
namespace Go.Proofs.Ytgajepmnklbmpaa
open Go.RowKit
set_option linter.unusedVariables false
set_option linter.unusedSimpArgs false

/-- What Check answers. -/
def chkE (six : Bool) (x : Nat) (n : Int) : Int := if x < 2 ^ wideN six then (if 0 ≤ n ∧ n ≤ wideN six then (if lowN x (wideN six - n.toNat) = x then 0 else 5) else 2) else 4
theorem mayB_num (six : Bool) (x : Nat) (hx : x < 2 ^ 128) : mayB six (aH x) (aL x) = decide (x < 2 ^ wideN six) := by
  cases six
  · show (decide (aH x = 0) && decide (aL x < 4294967296)) = decide (x < 4294967296)
    unfold aH aL
    rw [Bool.eq_iff_iff]; simp; omega
  · simp [mayB]; exact hx

set_option maxHeartbeats 400000 in
theorem check_form (six : Bool) (x : Nat) (n : Int) (hx : x < 2 ^ 128) (hv : ¬ x < 2 ^ wideN six) (w : World) :
    Calls Try.prog 60 #[.agg #[.bool six, .int .u64 (aH x), .int .u64 (aL x), .int .i64 n]] w fun e w' => e = .returned (.int .i64 4) ∧ Below w.heap.size w w' := by
  have hm := Lib.hid ((mayB_num six x hx).trans (decide_eq_false hv))
  have b0 := aH_0 x; have b1 := aL_0 x
  go_enter Try.func60, Try.ntmps60
  go_wp2_with fail
  refine (may_calls six _ _ b0 b1 _).mono ?_
  rintro e w1 ⟨rfl, rfl⟩
  rw [hm.out]
  go_wp2
  go_ret
  exact ⟨rfl, by go_grown⟩

set_option maxHeartbeats 400000 in
theorem check_neg (six : Bool) (x : Nat) (n : Int) (hx : x < 2 ^ 128) (hv : x < 2 ^ wideN six) (hn : n < 0) (w : World) :
    Calls Try.prog 60 #[.agg #[.bool six, .int .u64 (aH x), .int .u64 (aL x), .int .i64 n]] w fun e w' => e = .returned (.int .i64 2) ∧ Below w.heap.size w w' := by
  have hm := Lib.hid ((mayB_num six x hx).trans (decide_eq_true hv))
  have b0 := aH_0 x; have b1 := aL_0 x
  go_enter Try.func60, Try.ntmps60
  go_wp2_with fail
  refine (may_calls six _ _ b0 b1 _).mono ?_
  rintro e w1 ⟨rfl, rfl⟩
  rw [hm.out]
  go_wp2_with fail
  go_quiet ((fail))
  go_wp2
  go_ret
  exact ⟨rfl, below_drewN (by go_grown) _⟩

set_option maxHeartbeats 400000 in
theorem check_big (six : Bool) (x : Nat) (n : Int) (hx : x < 2 ^ 128) (hv : x < 2 ^ wideN six) (hn : (wideN six : Int) < n) (w : World) :
    Calls Try.prog 60 #[.agg #[.bool six, .int .u64 (aH x), .int .u64 (aL x), .int .i64 n]] w fun e w' => e = .returned (.int .i64 2) ∧ Below w.heap.size w w' := by
  have hm := Lib.hid ((mayB_num six x hx).trans (decide_eq_true hv))
  have b0 := aH_0 x; have b1 := aL_0 x
  have h0 : ¬ n < 0 := by omega
  have hd : decide (n < 0) = false := by simpa using h0
  go_enter Try.func60, Try.ntmps60
  go_wp2_with fail
  refine (may_calls six _ _ b0 b1 _).mono ?_
  rintro e w1 ⟨rfl, rfl⟩
  rw [hm.out]
  go_wp2_with fail
  go_region_held3 (fun w' => w'.cell? ⟨w.heap.size, 0, none⟩ = some (.bool six) ∧ w'.cell? ⟨w.heap.size, 1, none⟩ = some (.int .u64 (aH x)) ∧ w'.cell? ⟨w.heap.size, 2, none⟩ = some (.int .u64 (aL x)) ∧ w'.cell? ⟨w.heap.size, 3, none⟩ = some (.int .i64 n)) (simp [go_sem, World.cell?_alloc_past])
    ((go_at_call 61; refine (pwidth_calls six _ _ _).mono ?_; rintro e w' ⟨rfl, rfl⟩))
  go_wp2
  go_ret
  exact ⟨rfl, by go_grown⟩

set_option maxHeartbeats 400000 in
theorem check_ok (six : Bool) (x n : Nat) (hx : x < 2 ^ 128) (hv : x < 2 ^ wideN six) (hn : n ≤ wideN six) (hl : lowN x (wideN six - n) = x) (w : World) :
    Calls Try.prog 60 #[.agg #[.bool six, .int .u64 (aH x), .int .u64 (aL x), .int .i64 n]] w fun e w' => e = .returned (.int .i64 0) ∧ Below w.heap.size w w' := by
  have hm := Lib.hid ((mayB_num six x hx).trans (decide_eq_true hv))
  have b0 := aH_0 x; have b1 := aL_0 x
  have HL := Lib.hid hl
  clear hl
  go_enter Try.func60, Try.ntmps60
  go_wp2_with fail
  refine (may_calls six _ _ b0 b1 _).mono ?_
  rintro e w1 ⟨rfl, rfl⟩
  rw [hm.out]
  go_wp2_with fail
  go_region_held3 (fun w' => w'.cell? ⟨w.heap.size, 0, none⟩ = some (.bool six) ∧ w'.cell? ⟨w.heap.size, 1, none⟩ = some (.int .u64 (aH x)) ∧ w'.cell? ⟨w.heap.size, 2, none⟩ = some (.int .u64 (aL x)) ∧ w'.cell? ⟨w.heap.size, 3, none⟩ = some (.int .i64 n)) (simp [go_sem, World.cell?_alloc_past])
    ((go_at_call 61; refine (pwidth_calls six _ _ _).mono ?_; rintro e w' ⟨rfl, rfl⟩))
  go_wp2_with fail
  go_region_held3 (fun w' => w'.cell? ⟨w.heap.size, 0, none⟩ = some (.bool six) ∧ w'.cell? ⟨w.heap.size, 1, none⟩ = some (.int .u64 (aH x)) ∧ w'.cell? ⟨w.heap.size, 2, none⟩ = some (.int .u64 (aL x)) ∧ w'.cell? ⟨w.heap.size, 3, none⟩ = some (.int .i64 n)) (simp [go_sem, World.cell?_alloc_past])
    ((go_at_call 59; refine (start_calls six x n hx hn _).mono ?_; rintro e w' ⟨rfl, rfl⟩; rw [HL.out]))
  go_wp2
  go_ret
  exact ⟨rfl, by go_grown⟩

set_option maxHeartbeats 400000 in
theorem check_bits (six : Bool) (x n : Nat) (hx : x < 2 ^ 128) (hv : x < 2 ^ wideN six) (hn : n ≤ wideN six) (hl : lowN x (wideN six - n) ≠ x) (w : World) :
    Calls Try.prog 60 #[.agg #[.bool six, .int .u64 (aH x), .int .u64 (aL x), .int .i64 n]] w fun e w' => e = .returned (.int .i64 5) ∧ Below w.heap.size w w' := by
  have hm := Lib.hid ((mayB_num six x hx).trans (decide_eq_true hv))
  have b0 := aH_0 x; have b1 := aL_0 x
  obtain ⟨y, hy⟩ : ∃ y, lowN x (wideN six - n) = y := ⟨_, rfl⟩
  rw [hy] at hl
  have HL := Lib.hid hy
  clear hy
  by_cases hh : ¬ aH y = aH x
  · have hq : (aH y == aH x) = false := by simpa using hh
    go_enter Try.func60, Try.ntmps60
    go_wp2_with fail
    refine (may_calls six _ _ b0 b1 _).mono ?_
    rintro e w1 ⟨rfl, rfl⟩
    rw [hm.out]
    go_wp2_with fail
    go_region_held3 (fun w' => w'.cell? ⟨w.heap.size, 0, none⟩ = some (.bool six) ∧ w'.cell? ⟨w.heap.size, 1, none⟩ = some (.int .u64 (aH x)) ∧ w'.cell? ⟨w.heap.size, 2, none⟩ = some (.int .u64 (aL x)) ∧ w'.cell? ⟨w.heap.size, 3, none⟩ = some (.int .i64 n)) (simp [go_sem, World.cell?_alloc_past])
      ((go_at_call 61; refine (pwidth_calls six _ _ _).mono ?_; rintro e w' ⟨rfl, rfl⟩))
    go_wp2_with fail
    go_region_held3 (fun w' => w'.cell? ⟨w.heap.size, 0, none⟩ = some (.bool six) ∧ w'.cell? ⟨w.heap.size, 1, none⟩ = some (.int .u64 (aH x)) ∧ w'.cell? ⟨w.heap.size, 2, none⟩ = some (.int .u64 (aL x)) ∧ w'.cell? ⟨w.heap.size, 3, none⟩ = some (.int .i64 n)) (simp [go_sem, World.cell?_alloc_past])
      ((go_at_call 59; refine (start_calls six x n hx hn _).mono ?_; rintro e w' ⟨rfl, rfl⟩; rw [HL.out]))
    go_wp2
    go_ret
    exact ⟨rfl, by go_grown⟩
  · have hq : (aL y == aL x) = false := by
      have : aL y ≠ aL x := fun h => hl (a_inj (Decidable.of_not_not hh) h)
      simpa using this
    have HH := Lib.hid (Decidable.of_not_not hh)
    clear hh
    go_enter Try.func60, Try.ntmps60
    go_wp2_with fail
    refine (may_calls six _ _ b0 b1 _).mono ?_
    rintro e w1 ⟨rfl, rfl⟩
    rw [hm.out]
    go_wp2_with fail
    go_region_held3 (fun w' => w'.cell? ⟨w.heap.size, 0, none⟩ = some (.bool six) ∧ w'.cell? ⟨w.heap.size, 1, none⟩ = some (.int .u64 (aH x)) ∧ w'.cell? ⟨w.heap.size, 2, none⟩ = some (.int .u64 (aL x)) ∧ w'.cell? ⟨w.heap.size, 3, none⟩ = some (.int .i64 n)) (simp [go_sem, World.cell?_alloc_past])
      ((go_at_call 61; refine (pwidth_calls six _ _ _).mono ?_; rintro e w' ⟨rfl, rfl⟩))
    go_wp2_with fail
    go_region_held3 (fun w' => w'.cell? ⟨w.heap.size, 0, none⟩ = some (.bool six) ∧ w'.cell? ⟨w.heap.size, 1, none⟩ = some (.int .u64 (aH x)) ∧ w'.cell? ⟨w.heap.size, 2, none⟩ = some (.int .u64 (aL x)) ∧ w'.cell? ⟨w.heap.size, 3, none⟩ = some (.int .i64 n)) (simp [go_sem, World.cell?_alloc_past])
      ((go_at_call 59; refine (start_calls six x n hx hn _).mono ?_; rintro e w' ⟨rfl, rfl⟩; rw [HL.out, HH.out]))
    go_wp2
    go_ret
    exact ⟨rfl, by go_grown⟩
end Go.Proofs.Ytgajepmnklbmpaa

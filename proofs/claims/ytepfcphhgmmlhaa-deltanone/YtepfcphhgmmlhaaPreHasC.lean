/-
  Contracts of pre.Has.
-/
import Derived.Test.YtepfcphhgmmlhaaPreC
namespace Go.Proofs.Ytepfcphhgmmlhaa
open Go.RowKit
set_option linter.unusedVariables false
set_option linter.unusedSimpArgs false

set_option maxHeartbeats 400000 in
theorem has_err (six s2 : Bool) (x : Nat) (n : Int) (y1 y2 e0 : Int) (hx : x < 2 ^ 128) (hc : chkE six x n = e0) (he : (e0 == 0) = false) (w : World) :
    Calls Try.prog 115 #[.agg #[.bool six, .int .u64 (aH x), .int .u64 (aL x), .int .i64 n], .agg #[.bool s2, .int .u64 y1, .int .u64 y2]] w fun e w' => e = .returned (.tuple #[.bool false, .int .i64 e0]) ∧ Below w.heap.size w w' := by
  have C := Lib.hid hc
  clear hc
  go_enter Try.func115, Try.ntmps115
  go_wp2_with fail
  refine (check_calls six x n hx _).mono ?_
  rw [C.out]
  rintro e w1 ⟨rfl, hb1⟩
  have b1 := thenBelow (((Below.refl _ w).alloc (Nat.le_refl _) _).alloc (by simp) _) hb1
  clear hb1
  go_wp2
  go_ret2
  exact ⟨rfl, b1⟩

set_option maxHeartbeats 400000 in
theorem has_form (six s2 : Bool) (x y : Nat) (n : Int) (hx : x < 2 ^ 128) (hy : y < 2 ^ 128) (hc : chkE six x n = 0) (hv : ¬ y < 2 ^ wideN s2) (w : World) :
    Calls Try.prog 115 #[.agg #[.bool six, .int .u64 (aH x), .int .u64 (aL x), .int .i64 n], .agg #[.bool s2, .int .u64 (aH y), .int .u64 (aL y)]] w fun e w' => e = .returned (.tuple #[.bool false, .int .i64 4]) ∧ Below w.heap.size w w' := by
  have C := Lib.hid hc
  clear hc
  go_enter Try.func115, Try.ntmps115
  go_wp2_with fail
  refine (check_calls six x n hx _).mono ?_
  rw [C.out]
  rintro e w1 ⟨rfl, hb1⟩
  have b1 := thenBelow (((Below.refl _ w).alloc (Nat.le_refl _) _).alloc (by simp) _) hb1
  obtain ⟨a0, a1, a2, al⟩ := (AddrAt.new (w.alloc (.cells #[.bool six, .int .u64 (aH x), .int .u64 (aL x), .int .i64 n] 51)) s2 (aH y) (aL y) 49).keep hb1
  simp at a0 a1 a2 al
  clear hb1
  go_wp2_with fail
  refine (may_num s2 y hy false (decide_eq_false hv) _).mono ?_
  rintro e w2 ⟨rfl, rfl⟩
  go_wp2
  go_ret2
  exact ⟨rfl, b1.alloc b1.size _⟩

set_option maxHeartbeats 400000 in
theorem has_fam (six s2 : Bool) (x y : Nat) (n : Int) (hs : (!six == s2) = true) (hx : x < 2 ^ 128) (hy : y < 2 ^ 128) (hc : chkE six x n = 0) (hv : y < 2 ^ wideN s2) (w : World) :
    Calls Try.prog 115 #[.agg #[.bool six, .int .u64 (aH x), .int .u64 (aL x), .int .i64 n], .agg #[.bool s2, .int .u64 (aH y), .int .u64 (aL y)]] w fun e w' => e = .returned (.tuple #[.bool false, .int .i64 6]) ∧ Below w.heap.size w w' := by
  have C := Lib.hid hc
  clear hc
  go_enter Try.func115, Try.ntmps115
  go_wp2_with fail
  refine (check_calls six x n hx _).mono ?_
  rw [C.out]
  rintro e w1 ⟨rfl, hb1⟩
  have b1 := thenBelow (((Below.refl _ w).alloc (Nat.le_refl _) _).alloc (by simp) _) hb1
  obtain ⟨a0, a1, a2, al⟩ := (AddrAt.new (w.alloc (.cells #[.bool six, .int .u64 (aH x), .int .u64 (aL x), .int .i64 n] 51)) s2 (aH y) (aL y) 49).keep hb1
  obtain ⟨p0, p1, p2, p3, pl⟩ := ((PreAt.new w six (aH x) (aL x) n 51).alloc _).keep hb1
  simp at a0 a1 a2 al
  clear hb1
  go_wp2_with fail
  refine (may_num s2 y hy true (decide_eq_true hv) _).mono ?_
  rintro e w2 ⟨rfl, rfl⟩
  go_wp2
  go_ret2
  exact ⟨rfl, b1.alloc b1.size _⟩

set_option maxHeartbeats 1000000 in
theorem has_ok (six : Bool) (x y n z : Nat) (b : Bool) (hx : x < 2 ^ 128) (hy : y < 2 ^ 128) (hc : chkE six x n = 0) (hn : n ≤ wideN six) (hv : y < 2 ^ wideN six) (hz : lowN y (wideN six - n) = z) (hb : decide (z = x) = b) (w : World) :
    Calls Try.prog 115 #[.agg #[.bool six, .int .u64 (aH x), .int .u64 (aL x), .int .i64 n], .agg #[.bool six, .int .u64 (aH y), .int .u64 (aL y)]] w fun e w' => e = .returned (.tuple #[.bool b, .int .i64 0]) ∧ Below w.heap.size w w' := by
  have C := Lib.hid hc
  have Z := Lib.hid hz
  have B := Lib.hid hb
  clear hc hz hb
  go_enter Try.func115, Try.ntmps115
  go_wp2_with fail
  refine (check_calls six x n hx _).mono ?_
  rw [C.out]
  rintro e w1 ⟨rfl, hb1⟩
  have b1 := thenBelow (((Below.refl _ w).alloc (Nat.le_refl _) _).alloc (by simp) _) hb1
  obtain ⟨a0, a1, a2, al⟩ := (AddrAt.new (w.alloc (.cells #[.bool six, .int .u64 (aH x), .int .u64 (aL x), .int .i64 n] 51)) six (aH y) (aL y) 49).keep hb1
  obtain ⟨p0, p1, p2, p3, pl⟩ := ((PreAt.new w six (aH x) (aL x) n 51).alloc _).keep hb1
  simp at a0 a1 a2 al
  clear hb1
  go_wp2_with fail
  refine (may_num six y hy true (decide_eq_true hv) _).mono ?_
  rintro e w2 ⟨rfl, rfl⟩
  go_wp2_with fail
  rcases eq3 z x with h | h | ⟨h1, h⟩
  · go_region_held3 (fun w' => (w'.cell? ⟨w.heap.size + 1, 0, none⟩ = some (.bool six) ∧ w'.cell? ⟨w.heap.size + 1, 1, none⟩ = some (.int .u64 (aH y)) ∧ w'.cell? ⟨w.heap.size + 1, 2, none⟩ = some (.int .u64 (aL y))) ∧ w'.cell? ⟨w.heap.size, 0, none⟩ = some (.bool six) ∧ w'.cell? ⟨w.heap.size, 1, none⟩ = some (.int .u64 (aH x)) ∧ w'.cell? ⟨w.heap.size, 2, none⟩ = some (.int .u64 (aL x)) ∧ w'.cell? ⟨w.heap.size, 3, none⟩ = some (.int .i64 n)) (simp (disch := first | assumption | (simp; omega)) [go_sem, World.cell?_alloc_past, a0, a1, a2, p0, p1, p2, p3])
      ((go_at_call 117; refine (start_calls six y n hy hn _).mono ?_; rintro e w' ⟨rfl, rfl⟩; rw [Z.out, h]))
    go_wp2
    go_ret2
    exact ⟨by rw [← B.out, h]; simp, by go_grown⟩
  · go_region_held3 (fun w' => (w'.cell? ⟨w.heap.size + 1, 0, none⟩ = some (.bool six) ∧ w'.cell? ⟨w.heap.size + 1, 1, none⟩ = some (.int .u64 (aH y)) ∧ w'.cell? ⟨w.heap.size + 1, 2, none⟩ = some (.int .u64 (aL y))) ∧ w'.cell? ⟨w.heap.size, 0, none⟩ = some (.bool six) ∧ w'.cell? ⟨w.heap.size, 1, none⟩ = some (.int .u64 (aH x)) ∧ w'.cell? ⟨w.heap.size, 2, none⟩ = some (.int .u64 (aL x)) ∧ w'.cell? ⟨w.heap.size, 3, none⟩ = some (.int .i64 n)) (simp (disch := first | assumption | (simp; omega)) [go_sem, World.cell?_alloc_past, a0, a1, a2, p0, p1, p2, p3])
      ((go_at_call 117; refine (start_calls six y n hy hn _).mono ?_; rintro e w' ⟨rfl, rfl⟩; rw [Z.out]))
    go_wp2
    go_ret2
    exact ⟨by rw [← B.out, decide_eq_false (ne_of_h h)]; rfl, by go_grown⟩
  · have H1 := Lib.hid h1
    clear h1
    go_region_held3 (fun w' => (w'.cell? ⟨w.heap.size + 1, 0, none⟩ = some (.bool six) ∧ w'.cell? ⟨w.heap.size + 1, 1, none⟩ = some (.int .u64 (aH y)) ∧ w'.cell? ⟨w.heap.size + 1, 2, none⟩ = some (.int .u64 (aL y))) ∧ w'.cell? ⟨w.heap.size, 0, none⟩ = some (.bool six) ∧ w'.cell? ⟨w.heap.size, 1, none⟩ = some (.int .u64 (aH x)) ∧ w'.cell? ⟨w.heap.size, 2, none⟩ = some (.int .u64 (aL x)) ∧ w'.cell? ⟨w.heap.size, 3, none⟩ = some (.int .i64 n)) (simp (disch := first | assumption | (simp; omega)) [go_sem, World.cell?_alloc_past, a0, a1, a2, p0, p1, p2, p3])
      ((go_at_call 117; refine (start_calls six y n hy hn _).mono ?_; rintro e w' ⟨rfl, rfl⟩; rw [Z.out, H1.out]))
    go_wp2
    go_ret2
    exact ⟨by rw [← B.out, decide_eq_false (ne_of_l h)]; rfl, by go_grown⟩

end Go.Proofs.Ytepfcphhgmmlhaa

/-
  Laid together: Picked, PreA2, PreCut, Shapes, ShapesPre, AddrOf.
-/
import Derived.Test.YtmjlmfbceccjdaaG3
import Derived.Test.YtmjlmfbceccjdaaProg
import Derived.Test.YtmjlmfbceccjdaaG1
/-
  Contract of whipcordkeep.Picked.
-/
namespace Go.Proofs.Ytmjlmfbceccjdaa
open Go.RowKit
set_option linter.unusedVariables false
set_option linter.unusedSimpArgs false

set_option maxHeartbeats 400000 in
theorem picked_calls (a n : Int) (n0 : 0 < n) (n1 : n ≤ 1152921504606846976) (a0 : -9223372036854775808 ≤ a) (a1 : a ≤ 9223372036854775807) (w : World) :
    Calls Try.prog 11 #[.int .i64 a, .int .i64 n] w fun e w' => e = .returned (.int .i64 (a % n)) ∧ w = w' := by
  have e1 : a.tmod n = if a.tmod n < 0 then a % n - n else a % n := by
    have h1 := Int.tmod_eq_emod_of_nonneg (a := a) (b := n)
    rw [Int.tmod_eq_emod]
    have hz := Int.emod_nonneg a (show n ≠ 0 by omega)
    have hl := Int.emod_lt_of_pos a n0
    have hd : a % n = 0 ↔ n ∣ a := Int.dvd_iff_emod_eq_zero.symm
    split
    · rw [if_neg (by omega)]; omega
    · rw [if_pos (by omega)]; omega
  have hz := Int.emod_nonneg a (show n ≠ 0 by omega)
  have hl := Int.emod_lt_of_pos a n0
  obtain ⟨t, ht⟩ : ∃ t, a.tmod n = t := ⟨_, rfl⟩
  rw [ht] at e1
  have hne : (n == 0) = false := by simp; omega
  have hn1 : (n == -1) = false := by simp; omega
  by_cases hneg : t < 0
  · rw [if_pos hneg] at e1
    have e2 : Hid (t + n = a % n) := by show t + n = a % n; omega
    obtain ⟨z, hze⟩ : ∃ z, a % n = z := ⟨_, rfl⟩
    rw [hze] at hz hl e1 e2
    rw [hze]
    have hb0 : -1152921504606846976 ≤ t := by omega
    clear e1 hze
    go_enter Try.func11, Try.ntmps11
    go_wp2
    go_ret
    exact ⟨by show Ending.returned (.int .i64 (t + n)) = _; rw [e2.out], rfl⟩
  · rw [if_neg hneg] at e1
    have e2 : Hid (t = a % n) := e1
    obtain ⟨z, hze⟩ : ∃ z, a % n = z := ⟨_, rfl⟩
    rw [hze] at hz hl e1 e2
    rw [hze]
    have hb0 : 0 ≤ t := by omega
    have hb1 : t < 1152921504606846976 := by omega
    clear e1 hze
    go_enter Try.func11, Try.ntmps11
    go_wp2
    go_ret
    exact ⟨by show Ending.returned (.int .i64 t) = _; rw [e2.out], rfl⟩

end Go.Proofs.Ytmjlmfbceccjdaa
/-
  Package pre: the last address of a prefix.
-/
namespace Go.Proofs.Ytmjlmfbceccjdaa
open Go.RowKit
set_option linter.unusedVariables false
set_option linter.unusedSimpArgs false
set_option maxHeartbeats 400000 in
theorem pend_calls (six : Bool) (x n : Nat) (hx : x < 2 ^ 128) (hn : n ≤ wideN six) (w : World) :
    Calls Try.prog 51 #[.agg #[.bool six, .int .u64 (aH x), .int .u64 (aL x)], .int .i64 n] w fun e w' => e = .returned (.agg #[.bool six, .int .u64 (aH (topN x (wideN six - n))), .int .u64 (aL (topN x (wideN six - n)))]) ∧ ((w.alloc (.cells #[.bool six, .int .u64 (aH (topN x (wideN six - n))), .int .u64 (aL (topN x (wideN six - n)))] 30)).alloc (.cells #[.bool six, .int .u64 (aH (topN x (wideN six - n))), .int .u64 (aL (topN x (wideN six - n)))] 30)).alloc (.cells #[.bool six, .int .u64 (aH x), .int .u64 (aL x)] 30) = w' := by
  have hw := wideN_le six
  obtain ⟨m, hm⟩ : ∃ m, wideN six - n = m := ⟨_, rfl⟩
  have e : ((wideN six : Nat) : Int) - (n : Int) = (m : Int) := by omega
  have m1 : m ≤ 128 := by omega
  rw [hm]
  have E := Lib.hid e
  clear e hm
  go_enter Try.func51, Try.ntmps51
  go_wp2_with fail
  refine (pwidth_calls six _ _ _).mono ?_
  rintro e w1 ⟨rfl, rfl⟩
  go_wp2_with fail
  rw [E.out]
  refine (ones_calls m m1 _).mono ?_
  rintro e w1 ⟨rfl, rfl⟩
  go_wp2
  go_returns
  rw [aH_or x m hx m1, aL_or]
  exact ⟨rfl, rfl⟩
end Go.Proofs.Ytmjlmfbceccjdaa
/-
  Contract of pre.cut.
-/
namespace Go.Proofs.Ytmjlmfbceccjdaa
open Go.RowKit
set_option linter.unusedVariables false
set_option linter.unusedSimpArgs false

set_option maxHeartbeats 400000 in
theorem pcut_calls (six : Bool) (x n : Nat) (hx : x < 2 ^ 128) (hn : n ≤ wideN six) (w : World) :
    Calls Try.prog 50 #[.agg #[.bool six, .int .u64 (aH x), .int .u64 (aL x)], .int .i64 n] w fun e w' => e = .returned (.agg #[.bool six, .int .u64 (aH (lowN x (wideN six - n))), .int .u64 (aL (lowN x (wideN six - n))), .int .i64 n]) ∧ Below w.heap.size w w' := by
  go_enter Try.func50, Try.ntmps50
  go_wp2_with fail
  refine (start_calls six x n hx hn _).mono ?_
  rintro e w1 ⟨rfl, rfl⟩
  go_wp2
  go_returns
  exact ⟨rfl, by go_grown⟩

end Go.Proofs.Ytmjlmfbceccjdaa
/-
  How an address reads as an argument, and as it reads again.
-/
namespace Go.Proofs.Ytmjlmfbceccjdaa
open Go.ChangeShapes Go.WideShapes Go.ChangeAt Go.RowKit Go.Joins
set_option linter.unusedSimpArgs false
set_option maxRecDepth 100000
section
variable {H : Type} {enc : TypeId × Value → H} {w : World} {base : Nat} {spare : Nat → Bool} {held : Bool}

theorem cellsAddr : Try.prog.cellsOf 30 = 3 := by kernel_rfl

/-- An address by value. -/
theorem openAddr {r : Reach} {b0 : Nat} {v : Value} {d : DataW H} {p : List MemPlace} (hv : Value.okWide Try.prog w r b0 30 v) (h : DataW.Trod enc Try.prog w base spare held 30 v d p) :
    ∃ (six : Bool) (hi lo : Int), v = .agg #[.bool six, .int .u64 hi, .int .u64 lo] ∧ d = .agg [.lit (.bool six), .lit (.int .u64 hi), .lit (.int .u64 lo)] ∧ p = [] ∧ (Lit.int .u64 hi).wf = true ∧ (Lit.int .u64 lo).wf = true := by
  obtain ⟨c0, c1, c2, y0, y1, y2, m, rfl, rfl, rfl, hy0, hy1, hy2⟩ := open_agg3 Try.underlying30 (by kernel_rfl) cellsAddr hv h
  obtain ⟨six, e0, rfl⟩ := DataW.trod_bool Try.underlying4 hy0
  obtain ⟨hi, e1, rfl, w1⟩ := DataW.trod_int Try.underlying28 hy1
  obtain ⟨lo, e2, rfl, w2⟩ := DataW.trod_int Try.underlying28 hy2
  simp at e0 e1 e2
  subst e0 e1 e2
  exact ⟨six, hi, lo, rfl, rfl, rfl, w1, w2⟩

theorem shutAddr {six : Bool} {hi lo : Int} (w1 : (Lit.int .u64 hi).wf = true) (w2 : (Lit.int .u64 lo).wf = true) :
    DataW.Trod enc Try.prog w base spare held 30 (.agg #[.bool six, .int .u64 hi, .int .u64 lo]) (.agg [.lit (.bool six), .lit (.int .u64 hi), .lit (.int .u64 lo)]) [] :=
  shut_agg3 (y0 := (.lit (.bool six), [])) (y1 := (.lit (.int .u64 hi), [])) (y2 := (.lit (.int .u64 lo), [])) Try.underlying30 (by kernel_rfl) cellsAddr ⟨1, by simp [DataW.trod, Try.underlying4]⟩ ⟨1, by simp [DataW.trod, Try.underlying28, w1]⟩ ⟨1, by simp [DataW.trod, Try.underlying28, w2]⟩
end
end Go.Proofs.Ytmjlmfbceccjdaa
/-
  How a prefix reads as an argument, and as it reads again.
-/
namespace Go.Proofs.Ytmjlmfbceccjdaa
open Go.ChangeShapes Go.WideShapes Go.ChangeAt Go.RowKit Go.Joins
set_option linter.unusedSimpArgs false
set_option maxRecDepth 100000
section
variable {H : Type} {enc : TypeId × Value → H} {w : World} {base : Nat} {spare : Nat → Bool} {held : Bool}

theorem cellsPrefix : Try.prog.cellsOf 32 = 4 := by kernel_rfl
theorem cellsInt : Try.prog.cellsOf 3 = 1 := by kernel_rfl
theorem cellsBool : Try.prog.cellsOf 4 = 1 := by kernel_rfl
theorem cellsU64 : Try.prog.cellsOf 28 = 1 := by kernel_rfl

/-- A prefix by value. -/
theorem openPrefix {r : Reach} {b0 : Nat} {v : Value} {d : DataW H} {p : List MemPlace} (hv : Value.okWide Try.prog w r b0 32 v) (h : DataW.Trod enc Try.prog w base spare held 32 v d p) :
    ∃ (six : Bool) (hi lo n : Int), v = .agg #[.bool six, .int .u64 hi, .int .u64 lo, .int .i64 n] ∧ d = .agg [.agg [.lit (.bool six), .lit (.int .u64 hi), .lit (.int .u64 lo)], .lit (.int .i64 n)] ∧ p = [] ∧ (Lit.int .u64 hi).wf = true ∧ (Lit.int .u64 lo).wf = true ∧ (Lit.int .i64 n).wf = true := by
  obtain ⟨cs, rfl, hsz⟩ := okWide_struct Try.underlying32 hv
  obtain ⟨c0, c1, c2, c3, rfl⟩ := array4 (hsz.trans cellsPrefix)
  obtain ⟨fuel, hf⟩ := h
  obtain ⟨y0, y1, n, hx, _, h0, h1⟩ := trod_struct2 Try.underlying32 hf
  simp only [Prod.mk.injEq] at hx
  obtain ⟨rfl, rfl⟩ := hx
  simp only [cellsAddr, cellsInt, Value.cells, List.drop_zero, List.take, List.drop] at h0 h1
  obtain ⟨z0, z1, z2, m, rfl, _, k0, k1, k2⟩ := Go.Deep.trod_struct3 Try.underlying30 h0
  simp only [cellsBool, cellsU64, List.drop_zero, List.take, List.drop] at k0 k1 k2
  obtain ⟨six, e0, rfl⟩ := DataW.trod_bool Try.underlying4 k0
  obtain ⟨hi, e1, rfl, w1⟩ := DataW.trod_int Try.underlying28 k1
  obtain ⟨lo, e2, rfl, w2⟩ := DataW.trod_int Try.underlying28 k2
  obtain ⟨l, e3, rfl, w3⟩ := DataW.trod_int Try.underlying3 h1
  simp at e0 e1 e2 e3
  subst e0 e1 e2 e3
  exact ⟨six, hi, lo, l, rfl, rfl, rfl, w1, w2, w3⟩

theorem shutPrefix {six : Bool} {hi lo n : Int} (w1 : (Lit.int .u64 hi).wf = true) (w2 : (Lit.int .u64 lo).wf = true) (w3 : (Lit.int .i64 n).wf = true) :
    DataW.Trod enc Try.prog w base spare held 32 (.agg #[.bool six, .int .u64 hi, .int .u64 lo, .int .i64 n]) (.agg [.agg [.lit (.bool six), .lit (.int .u64 hi), .lit (.int .u64 lo)], .lit (.int .i64 n)]) [] := by
  obtain ⟨k, hk⟩ := shutAddr (enc := enc) (w := w) (base := base) (spare := spare) (held := held) (six := six) w1 w2
  exact ⟨k + 1 + 1, trod_struct2_mk (y0 := (.agg [.lit (.bool six), .lit (.int .u64 hi), .lit (.int .u64 lo)], [])) (y1 := (.lit (.int .i64 n), [])) Try.underlying32 (by rw [cellsPrefix]; rfl)
    (by simp only [cellsAddr, Value.cells, List.drop_zero, List.take, List.drop]; exact DataW.trod_le (Nat.le_succ k) hk)
    (by simp only [cellsInt, Value.cells, List.take, List.drop]; exact trod_int_mk k Try.underlying3 w3)⟩
end
/-- Two words are those of a number. -/
theorem asNum (hi lo : Int) (h0 : 0 ≤ hi) (h1 : hi ≤ 18446744073709551615) (l0 : 0 ≤ lo) (l1 : lo ≤ 18446744073709551615) : ∃ x : Nat, x < 2 ^ 128 ∧ hi = aH x ∧ lo = aL x :=
  ⟨numA hi lo, numA_lt hi lo h0 h1 l0 l1, (aH_numA hi lo h0 l0 l1).symm, (aL_numA hi lo h0 l0 l1).symm⟩
end Go.Proofs.Ytmjlmfbceccjdaa
/-
  Contract of whipcordkeep.AddrOf.
-/
namespace Go.Proofs.Ytmjlmfbceccjdaa
open Go.RowKit
set_option linter.unusedVariables false
set_option linter.unusedSimpArgs false

/-- What AddrOf makes of raw numbers. -/
def ofH (six : Bool) (hi : Int) : Int := if six then hi else 0
def ofL (six : Bool) (lo : Int) : Int := if six then lo else lo % 4294967296
theorem of_ok (six : Bool) (hi lo : Int) (h0 : 0 ≤ hi) (h1 : hi ≤ 18446744073709551615) (l0 : 0 ≤ lo) (l1 : lo ≤ 18446744073709551615) :
    0 ≤ ofH six hi ∧ ofH six hi ≤ 18446744073709551615 ∧ 0 ≤ ofL six lo ∧ ofL six lo ≤ 18446744073709551615 ∧ mayB six (ofH six hi) (ofL six lo) = true := by
  cases six
  · simp [ofH, ofL, mayB]; omega
  · simp [ofH, ofL, mayB]; omega

end Go.Proofs.Ytmjlmfbceccjdaa

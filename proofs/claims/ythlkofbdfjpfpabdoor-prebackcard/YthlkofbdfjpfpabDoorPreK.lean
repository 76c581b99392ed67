/-
  Contracts of whipcordkeep's helpers on prefixes: Wide, PreOf, preSure; AddrOf and addr.Next by the number.
-/
import Derived.Test.YthlkofbdfjpfpabDoorPreC
import Derived.Test.YthlkofbdfjpfpabDoorNextYes
import Derived.Test.YthlkofbdfjpfpabDoorPicked
import Derived.Test.YthlkofbdfjpfpabDoorAddrOf
namespace Go.Proofs.YthlkofbdfjpfpabDoor
open Go.RowKit
set_option linter.unusedVariables false
set_option linter.unusedSimpArgs false

set_option maxHeartbeats 400000 in
theorem wide_calls (six : Bool) (w : World) :
    Calls Tryd.prog 32 #[.bool six] w fun e w' => e = .returned (.int .i64 (wideN six : Nat)) ∧ w = w' := by
  cases six
  · go_enter Tryd.func32, Tryd.ntmps32
    go_wp2
    go_ret
    exact ⟨rfl, rfl⟩
  · go_enter Tryd.func32, Tryd.ntmps32
    go_wp2
    go_ret
    exact ⟨rfl, rfl⟩

theorem wide_four (w : World) : Calls Tryd.prog 32 #[.bool false] w fun e w' => e = .returned (.int .i64 32) ∧ w = w' := wide_calls false w
theorem wide_six (w : World) : Calls Tryd.prog 32 #[.bool true] w fun e w' => e = .returned (.int .i64 128) ∧ w = w' := wide_calls true w

/-- The number of the address that AddrOf makes. -/
def numR (six : Bool) (hi lo : Int) : Nat := numA (ofH six hi) (ofL six lo)
theorem numR_lt (six : Bool) (hi lo : Int) (h0 : 0 ≤ hi) (h1 : hi ≤ 18446744073709551615) (l0 : 0 ≤ lo) (l1 : lo ≤ 18446744073709551615) : numR six hi lo < 2 ^ wideN six := by
  unfold numR numA
  cases six
  · simp [ofH, ofL, wideN]; omega
  · simp [ofH, ofL, wideN]; omega
theorem addrOfNum_calls (six : Bool) (hi lo : Int) (h0 : 0 ≤ hi) (h1 : hi ≤ 18446744073709551615) (l0 : 0 ≤ lo) (l1 : lo ≤ 18446744073709551615) (x : Nat) (hx : numR six hi lo = x) (w : World) :
    Calls Tryd.prog 30 #[.agg #[.bool six, .int .u64 hi, .int .u64 lo]] w fun e w' => e = .returned (.agg #[.bool six, .int .u64 (aH x), .int .u64 (aL x)]) ∧ Below w.heap.size w w' := by
  obtain ⟨a, b, c, d, _⟩ := of_ok six hi lo h0 h1 l0 l1
  rw [← hx, show aH (numR six hi lo) = ofH six hi from aH_numA _ _ a c d, show aL (numR six hi lo) = ofL six lo from aL_numA _ _ a c d]
  exact addrOfRaw_calls six hi lo h0 l0 l1 w

/-- The length that PreOf picks. -/
def lenR (six : Bool) (n : Int) : Nat := (n % ((wideN six : Nat) + 1 : Int)).toNat
theorem lenR_le (six : Bool) (n : Int) : lenR six n ≤ wideN six := by
  unfold lenR
  have := Int.emod_lt_of_pos n (show (0 : Int) < (wideN six : Nat) + 1 by omega)
  omega
theorem lenR_eq (six : Bool) (n : Int) : n % ((wideN six : Nat) + 1 : Int) = ((lenR six n : Nat) : Int) := by
  unfold lenR
  have := Int.emod_nonneg n (show ((wideN six : Nat) + 1 : Int) ≠ 0 by omega)
  omega

theorem shlr (a j : Nat) (ha : a < 18446744073709551616) : IntKind.u64.wrap ((a : Int) / 2 ^ j * 2 ^ j) = ((lowN a j : Nat) : Int) := by
  have e : (a : Int) / 2 ^ j * 2 ^ j = ((lowN a j : Nat) : Int) := by unfold lowN; simp
  rw [e, wrap_nat64 _ (Nat.lt_of_le_of_lt (lowN_le a j) ha)]
theorem lowN_zero (a : Nat) : lowN a 0 = a := by unfold lowN; omega
theorem lowN_all (a : Nat) (ha : a < 18446744073709551616) : lowN a 64 = 0 := by unfold lowN; omega
theorem aL_shlr (x j : Nat) (hj : j ≤ 64) : IntKind.u64.wrap (aL x / 2 ^ j * 2 ^ j) = aL (lowN x j) := by
  rw [aL_low, Nat.min_eq_left hj]; exact shlr _ _ (by omega)
theorem aH_same (x j : Nat) (hj : j ≤ 64) : aH x = aH (lowN x j) := by
  rw [aH_low, show j - 64 = 0 from by omega, lowN_zero]; rfl
theorem aH_shlr (x j : Nat) (hx : x < 2 ^ 128) (hj : 64 ≤ j) : IntKind.u64.wrap (aH x / 2 ^ (j - 64) * 2 ^ (j - 64)) = aH (lowN x j) := by
  rw [aH_low]; exact shlr _ _ (by omega)
theorem aL_none (x j : Nat) (hj : 64 ≤ j) : 0 = aL (lowN x j) := by
  rw [aL_low, Nat.min_eq_right hj, lowN_all _ (by omega)]; rfl

set_option maxHeartbeats 1000000 in
theorem preOf_four (hi lo n : Int) (h0 : 0 ≤ hi) (h1 : hi ≤ 18446744073709551615) (l0 : 0 ≤ lo) (l1 : lo ≤ 18446744073709551615) (n0 : -9223372036854775808 ≤ n) (n1 : n ≤ 9223372036854775807) (x k : Nat) (hx : numR false hi lo = x) (hk : lenR false n = k) (w : World) :
    Calls Tryd.prog 13 #[.agg #[.bool false, .int .u64 hi, .int .u64 lo], .int .i64 n] w fun e w' => e = .returned (.agg #[.bool false, .int .u64 (aH (lowN x (32 - k))), .int .u64 (aL (lowN x (32 - k))), .int .i64 k]) ∧ Below w.heap.size w w' := by
  have hxl := numR_lt false hi lo h0 h1 l0 l1
  have hkl := lenR_le false n
  have ek := lenR_eq false n
  rw [hx] at hxl
  rw [hk] at hkl ek
  simp [wideN] at hkl ek hxl
  have EK := Lib.hid ek
  have HX := Lib.hid hx
  clear ek hk hx
  go_enter Tryd.func13, Tryd.ntmps13
  go_wp2_with fail
  refine (addrOfNum_calls false hi lo h0 h1 l0 l1 x HX.out _).mono ?_
  rintro e w1 ⟨rfl, hb1⟩
  have b1 := thenBelow (((Below.refl _ w).alloc (Nat.le_refl _) _).alloc (by simp) _) hb1
  have T := (PreV.new (w.alloc (.cells #[.bool false, .int .u64 hi, .int .u64 lo] 36)) false 0 0 0 30).keep hb1
  simp only [World.size_alloc] at T
  have HT := Lib.hid T
  clear hb1
  go_wp2_with fail
  refine (wide_four _).mono ?_
  rintro e w2 ⟨rfl, rfl⟩
  go_wp2_with fail
  refine (picked_calls n 33 (by omega) (by omega) n0 n1 _).mono ?_
  rw [EK.out]
  rintro e w2 ⟨rfl, rfl⟩
  obtain ⟨⟨t0, t1, t2, t3, tl⟩, tf⟩ := T
  have g0 := tf 0; have g1 := tf 1; have g2 := tf 2; have g3 := tf 3
  clear tf
  go_wp2
  rw [aL_shlr x (32 - k) (by omega), aH_same x (32 - k) (by omega)]
  have T2 := (HT.out.store false (aH (lowN x (32 - k))) (aL (lowN x (32 - k))) k).alloc (.cells #[.bool false, .int .u64 (aH (lowN x (32 - k))), .int .u64 (aL (lowN x (32 - k)))] 24)
  have B2 := ((((b1.setCell (p := ⟨w.heap.size + 1, 0, none⟩) (by simp) (.bool false)).setCell (p := ⟨w.heap.size + 1, 1, none⟩) (by simp) (.int .u64 (aH (lowN x (32 - k))))).setCell (p := ⟨w.heap.size + 1, 2, none⟩) (by simp) (.int .u64 (aL (lowN x (32 - k))))).setCell (p := ⟨w.heap.size + 1, 3, none⟩) (by simp) (.int .i64 k)).alloc (by have := b1.size; simp; omega) (.cells #[.bool false, .int .u64 (aH (lowN x (32 - k))), .int .u64 (aL (lowN x (32 - k)))] 24)
  revert T2 B2
  generalize World.alloc _ _ = W7
  intro T2 B2
  obtain ⟨⟨k0, k1, k2, k3, _⟩, _⟩ := T2
  exact bodyPost_ret (v := .agg #[.bool false, .int .u64 (aH (lowN x (32 - k))), .int .u64 (aL (lowN x (32 - k))), .int .i64 k]) (by simp [results, Tryd.results13, go_sem, k0, k1, k2, k3]) rfl ⟨rfl, B2⟩

set_option maxHeartbeats 1000000 in
theorem preOf_six_hi (hi lo n : Int) (h0 : 0 ≤ hi) (h1 : hi ≤ 18446744073709551615) (l0 : 0 ≤ lo) (l1 : lo ≤ 18446744073709551615) (n0 : -9223372036854775808 ≤ n) (n1 : n ≤ 9223372036854775807) (x k : Nat) (hx : numR true hi lo = x) (hk : lenR true n = k) (hs : k ≤ 64) (w : World) :
    Calls Tryd.prog 13 #[.agg #[.bool true, .int .u64 hi, .int .u64 lo], .int .i64 n] w fun e w' => e = .returned (.agg #[.bool true, .int .u64 (aH (lowN x (128 - k))), .int .u64 (aL (lowN x (128 - k))), .int .i64 k]) ∧ Below w.heap.size w w' := by
  have hxl := numR_lt true hi lo h0 h1 l0 l1
  have hkl := lenR_le true n
  have ek := lenR_eq true n
  rw [hx] at hxl
  rw [hk] at hkl ek
  simp [wideN] at hkl ek hxl
  have EK := Lib.hid ek
  have HX := Lib.hid hx
  clear ek hk hx
  go_enter Tryd.func13, Tryd.ntmps13
  go_wp2_with fail
  refine (addrOfNum_calls true hi lo h0 h1 l0 l1 x HX.out _).mono ?_
  rintro e w1 ⟨rfl, hb1⟩
  have b1 := thenBelow (((Below.refl _ w).alloc (Nat.le_refl _) _).alloc (by simp) _) hb1
  have T := (PreV.new (w.alloc (.cells #[.bool true, .int .u64 hi, .int .u64 lo] 36)) false 0 0 0 30).keep hb1
  simp only [World.size_alloc] at T
  have HT := Lib.hid T
  clear hb1
  go_wp2_with fail
  refine (wide_six _).mono ?_
  rintro e w2 ⟨rfl, rfl⟩
  go_wp2_with fail
  refine (picked_calls n 129 (by omega) (by omega) n0 n1 _).mono ?_
  rw [EK.out]
  rintro e w2 ⟨rfl, rfl⟩
  obtain ⟨⟨t0, t1, t2, t3, tl⟩, tf⟩ := T
  have g0 := tf 0; have g1 := tf 1; have g2 := tf 2; have g3 := tf 3
  clear tf
  go_wp2
  rw [show 64 - k = 128 - k - 64 from by omega, aH_shlr x (128 - k) hxl (by omega), show Value.int IntKind.u64 0 = Value.int IntKind.u64 (aL (lowN x (128 - k))) from by rw [← aL_none x (128 - k) (by omega)]]
  have T2 := (HT.out.store true (aH (lowN x (128 - k))) (aL (lowN x (128 - k))) k).alloc (.cells #[.bool true, .int .u64 (aH (lowN x (128 - k))), .int .u64 (aL (lowN x (128 - k)))] 24)
  have B2 := ((((b1.setCell (p := ⟨w.heap.size + 1, 0, none⟩) (by simp) (.bool true)).setCell (p := ⟨w.heap.size + 1, 1, none⟩) (by simp) (.int .u64 (aH (lowN x (128 - k))))).setCell (p := ⟨w.heap.size + 1, 2, none⟩) (by simp) (.int .u64 (aL (lowN x (128 - k))))).setCell (p := ⟨w.heap.size + 1, 3, none⟩) (by simp) (.int .i64 k)).alloc (by have := b1.size; simp; omega) (.cells #[.bool true, .int .u64 (aH (lowN x (128 - k))), .int .u64 (aL (lowN x (128 - k)))] 24)
  revert T2 B2
  generalize World.alloc _ _ = W7
  intro T2 B2
  obtain ⟨⟨k0, k1, k2, k3, _⟩, _⟩ := T2
  exact bodyPost_ret (v := .agg #[.bool true, .int .u64 (aH (lowN x (128 - k))), .int .u64 (aL (lowN x (128 - k))), .int .i64 k]) (by simp [results, Tryd.results13, go_sem, k0, k1, k2, k3]) rfl ⟨rfl, B2⟩

set_option maxHeartbeats 1000000 in
theorem preOf_six_lo (hi lo n : Int) (h0 : 0 ≤ hi) (h1 : hi ≤ 18446744073709551615) (l0 : 0 ≤ lo) (l1 : lo ≤ 18446744073709551615) (n0 : -9223372036854775808 ≤ n) (n1 : n ≤ 9223372036854775807) (x k : Nat) (hx : numR true hi lo = x) (hk : lenR true n = k) (hs : ¬ k ≤ 64) (w : World) :
    Calls Tryd.prog 13 #[.agg #[.bool true, .int .u64 hi, .int .u64 lo], .int .i64 n] w fun e w' => e = .returned (.agg #[.bool true, .int .u64 (aH (lowN x (128 - k))), .int .u64 (aL (lowN x (128 - k))), .int .i64 k]) ∧ Below w.heap.size w w' := by
  have hxl := numR_lt true hi lo h0 h1 l0 l1
  have hkl := lenR_le true n
  have ek := lenR_eq true n
  rw [hx] at hxl
  rw [hk] at hkl ek
  simp [wideN] at hkl ek hxl
  have EK := Lib.hid ek
  have HX := Lib.hid hx
  clear ek hk hx
  go_enter Tryd.func13, Tryd.ntmps13
  go_wp2_with fail
  refine (addrOfNum_calls true hi lo h0 h1 l0 l1 x HX.out _).mono ?_
  rintro e w1 ⟨rfl, hb1⟩
  have b1 := thenBelow (((Below.refl _ w).alloc (Nat.le_refl _) _).alloc (by simp) _) hb1
  have T := (PreV.new (w.alloc (.cells #[.bool true, .int .u64 hi, .int .u64 lo] 36)) false 0 0 0 30).keep hb1
  simp only [World.size_alloc] at T
  have HT := Lib.hid T
  clear hb1
  go_wp2_with fail
  refine (wide_six _).mono ?_
  rintro e w2 ⟨rfl, rfl⟩
  go_wp2_with fail
  refine (picked_calls n 129 (by omega) (by omega) n0 n1 _).mono ?_
  rw [EK.out]
  rintro e w2 ⟨rfl, rfl⟩
  obtain ⟨⟨t0, t1, t2, t3, tl⟩, tf⟩ := T
  have g0 := tf 0; have g1 := tf 1; have g2 := tf 2; have g3 := tf 3
  clear tf
  go_wp2
  rw [aL_shlr x (128 - k) (by omega), aH_same x (128 - k) (by omega)]
  have T2 := (HT.out.store true (aH (lowN x (128 - k))) (aL (lowN x (128 - k))) k).alloc (.cells #[.bool true, .int .u64 (aH (lowN x (128 - k))), .int .u64 (aL (lowN x (128 - k)))] 24)
  have B2 := ((((b1.setCell (p := ⟨w.heap.size + 1, 0, none⟩) (by simp) (.bool true)).setCell (p := ⟨w.heap.size + 1, 1, none⟩) (by simp) (.int .u64 (aH (lowN x (128 - k))))).setCell (p := ⟨w.heap.size + 1, 2, none⟩) (by simp) (.int .u64 (aL (lowN x (128 - k))))).setCell (p := ⟨w.heap.size + 1, 3, none⟩) (by simp) (.int .i64 k)).alloc (by have := b1.size; simp; omega) (.cells #[.bool true, .int .u64 (aH (lowN x (128 - k))), .int .u64 (aL (lowN x (128 - k)))] 24)
  revert T2 B2
  generalize World.alloc _ _ = W7
  intro T2 B2
  obtain ⟨⟨k0, k1, k2, k3, _⟩, _⟩ := T2
  exact bodyPost_ret (v := .agg #[.bool true, .int .u64 (aH (lowN x (128 - k))), .int .u64 (aL (lowN x (128 - k))), .int .i64 k]) (by simp [results, Tryd.results13, go_sem, k0, k1, k2, k3]) rfl ⟨rfl, B2⟩

end Go.Proofs.YthlkofbdfjpfpabDoor
